/-
  Proved: what Alloc, Free and Live answer where a class is filled and let go by turns (for HeapFills).
-/
import Derived.Test.YtffcfohbnbldhaaDoorAlg
import Derived.Test.YtffcfohbnbldhaaDoorClasses
namespace Go.Proofs.YtffcfohbnbldhaaDoor
open Go.RowKit

def iL (a : Int) : List Value := [.int .i64 a]
theorem iL_len (a : Int) : (iL a).length = 1 := rfl
theorem iL_one (a : Int) : ∀ u ∈ iL a, u.oneCell' = true := by intro u hu; simp [iL] at hu; subst hu; rfl
theorem info3 : (Tryd.prog.info? 3).map (fun i => (i.zero, i.size, i.bytes)) = some (some (.int .i64 0), 1, 8) := by kernel_rfl

/-- A row of one's own lies on, where other blocks turn. -/
theorem OwnB.kp {α : Type} {e : TypeId} {size : Nat} {enc : α → List Value} {base : Nat} {l : List α} {v : Value} {w w' : World} {F : Nat → Prop} (h : OwnB e size enc base l v w) (k : Kp F w w') (hF : ∀ b, F b → b < base) : OwnB e size enc base l v w' := by
  refine ⟨Nat.le_trans h.1 k.1.size, h.2.1, ?_⟩
  rcases h.2.2 with h4 | ⟨g, cap, cur, e1, e2, e3, e4⟩
  · exact Or.inl h4
  · exact Or.inr ⟨g, cap, cur, e1, e2, (k.2 g (Array.getElem?_eq_some_iff.1 e3).1 (fun hf => absurd (hF g hf) (by omega))).trans e3, e4⟩

theorem HIn.base {w w' : World} {hb : Nat} {g : Nat → Nat} {us : Nat → Nat → Bool} {n : Nat} (h : HIn w hb g us) (k : Below n w w') (hn : g 3 < n) : HIn w' hb g us :=
  h.keep fun b hb' => k.block b (by
    rcases hb' with rfl | ⟨c, hc, rfl⟩
    · have := h.after 3 (by omega); omega
    · by_cases e : c = 3
      · subst e; exact hn
      · have := h.inc c 3 (by omega) (by omega); omega)

theorem HIn.gs {w : World} {hb : Nat} {g : Nat → Nat} {us : Nat → Nat → Bool} (h : HIn w hb g us) : ∀ b, Gs g b → hb < b ∧ b ≤ g 3 := by
  rintro b ⟨c, hc, rfl⟩
  refine ⟨h.after c hc, ?_⟩
  by_cases e : c = 3
  · subst e; exact Nat.le_refl _
  · exact Nat.le_of_lt (h.inc c 3 (by omega) (by omega))

/-- The first i blocks of a class are in use. -/
def fillU (c i : Nat) : Nat → Nat → Bool := fun d k => decide (d = c ∧ k < i)

theorem fill_0 (c : Nat) : fillU c 0 = fun _ _ => false := by funext d k; simp [fillU]
theorem fill_upd (c i : Nat) : upd (fillU c i) c i true = fillU c (i + 1) := by
  funext d k
  simp only [upd, fillU]
  split
  · rename_i h; simp [h.1, h.2]
  · rename_i h
    congr 1
    apply propext
    constructor
    · intro h2; exact ⟨h2.1, by omega⟩
    · intro h2; exact ⟨h2.1, by rcases Nat.lt_or_ge k i with h3 | h3; exact h3; exact absurd ⟨h2.1, by omega⟩ h⟩

theorem fill_fr (c i : Nat) (h : i < bl c) : fr (fillU c i) c = some i :=
  ff_first _ _ _ _ (fun j _ hj => by simp [fillU, hj]) (by simp [fillU]) (Nat.zero_le _) (by omega)

theorem fill_full (c : Nat) : fr (fillU c (bl c)) c = none := ff_none _ _ _ (fun j _ hj => by simp [fillU]; omega)

theorem OwnB.appendL {base : Nat} {l : List Int} (w : World) {ops : Array Oper} {rest : List Oper} {o : Oper} {a : Act} {Q : Exit → Act → World → Prop} (hgd : o.guard = none) (s x : Operand)
    (ho : o.op = .call { callee := .builtin .append, args := #[s, x], argTypes := #[30, 30] })
    (v : Value) (hs : a.eval s = v) (y : Int) (hown : OwnB 3 1 iL base l v w) (ad : Addr) (C : Nat) (hx : a.eval x = .slice (some ad) 1 C)
    (hc : ∀ j u, (iL y)[j]? = some u → w.cell? (ad.add j) = some u) (hl : l.length ≤ 1000)
    (h : ∀ v' w', OwnB 3 1 iL base (l ++ [y]) v' w' → Below base w w' → wpList Tryd.prog ops Q rest (a.put o.dst v') w') : wpList Tryd.prog ops Q (o :: rest) a w :=
  wpList_plain hgd fun _ hK => OwnB.append 30 3 iL _ 1 8 info3 Tryd.underlying30 rfl (by decide) (by decide) iL_len iL_one w s x ho v hs base l [y] hown ad C hx (by simpa using hc) (by simp; omega) fun v' w' h1 h2 => hK _ _ (h v' w' h1 h2)

/-- The shape of a row. -/
theorem OwnB.shape {base : Nat} {l : List Int} {v : Value} {w : World} (h : OwnB 3 1 iL base l v w) : ∃ A C, v = .slice A l.length C ∧ (0 < l.length → ∃ B, A = some ⟨B, 0, none⟩ ∧ base ≤ B ∧ B < w.heap.size ∧ l.length ≤ C) := by
  rcases h.2.2 with ⟨rfl, e0⟩ | ⟨g, cap, cur, rfl, hg, hb, hc, _⟩
  · exact ⟨none, 0, by rw [e0], fun h => by omega⟩
  · exact ⟨_, cap, rfl, fun _ => ⟨g, rfl, hg, (Array.getElem?_eq_some_iff.1 hb).1, hc⟩⟩

theorem OwnB.icell {base : Nat} {l : List Int} {B n C : Nat} {w : World} (h : OwnB 3 1 iL base l (.slice (some ⟨B, 0, none⟩) n C) w) (i : Nat) (hi : i < l.length) : w.cell? ⟨B, i, none⟩ = some (.int .i64 (l[i]'hi)) := by
  have h1 := OwnB.rows iL_len h
  obtain ⟨b, o, e, h2⟩ := h1 i hi
  injection e with e
  injection e with e1 e2
  subst e1 e2
  have := h2.2 0 (.int .i64 (l[i]'hi)) rfl
  simpa using this

/-- The addresses of a class's first blocks. -/
def ads (c k : Nat) : List Int := (List.range k).map (adr c)
theorem ads_len (c k : Nat) : (ads c k).length = k := by simp [ads]
theorem ads_get (c k i : Nat) (h : i < (ads c k).length) : (ads c k)[i] = adr c i := by simp [ads]
theorem ads_step (c k : Nat) : ads c k ++ [adr c k] = ads c (k + 1) := by simp [ads, List.range_succ]

theorem OwnB.acell {base c k : Nat} {B n C : Nat} {w : World} (h : OwnB 3 1 iL base (ads c k) (.slice (some ⟨B, 0, none⟩) n C) w) (i : Nat) (hi : i < k) : w.cell? ⟨B, i, none⟩ = some (.int .i64 (adr c i)) := by
  have := h.icell i (by rw [ads_len]; exact hi)
  rwa [ads_get] at this

/-- The next block by turns. -/
def nx (t i n : Nat) : Nat := if t + i < n then t + i else t + i - n

def freeU (c n t i : Nat) : Nat → Nat → Bool := fun d k => decide (d = c ∧ k < n ∧ ∀ j, j < i → k ≠ nx t j n)

theorem free_0 (c n t : Nat) : freeU c n t 0 = fillU c n := by
  funext d k
  simp [freeU, fillU]

theorem nx_lt (t i n : Nat) (ht : t < n) (hi : i < n) : nx t i n < n := by unfold nx; split <;> omega

theorem nx_ne (t i j n : Nat) (hi : i < n) (hj : j < i) : nx t i n ≠ nx t j n := by unfold nx; split <;> split <;> omega

theorem free_in (c n t i : Nat) (ht : t < n) (hi : i < n) : freeU c n t i c (nx t i n) = true := by
  simp only [freeU, decide_eq_true_eq]
  exact ⟨trivial, nx_lt t i n ht hi, fun j hj => nx_ne t i j n hi hj⟩

theorem free_upd (c n t i : Nat) : upd (freeU c n t i) c (nx t i n) false = freeU c n t (i + 1) := by
  funext d k
  simp only [upd, freeU]
  split
  · rename_i h
    obtain ⟨rfl, rfl⟩ := h
    symm
    rw [decide_eq_false_iff_not]
    rintro ⟨_, _, h⟩
    exact h i (by omega) rfl
  · rename_i h
    congr 1
    apply propext
    constructor
    · rintro ⟨h1, h2, h3⟩
      refine ⟨h1, h2, fun j hj => ?_⟩
      by_cases e : j = i
      · subst e; exact fun e2 => h ⟨h1, e2⟩
      · exact h3 j (by omega)
    · rintro ⟨h1, h2, h3⟩
      exact ⟨h1, h2, fun j hj => h3 j (by omega)⟩

theorem free_cnt (c n t i : Nat) (ht : t < n) (hi : i ≤ n) : cnt (freeU c n t i) c n = n - i := by
  induction i with
  | zero =>
    rw [free_0]
    exact cnt_all (fun k hk => by simp [fillU, hk])
  | succ i ih =>
    have h1 := cnt_free (us := freeU c n t i) (c := c) (n := n) (nx t i n) (nx_lt t i n ht (by omega)) (free_in c n t i ht (by omega))
    rw [free_upd, ih (by omega)] at h1
    omega

theorem free_all (c n t : Nat) (ht : t < n) : freeU c n t n c 0 = false := by
  simp only [freeU, decide_eq_false_iff_not]
  rintro ⟨_, h2, h3⟩
  by_cases e : t = 0
  · subst e; exact h3 0 h2 (by simp [nx, h2])
  · exact h3 (n - t) (by omega) (by unfold nx; split <;> omega)

theorem free_fr (c t : Nat) (ht : t < bl c) : fr (freeU c (bl c) t (bl c)) c = some 0 :=
  ff_first _ _ _ _ (fun j _ hj => by omega) (by rw [free_all c (bl c) t ht]; rfl) (Nat.le_refl _) (by omega)

theorem fill_cnt (c : Nat) : cnt (fillU c (bl c)) c (bl c) = bl c := cnt_all (fun k hk => by simp [fillU, hk])

/-- Alloc of a class of which the first i blocks are in use. -/
theorem alloc_fill {w : World} {hb : Nat} {g : Nat → Nat} (m c i : Nat) (hm : clsOf (m : Int) = some c) (hi : i < bl c) (h : HIn w hb g (fillU c i)) (ht : Tab w) : Calls Tryd.prog 10 #[.pointer (some ⟨hb, 0, none⟩), .int .i64 (m : Int)] w fun e w' =>
    e = .returned (.tuple #[.int .i64 (adr c i), .int .i64 0]) ∧ HIn w' hb g (fillU c (i + 1)) ∧ Kp (Gs g) w w' := by
  have := alloc_c h (m : Int) ht
  have e : alA (fillU c i) (clsOf (m : Int)) = (adr c i, 0, fillU c (i + 1)) := by
    rw [hm]
    show alR _ c (fr _ c) = _
    rw [fill_fr c i hi]
    show (adr c i, (0 : Int), upd (fillU c i) c i true) = _
    rw [fill_upd]
  rw [e] at this
  exact this

theorem alloc_full {w : World} {hb : Nat} {g : Nat → Nat} (m c : Nat) (hm : clsOf (m : Int) = some c) (h : HIn w hb g (fillU c (bl c))) (ht : Tab w) : Calls Tryd.prog 10 #[.pointer (some ⟨hb, 0, none⟩), .int .i64 (m : Int)] w fun e w' =>
    e = .returned (.tuple #[.int .i64 0, .int .i64 12]) ∧ HIn w' hb g (fillU c (bl c)) ∧ Kp (Gs g) w w' := by
  have := alloc_c h (m : Int) ht
  have e : alA (fillU c (bl c)) (clsOf (m : Int)) = (0, 12, fillU c (bl c)) := by
    rw [hm]
    show alR _ c (fr _ c) = _
    rw [fill_full c]
    rfl
  rw [e] at this
  exact this

theorem alloc_last {w : World} {hb : Nat} {g : Nat → Nat} (m c t : Nat) (hm : clsOf (m : Int) = some c) (ht' : t < bl c) (h : HIn w hb g (freeU c (bl c) t (bl c))) (ht : Tab w) : Calls Tryd.prog 10 #[.pointer (some ⟨hb, 0, none⟩), .int .i64 (m : Int)] w fun e w' =>
    e = .returned (.tuple #[.int .i64 (adr c 0), .int .i64 0]) ∧ Kp (Gs g) w w' := by
  have := alloc_c h (m : Int) ht
  have e : alA (freeU c (bl c) t (bl c)) (clsOf (m : Int)) = (adr c 0, 0, upd (freeU c (bl c) t (bl c)) c 0 true) := by
    rw [hm]
    show alR _ c (fr _ c) = _
    rw [free_fr c t ht']
    rfl
  rw [e] at this
  exact this.mono fun _ _ h => ⟨h.1, h.2.2⟩

theorem free_turn {w : World} {hb : Nat} {g : Nat → Nat} (c t i : Nat) (hc : c < 4) (ht' : t < bl c) (hi : i < bl c) (h : HIn w hb g (freeU c (bl c) t i)) (ht : Tab w) : Calls Tryd.prog 12 #[.pointer (some ⟨hb, 0, none⟩), .int .i64 (adr c (nx t i (bl c)))] w fun e w' =>
    e = .returned (.int .i64 0) ∧ HIn w' hb g (freeU c (bl c) t (i + 1)) ∧ Kp (Gs g) w w' := by
  have := free_c h (adr c (nx t i (bl c))) ht
  have a1 := at_adr0 c (nx t i (bl c)) hc (nx_lt _ _ _ ht' hi)
  have e : frA (freeU c (bl c) t i) (adr c (nx t i (bl c))) (atOf (adr c (nx t i (bl c)))) = (0, freeU c (bl c) t (i + 1)) := by
    rw [a1.1]
    show frR _ c (kOf _ c) (rOf _ c) = _
    rw [a1.2.1, a1.2.2, frR, if_pos ⟨rfl, free_in c (bl c) t i ht' hi⟩, free_upd]
  rw [e] at this
  exact this

theorem live_fill {w : World} {hb : Nat} {g : Nat → Nat} (c : Nat) (hc : c < 4) (h : HIn w hb g (fillU c (bl c))) : Calls Tryd.prog 16 #[.pointer (some ⟨hb, 0, none⟩), .int .i64 (c : Int)] w fun e w' =>
    e = .returned (.int .i64 (bl c : Int)) ∧ Below w.heap.size w w' := by
  have := live_c h (c : Int)
  have e : liA (fillU c (bl c)) (c : Int) = bl c := by
    unfold liA
    rw [if_neg (by omega)]
    exact fill_cnt c
  rw [e] at this
  exact this

theorem live_turn {w : World} {hb : Nat} {g : Nat → Nat} (c t i : Nat) (hc : c < 4) (ht' : t < bl c) (hi : i ≤ bl c) (h : HIn w hb g (freeU c (bl c) t i)) : Calls Tryd.prog 16 #[.pointer (some ⟨hb, 0, none⟩), .int .i64 (c : Int)] w fun e w' =>
    e = .returned (.int .i64 ((bl c - i : Nat) : Int)) ∧ Below w.heap.size w w' := by
  have := live_c h (c : Int)
  have e : liA (freeU c (bl c) t i) (c : Int) = bl c - i := by
    unfold liA
    rw [if_neg (by omega)]
    exact free_cnt c (bl c) t i ht' hi
  rw [e] at this
  exact this
end Go.Proofs.YtffcfohbnbldhaaDoor
