/-
  Proved: lex.Lex answers as the definition 'lex' says, for every text, in every world in which the table lex.signs holds what the program's text lays there; nothing that was in memory turns.
-/
import Derived.Test.YtbfelkcaakpdiaaDoorTok
import Derived.Test.YtbfelkcaakpdiaaDoorRulesOf
namespace Go.Proofs.YtbfelkcaakpdiaaDoor
open Go.RowKit

theorem tok_len {l : Bs} {kd m : Nat} (h : tok l = (0, kd, m)) : 0 < m ∧ m ≤ l.length := by
  unfold tok at h
  split at h
  · cases h
  · rename_i c r
    have hr := run_le isOn (c :: r)
    have hs := signLen_le (c :: r)
    split at h
    · rename_i hl
      have hp : 0 < run isOn (c :: r) := by simp [run, isOn_let hl]
      split at h
      · cases h
      · cases h; exact ⟨hp, hr⟩
    · split at h
      · rename_i hd
        have hp : 0 < run isOn (c :: r) := by simp [run, isOn_dig hd]
        split at h
        · cases h
        · cases h; exact ⟨hp, hr⟩
      · split at h
        · rename_i hp
          cases h; exact ⟨hp, hs.2⟩
        · cases h

theorem skip_le : ∀ (b : Bool) (l : Bs), skip b l ≤ l.length
  | _, [] => by simp [skip]
  | true, c :: r => by
    have h1 := skip_le true r
    have h2 := skip_le false r
    simp only [skip, List.length_cons]
    split <;> omega
  | false, c :: r => by
    have h1 := skip_le true r
    have h2 := skip_le false r
    simp only [skip, List.length_cons]
    split
    · omega
    · split <;> omega

theorem lexF_stop (f : Nat) (l : Bs) (a : Nat) (acc : List Tok) (h : l.length = 0) : lexF (f + 1) l a acc = (acc, 0, 0) := by
  simp only [lexF, if_pos h]

theorem lexF_err (f : Nat) (l : Bs) (a : Nat) (acc : List Tok) (h : ¬ l.length = 0) {x kd m : Nat} (ht : tok l = (x, kd, m)) (hx : x ≠ 0) : lexF (f + 1) l a acc = ([], a, x) := by
  simp only [lexF, if_neg h, ht, hx, ne_eq, not_false_eq_true, if_true]

theorem lexF_ok (f : Nat) (l : Bs) (a : Nat) (acc : List Tok) (h : ¬ l.length = 0) {kd m : Nat} (ht : tok l = (0, kd, m)) :
    lexF (f + 1) l a acc = lexF f (l.drop (m + skip false (l.drop m))) (a + (m + skip false (l.drop m))) (acc ++ [(kd, l.take m, a)]) := by
  simp only [lexF, if_neg h, ht, ne_eq, not_true_eq_false, if_false]

theorem cellsT_app : ∀ (a b : List Tok), cellsT (a ++ b) = cellsT a ++ cellsT b
  | [], _ => rfl
  | t :: r, b => by simp only [List.cons_append, cellsT, cellsT_app r b]

theorem Tryd.info37 : (Tryd.prog.info? 37).map (fun i => (i.zero, i.size, i.bytes)) = some (some (.agg #[.int .i64 0, .string ⟨#[]⟩, .int .i64 0]), 3, 32) := by kernel_rfl

theorem grown_below {w w' : World} (h : Below w.heap.size w w') : w.grownBy w' none := ⟨h.os, h.tape, h.output, h.size, fun k hk _ => h.block k hk⟩

theorem owns_below {w w' : World} {base : Nat} {e : TypeId} {size : Nat} {v : Value} {n : Nat} {xs : List Value} (h : w.ownsRow base e size v n xs) (k : Below w.heap.size w w') : w'.ownsRow base e size v n xs :=
  h.kept (grown_below k) (by cases v.ownBlock <;> simp)

theorem cell_three_new (w : World) (x y z : Value) (t : TypeId) : ∀ j u, [x, y, z][j]? = some u → (w.alloc (.cells #[x, y, z] t)).cell? ((⟨w.heap.size, 0, none⟩ : Addr).add j) = some u := by
  intro j u hj
  match j, hj with
  | 0, hj => simp at hj; subst hj; simp [Addr.add]
  | 1, hj => simp at hj; subst hj; simp [Addr.add]
  | 2, hj => simp at hj; subst hj; simp [Addr.add]

theorem pastBlanks_v (b cap n : Nat) (z : Int) (l : Bs) (w : World) (hb : BA w b 0 l) (hz : z = (n : Int)) (hn : n ≤ l.length) (hcap : l.length ≤ cap) (hm : l.length < 4611686018427387904) :
    Calls Tryd.prog 17 #[.slice (some ⟨b, 0, none⟩) l.length cap, .int .i64 z] w fun e w' => e = .returned (.int .i64 ((n + skip false (l.drop n) : Nat) : Int)) ∧ Below w.heap.size w w' := by
  subst hz
  exact pastBlanks_c b 0 cap n l w hb hn hcap hm

theorem tokenAt_ok {w : World} {B sb cap : Nat} {l : Bs} (h : Env w B sb cap l) (n kd m : Nat) (hn : n < l.length) (ht : tok (l.drop n) = (0, kd, m)) (s : Bs) (hs : (l.drop n).take m = s) :
    Calls Tryd.prog 18 #[.slice (some ⟨sb, 0, none⟩) l.length cap, .slice (some ⟨B + 3, 0, none⟩) 3 3, .int .i64 (n : Int)] w fun e w' =>
      e = .returned (.tuple #[.agg #[.int .i64 (kd : Int), .string (ofL s), .int .i64 (n : Int)], .int .i64 0]) ∧ Below w.heap.size w w' := by
  have := tokenAt_c h n hn
  rw [ht] at this
  refine this.mono ?_
  rintro e w' ⟨⟨kv, tv, av, rfl, hi⟩, hw⟩
  obtain ⟨rfl, rfl, rfl⟩ := hi rfl
  subst hs
  exact ⟨rfl, hw⟩

theorem tokenAt_err {w : World} {B sb cap : Nat} {l : Bs} (h : Env w B sb cap l) (n x kd m : Nat) (hn : n < l.length) (ht : tok (l.drop n) = (x, kd, m)) :
    Calls Tryd.prog 18 #[.slice (some ⟨sb, 0, none⟩) l.length cap, .slice (some ⟨B + 3, 0, none⟩) 3 3, .int .i64 (n : Int)] w fun e w' =>
      (∃ kv tv av, e = .returned (.tuple #[.agg #[.int .i64 kv, .string tv, .int .i64 av], .int .i64 (x : Int)])) ∧ Below w.heap.size w w' := by
  have := tokenAt_c h n hn
  rw [ht] at this
  refine this.mono ?_
  rintro e w' ⟨⟨kv, tv, av, rfl, hi⟩, hw⟩
  exact ⟨⟨kv, tv, av, rfl⟩, hw⟩

/-- What holds at the head of each round: BASE, w3: the heap and world at the loop's beginning. -/
structure Rel (l : Bs) (A : Ans) (w3 wr : World) (k : Nat) (v : Value) (acc : List Tok) (f : Nat) : Prop where
  le : k ≤ l.length
  ans : lexF f (l.drop k) k acc = A
  fuel : l.length < k + f
  few : acc.length ≤ k
  owns : wr.ownsRow w3.heap.size 37 3 v acc.length (cellsT acc)
  below : Below w3.heap.size w3 wr

theorem owns_mono {w : World} {base base' : Nat} {e : TypeId} {size : Nat} {v : Value} {n : Nat} {xs : List Value} (h : w.ownsRow base e size v n xs) (hb : base' ≤ base) : w.ownsRow base' e size v n xs := by
  obtain ⟨h1, h2⟩ := h
  refine ⟨h1, ?_⟩
  rcases h2 with h2 | ⟨g, cap, cur, e1, e2, e3, e4, e5, e6, e7⟩
  · exact .inl h2
  · exact .inr ⟨g, cap, cur, e1, Nat.le_trans hb e2, e3, e4, e5, e6, e7⟩

theorem Rel.step {l s : Bs} {A : Ans} {w3 wr w5 w6 : World} {k kd m f : Nat} {v v' : Value} {acc : List Tok} (R : Rel l A w3 wr k v acc f) (hk : k < l.length) (ht : tok (l.drop k) = (0, kd, m)) (hs : (l.drop k).take m = s)
    (h5 : w5.ownsRow w3.heap.size 37 3 v' (acc.length + 1) (cellsT acc ++ [.int .i64 (kd : Int), .string (ofL s), .int .i64 (k : Int)])) (hb5 : Below w3.heap.size w3 w5) (hb6 : Below w5.heap.size w5 w6) :
    Rel l A w3 w6 (k + m + skip false (l.drop (k + m))) v' (acc ++ [(kd, s, k)]) (f - 1) := by
  obtain ⟨g, rfl⟩ : ∃ g, f = g + 1 := ⟨f - 1, by have := R.fuel; omega⟩
  have hne : ¬ (l.drop k).length = 0 := by simp; omega
  have hl := tok_len ht
  simp at hl
  have hsk := skip_le false (l.drop (k + m))
  simp at hsk
  have e1 := R.ans
  rw [lexF_ok g _ _ _ hne ht, List.drop_drop, List.drop_drop, hs, ← Nat.add_assoc] at e1
  have hfu := R.fuel
  have hfew := R.few
  refine ⟨by omega, e1, by omega, by simp; omega, ?_, hb5.trans (hb6.mono hb5.size)⟩
  rw [cellsT_app, List.length_append]
  exact owns_below h5 hb6

theorem Rel.stop {l : Bs} {A : Ans} {w3 wr : World} {k f : Nat} {v : Value} {acc : List Tok} (R : Rel l A w3 wr k v acc f) (hk : ¬ k < l.length) : A = (acc, 0, 0) := by
  obtain ⟨g, rfl⟩ : ∃ g, f = g + 1 := ⟨f - 1, by have := R.fuel; have := R.le; omega⟩
  rw [← R.ans, lexF_stop _ _ _ _ (by simp; omega)]

theorem Rel.err {l : Bs} {A : Ans} {w3 wr : World} {k x kd m f : Nat} {v : Value} {acc : List Tok} (R : Rel l A w3 wr k v acc f) (hk : k < l.length) (ht : tok (l.drop k) = (x, kd, m)) (hx : x ≠ 0) : A = ([], k, x) := by
  obtain ⟨g, rfl⟩ : ∃ g, f = g + 1 := ⟨f - 1, by have := R.fuel; omega⟩
  rw [← R.ans, lexF_err _ _ _ _ (by simp; omega) ht hx]

theorem cell_three_two (w : World) (o : Obj) (x y z : Value) (t : TypeId) : ∀ j u, [x, y, z][j]? = some u → ((w.alloc o).alloc (.cells #[x, y, z] t)).cell? ((⟨w.heap.size + 1, 0, none⟩ : Addr).add j) = some u := by
  have := cell_three_new (w.alloc o) x y z t
  have e : (w.alloc o).heap.size = w.heap.size + 1 := by simp
  rw [e] at this
  exact this

theorem text_cell (w : World) (x y z : Value) (o : Obj) : ((w.alloc (.cells #[x, y, z] 37)).alloc o).cell? ⟨w.heap.size, 1, none⟩ = some y := by
  have h : ((w.alloc (.cells #[x, y, z] 37)).alloc o).heap[w.heap.size]? = some (.cells #[x, y, z] 37) := by
    show ((w.heap.push _).push _)[w.heap.size]? = _
    rw [Array.getElem?_push, if_neg (by simp), Array.getElem?_push, if_pos rfl]
  rw [cell_in h]
  rfl
end Go.Proofs.YtbfelkcaakpdiaaDoor
