/-
  Proved: a heap, a reference's heap and a list of addresses side by side in memory: what each call answers, and that the others lie on.
-/
import Derived.Test.YtffcfohbnbldhaaDoorRel
namespace Go.Proofs.YtffcfohbnbldhaaDoor
open Go.RowKit

theorem At.type {w : World} {b d : Nat} {cs ds : Array Value} {t u : TypeId} (h : At w b cs t) (k : At w d ds u) (hn : t ≠ u) : b ≠ d := by
  intro e
  subst e
  have := Option.some.inj (h.symm.trans k)
  injection this with _ e2 _
  exact hn e2

theorem OwnB.at {α : Type} {e : TypeId} {size : Nat} {enc : α → List Value} {base : Nat} {l : List α} {v : Value} {w : World} (h : OwnB e size enc base l v w) {b : Nat} (hb : v.ownBlock = some b) : base ≤ b ∧ ∃ cs, At w b cs e := by
  rcases h.2.2 with ⟨rfl, _⟩ | ⟨g, cap, cur, rfl, hg, ha, _⟩
  · cases hb
  · cases hb
    exact ⟨hg, cur, ha⟩

/-- A row lies on where other blocks turn. -/
theorem OwnB.but {α : Type} {e : TypeId} {size : Nat} {enc : α → List Value} {base : Nat} {l : List α} {v : Value} {w w' : World} {F : Nat → Prop} (h : OwnB e size enc base l v w) (k : Kp F w w') (hF : ∀ b, v.ownBlock = some b → ¬ F b) : OwnB e size enc base l v w' := by
  refine ⟨Nat.le_trans h.1 k.1.size, h.2.1, ?_⟩
  rcases h.2.2 with h4 | ⟨g, cap, cur, rfl, e2, e3, e4⟩
  · exact Or.inl h4
  · exact Or.inr ⟨g, cap, cur, rfl, e2, (k.2 g (Array.getElem?_eq_some_iff.1 e3).1 (hF g rfl)).trans e3, e4⟩

structure PM (w : World) (hb : Nat) (g : Nat → Nat) (rb base : Nat) (us : Nat → Nat → Bool) (bs : List (Nat × Nat)) (lv : Value) (told : List Int) (tv : Value) (wr : World) : Prop where
  h : HIn wr hb g us
  r : RIn wr rb base bs lv
  t : OwnB 3 1 iL base told tv wr
  b : Below w.heap.size w wr
  tab : Tab wr
  g3 : g 3 < base
  hw : w.heap.size ≤ hb
  rw : w.heap.size ≤ rb
  rlt : rb < base
  w0 : 0 < w.heap.size

section
variable {w : World} {hb : Nat} {g : Nat → Nat} {rb base : Nat} {us : Nat → Nat → Bool} {bs : List (Nat × Nat)} {lv : Value} {told : List Int} {tv : Value} {wr : World}

theorem PM.below (h : PM w hb g rb base us bs lv told tv wr) {w' : World} (k : Below wr.heap.size wr w') : PM w hb g rb base us bs lv told tv w' :=
  ⟨h.h.below k, h.r.below k, h.t.below k, below_next h.b k, h.tab.below k h.tab.lt, h.g3, h.hw, h.rw, h.rlt, h.w0⟩

theorem PM.byH (h : PM w hb g rb base us bs lv told tv wr) {us' : Nat → Nat → Bool} {w' : World} (h1 : HIn w' hb g us') (k : Kp (Gs g) wr w') : PM w hb g rb base us' bs lv told tv w' := by
  have hgs := h.h.gs
  have hlt : ∀ b, Gs g b → b < base := fun b hb' => by have := hgs b hb'; have := h.g3; omega
  have hr : ¬ Gs g rb := by
    rintro ⟨c, hc, e⟩
    exact At.type h.r.1 (h.h.rows c hc) (by decide) e
  exact ⟨h1, ⟨k.at h.r.1 hr, h.r.2.kp k hlt⟩, h.t.kp k hlt, h.b.trans (k.below h.b.size (fun b hb' => by have := hgs b hb'; have := h.hw; omega)), k.tab h.tab h.h.no0, h.g3, h.hw, h.rw, h.rlt, h.w0⟩

theorem PM.byR (h : PM w hb g rb base us bs lv told tv wr) {bs' : List (Nat × Nat)} {lv' : Value} {w' : World} (h1 : RIn w' rb base bs' lv') (k : Kp (Rs rb lv) wr w') : PM w hb g rb base us bs' lv' told tv w' := by
  have hgs := h.h.gs
  have hg3 := h.g3
  have hb3 : hb < g 3 := h.h.after 3 (by omega)
  have own : ∀ b, lv.ownBlock = some b → base ≤ b := fun b e => (h.r.2.at e).1
  refine ⟨h.h.keep fun b hb' => k.2 b ?_ ?_, h1, h.t.but k fun b e => ?_, h.b.trans (k.below h.b.size ?_), k.tab h.tab ?_, h.g3, h.hw, h.rw, h.rlt, h.w0⟩
  · rcases hb' with rfl | ⟨c, hc, rfl⟩
    · exact h.h.head.lt
    · exact (h.h.rows c hc).lt
  · rintro (e | e)
    · rcases hb' with rfl | ⟨c, hc, rfl⟩
      · exact At.type h.h.head h.r.1 (by decide) e
      · exact At.type (h.h.rows c hc) h.r.1 (by decide) e
    · have := own _ e
      rcases hb' with rfl | ⟨c, hc, rfl⟩
      · omega
      · have := hgs (g c) ⟨c, hc, rfl⟩; omega
  · obtain ⟨h2, cs, h3⟩ := h.t.at e
    rintro (e2 | e2)
    · have := h.rlt; omega
    · obtain ⟨_, ds, h4⟩ := h.r.2.at e2
      exact At.type h3 h4 (by decide) rfl
  · rintro b (e | e)
    · rw [e]; exact h.rw
    · have := own _ e; have := h.rlt; have := h.rw; omega
  · rintro (e | e)
    · have := h.rw; have := h.w0; omega
    · have := own _ e; have := h.rlt; omega

/-- One more address. -/
theorem PM.byT (h : PM w hb g rb base us bs lv told tv wr) {told' : List Int} {tv' : Value} {w' : World} (h1 : OwnB 3 1 iL base told' tv' w') (k : Below base wr w') (m : ∀ b, b < wr.heap.size → tv.ownBlock ≠ some b → w'.heap[b]? = wr.heap[b]?) : PM w hb g rb base us bs lv told' tv' w' := by
  have kp : Kp (fun b => tv.ownBlock = some b) wr w' := ⟨k.mono (Nat.zero_le _), fun b hb' hn => m b hb' hn⟩
  refine ⟨h.h.base k h.g3, ⟨h.r.1.below k h.rlt, h.r.2.but kp fun b e => ?_⟩, h1, h.b.trans (k.mono (Nat.le_trans h.rw (Nat.le_of_lt h.rlt))), h.tab.below k (Nat.lt_of_le_of_lt (Nat.zero_le _) h.rlt), h.g3, h.hw, h.rw, h.rlt, h.w0⟩
  intro e2
  obtain ⟨_, cs, h3⟩ := h.r.2.at e
  obtain ⟨_, ds, h4⟩ := h.t.at e2
  exact At.type h3 h4 (by decide) rfl

theorem PM.alloc (h : PM w hb g rb base us bs lv told tv wr) (x : Int) : Calls Tryd.prog 10 #[.pointer (some ⟨hb, 0, none⟩), .int .i64 x] wr fun e w' =>
    e = .returned (.tuple #[.int .i64 (alA us (clsOf x)).1, .int .i64 (alA us (clsOf x)).2.1]) ∧ PM w hb g rb base (alA us (clsOf x)).2.2 bs lv told tv w' :=
  (alloc_c h.h x h.tab).mono fun _ _ ⟨e, h1, h2⟩ => ⟨e, h.byH h1 h2⟩

theorem PM.free (h : PM w hb g rb base us bs lv told tv wr) (x : Int) : Calls Tryd.prog 12 #[.pointer (some ⟨hb, 0, none⟩), .int .i64 x] wr fun e w' =>
    e = .returned (.int .i64 (frA us x (atOf x)).1) ∧ PM w hb g rb base (frA us x (atOf x)).2 bs lv told tv w' :=
  (free_c h.h x h.tab).mono fun _ _ ⟨e, h1, h2⟩ => ⟨e, h.byH h1 h2⟩

def bsA (us : Nat → Nat → Bool) (bs : List (Nat × Nat)) : Option Nat → List (Nat × Nat)
  | none => bs
  | some c => bsR bs c (fr us c)

theorem ralloc_none {rb base : Nat} {bs : List (Nat × Nat)} {lv : Value} (h : RIn wr rb base bs lv) (x : Int) (hx : clsOf x = none) :
    Calls Tryd.prog 11 #[.pointer (some ⟨rb, 0, none⟩), .int .i64 x] wr fun e w' => e = .returned (.tuple #[.int .i64 0, .int .i64 2]) ∧ (∃ lv', RIn w' rb base bs lv') ∧ Kp (Rs rb lv) wr w' := by
  have CC : Hid (∀ w, Calls Tryd.prog 15 #[.int .i64 x] w fun e w' => e = .returned (.tuple #[.int .i64 0, .int .i64 0, .int .i64 0, .int .i64 2]) ∧ w' = w) := fun w => by
    have := rclass_c x w
    rw [hx] at this
    exact this
  have HH : Hid (RIn wr rb base bs lv) := h
  clear h hx
  go_enter Tryd.func11, Tryd.ntmps11
  go_wp2_with (go_at_call 15; refine (CC.out _).mono ?_; rintro e w0 ⟨rfl, hw⟩; rw [hw]; clear hw w0)
  go_ret2
  exact ⟨rfl, ⟨lv, HH.out⟩, Kp.refl _ _⟩

/-- The reference's Alloc: 'us' are the blocks in use ahead of the call; the heap beside it may have gone on. -/
theorem PM.ralloc {vs : Nat → Nat → Bool} (h : PM w hb g rb base vs bs lv told tv wr) (hR : Rel us bs) (hl : bs.length ≤ 1000) (x : Int) : Calls Tryd.prog 11 #[.pointer (some ⟨rb, 0, none⟩), .int .i64 x] wr fun e w' =>
    e = .returned (.tuple #[.int .i64 (alA us (clsOf x)).1, .int .i64 (alA us (clsOf x)).2.1]) ∧ ∃ lv', PM w hb g rb base vs (bsA us bs (clsOf x)) lv' told tv w' := by
  cases hx : clsOf x with
  | none => exact (ralloc_none h.r x hx).mono fun _ _ ⟨e, ⟨lv', h1⟩, h2⟩ => ⟨e, lv', h.byR h1 h2⟩
  | some c =>
    have hc := ff_lt (clsP x) 4 0 c hx
    exact (ralloc_some us h.r hl hR.fx h.rlt x c (by omega) hx).mono fun _ _ ⟨e, ⟨lv', h1⟩, h2⟩ => ⟨e, lv', h.byR h1 h2⟩

theorem PM.rfree {vs : Nat → Nat → Bool} (h : PM w hb g rb base vs bs lv told tv wr) (hR : Rel us bs) (hl : bs.length ≤ 1000) (x : Int) : Calls Tryd.prog 13 #[.pointer (some ⟨rb, 0, none⟩), .int .i64 x] wr fun e w' =>
    e = .returned (.int .i64 (frA us x (atOf x)).1) ∧ ∃ lv', PM w hb g rb base vs (bsF bs (fx bs x)) lv' told tv w' := by
  have := rfree_c h.r hl h.rlt x
  rw [← (hR.free x).1] at this
  exact this.mono fun _ _ ⟨e, ⟨lv', h1⟩, h2⟩ => ⟨e, lv', h.byR h1 h2⟩

theorem PM.class (h : PM w hb g rb base us bs lv told tv wr) (x : Int) : Calls Tryd.prog 14 #[.int .i64 x] wr fun e w' => e = .returned (clsV (clsOf x)) ∧ PM w hb g rb base us bs lv told tv w' :=
  (class_c x wr h.tab).mono fun _ _ ⟨e, k⟩ => ⟨e, h.below k⟩

theorem PM.live (h : PM w hb g rb base us bs lv told tv wr) (x : Int) : Calls Tryd.prog 16 #[.pointer (some ⟨hb, 0, none⟩), .int .i64 x] wr fun e w' => e = .returned (.int .i64 (liA us x : Int)) ∧ PM w hb g rb base us bs lv told tv w' :=
  (live_c h.h x).mono fun _ _ ⟨e, k⟩ => ⟨e, h.below k⟩

theorem PM.rlive (h : PM w hb g rb base us bs lv told tv wr) (hR : Rel us bs) (hl : bs.length ≤ 1000) (x : Int) : Calls Tryd.prog 17 #[.pointer (some ⟨rb, 0, none⟩), .int .i64 x] wr fun e w' => e = .returned (.int .i64 (liA us x : Int)) ∧ PM w hb g rb base us bs lv told tv w' := by
  have := rlive_c h.r hl x
  rw [← hR.live x] at this
  exact this.mono fun _ _ ⟨e, k⟩ => ⟨e, h.below k⟩

theorem PM.rwithin (h : PM w hb g rb base us bs lv told tv wr) (hR : Rel us bs) (hl : bs.length ≤ 1000) (x n : Int) : Calls Tryd.prog 19 #[.pointer (some ⟨rb, 0, none⟩), .int .i64 x, .int .i64 n] wr fun e w' => e = .returned (.bool (wB bs x n).isSome) ∧ PM w hb g rb base us bs lv told tv w' :=
  (rwithin_c h.r hl hR.ok x n).mono fun _ _ ⟨e, k⟩ => ⟨e, h.below k⟩

theorem PM.within (h : PM w hb g rb base us bs lv told tv wr) (hR : Rel us bs) (x n : Int) : Calls Tryd.prog 18 #[.pointer (some ⟨hb, 0, none⟩), .int .i64 x, .int .i64 n] wr fun e w' => e = .returned (.bool (wB bs x n).isSome) ∧ PM w hb g rb base us bs lv told tv w' := by
  have := within_c h.h x n h.tab
  rw [hR.within x n] at this
  exact this.mono fun _ _ ⟨e, k⟩ => ⟨e, h.below k⟩

theorem Rel.allocA (h : Rel us bs) (x : Int) : Rel (alA us (clsOf x)).2.2 (bsA us bs (clsOf x)) := by
  cases hx : clsOf x with
  | none => exact h
  | some c => exact h.alloc c (by have := ff_lt (clsP x) 4 0 c hx; omega)

theorem bsA_len (R : Option Nat) : (bsA us bs R).length ≤ bs.length + 1 := by
  cases R with
  | none => exact Nat.le_succ _
  | some c =>
    show (bsR bs c (fr us c)).length ≤ _
    cases fr us c with
    | none => exact Nat.le_succ _
    | some k => simp [bsR]

theorem bsF_len (R : Option Nat) : (bsF bs R).length ≤ bs.length := by
  cases R with
  | none => exact Nat.le_refl _
  | some i => simp [bsF]; omega
end

theorem OwnB.appendLK {base : Nat} {l : List Int} (w : World) {ops : Array Oper} {rest : List Oper} {o : Oper} {a : Act} {Q : Exit → Act → World → Prop} (hgd : o.guard = none) (s x : Operand)
    (ho : o.op = .call { callee := .builtin .append, args := #[s, x], argTypes := #[30, 30] })
    (v : Value) (hs : a.eval s = v) (y : Int) (hown : OwnB 3 1 iL base l v w) (ad : Addr) (C : Nat) (hx : a.eval x = .slice (some ad) 1 C)
    (hc : ∀ j u, (iL y)[j]? = some u → w.cell? (ad.add j) = some u) (hl : l.length ≤ 1000)
    (h : ∀ v' w', OwnB 3 1 iL base (l ++ [y]) v' w' → Below base w w' → (∀ k, k < w.heap.size → v.ownBlock ≠ some k → w'.heap[k]? = w.heap[k]?) → wpList Tryd.prog ops Q rest (a.put o.dst v') w') : wpList Tryd.prog ops Q (o :: rest) a w :=
  wpList_plain hgd fun _ hK => OwnB.appendK 30 3 iL _ 1 8 info3 Tryd.underlying30 rfl (by decide) (by decide) iL_len iL_one w s x ho v hs base l [y] hown ad C hx (by simpa using hc) (by simp; omega) fun v' w' h1 h2 h3 => hK _ _ (h v' w' h1 h2 h3)
end Go.Proofs.YtffcfohbnbldhaaDoor
