/-
  Proved: the same, with a call's block beside them.
-/
import Derived.Test.YtffcfohbnbldhaaDoorBoth
namespace Go.Proofs.YtffcfohbnbldhaaDoor
open Go.RowKit

structure PA (w : World) (hb : Nat) (g : Nat → Nat) (rb base : Nat) (us : Nat → Nat → Bool) (bs : List (Nat × Nat)) (lv : Value) (told : List Int) (tv : Value) (ab : Nat) (ac : Array Value) (wr : World) : Prop where
  pm : PM w hb g rb base us bs lv told tv wr
  a : At wr ab ac 32

section
variable {w : World} {hb : Nat} {g : Nat → Nat} {rb base : Nat} {us : Nat → Nat → Bool} {bs : List (Nat × Nat)} {lv : Value} {told : List Int} {tv : Value} {ab : Nat} {ac : Array Value} {wr : World}

theorem PA.below (h : PA w hb g rb base us bs lv told tv ab ac wr) {w' : World} (k : Below wr.heap.size wr w') : PA w hb g rb base us bs lv told tv ab ac w' := ⟨h.pm.below k, h.a.below k h.a.lt⟩

theorem PA.byH (h : PA w hb g rb base us bs lv told tv ab ac wr) {us' : Nat → Nat → Bool} {w' : World} (h1 : HIn w' hb g us') (k : Kp (Gs g) wr w') : PA w hb g rb base us' bs lv told tv ab ac w' :=
  ⟨h.pm.byH h1 k, k.at h.a (by rintro ⟨c, hc, e⟩; exact At.type h.a (h.pm.h.rows c hc) (by decide) e)⟩

theorem PA.byR (h : PA w hb g rb base us bs lv told tv ab ac wr) {bs' : List (Nat × Nat)} {lv' : Value} {w' : World} (h1 : RIn w' rb base bs' lv') (k : Kp (Rs rb lv) wr w') : PA w hb g rb base us bs' lv' told tv ab ac w' :=
  ⟨h.pm.byR h1 k, k.at h.a (by
    rintro (e | e)
    · exact At.type h.a h.pm.r.1 (by decide) e
    · obtain ⟨_, ds, h4⟩ := h.pm.r.2.at e
      exact At.type h.a h4 (by decide) rfl)⟩

theorem PA.byT (h : PA w hb g rb base us bs lv told tv ab ac wr) {told' : List Int} {tv' : Value} {w' : World} (h1 : OwnB 3 1 iL base told' tv' w') (k : Below base wr w') (m : ∀ b, b < wr.heap.size → tv.ownBlock ≠ some b → w'.heap[b]? = wr.heap[b]?) : PA w hb g rb base us bs lv told' tv' ab ac w' :=
  ⟨h.pm.byT h1 k m, (m ab h.a.lt (fun e => by
    obtain ⟨_, ds, h4⟩ := h.pm.t.at e
    exact At.type h.a h4 (by decide) rfl)).trans h.a⟩

theorem PA.alloc (h : PA w hb g rb base us bs lv told tv ab ac wr) (x : Int) : Calls Tryd.prog 10 #[.pointer (some ⟨hb, 0, none⟩), .int .i64 x] wr fun e w' =>
    e = .returned (.tuple #[.int .i64 (alA us (clsOf x)).1, .int .i64 (alA us (clsOf x)).2.1]) ∧ PA w hb g rb base (alA us (clsOf x)).2.2 bs lv told tv ab ac w' :=
  (alloc_c h.pm.h x h.pm.tab).mono fun _ _ ⟨e, h1, h2⟩ => ⟨e, h.byH h1 h2⟩

theorem PA.free (h : PA w hb g rb base us bs lv told tv ab ac wr) (x : Int) : Calls Tryd.prog 12 #[.pointer (some ⟨hb, 0, none⟩), .int .i64 x] wr fun e w' =>
    e = .returned (.int .i64 (frA us x (atOf x)).1) ∧ PA w hb g rb base (frA us x (atOf x)).2 bs lv told tv ab ac w' :=
  (free_c h.pm.h x h.pm.tab).mono fun _ _ ⟨e, h1, h2⟩ => ⟨e, h.byH h1 h2⟩

/-- The reference's Alloc: 'us' are the blocks in use ahead of the call; the heap beside it may have gone on. -/
theorem PA.ralloc {vs : Nat → Nat → Bool} (h : PA w hb g rb base vs bs lv told tv ab ac wr) (hR : Rel us bs) (hl : bs.length ≤ 1000) (x : Int) : Calls Tryd.prog 11 #[.pointer (some ⟨rb, 0, none⟩), .int .i64 x] wr fun e w' =>
    e = .returned (.tuple #[.int .i64 (alA us (clsOf x)).1, .int .i64 (alA us (clsOf x)).2.1]) ∧ ∃ lv', PA w hb g rb base vs (bsA us bs (clsOf x)) lv' told tv ab ac w' := by
  cases hx : clsOf x with
  | none => exact (ralloc_none h.pm.r x hx).mono fun _ _ ⟨e, ⟨lv', h1⟩, h2⟩ => ⟨e, lv', h.byR h1 h2⟩
  | some c =>
    have hc := ff_lt (clsP x) 4 0 c hx
    exact (ralloc_some us h.pm.r hl hR.fx h.pm.rlt x c (by omega) hx).mono fun _ _ ⟨e, ⟨lv', h1⟩, h2⟩ => ⟨e, lv', h.byR h1 h2⟩

theorem PA.rfree {vs : Nat → Nat → Bool} (h : PA w hb g rb base vs bs lv told tv ab ac wr) (hR : Rel us bs) (hl : bs.length ≤ 1000) (x : Int) : Calls Tryd.prog 13 #[.pointer (some ⟨rb, 0, none⟩), .int .i64 x] wr fun e w' =>
    e = .returned (.int .i64 (frA us x (atOf x)).1) ∧ ∃ lv', PA w hb g rb base vs (bsF bs (fx bs x)) lv' told tv ab ac w' := by
  have := rfree_c h.pm.r hl h.pm.rlt x
  rw [← (hR.free x).1] at this
  exact this.mono fun _ _ ⟨e, ⟨lv', h1⟩, h2⟩ => ⟨e, lv', h.byR h1 h2⟩

theorem PA.class (h : PA w hb g rb base us bs lv told tv ab ac wr) (x : Int) : Calls Tryd.prog 14 #[.int .i64 x] wr fun e w' => e = .returned (clsV (clsOf x)) ∧ PA w hb g rb base us bs lv told tv ab ac w' :=
  (class_c x wr h.pm.tab).mono fun _ _ ⟨e, k⟩ => ⟨e, h.below k⟩

theorem PA.live (h : PA w hb g rb base us bs lv told tv ab ac wr) (x : Int) : Calls Tryd.prog 16 #[.pointer (some ⟨hb, 0, none⟩), .int .i64 x] wr fun e w' => e = .returned (.int .i64 (liA us x : Int)) ∧ PA w hb g rb base us bs lv told tv ab ac w' :=
  (live_c h.pm.h x).mono fun _ _ ⟨e, k⟩ => ⟨e, h.below k⟩

theorem PA.rlive (h : PA w hb g rb base us bs lv told tv ab ac wr) (hR : Rel us bs) (hl : bs.length ≤ 1000) (x : Int) : Calls Tryd.prog 17 #[.pointer (some ⟨rb, 0, none⟩), .int .i64 x] wr fun e w' => e = .returned (.int .i64 (liA us x : Int)) ∧ PA w hb g rb base us bs lv told tv ab ac w' := by
  have := rlive_c h.pm.r hl x
  rw [← hR.live x] at this
  exact this.mono fun _ _ ⟨e, k⟩ => ⟨e, h.below k⟩

theorem PA.rwithin (h : PA w hb g rb base us bs lv told tv ab ac wr) (hR : Rel us bs) (hl : bs.length ≤ 1000) (x n : Int) : Calls Tryd.prog 19 #[.pointer (some ⟨rb, 0, none⟩), .int .i64 x, .int .i64 n] wr fun e w' => e = .returned (.bool (wB bs x n).isSome) ∧ PA w hb g rb base us bs lv told tv ab ac w' :=
  (rwithin_c h.pm.r hl hR.ok x n).mono fun _ _ ⟨e, k⟩ => ⟨e, h.below k⟩

theorem PA.within (h : PA w hb g rb base us bs lv told tv ab ac wr) (hR : Rel us bs) (x n : Int) : Calls Tryd.prog 18 #[.pointer (some ⟨hb, 0, none⟩), .int .i64 x, .int .i64 n] wr fun e w' => e = .returned (.bool (wB bs x n).isSome) ∧ PA w hb g rb base us bs lv told tv ab ac w' := by
  have := within_c h.pm.h x n h.pm.tab
  rw [hR.within x n] at this
  exact this.mono fun _ _ ⟨e, k⟩ => ⟨e, h.below k⟩

end
end Go.Proofs.YtffcfohbnbldhaaDoor
