/-
  Proved: the law LiveMeets answers true of any two ranges.
-/
import Derived.Test.YtlkcfkocjjhhhaaRopen
namespace Go.Proofs.Ytlkcfkocjjhhhaa
open Go.RowKit
set_option linter.unusedVariables false

theorem mt_comm (a b : Rg) : mt a b = mt b a := by
  unfold mt
  by_cases h1 : a.lo = -1
  · simp [h1]
  · by_cases h2 : b.lo = -1
    · simp [h2]
    · rw [if_neg (by omega), if_neg (by omega), decide_eq_decide]
      omega
theorem mt_self (a : Rg) (h : ¬ a.lo = -1) : mt a a = true := by simp [mt, h]
theorem mt_none (a b : Rg) (h : a.lo = -1) : mt a b = false := by simp [mt, h]

theorem ch {w w1 w2 : World} (h1 : Below w.heap.size w w1) (h2 : Below w1.heap.size w1 w2) : Below w.heap.size w w2 := h1.trans (h2.mono h1.size)

theorem meet_u (p q : Int) (x : Bool) (s t : Int) (y : Bool) (w : World) : Calls Try.prog 4 #[.agg #[.int .i64 p, .int .i64 q, .bool x], .agg #[.int .i64 s, .int .i64 t, .bool y]] w fun e w' => e = .returned (.bool (mt ⟨p, q, x⟩ ⟨s, t, y⟩)) ∧ Below w.heap.size w w' := meet_c ⟨p, q, x⟩ ⟨s, t, y⟩ w

set_option maxRecDepth 20000 in
set_option maxHeartbeats 1000000 in
theorem liveMeets_walk (a : Rg) (cs : List Value) (b : Rg) (ds : List Value) (w : World) (ha : cs = rgC a) (hb : ds = rgC b) : Calls Try.prog 3 #[.agg cs.toArray, .agg ds.toArray] w fun e w' => e = .returned (.bool true) ∧ Below w.heap.size w w' := by
  subst ha hb
  obtain ⟨p, q, x⟩ := a
  obtain ⟨s, t, y⟩ := b
  simp only [rgC]
  have c1 : mt ⟨2, 5, false⟩ ⟨4, 9, false⟩ = true := by decide
  have c2 : mt ⟨2, 5, false⟩ ⟨5, 9, false⟩ = false := by decide
  have c3 : mt ⟨5, 5, false⟩ ⟨5, 7, false⟩ = true := by decide
  have c4 : mt ⟨s, t, y⟩ ⟨p, q, x⟩ = mt ⟨p, q, x⟩ ⟨s, t, y⟩ := mt_comm _ _
  have MU : Hid (∀ (p q : Int) (x : Bool) (s t : Int) (y : Bool) (w : World), _) := meet_u
  by_cases h : p = -1
  · subst h
    have c5 : mt ⟨-1, q, x⟩ ⟨s, t, y⟩ = false := mt_none _ _ rfl
    go_enter Try.func3, Try.ntmps3
    go_wp2
    have B0 : Hid (Below w.heap.size w ((w.alloc (.cells #[.int .i64 (-1), .int .i64 q, .bool x] 23)).alloc (.cells #[.int .i64 s, .int .i64 t, .bool y] 23))) := below_al2 _ _ _
    have z0 : ((w.alloc (.cells #[.int .i64 (-1), .int .i64 q, .bool x] 23)).alloc (.cells #[.int .i64 s, .int .i64 t, .bool y] 23)).heap.size = w.heap.size + 2 := by simp
    have A0 : At ((w.alloc (.cells #[.int .i64 (-1), .int .i64 q, .bool x] 23)).alloc (.cells #[.int .i64 s, .int .i64 t, .bool y] 23)) w.heap.size #[.int .i64 (-1), .int .i64 q, .bool x] 23 := (At.new _ _ _).below (below_al _ _) (by simp)
    have A1 : At ((w.alloc (.cells #[.int .i64 (-1), .int .i64 q, .bool x] 23)).alloc (.cells #[.int .i64 s, .int .i64 t, .bool y] 23)) (w.heap.size + 1) #[.int .i64 s, .int .i64 t, .bool y] 23 := by
      have h := At.new (w.alloc (.cells #[.int .i64 (-1), .int .i64 q, .bool x] 23)) #[.int .i64 s, .int .i64 t, .bool y] 23
      simpa using h
    generalize (w.alloc (.cells #[.int .i64 (-1), .int .i64 q, .bool x] 23)).alloc (.cells #[.int .i64 s, .int .i64 t, .bool y] 23) = w1 at *
    have g0 := fun x : After w1 => After.cell (A0.cell 0) x
    have g1 := fun x : After w1 => After.cell (A0.cell 1) x
    have g2 := fun x : After w1 => After.cell (A0.cell 2) x
    have g3 := fun x : After w1 => After.cell (A1.cell 0) x
    have g4 := fun x : After w1 => After.cell (A1.cell 1) x
    have g5 := fun x : After w1 => After.cell (A1.cell 2) x
    simp at g0 g1 g2 g3 g4 g5
    clear A0 A1 z0
    haveI := After.has w1
    refine wp_region_after (by kernel_rfl) (by kernel_rfl) ?_
    repeat (quiet_step ((go_at_call 4; exact Calls.after (MU.out _ _ _ _ _ _ _))))
    refine wpQuiet_nil ?_
    intro _ hw'
    obtain ⟨xq, hw''⟩ := hw'
    subst hw''
    have B1 : Hid (Below w.heap.size w xq.w) := ch B0.out xq.below
    generalize xq.w = w2 at *
    clear c4 c5 g0 g1 g2 g3 g4 g5 B0
    go_wp2_with (first
      | (go_at_call 4; refine (MU.out _ _ _ _ _ _ _).mono ?_; rintro e w5 ⟨rfl, hb⟩; have M5 := M4; have B5 : Hid (Below w.heap.size w w5) := ch B4.out hb; clear hb)
      | (go_at_call 4; refine (MU.out _ _ _ _ _ _ _).mono ?_; rintro e w4 ⟨rfl, hb⟩; have M4 := M3; have B4 : Hid (Below w.heap.size w w4) := ch B3.out hb; clear hb)
      | (go_at_call 4; refine (MU.out _ _ _ _ _ _ _).mono ?_; rintro e w3 ⟨rfl, hb⟩; have M3 := trivial; have B3 : Hid (Below w.heap.size w w3) := ch (ch B1.out (below_al _ _)) hb; have f0 := (At.new w2 #[.int .i64 2, .int .i64 5, .bool false] 23).below hb (by simp); have g0 := f0.cell 0; have g1 := f0.cell 1; have g2 := f0.cell 2; simp at g0 g1 g2; clear hb f0))
    go_ret
    exact ⟨rfl, B5.out⟩
  · have e1 : (p == -1) = false := by simpa using h
    have c5 : mt ⟨p, q, x⟩ ⟨p, q, x⟩ = true := mt_self _ h
    go_enter Try.func3, Try.ntmps3
    go_wp2
    have B0 : Hid (Below w.heap.size w ((w.alloc (.cells #[.int .i64 p, .int .i64 q, .bool x] 23)).alloc (.cells #[.int .i64 s, .int .i64 t, .bool y] 23))) := below_al2 _ _ _
    have z0 : ((w.alloc (.cells #[.int .i64 p, .int .i64 q, .bool x] 23)).alloc (.cells #[.int .i64 s, .int .i64 t, .bool y] 23)).heap.size = w.heap.size + 2 := by simp
    have A0 : At ((w.alloc (.cells #[.int .i64 p, .int .i64 q, .bool x] 23)).alloc (.cells #[.int .i64 s, .int .i64 t, .bool y] 23)) w.heap.size #[.int .i64 p, .int .i64 q, .bool x] 23 := (At.new _ _ _).below (below_al _ _) (by simp)
    have A1 : At ((w.alloc (.cells #[.int .i64 p, .int .i64 q, .bool x] 23)).alloc (.cells #[.int .i64 s, .int .i64 t, .bool y] 23)) (w.heap.size + 1) #[.int .i64 s, .int .i64 t, .bool y] 23 := by
      have h := At.new (w.alloc (.cells #[.int .i64 p, .int .i64 q, .bool x] 23)) #[.int .i64 s, .int .i64 t, .bool y] 23
      simpa using h
    generalize (w.alloc (.cells #[.int .i64 p, .int .i64 q, .bool x] 23)).alloc (.cells #[.int .i64 s, .int .i64 t, .bool y] 23) = w1 at *
    have g0 := fun x : After w1 => After.cell (A0.cell 0) x
    have g1 := fun x : After w1 => After.cell (A0.cell 1) x
    have g2 := fun x : After w1 => After.cell (A0.cell 2) x
    have g3 := fun x : After w1 => After.cell (A1.cell 0) x
    have g4 := fun x : After w1 => After.cell (A1.cell 1) x
    have g5 := fun x : After w1 => After.cell (A1.cell 2) x
    simp at g0 g1 g2 g3 g4 g5
    clear A0 A1 z0
    haveI := After.has w1
    refine wp_region_after (by kernel_rfl) (by kernel_rfl) ?_
    repeat (quiet_step ((go_at_call 4; exact Calls.after (MU.out _ _ _ _ _ _ _))))
    refine wpQuiet_nil ?_
    intro _ hw'
    obtain ⟨xq, hw''⟩ := hw'
    subst hw''
    have B1 : Hid (Below w.heap.size w xq.w) := ch B0.out xq.below
    generalize xq.w = w2 at *
    clear c4 c5 g0 g1 g2 g3 g4 g5 B0
    go_wp2_with (first
      | (go_at_call 4; refine (MU.out _ _ _ _ _ _ _).mono ?_; rintro e w5 ⟨rfl, hb⟩; have M5 := M4; have B5 : Hid (Below w.heap.size w w5) := ch B4.out hb; clear hb)
      | (go_at_call 4; refine (MU.out _ _ _ _ _ _ _).mono ?_; rintro e w4 ⟨rfl, hb⟩; have M4 := M3; have B4 : Hid (Below w.heap.size w w4) := ch B3.out hb; clear hb)
      | (go_at_call 4; refine (MU.out _ _ _ _ _ _ _).mono ?_; rintro e w3 ⟨rfl, hb⟩; have M3 := trivial; have B3 : Hid (Below w.heap.size w w3) := ch (ch B1.out (below_al _ _)) hb; have f0 := (At.new w2 #[.int .i64 2, .int .i64 5, .bool false] 23).below hb (by simp); have g0 := f0.cell 0; have g1 := f0.cell 1; have g2 := f0.cell 2; simp at g0 g1 g2; clear hb f0))
    go_ret
    exact ⟨rfl, B5.out⟩
end Go.Proofs.Ytlkcfkocjjhhhaa
