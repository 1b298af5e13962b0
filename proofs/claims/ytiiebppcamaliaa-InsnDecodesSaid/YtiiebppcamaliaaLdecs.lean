/-
  Proved: the law InsnDecodes answers true.
-/
import Derived.Test.YtiiebppcamaliaaIopen
import Derived.Test.YtiiebppcamaliaaRdec
namespace Go.Proofs.Ytiiebppcamaliaa
open Go.RowKit
set_option linter.unusedVariables false
set_option linter.unusedSimpArgs false

theorem ch {w w1 w2 : World} (h1 : Below w.heap.size w w1) (h2 : Below w1.heap.size w1 w2) : Below w.heap.size w w2 := h1.trans (h2.mono h1.size)

theorem jal_dec : decF 4292866159 = some ([106, 97, 108], ⟨0, 0, 0, -4⟩) := by kernel_rfl

theorem one_c (w : World) : Calls Try.prog 13 #[] w fun e w' => e = .returned (.bool true) ∧ Below w.heap.size w w' := by
  have DJ : Hid (∀ w, Calls Try.prog 11 #[.int .u32 4292866159] w fun e w' => e = .returned (.tuple #[.agg #[.string ⟨#[106, 97, 108]⟩, .int .i64 0, .int .i64 0, .int .i64 0, .int .i64 (-4)], .int .i64 0]) ∧ Below w.heap.size w w') := fun w => by
    have h := decode_c 4292866159 (by decide) (by decide) w
    rw [jal_dec] at h
    exact h
  go_enter Try.func13, Try.ntmps13
  go_wp2_with (go_at_call 11; refine (DJ.out _).mono ?_; rintro e w1 ⟨rfl, hb⟩; have B1 : Hid (Below w.heap.size w (w1.alloc (.cells #[.string ⟨#[106, 97, 108]⟩, .int .i64 0, .int .i64 0, .int .i64 0, .int .i64 (-4)] 23))) := ch hb (below_alloc _ _); clear hb)
  go_ret
  exact ⟨rfl, B1.out⟩

set_option maxHeartbeats 2000000 in
theorem decs_no (x : Int) (x0 : 0 ≤ x) (x1 : x < 4294967296) (w : World)
    (EA : Hid (∀ w, Calls Try.prog 11 #[.int .u32 x] w fun e w' => e = .returned (.tuple #[.agg #[.string ⟨#[]⟩, .int .i64 0, .int .i64 0, .int .i64 0, .int .i64 0], .int .i64 70]) ∧ Below w.heap.size w w'))
    (EB : Hid (∀ w, Calls Try.prog 12 #[.int .i64 x] w fun e w' => e = .returned (.tuple #[.agg #[.string ⟨#[]⟩, .int .i64 0, .int .i64 0, .int .i64 0, .int .i64 0], .int .i64 70]) ∧ Below w.heap.size w w')) :
    Calls Try.prog 4 #[.int .u32 x] w fun e w' => e = .returned (.bool true) ∧ Below w.heap.size w w' := by
  have ON : Hid (∀ w, Calls Try.prog 13 #[] w fun e w' => e = .returned (.bool true) ∧ Below w.heap.size w w') := one_c
  go_enter Try.func4, Try.ntmps4
  go_wp2_with (first
    | (go_at_call 13; refine (ON.out _).mono ?_; rintro e w3 ⟨rfl, hb⟩; have B3 : Hid (Below w.heap.size w w3) := ch B2.out hb; clear hb)
    | (go_at_call 12; refine (EB.out _).mono ?_; rintro e w2 ⟨rfl, hb⟩; have B2 : Hid (Below w.heap.size w (w2.alloc (.cells #[.string ⟨#[]⟩, .int .i64 0, .int .i64 0, .int .i64 0, .int .i64 0] 23))) := ch (ch B1.out hb) (below_alloc _ _); have k2 := K1.out.below hb K1.out.lt; have K2 : At (w2.alloc (.cells #[.string ⟨#[]⟩, .int .i64 0, .int .i64 0, .int .i64 0, .int .i64 0] 23)) w1.heap.size #[.string ⟨#[]⟩, .int .i64 0, .int .i64 0, .int .i64 0, .int .i64 0] 23 := k2.below (below_alloc _ _) k2.lt; have u0 := K2.cell 0; have u1 := K2.cell 1; have u2 := K2.cell 2; have u3 := K2.cell 3; have u4 := K2.cell 4; simp at u0 u1 u2 u3 u4; clear hb k2 K2)
    | (go_at_call 11; refine (EA.out _).mono ?_; rintro e w1 ⟨rfl, hb⟩; have B1 : Hid (Below w.heap.size w (w1.alloc (.cells #[.string ⟨#[]⟩, .int .i64 0, .int .i64 0, .int .i64 0, .int .i64 0] 23))) := ch hb (below_alloc _ _); have K1 : Hid (At (w1.alloc (.cells #[.string ⟨#[]⟩, .int .i64 0, .int .i64 0, .int .i64 0, .int .i64 0] 23)) w1.heap.size #[.string ⟨#[]⟩, .int .i64 0, .int .i64 0, .int .i64 0, .int .i64 0] 23) := At.new _ _ _; clear hb))
  go_ret
  exact ⟨rfl, B3.out⟩

set_option maxHeartbeats 2000000 in
theorem decs_yes (x : Int) (s : ByteArray) (rd r1 r2 im : Int) (x0 : 0 ≤ x) (x1 : x < 4294967296) (w : World)
    (EA : Hid (∀ w, Calls Try.prog 11 #[.int .u32 x] w fun e w' => e = .returned (.tuple #[.agg #[.string s, .int .i64 rd, .int .i64 r1, .int .i64 r2, .int .i64 im], .int .i64 0]) ∧ Below w.heap.size w w'))
    (EB : Hid (∀ w, Calls Try.prog 12 #[.int .i64 x] w fun e w' => e = .returned (.tuple #[.agg #[.string s, .int .i64 rd, .int .i64 r1, .int .i64 r2, .int .i64 im], .int .i64 0]) ∧ Below w.heap.size w w')) :
    Calls Try.prog 4 #[.int .u32 x] w fun e w' => e = .returned (.bool true) ∧ Below w.heap.size w w' := by
  have ON : Hid (∀ w, Calls Try.prog 13 #[] w fun e w' => e = .returned (.bool true) ∧ Below w.heap.size w w') := one_c
  go_enter Try.func4, Try.ntmps4
  go_wp2_with (first
    | (go_at_call 13; refine (ON.out _).mono ?_; rintro e w3 ⟨rfl, hb⟩; have B3 : Hid (Below w.heap.size w w3) := ch B2.out hb; clear hb)
    | (go_at_call 12; refine (EB.out _).mono ?_; rintro e w2 ⟨rfl, hb⟩; have B2 : Hid (Below w.heap.size w (w2.alloc (.cells #[.string s, .int .i64 rd, .int .i64 r1, .int .i64 r2, .int .i64 im] 23))) := ch (ch B1.out hb) (below_alloc _ _); have k2 := K1.out.below hb K1.out.lt; have K2 : At (w2.alloc (.cells #[.string s, .int .i64 rd, .int .i64 r1, .int .i64 r2, .int .i64 im] 23)) w1.heap.size #[.string s, .int .i64 rd, .int .i64 r1, .int .i64 r2, .int .i64 im] 23 := k2.below (below_alloc _ _) k2.lt; have u0 := K2.cell 0; have u1 := K2.cell 1; have u2 := K2.cell 2; have u3 := K2.cell 3; have u4 := K2.cell 4; simp at u0 u1 u2 u3 u4; clear hb k2 K2)
    | (go_at_call 11; refine (EA.out _).mono ?_; rintro e w1 ⟨rfl, hb⟩; have B1 : Hid (Below w.heap.size w (w1.alloc (.cells #[.string s, .int .i64 rd, .int .i64 r1, .int .i64 r2, .int .i64 im] 23))) := ch hb (below_alloc _ _); have K1 : Hid (At (w1.alloc (.cells #[.string s, .int .i64 rd, .int .i64 r1, .int .i64 r2, .int .i64 im] 23)) w1.heap.size #[.string s, .int .i64 rd, .int .i64 r1, .int .i64 r2, .int .i64 im] 23) := At.new _ _ _; clear hb))
  go_ret
  exact ⟨rfl, B3.out⟩

theorem insnDecodes_walk (x : Int) (w : World) (hx : (Lit.int .u32 x).wf = true) :
    Calls Try.prog 4 #[.int .u32 x] w fun e w' => e = .returned (.bool true) ∧ Below w.heap.size w w' := by
  obtain ⟨x0, x1⟩ : 0 ≤ x ∧ x < 4294967296 := by simp [Lit.wf, IntKind.min, IntKind.max, IntKind.signed, IntKind.bits] at hx; omega
  have EA := fun w => decode_c x x0 x1 w
  have EB := fun w => rdecode_c x x0 x1 w
  cases e : decF x with
  | none =>
    rw [e] at EA EB
    exact decs_no x x0 x1 w EA EB
  | some y =>
    rw [e] at EA EB
    obtain ⟨t, ⟨rd, r1, r2, im⟩⟩ := y
    exact decs_yes x ⟨t.toArray⟩ rd r1 r2 im x0 x1 w EA EB
end Go.Proofs.Ytiiebppcamaliaa
