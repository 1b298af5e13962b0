/-
  Proved: the law InsnEncodes answers true.
-/
import Derived.Test.YtiiebppcamaliaaIopen
import Derived.Test.YtiiebppcamaliaaRenc
namespace Go.Proofs.Ytiiebppcamaliaa
open Go.RowKit
set_option linter.unusedVariables false
set_option linter.unusedSimpArgs false

theorem ch {w w1 w2 : World} (h1 : Below w.heap.size w w1) (h2 : Below w1.heap.size w1 w2) : Below w.heap.size w w2 := h1.trans (h2.mono h1.size)

theorem addi_is : encF [97, 100, 100, 105] ⟨1, 2, 0, -1⟩ = some 4293984403 := by decide +kernel

set_option maxHeartbeats 2000000 in
theorem encs_no (s : ByteArray) (rd r1 r2 im : Int) (w : World)
    (EA : Hid (∀ w, Calls Try.prog 9 #[.agg #[.string s, .int .i64 rd, .int .i64 r1, .int .i64 r2, .int .i64 im]] w fun e w' => e = .returned (.tuple #[.int .u32 0, .bool false]) ∧ Below w.heap.size w w'))
    (EB : Hid (∀ w, Calls Try.prog 10 #[.agg #[.string s, .int .i64 rd, .int .i64 r1, .int .i64 r2, .int .i64 im]] w fun e w' => e = .returned (.tuple #[.int .i64 0, .bool false]) ∧ Below w.heap.size w w'))
    (EC : Hid (∀ w, Calls Try.prog 9 #[.agg #[.string ⟨#[97, 100, 100, 105]⟩, .int .i64 1, .int .i64 2, .int .i64 0, .int .i64 (-1)]] w fun e w' => e = .returned (.tuple #[.int .u32 4293984403, .bool true]) ∧ Below w.heap.size w w')) :
    Calls Try.prog 3 #[.agg #[.string s, .int .i64 rd, .int .i64 r1, .int .i64 r2, .int .i64 im]] w fun e w' => e = .returned (.bool true) ∧ Below w.heap.size w w' := by
  have B0 : Below w.heap.size w (w.alloc (.cells #[.string s, .int .i64 rd, .int .i64 r1, .int .i64 r2, .int .i64 im] 23)) := below_alloc _ _
  have K0 : At (w.alloc (.cells #[.string s, .int .i64 rd, .int .i64 r1, .int .i64 r2, .int .i64 im] 23)) w.heap.size #[.string s, .int .i64 rd, .int .i64 r1, .int .i64 r2, .int .i64 im] 23 := At.new _ _ _
  go_enter Try.func3, Try.ntmps3
  go_wp2_with (first
    | (have M2 := B2; go_at_call 9; refine (EC.out _).mono ?_; rintro e w3 ⟨rfl, hb⟩; have B3 : Hid (Below w.heap.size w w3) := ch B2.out hb; clear hb)
    | (go_at_call 10; refine (EB.out _).mono ?_; rintro e w2 ⟨rfl, hb⟩; have B2 : Hid (Below w.heap.size w w2) := ch B1.out hb; clear hb)
    | (go_at_call 9; refine (EA.out _).mono ?_; rintro e w1 ⟨rfl, hb⟩; have B1 : Hid (Below w.heap.size w w1) := ch B0 hb; have K1 : At w1 w.heap.size #[.string s, .int .i64 rd, .int .i64 r1, .int .i64 r2, .int .i64 im] 23 := K0.below hb K0.lt; have u0 := K1.cell 0; have u1 := K1.cell 1; have u2 := K1.cell 2; have u3 := K1.cell 3; have u4 := K1.cell 4; simp at u0 u1 u2 u3 u4; clear hb K1))
  go_ret
  exact ⟨rfl, B3.out⟩

set_option maxHeartbeats 2000000 in
theorem encs_yes (s : ByteArray) (rd r1 r2 im v : Int) (w : World) (v0 : 0 ≤ v) (v1 : v < 4294967296)
    (EA : Hid (∀ w, Calls Try.prog 9 #[.agg #[.string s, .int .i64 rd, .int .i64 r1, .int .i64 r2, .int .i64 im]] w fun e w' => e = .returned (.tuple #[.int .u32 v, .bool true]) ∧ Below w.heap.size w w'))
    (EB : Hid (∀ w, Calls Try.prog 10 #[.agg #[.string s, .int .i64 rd, .int .i64 r1, .int .i64 r2, .int .i64 im]] w fun e w' => e = .returned (.tuple #[.int .i64 v, .bool true]) ∧ Below w.heap.size w w'))
    (EC : Hid (∀ w, Calls Try.prog 9 #[.agg #[.string ⟨#[97, 100, 100, 105]⟩, .int .i64 1, .int .i64 2, .int .i64 0, .int .i64 (-1)]] w fun e w' => e = .returned (.tuple #[.int .u32 4293984403, .bool true]) ∧ Below w.heap.size w w')) :
    Calls Try.prog 3 #[.agg #[.string s, .int .i64 rd, .int .i64 r1, .int .i64 r2, .int .i64 im]] w fun e w' => e = .returned (.bool true) ∧ Below w.heap.size w w' := by
  have B0 : Below w.heap.size w (w.alloc (.cells #[.string s, .int .i64 rd, .int .i64 r1, .int .i64 r2, .int .i64 im] 23)) := below_alloc _ _
  have K0 : At (w.alloc (.cells #[.string s, .int .i64 rd, .int .i64 r1, .int .i64 r2, .int .i64 im] 23)) w.heap.size #[.string s, .int .i64 rd, .int .i64 r1, .int .i64 r2, .int .i64 im] 23 := At.new _ _ _
  go_enter Try.func3, Try.ntmps3
  go_wp2_with (first
    | (have M2 := B2; go_at_call 9; refine (EC.out _).mono ?_; rintro e w3 ⟨rfl, hb⟩; have B3 : Hid (Below w.heap.size w w3) := ch B2.out hb; clear hb)
    | (go_at_call 10; refine (EB.out _).mono ?_; rintro e w2 ⟨rfl, hb⟩; have B2 : Hid (Below w.heap.size w w2) := ch B1.out hb; clear hb)
    | (go_at_call 9; refine (EA.out _).mono ?_; rintro e w1 ⟨rfl, hb⟩; have B1 : Hid (Below w.heap.size w w1) := ch B0 hb; have K1 : At w1 w.heap.size #[.string s, .int .i64 rd, .int .i64 r1, .int .i64 r2, .int .i64 im] 23 := K0.below hb K0.lt; have u0 := K1.cell 0; have u1 := K1.cell 1; have u2 := K1.cell 2; have u3 := K1.cell 3; have u4 := K1.cell 4; simp at u0 u1 u2 u3 u4; clear hb K1))
  go_ret
  exact ⟨rfl, B3.out⟩

theorem insnEncodes_walk (a : InD) (cs : List Value) (w : World) (ha : cs = insC a ∧ InOk a) :
    Calls Try.prog 3 #[.agg cs.toArray] w fun e w' => e = .returned (.bool true) ∧ Below w.heap.size w w' := by
  obtain ⟨rfl, ha⟩ := ha
  obtain ⟨s, rd, r1, r2, im⟩ := a
  have EC := enc_u ⟨#[97, 100, 100, 105]⟩ 1 2 0 (-1) (by show 4 ≤ maxLen; unfold maxLen; omega) addi_is
  cases e1 : encF s.data.toList ⟨rd, r1, r2, im⟩ with
  | none => exact encs_no s rd r1 r2 im w (enc_u s rd r1 r2 im ha e1) (rencode_c s rd r1 r2 im e1) EC
  | some v =>
    obtain ⟨⟨v0, v1⟩, _⟩ := dec_enc e1
    exact encs_yes s rd r1 r2 im v w v0 v1 (enc_u s rd r1 r2 im ha e1) (rencode_c s rd r1 r2 im e1) EC
end Go.Proofs.Ytiiebppcamaliaa
