/-
  Proved: GraphTells answers true.
-/
import Derived.Test.YtmmgdiecmokipaaLtells
import Derived.Test.YtmmgdiecmokipaaLzero
namespace Go.Proofs.Ytmmgdiecmokipaa
open Go.RowKit

set_option maxRecDepth 20000 in
theorem graphTells_walk (z : Int) (to : List (List Int)) (tv : Value) (w : World) (h : RwsIn w to tv) (hl : to.length ≤ 281474976710656) (hl2 : ∀ i (h : i < to.length), (to[i]'h).length ≤ 281474976710656) :
    Calls Try.prog 3 #[.int .i64 z, tv] w fun e w' => e = .returned (.bool true) ∧ Below w.heap.size w w' := by
  by_cases hfs : fsum to to.length < 200
  · rcases Int.lt_or_le 0 z with hz | hz
    · exact tells_pos z (min z 12).toNat (by omega) (by omega) (by omega) to tv w h hl hl2 (fw_of hfs) hfs
    · exact tells_zero z hz to tv w h hl hl2 (fw_of hfs) hfs
  · have FD : Hid (Calls Try.prog 7 #[tv] w fun e w' => e = .returned (.bool false) ∧ w' = w) := by
      have := few_d to tv w h hl hl2
      rwa [decide_eq_false hfs] at this
    have HB : Hid (Below w.heap.size w w) := Below.refl _ _
    obtain ⟨A, C, rfl, -⟩ := h
    go_enter Try.func3, Try.ntmps3
    go_wp2_with (go_at_call 7; refine FD.out.mono ?_; rintro e wa ⟨rfl, hwa⟩; rw [hwa]; clear hwa wa)
    go_ret
    exact ⟨rfl, HB.out⟩
end Go.Proofs.Ytmmgdiecmokipaa
