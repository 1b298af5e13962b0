/-
  Proved: GraphCloses answers true.
-/
import Derived.Test.YtmmgdiecmokipaaLcloses
namespace Go.Proofs.Ytmmgdiecmokipaa
open Go.RowKit

set_option maxRecDepth 20000 in
theorem graphCloses_walk (z : Int) (to : List (List Int)) (tv : Value) (w : World) (h : RwsIn w to tv) (hl : to.length ≤ 281474976710656) (hl2 : ∀ i (h : i < to.length), (to[i]'h).length ≤ 281474976710656) :
    Calls Try.prog 5 #[.int .i64 z, tv] w fun e w' => e = .returned (.bool true) ∧ Below w.heap.size w w' := by
  have hm0 : bits .and .i64 z 31 = z % 32 := and_mask z 5 (by decide)
  have hm : bits .and .i64 z 31 = ((z % 32).toNat : Int) := by rw [hm0]; omega
  by_cases hfs : fsum to to.length < 200
  · exact closes_pos z (z % 32).toNat (1 + (z % 32).toNat) hm (by omega) (by omega) (by omega) to tv w h hl hl2 (fw_of hfs) hfs
  · have FD : Hid (Calls Try.prog 7 #[tv] w fun e w' => e = .returned (.bool false) ∧ w' = w) := by
      have := few_d to tv w h hl hl2
      rwa [decide_eq_false hfs] at this
    have HB : Hid (Below w.heap.size w w) := Below.refl _ _
    obtain ⟨A, C, rfl, -⟩ := h
    clear hm0
    generalize (z % 32).toNat = k at hm
    go_enter Try.func5, Try.ntmps5
    go_wp2_with (go_at_call 7; refine FD.out.mono ?_; rintro e wa ⟨rfl, hwa⟩; rw [hwa]; clear hwa wa)
    go_ret
    exact ⟨rfl, HB.out⟩
end Go.Proofs.Ytmmgdiecmokipaa
