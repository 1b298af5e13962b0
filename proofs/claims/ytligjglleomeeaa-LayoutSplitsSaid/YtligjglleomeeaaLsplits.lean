/-
  Proved: LayoutSplits answers true of any two numbers.
-/
import Derived.Test.YtligjglleomeeaaPsplit
namespace Go.Proofs.Ytligjglleomeeaa
open Go.RowKit

theorem parts_same (a b : Int) : (uppP a = uppP b ∧ lowP a = lowP b) ↔ a % 4294967296 = b % 4294967296 := by
  unfold uppP lowP
  omega
theorem fits_upp (a : Int) : fitB (wrap32 a) false = decide (uppP a = 0 ∧ lowP a = wrap32 a ∨ uppP a = 0 ∧ 0 ≤ wrap32 a ∧ wrap32 a < 2048) := by
  unfold fitB uppP lowP wrap32
  simp only [Bool.false_eq_true, if_false, decide_eq_decide]
  omega
theorem parts_no (a b : Int) (h : uppP a = uppP b) (h2 : (!(lowP a == lowP b) == (a % 4294967296 == b % 4294967296)) = true) : False := by
  have K := parts_same a b
  by_cases e : lowP a = lowP b
  · simp [e, K.1 ⟨h, e⟩] at h2
  · have e3 : (a % 4294967296 == b % 4294967296) = false := by
      rw [beq_eq_false_iff_ne]
      exact fun x => e (K.2 x).2
    have e2 : (lowP a == lowP b) = false := by simpa using e
    rw [e2, e3] at h2
    exact absurd h2 (by decide)
theorem wrap_64 (a : Int) : wrap64 (wrap32 a) = wrap32 a := by
  unfold wrap64 wrap32
  omega

set_option maxRecDepth 20000 in
set_option maxHeartbeats 1000000 in
theorem layoutSplits_walk (a b : Int) (w : World) :
    Calls Try.prog 3 #[.int .i64 a, .int .i64 b] w fun e w' => e = .returned (.bool true) ∧ Below w.heap.size w w' := by
  have K := parts_same a b
  have F := fits_upp a
  have U0 : uppP 2048 = 1 := by decide
  have L0 : lowP 2048 = -2048 := by decide
  go_enter Try.func3, Try.ntmps3
  go_wp2_with (first
    | (go_at_call 4; refine (psplit_c _ _).mono ?_; rintro e w1 ⟨rfl, hw⟩; rw [hw]; clear hw w1)
    | (go_at_call 5; refine (pfits_c _ _ _).mono ?_; rintro e w1 ⟨rfl, hw⟩; rw [hw]; clear hw w1))
  all_goals (go_ret; refine ⟨congrArg (fun x => Ending.returned (Value.bool x)) ?_, Below.refl _ _⟩)
  all_goals clear U0 L0
  all_goals try simp only [wrap_64] at *
  all_goals try rw [F]
  all_goals try clear F
  · exact (parts_no a b ‹_› ‹_›).elim
  all_goals clear K
  all_goals first
    | (rw [decide_eq_true_eq]; omega)
    | (rw [Bool.not_eq_true', decide_eq_false_iff_not]; omega)
    | (rw [beq_iff_eq, Bool.eq_iff_iff, decide_eq_true_eq]; simp only [beq_iff_eq, decide_eq_true_eq, Bool.or_eq_true]; omega)
end Go.Proofs.Ytligjglleomeeaa
