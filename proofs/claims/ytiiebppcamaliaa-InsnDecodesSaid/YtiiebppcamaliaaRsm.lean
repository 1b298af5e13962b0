/-
  Proved: what the reference's in, at, bits and signed answer.
-/
import Derived.Test.YtiiebppcamaliaaItab
import Derived.Test.YtiiebppcamaliaaKit
namespace Go.Proofs.Ytiiebppcamaliaa
open Go.RowKit
set_option linter.unusedVariables false
set_option linter.unusedSimpArgs false

def inB (n lo hi : Int) : Bool := decide (lo ≤ n) && decide (n ≤ hi)

theorem rin_c (n lo hi : Int) (w : World) : Calls Try.prog 31 #[.int .i64 n, .int .i64 lo, .int .i64 hi] w fun e w' => e = .returned (.bool (inB n lo hi)) ∧ w' = w := by
  by_cases h1 : lo ≤ n
  · by_cases h2 : n ≤ hi
    · go_enter Try.func31, Try.ntmps31
      go_wp2
      go_ret
      exact ⟨by simp [inB, h1, h2], rfl⟩
    · go_enter Try.func31, Try.ntmps31
      go_wp2
      go_ret
      have e2 : decide (n ≤ hi) = false := decide_eq_false (by omega)
      exact ⟨by show Ending.returned (.bool false) = _; rw [inB, e2, Bool.and_false], rfl⟩
  · go_enter Try.func31, Try.ntmps31
    go_wp2
    go_ret
    have e1 : decide (lo ≤ n) = false := decide_eq_false (by omega)
    exact ⟨by show Ending.returned (.bool false) = _; rw [inB, e1]; rfl, rfl⟩

theorem pw_in (p : Nat) (hp : p ≤ 31) : (0 : Int) < 2 ^ p ∧ (2 : Int) ^ p ≤ 2147483648 := by
  have h : (2 : Nat) ^ p ≤ 2 ^ 31 := Nat.pow_le_pow_right (by decide) hp
  have h0 : 0 < (2 : Nat) ^ p := Nat.pow_pos (by decide)
  have : (((2 : Nat) ^ p : Nat) : Int) = (2 : Int) ^ p := by simp
  omega

theorem mul_in {v P : Int} (v0 : 0 ≤ v) (v1 : v < 4294967296) (p0 : 0 < P) (p1 : P ≤ 2147483648) : 0 ≤ v * P ∧ v * P < 9223372036854775808 := by
  refine ⟨Int.mul_nonneg v0 (Int.le_of_lt p0), ?_⟩
  have h1 : v * P ≤ 4294967295 * P := Int.mul_le_mul_of_nonneg_right (by omega) (Int.le_of_lt p0)
  omega

theorem rat_c (v : Int) (p : Nat) (v0 : 0 ≤ v) (v1 : v < 4294967296) (hp : p ≤ 31) (w : World) : Calls Try.prog 32 #[.int .i64 v, .int .i64 p] w fun e w' => e = .returned (.int .i64 (v * 2 ^ p)) ∧ w' = w := by
  have hP := pw_in p hp
  have hm := mul_in v0 v1 hP.1 hP.2
  have hq : wrap64 (2 ^ p) = 2 ^ p := by unfold wrap64; omega
  have hz : wrap64 (v * 2 ^ p) = v * 2 ^ p := by unfold wrap64; omega
  go_enter Try.func32, Try.ntmps32
  go_wp2
  go_ret
  exact ⟨rfl, rfl⟩

theorem rbits_c (n : Int) (f m : Nat) (hf : f ≤ 31) (hm : m ≤ 31) (w : World) : Calls Try.prog 33 #[.int .i64 n, .int .i64 f, .int .i64 m] w fun e w' => e = .returned (.int .i64 (n % 4294967296 / 2 ^ f % 2 ^ m)) ∧ w' = w := by
  have hF := pw_in f hf
  have hM := pw_in m hm
  have hq : wrap64 (2 ^ f) = 2 ^ f := by unfold wrap64; omega
  have hz : wrap64 (2 ^ m) = 2 ^ m := by unfold wrap64; omega
  have t1 := Int.tmod_lt_of_pos n (show (0 : Int) < 4294967296 by decide)
  have t2 := Int.lt_tmod_of_pos n (show (0 : Int) < 4294967296 by decide)
  have t3 : (n.tmod 4294967296 + 4294967296).tmod 4294967296 = n % 4294967296 := by
    have t0 := Int.mul_tdiv_add_tmod n 4294967296
    rw [Int.tmod_eq_emod_of_nonneg (by omega)]
    omega
  have t4 : 0 ≤ n % 4294967296 := Int.emod_nonneg _ (by decide)
  have t5 : (n % 4294967296).tdiv (2 ^ f) = n % 4294967296 / 2 ^ f := Int.tdiv_eq_ediv_of_nonneg t4
  have t6 : (n % 4294967296 / 2 ^ f).tmod (2 ^ m) = n % 4294967296 / 2 ^ f % 2 ^ m := Int.tmod_eq_emod_of_nonneg (Int.ediv_nonneg t4 (Int.le_of_lt hF.1))
  have t8 := Int.ediv_nonneg t4 (Int.le_of_lt hF.1)
  have t9 : n % 4294967296 / 2 ^ f ≤ n % 4294967296 := Int.ediv_le_self _ t4
  have t7 : wrap64 (n % 4294967296 / 2 ^ f) = n % 4294967296 / 2 ^ f := by unfold wrap64; generalize n % 4294967296 / 2 ^ f = q at *; omega
  have z1 : ¬ (2 : Int) ^ f = 0 := by omega
  have z2 : ¬ (2 : Int) ^ m = 0 := by omega
  have z3 : ¬ (2 : Int) ^ f = -1 := by omega
  go_enter Try.func33, Try.ntmps33
  go_wp2
  go_ret
  exact ⟨rfl, rfl⟩

theorem rsigned_c (n : Int) (m : Nat) (n0 : 0 ≤ n) (n1 : n < 2147483648) (hm : 1 ≤ m) (hm2 : m ≤ 31) (w : World) : Calls Try.prog 36 #[.int .i64 n, .int .i64 m] w fun e w' => e = .returned (.int .i64 (sgd n (2 ^ (m - 1)))) ∧ w' = w := by
  have hP := pw_in m hm2
  have hQ := pw_in (m - 1) (by omega)
  have e : (2 : Int) ^ m = 2 * 2 ^ (m - 1) := by
    obtain ⟨k, rfl⟩ : ∃ k, m = k + 1 := ⟨m - 1, by omega⟩
    rw [Nat.add_sub_cancel, Int.pow_succ]
    omega
  have hq : wrap64 (2 ^ m) = 2 ^ m := by unfold wrap64; omega
  have hz : wrap64 (2 ^ (m - 1)) = 2 ^ (m - 1) := by unfold wrap64; omega
  have c1 : ((m : Int) - 1) = ((m - 1 : Nat) : Int) := by omega
  by_cases h : 2 ^ (m - 1) ≤ n
  · go_enter Try.func36, Try.ntmps36
    go_wp2
    go_ret
    exact ⟨by first | rfl | (rw [sgd, if_pos h]; rfl), rfl⟩
  · go_enter Try.func36, Try.ntmps36
    go_wp2
    go_ret
    exact ⟨by first | rfl | (rw [sgd, if_neg (by omega)]; rfl), rfl⟩
end Go.Proofs.Ytiiebppcamaliaa
