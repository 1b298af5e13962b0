/-
  Proved: what layout.Split and layout.Fits answer of any number.
-/
import Derived.Test.YtligjglleomeeaaDoorRows
import Derived.WalkKit
import Derived.ProofKit
import Derived.BigQuiet
import Derived.OwnWalk
namespace Go.Proofs.YtligjglleomeeaaDoor
open Go.RowKit

/-- The lower part of a word, and the upper one. -/
def lowP (n : Int) : Int := (n + 2048) % 4096 - 2048
def uppP (n : Int) : Int := (n + 2048) / 4096 % 1048576

/-- Does a number fit? -/
def fitB (n : Int) (s : Bool) : Bool := if s then decide (0 ≤ n ∧ n ≤ 31) else decide (-2048 ≤ n ∧ n ≤ 2047)

theorem pfits_c (n : Int) (s : Bool) (w : World) : Calls Tryd.prog 6 #[.int .i64 n, .bool s] w fun e w' => e = .returned (.bool (fitB n s)) ∧ w' = w := by
  cases s
  · by_cases h1 : -2048 ≤ n
    · go_enter Tryd.func6, Tryd.ntmps6
      go_wp2
      go_ret
      exact ⟨by simp [fitB, h1], rfl⟩
    · go_enter Tryd.func6, Tryd.ntmps6
      go_wp2
      go_ret
      exact ⟨by simp [fitB]; omega, rfl⟩
  · by_cases h1 : 0 ≤ n
    · go_enter Tryd.func6, Tryd.ntmps6
      go_wp2
      go_ret
      exact ⟨by simp [fitB, h1], rfl⟩
    · go_enter Tryd.func6, Tryd.ntmps6
      go_wp2
      go_ret
      exact ⟨by simp [fitB]; omega, rfl⟩

theorem low_is (n : Int) : wrap32 (n % 4294967296 * 1048576 % 4294967296) / 1048576 = lowP n := by
  unfold wrap32 lowP
  omega
theorem low_64 (n : Int) : wrap64 (lowP n) = lowP n := by
  unfold wrap64 lowP
  omega
theorem upp_is (n : Int) : (n - lowP n) % 4294967296 / 4096 = uppP n := by
  unfold uppP lowP
  omega

theorem psplit_c (n : Int) (w : World) : Calls Tryd.prog 5 #[.int .i64 n] w fun e w' => e = .returned (.tuple #[.int .i64 (uppP n), .int .i64 (lowP n)]) ∧ w' = w := by
  go_enter Tryd.func5, Tryd.ntmps5
  go_wp2
  go_ret2
  refine ⟨?_, rfl⟩
  have e1 : uppP n = (n - wrap32 (n % 4294967296 * 1048576 % 4294967296) / 1048576) % 4294967296 / 4096 := by rw [low_is, upp_is]
  have e2 : lowP n = wrap64 (wrap32 (n % 4294967296 * 1048576 % 4294967296) / 1048576) := by rw [low_is, low_64]
  rw [e1, e2]
  rfl
end Go.Proofs.YtligjglleomeeaaDoor
