/-
  Proved: words, as the reference of mir makes them: Word.
-/
import Derived.Test.YtaomojhjfkjkkaaRows
import Derived.WalkKit
import Derived.ProofKit
import Derived.BigQuiet
import Derived.OwnWalk
namespace Go.Proofs.Ytaomojhjfkjkkaa
open Go.RowKit

/-- A number as a word. -/
def wd (n : Int) : Int := (n + 2147483648) % 4294967296 - 2147483648
/-- .. from 0 on. -/
def wh (n : Int) : Int := n % 4294967296

theorem wd_in (n : Int) : -2147483648 ≤ wd n ∧ wd n ≤ 2147483647 := by unfold wd; omega
theorem wh_in (n : Int) : 0 ≤ wh n ∧ wh n ≤ 4294967295 := by unfold wh; omega
theorem wd_of (n : Int) (h : -2147483648 ≤ n ∧ n ≤ 2147483647) : wd n = n := by unfold wd; omega

theorem tmod_twice (n P : Int) (hP : 0 < P) : (n.tmod P + P).tmod P = n % P := by
  have h1 := Int.lt_tmod_of_pos n hP
  rw [Int.tmod_eq_emod_of_nonneg (by omega), Int.add_emod_right]
  rw [Int.tmod_eq_emod]
  split
  · simp
  · rw [Int.sub_emod, Int.emod_emod_of_dvd _ (Int.dvd_refl _)]
    have : (P.natAbs : Int) = P := by omega
    rw [this]
    simp

theorem word_c (n : Int) (w : World) : Calls Try.prog 8 #[.int .i64 n] w fun e w' => e = .returned (.int .i64 (wd n)) ∧ w' = w := by
  have h1 := Int.lt_tmod_of_pos n (show (0 : Int) < 4294967296 by decide)
  have h2 := Int.tmod_lt_of_pos n (show (0 : Int) < 4294967296 by decide)
  have h3 := tmod_twice n 4294967296 (by decide)
  by_cases h4 : 2147483648 ≤ n % 4294967296
  · have h5 : wd n = n % 4294967296 - 4294967296 := by unfold wd; omega
    rw [h5]
    go_enter Try.func8, Try.ntmps8
    go_wp2
    go_ret
    exact ⟨rfl, rfl⟩
  · have h5 : wd n = n % 4294967296 := by unfold wd; omega
    rw [h5]
    go_enter Try.func8, Try.ntmps8
    go_wp2
    go_ret
    exact ⟨rfl, rfl⟩

end Go.Proofs.Ytaomojhjfkjkkaa
