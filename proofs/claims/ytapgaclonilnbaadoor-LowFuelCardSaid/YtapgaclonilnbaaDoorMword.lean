/-
  Proved: words, as the reference of mir makes them: Word, whole, high, power, flag, divide.
-/
import Derived.Test.YtapgaclonilnbaaDoorKit
import Derived.WalkKit
import Derived.ProofKit
import Derived.BigQuiet
import Derived.OwnWalk
namespace Go.Proofs.YtapgaclonilnbaaDoor
open Go.RowKit

/-- A number as a word. -/
def wd (n : Int) : Int := (n + 2147483648) % 4294967296 - 2147483648
/-- .. from 0 on. -/
def wh (n : Int) : Int := n % 4294967296

theorem wd_in (n : Int) : -2147483648 ≤ wd n ∧ wd n ≤ 2147483647 := by unfold wd; omega
theorem wh_in (n : Int) : 0 ≤ wh n ∧ wh n ≤ 4294967295 := by unfold wh; omega
theorem wd_of (n : Int) (h : -2147483648 ≤ n ∧ n ≤ 2147483647) : wd n = n := by unfold wd; omega

theorem tmod_twice (n P : Int) (hP : 0 < P) : (n.tmod P + P).tmod P = n % P := by
  have h1 := Int.lt_tmod_of_pos n hP
  rw [Int.tmod_eq_emod_of_nonneg (by omega), Int.add_emod_right]
  rw [Int.tmod_eq_emod]
  split
  · simp
  · rw [Int.sub_emod, Int.emod_emod_of_dvd _ (Int.dvd_refl _)]
    have : (P.natAbs : Int) = P := by omega
    rw [this]
    simp

theorem and_mask (v : Int) (n : Nat) (hn : n ≤ 62) : bits .and .i64 v (2 ^ n - 1 : Int) = v % 2 ^ n := by
  have hp : (2 : Nat) ^ n < 2 ^ 63 := Nat.pow_lt_pow_right (by decide) (by omega)
  have hp0 : 0 < (2 : Nat) ^ n := Nat.pow_pos (by decide)
  have hc : ((2 : Int) ^ n - 1) = ((2 ^ n - 1 : Nat) : Int) := by
    rw [Int.natCast_sub (by omega)]; simp
  show IntKind.i64.wrap ((BitVec.ofInt 64 v &&& BitVec.ofInt 64 (2 ^ n - 1 : Int)).toNat : Int) = _
  have hb : (BitVec.ofInt 64 (2 ^ n - 1 : Int)).toNat = 2 ^ n - 1 := by
    rw [hc, BitVec.ofInt_natCast, BitVec.toNat_ofNat]; exact Nat.mod_eq_of_lt (by omega)
  have ha : ((BitVec.ofInt 64 v).toNat : Int) = v % 18446744073709551616 := by
    rw [BitVec.toNat_ofInt]
    have : 0 ≤ v % ((2 ^ 64 : Nat) : Int) := Int.emod_nonneg _ (by decide)
    rw [Int.toNat_of_nonneg this]; rfl
  rw [BitVec.toNat_and, hb, Nat.and_two_pow_sub_one_eq_mod]
  have e : (((BitVec.ofInt 64 v).toNat % 2 ^ n : Nat) : Int) = v % 2 ^ n := by
    rw [Int.natCast_emod, ha]
    have hd : ((2 : Int) ^ n) ∣ 18446744073709551616 := ⟨2 ^ (64 - n), by rw [← Int.pow_add, show n + (64 - n) = 64 by omega]; rfl⟩
    have : (((2 : Nat) ^ n : Nat) : Int) = (2 : Int) ^ n := by simp
    rw [this, Int.emod_emod_of_dvd v hd]
  rw [e]
  have h0 : 0 ≤ v % (2 : Int) ^ n := Int.emod_nonneg _ (by have : (0 : Int) < 2 ^ n := Int.pow_pos (by decide); omega)
  have h1 : v % (2 : Int) ^ n < 2 ^ n := Int.emod_lt_of_pos _ (Int.pow_pos (by decide))
  have h2 : (2 : Int) ^ n < 9223372036854775808 := by
    have : (((2 : Nat) ^ n : Nat) : Int) = (2 : Int) ^ n := by simp
    omega
  simp only [IntKind.wrap, IntKind.bits, IntKind.signed]
  simp
  omega

theorem word_c (n : Int) (w : World) : Calls Tryd.prog 9 #[.int .i64 n] w fun e w' => e = .returned (.int .i64 (wd n)) ∧ w' = w := by
  have h1 := Int.lt_tmod_of_pos n (show (0 : Int) < 4294967296 by decide)
  have h2 := Int.tmod_lt_of_pos n (show (0 : Int) < 4294967296 by decide)
  have h3 := tmod_twice n 4294967296 (by decide)
  by_cases h4 : 2147483648 ≤ n % 4294967296
  · have h5 : wd n = n % 4294967296 - 4294967296 := by unfold wd; omega
    rw [h5]
    go_enter Tryd.func9, Tryd.ntmps9
    go_wp2
    go_ret
    exact ⟨rfl, rfl⟩
  · have h5 : wd n = n % 4294967296 := by unfold wd; omega
    rw [h5]
    go_enter Tryd.func9, Tryd.ntmps9
    go_wp2
    go_ret
    exact ⟨rfl, rfl⟩

theorem floor_twice (a P : Int) (hP : 0 < P) : (a - a % P).tdiv P = a / P := by
  have h : a - a % P = P * (a / P) := by have := Int.emod_add_mul_ediv a P; omega
  rw [h, Int.mul_tdiv_cancel_left _ (by omega)]

theorem mul_in {a b A B : Int} (ha : -A ≤ a) (ha' : a ≤ A) (hb : -B ≤ b) (hb' : b ≤ B) : -(A * B) ≤ a * b ∧ a * b ≤ A * B := by
  have h : a.natAbs * b.natAbs ≤ A.toNat * B.toNat := Nat.mul_le_mul (by omega) (by omega)
  have e1 : ((a * b).natAbs : Int) = ((a.natAbs * b.natAbs : Nat) : Int) := by rw [Int.natAbs_mul]
  have e2 : ((A.toNat * B.toNat : Nat) : Int) = A * B := by rw [Int.natCast_mul, Int.toNat_of_nonneg (by omega), Int.toNat_of_nonneg (by omega)]
  omega

/-- The upper half of a product. -/
def hi (a b : Int) : Int := a * b / 4294967296

theorem hi_eq (a b : Int) : (a / 65536 * b + a % 65536 * b / 65536) / 65536 = hi a b := by
  unfold hi
  have h : a * b = a % 65536 * b + a / 65536 * b * 65536 := by
    have := Int.emod_add_mul_ediv a 65536
    conv => lhs; rw [← this]
    rw [Int.add_mul, Int.mul_comm 65536 (a / 65536), Int.mul_assoc, Int.mul_comm 65536 b, ← Int.mul_assoc]
  have h2 : a * b / 65536 = a / 65536 * b + a % 65536 * b / 65536 := by
    rw [h, Int.add_mul_ediv_right _ _ (by decide), Int.add_comm]
  rw [← h2]
  generalize a * b = t
  omega

def qt (a b : Int) : Int := if b = 0 then -1 else a.tdiv b
def rm (a b : Int) : Int := if b = 0 then a else a.tmod b

end Go.Proofs.YtapgaclonilnbaaDoor
