/-
  Proved: words, as the reference of mir makes them: Word, whole, high, power, flag, divide.
-/
import Derived.Test.YtgjjapmhcbenbaaRows
import Derived.WalkKit
import Derived.ProofKit
import Derived.BigQuiet
import Derived.OwnWalk
namespace Go.Proofs.Ytgjjapmhcbenbaa
open Go.RowKit

/-- A number as a word. -/
def wd (n : Int) : Int := (n + 2147483648) % 4294967296 - 2147483648
/-- .. from 0 on. -/
def wh (n : Int) : Int := n % 4294967296

theorem wd_in (n : Int) : -2147483648 ≤ wd n ∧ wd n ≤ 2147483647 := by unfold wd; omega
theorem wh_in (n : Int) : 0 ≤ wh n ∧ wh n ≤ 4294967295 := by unfold wh; omega
theorem wd_of (n : Int) (h : -2147483648 ≤ n ∧ n ≤ 2147483647) : wd n = n := by unfold wd; omega

theorem tmod_twice (n P : Int) (hP : 0 < P) : (n.tmod P + P).tmod P = n % P := by
  have h1 := Int.lt_tmod_of_pos n hP
  rw [Int.tmod_eq_emod_of_nonneg (by omega), Int.add_emod_right]
  rw [Int.tmod_eq_emod]
  split
  · simp
  · rw [Int.sub_emod, Int.emod_emod_of_dvd _ (Int.dvd_refl _)]
    have : (P.natAbs : Int) = P := by omega
    rw [this]
    simp

theorem and_mask (v : Int) (n : Nat) (hn : n ≤ 62) : bits .and .i64 v (2 ^ n - 1 : Int) = v % 2 ^ n := by
  have hp : (2 : Nat) ^ n < 2 ^ 63 := Nat.pow_lt_pow_right (by decide) (by omega)
  have hp0 : 0 < (2 : Nat) ^ n := Nat.pow_pos (by decide)
  have hc : ((2 : Int) ^ n - 1) = ((2 ^ n - 1 : Nat) : Int) := by
    rw [Int.natCast_sub (by omega)]; simp
  show IntKind.i64.wrap ((BitVec.ofInt 64 v &&& BitVec.ofInt 64 (2 ^ n - 1 : Int)).toNat : Int) = _
  have hb : (BitVec.ofInt 64 (2 ^ n - 1 : Int)).toNat = 2 ^ n - 1 := by
    rw [hc, BitVec.ofInt_natCast, BitVec.toNat_ofNat]; exact Nat.mod_eq_of_lt (by omega)
  have ha : ((BitVec.ofInt 64 v).toNat : Int) = v % 18446744073709551616 := by
    rw [BitVec.toNat_ofInt]
    have : 0 ≤ v % ((2 ^ 64 : Nat) : Int) := Int.emod_nonneg _ (by decide)
    rw [Int.toNat_of_nonneg this]; rfl
  rw [BitVec.toNat_and, hb, Nat.and_two_pow_sub_one_eq_mod]
  have e : (((BitVec.ofInt 64 v).toNat % 2 ^ n : Nat) : Int) = v % 2 ^ n := by
    rw [Int.natCast_emod, ha]
    have hd : ((2 : Int) ^ n) ∣ 18446744073709551616 := ⟨2 ^ (64 - n), by rw [← Int.pow_add, show n + (64 - n) = 64 by omega]; rfl⟩
    have : (((2 : Nat) ^ n : Nat) : Int) = (2 : Int) ^ n := by simp
    rw [this, Int.emod_emod_of_dvd v hd]
  rw [e]
  have h0 : 0 ≤ v % (2 : Int) ^ n := Int.emod_nonneg _ (by have : (0 : Int) < 2 ^ n := Int.pow_pos (by decide); omega)
  have h1 : v % (2 : Int) ^ n < 2 ^ n := Int.emod_lt_of_pos _ (Int.pow_pos (by decide))
  have h2 : (2 : Int) ^ n < 9223372036854775808 := by
    have : (((2 : Nat) ^ n : Nat) : Int) = (2 : Int) ^ n := by simp
    omega
  simp only [IntKind.wrap, IntKind.bits, IntKind.signed]
  simp
  omega

theorem word_c (n : Int) (w : World) : Calls Try.prog 8 #[.int .i64 n] w fun e w' => e = .returned (.int .i64 (wd n)) ∧ w' = w := by
  have h1 := Int.lt_tmod_of_pos n (show (0 : Int) < 4294967296 by decide)
  have h2 := Int.tmod_lt_of_pos n (show (0 : Int) < 4294967296 by decide)
  have h3 := tmod_twice n 4294967296 (by decide)
  by_cases h4 : 2147483648 ≤ n % 4294967296
  · have h5 : wd n = n % 4294967296 - 4294967296 := by unfold wd; omega
    rw [h5]
    go_enter Try.func8, Try.ntmps8
    go_wp2
    go_ret
    exact ⟨rfl, rfl⟩
  · have h5 : wd n = n % 4294967296 := by unfold wd; omega
    rw [h5]
    go_enter Try.func8, Try.ntmps8
    go_wp2
    go_ret
    exact ⟨rfl, rfl⟩

theorem whole_c (n : Int) (w : World) : Calls Try.prog 10 #[.int .i64 n] w fun e w' => e = .returned (.int .i64 (wh n)) ∧ w' = w := by
  have h1 := Int.lt_tmod_of_pos n (show (0 : Int) < 4294967296 by decide)
  have h2 := Int.tmod_lt_of_pos n (show (0 : Int) < 4294967296 by decide)
  have h3 := tmod_twice n 4294967296 (by decide)
  go_enter Try.func10, Try.ntmps10
  go_wp2
  go_ret
  exact ⟨rfl, rfl⟩

theorem floor_twice (a P : Int) (hP : 0 < P) : (a - a % P).tdiv P = a / P := by
  have h : a - a % P = P * (a / P) := by have := Int.emod_add_mul_ediv a P; omega
  rw [h, Int.mul_tdiv_cancel_left _ (by omega)]

theorem mul_in {a b A B : Int} (ha : -A ≤ a) (ha' : a ≤ A) (hb : -B ≤ b) (hb' : b ≤ B) : -(A * B) ≤ a * b ∧ a * b ≤ A * B := by
  have h : a.natAbs * b.natAbs ≤ A.toNat * B.toNat := Nat.mul_le_mul (by omega) (by omega)
  have e1 : ((a * b).natAbs : Int) = ((a.natAbs * b.natAbs : Nat) : Int) := by rw [Int.natAbs_mul]
  have e2 : ((A.toNat * B.toNat : Nat) : Int) = A * B := by rw [Int.natCast_mul, Int.toNat_of_nonneg (by omega), Int.toNat_of_nonneg (by omega)]
  omega

/-- The upper half of a product. -/
def hi (a b : Int) : Int := a * b / 4294967296

theorem hi_eq (a b : Int) : (a / 65536 * b + a % 65536 * b / 65536) / 65536 = hi a b := by
  unfold hi
  have h : a * b = a % 65536 * b + a / 65536 * b * 65536 := by
    have := Int.emod_add_mul_ediv a 65536
    conv => lhs; rw [← this]
    rw [Int.add_mul, Int.mul_comm 65536 (a / 65536), Int.mul_assoc, Int.mul_comm 65536 b, ← Int.mul_assoc]
  have h2 : a * b / 65536 = a / 65536 * b + a % 65536 * b / 65536 := by
    rw [h, Int.add_mul_ediv_right _ _ (by decide), Int.add_comm]
  rw [← h2]
  generalize a * b = t
  omega

theorem high_c (a b : Int) (ha : -4294967296 ≤ a) (ha' : a ≤ 4294967296) (hb : -4294967296 ≤ b) (hb' : b ≤ 4294967296) (w : World) : Calls Try.prog 12 #[.int .i64 a, .int .i64 b] w fun e w' => e = .returned (.int .i64 (hi a b)) ∧ w' = w := by
  have hy : bits .and .i64 a 65535 = a % 65536 := and_mask a 16 (by decide)
  have hx := floor_twice a 65536 (by decide)
  have m1 := mul_in (a := a % 65536) (b := b) (A := 65536) (B := 4294967296) (by omega) (by omega) hb hb'
  have m2 := mul_in (a := a / 65536) (b := b) (A := 65537) (B := 4294967296) (by omega) (by omega) hb hb'
  have hE : Hid ((a / 65536 * b + a % 65536 * b / 65536) / 65536 = hi a b) := hi_eq a b
  have hd : 0 ≤ a % 65536 ∧ a % 65536 < 65536 := by omega
  have hm : a - a % 65536 = 65536 * (a / 65536) := by have := Int.emod_add_mul_ediv a 65536; omega
  obtain ⟨d1, d2⟩ := hd
  obtain ⟨m11, m12⟩ := m1
  obtain ⟨m21, m22⟩ := m2
  have x1 : -65537 ≤ a / 65536 := by omega
  have x2 : a / 65536 ≤ 65536 := by omega
  have b1 : -9223372036854775808 ≤ a - a % 65536 ∧ a - a % 65536 ≤ 9223372036854775807 := by omega
  clear hm
  generalize a / 65536 = X at *
  generalize a % 65536 = Y at *
  generalize hL : Y * b = L at *
  generalize hM : X * b = M at *
  have t1 := tmod_twice L 65536 (by decide)
  have t2 := floor_twice L 65536 (by decide)
  have t3 := Int.lt_tmod_of_pos L (show (0 : Int) < 65536 by decide)
  have t4 := Int.tmod_lt_of_pos L (show (0 : Int) < 65536 by decide)
  have u1 := tmod_twice (M + L / 65536) 65536 (by decide)
  have u2 := floor_twice (M + L / 65536) 65536 (by decide)
  have u3 := Int.lt_tmod_of_pos (M + L / 65536) (show (0 : Int) < 65536 by decide)
  have u4 := Int.tmod_lt_of_pos (M + L / 65536) (show (0 : Int) < 65536 by decide)
  go_enter Try.func12, Try.ntmps12
  go_wp2
  go_ret
  exact ⟨by rw [← hE.out]; rfl, rfl⟩

theorem power_c (b : Int) (h0 : 0 ≤ b) (h1 : b ≤ 32) (w : World) : Calls Try.prog 13 #[.int .i64 b] w fun e w' => e = .returned (.int .i64 (2 ^ b.toNat)) ∧ w' = w := by
  have p0 : (0 : Int) < 2 ^ b.toNat := Int.pow_pos (by decide)
  have p1 : (2 : Nat) ^ b.toNat ≤ 2 ^ 32 := Nat.pow_le_pow_right (by decide) (by omega)
  have e : ((2 ^ b.toNat : Nat) : Int) = (2 : Int) ^ b.toNat := by simp
  have p2 : (2 : Int) ^ b.toNat ≤ 4294967296 := by omega
  clear e p1
  go_enter Try.func13, Try.ntmps13
  go_wp2
  go_ret
  exact ⟨rfl, rfl⟩

theorem flag_c (q : Bool) (w : World) : Calls Try.prog 14 #[.bool q] w fun e w' => e = .returned (.int .i64 (if q then 1 else 0)) ∧ w' = w := by
  cases q
  all_goals (
    go_enter Try.func14, Try.ntmps14
    go_wp2
    go_ret
    exact ⟨rfl, rfl⟩)

def qt (a b : Int) : Int := if b = 0 then -1 else a.tdiv b
def rm (a b : Int) : Int := if b = 0 then a else a.tmod b

theorem divide_c (a b : Int) (ha : -4294967296 ≤ a) (ha' : a ≤ 4294967296) (w : World) : Calls Try.prog 11 #[.int .i64 a, .int .i64 b] w fun e w' => e = .returned (.tuple #[.int .i64 (qt a b), .int .i64 (rm a b)]) ∧ w' = w := by
  by_cases hb : b = 0
  · subst hb
    go_enter Try.func11, Try.ntmps11
    go_wp2
    go_ret2
    exact ⟨rfl, rfl⟩
  · have hb2 : (b == 0) = false := by simpa using hb
    have e1 : qt a b = a.tdiv b := if_neg hb
    have e2 : rm a b = a.tmod b := if_neg hb
    have e3 : a.tdiv b * b = a - a.tmod b := by have := Int.tmod_add_mul_tdiv a b; rw [Int.mul_comm] at this; omega
    have n1 : (a.tdiv b).natAbs ≤ a.natAbs := Int.natAbs_tdiv_le_natAbs a b
    have n2 : (a.tmod b).natAbs ≤ a.natAbs := by rw [Int.natAbs_tmod]; exact Nat.mod_le _ _
    have q1 : -4294967296 ≤ a.tdiv b := by omega
    have q2 : a.tdiv b ≤ 4294967296 := by omega
    have r1 : -4294967296 ≤ a.tmod b := by omega
    have r2 : a.tmod b ≤ 4294967296 := by omega
    rw [e1, e2]
    clear n1 n2 e1 e2
    go_enter Try.func11, Try.ntmps11
    go_wp2
    go_ret2
    exact ⟨by show Ending.returned (.tuple #[.int .i64 (a.tdiv b), .int .i64 (a - (a - a.tmod b))]) = _; rw [show a - (a - a.tmod b) = a.tmod b by omega], rfl⟩
end Go.Proofs.Ytgjjapmhcbenbaa
