/-
  Proved: what 'and' with a mask and 'or' of numbers that do not lie over one another are. Plain facts on numbers.
-/
import Derived.Test.YtcdeckbobabdkaaItab
import Derived.Test.YtcdeckbobabdkaaKit
namespace Go.Proofs.Ytcdeckbobabdkaa
open Go.RowKit

theorem nat_or_field (a k m v : Nat) (ha : a / 2 ^ k % 2 ^ m = 0) (hv : v < 2 ^ m) : a ||| (v * 2 ^ k) = a + v * 2 ^ k := by
  have hl : a % 2 ^ k < 2 ^ k := Nat.mod_lt _ (Nat.pow_pos (by decide))
  have e1 : a / 2 ^ k = 2 ^ m * (a / 2 ^ k / 2 ^ m) := by have := Nat.div_add_mod (a / 2 ^ k) (2 ^ m); omega
  have e2 : a = 2 ^ k * (2 ^ m * (a / 2 ^ k / 2 ^ m)) + a % 2 ^ k := by rw [← e1]; exact (Nat.div_add_mod a (2 ^ k)).symm
  generalize a / 2 ^ k / 2 ^ m = H at e2
  generalize a % 2 ^ k = L at e2 hl
  subst e2
  have h3 : 2 ^ k * (2 ^ m * H) = 2 ^ (k + m) * H := by rw [Nat.pow_add, Nat.mul_assoc]
  have h4 : 2 ^ k * v + L < 2 ^ (k + m) := by
    rw [Nat.pow_add]
    have h5 : 2 ^ k * (v + 1) ≤ 2 ^ k * 2 ^ m := Nat.mul_le_mul_left _ (by omega)
    rw [Nat.mul_add] at h5
    omega
  have h6 : (2 ^ k * (2 ^ m * H) + L) ||| v * 2 ^ k = 2 ^ (k + m) * H ||| (2 ^ k * v + L) := by
    rw [Nat.two_pow_add_eq_or_of_lt hl, Nat.two_pow_add_eq_or_of_lt hl, Nat.or_assoc, Nat.or_comm L, Nat.mul_comm v, h3]
  rw [h6, ← Nat.two_pow_add_eq_or_of_lt h4, h3, Nat.mul_comm v]
  omega

theorem or_u32 (a b : Nat) (ha : a < 4294967296) (hb : b < 4294967296) : bits .or .u32 (a : Int) (b : Int) = ((a ||| b : Nat) : Int) := by
  have hc : a ||| b < 2 ^ 32 := Nat.or_lt_two_pow ha hb
  show IntKind.u32.wrap ((BitVec.ofInt 32 a ||| BitVec.ofInt 32 b).toNat : Int) = _
  rw [BitVec.toNat_or, BitVec.ofInt_natCast, BitVec.ofInt_natCast, BitVec.toNat_ofNat, BitVec.toNat_ofNat, Nat.mod_eq_of_lt ha, Nat.mod_eq_of_lt hb]
  simp only [IntKind.wrap, IntKind.bits, IntKind.signed]
  simp
  omega

theorem or_i64 (a b : Nat) (ha : a < 4294967296) (hb : b < 4294967296) : bits .or .i64 (a : Int) (b : Int) = ((a ||| b : Nat) : Int) := by
  have hc : a ||| b < 2 ^ 32 := Nat.or_lt_two_pow ha hb
  show IntKind.i64.wrap ((BitVec.ofInt 64 a ||| BitVec.ofInt 64 b).toNat : Int) = _
  rw [BitVec.toNat_or, BitVec.ofInt_natCast, BitVec.ofInt_natCast, BitVec.toNat_ofNat, BitVec.toNat_ofNat, Nat.mod_eq_of_lt (by omega), Nat.mod_eq_of_lt (by omega)]
  simp only [IntKind.wrap, IntKind.bits, IntKind.signed]
  simp
  omega

/-- A field is set where a number has none. -/
theorem or_at (q : IntKind) (hq : q = .u32 ∨ q = .i64) (a v : Int) (k m : Nat) (a0 : 0 ≤ a) (a1 : a < 4294967296) (v0 : 0 ≤ v) (v1 : v < 2 ^ m) (hm : k + m ≤ 32) (ha : a / 2 ^ k % 2 ^ m = 0) :
    bits .or q a (v * 2 ^ k) = a + v * 2 ^ k := by
  obtain ⟨a, rfl⟩ := Int.eq_ofNat_of_zero_le a0
  obtain ⟨v, rfl⟩ := Int.eq_ofNat_of_zero_le v0
  have v2 : v < 2 ^ m := by exact_mod_cast v1
  have e : ((v : Int) * 2 ^ k) = ((v * 2 ^ k : Nat) : Int) := by simp
  have h1 : a / 2 ^ k % 2 ^ m = 0 := by
    have h : ((a / 2 ^ k % 2 ^ m : Nat) : Int) = 0 := by simpa using ha
    omega
  have h2 : v * 2 ^ k < 4294967296 := by
    have h3 : v * 2 ^ k < 2 ^ m * 2 ^ k := Nat.mul_lt_mul_of_pos_right v2 (Nat.pow_pos (by decide))
    rw [← Nat.pow_add] at h3
    have h4 : (2 : Nat) ^ (m + k) ≤ 2 ^ 32 := Nat.pow_le_pow_right (by decide) (by omega)
    omega
  rw [e]
  rcases hq with rfl | rfl
  · rw [or_u32 a _ (by omega) h2, nat_or_field a k m v h1 v2]; simp
  · rw [or_i64 a _ (by omega) h2, nat_or_field a k m v h1 v2]; simp

/-- Several are set one behind the other. -/
theorem or_more (a x y : Int) (a0 : 0 ≤ a) (a1 : a < 4294967296) (x0 : 0 ≤ x) (x1 : x < 4294967296) (y0 : 0 ≤ y) (y1 : y < 4294967296) (h : bits .or .u32 x y = x + y) :
    bits .or .u32 a (x + y) = bits .or .u32 (bits .or .u32 a x) y := by
  rw [← h]
  obtain ⟨a, rfl⟩ := Int.eq_ofNat_of_zero_le a0
  obtain ⟨x, rfl⟩ := Int.eq_ofNat_of_zero_le x0
  obtain ⟨y, rfl⟩ := Int.eq_ofNat_of_zero_le y0
  have hc : x ||| y < 2 ^ 32 := Nat.or_lt_two_pow (by omega) (by omega)
  have hd : a ||| x < 2 ^ 32 := Nat.or_lt_two_pow (by omega) (by omega)
  rw [or_u32 x y (by omega) (by omega), or_u32 a _ (by omega) (by omega), or_u32 a x (by omega) (by omega), or_u32 _ y (by omega) (by omega), Nat.or_assoc]

theorem and_u32 (v : Int) (n : Nat) (hn : n ≤ 31) : bits .and .u32 v (2 ^ n - 1 : Int) = v % 2 ^ n := by
  have hp : (2 : Nat) ^ n < 2 ^ 32 := Nat.pow_lt_pow_right (by decide) (by omega)
  have hp0 : 0 < (2 : Nat) ^ n := Nat.pow_pos (by decide)
  have hc : ((2 : Int) ^ n - 1) = ((2 ^ n - 1 : Nat) : Int) := by
    rw [Int.natCast_sub (by omega)]; simp
  show IntKind.u32.wrap ((BitVec.ofInt 32 v &&& BitVec.ofInt 32 (2 ^ n - 1 : Int)).toNat : Int) = _
  have hb : (BitVec.ofInt 32 (2 ^ n - 1 : Int)).toNat = 2 ^ n - 1 := by
    rw [hc, BitVec.ofInt_natCast, BitVec.toNat_ofNat]; exact Nat.mod_eq_of_lt (by omega)
  have ha : ((BitVec.ofInt 32 v).toNat : Int) = v % 4294967296 := by
    rw [BitVec.toNat_ofInt]
    have : 0 ≤ v % ((2 ^ 32 : Nat) : Int) := Int.emod_nonneg _ (by decide)
    rw [Int.toNat_of_nonneg this]; rfl
  rw [BitVec.toNat_and, hb, Nat.and_two_pow_sub_one_eq_mod]
  have e : (((BitVec.ofInt 32 v).toNat % 2 ^ n : Nat) : Int) = v % 2 ^ n := by
    rw [Int.natCast_emod, ha]
    have hd : ((2 : Int) ^ n) ∣ 4294967296 := ⟨2 ^ (32 - n), by rw [← Int.pow_add, show n + (32 - n) = 32 by omega]; rfl⟩
    have : (((2 : Nat) ^ n : Nat) : Int) = (2 : Int) ^ n := by simp
    rw [this, Int.emod_emod_of_dvd v hd]
  rw [e]
  have h0 : 0 ≤ v % (2 : Int) ^ n := Int.emod_nonneg _ (by have : (0 : Int) < 2 ^ n := Int.pow_pos (by decide); omega)
  have h1 : v % (2 : Int) ^ n < 2 ^ n := Int.emod_lt_of_pos _ (Int.pow_pos (by decide))
  have h2 : (2 : Int) ^ n < 4294967296 := by
    have : (((2 : Nat) ^ n : Nat) : Int) = (2 : Int) ^ n := by simp
    omega
  simp only [IntKind.wrap, IntKind.bits, IntKind.signed]
  simp
  omega

theorem pow_u32 (n : Nat) (hn : n ≤ 31) : ((2 : Int) ^ n - 1) % 4294967296 = 2 ^ n - 1 := by
  have hp : (2 : Nat) ^ n < 2 ^ 32 := Nat.pow_lt_pow_right (by decide) (by omega)
  have h2 : (((2 : Nat) ^ n : Nat) : Int) = (2 : Int) ^ n := by simp
  have hp0 : 0 < (2 : Nat) ^ n := Nat.pow_pos (by decide)
  omega
end Go.Proofs.Ytcdeckbobabdkaa
