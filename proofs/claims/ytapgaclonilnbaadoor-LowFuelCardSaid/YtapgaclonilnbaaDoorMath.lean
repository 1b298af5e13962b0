/-
  Proved: what masks and turns of numbers are.
-/
import Derived.Test.YtapgaclonilnbaaDoorKit
namespace Go.Proofs.YtapgaclonilnbaaDoor
open Go.RowKit

theorem and_mask (v : Int) (n : Nat) (hn : n ≤ 62) : bits .and .i64 v (2 ^ n - 1 : Int) = v % 2 ^ n := by
  have hp : (2 : Nat) ^ n < 2 ^ 63 := Nat.pow_lt_pow_right (by decide) (by omega)
  have hp0 : 0 < (2 : Nat) ^ n := Nat.pow_pos (by decide)
  have hc : ((2 : Int) ^ n - 1) = ((2 ^ n - 1 : Nat) : Int) := by
    rw [Int.natCast_sub (by omega)]; simp
  show IntKind.i64.wrap ((BitVec.ofInt 64 v &&& BitVec.ofInt 64 (2 ^ n - 1 : Int)).toNat : Int) = _
  have hb : (BitVec.ofInt 64 (2 ^ n - 1 : Int)).toNat = 2 ^ n - 1 := by
    rw [hc, BitVec.ofInt_natCast, BitVec.toNat_ofNat]; exact Nat.mod_eq_of_lt (by omega)
  have ha : ((BitVec.ofInt 64 v).toNat : Int) = v % 18446744073709551616 := by
    rw [BitVec.toNat_ofInt]
    have : 0 ≤ v % ((2 ^ 64 : Nat) : Int) := Int.emod_nonneg _ (by decide)
    rw [Int.toNat_of_nonneg this]; rfl
  rw [BitVec.toNat_and, hb, Nat.and_two_pow_sub_one_eq_mod]
  have e : (((BitVec.ofInt 64 v).toNat % 2 ^ n : Nat) : Int) = v % 2 ^ n := by
    rw [Int.natCast_emod, ha]
    have hd : ((2 : Int) ^ n) ∣ 18446744073709551616 := ⟨2 ^ (64 - n), by rw [← Int.pow_add, show n + (64 - n) = 64 by omega]; rfl⟩
    have : (((2 : Nat) ^ n : Nat) : Int) = (2 : Int) ^ n := by simp
    rw [this, Int.emod_emod_of_dvd v hd]
  rw [e]
  have h0 : 0 ≤ v % (2 : Int) ^ n := Int.emod_nonneg _ (by have : (0 : Int) < 2 ^ n := Int.pow_pos (by decide); omega)
  have h1 : v % (2 : Int) ^ n < 2 ^ n := Int.emod_lt_of_pos _ (Int.pow_pos (by decide))
  have h2 : (2 : Int) ^ n < 9223372036854775808 := by
    have : (((2 : Nat) ^ n : Nat) : Int) = (2 : Int) ^ n := by simp
    omega
  simp only [IntKind.wrap, IntKind.bits, IntKind.signed]
  simp
  omega

theorem turn_of (b n : Int) (hn : 0 < n) (hn' : n ≤ 1000) : ∃ t : Nat, (wrap64 (b.tmod n + n)).tmod n = (t : Int) ∧ (t : Int) < n := by
  have h1 := Int.tmod_lt_of_pos b hn
  have h2 := Int.lt_tmod_of_pos b hn
  have h3 : wrap64 (b.tmod n + n) = b.tmod n + n := by unfold wrap64; omega
  have h4 : 0 ≤ (b.tmod n + n) % n := Int.emod_nonneg _ (by omega)
  have h5 : (b.tmod n + n) % n < n := Int.emod_lt_of_pos _ hn
  refine ⟨((b.tmod n + n) % n).toNat, ?_, ?_⟩
  · rw [h3, Int.tmod_eq_emod_of_nonneg (by omega)]; omega
  · omega

end Go.Proofs.YtapgaclonilnbaaDoor
