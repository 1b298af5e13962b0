/-
  Proved: plain facts on whole numbers that the walks of this seat use: masking by 2^n - 1 is the rest modulo 2^n, and where a wrapped number lies. No condition on the program; nothing of the translation is named here.
-/
import Derived.RowKit
import Derived.Laws.Entries
namespace Go.Proofs.YtjcinojbbfjnjaaDoor
open Go.RowKit

theorem and_mask (v : Int) (n : Nat) (hn : n ≤ 62) : bits .and .i64 v (2 ^ n - 1 : Int) = v % 2 ^ n := by
  have hp : (2 : Nat) ^ n < 2 ^ 63 := Nat.pow_lt_pow_right (by decide) (by omega)
  have hp0 : 0 < (2 : Nat) ^ n := Nat.pow_pos (by decide)
  have hc : ((2 : Int) ^ n - 1) = ((2 ^ n - 1 : Nat) : Int) := by
    rw [Int.natCast_sub (by omega)]; simp
  show IntKind.i64.wrap ((BitVec.ofInt 64 v &&& BitVec.ofInt 64 (2 ^ n - 1 : Int)).toNat : Int) = _
  have hb : (BitVec.ofInt 64 (2 ^ n - 1 : Int)).toNat = 2 ^ n - 1 := by
    rw [hc, BitVec.ofInt_natCast, BitVec.toNat_ofNat]; exact Nat.mod_eq_of_lt (by omega)
  have ha : ((BitVec.ofInt 64 v).toNat : Int) = v % 18446744073709551616 := by
    rw [BitVec.toNat_ofInt]
    have : 0 ≤ v % ((2 ^ 64 : Nat) : Int) := Int.emod_nonneg _ (by decide)
    rw [Int.toNat_of_nonneg this]; rfl
  rw [BitVec.toNat_and, hb, Nat.and_two_pow_sub_one_eq_mod]
  have e : (((BitVec.ofInt 64 v).toNat % 2 ^ n : Nat) : Int) = v % 2 ^ n := by
    rw [Int.natCast_emod, ha]
    have hd : ((2 : Int) ^ n) ∣ 18446744073709551616 := ⟨2 ^ (64 - n), by rw [← Int.pow_add, show n + (64 - n) = 64 by omega]; rfl⟩
    have : (((2 : Nat) ^ n : Nat) : Int) = (2 : Int) ^ n := by simp
    rw [this, Int.emod_emod_of_dvd v hd]
  rw [e]
  have h0 : 0 ≤ v % (2 : Int) ^ n := Int.emod_nonneg _ (by have : (0 : Int) < 2 ^ n := Int.pow_pos (by decide); omega)
  have h1 : v % (2 : Int) ^ n < 2 ^ n := Int.emod_lt_of_pos _ (Int.pow_pos (by decide))
  have h2 : (2 : Int) ^ n < 9223372036854775808 := by
    have : (((2 : Nat) ^ n : Nat) : Int) = (2 : Int) ^ n := by simp
    omega
  simp only [IntKind.wrap, IntKind.bits, IntKind.signed]
  simp
  omega

theorem and8 (v : Int) : bits .and .i64 v 255 = v % 256 := and_mask v 8 (by decide)
theorem and16 (v : Int) : bits .and .i64 v 65535 = v % 65536 := and_mask v 16 (by decide)
theorem and32 (v : Int) : bits .and .i64 v 4294967295 = v % 4294967296 := and_mask v 32 (by decide)

/-- The kind k has n bits, and a sign or none. -/
def Sh (k n : Int) (s : Bool) : Prop :=
  (k = 3 ∧ n = 8 ∧ s = true) ∨ (k = 4 ∧ n = 16 ∧ s = true) ∨ (k = 5 ∧ n = 32 ∧ s = true) ∨ (k = 6 ∧ n = 8 ∧ s = false) ∨ (k = 7 ∧ n = 16 ∧ s = false) ∨ (k = 8 ∧ n = 32 ∧ s = false) ∨ (k = 0 ∧ n = 0 ∧ s = false) ∨ (k = 1 ∧ n = 0 ∧ s = false) ∨ (k = 2 ∧ n = 0 ∧ s = false) ∨ (k < 0 ∧ n = 0 ∧ s = false) ∨ (8 < k ∧ n = 0 ∧ s = false)

/-- The kind k has the numbers from l to m. -/
def Rg (k l m : Int) : Prop :=
  (k = 3 ∧ l = -128 ∧ m = 127) ∨ (k = 4 ∧ l = -32768 ∧ m = 32767) ∨ (k = 5 ∧ l = -2147483648 ∧ m = 2147483647) ∨ (k = 6 ∧ l = 0 ∧ m = 255) ∨ (k = 7 ∧ l = 0 ∧ m = 65535) ∨ (k = 8 ∧ l = 0 ∧ m = 4294967295) ∨ ((k < 3 ∨ 8 < k) ∧ l = 0 ∧ m = 0)

/-- v in the kind k, modulo two to its bits. -/
def wr (k v : Int) : Int :=
  if k = 3 then (v + 128) % 256 - 128 else if k = 4 then (v + 32768) % 65536 - 32768 else if k = 5 then (v + 2147483648) % 4294967296 - 2147483648
  else if k = 6 then v % 256 else if k = 7 then v % 65536 else if k = 8 then v % 4294967296 else 0

theorem Sh.ex (k : Int) : ∃ n s, Sh k n s := by
  unfold Sh
  by_cases h3 : k = 3
  · exact ⟨8, true, by simp; omega⟩
  by_cases h4 : k = 4
  · exact ⟨16, true, by simp; omega⟩
  by_cases h5 : k = 5
  · exact ⟨32, true, by simp; omega⟩
  by_cases h6 : k = 6
  · exact ⟨8, false, by simp; omega⟩
  by_cases h7 : k = 7
  · exact ⟨16, false, by simp; omega⟩
  by_cases h8 : k = 8
  · exact ⟨32, false, by simp; omega⟩
  exact ⟨0, false, by simp; omega⟩

theorem Rg.ex (k : Int) : ∃ l m, Rg k l m := by
  unfold Rg
  by_cases h3 : k = 3
  · exact ⟨_, _, .inl ⟨h3, rfl, rfl⟩⟩
  by_cases h4 : k = 4
  · exact ⟨_, _, .inr (.inl ⟨h4, rfl, rfl⟩)⟩
  by_cases h5 : k = 5
  · exact ⟨_, _, .inr (.inr (.inl ⟨h5, rfl, rfl⟩))⟩
  by_cases h6 : k = 6
  · exact ⟨_, _, .inr (.inr (.inr (.inl ⟨h6, rfl, rfl⟩)))⟩
  by_cases h7 : k = 7
  · exact ⟨_, _, .inr (.inr (.inr (.inr (.inl ⟨h7, rfl, rfl⟩))))⟩
  by_cases h8 : k = 8
  · exact ⟨_, _, .inr (.inr (.inr (.inr (.inr (.inl ⟨h8, rfl, rfl⟩)))))⟩
  exact ⟨0, 0, by omega⟩

end Go.Proofs.YtjcinojbbfjnjaaDoor
