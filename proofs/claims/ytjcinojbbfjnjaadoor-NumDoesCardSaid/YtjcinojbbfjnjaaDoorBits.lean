/-
  Proved: 'and', 'or' and 'xor' of two numbers of an integer type lie in that type's range. Plain facts on numbers; nothing of the translation is named here.
-/
import Derived.Test.YtjcinojbbfjnjaaDoorMath
namespace Go.Proofs.YtjcinojbbfjnjaaDoor
open Go.RowKit

theorem wrap_toNat (x : BitVec 64) : IntKind.i64.wrap (x.toNat : Int) = x.toInt := by
  have h := x.isLt
  rw [BitVec.toInt_eq_toNat_cond]
  simp only [IntKind.wrap, IntKind.bits, IntKind.signed]
  simp
  split <;> omega

theorem ofInt_ext (n : Nat) (hn : n ≤ 64) (h0 : 0 < n) (a : Int) (h1 : -2 ^ (n - 1) ≤ a) (h2 : a < 2 ^ (n - 1)) : BitVec.ofInt 64 a = (BitVec.ofInt n a).signExtend 64 := by
  apply BitVec.eq_of_toInt_eq
  rw [BitVec.toInt_signExtend_of_le hn, BitVec.toInt_ofInt, BitVec.toInt_ofInt]
  have e1 : (2 : Int) ^ (n - 1) ≤ 2 ^ 63 := by
    have : (2 : Nat) ^ (n - 1) ≤ 2 ^ 63 := Nat.pow_le_pow_right (by decide) (by omega)
    have e : ((2 ^ (n - 1) : Nat) : Int) = (2 : Int) ^ (n - 1) := by simp
    have e' : ((2 ^ 63 : Nat) : Int) = (2 : Int) ^ 63 := by simp
    omega
  rw [Int.bmod_eq_of_le (by simp at *; omega) (by simp at *; omega)]
  have e2 : ((2 ^ n : Nat) : Int) = 2 * 2 ^ (n - 1) := by
    have : n = (n - 1) + 1 := by omega
    rw [this, Nat.pow_succ]; simp; omega
  rw [Int.bmod_eq_of_le (by omega) (by omega)]

theorem bits_signed (n : Nat) (hn : n ≤ 64) (h0 : 0 < n) (op : BinOp) (hop : op = .and ∨ op = .or ∨ op = .xor) (a b : Int) (a1 : -2 ^ (n - 1) ≤ a) (a2 : a < 2 ^ (n - 1)) (b1 : -2 ^ (n - 1) ≤ b) (b2 : b < 2 ^ (n - 1)) :
    -2 ^ (n - 1) ≤ bits op .i64 a b ∧ bits op .i64 a b < 2 ^ (n - 1) := by
  have key : ∃ z : BitVec n, bits op .i64 a b = z.toInt := by
    rcases hop with rfl | rfl | rfl
    · refine ⟨BitVec.ofInt n a &&& BitVec.ofInt n b, ?_⟩
      show IntKind.i64.wrap ((BitVec.ofInt 64 a &&& BitVec.ofInt 64 b).toNat : Int) = _
      rw [wrap_toNat, ofInt_ext n hn h0 a a1 a2, ofInt_ext n hn h0 b b1 b2, ← BitVec.signExtend_and, BitVec.toInt_signExtend_of_le hn]
    · refine ⟨BitVec.ofInt n a ||| BitVec.ofInt n b, ?_⟩
      show IntKind.i64.wrap ((BitVec.ofInt 64 a ||| BitVec.ofInt 64 b).toNat : Int) = _
      rw [wrap_toNat, ofInt_ext n hn h0 a a1 a2, ofInt_ext n hn h0 b b1 b2, ← BitVec.signExtend_or, BitVec.toInt_signExtend_of_le hn]
    · refine ⟨BitVec.ofInt n a ^^^ BitVec.ofInt n b, ?_⟩
      show IntKind.i64.wrap ((BitVec.ofInt 64 a ^^^ BitVec.ofInt 64 b).toNat : Int) = _
      rw [wrap_toNat, ofInt_ext n hn h0 a a1 a2, ofInt_ext n hn h0 b b1 b2, ← BitVec.signExtend_xor, BitVec.toInt_signExtend_of_le hn]
  obtain ⟨z, hz⟩ := key
  rw [hz]
  exact ⟨BitVec.le_toInt z, BitVec.toInt_lt⟩

theorem bits_unsigned (n : Nat) (hn : n ≤ 62) (op : BinOp) (hop : op = .and ∨ op = .or ∨ op = .xor) (a b : Int) (a1 : 0 ≤ a) (a2 : a < 2 ^ n) (b1 : 0 ≤ b) (b2 : b < 2 ^ n) :
    0 ≤ bits op .i64 a b ∧ bits op .i64 a b < 2 ^ n := by
  obtain ⟨x, rfl⟩ : ∃ x : Nat, a = x := ⟨a.toNat, by omega⟩
  obtain ⟨y, rfl⟩ : ∃ y : Nat, b = y := ⟨b.toNat, by omega⟩
  have e : ((2 ^ n : Nat) : Int) = (2 : Int) ^ n := by simp
  have hx : x < 2 ^ n := by omega
  have hy : y < 2 ^ n := by omega
  have hp : (2 : Nat) ^ n < 2 ^ 63 := Nat.pow_lt_pow_right (by decide) (by omega)
  have h1 : (BitVec.ofInt 64 (x : Int)).toNat = x := by
    rw [BitVec.ofInt_natCast, BitVec.toNat_ofNat]; exact Nat.mod_eq_of_lt (by omega)
  have h2 : (BitVec.ofInt 64 (y : Int)).toNat = y := by
    rw [BitVec.ofInt_natCast, BitVec.toNat_ofNat]; exact Nat.mod_eq_of_lt (by omega)
  have fin : ∀ z : Nat, z < 2 ^ n → 0 ≤ IntKind.i64.wrap (z : Int) ∧ IntKind.i64.wrap (z : Int) < 2 ^ n := by
    intro z hz
    have : IntKind.i64.wrap (z : Int) = z := by
      simp only [IntKind.wrap, IntKind.bits, IntKind.signed]
      simp
      omega
    rw [this]; omega
  rcases hop with rfl | rfl | rfl
  · show 0 ≤ IntKind.i64.wrap ((BitVec.ofInt 64 (x : Int) &&& BitVec.ofInt 64 (y : Int)).toNat : Int) ∧ IntKind.i64.wrap ((BitVec.ofInt 64 (x : Int) &&& BitVec.ofInt 64 (y : Int)).toNat : Int) < 2 ^ n
    rw [BitVec.toNat_and, h1, h2]; exact fin _ (Nat.and_lt_two_pow _ hy)
  · show 0 ≤ IntKind.i64.wrap ((BitVec.ofInt 64 (x : Int) ||| BitVec.ofInt 64 (y : Int)).toNat : Int) ∧ IntKind.i64.wrap ((BitVec.ofInt 64 (x : Int) ||| BitVec.ofInt 64 (y : Int)).toNat : Int) < 2 ^ n
    rw [BitVec.toNat_or, h1, h2]; exact fin _ (Nat.or_lt_two_pow hx hy)
  · show 0 ≤ IntKind.i64.wrap ((BitVec.ofInt 64 (x : Int) ^^^ BitVec.ofInt 64 (y : Int)).toNat : Int) ∧ IntKind.i64.wrap ((BitVec.ofInt 64 (x : Int) ^^^ BitVec.ofInt 64 (y : Int)).toNat : Int) < 2 ^ n
    rw [BitVec.toNat_xor, h1, h2]; exact fin _ (Nat.xor_lt_two_pow hx hy)

theorem bits_in {k l m : Int} (h : Rg k l m) (h1 : 3 ≤ k) (h2 : k ≤ 8) (op : BinOp) (hop : op = .and ∨ op = .or ∨ op = .xor) (a b : Int) (a1 : l ≤ a) (a2 : a ≤ m) (b1 : l ≤ b) (b2 : b ≤ m) :
    l ≤ bits op .i64 a b ∧ bits op .i64 a b ≤ m := by
  unfold Rg at h
  rcases h with ⟨rfl, rfl, rfl⟩ | ⟨rfl, rfl, rfl⟩ | ⟨rfl, rfl, rfl⟩ | ⟨rfl, rfl, rfl⟩ | ⟨rfl, rfl, rfl⟩ | ⟨rfl, rfl, rfl⟩ | ⟨hk, rfl, rfl⟩
  · have := bits_signed 8 (by decide) (by decide) op hop a b (by simp; omega) (by simp; omega) (by simp; omega) (by simp; omega)
    simp at this; omega
  · have := bits_signed 16 (by decide) (by decide) op hop a b (by simp; omega) (by simp; omega) (by simp; omega) (by simp; omega)
    simp at this; omega
  · have := bits_signed 32 (by decide) (by decide) op hop a b (by simp; omega) (by simp; omega) (by simp; omega) (by simp; omega)
    simp at this; omega
  · have := bits_unsigned 8 (by decide) op hop a b (by omega) (by simp; omega) (by omega) (by simp; omega)
    simp at this; omega
  · have := bits_unsigned 16 (by decide) op hop a b (by omega) (by simp; omega) (by omega) (by simp; omega)
    simp at this; omega
  · have := bits_unsigned 32 (by decide) op hop a b (by omega) (by simp; omega) (by omega) (by simp; omega)
    simp at this; omega
  · omega

theorem tmod_le (a b : Int) (h : 0 ≤ a) : a.tmod b ≤ a := by
  obtain ⟨m, rfl⟩ : ∃ m : Nat, a = m := ⟨a.toNat, by omega⟩
  cases b with
  | ofNat n => exact Int.ofNat_le.2 (Nat.mod_le m n)
  | negSucc n => exact Int.ofNat_le.2 (Nat.mod_le m (n + 1))

theorem tmod_between (a b : Int) : (0 ≤ a → 0 ≤ a.tmod b ∧ a.tmod b ≤ a) ∧ (a ≤ 0 → a ≤ a.tmod b ∧ a.tmod b ≤ 0) := by
  refine ⟨fun h => ⟨Int.tmod_nonneg b h, ?_⟩, fun h => ?_⟩
  · exact tmod_le a b h
  · have e : a.tmod b = -((-a).tmod b) := by rw [Int.neg_tmod]; omega
    have h1 := Int.tmod_nonneg b (show 0 ≤ -a by omega)
    have h2 : (-a).tmod b ≤ -a := tmod_le _ b (by omega)
    omega

theorem ediv_between (a : Int) (n : Nat) : (0 ≤ a → 0 ≤ a / 2 ^ n ∧ a / 2 ^ n ≤ a) ∧ (a ≤ 0 → a ≤ a / 2 ^ n ∧ a / 2 ^ n ≤ 0) := by
  have p : (0 : Int) < 2 ^ n := Int.pow_pos (by decide)
  have e := Int.mul_ediv_add_emod a (2 ^ n)
  have r0 := Int.emod_nonneg a (show (2 : Int) ^ n ≠ 0 by omega)
  have r1 := Int.emod_lt_of_pos a p
  refine ⟨fun h => ⟨Int.ediv_nonneg h (by omega), Int.ediv_le_self _ h⟩, fun h => ⟨?_, Int.ediv_nonpos_of_nonpos_of_neg h (by omega)⟩⟩
  rw [Int.le_ediv_iff_mul_le p]
  have : (2 : Int) ^ n * a ≤ 1 * a := Int.mul_le_mul_of_nonpos_right (by omega) h
  rw [Int.mul_comm]; omega
end Go.Proofs.YtjcinojbbfjnjaaDoor
