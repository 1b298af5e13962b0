/-
  Proved: 'and', 'or', 'xor' of two words are the same at 32 bits and at 64; what is kept of a word by 31. Plain facts on numbers.
-/
import Derived.Test.YtapgaclonilnbaaDoorMdo
namespace Go.Proofs.YtapgaclonilnbaaDoor
open Go.RowKit

theorem wrap_toNat64 (x : BitVec 64) : IntKind.i64.wrap (x.toNat : Int) = x.toInt := by
  have h := x.isLt
  rw [BitVec.toInt_eq_toNat_cond]
  simp only [IntKind.wrap, IntKind.bits, IntKind.signed]
  simp
  split <;> omega

theorem wrap_toNat32 (x : BitVec 32) : IntKind.i32.wrap (x.toNat : Int) = x.toInt := by
  have h := x.isLt
  rw [BitVec.toInt_eq_toNat_cond]
  simp only [IntKind.wrap, IntKind.bits, IntKind.signed]
  simp
  split <;> omega

theorem ofInt_ext32 (a : Int) (h1 : -2147483648 ≤ a) (h2 : a ≤ 2147483647) : BitVec.ofInt 64 a = (BitVec.ofInt 32 a).signExtend 64 := by
  apply BitVec.eq_of_toInt_eq
  rw [BitVec.toInt_signExtend_of_le (by decide), BitVec.toInt_ofInt, BitVec.toInt_ofInt]
  rw [Int.bmod_eq_of_le (by simp; omega) (by simp; omega), Int.bmod_eq_of_le (by simp; omega) (by simp; omega)]

theorem bits_32 (op : BinOp) (hop : op = .and ∨ op = .or ∨ op = .xor) (a b : Int) (a1 : -2147483648 ≤ a) (a2 : a ≤ 2147483647) (b1 : -2147483648 ≤ b) (b2 : b ≤ 2147483647) :
    bits op .i32 a b = bits op .i64 a b ∧ -2147483648 ≤ bits op .i64 a b ∧ bits op .i64 a b ≤ 2147483647 := by
  have key : ∃ z : BitVec 32, bits op .i64 a b = z.toInt ∧ bits op .i32 a b = z.toInt := by
    rcases hop with rfl | rfl | rfl
    · refine ⟨BitVec.ofInt 32 a &&& BitVec.ofInt 32 b, ?_, ?_⟩
      · show IntKind.i64.wrap ((BitVec.ofInt 64 a &&& BitVec.ofInt 64 b).toNat : Int) = _
        rw [wrap_toNat64, ofInt_ext32 a a1 a2, ofInt_ext32 b b1 b2, ← BitVec.signExtend_and, BitVec.toInt_signExtend_of_le (by decide)]
      · show IntKind.i32.wrap ((BitVec.ofInt 32 a &&& BitVec.ofInt 32 b).toNat : Int) = _
        rw [wrap_toNat32]
    · refine ⟨BitVec.ofInt 32 a ||| BitVec.ofInt 32 b, ?_, ?_⟩
      · show IntKind.i64.wrap ((BitVec.ofInt 64 a ||| BitVec.ofInt 64 b).toNat : Int) = _
        rw [wrap_toNat64, ofInt_ext32 a a1 a2, ofInt_ext32 b b1 b2, ← BitVec.signExtend_or, BitVec.toInt_signExtend_of_le (by decide)]
      · show IntKind.i32.wrap ((BitVec.ofInt 32 a ||| BitVec.ofInt 32 b).toNat : Int) = _
        rw [wrap_toNat32]
    · refine ⟨BitVec.ofInt 32 a ^^^ BitVec.ofInt 32 b, ?_, ?_⟩
      · show IntKind.i64.wrap ((BitVec.ofInt 64 a ^^^ BitVec.ofInt 64 b).toNat : Int) = _
        rw [wrap_toNat64, ofInt_ext32 a a1 a2, ofInt_ext32 b b1 b2, ← BitVec.signExtend_xor, BitVec.toInt_signExtend_of_le (by decide)]
      · show IntKind.i32.wrap ((BitVec.ofInt 32 a ^^^ BitVec.ofInt 32 b).toNat : Int) = _
        rw [wrap_toNat32]
  obtain ⟨z, hz, hy⟩ := key
  rw [hz, hy]
  have l1 := BitVec.le_toInt z
  have l2 := BitVec.toInt_lt (x := z)
  simp at l1 l2
  exact ⟨rfl, by omega, by omega⟩

theorem bits_31 (b : Int) (b1 : -2147483648 ≤ b) (b2 : b ≤ 2147483647) : bits .and .i32 b 31 = b % 32 := by
  rw [(bits_32 .and (Or.inl rfl) b 31 b1 b2 (by decide) (by decide)).1]
  exact and_mask b 5 (by decide)
end Go.Proofs.YtapgaclonilnbaaDoor
