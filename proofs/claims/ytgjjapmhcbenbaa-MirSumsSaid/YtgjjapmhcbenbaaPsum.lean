/-
  Proved: how the operations on words hang together (plain facts on numbers).
-/
import Derived.Test.YtgjjapmhcbenbaaPall
namespace Go.Proofs.Ytgjjapmhcbenbaa
open Go.RowKit
set_option linter.unusedVariables false

theorem nat_and_or (n : Nat) : ∀ x y : Nat, x ≤ n → (x &&& y) + (x ||| y) = x + y := by
  induction n using Nat.strongRecOn with
  | _ n ih =>
    intro x y hx
    by_cases h0 : x = 0
    · subst h0; simp
    · have h := ih (x / 2) (by omega) (x / 2) (y / 2) (Nat.le_refl _)
      rw [← Nat.and_div_two, ← Nat.or_div_two] at h
      have a1 : (x &&& y) % 2 = (x % 2) &&& (y % 2) := by simpa using Nat.and_mod_two_pow (a := x) (b := y) (n := 1)
      have a2 : (x ||| y) % 2 = (x % 2) ||| (y % 2) := by simpa using Nat.or_mod_two_pow (a := x) (b := y) (n := 1)
      have hx2 : x % 2 = 0 ∨ x % 2 = 1 := by omega
      have hy2 : y % 2 = 0 ∨ y % 2 = 1 := by omega
      have a3 : (x % 2 &&& y % 2) + (x % 2 ||| y % 2) = x % 2 + y % 2 := by
        rcases hx2 with e | e <;> rcases hy2 with e' | e' <;> rw [e, e'] <;> rfl
      omega

theorem and_z (a b : Int) (a1 : -2147483648 ≤ a) (a2 : a ≤ 2147483647) (b1 : -2147483648 ≤ b) (b2 : b ≤ 2147483647) : bits .and .i64 a b = (BitVec.ofInt 32 a &&& BitVec.ofInt 32 b).toInt := by
  rw [← (bits_32 .and (by simp) a b a1 a2 b1 b2).1]
  show IntKind.i32.wrap ((BitVec.ofInt 32 a &&& BitVec.ofInt 32 b).toNat : Int) = _
  rw [wrap_toNat32]
theorem or_z (a b : Int) (a1 : -2147483648 ≤ a) (a2 : a ≤ 2147483647) (b1 : -2147483648 ≤ b) (b2 : b ≤ 2147483647) : bits .or .i64 a b = (BitVec.ofInt 32 a ||| BitVec.ofInt 32 b).toInt := by
  rw [← (bits_32 .or (by simp) a b a1 a2 b1 b2).1]
  show IntKind.i32.wrap ((BitVec.ofInt 32 a ||| BitVec.ofInt 32 b).toNat : Int) = _
  rw [wrap_toNat32]
theorem xor_z (a b : Int) (a1 : -2147483648 ≤ a) (a2 : a ≤ 2147483647) (b1 : -2147483648 ≤ b) (b2 : b ≤ 2147483647) : bits .xor .i64 a b = (BitVec.ofInt 32 a ^^^ BitVec.ofInt 32 b).toInt := by
  rw [← (bits_32 .xor (by simp) a b a1 a2 b1 b2).1]
  show IntKind.i32.wrap ((BitVec.ofInt 32 a ^^^ BitVec.ofInt 32 b).toNat : Int) = _
  rw [wrap_toNat32]

theorem toInt_wd (x : BitVec 32) : x.toInt = wd (x.toNat : Int) := by
  rw [← wrap_toNat32, ← wrap_wd]
  have h := x.isLt
  simp only [IntKind.wrap, IntKind.bits, IntKind.signed]
  unfold wrap32
  simp
  omega

theorem toInt_of (a : Int) (a1 : -2147483648 ≤ a) (a2 : a ≤ 2147483647) : (BitVec.ofInt 32 a).toInt = a := by
  rw [BitVec.toInt_ofInt, Int.bmod_eq_of_le (by simp; omega) (by simp; omega)]

theorem wd_wd (a : Int) : wd (wd a) = wd a := by unfold wd; omega
theorem wd_add (a b : Int) : wd (wd a + wd b) = wd (a + b) := by unfold wd; omega
theorem wd_mul (a b : Int) : wd (wd a * b) = wd (a * b) := by
  have h : wd a * b = a * b + 4294967296 * ((wd a - a) / 4294967296 * b) := by
    have e : wd a = a + 4294967296 * ((wd a - a) / 4294967296) := by unfold wd; omega
    conv => lhs; rw [e]
    rw [Int.add_mul, Int.mul_assoc]
  rw [h, wd_more]

theorem s_sub (a b : Int) (a1 : -2147483648 ≤ a) (a2 : a ≤ 2147483647) (b1 : -2147483648 ≤ b) (b2 : b ≤ 2147483647) : m_sub (m_add a b) b = a := by
  unfold m_sub m_add wd; omega

theorem s_xor (a b : Int) (a1 : -2147483648 ≤ a) (a2 : a ≤ 2147483647) (b1 : -2147483648 ≤ b) (b2 : b ≤ 2147483647) : m_xor (m_xor a b) b = a := by
  have h := (bits_32 .xor (by simp) a b a1 a2 b1 b2).2
  unfold m_xor
  rw [xor_z _ b h.1 h.2 b1 b2, xor_z a b a1 a2 b1 b2, BitVec.ofInt_toInt, BitVec.xor_assoc, BitVec.xor_self, BitVec.xor_zero, toInt_of a a1 a2]

theorem s_add (a b : Int) (a1 : -2147483648 ≤ a) (a2 : a ≤ 2147483647) (b1 : -2147483648 ≤ b) (b2 : b ≤ 2147483647) : m_add (m_and a b) (m_or a b) = m_add a b := by
  unfold m_add m_and m_or
  rw [and_z a b a1 a2 b1 b2, or_z a b a1 a2 b1 b2, toInt_wd, toInt_wd, wd_add]
  conv => rhs; rw [← toInt_of a a1 a2, ← toInt_of b b1 b2, toInt_wd, toInt_wd, wd_add]
  congr 1
  rw [BitVec.toNat_and, BitVec.toNat_or]
  have := nat_and_or _ (BitVec.ofInt 32 a).toNat (BitVec.ofInt 32 b).toNat (Nat.le_refl _)
  omega

theorem s_mulh (a b : Int) (a1 : -2147483648 ≤ a) (a2 : a ≤ 2147483647) (b1 : -2147483648 ≤ b) (b2 : b ≤ 2147483647) : m_mulh a b * 4294967296 + m_mul a b % 4294967296 = a * b := by
  have mm := mul_in (a := a) (b := b) (A := 2147483648) (B := 2147483648) (by omega) (by omega) (by omega) (by omega)
  unfold m_mulh m_mul hi
  generalize a * b = P at *
  unfold wd; omega

theorem s_div (a b : Int) (a1 : -2147483648 ≤ a) (a2 : a ≤ 2147483647) (b1 : -2147483648 ≤ b) (b2 : b ≤ 2147483647) : m_add (m_mul (m_div a b) b) (m_rem a b) = a := by
  unfold m_add m_mul m_div m_rem
  rw [wd_mul, wd_add]
  unfold qt rm
  by_cases h : b = 0
  · rw [if_pos h, if_pos h, h]; unfold wd; omega
  · rw [if_neg h, if_neg h, Int.mul_comm, Int.add_comm, Int.tmod_add_mul_tdiv]; exact wd_of _ (by omega)

theorem s_divu (a b : Int) (a1 : -2147483648 ≤ a) (a2 : a ≤ 2147483647) (b1 : -2147483648 ≤ b) (b2 : b ≤ 2147483647) : m_add (m_mul (m_divu a b) b) (m_remu a b) = a := by
  unfold m_add m_mul m_divu m_remu
  rw [wd_mul, wd_add]
  unfold qt rm
  by_cases h : wh b = 0
  · have hb : b = 0 := by unfold wh at h; omega
    rw [if_pos h, if_pos h, hb]; unfold wh wd; omega
  · rw [if_neg h, if_neg h]
    have e : ∀ Q : Int, Q * b = Q * wh b + 4294967296 * (Q * (b / 4294967296)) := by
      intro Q
      have e1 : b = wh b + 4294967296 * (b / 4294967296) := by unfold wh; omega
      conv => lhs; rw [e1]
      rw [Int.mul_add, Int.mul_left_comm]
    rw [e, show ∀ x y z : Int, x + y + z = x + z + y from fun x y z => by omega, wd_more, Int.mul_comm, Int.add_comm, Int.tmod_add_mul_tdiv]
    unfold wh wd; omega

theorem s_shift (a s : Int) (s1 : 0 ≤ s) (s2 : s ≤ 31) : m_sra (m_sll (m_sra (m_sll a s) s) s) s = m_sra (m_sll a s) s := by
  have hw := wd_in (wh a * 2 ^ sh s)
  have e1 : m_sll a s = wd (wh a * 2 ^ sh s) := rfl
  have hd : (2 : Int) ^ sh s ∣ m_sll a s := by
    rw [e1]
    have h32 : (2 : Int) ^ sh s ∣ 4294967296 := ⟨2 ^ (32 - sh s), by
      have : sh s ≤ 32 := by unfold sh wh; omega
      rw [← Int.pow_add, show sh s + (32 - sh s) = 32 by omega]; rfl⟩
    have e : wd (wh a * 2 ^ sh s) = wh a * 2 ^ sh s - 4294967296 * ((wh a * 2 ^ sh s + 2147483648) / 4294967296) := by unfold wd; omega
    rw [e]
    exact Int.dvd_sub (Int.dvd_mul_left _ _) (Int.dvd_trans h32 (Int.dvd_mul_right _ _))
  have hs : (s % 32).toNat = sh s := by unfold sh wh; congr 1; omega
  have r1 : m_sra (m_sll a s) s = m_sll a s / 2 ^ sh s := by
    have := sra_is (m_sll a s) s (by rw [e1]; exact hw.1) (by rw [e1]; exact hw.2)
    rw [hs] at this; exact this
  have back : m_sll (m_sra (m_sll a s) s) s = m_sll a s := by
    rw [r1, sll_is, hs, wrap_wd, Int.ediv_mul_cancel hd]
    rw [e1, wd_wd]
  rw [back]

theorem s_srl (a : Int) (a1 : -2147483648 ≤ a) (a2 : a ≤ 2147483647) : m_srl a 0 = a := by
  show wd (wh a / 2 ^ sh 0) = a
  have : sh 0 = 0 := by decide
  rw [this]; unfold wh wd; omega

theorem s_slt (a b : Int) (a1 : -2147483648 ≤ a) (a2 : a ≤ 2147483647) (b1 : -2147483648 ≤ b) (b2 : b ≤ 2147483647) : m_slt a b + m_slt b a ≤ 1 := by
  unfold m_slt
  split <;> split <;> omega

theorem s_sltu (a : Int) : m_sltu a a = 0 := by unfold m_sltu; simp
end Go.Proofs.Ytgjjapmhcbenbaa
