/-
  Proved: words, as the reference of mir makes them: Word, whole, high, power, flag, divide.
-/
import Derived.Test.YtapgaclonilnbaaDoorGa
import Derived.WalkKit
import Derived.ProofKit
import Derived.BigQuiet
import Derived.OwnWalk
import Derived.Laws.EntriesVeiled
import Derived.Deep.QuietTactic
namespace Go.Proofs.YtapgaclonilnbaaDoor
open Go.RowKit

/-- A number as a word. -/
def wd (n : Int) : Int := (n + 2147483648) % 4294967296 - 2147483648
/-- .. from 0 on. -/
def wh (n : Int) : Int := n % 4294967296

theorem wd_in (n : Int) : -2147483648 ≤ wd n ∧ wd n ≤ 2147483647 := by unfold wd; omega
theorem wh_in (n : Int) : 0 ≤ wh n ∧ wh n ≤ 4294967295 := by unfold wh; omega
theorem wd_of (n : Int) (h : -2147483648 ≤ n ∧ n ≤ 2147483647) : wd n = n := by unfold wd; omega

theorem tmod_twice (n P : Int) (hP : 0 < P) : (n.tmod P + P).tmod P = n % P := by
  have h1 := Int.lt_tmod_of_pos n hP
  rw [Int.tmod_eq_emod_of_nonneg (by omega), Int.add_emod_right]
  rw [Int.tmod_eq_emod]
  split
  · simp
  · rw [Int.sub_emod, Int.emod_emod_of_dvd _ (Int.dvd_refl _)]
    have : (P.natAbs : Int) = P := by omega
    rw [this]
    simp

theorem and_mask (v : Int) (n : Nat) (hn : n ≤ 62) : bits .and .i64 v (2 ^ n - 1 : Int) = v % 2 ^ n := by
  have hp : (2 : Nat) ^ n < 2 ^ 63 := Nat.pow_lt_pow_right (by decide) (by omega)
  have hp0 : 0 < (2 : Nat) ^ n := Nat.pow_pos (by decide)
  have hc : ((2 : Int) ^ n - 1) = ((2 ^ n - 1 : Nat) : Int) := by
    rw [Int.natCast_sub (by omega)]; simp
  show IntKind.i64.wrap ((BitVec.ofInt 64 v &&& BitVec.ofInt 64 (2 ^ n - 1 : Int)).toNat : Int) = _
  have hb : (BitVec.ofInt 64 (2 ^ n - 1 : Int)).toNat = 2 ^ n - 1 := by
    rw [hc, BitVec.ofInt_natCast, BitVec.toNat_ofNat]; exact Nat.mod_eq_of_lt (by omega)
  have ha : ((BitVec.ofInt 64 v).toNat : Int) = v % 18446744073709551616 := by
    rw [BitVec.toNat_ofInt]
    have : 0 ≤ v % ((2 ^ 64 : Nat) : Int) := Int.emod_nonneg _ (by decide)
    rw [Int.toNat_of_nonneg this]; rfl
  rw [BitVec.toNat_and, hb, Nat.and_two_pow_sub_one_eq_mod]
  have e : (((BitVec.ofInt 64 v).toNat % 2 ^ n : Nat) : Int) = v % 2 ^ n := by
    rw [Int.natCast_emod, ha]
    have hd : ((2 : Int) ^ n) ∣ 18446744073709551616 := ⟨2 ^ (64 - n), by rw [← Int.pow_add, show n + (64 - n) = 64 by omega]; rfl⟩
    have : (((2 : Nat) ^ n : Nat) : Int) = (2 : Int) ^ n := by simp
    rw [this, Int.emod_emod_of_dvd v hd]
  rw [e]
  have h0 : 0 ≤ v % (2 : Int) ^ n := Int.emod_nonneg _ (by have : (0 : Int) < 2 ^ n := Int.pow_pos (by decide); omega)
  have h1 : v % (2 : Int) ^ n < 2 ^ n := Int.emod_lt_of_pos _ (Int.pow_pos (by decide))
  have h2 : (2 : Int) ^ n < 9223372036854775808 := by
    have : (((2 : Nat) ^ n : Nat) : Int) = (2 : Int) ^ n := by simp
    omega
  simp only [IntKind.wrap, IntKind.bits, IntKind.signed]
  simp
  omega

theorem word_c (n : Int) (w : World) : Calls Tryd.prog 9 #[.int .i64 n] w fun e w' => e = .returned (.int .i64 (wd n)) ∧ w' = w := by
  have h1 := Int.lt_tmod_of_pos n (show (0 : Int) < 4294967296 by decide)
  have h2 := Int.tmod_lt_of_pos n (show (0 : Int) < 4294967296 by decide)
  have h3 := tmod_twice n 4294967296 (by decide)
  by_cases h4 : 2147483648 ≤ n % 4294967296
  · have h5 : wd n = n % 4294967296 - 4294967296 := by unfold wd; omega
    rw [h5]
    go_enter Tryd.func9, Tryd.ntmps9
    go_wp2
    go_ret
    exact ⟨rfl, rfl⟩
  · have h5 : wd n = n % 4294967296 := by unfold wd; omega
    rw [h5]
    go_enter Tryd.func9, Tryd.ntmps9
    go_wp2
    go_ret
    exact ⟨rfl, rfl⟩

theorem floor_twice (a P : Int) (hP : 0 < P) : (a - a % P).tdiv P = a / P := by
  have h : a - a % P = P * (a / P) := by have := Int.emod_add_mul_ediv a P; omega
  rw [h, Int.mul_tdiv_cancel_left _ (by omega)]

theorem mul_in {a b A B : Int} (ha : -A ≤ a) (ha' : a ≤ A) (hb : -B ≤ b) (hb' : b ≤ B) : -(A * B) ≤ a * b ∧ a * b ≤ A * B := by
  have h : a.natAbs * b.natAbs ≤ A.toNat * B.toNat := Nat.mul_le_mul (by omega) (by omega)
  have e1 : ((a * b).natAbs : Int) = ((a.natAbs * b.natAbs : Nat) : Int) := by rw [Int.natAbs_mul]
  have e2 : ((A.toNat * B.toNat : Nat) : Int) = A * B := by rw [Int.natCast_mul, Int.toNat_of_nonneg (by omega), Int.toNat_of_nonneg (by omega)]
  omega

/-- The upper half of a product. -/
def hi (a b : Int) : Int := a * b / 4294967296

theorem hi_eq (a b : Int) : (a / 65536 * b + a % 65536 * b / 65536) / 65536 = hi a b := by
  unfold hi
  have h : a * b = a % 65536 * b + a / 65536 * b * 65536 := by
    have := Int.emod_add_mul_ediv a 65536
    conv => lhs; rw [← this]
    rw [Int.add_mul, Int.mul_comm 65536 (a / 65536), Int.mul_assoc, Int.mul_comm 65536 b, ← Int.mul_assoc]
  have h2 : a * b / 65536 = a / 65536 * b + a % 65536 * b / 65536 := by
    rw [h, Int.add_mul_ediv_right _ _ (by decide), Int.add_comm]
  rw [← h2]
  generalize a * b = t
  omega

def qt (a b : Int) : Int := if b = 0 then -1 else a.tdiv b
def rm (a b : Int) : Int := if b = 0 then a else a.tmod b

end Go.Proofs.YtapgaclonilnbaaDoor

/-
  Proved: the reference's Do, operation by operation.
-/
namespace Go.Proofs.YtapgaclonilnbaaDoor
open Go.RowKit

/-- By how many a shift goes. -/
def sh (b : Int) : Nat := (wh b % 32).toNat

/-- What add makes of two words. -/
def m_add (a b : Int) : Int := wd (a + b)
/-- What sub makes of two words. -/
def m_sub (a b : Int) : Int := wd (a - b)
/-- What mul makes of two words. -/
def m_mul (a b : Int) : Int := wd (a * b)
/-- What mulh makes of two words. -/
def m_mulh (a b : Int) : Int := wd (hi a b)
/-- What mulhu makes of two words. -/
def m_mulhu (a b : Int) : Int := wd (hi (wh a) (wh b))
/-- What div makes of two words. -/
def m_div (a b : Int) : Int := wd (qt a b)
/-- What divu makes of two words. -/
def m_divu (a b : Int) : Int := wd (qt (wh a) (wh b))
/-- What rem makes of two words. -/
def m_rem (a b : Int) : Int := wd (rm a b)
/-- What remu makes of two words. -/
def m_remu (a b : Int) : Int := wd (rm (wh a) (wh b))
/-- What and makes of two words. -/
def m_and (a b : Int) : Int := bits .and .i64 a b
/-- What or makes of two words. -/
def m_or (a b : Int) : Int := bits .or .i64 a b
/-- What xor makes of two words. -/
def m_xor (a b : Int) : Int := bits .xor .i64 a b
/-- What sll makes of two words. -/
def m_sll (a b : Int) : Int := wd (wh a * 2 ^ sh b)
/-- What srl makes of two words. -/
def m_srl (a b : Int) : Int := wd (wh a / 2 ^ sh b)
/-- What sra makes of two words. -/
def m_sra (a b : Int) : Int := wd (a / 2 ^ sh b)
/-- What slt makes of two words. -/
def m_slt (a b : Int) : Int := if a < b then 1 else 0
/-- What sltu makes of two words. -/
def m_sltu (a b : Int) : Int := if wh a < wh b then 1 else 0

theorem below_drn (w : World) (m : Nat) : Below w.heap.size w (w.drewN m) := have h := Below.refl w.heap.size w; ⟨h.os, h.tape, h.output, h.size, h.block⟩

theorem wh_wd (a : Int) : wh (wd a) = wh a := by unfold wh wd; omega

theorem pw_in (s : Int) (h : 0 ≤ s) (h' : s < 32) : 1 ≤ (2 : Int) ^ s.toNat ∧ (2 : Int) ^ s.toNat ≤ 2147483648 := by
  have p0 : (0 : Int) < 2 ^ s.toNat := Int.pow_pos (by decide)
  have p1 : (2 : Nat) ^ s.toNat ≤ 2 ^ 31 := Nat.pow_le_pow_right (by decide) (by omega)
  have e : ((2 ^ s.toNat : Nat) : Int) = (2 : Int) ^ s.toNat := by simp
  omega

/-- The names of the operations. -/
def opN : List (List UInt8) := [[97, 100, 100], [115, 117, 98], [109, 117, 108], [109, 117, 108, 104], [109, 117, 108, 104, 117], [100, 105, 118], [100, 105, 118, 117], [114, 101, 109], [114, 101, 109, 117], [97, 110, 100], [111, 114], [120, 111, 114], [115, 108, 108], [115, 114, 108], [115, 114, 97], [115, 108, 116], [115, 108, 116, 117]]

end Go.Proofs.YtapgaclonilnbaaDoor

/-
  Proved: 'and', 'or', 'xor' of two words are the same at 32 bits and at 64; what is kept of a word by 31. Plain facts on numbers.
-/
namespace Go.Proofs.YtapgaclonilnbaaDoor
open Go.RowKit

theorem wrap_toNat64 (x : BitVec 64) : IntKind.i64.wrap (x.toNat : Int) = x.toInt := by
  have h := x.isLt
  rw [BitVec.toInt_eq_toNat_cond]
  simp only [IntKind.wrap, IntKind.bits, IntKind.signed]
  simp
  split <;> omega

theorem wrap_toNat32 (x : BitVec 32) : IntKind.i32.wrap (x.toNat : Int) = x.toInt := by
  have h := x.isLt
  rw [BitVec.toInt_eq_toNat_cond]
  simp only [IntKind.wrap, IntKind.bits, IntKind.signed]
  simp
  split <;> omega

theorem ofInt_ext32 (a : Int) (h1 : -2147483648 ≤ a) (h2 : a ≤ 2147483647) : BitVec.ofInt 64 a = (BitVec.ofInt 32 a).signExtend 64 := by
  apply BitVec.eq_of_toInt_eq
  rw [BitVec.toInt_signExtend_of_le (by decide), BitVec.toInt_ofInt, BitVec.toInt_ofInt]
  rw [Int.bmod_eq_of_le (by simp; omega) (by simp; omega), Int.bmod_eq_of_le (by simp; omega) (by simp; omega)]

theorem bits_32 (op : BinOp) (hop : op = .and ∨ op = .or ∨ op = .xor) (a b : Int) (a1 : -2147483648 ≤ a) (a2 : a ≤ 2147483647) (b1 : -2147483648 ≤ b) (b2 : b ≤ 2147483647) :
    bits op .i32 a b = bits op .i64 a b ∧ -2147483648 ≤ bits op .i64 a b ∧ bits op .i64 a b ≤ 2147483647 := by
  have key : ∃ z : BitVec 32, bits op .i64 a b = z.toInt ∧ bits op .i32 a b = z.toInt := by
    rcases hop with rfl | rfl | rfl
    · refine ⟨BitVec.ofInt 32 a &&& BitVec.ofInt 32 b, ?_, ?_⟩
      · show IntKind.i64.wrap ((BitVec.ofInt 64 a &&& BitVec.ofInt 64 b).toNat : Int) = _
        rw [wrap_toNat64, ofInt_ext32 a a1 a2, ofInt_ext32 b b1 b2, ← BitVec.signExtend_and, BitVec.toInt_signExtend_of_le (by decide)]
      · show IntKind.i32.wrap ((BitVec.ofInt 32 a &&& BitVec.ofInt 32 b).toNat : Int) = _
        rw [wrap_toNat32]
    · refine ⟨BitVec.ofInt 32 a ||| BitVec.ofInt 32 b, ?_, ?_⟩
      · show IntKind.i64.wrap ((BitVec.ofInt 64 a ||| BitVec.ofInt 64 b).toNat : Int) = _
        rw [wrap_toNat64, ofInt_ext32 a a1 a2, ofInt_ext32 b b1 b2, ← BitVec.signExtend_or, BitVec.toInt_signExtend_of_le (by decide)]
      · show IntKind.i32.wrap ((BitVec.ofInt 32 a ||| BitVec.ofInt 32 b).toNat : Int) = _
        rw [wrap_toNat32]
    · refine ⟨BitVec.ofInt 32 a ^^^ BitVec.ofInt 32 b, ?_, ?_⟩
      · show IntKind.i64.wrap ((BitVec.ofInt 64 a ^^^ BitVec.ofInt 64 b).toNat : Int) = _
        rw [wrap_toNat64, ofInt_ext32 a a1 a2, ofInt_ext32 b b1 b2, ← BitVec.signExtend_xor, BitVec.toInt_signExtend_of_le (by decide)]
      · show IntKind.i32.wrap ((BitVec.ofInt 32 a ^^^ BitVec.ofInt 32 b).toNat : Int) = _
        rw [wrap_toNat32]
  obtain ⟨z, hz, hy⟩ := key
  rw [hz, hy]
  have l1 := BitVec.le_toInt z
  have l2 := BitVec.toInt_lt (x := z)
  simp at l1 l2
  exact ⟨rfl, by omega, by omega⟩

theorem bits_31 (b : Int) (b1 : -2147483648 ≤ b) (b2 : b ≤ 2147483647) : bits .and .i32 b 31 = b % 32 := by
  rw [(bits_32 .and (Or.inl rfl) b 31 b1 b2 (by decide) (by decide)).1]
  exact and_mask b 5 (by decide)
end Go.Proofs.YtapgaclonilnbaaDoor

/-
  Proved: what mir's own functions of words make: bits, truth, divided, do, operation by operation.
-/
namespace Go.Proofs.YtapgaclonilnbaaDoor
open Go.RowKit
set_option linter.unusedVariables false
set_option linter.unusedSimpArgs false

theorem ptruth_c (q : Bool) (w : World) : Calls Tryd.prog 59 #[.bool q] w fun e w' => e = .returned (.int .i32 (if q then 1 else 0)) ∧ w' = w := by
  cases q
  all_goals (
    go_enter Tryd.func59, Tryd.ntmps59
    go_wp2
    go_ret
    exact ⟨rfl, rfl⟩)

theorem pbits_c (b : Int) (b1 : -2147483648 ≤ b) (b2 : b ≤ 2147483647) (w : World) : Calls Tryd.prog 58 #[.int .i32 b] w fun e w' => e = .returned (.int .i32 (b % 32)) ∧ w' = w := by
  have h := bits_31 b b1 b2
  go_enter Tryd.func58, Tryd.ntmps58
  go_wp2
  go_ret
  exact ⟨rfl, rfl⟩

theorem wrap_wd (n : Int) : wrap32 n = wd n := by unfold wrap32 wd; rfl
theorem wd_more (n k : Int) : wd (n + 4294967296 * k) = wd n := by unfold wd; omega

theorem sll_is (a b : Int) : m_sll a b = wrap32 (a * 2 ^ (b % 32).toNat) := by
  rw [wrap_wd]
  show wd (a % 4294967296 * 2 ^ (b % 4294967296 % 32).toNat) = _
  rw [show b % 4294967296 % 32 = b % 32 by omega]
  generalize (2 : Int) ^ (b % 32).toNat = P
  have h : a * P = a % 4294967296 * P + 4294967296 * (a / 4294967296 * P) := by
    have := Int.emod_add_mul_ediv a 4294967296
    conv => lhs; rw [← this]
    rw [Int.add_mul, Int.mul_assoc]
  rw [h, wd_more]

theorem srl_is (a b : Int) : m_srl a b = wrap32 (a % 4294967296 / 2 ^ (b % 32).toNat) := by
  rw [wrap_wd]
  show wd (a % 4294967296 / 2 ^ (b % 4294967296 % 32).toNat) = _
  rw [show b % 4294967296 % 32 = b % 32 by omega]

theorem sra_is (a b : Int) (a1 : -2147483648 ≤ a) (a2 : a ≤ 2147483647) : m_sra a b = a / 2 ^ (b % 32).toNat := by
  show wd (a / 2 ^ (b % 4294967296 % 32).toNat) = _
  rw [show b % 4294967296 % 32 = b % 32 by omega]
  have p := pw_in (b % 32) (by omega) (by omega)
  generalize (2 : Int) ^ (b % 32).toNat = P at *
  have t7 : (a / P).natAbs ≤ a.natAbs := Int.natAbs_ediv_le_natAbs _ _
  apply wd_of
  by_cases h0 : 0 ≤ a
  · have := Int.ediv_nonneg h0 (show 0 ≤ P by omega); omega
  · have := Int.ediv_lt_of_lt_mul (show 0 < P by omega) (show a < 0 * P by omega); omega
theorem dz_div (a : Int) (_ : -2147483648 ≤ a) (_ : a ≤ 2147483647) : m_div a 0 = -1 := rfl
theorem dz_divu (a : Int) (_ : -2147483648 ≤ a) (_ : a ≤ 2147483647) : m_divu a 0 = -1 := rfl
theorem dz_rem (a : Int) (h1 : -2147483648 ≤ a) (h2 : a ≤ 2147483647) : m_rem a 0 = a := wd_of a ⟨h1, h2⟩
theorem dz_remu (a : Int) (h1 : -2147483648 ≤ a) (h2 : a ≤ 2147483647) : m_remu a 0 = a := by
  show wd (wh a) = a
  unfold wd wh; omega
theorem dn_div (a b : Int) (a1 : -2147483648 ≤ a) (a2 : a ≤ 2147483647) (b1 : -2147483648 ≤ b) (b2 : b ≤ 2147483647) (hb : ¬ b = 0) : m_div a b = wrap32 (a.tdiv b) := by
  show wd (if b = 0 then -1 else a.tdiv b) = _
  rw [if_neg hb, wrap_wd]
theorem dn_divu (a b : Int) (a1 : -2147483648 ≤ a) (a2 : a ≤ 2147483647) (b1 : -2147483648 ≤ b) (b2 : b ≤ 2147483647) (hb : ¬ b = 0) : m_divu a b = wrap32 ((a % 4294967296) / (b % 4294967296)) := by
  show wd (if b % 4294967296 = 0 then -1 else (a % 4294967296).tdiv (b % 4294967296)) = _
  rw [if_neg (by omega), Int.tdiv_eq_ediv_of_nonneg (by omega), wrap_wd]
theorem dn_rem (a b : Int) (a1 : -2147483648 ≤ a) (a2 : a ≤ 2147483647) (b1 : -2147483648 ≤ b) (b2 : b ≤ 2147483647) (hb : ¬ b = 0) : m_rem a b = a.tmod b := by
  show wd (if b = 0 then a else a.tmod b) = _
  rw [if_neg hb]
  have n2 : (a.tmod b).natAbs ≤ a.natAbs := by rw [Int.natAbs_tmod]; exact Nat.mod_le _ _
  by_cases h0 : 0 ≤ a
  · have := Int.tmod_nonneg b h0
    exact wd_of _ (by omega)
  · have := Int.tmod_nonneg b (show 0 ≤ -a by omega)
    rw [Int.neg_tmod] at this
    exact wd_of _ (by omega)
theorem dn_remu (a b : Int) (a1 : -2147483648 ≤ a) (a2 : a ≤ 2147483647) (b1 : -2147483648 ≤ b) (b2 : b ≤ 2147483647) (hb : ¬ b = 0) : m_remu a b = wrap32 ((a % 4294967296) % (b % 4294967296)) := by
  show wd (if b % 4294967296 = 0 then a % 4294967296 else (a % 4294967296).tmod (b % 4294967296)) = _
  rw [if_neg (by omega), Int.tmod_eq_emod_of_nonneg (by omega), wrap_wd]

set_option maxRecDepth 20000 in
set_option maxHeartbeats 1000000 in
theorem pdiv_div (a b : Int) (a1 : -2147483648 ≤ a) (a2 : a ≤ 2147483647) (b1 : -2147483648 ≤ b) (b2 : b ≤ 2147483647) (w : World) : Calls Tryd.prog 57 #[.string ⟨#[100,105,118]⟩, .int .i32 a, .int .i32 b] w fun e w' => e = .returned (.int .i32 (m_div a b)) ∧ Below w.heap.size w w' := by
  by_cases hb : b = 0
  · subst hb
    rw [show m_div a 0 = -1 from dz_div a a1 a2]
    go_enter Tryd.func57, Tryd.ntmps57
    go_wp2
    go_ret
    exact ⟨rfl, Below.refl _ _⟩
  · have hb2 : (b == 0) = false := by simpa using hb
    have hu : ¬ b % 4294967296 = 0 := by omega
    have hu2 : (b % 4294967296 == 0) = false := by simpa using hu
    have hE := dn_div a b a1 a2 b1 b2 hb
    go_enter Tryd.func57, Tryd.ntmps57
    go_wp2
    go_ret
    exact ⟨by rw [hE]; rfl, Below.refl _ _⟩

set_option maxRecDepth 20000 in
set_option maxHeartbeats 1000000 in
theorem pdiv_divu (a b : Int) (a1 : -2147483648 ≤ a) (a2 : a ≤ 2147483647) (b1 : -2147483648 ≤ b) (b2 : b ≤ 2147483647) (w : World) : Calls Tryd.prog 57 #[.string ⟨#[100,105,118,117]⟩, .int .i32 a, .int .i32 b] w fun e w' => e = .returned (.int .i32 (m_divu a b)) ∧ Below w.heap.size w w' := by
  by_cases hb : b = 0
  · subst hb
    rw [show m_divu a 0 = -1 from dz_divu a a1 a2]
    go_enter Tryd.func57, Tryd.ntmps57
    go_wp2
    go_ret
    exact ⟨rfl, Below.refl _ _⟩
  · have hb2 : (b == 0) = false := by simpa using hb
    have hu : ¬ b % 4294967296 = 0 := by omega
    have hu2 : (b % 4294967296 == 0) = false := by simpa using hu
    have hE := dn_divu a b a1 a2 b1 b2 hb
    go_enter Tryd.func57, Tryd.ntmps57
    go_wp2
    go_ret
    exact ⟨by rw [hE]; rfl, Below.refl _ _⟩

set_option maxRecDepth 20000 in
set_option maxHeartbeats 1000000 in
theorem pdiv_rem (a b : Int) (a1 : -2147483648 ≤ a) (a2 : a ≤ 2147483647) (b1 : -2147483648 ≤ b) (b2 : b ≤ 2147483647) (w : World) : Calls Tryd.prog 57 #[.string ⟨#[114,101,109]⟩, .int .i32 a, .int .i32 b] w fun e w' => e = .returned (.int .i32 (m_rem a b)) ∧ Below w.heap.size w w' := by
  by_cases hb : b = 0
  · subst hb
    rw [show m_rem a 0 = a from dz_rem a a1 a2]
    go_enter Tryd.func57, Tryd.ntmps57
    go_wp2
    go_ret
    exact ⟨rfl, Below.refl _ _⟩
  · have hb2 : (b == 0) = false := by simpa using hb
    have hu : ¬ b % 4294967296 = 0 := by omega
    have hu2 : (b % 4294967296 == 0) = false := by simpa using hu
    have hE := dn_rem a b a1 a2 b1 b2 hb
    go_enter Tryd.func57, Tryd.ntmps57
    go_wp2
    go_ret
    exact ⟨by rw [hE]; rfl, Below.refl _ _⟩

set_option maxRecDepth 20000 in
set_option maxHeartbeats 1000000 in
theorem pdiv_remu (a b : Int) (a1 : -2147483648 ≤ a) (a2 : a ≤ 2147483647) (b1 : -2147483648 ≤ b) (b2 : b ≤ 2147483647) (w : World) : Calls Tryd.prog 57 #[.string ⟨#[114,101,109,117]⟩, .int .i32 a, .int .i32 b] w fun e w' => e = .returned (.int .i32 (m_remu a b)) ∧ Below w.heap.size w w' := by
  by_cases hb : b = 0
  · subst hb
    rw [show m_remu a 0 = a from dz_remu a a1 a2]
    go_enter Tryd.func57, Tryd.ntmps57
    go_wp2
    go_ret
    exact ⟨rfl, Below.refl _ _⟩
  · have hb2 : (b == 0) = false := by simpa using hb
    have hu : ¬ b % 4294967296 = 0 := by omega
    have hu2 : (b % 4294967296 == 0) = false := by simpa using hu
    have hE := dn_remu a b a1 a2 b1 b2 hb
    go_enter Tryd.func57, Tryd.ntmps57
    go_wp2
    go_ret
    exact ⟨by rw [hE]; rfl, Below.refl _ _⟩

set_option maxRecDepth 20000 in
set_option maxHeartbeats 1000000 in
theorem pdo_add (a b : Int) (a1 : -2147483648 ≤ a) (a2 : a ≤ 2147483647) (b1 : -2147483648 ≤ b) (b2 : b ≤ 2147483647) (w : World) : Calls Tryd.prog 48 #[.string ⟨#[97,100,100]⟩, .int .i32 a, .int .i32 b] w fun e w' => e = .returned (.tuple #[.int .i32 (m_add a b), .bool true]) ∧ Below w.heap.size w w' := by
  go_enter Tryd.func48, Tryd.ntmps48
  go_wp2_with (first
    | (go_at_call 59; refine (ptruth_c _ _).mono ?_; rintro e w1 ⟨rfl, hw⟩; rw [hw]; clear hw w1)
    | (go_at_call 58; refine (pbits_c _ (by omega) (by omega) _).mono ?_; rintro e w1 ⟨rfl, hw⟩; rw [hw]; clear hw w1))
  go_ret2
  exact ⟨by first | rfl | (simp only [wrap_wd]; rfl), Below.refl _ _⟩

set_option maxRecDepth 20000 in
set_option maxHeartbeats 1000000 in
theorem pdo_sub (a b : Int) (a1 : -2147483648 ≤ a) (a2 : a ≤ 2147483647) (b1 : -2147483648 ≤ b) (b2 : b ≤ 2147483647) (w : World) : Calls Tryd.prog 48 #[.string ⟨#[115,117,98]⟩, .int .i32 a, .int .i32 b] w fun e w' => e = .returned (.tuple #[.int .i32 (m_sub a b), .bool true]) ∧ Below w.heap.size w w' := by
  go_enter Tryd.func48, Tryd.ntmps48
  go_wp2_with (first
    | (go_at_call 59; refine (ptruth_c _ _).mono ?_; rintro e w1 ⟨rfl, hw⟩; rw [hw]; clear hw w1)
    | (go_at_call 58; refine (pbits_c _ (by omega) (by omega) _).mono ?_; rintro e w1 ⟨rfl, hw⟩; rw [hw]; clear hw w1))
  go_ret2
  exact ⟨by first | rfl | (simp only [wrap_wd]; rfl), Below.refl _ _⟩

set_option maxRecDepth 20000 in
set_option maxHeartbeats 1000000 in
theorem pdo_mul (a b : Int) (a1 : -2147483648 ≤ a) (a2 : a ≤ 2147483647) (b1 : -2147483648 ≤ b) (b2 : b ≤ 2147483647) (w : World) : Calls Tryd.prog 48 #[.string ⟨#[109,117,108]⟩, .int .i32 a, .int .i32 b] w fun e w' => e = .returned (.tuple #[.int .i32 (m_mul a b), .bool true]) ∧ Below w.heap.size w w' := by
  go_enter Tryd.func48, Tryd.ntmps48
  go_wp2_with (first
    | (go_at_call 59; refine (ptruth_c _ _).mono ?_; rintro e w1 ⟨rfl, hw⟩; rw [hw]; clear hw w1)
    | (go_at_call 58; refine (pbits_c _ (by omega) (by omega) _).mono ?_; rintro e w1 ⟨rfl, hw⟩; rw [hw]; clear hw w1))
  go_ret2
  exact ⟨by first | rfl | (simp only [wrap_wd]; rfl), Below.refl _ _⟩

set_option maxRecDepth 20000 in
set_option maxHeartbeats 1000000 in
theorem pdo_mulh (a b : Int) (a1 : -2147483648 ≤ a) (a2 : a ≤ 2147483647) (b1 : -2147483648 ≤ b) (b2 : b ≤ 2147483647) (w : World) : Calls Tryd.prog 48 #[.string ⟨#[109,117,108,104]⟩, .int .i32 a, .int .i32 b] w fun e w' => e = .returned (.tuple #[.int .i32 (m_mulh a b), .bool true]) ∧ Below w.heap.size w w' := by
  have mm := mul_in (a := a) (b := b) (A := 2147483648) (B := 2147483648) (by omega) (by omega) (by omega) (by omega)
  obtain ⟨m1, m2⟩ := mm
  have hE : m_mulh a b = a * b / 4294967296 := wd_of _ (by unfold hi; omega)
  go_enter Tryd.func48, Tryd.ntmps48
  go_wp2_with (first
    | (go_at_call 59; refine (ptruth_c _ _).mono ?_; rintro e w1 ⟨rfl, hw⟩; rw [hw]; clear hw w1)
    | (go_at_call 58; refine (pbits_c _ (by omega) (by omega) _).mono ?_; rintro e w1 ⟨rfl, hw⟩; rw [hw]; clear hw w1))
  go_ret2
  exact ⟨by rw [hE]; rfl, Below.refl _ _⟩

set_option maxRecDepth 20000 in
set_option maxHeartbeats 1000000 in
theorem pdo_mulhu (a b : Int) (a1 : -2147483648 ≤ a) (a2 : a ≤ 2147483647) (b1 : -2147483648 ≤ b) (b2 : b ≤ 2147483647) (w : World) : Calls Tryd.prog 48 #[.string ⟨#[109,117,108,104,117]⟩, .int .i32 a, .int .i32 b] w fun e w' => e = .returned (.tuple #[.int .i32 (m_mulhu a b), .bool true]) ∧ Below w.heap.size w w' := by
  have hu : IntKind.u64.wrap (a % 4294967296 * (b % 4294967296)) = a % 4294967296 * (b % 4294967296) := by
    have m1 : a % 4294967296 * (b % 4294967296) ≤ 4294967295 * 4294967295 := Int.mul_le_mul (by omega) (by omega) (by omega) (by omega)
    have m2 : 0 ≤ a % 4294967296 * (b % 4294967296) := Int.mul_nonneg (by omega) (by omega)
    simp only [IntKind.wrap, IntKind.bits, IntKind.signed]
    simp
    omega
  go_enter Tryd.func48, Tryd.ntmps48
  go_wp2_with (first
    | (go_at_call 59; refine (ptruth_c _ _).mono ?_; rintro e w1 ⟨rfl, hw⟩; rw [hw]; clear hw w1)
    | (go_at_call 58; refine (pbits_c _ (by omega) (by omega) _).mono ?_; rintro e w1 ⟨rfl, hw⟩; rw [hw]; clear hw w1))
  go_ret2
  exact ⟨by first | rfl | (simp only [wrap_wd]; rfl), Below.refl _ _⟩

set_option maxRecDepth 20000 in
set_option maxHeartbeats 1000000 in
theorem pdo_div (a b : Int) (a1 : -2147483648 ≤ a) (a2 : a ≤ 2147483647) (b1 : -2147483648 ≤ b) (b2 : b ≤ 2147483647) (w : World) : Calls Tryd.prog 48 #[.string ⟨#[100,105,118]⟩, .int .i32 a, .int .i32 b] w fun e w' => e = .returned (.tuple #[.int .i32 (m_div a b), .bool true]) ∧ Below w.heap.size w w' := by
  go_enter Tryd.func48, Tryd.ntmps48
  go_wp2_with (first
    | (go_at_call 57; refine (pdiv_div _ _ a1 a2 b1 b2 _).mono ?_; rintro e w1 ⟨rfl, hw⟩))
  go_ret2
  exact ⟨rfl, by assumption⟩

set_option maxRecDepth 20000 in
set_option maxHeartbeats 1000000 in
theorem pdo_divu (a b : Int) (a1 : -2147483648 ≤ a) (a2 : a ≤ 2147483647) (b1 : -2147483648 ≤ b) (b2 : b ≤ 2147483647) (w : World) : Calls Tryd.prog 48 #[.string ⟨#[100,105,118,117]⟩, .int .i32 a, .int .i32 b] w fun e w' => e = .returned (.tuple #[.int .i32 (m_divu a b), .bool true]) ∧ Below w.heap.size w w' := by
  go_enter Tryd.func48, Tryd.ntmps48
  go_wp2_with (first
    | (go_at_call 57; refine (pdiv_divu _ _ a1 a2 b1 b2 _).mono ?_; rintro e w1 ⟨rfl, hw⟩))
  go_ret2
  exact ⟨rfl, by assumption⟩

set_option maxRecDepth 20000 in
set_option maxHeartbeats 1000000 in
theorem pdo_rem (a b : Int) (a1 : -2147483648 ≤ a) (a2 : a ≤ 2147483647) (b1 : -2147483648 ≤ b) (b2 : b ≤ 2147483647) (w : World) : Calls Tryd.prog 48 #[.string ⟨#[114,101,109]⟩, .int .i32 a, .int .i32 b] w fun e w' => e = .returned (.tuple #[.int .i32 (m_rem a b), .bool true]) ∧ Below w.heap.size w w' := by
  go_enter Tryd.func48, Tryd.ntmps48
  go_wp2_with (first
    | (go_at_call 57; refine (pdiv_rem _ _ a1 a2 b1 b2 _).mono ?_; rintro e w1 ⟨rfl, hw⟩))
  go_ret2
  exact ⟨rfl, by assumption⟩

set_option maxRecDepth 20000 in
set_option maxHeartbeats 1000000 in
theorem pdo_remu (a b : Int) (a1 : -2147483648 ≤ a) (a2 : a ≤ 2147483647) (b1 : -2147483648 ≤ b) (b2 : b ≤ 2147483647) (w : World) : Calls Tryd.prog 48 #[.string ⟨#[114,101,109,117]⟩, .int .i32 a, .int .i32 b] w fun e w' => e = .returned (.tuple #[.int .i32 (m_remu a b), .bool true]) ∧ Below w.heap.size w w' := by
  go_enter Tryd.func48, Tryd.ntmps48
  go_wp2_with (first
    | (go_at_call 57; refine (pdiv_remu _ _ a1 a2 b1 b2 _).mono ?_; rintro e w1 ⟨rfl, hw⟩))
  go_ret2
  exact ⟨rfl, by assumption⟩

set_option maxRecDepth 20000 in
set_option maxHeartbeats 1000000 in
theorem pdo_and (a b : Int) (a1 : -2147483648 ≤ a) (a2 : a ≤ 2147483647) (b1 : -2147483648 ≤ b) (b2 : b ≤ 2147483647) (w : World) : Calls Tryd.prog 48 #[.string ⟨#[97,110,100]⟩, .int .i32 a, .int .i32 b] w fun e w' => e = .returned (.tuple #[.int .i32 (m_and a b), .bool true]) ∧ Below w.heap.size w w' := by
  have hE := (bits_32 .and (by simp) a b a1 a2 b1 b2).1
  go_enter Tryd.func48, Tryd.ntmps48
  go_wp2_with (first
    | (go_at_call 59; refine (ptruth_c _ _).mono ?_; rintro e w1 ⟨rfl, hw⟩; rw [hw]; clear hw w1)
    | (go_at_call 58; refine (pbits_c _ (by omega) (by omega) _).mono ?_; rintro e w1 ⟨rfl, hw⟩; rw [hw]; clear hw w1))
  go_ret2
  exact ⟨by first | rfl | (simp only [wrap_wd]; rfl), Below.refl _ _⟩

set_option maxRecDepth 20000 in
set_option maxHeartbeats 1000000 in
theorem pdo_or (a b : Int) (a1 : -2147483648 ≤ a) (a2 : a ≤ 2147483647) (b1 : -2147483648 ≤ b) (b2 : b ≤ 2147483647) (w : World) : Calls Tryd.prog 48 #[.string ⟨#[111,114]⟩, .int .i32 a, .int .i32 b] w fun e w' => e = .returned (.tuple #[.int .i32 (m_or a b), .bool true]) ∧ Below w.heap.size w w' := by
  have hE := (bits_32 .or (by simp) a b a1 a2 b1 b2).1
  go_enter Tryd.func48, Tryd.ntmps48
  go_wp2_with (first
    | (go_at_call 59; refine (ptruth_c _ _).mono ?_; rintro e w1 ⟨rfl, hw⟩; rw [hw]; clear hw w1)
    | (go_at_call 58; refine (pbits_c _ (by omega) (by omega) _).mono ?_; rintro e w1 ⟨rfl, hw⟩; rw [hw]; clear hw w1))
  go_ret2
  exact ⟨by first | rfl | (simp only [wrap_wd]; rfl), Below.refl _ _⟩

set_option maxRecDepth 20000 in
set_option maxHeartbeats 1000000 in
theorem pdo_xor (a b : Int) (a1 : -2147483648 ≤ a) (a2 : a ≤ 2147483647) (b1 : -2147483648 ≤ b) (b2 : b ≤ 2147483647) (w : World) : Calls Tryd.prog 48 #[.string ⟨#[120,111,114]⟩, .int .i32 a, .int .i32 b] w fun e w' => e = .returned (.tuple #[.int .i32 (m_xor a b), .bool true]) ∧ Below w.heap.size w w' := by
  have hE := (bits_32 .xor (by simp) a b a1 a2 b1 b2).1
  go_enter Tryd.func48, Tryd.ntmps48
  go_wp2_with (first
    | (go_at_call 59; refine (ptruth_c _ _).mono ?_; rintro e w1 ⟨rfl, hw⟩; rw [hw]; clear hw w1)
    | (go_at_call 58; refine (pbits_c _ (by omega) (by omega) _).mono ?_; rintro e w1 ⟨rfl, hw⟩; rw [hw]; clear hw w1))
  go_ret2
  exact ⟨by first | rfl | (simp only [wrap_wd]; rfl), Below.refl _ _⟩

set_option maxRecDepth 20000 in
set_option maxHeartbeats 1000000 in
theorem pdo_sll (a b : Int) (a1 : -2147483648 ≤ a) (a2 : a ≤ 2147483647) (b1 : -2147483648 ≤ b) (b2 : b ≤ 2147483647) (w : World) : Calls Tryd.prog 48 #[.string ⟨#[115,108,108]⟩, .int .i32 a, .int .i32 b] w fun e w' => e = .returned (.tuple #[.int .i32 (m_sll a b), .bool true]) ∧ Below w.heap.size w w' := by
  have s1 : 0 ≤ b % 32 := by omega
  have s2 : b % 32 < 32 := by omega
  have hE := sll_is a b
  go_enter Tryd.func48, Tryd.ntmps48
  go_wp2_with (first
    | (go_at_call 59; refine (ptruth_c _ _).mono ?_; rintro e w1 ⟨rfl, hw⟩; rw [hw]; clear hw w1)
    | (go_at_call 58; refine (pbits_c _ (by omega) (by omega) _).mono ?_; rintro e w1 ⟨rfl, hw⟩; rw [hw]; clear hw w1))
  go_ret2
  exact ⟨by rw [hE]; rfl, Below.refl _ _⟩

set_option maxRecDepth 20000 in
set_option maxHeartbeats 1000000 in
theorem pdo_srl (a b : Int) (a1 : -2147483648 ≤ a) (a2 : a ≤ 2147483647) (b1 : -2147483648 ≤ b) (b2 : b ≤ 2147483647) (w : World) : Calls Tryd.prog 48 #[.string ⟨#[115,114,108]⟩, .int .i32 a, .int .i32 b] w fun e w' => e = .returned (.tuple #[.int .i32 (m_srl a b), .bool true]) ∧ Below w.heap.size w w' := by
  have s1 : 0 ≤ b % 32 := by omega
  have s2 : b % 32 < 32 := by omega
  have hE := srl_is a b
  go_enter Tryd.func48, Tryd.ntmps48
  go_wp2_with (first
    | (go_at_call 59; refine (ptruth_c _ _).mono ?_; rintro e w1 ⟨rfl, hw⟩; rw [hw]; clear hw w1)
    | (go_at_call 58; refine (pbits_c _ (by omega) (by omega) _).mono ?_; rintro e w1 ⟨rfl, hw⟩; rw [hw]; clear hw w1))
  go_ret2
  exact ⟨by rw [hE]; rfl, Below.refl _ _⟩

set_option maxRecDepth 20000 in
set_option maxHeartbeats 1000000 in
theorem pdo_sra (a b : Int) (a1 : -2147483648 ≤ a) (a2 : a ≤ 2147483647) (b1 : -2147483648 ≤ b) (b2 : b ≤ 2147483647) (w : World) : Calls Tryd.prog 48 #[.string ⟨#[115,114,97]⟩, .int .i32 a, .int .i32 b] w fun e w' => e = .returned (.tuple #[.int .i32 (m_sra a b), .bool true]) ∧ Below w.heap.size w w' := by
  have s1 : 0 ≤ b % 32 := by omega
  have s2 : b % 32 < 32 := by omega
  have hE := sra_is a b a1 a2
  go_enter Tryd.func48, Tryd.ntmps48
  go_wp2_with (first
    | (go_at_call 59; refine (ptruth_c _ _).mono ?_; rintro e w1 ⟨rfl, hw⟩; rw [hw]; clear hw w1)
    | (go_at_call 58; refine (pbits_c _ (by omega) (by omega) _).mono ?_; rintro e w1 ⟨rfl, hw⟩; rw [hw]; clear hw w1))
  go_ret2
  exact ⟨by rw [hE]; rfl, Below.refl _ _⟩

set_option maxRecDepth 20000 in
set_option maxHeartbeats 1000000 in
theorem pdo_slt (a b : Int) (a1 : -2147483648 ≤ a) (a2 : a ≤ 2147483647) (b1 : -2147483648 ≤ b) (b2 : b ≤ 2147483647) (w : World) : Calls Tryd.prog 48 #[.string ⟨#[115,108,116]⟩, .int .i32 a, .int .i32 b] w fun e w' => e = .returned (.tuple #[.int .i32 (m_slt a b), .bool true]) ∧ Below w.heap.size w w' := by
  by_cases hlt : a < b
  · rw [show m_slt a b = 1 from if_pos hlt]
    go_enter Tryd.func48, Tryd.ntmps48
    go_wp2_with (first
      | (go_at_call 59; refine (ptruth_c _ _).mono ?_; rintro e w1 ⟨rfl, hw⟩; rw [hw]; clear hw w1)
      | (go_at_call 58; refine (pbits_c _ (by omega) (by omega) _).mono ?_; rintro e w1 ⟨rfl, hw⟩; rw [hw]; clear hw w1))
    go_ret2
    exact ⟨by first | rfl | (simp only [wrap_wd]; rfl), Below.refl _ _⟩
  · rw [show m_slt a b = 0 from if_neg hlt]
    go_enter Tryd.func48, Tryd.ntmps48
    go_wp2_with (first
      | (go_at_call 59; refine (ptruth_c _ _).mono ?_; rintro e w1 ⟨rfl, hw⟩; rw [hw]; clear hw w1)
      | (go_at_call 58; refine (pbits_c _ (by omega) (by omega) _).mono ?_; rintro e w1 ⟨rfl, hw⟩; rw [hw]; clear hw w1))
    go_ret2
    exact ⟨by first | rfl | (simp only [wrap_wd]; rfl), Below.refl _ _⟩

set_option maxRecDepth 20000 in
set_option maxHeartbeats 1000000 in
theorem pdo_sltu (a b : Int) (a1 : -2147483648 ≤ a) (a2 : a ≤ 2147483647) (b1 : -2147483648 ≤ b) (b2 : b ≤ 2147483647) (w : World) : Calls Tryd.prog 48 #[.string ⟨#[115,108,116,117]⟩, .int .i32 a, .int .i32 b] w fun e w' => e = .returned (.tuple #[.int .i32 (m_sltu a b), .bool true]) ∧ Below w.heap.size w w' := by
  by_cases hlt : a % 4294967296 < b % 4294967296
  · rw [show m_sltu a b = 1 from if_pos hlt]
    go_enter Tryd.func48, Tryd.ntmps48
    go_wp2_with (first
      | (go_at_call 59; refine (ptruth_c _ _).mono ?_; rintro e w1 ⟨rfl, hw⟩; rw [hw]; clear hw w1)
      | (go_at_call 58; refine (pbits_c _ (by omega) (by omega) _).mono ?_; rintro e w1 ⟨rfl, hw⟩; rw [hw]; clear hw w1))
    go_ret2
    exact ⟨by first | rfl | (simp only [wrap_wd]; rfl), Below.refl _ _⟩
  · rw [show m_sltu a b = 0 from if_neg hlt]
    go_enter Tryd.func48, Tryd.ntmps48
    go_wp2_with (first
      | (go_at_call 59; refine (ptruth_c _ _).mono ?_; rintro e w1 ⟨rfl, hw⟩; rw [hw]; clear hw w1)
      | (go_at_call 58; refine (pbits_c _ (by omega) (by omega) _).mono ?_; rintro e w1 ⟨rfl, hw⟩; rw [hw]; clear hw w1))
    go_ret2
    exact ⟨by first | rfl | (simp only [wrap_wd]; rfl), Below.refl _ _⟩

set_option maxRecDepth 20000 in
set_option maxHeartbeats 1000000 in
theorem pdo_none (op : ByteArray) (hop : ∀ n ∈ opN, ¬ op.toList = n) (a b : Int) (w : World) : Calls Tryd.prog 48 #[.string op, .int .i32 a, .int .i32 b] w fun e w' => e = .returned (.tuple #[.int .i32 0, .bool false]) ∧ Below w.heap.size w w' := by
  have n0 : ¬ op.toList = [97, 100, 100] := hop _ (by simp [opN])
  have m0 : (op.toList == [97, 100, 100]) = false := by simpa using n0
  have n1 : ¬ op.toList = [115, 117, 98] := hop _ (by simp [opN])
  have m1 : (op.toList == [115, 117, 98]) = false := by simpa using n1
  have n2 : ¬ op.toList = [109, 117, 108] := hop _ (by simp [opN])
  have m2 : (op.toList == [109, 117, 108]) = false := by simpa using n2
  have n3 : ¬ op.toList = [109, 117, 108, 104] := hop _ (by simp [opN])
  have m3 : (op.toList == [109, 117, 108, 104]) = false := by simpa using n3
  have n4 : ¬ op.toList = [109, 117, 108, 104, 117] := hop _ (by simp [opN])
  have m4 : (op.toList == [109, 117, 108, 104, 117]) = false := by simpa using n4
  have n5 : ¬ op.toList = [100, 105, 118] := hop _ (by simp [opN])
  have m5 : (op.toList == [100, 105, 118]) = false := by simpa using n5
  have n6 : ¬ op.toList = [100, 105, 118, 117] := hop _ (by simp [opN])
  have m6 : (op.toList == [100, 105, 118, 117]) = false := by simpa using n6
  have n7 : ¬ op.toList = [114, 101, 109] := hop _ (by simp [opN])
  have m7 : (op.toList == [114, 101, 109]) = false := by simpa using n7
  have n8 : ¬ op.toList = [114, 101, 109, 117] := hop _ (by simp [opN])
  have m8 : (op.toList == [114, 101, 109, 117]) = false := by simpa using n8
  have n9 : ¬ op.toList = [97, 110, 100] := hop _ (by simp [opN])
  have m9 : (op.toList == [97, 110, 100]) = false := by simpa using n9
  have n10 : ¬ op.toList = [111, 114] := hop _ (by simp [opN])
  have m10 : (op.toList == [111, 114]) = false := by simpa using n10
  have n11 : ¬ op.toList = [120, 111, 114] := hop _ (by simp [opN])
  have m11 : (op.toList == [120, 111, 114]) = false := by simpa using n11
  have n12 : ¬ op.toList = [115, 108, 108] := hop _ (by simp [opN])
  have m12 : (op.toList == [115, 108, 108]) = false := by simpa using n12
  have n13 : ¬ op.toList = [115, 114, 108] := hop _ (by simp [opN])
  have m13 : (op.toList == [115, 114, 108]) = false := by simpa using n13
  have n14 : ¬ op.toList = [115, 114, 97] := hop _ (by simp [opN])
  have m14 : (op.toList == [115, 114, 97]) = false := by simpa using n14
  have n15 : ¬ op.toList = [115, 108, 116] := hop _ (by simp [opN])
  have m15 : (op.toList == [115, 108, 116]) = false := by simpa using n15
  have n16 : ¬ op.toList = [115, 108, 116, 117] := hop _ (by simp [opN])
  have m16 : (op.toList == [115, 108, 116, 117]) = false := by simpa using n16
  clear hop
  go_enter Tryd.func48, Tryd.ntmps48
  go_wp2
  go_ret2
  exact ⟨rfl, Below.refl _ _⟩
end Go.Proofs.YtapgaclonilnbaaDoor

/-
  Proved: whatever the name of the operation, mir's Do makes the same of two numbers.
-/
namespace Go.Proofs.YtapgaclonilnbaaDoor
open Go.RowKit
set_option linter.unusedVariables false
set_option linter.unusedSimpArgs false

/-- Both make of two words 'mv', and tell 'f'. -/
structure Dop (op : ByteArray) (mv : Int → Int → Int) (f : Bool) : Prop where
  prog : ∀ (a b : Int) (a1 : -2147483648 ≤ a) (a2 : a ≤ 2147483647) (b1 : -2147483648 ≤ b) (b2 : b ≤ 2147483647) (w : World), Calls Tryd.prog 48 #[.string op, .int .i32 a, .int .i32 b] w fun e w' => e = .returned (.tuple #[.int .i32 (mv a b), .bool f]) ∧ Below w.heap.size w w'
  low : ∀ (a b : Int) (a1 : -2147483648 ≤ a) (a2 : a ≤ 2147483647) (b1 : -2147483648 ≤ b) (b2 : b ≤ 2147483647), -2147483648 ≤ mv a b ∧ mv a b ≤ 2147483647

theorem dop_add : Dop ⟨#[97,100,100]⟩ m_add true := ⟨fun a b a1 a2 b1 b2 w => pdo_add a b a1 a2 b1 b2 w, fun a b a1 a2 b1 b2 => wd_in _⟩
theorem dop_sub : Dop ⟨#[115,117,98]⟩ m_sub true := ⟨fun a b a1 a2 b1 b2 w => pdo_sub a b a1 a2 b1 b2 w, fun a b a1 a2 b1 b2 => wd_in _⟩
theorem dop_mul : Dop ⟨#[109,117,108]⟩ m_mul true := ⟨fun a b a1 a2 b1 b2 w => pdo_mul a b a1 a2 b1 b2 w, fun a b a1 a2 b1 b2 => wd_in _⟩
theorem dop_mulh : Dop ⟨#[109,117,108,104]⟩ m_mulh true := ⟨fun a b a1 a2 b1 b2 w => pdo_mulh a b a1 a2 b1 b2 w, fun a b a1 a2 b1 b2 => wd_in _⟩
theorem dop_mulhu : Dop ⟨#[109,117,108,104,117]⟩ m_mulhu true := ⟨fun a b a1 a2 b1 b2 w => pdo_mulhu a b a1 a2 b1 b2 w, fun a b a1 a2 b1 b2 => wd_in _⟩
theorem dop_div : Dop ⟨#[100,105,118]⟩ m_div true := ⟨fun a b a1 a2 b1 b2 w => pdo_div a b a1 a2 b1 b2 w, fun a b a1 a2 b1 b2 => wd_in _⟩
theorem dop_divu : Dop ⟨#[100,105,118,117]⟩ m_divu true := ⟨fun a b a1 a2 b1 b2 w => pdo_divu a b a1 a2 b1 b2 w, fun a b a1 a2 b1 b2 => wd_in _⟩
theorem dop_rem : Dop ⟨#[114,101,109]⟩ m_rem true := ⟨fun a b a1 a2 b1 b2 w => pdo_rem a b a1 a2 b1 b2 w, fun a b a1 a2 b1 b2 => wd_in _⟩
theorem dop_remu : Dop ⟨#[114,101,109,117]⟩ m_remu true := ⟨fun a b a1 a2 b1 b2 w => pdo_remu a b a1 a2 b1 b2 w, fun a b a1 a2 b1 b2 => wd_in _⟩
theorem dop_and : Dop ⟨#[97,110,100]⟩ m_and true := ⟨fun a b a1 a2 b1 b2 w => pdo_and a b a1 a2 b1 b2 w, fun a b a1 a2 b1 b2 => (bits_32 .and (by simp) a b a1 a2 b1 b2).2⟩
theorem dop_or : Dop ⟨#[111,114]⟩ m_or true := ⟨fun a b a1 a2 b1 b2 w => pdo_or a b a1 a2 b1 b2 w, fun a b a1 a2 b1 b2 => (bits_32 .or (by simp) a b a1 a2 b1 b2).2⟩
theorem dop_xor : Dop ⟨#[120,111,114]⟩ m_xor true := ⟨fun a b a1 a2 b1 b2 w => pdo_xor a b a1 a2 b1 b2 w, fun a b a1 a2 b1 b2 => (bits_32 .xor (by simp) a b a1 a2 b1 b2).2⟩
theorem dop_sll : Dop ⟨#[115,108,108]⟩ m_sll true := ⟨fun a b a1 a2 b1 b2 w => pdo_sll a b a1 a2 b1 b2 w, fun a b a1 a2 b1 b2 => wd_in _⟩
theorem dop_srl : Dop ⟨#[115,114,108]⟩ m_srl true := ⟨fun a b a1 a2 b1 b2 w => pdo_srl a b a1 a2 b1 b2 w, fun a b a1 a2 b1 b2 => wd_in _⟩
theorem dop_sra : Dop ⟨#[115,114,97]⟩ m_sra true := ⟨fun a b a1 a2 b1 b2 w => pdo_sra a b a1 a2 b1 b2 w, fun a b a1 a2 b1 b2 => wd_in _⟩
theorem dop_slt : Dop ⟨#[115,108,116]⟩ m_slt true := ⟨fun a b a1 a2 b1 b2 w => pdo_slt a b a1 a2 b1 b2 w, fun a b a1 a2 b1 b2 => by unfold m_slt; split <;> omega⟩
theorem dop_sltu : Dop ⟨#[115,108,116,117]⟩ m_sltu true := ⟨fun a b a1 a2 b1 b2 w => pdo_sltu a b a1 a2 b1 b2 w, fun a b a1 a2 b1 b2 => by unfold m_sltu; split <;> omega⟩

theorem bytes_of {op : ByteArray} {l : List UInt8} (h : op.toList = l) : op = ⟨l.toArray⟩ :=
  Go.WideShapes.bytes_inj (by rw [← ByteArray.toList_eq, h])

/-- What an operation makes of two words. -/
def dov (op : ByteArray) : Int → Int → Int :=
  if op.toList = [97, 100, 100] then m_add
  else if op.toList = [115, 117, 98] then m_sub
  else if op.toList = [109, 117, 108] then m_mul
  else if op.toList = [109, 117, 108, 104] then m_mulh
  else if op.toList = [109, 117, 108, 104, 117] then m_mulhu
  else if op.toList = [100, 105, 118] then m_div
  else if op.toList = [100, 105, 118, 117] then m_divu
  else if op.toList = [114, 101, 109] then m_rem
  else if op.toList = [114, 101, 109, 117] then m_remu
  else if op.toList = [97, 110, 100] then m_and
  else if op.toList = [111, 114] then m_or
  else if op.toList = [120, 111, 114] then m_xor
  else if op.toList = [115, 108, 108] then m_sll
  else if op.toList = [115, 114, 108] then m_srl
  else if op.toList = [115, 114, 97] then m_sra
  else if op.toList = [115, 108, 116] then m_slt
  else if op.toList = [115, 108, 116, 117] then m_sltu
  else fun _ _ => 0

theorem dop_all (op : ByteArray) : ∃ f, Dop op (dov op) f := by
  by_cases h0 : op.toList = [97, 100, 100]
  · have e : dov op = m_add := by unfold dov; simp only [↓reduceIte, h0]; try rfl
    rw [e, bytes_of h0]; exact ⟨_, dop_add⟩
  by_cases h1 : op.toList = [115, 117, 98]
  · have e : dov op = m_sub := by unfold dov; simp only [if_neg h0, ↓reduceIte, h1]; try rfl
    rw [e, bytes_of h1]; exact ⟨_, dop_sub⟩
  by_cases h2 : op.toList = [109, 117, 108]
  · have e : dov op = m_mul := by unfold dov; simp only [if_neg h0, if_neg h1, ↓reduceIte, h2]; try rfl
    rw [e, bytes_of h2]; exact ⟨_, dop_mul⟩
  by_cases h3 : op.toList = [109, 117, 108, 104]
  · have e : dov op = m_mulh := by unfold dov; simp only [if_neg h0, if_neg h1, if_neg h2, ↓reduceIte, h3]; try rfl
    rw [e, bytes_of h3]; exact ⟨_, dop_mulh⟩
  by_cases h4 : op.toList = [109, 117, 108, 104, 117]
  · have e : dov op = m_mulhu := by unfold dov; simp only [if_neg h0, if_neg h1, if_neg h2, if_neg h3, ↓reduceIte, h4]; try rfl
    rw [e, bytes_of h4]; exact ⟨_, dop_mulhu⟩
  by_cases h5 : op.toList = [100, 105, 118]
  · have e : dov op = m_div := by unfold dov; simp only [if_neg h0, if_neg h1, if_neg h2, if_neg h3, if_neg h4, ↓reduceIte, h5]; try rfl
    rw [e, bytes_of h5]; exact ⟨_, dop_div⟩
  by_cases h6 : op.toList = [100, 105, 118, 117]
  · have e : dov op = m_divu := by unfold dov; simp only [if_neg h0, if_neg h1, if_neg h2, if_neg h3, if_neg h4, if_neg h5, ↓reduceIte, h6]; try rfl
    rw [e, bytes_of h6]; exact ⟨_, dop_divu⟩
  by_cases h7 : op.toList = [114, 101, 109]
  · have e : dov op = m_rem := by unfold dov; simp only [if_neg h0, if_neg h1, if_neg h2, if_neg h3, if_neg h4, if_neg h5, if_neg h6, ↓reduceIte, h7]; try rfl
    rw [e, bytes_of h7]; exact ⟨_, dop_rem⟩
  by_cases h8 : op.toList = [114, 101, 109, 117]
  · have e : dov op = m_remu := by unfold dov; simp only [if_neg h0, if_neg h1, if_neg h2, if_neg h3, if_neg h4, if_neg h5, if_neg h6, if_neg h7, ↓reduceIte, h8]; try rfl
    rw [e, bytes_of h8]; exact ⟨_, dop_remu⟩
  by_cases h9 : op.toList = [97, 110, 100]
  · have e : dov op = m_and := by unfold dov; simp only [if_neg h0, if_neg h1, if_neg h2, if_neg h3, if_neg h4, if_neg h5, if_neg h6, if_neg h7, if_neg h8, ↓reduceIte, h9]; try rfl
    rw [e, bytes_of h9]; exact ⟨_, dop_and⟩
  by_cases h10 : op.toList = [111, 114]
  · have e : dov op = m_or := by unfold dov; simp only [if_neg h0, if_neg h1, if_neg h2, if_neg h3, if_neg h4, if_neg h5, if_neg h6, if_neg h7, if_neg h8, if_neg h9, ↓reduceIte, h10]; try rfl
    rw [e, bytes_of h10]; exact ⟨_, dop_or⟩
  by_cases h11 : op.toList = [120, 111, 114]
  · have e : dov op = m_xor := by unfold dov; simp only [if_neg h0, if_neg h1, if_neg h2, if_neg h3, if_neg h4, if_neg h5, if_neg h6, if_neg h7, if_neg h8, if_neg h9, if_neg h10, ↓reduceIte, h11]; try rfl
    rw [e, bytes_of h11]; exact ⟨_, dop_xor⟩
  by_cases h12 : op.toList = [115, 108, 108]
  · have e : dov op = m_sll := by unfold dov; simp only [if_neg h0, if_neg h1, if_neg h2, if_neg h3, if_neg h4, if_neg h5, if_neg h6, if_neg h7, if_neg h8, if_neg h9, if_neg h10, if_neg h11, ↓reduceIte, h12]; try rfl
    rw [e, bytes_of h12]; exact ⟨_, dop_sll⟩
  by_cases h13 : op.toList = [115, 114, 108]
  · have e : dov op = m_srl := by unfold dov; simp only [if_neg h0, if_neg h1, if_neg h2, if_neg h3, if_neg h4, if_neg h5, if_neg h6, if_neg h7, if_neg h8, if_neg h9, if_neg h10, if_neg h11, if_neg h12, ↓reduceIte, h13]; try rfl
    rw [e, bytes_of h13]; exact ⟨_, dop_srl⟩
  by_cases h14 : op.toList = [115, 114, 97]
  · have e : dov op = m_sra := by unfold dov; simp only [if_neg h0, if_neg h1, if_neg h2, if_neg h3, if_neg h4, if_neg h5, if_neg h6, if_neg h7, if_neg h8, if_neg h9, if_neg h10, if_neg h11, if_neg h12, if_neg h13, ↓reduceIte, h14]; try rfl
    rw [e, bytes_of h14]; exact ⟨_, dop_sra⟩
  by_cases h15 : op.toList = [115, 108, 116]
  · have e : dov op = m_slt := by unfold dov; simp only [if_neg h0, if_neg h1, if_neg h2, if_neg h3, if_neg h4, if_neg h5, if_neg h6, if_neg h7, if_neg h8, if_neg h9, if_neg h10, if_neg h11, if_neg h12, if_neg h13, if_neg h14, ↓reduceIte, h15]; try rfl
    rw [e, bytes_of h15]; exact ⟨_, dop_slt⟩
  by_cases h16 : op.toList = [115, 108, 116, 117]
  · have e : dov op = m_sltu := by unfold dov; simp only [if_neg h0, if_neg h1, if_neg h2, if_neg h3, if_neg h4, if_neg h5, if_neg h6, if_neg h7, if_neg h8, if_neg h9, if_neg h10, if_neg h11, if_neg h12, if_neg h13, if_neg h14, if_neg h15, ↓reduceIte, h16]; try rfl
    rw [e, bytes_of h16]; exact ⟨_, dop_sltu⟩
  have hop : ∀ n ∈ opN, ¬ op.toList = n := by
    intro n hn
    simp only [opN, List.mem_cons, List.not_mem_nil, or_false] at hn
    rcases hn with rfl | rfl | rfl | rfl | rfl | rfl | rfl | rfl | rfl | rfl | rfl | rfl | rfl | rfl | rfl | rfl | rfl <;> assumption
  have e : dov op = fun _ _ => 0 := by unfold dov; simp only [if_neg h0, if_neg h1, if_neg h2, if_neg h3, if_neg h4, if_neg h5, if_neg h6, if_neg h7, if_neg h8, if_neg h9, if_neg h10, if_neg h11, if_neg h12, if_neg h13, if_neg h14, if_neg h15, if_neg h16]
  rw [e]
  exact ⟨false, ⟨fun a b _ _ _ _ w => pdo_none op hop a b w, fun _ _ _ _ _ _ => by omega⟩⟩

set_option maxRecDepth 20000 in
set_option maxHeartbeats 1000000 in
theorem pDo_c {op : ByteArray} {mv : Int → Int → Int} {f : Bool} (D : Dop op mv f) (a b : Int) (w : World) : Calls Tryd.prog 29 #[.string op, .int .i64 a, .int .i64 b] w fun e w' => e = .returned (.tuple #[.int .i64 (mv (wd a) (wd b)), .bool f]) ∧ Below w.heap.size w w' := by
  have a1 := wd_in a
  have b1 := wd_in b
  obtain ⟨a1, a2⟩ := a1
  obtain ⟨b1, b2⟩ := b1
  have hl := D.low (wd a) (wd b) a1 a2 b1 b2
  obtain ⟨l1, l2⟩ := hl
  have ha := wrap_wd a
  have hb := wrap_wd b
  generalize hA : wd a = A at *
  generalize hB : wd b = B at *
  clear hA hB
  generalize hV : mv A B = V at *
  have hc := D.prog A B a1 a2 b1 b2
  rw [hV] at hc
  have hC : Hid (∀ w : World, Calls Tryd.prog 48 #[.string op, .int .i32 A, .int .i32 B] w fun e w' => e = .returned (.tuple #[.int .i32 V, .bool f]) ∧ Below w.heap.size w w') := hc
  clear hV D hc
  go_enter Tryd.func29, Tryd.ntmps29
  go_wp2_with (first
    | (go_at_call 48; refine (hC.out _).mono ?_; rintro e w1 ⟨rfl, hw⟩))
  go_ret2
  exact ⟨rfl, by assumption⟩
end Go.Proofs.YtapgaclonilnbaaDoor

/-
  Proved: what low's own Holds answers, name by name: as the reference's.
-/
namespace Go.Proofs.YtapgaclonilnbaaDoor
open Go.RowKit
set_option linter.unusedVariables false
set_option linter.unusedSimpArgs false
set_option linter.unusedVariables false

theorem drawn {B m : Nat} {w w' : World} (h : Below B w w') : Below B w (w'.drewN m) := ⟨h.os, h.tape, h.output, h.size, h.block⟩
theorem chain {w w1 w2 : World} {o : Obj} (h1 : Below w.heap.size w w1) (h2 : Below (w1.alloc o).heap.size (w1.alloc o) w2) : Below w.heap.size w w2 := by
  have h3 : Below w.heap.size w (w1.alloc o) := h1.alloc h1.size o
  exact h3.trans (h2.mono h3.size)
theorem not_lt (a b : Int) : (decide (a < b) == false) = decide (b ≤ a) := by
  by_cases h : a < b
  · have h2 : ¬ b ≤ a := by omega
    simp [h, h2]
  · have h2 : b ≤ a := by omega
    simp [h, h2]

theorem alike_c (a b : Int) (w : World) : Calls Tryd.prog 49 #[.int .i32 a, .int .i32 b] w fun e w' => e = .returned (.bool (a == b)) ∧ w' = w := by
  go_enter Tryd.func49, Tryd.ntmps49
  go_wp2
  go_ret
  exact ⟨rfl, rfl⟩

theorem below_c (a b : Int) (w : World) : Calls Tryd.prog 50 #[.int .i32 a, .int .i32 b] w fun e w' => e = .returned (.bool (decide (a < b))) ∧ w' = w := by
  go_enter Tryd.func50, Tryd.ntmps50
  go_wp2
  go_ret
  exact ⟨rfl, rfl⟩

theorem from0_c (a b : Int) (w : World) : Calls Tryd.prog 51 #[.int .i32 a, .int .i32 b] w fun e w' => e = .returned (.bool (decide (wh a < wh b))) ∧ w' = w := by
  go_enter Tryd.func51, Tryd.ntmps51
  go_wp2
  go_ret
  exact ⟨rfl, rfl⟩

theorem named_eq (w : World) : Calls Tryd.prog 35 #[.string ⟨#[101,113]⟩] w fun e w' => e = .returned (.tuple #[.agg #[.func (.func 49) #[] #[], .bool true], .bool true]) ∧ Below w.heap.size w w' := by
  go_enter Tryd.func35, Tryd.ntmps35
  go_wp2
  refine bodyPost_ret (v := .tuple #[.agg #[.func (.func 49) #[] #[], .bool true], .bool true]) ?_ rfl ?_
  · simp only [results, show Tryd.f35.results = #[.cell 2 95, .tmp 3] from rfl]
    go_simp
  · exact ⟨rfl, (Below.refl _ _).alloc (Nat.le_refl _) _⟩

theorem named_ne (w : World) : Calls Tryd.prog 35 #[.string ⟨#[110,101]⟩] w fun e w' => e = .returned (.tuple #[.agg #[.func (.func 49) #[] #[], .bool false], .bool true]) ∧ Below w.heap.size w w' := by
  go_enter Tryd.func35, Tryd.ntmps35
  go_wp2
  refine bodyPost_ret (v := .tuple #[.agg #[.func (.func 49) #[] #[], .bool false], .bool true]) ?_ rfl ?_
  · simp only [results, show Tryd.f35.results = #[.cell 2 95, .tmp 3] from rfl]
    go_simp
  · exact ⟨rfl, (Below.refl _ _).alloc (Nat.le_refl _) _⟩

theorem named_lt (w : World) : Calls Tryd.prog 35 #[.string ⟨#[108,116]⟩] w fun e w' => e = .returned (.tuple #[.agg #[.func (.func 50) #[] #[], .bool true], .bool true]) ∧ Below w.heap.size w w' := by
  go_enter Tryd.func35, Tryd.ntmps35
  go_wp2
  refine bodyPost_ret (v := .tuple #[.agg #[.func (.func 50) #[] #[], .bool true], .bool true]) ?_ rfl ?_
  · simp only [results, show Tryd.f35.results = #[.cell 2 95, .tmp 3] from rfl]
    go_simp
  · exact ⟨rfl, (Below.refl _ _).alloc (Nat.le_refl _) _⟩

theorem named_ge (w : World) : Calls Tryd.prog 35 #[.string ⟨#[103,101]⟩] w fun e w' => e = .returned (.tuple #[.agg #[.func (.func 50) #[] #[], .bool false], .bool true]) ∧ Below w.heap.size w w' := by
  go_enter Tryd.func35, Tryd.ntmps35
  go_wp2
  refine bodyPost_ret (v := .tuple #[.agg #[.func (.func 50) #[] #[], .bool false], .bool true]) ?_ rfl ?_
  · simp only [results, show Tryd.f35.results = #[.cell 2 95, .tmp 3] from rfl]
    go_simp
  · exact ⟨rfl, (Below.refl _ _).alloc (Nat.le_refl _) _⟩

theorem named_ltu (w : World) : Calls Tryd.prog 35 #[.string ⟨#[108,116,117]⟩] w fun e w' => e = .returned (.tuple #[.agg #[.func (.func 51) #[] #[], .bool true], .bool true]) ∧ Below w.heap.size w w' := by
  go_enter Tryd.func35, Tryd.ntmps35
  go_wp2
  refine bodyPost_ret (v := .tuple #[.agg #[.func (.func 51) #[] #[], .bool true], .bool true]) ?_ rfl ?_
  · simp only [results, show Tryd.f35.results = #[.cell 2 95, .tmp 3] from rfl]
    go_simp
  · exact ⟨rfl, (Below.refl _ _).alloc (Nat.le_refl _) _⟩

theorem named_geu (w : World) : Calls Tryd.prog 35 #[.string ⟨#[103,101,117]⟩] w fun e w' => e = .returned (.tuple #[.agg #[.func (.func 51) #[] #[], .bool false], .bool true]) ∧ Below w.heap.size w w' := by
  go_enter Tryd.func35, Tryd.ntmps35
  go_wp2
  refine bodyPost_ret (v := .tuple #[.agg #[.func (.func 51) #[] #[], .bool false], .bool true]) ?_ rfl ?_
  · simp only [results, show Tryd.f35.results = #[.cell 2 95, .tmp 3] from rfl]
    go_simp
  · exact ⟨rfl, (Below.refl _ _).alloc (Nat.le_refl _) _⟩

theorem asks_alike (q : Bool) (a b : Int) (w : World) : Calls Tryd.prog 37 #[.agg #[.func (.func 49) #[] #[], .bool q], .int .i32 a, .int .i32 b] w fun e w' => e = .returned (.bool ((a == b) == q)) ∧ Below w.heap.size w w' := by
  go_enter Tryd.func37, Tryd.ntmps37
  go_wp2
  go_quiet ((go_at_call 49; exact Calls.quiet_of_same (alike_c _ _ _)))
  go_wp2
  go_ret
  exact ⟨rfl, drawn ((Below.refl _ _).alloc (Nat.le_refl _) _)⟩

theorem asks_below (q : Bool) (a b : Int) (w : World) : Calls Tryd.prog 37 #[.agg #[.func (.func 50) #[] #[], .bool q], .int .i32 a, .int .i32 b] w fun e w' => e = .returned (.bool ((decide (a < b)) == q)) ∧ Below w.heap.size w w' := by
  go_enter Tryd.func37, Tryd.ntmps37
  go_wp2
  go_quiet ((go_at_call 50; exact Calls.quiet_of_same (below_c _ _ _)))
  go_wp2
  go_ret
  exact ⟨rfl, drawn ((Below.refl _ _).alloc (Nat.le_refl _) _)⟩

theorem asks_belowFrom0 (q : Bool) (a b : Int) (w : World) : Calls Tryd.prog 37 #[.agg #[.func (.func 51) #[] #[], .bool q], .int .i32 a, .int .i32 b] w fun e w' => e = .returned (.bool ((decide (wh a < wh b)) == q)) ∧ Below w.heap.size w w' := by
  go_enter Tryd.func37, Tryd.ntmps37
  go_wp2
  go_quiet ((go_at_call 51; exact Calls.quiet_of_same (from0_c _ _ _)))
  go_wp2
  go_ret
  exact ⟨rfl, drawn ((Below.refl _ _).alloc (Nat.le_refl _) _)⟩

theorem named_none (op : ByteArray) (hop : ∀ n ∈ cmN, ¬ op.toList = n) (w : World) : Calls Tryd.prog 35 #[.string op] w fun e w' => e = .returned (.tuple #[.agg #[.nilFunc, .bool false], .bool false]) ∧ Below w.heap.size w w' := by
  have n0 : ¬ op.toList = [101, 113] := hop _ (by simp [cmN])
  have m0 : (op.toList == [101, 113]) = false := by simpa using n0
  have n1 : ¬ op.toList = [110, 101] := hop _ (by simp [cmN])
  have m1 : (op.toList == [110, 101]) = false := by simpa using n1
  have n2 : ¬ op.toList = [108, 116] := hop _ (by simp [cmN])
  have m2 : (op.toList == [108, 116]) = false := by simpa using n2
  have n3 : ¬ op.toList = [103, 101] := hop _ (by simp [cmN])
  have m3 : (op.toList == [103, 101]) = false := by simpa using n3
  have n4 : ¬ op.toList = [108, 116, 117] := hop _ (by simp [cmN])
  have m4 : (op.toList == [108, 116, 117]) = false := by simpa using n4
  have n5 : ¬ op.toList = [103, 101, 117] := hop _ (by simp [cmN])
  have m5 : (op.toList == [103, 101, 117]) = false := by simpa using n5
  clear hop
  go_enter Tryd.func35, Tryd.ntmps35
  go_wp2
  refine bodyPost_ret (v := .tuple #[.agg #[.nilFunc, .bool false], .bool false]) ?_ rfl ?_
  · simp only [results, show Tryd.f35.results = #[.cell 2 95, .tmp 3] from rfl]
    go_simp
  · exact ⟨rfl, (Below.refl _ _).alloc (Nat.le_refl _) _⟩

/-- Whether a comparison of two words holds. -/
def cmpv (s : ByteArray) (a b : Int) : Bool :=
  if s.toList = [101, 113] then (a == b) == true
  else if s.toList = [110, 101] then (a == b) == false
  else if s.toList = [108, 116] then (decide (a < b)) == true
  else if s.toList = [103, 101] then (decide (a < b)) == false
  else if s.toList = [108, 116, 117] then (decide (wh a < wh b)) == true
  else if s.toList = [103, 101, 117] then (decide (wh a < wh b)) == false
  else false

/-- The comparison of a name. -/
def CmpV (s : ByteArray) (v : Value) : Prop :=
  (∀ w : World, Calls Tryd.prog 35 #[.string s] w fun e w' => e = .returned (.tuple #[v, .bool true]) ∧ Below w.heap.size w w') ∧
  ∀ (a b : Int) (w : World), Calls Tryd.prog 37 #[v, .int .i32 a, .int .i32 b] w fun e w' => e = .returned (.bool (cmpv s a b)) ∧ Below w.heap.size w w'

theorem cmp_all (s : ByteArray) (hs : cmpB s = true) : ∃ f q, CmpV s (.agg #[.func (.func f) #[] #[], .bool q]) := by
  by_cases h0 : s.toList = [101, 113]
  · have e : ∀ a b, cmpv s a b = ((a == b) == true) := fun a b => by unfold cmpv; simp only [↓reduceIte, h0]; try rfl
    refine ⟨49, true, ?_⟩
    unfold CmpV
    simp only [e]
    rw [bytes_of h0]
    exact ⟨fun w => named_eq w, fun a b w => asks_alike true a b w⟩
  by_cases h1 : s.toList = [110, 101]
  · have e : ∀ a b, cmpv s a b = ((a == b) == false) := fun a b => by unfold cmpv; simp only [if_neg h0, ↓reduceIte, h1]; try rfl
    refine ⟨49, false, ?_⟩
    unfold CmpV
    simp only [e]
    rw [bytes_of h1]
    exact ⟨fun w => named_ne w, fun a b w => asks_alike false a b w⟩
  by_cases h2 : s.toList = [108, 116]
  · have e : ∀ a b, cmpv s a b = ((decide (a < b)) == true) := fun a b => by unfold cmpv; simp only [if_neg h0, if_neg h1, ↓reduceIte, h2]; try rfl
    refine ⟨50, true, ?_⟩
    unfold CmpV
    simp only [e]
    rw [bytes_of h2]
    exact ⟨fun w => named_lt w, fun a b w => asks_below true a b w⟩
  by_cases h3 : s.toList = [103, 101]
  · have e : ∀ a b, cmpv s a b = ((decide (a < b)) == false) := fun a b => by unfold cmpv; simp only [if_neg h0, if_neg h1, if_neg h2, ↓reduceIte, h3]; try rfl
    refine ⟨50, false, ?_⟩
    unfold CmpV
    simp only [e]
    rw [bytes_of h3]
    exact ⟨fun w => named_ge w, fun a b w => asks_below false a b w⟩
  by_cases h4 : s.toList = [108, 116, 117]
  · have e : ∀ a b, cmpv s a b = ((decide (wh a < wh b)) == true) := fun a b => by unfold cmpv; simp only [if_neg h0, if_neg h1, if_neg h2, if_neg h3, ↓reduceIte, h4]; try rfl
    refine ⟨51, true, ?_⟩
    unfold CmpV
    simp only [e]
    rw [bytes_of h4]
    exact ⟨fun w => named_ltu w, fun a b w => asks_belowFrom0 true a b w⟩
  by_cases h5 : s.toList = [103, 101, 117]
  · have e : ∀ a b, cmpv s a b = ((decide (wh a < wh b)) == false) := fun a b => by unfold cmpv; simp only [if_neg h0, if_neg h1, if_neg h2, if_neg h3, if_neg h4, ↓reduceIte, h5]; try rfl
    refine ⟨51, false, ?_⟩
    unfold CmpV
    simp only [e]
    rw [bytes_of h5]
    exact ⟨fun w => named_geu w, fun a b w => asks_belowFrom0 false a b w⟩
  unfold cmpB at hs
  simp only [decide_eq_true_eq, cmN, List.mem_cons, List.not_mem_nil, or_false] at hs
  rcases hs with hs | hs | hs | hs | hs | hs
  · exact absurd hs h0
  · exact absurd hs h1
  · exact absurd hs h2
  · exact absurd hs h3
  · exact absurd hs h4
  · exact absurd hs h5

end Go.Proofs.YtapgaclonilnbaaDoor
