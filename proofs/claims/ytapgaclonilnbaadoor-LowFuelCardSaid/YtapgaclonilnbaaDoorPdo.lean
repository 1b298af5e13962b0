/-
  Proved: what mir's own functions of words make: bits, truth, divided, do, operation by operation.
-/
import Derived.Test.YtapgaclonilnbaaDoorPbits
namespace Go.Proofs.YtapgaclonilnbaaDoor
open Go.RowKit
set_option linter.unusedVariables false
set_option linter.unusedSimpArgs false

theorem ptruth_c (q : Bool) (w : World) : Calls Tryd.prog 59 #[.bool q] w fun e w' => e = .returned (.int .i32 (if q then 1 else 0)) ∧ w' = w := by
  cases q
  all_goals (
    go_enter Tryd.func59, Tryd.ntmps59
    go_wp2
    go_ret
    exact ⟨rfl, rfl⟩)

theorem pbits_c (b : Int) (b1 : -2147483648 ≤ b) (b2 : b ≤ 2147483647) (w : World) : Calls Tryd.prog 58 #[.int .i32 b] w fun e w' => e = .returned (.int .i32 (b % 32)) ∧ w' = w := by
  have h := bits_31 b b1 b2
  go_enter Tryd.func58, Tryd.ntmps58
  go_wp2
  go_ret
  exact ⟨rfl, rfl⟩

theorem wrap_wd (n : Int) : wrap32 n = wd n := by unfold wrap32 wd; rfl
theorem wd_more (n k : Int) : wd (n + 4294967296 * k) = wd n := by unfold wd; omega

theorem sll_is (a b : Int) : m_sll a b = wrap32 (a * 2 ^ (b % 32).toNat) := by
  rw [wrap_wd]
  show wd (a % 4294967296 * 2 ^ (b % 4294967296 % 32).toNat) = _
  rw [show b % 4294967296 % 32 = b % 32 by omega]
  generalize (2 : Int) ^ (b % 32).toNat = P
  have h : a * P = a % 4294967296 * P + 4294967296 * (a / 4294967296 * P) := by
    have := Int.emod_add_mul_ediv a 4294967296
    conv => lhs; rw [← this]
    rw [Int.add_mul, Int.mul_assoc]
  rw [h, wd_more]

theorem srl_is (a b : Int) : m_srl a b = wrap32 (a % 4294967296 / 2 ^ (b % 32).toNat) := by
  rw [wrap_wd]
  show wd (a % 4294967296 / 2 ^ (b % 4294967296 % 32).toNat) = _
  rw [show b % 4294967296 % 32 = b % 32 by omega]

theorem sra_is (a b : Int) (a1 : -2147483648 ≤ a) (a2 : a ≤ 2147483647) : m_sra a b = a / 2 ^ (b % 32).toNat := by
  show wd (a / 2 ^ (b % 4294967296 % 32).toNat) = _
  rw [show b % 4294967296 % 32 = b % 32 by omega]
  have p := pw_in (b % 32) (by omega) (by omega)
  generalize (2 : Int) ^ (b % 32).toNat = P at *
  have t7 : (a / P).natAbs ≤ a.natAbs := Int.natAbs_ediv_le_natAbs _ _
  apply wd_of
  by_cases h0 : 0 ≤ a
  · have := Int.ediv_nonneg h0 (show 0 ≤ P by omega); omega
  · have := Int.ediv_lt_of_lt_mul (show 0 < P by omega) (show a < 0 * P by omega); omega
theorem dz_div (a : Int) (_ : -2147483648 ≤ a) (_ : a ≤ 2147483647) : m_div a 0 = -1 := rfl
theorem dz_divu (a : Int) (_ : -2147483648 ≤ a) (_ : a ≤ 2147483647) : m_divu a 0 = -1 := rfl
theorem dz_rem (a : Int) (h1 : -2147483648 ≤ a) (h2 : a ≤ 2147483647) : m_rem a 0 = a := wd_of a ⟨h1, h2⟩
theorem dz_remu (a : Int) (h1 : -2147483648 ≤ a) (h2 : a ≤ 2147483647) : m_remu a 0 = a := by
  show wd (wh a) = a
  unfold wd wh; omega
theorem dn_div (a b : Int) (a1 : -2147483648 ≤ a) (a2 : a ≤ 2147483647) (b1 : -2147483648 ≤ b) (b2 : b ≤ 2147483647) (hb : ¬ b = 0) : m_div a b = wrap32 (a.tdiv b) := by
  show wd (if b = 0 then -1 else a.tdiv b) = _
  rw [if_neg hb, wrap_wd]
theorem dn_divu (a b : Int) (a1 : -2147483648 ≤ a) (a2 : a ≤ 2147483647) (b1 : -2147483648 ≤ b) (b2 : b ≤ 2147483647) (hb : ¬ b = 0) : m_divu a b = wrap32 ((a % 4294967296) / (b % 4294967296)) := by
  show wd (if b % 4294967296 = 0 then -1 else (a % 4294967296).tdiv (b % 4294967296)) = _
  rw [if_neg (by omega), Int.tdiv_eq_ediv_of_nonneg (by omega), wrap_wd]
theorem dn_rem (a b : Int) (a1 : -2147483648 ≤ a) (a2 : a ≤ 2147483647) (b1 : -2147483648 ≤ b) (b2 : b ≤ 2147483647) (hb : ¬ b = 0) : m_rem a b = a.tmod b := by
  show wd (if b = 0 then a else a.tmod b) = _
  rw [if_neg hb]
  have n2 : (a.tmod b).natAbs ≤ a.natAbs := by rw [Int.natAbs_tmod]; exact Nat.mod_le _ _
  by_cases h0 : 0 ≤ a
  · have := Int.tmod_nonneg b h0
    exact wd_of _ (by omega)
  · have := Int.tmod_nonneg b (show 0 ≤ -a by omega)
    rw [Int.neg_tmod] at this
    exact wd_of _ (by omega)
theorem dn_remu (a b : Int) (a1 : -2147483648 ≤ a) (a2 : a ≤ 2147483647) (b1 : -2147483648 ≤ b) (b2 : b ≤ 2147483647) (hb : ¬ b = 0) : m_remu a b = wrap32 ((a % 4294967296) % (b % 4294967296)) := by
  show wd (if b % 4294967296 = 0 then a % 4294967296 else (a % 4294967296).tmod (b % 4294967296)) = _
  rw [if_neg (by omega), Int.tmod_eq_emod_of_nonneg (by omega), wrap_wd]

set_option maxRecDepth 20000 in
set_option maxHeartbeats 1000000 in
theorem pdiv_div (a b : Int) (a1 : -2147483648 ≤ a) (a2 : a ≤ 2147483647) (b1 : -2147483648 ≤ b) (b2 : b ≤ 2147483647) (w : World) : Calls Tryd.prog 57 #[.string ⟨#[100,105,118]⟩, .int .i32 a, .int .i32 b] w fun e w' => e = .returned (.int .i32 (m_div a b)) ∧ Below w.heap.size w w' := by
  by_cases hb : b = 0
  · subst hb
    rw [show m_div a 0 = -1 from dz_div a a1 a2]
    go_enter Tryd.func57, Tryd.ntmps57
    go_wp2
    go_ret
    exact ⟨rfl, Below.refl _ _⟩
  · have hb2 : (b == 0) = false := by simpa using hb
    have hu : ¬ b % 4294967296 = 0 := by omega
    have hu2 : (b % 4294967296 == 0) = false := by simpa using hu
    have hE := dn_div a b a1 a2 b1 b2 hb
    go_enter Tryd.func57, Tryd.ntmps57
    go_wp2
    go_ret
    exact ⟨by rw [hE]; rfl, Below.refl _ _⟩

set_option maxRecDepth 20000 in
set_option maxHeartbeats 1000000 in
theorem pdiv_divu (a b : Int) (a1 : -2147483648 ≤ a) (a2 : a ≤ 2147483647) (b1 : -2147483648 ≤ b) (b2 : b ≤ 2147483647) (w : World) : Calls Tryd.prog 57 #[.string ⟨#[100,105,118,117]⟩, .int .i32 a, .int .i32 b] w fun e w' => e = .returned (.int .i32 (m_divu a b)) ∧ Below w.heap.size w w' := by
  by_cases hb : b = 0
  · subst hb
    rw [show m_divu a 0 = -1 from dz_divu a a1 a2]
    go_enter Tryd.func57, Tryd.ntmps57
    go_wp2
    go_ret
    exact ⟨rfl, Below.refl _ _⟩
  · have hb2 : (b == 0) = false := by simpa using hb
    have hu : ¬ b % 4294967296 = 0 := by omega
    have hu2 : (b % 4294967296 == 0) = false := by simpa using hu
    have hE := dn_divu a b a1 a2 b1 b2 hb
    go_enter Tryd.func57, Tryd.ntmps57
    go_wp2
    go_ret
    exact ⟨by rw [hE]; rfl, Below.refl _ _⟩

set_option maxRecDepth 20000 in
set_option maxHeartbeats 1000000 in
theorem pdiv_rem (a b : Int) (a1 : -2147483648 ≤ a) (a2 : a ≤ 2147483647) (b1 : -2147483648 ≤ b) (b2 : b ≤ 2147483647) (w : World) : Calls Tryd.prog 57 #[.string ⟨#[114,101,109]⟩, .int .i32 a, .int .i32 b] w fun e w' => e = .returned (.int .i32 (m_rem a b)) ∧ Below w.heap.size w w' := by
  by_cases hb : b = 0
  · subst hb
    rw [show m_rem a 0 = a from dz_rem a a1 a2]
    go_enter Tryd.func57, Tryd.ntmps57
    go_wp2
    go_ret
    exact ⟨rfl, Below.refl _ _⟩
  · have hb2 : (b == 0) = false := by simpa using hb
    have hu : ¬ b % 4294967296 = 0 := by omega
    have hu2 : (b % 4294967296 == 0) = false := by simpa using hu
    have hE := dn_rem a b a1 a2 b1 b2 hb
    go_enter Tryd.func57, Tryd.ntmps57
    go_wp2
    go_ret
    exact ⟨by rw [hE]; rfl, Below.refl _ _⟩

set_option maxRecDepth 20000 in
set_option maxHeartbeats 1000000 in
theorem pdiv_remu (a b : Int) (a1 : -2147483648 ≤ a) (a2 : a ≤ 2147483647) (b1 : -2147483648 ≤ b) (b2 : b ≤ 2147483647) (w : World) : Calls Tryd.prog 57 #[.string ⟨#[114,101,109,117]⟩, .int .i32 a, .int .i32 b] w fun e w' => e = .returned (.int .i32 (m_remu a b)) ∧ Below w.heap.size w w' := by
  by_cases hb : b = 0
  · subst hb
    rw [show m_remu a 0 = a from dz_remu a a1 a2]
    go_enter Tryd.func57, Tryd.ntmps57
    go_wp2
    go_ret
    exact ⟨rfl, Below.refl _ _⟩
  · have hb2 : (b == 0) = false := by simpa using hb
    have hu : ¬ b % 4294967296 = 0 := by omega
    have hu2 : (b % 4294967296 == 0) = false := by simpa using hu
    have hE := dn_remu a b a1 a2 b1 b2 hb
    go_enter Tryd.func57, Tryd.ntmps57
    go_wp2
    go_ret
    exact ⟨by rw [hE]; rfl, Below.refl _ _⟩

set_option maxRecDepth 20000 in
set_option maxHeartbeats 1000000 in
theorem pdo_add (a b : Int) (a1 : -2147483648 ≤ a) (a2 : a ≤ 2147483647) (b1 : -2147483648 ≤ b) (b2 : b ≤ 2147483647) (w : World) : Calls Tryd.prog 48 #[.string ⟨#[97,100,100]⟩, .int .i32 a, .int .i32 b] w fun e w' => e = .returned (.tuple #[.int .i32 (m_add a b), .bool true]) ∧ Below w.heap.size w w' := by
  go_enter Tryd.func48, Tryd.ntmps48
  go_wp2_with (first
    | (go_at_call 59; refine (ptruth_c _ _).mono ?_; rintro e w1 ⟨rfl, hw⟩; rw [hw]; clear hw w1)
    | (go_at_call 58; refine (pbits_c _ (by omega) (by omega) _).mono ?_; rintro e w1 ⟨rfl, hw⟩; rw [hw]; clear hw w1))
  go_ret2
  exact ⟨by first | rfl | (simp only [wrap_wd]; rfl), Below.refl _ _⟩

set_option maxRecDepth 20000 in
set_option maxHeartbeats 1000000 in
theorem pdo_sub (a b : Int) (a1 : -2147483648 ≤ a) (a2 : a ≤ 2147483647) (b1 : -2147483648 ≤ b) (b2 : b ≤ 2147483647) (w : World) : Calls Tryd.prog 48 #[.string ⟨#[115,117,98]⟩, .int .i32 a, .int .i32 b] w fun e w' => e = .returned (.tuple #[.int .i32 (m_sub a b), .bool true]) ∧ Below w.heap.size w w' := by
  go_enter Tryd.func48, Tryd.ntmps48
  go_wp2_with (first
    | (go_at_call 59; refine (ptruth_c _ _).mono ?_; rintro e w1 ⟨rfl, hw⟩; rw [hw]; clear hw w1)
    | (go_at_call 58; refine (pbits_c _ (by omega) (by omega) _).mono ?_; rintro e w1 ⟨rfl, hw⟩; rw [hw]; clear hw w1))
  go_ret2
  exact ⟨by first | rfl | (simp only [wrap_wd]; rfl), Below.refl _ _⟩

set_option maxRecDepth 20000 in
set_option maxHeartbeats 1000000 in
theorem pdo_mul (a b : Int) (a1 : -2147483648 ≤ a) (a2 : a ≤ 2147483647) (b1 : -2147483648 ≤ b) (b2 : b ≤ 2147483647) (w : World) : Calls Tryd.prog 48 #[.string ⟨#[109,117,108]⟩, .int .i32 a, .int .i32 b] w fun e w' => e = .returned (.tuple #[.int .i32 (m_mul a b), .bool true]) ∧ Below w.heap.size w w' := by
  go_enter Tryd.func48, Tryd.ntmps48
  go_wp2_with (first
    | (go_at_call 59; refine (ptruth_c _ _).mono ?_; rintro e w1 ⟨rfl, hw⟩; rw [hw]; clear hw w1)
    | (go_at_call 58; refine (pbits_c _ (by omega) (by omega) _).mono ?_; rintro e w1 ⟨rfl, hw⟩; rw [hw]; clear hw w1))
  go_ret2
  exact ⟨by first | rfl | (simp only [wrap_wd]; rfl), Below.refl _ _⟩

set_option maxRecDepth 20000 in
set_option maxHeartbeats 1000000 in
theorem pdo_mulh (a b : Int) (a1 : -2147483648 ≤ a) (a2 : a ≤ 2147483647) (b1 : -2147483648 ≤ b) (b2 : b ≤ 2147483647) (w : World) : Calls Tryd.prog 48 #[.string ⟨#[109,117,108,104]⟩, .int .i32 a, .int .i32 b] w fun e w' => e = .returned (.tuple #[.int .i32 (m_mulh a b), .bool true]) ∧ Below w.heap.size w w' := by
  have mm := mul_in (a := a) (b := b) (A := 2147483648) (B := 2147483648) (by omega) (by omega) (by omega) (by omega)
  obtain ⟨m1, m2⟩ := mm
  have hE : m_mulh a b = a * b / 4294967296 := wd_of _ (by unfold hi; omega)
  go_enter Tryd.func48, Tryd.ntmps48
  go_wp2_with (first
    | (go_at_call 59; refine (ptruth_c _ _).mono ?_; rintro e w1 ⟨rfl, hw⟩; rw [hw]; clear hw w1)
    | (go_at_call 58; refine (pbits_c _ (by omega) (by omega) _).mono ?_; rintro e w1 ⟨rfl, hw⟩; rw [hw]; clear hw w1))
  go_ret2
  exact ⟨by rw [hE]; rfl, Below.refl _ _⟩

set_option maxRecDepth 20000 in
set_option maxHeartbeats 1000000 in
theorem pdo_mulhu (a b : Int) (a1 : -2147483648 ≤ a) (a2 : a ≤ 2147483647) (b1 : -2147483648 ≤ b) (b2 : b ≤ 2147483647) (w : World) : Calls Tryd.prog 48 #[.string ⟨#[109,117,108,104,117]⟩, .int .i32 a, .int .i32 b] w fun e w' => e = .returned (.tuple #[.int .i32 (m_mulhu a b), .bool true]) ∧ Below w.heap.size w w' := by
  have hu : IntKind.u64.wrap (a % 4294967296 * (b % 4294967296)) = a % 4294967296 * (b % 4294967296) := by
    have m1 : a % 4294967296 * (b % 4294967296) ≤ 4294967295 * 4294967295 := Int.mul_le_mul (by omega) (by omega) (by omega) (by omega)
    have m2 : 0 ≤ a % 4294967296 * (b % 4294967296) := Int.mul_nonneg (by omega) (by omega)
    simp only [IntKind.wrap, IntKind.bits, IntKind.signed]
    simp
    omega
  go_enter Tryd.func48, Tryd.ntmps48
  go_wp2_with (first
    | (go_at_call 59; refine (ptruth_c _ _).mono ?_; rintro e w1 ⟨rfl, hw⟩; rw [hw]; clear hw w1)
    | (go_at_call 58; refine (pbits_c _ (by omega) (by omega) _).mono ?_; rintro e w1 ⟨rfl, hw⟩; rw [hw]; clear hw w1))
  go_ret2
  exact ⟨by first | rfl | (simp only [wrap_wd]; rfl), Below.refl _ _⟩

set_option maxRecDepth 20000 in
set_option maxHeartbeats 1000000 in
theorem pdo_div (a b : Int) (a1 : -2147483648 ≤ a) (a2 : a ≤ 2147483647) (b1 : -2147483648 ≤ b) (b2 : b ≤ 2147483647) (w : World) : Calls Tryd.prog 48 #[.string ⟨#[100,105,118]⟩, .int .i32 a, .int .i32 b] w fun e w' => e = .returned (.tuple #[.int .i32 (m_div a b), .bool true]) ∧ Below w.heap.size w w' := by
  go_enter Tryd.func48, Tryd.ntmps48
  go_wp2_with (first
    | (go_at_call 57; refine (pdiv_div _ _ a1 a2 b1 b2 _).mono ?_; rintro e w1 ⟨rfl, hw⟩))
  go_ret2
  exact ⟨rfl, by assumption⟩

set_option maxRecDepth 20000 in
set_option maxHeartbeats 1000000 in
theorem pdo_divu (a b : Int) (a1 : -2147483648 ≤ a) (a2 : a ≤ 2147483647) (b1 : -2147483648 ≤ b) (b2 : b ≤ 2147483647) (w : World) : Calls Tryd.prog 48 #[.string ⟨#[100,105,118,117]⟩, .int .i32 a, .int .i32 b] w fun e w' => e = .returned (.tuple #[.int .i32 (m_divu a b), .bool true]) ∧ Below w.heap.size w w' := by
  go_enter Tryd.func48, Tryd.ntmps48
  go_wp2_with (first
    | (go_at_call 57; refine (pdiv_divu _ _ a1 a2 b1 b2 _).mono ?_; rintro e w1 ⟨rfl, hw⟩))
  go_ret2
  exact ⟨rfl, by assumption⟩

set_option maxRecDepth 20000 in
set_option maxHeartbeats 1000000 in
theorem pdo_rem (a b : Int) (a1 : -2147483648 ≤ a) (a2 : a ≤ 2147483647) (b1 : -2147483648 ≤ b) (b2 : b ≤ 2147483647) (w : World) : Calls Tryd.prog 48 #[.string ⟨#[114,101,109]⟩, .int .i32 a, .int .i32 b] w fun e w' => e = .returned (.tuple #[.int .i32 (m_rem a b), .bool true]) ∧ Below w.heap.size w w' := by
  go_enter Tryd.func48, Tryd.ntmps48
  go_wp2_with (first
    | (go_at_call 57; refine (pdiv_rem _ _ a1 a2 b1 b2 _).mono ?_; rintro e w1 ⟨rfl, hw⟩))
  go_ret2
  exact ⟨rfl, by assumption⟩

set_option maxRecDepth 20000 in
set_option maxHeartbeats 1000000 in
theorem pdo_remu (a b : Int) (a1 : -2147483648 ≤ a) (a2 : a ≤ 2147483647) (b1 : -2147483648 ≤ b) (b2 : b ≤ 2147483647) (w : World) : Calls Tryd.prog 48 #[.string ⟨#[114,101,109,117]⟩, .int .i32 a, .int .i32 b] w fun e w' => e = .returned (.tuple #[.int .i32 (m_remu a b), .bool true]) ∧ Below w.heap.size w w' := by
  go_enter Tryd.func48, Tryd.ntmps48
  go_wp2_with (first
    | (go_at_call 57; refine (pdiv_remu _ _ a1 a2 b1 b2 _).mono ?_; rintro e w1 ⟨rfl, hw⟩))
  go_ret2
  exact ⟨rfl, by assumption⟩

set_option maxRecDepth 20000 in
set_option maxHeartbeats 1000000 in
theorem pdo_and (a b : Int) (a1 : -2147483648 ≤ a) (a2 : a ≤ 2147483647) (b1 : -2147483648 ≤ b) (b2 : b ≤ 2147483647) (w : World) : Calls Tryd.prog 48 #[.string ⟨#[97,110,100]⟩, .int .i32 a, .int .i32 b] w fun e w' => e = .returned (.tuple #[.int .i32 (m_and a b), .bool true]) ∧ Below w.heap.size w w' := by
  have hE := (bits_32 .and (by simp) a b a1 a2 b1 b2).1
  go_enter Tryd.func48, Tryd.ntmps48
  go_wp2_with (first
    | (go_at_call 59; refine (ptruth_c _ _).mono ?_; rintro e w1 ⟨rfl, hw⟩; rw [hw]; clear hw w1)
    | (go_at_call 58; refine (pbits_c _ (by omega) (by omega) _).mono ?_; rintro e w1 ⟨rfl, hw⟩; rw [hw]; clear hw w1))
  go_ret2
  exact ⟨by first | rfl | (simp only [wrap_wd]; rfl), Below.refl _ _⟩

set_option maxRecDepth 20000 in
set_option maxHeartbeats 1000000 in
theorem pdo_or (a b : Int) (a1 : -2147483648 ≤ a) (a2 : a ≤ 2147483647) (b1 : -2147483648 ≤ b) (b2 : b ≤ 2147483647) (w : World) : Calls Tryd.prog 48 #[.string ⟨#[111,114]⟩, .int .i32 a, .int .i32 b] w fun e w' => e = .returned (.tuple #[.int .i32 (m_or a b), .bool true]) ∧ Below w.heap.size w w' := by
  have hE := (bits_32 .or (by simp) a b a1 a2 b1 b2).1
  go_enter Tryd.func48, Tryd.ntmps48
  go_wp2_with (first
    | (go_at_call 59; refine (ptruth_c _ _).mono ?_; rintro e w1 ⟨rfl, hw⟩; rw [hw]; clear hw w1)
    | (go_at_call 58; refine (pbits_c _ (by omega) (by omega) _).mono ?_; rintro e w1 ⟨rfl, hw⟩; rw [hw]; clear hw w1))
  go_ret2
  exact ⟨by first | rfl | (simp only [wrap_wd]; rfl), Below.refl _ _⟩

set_option maxRecDepth 20000 in
set_option maxHeartbeats 1000000 in
theorem pdo_xor (a b : Int) (a1 : -2147483648 ≤ a) (a2 : a ≤ 2147483647) (b1 : -2147483648 ≤ b) (b2 : b ≤ 2147483647) (w : World) : Calls Tryd.prog 48 #[.string ⟨#[120,111,114]⟩, .int .i32 a, .int .i32 b] w fun e w' => e = .returned (.tuple #[.int .i32 (m_xor a b), .bool true]) ∧ Below w.heap.size w w' := by
  have hE := (bits_32 .xor (by simp) a b a1 a2 b1 b2).1
  go_enter Tryd.func48, Tryd.ntmps48
  go_wp2_with (first
    | (go_at_call 59; refine (ptruth_c _ _).mono ?_; rintro e w1 ⟨rfl, hw⟩; rw [hw]; clear hw w1)
    | (go_at_call 58; refine (pbits_c _ (by omega) (by omega) _).mono ?_; rintro e w1 ⟨rfl, hw⟩; rw [hw]; clear hw w1))
  go_ret2
  exact ⟨by first | rfl | (simp only [wrap_wd]; rfl), Below.refl _ _⟩

set_option maxRecDepth 20000 in
set_option maxHeartbeats 1000000 in
theorem pdo_sll (a b : Int) (a1 : -2147483648 ≤ a) (a2 : a ≤ 2147483647) (b1 : -2147483648 ≤ b) (b2 : b ≤ 2147483647) (w : World) : Calls Tryd.prog 48 #[.string ⟨#[115,108,108]⟩, .int .i32 a, .int .i32 b] w fun e w' => e = .returned (.tuple #[.int .i32 (m_sll a b), .bool true]) ∧ Below w.heap.size w w' := by
  have s1 : 0 ≤ b % 32 := by omega
  have s2 : b % 32 < 32 := by omega
  have hE := sll_is a b
  go_enter Tryd.func48, Tryd.ntmps48
  go_wp2_with (first
    | (go_at_call 59; refine (ptruth_c _ _).mono ?_; rintro e w1 ⟨rfl, hw⟩; rw [hw]; clear hw w1)
    | (go_at_call 58; refine (pbits_c _ (by omega) (by omega) _).mono ?_; rintro e w1 ⟨rfl, hw⟩; rw [hw]; clear hw w1))
  go_ret2
  exact ⟨by rw [hE]; rfl, Below.refl _ _⟩

set_option maxRecDepth 20000 in
set_option maxHeartbeats 1000000 in
theorem pdo_srl (a b : Int) (a1 : -2147483648 ≤ a) (a2 : a ≤ 2147483647) (b1 : -2147483648 ≤ b) (b2 : b ≤ 2147483647) (w : World) : Calls Tryd.prog 48 #[.string ⟨#[115,114,108]⟩, .int .i32 a, .int .i32 b] w fun e w' => e = .returned (.tuple #[.int .i32 (m_srl a b), .bool true]) ∧ Below w.heap.size w w' := by
  have s1 : 0 ≤ b % 32 := by omega
  have s2 : b % 32 < 32 := by omega
  have hE := srl_is a b
  go_enter Tryd.func48, Tryd.ntmps48
  go_wp2_with (first
    | (go_at_call 59; refine (ptruth_c _ _).mono ?_; rintro e w1 ⟨rfl, hw⟩; rw [hw]; clear hw w1)
    | (go_at_call 58; refine (pbits_c _ (by omega) (by omega) _).mono ?_; rintro e w1 ⟨rfl, hw⟩; rw [hw]; clear hw w1))
  go_ret2
  exact ⟨by rw [hE]; rfl, Below.refl _ _⟩

set_option maxRecDepth 20000 in
set_option maxHeartbeats 1000000 in
theorem pdo_sra (a b : Int) (a1 : -2147483648 ≤ a) (a2 : a ≤ 2147483647) (b1 : -2147483648 ≤ b) (b2 : b ≤ 2147483647) (w : World) : Calls Tryd.prog 48 #[.string ⟨#[115,114,97]⟩, .int .i32 a, .int .i32 b] w fun e w' => e = .returned (.tuple #[.int .i32 (m_sra a b), .bool true]) ∧ Below w.heap.size w w' := by
  have s1 : 0 ≤ b % 32 := by omega
  have s2 : b % 32 < 32 := by omega
  have hE := sra_is a b a1 a2
  go_enter Tryd.func48, Tryd.ntmps48
  go_wp2_with (first
    | (go_at_call 59; refine (ptruth_c _ _).mono ?_; rintro e w1 ⟨rfl, hw⟩; rw [hw]; clear hw w1)
    | (go_at_call 58; refine (pbits_c _ (by omega) (by omega) _).mono ?_; rintro e w1 ⟨rfl, hw⟩; rw [hw]; clear hw w1))
  go_ret2
  exact ⟨by rw [hE]; rfl, Below.refl _ _⟩

set_option maxRecDepth 20000 in
set_option maxHeartbeats 1000000 in
theorem pdo_slt (a b : Int) (a1 : -2147483648 ≤ a) (a2 : a ≤ 2147483647) (b1 : -2147483648 ≤ b) (b2 : b ≤ 2147483647) (w : World) : Calls Tryd.prog 48 #[.string ⟨#[115,108,116]⟩, .int .i32 a, .int .i32 b] w fun e w' => e = .returned (.tuple #[.int .i32 (m_slt a b), .bool true]) ∧ Below w.heap.size w w' := by
  by_cases hlt : a < b
  · rw [show m_slt a b = 1 from if_pos hlt]
    go_enter Tryd.func48, Tryd.ntmps48
    go_wp2_with (first
      | (go_at_call 59; refine (ptruth_c _ _).mono ?_; rintro e w1 ⟨rfl, hw⟩; rw [hw]; clear hw w1)
      | (go_at_call 58; refine (pbits_c _ (by omega) (by omega) _).mono ?_; rintro e w1 ⟨rfl, hw⟩; rw [hw]; clear hw w1))
    go_ret2
    exact ⟨by first | rfl | (simp only [wrap_wd]; rfl), Below.refl _ _⟩
  · rw [show m_slt a b = 0 from if_neg hlt]
    go_enter Tryd.func48, Tryd.ntmps48
    go_wp2_with (first
      | (go_at_call 59; refine (ptruth_c _ _).mono ?_; rintro e w1 ⟨rfl, hw⟩; rw [hw]; clear hw w1)
      | (go_at_call 58; refine (pbits_c _ (by omega) (by omega) _).mono ?_; rintro e w1 ⟨rfl, hw⟩; rw [hw]; clear hw w1))
    go_ret2
    exact ⟨by first | rfl | (simp only [wrap_wd]; rfl), Below.refl _ _⟩

set_option maxRecDepth 20000 in
set_option maxHeartbeats 1000000 in
theorem pdo_sltu (a b : Int) (a1 : -2147483648 ≤ a) (a2 : a ≤ 2147483647) (b1 : -2147483648 ≤ b) (b2 : b ≤ 2147483647) (w : World) : Calls Tryd.prog 48 #[.string ⟨#[115,108,116,117]⟩, .int .i32 a, .int .i32 b] w fun e w' => e = .returned (.tuple #[.int .i32 (m_sltu a b), .bool true]) ∧ Below w.heap.size w w' := by
  by_cases hlt : a % 4294967296 < b % 4294967296
  · rw [show m_sltu a b = 1 from if_pos hlt]
    go_enter Tryd.func48, Tryd.ntmps48
    go_wp2_with (first
      | (go_at_call 59; refine (ptruth_c _ _).mono ?_; rintro e w1 ⟨rfl, hw⟩; rw [hw]; clear hw w1)
      | (go_at_call 58; refine (pbits_c _ (by omega) (by omega) _).mono ?_; rintro e w1 ⟨rfl, hw⟩; rw [hw]; clear hw w1))
    go_ret2
    exact ⟨by first | rfl | (simp only [wrap_wd]; rfl), Below.refl _ _⟩
  · rw [show m_sltu a b = 0 from if_neg hlt]
    go_enter Tryd.func48, Tryd.ntmps48
    go_wp2_with (first
      | (go_at_call 59; refine (ptruth_c _ _).mono ?_; rintro e w1 ⟨rfl, hw⟩; rw [hw]; clear hw w1)
      | (go_at_call 58; refine (pbits_c _ (by omega) (by omega) _).mono ?_; rintro e w1 ⟨rfl, hw⟩; rw [hw]; clear hw w1))
    go_ret2
    exact ⟨by first | rfl | (simp only [wrap_wd]; rfl), Below.refl _ _⟩

set_option maxRecDepth 20000 in
set_option maxHeartbeats 1000000 in
theorem pdo_none (op : ByteArray) (hop : ∀ n ∈ opN, ¬ op.toList = n) (a b : Int) (w : World) : Calls Tryd.prog 48 #[.string op, .int .i32 a, .int .i32 b] w fun e w' => e = .returned (.tuple #[.int .i32 0, .bool false]) ∧ Below w.heap.size w w' := by
  have n0 : ¬ op.toList = [97, 100, 100] := hop _ (by simp [opN])
  have m0 : (op.toList == [97, 100, 100]) = false := by simpa using n0
  have n1 : ¬ op.toList = [115, 117, 98] := hop _ (by simp [opN])
  have m1 : (op.toList == [115, 117, 98]) = false := by simpa using n1
  have n2 : ¬ op.toList = [109, 117, 108] := hop _ (by simp [opN])
  have m2 : (op.toList == [109, 117, 108]) = false := by simpa using n2
  have n3 : ¬ op.toList = [109, 117, 108, 104] := hop _ (by simp [opN])
  have m3 : (op.toList == [109, 117, 108, 104]) = false := by simpa using n3
  have n4 : ¬ op.toList = [109, 117, 108, 104, 117] := hop _ (by simp [opN])
  have m4 : (op.toList == [109, 117, 108, 104, 117]) = false := by simpa using n4
  have n5 : ¬ op.toList = [100, 105, 118] := hop _ (by simp [opN])
  have m5 : (op.toList == [100, 105, 118]) = false := by simpa using n5
  have n6 : ¬ op.toList = [100, 105, 118, 117] := hop _ (by simp [opN])
  have m6 : (op.toList == [100, 105, 118, 117]) = false := by simpa using n6
  have n7 : ¬ op.toList = [114, 101, 109] := hop _ (by simp [opN])
  have m7 : (op.toList == [114, 101, 109]) = false := by simpa using n7
  have n8 : ¬ op.toList = [114, 101, 109, 117] := hop _ (by simp [opN])
  have m8 : (op.toList == [114, 101, 109, 117]) = false := by simpa using n8
  have n9 : ¬ op.toList = [97, 110, 100] := hop _ (by simp [opN])
  have m9 : (op.toList == [97, 110, 100]) = false := by simpa using n9
  have n10 : ¬ op.toList = [111, 114] := hop _ (by simp [opN])
  have m10 : (op.toList == [111, 114]) = false := by simpa using n10
  have n11 : ¬ op.toList = [120, 111, 114] := hop _ (by simp [opN])
  have m11 : (op.toList == [120, 111, 114]) = false := by simpa using n11
  have n12 : ¬ op.toList = [115, 108, 108] := hop _ (by simp [opN])
  have m12 : (op.toList == [115, 108, 108]) = false := by simpa using n12
  have n13 : ¬ op.toList = [115, 114, 108] := hop _ (by simp [opN])
  have m13 : (op.toList == [115, 114, 108]) = false := by simpa using n13
  have n14 : ¬ op.toList = [115, 114, 97] := hop _ (by simp [opN])
  have m14 : (op.toList == [115, 114, 97]) = false := by simpa using n14
  have n15 : ¬ op.toList = [115, 108, 116] := hop _ (by simp [opN])
  have m15 : (op.toList == [115, 108, 116]) = false := by simpa using n15
  have n16 : ¬ op.toList = [115, 108, 116, 117] := hop _ (by simp [opN])
  have m16 : (op.toList == [115, 108, 116, 117]) = false := by simpa using n16
  clear hop
  go_enter Tryd.func48, Tryd.ntmps48
  go_wp2
  go_ret2
  exact ⟨rfl, Below.refl _ _⟩
end Go.Proofs.YtapgaclonilnbaaDoor
