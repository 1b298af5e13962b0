/-
  Proved: the reference's Do, operation by operation.
-/
import Derived.Test.YtgjjapmhcbenbaaMword
namespace Go.Proofs.Ytgjjapmhcbenbaa
open Go.RowKit

/-- By how many a shift goes. -/
def sh (b : Int) : Nat := (wh b % 32).toNat

/-- What add makes of two words. -/
def m_add (a b : Int) : Int := wd (a + b)
/-- What sub makes of two words. -/
def m_sub (a b : Int) : Int := wd (a - b)
/-- What mul makes of two words. -/
def m_mul (a b : Int) : Int := wd (a * b)
/-- What mulh makes of two words. -/
def m_mulh (a b : Int) : Int := wd (hi a b)
/-- What mulhu makes of two words. -/
def m_mulhu (a b : Int) : Int := wd (hi (wh a) (wh b))
/-- What div makes of two words. -/
def m_div (a b : Int) : Int := wd (qt a b)
/-- What divu makes of two words. -/
def m_divu (a b : Int) : Int := wd (qt (wh a) (wh b))
/-- What rem makes of two words. -/
def m_rem (a b : Int) : Int := wd (rm a b)
/-- What remu makes of two words. -/
def m_remu (a b : Int) : Int := wd (rm (wh a) (wh b))
/-- What and makes of two words. -/
def m_and (a b : Int) : Int := bits .and .i64 a b
/-- What or makes of two words. -/
def m_or (a b : Int) : Int := bits .or .i64 a b
/-- What xor makes of two words. -/
def m_xor (a b : Int) : Int := bits .xor .i64 a b
/-- What sll makes of two words. -/
def m_sll (a b : Int) : Int := wd (wh a * 2 ^ sh b)
/-- What srl makes of two words. -/
def m_srl (a b : Int) : Int := wd (wh a / 2 ^ sh b)
/-- What sra makes of two words. -/
def m_sra (a b : Int) : Int := wd (a / 2 ^ sh b)
/-- What slt makes of two words. -/
def m_slt (a b : Int) : Int := if a < b then 1 else 0
/-- What sltu makes of two words. -/
def m_sltu (a b : Int) : Int := if wh a < wh b then 1 else 0

theorem below_drn (w : World) (m : Nat) : Below w.heap.size w (w.drewN m) := have h := Below.refl w.heap.size w; ⟨h.os, h.tape, h.output, h.size, h.block⟩

theorem wh_wd (a : Int) : wh (wd a) = wh a := by unfold wh wd; omega

theorem pw_in (s : Int) (h : 0 ≤ s) (h' : s < 32) : 1 ≤ (2 : Int) ^ s.toNat ∧ (2 : Int) ^ s.toNat ≤ 2147483648 := by
  have p0 : (0 : Int) < 2 ^ s.toNat := Int.pow_pos (by decide)
  have p1 : (2 : Nat) ^ s.toNat ≤ 2 ^ 31 := Nat.pow_le_pow_right (by decide) (by omega)
  have e : ((2 ^ s.toNat : Nat) : Int) = (2 : Int) ^ s.toNat := by simp
  omega

set_option maxRecDepth 20000 in
set_option maxHeartbeats 1000000 in
theorem do_add (a b : Int) (w : World) : Calls Try.prog 6 #[.string ⟨#[97,100,100]⟩, .int .i64 a, .int .i64 b] w fun e w' => e = .returned (.tuple #[.int .i64 (m_add (wd a) (wd b)), .bool true]) ∧ Below w.heap.size w w' := by
  have a1 := wd_in a
  have b1 := wd_in b
  have x1 := wh_in (wd a)
  have y1 := wh_in (wd b)
  obtain ⟨a1, a2⟩ := a1
  obtain ⟨b1, b2⟩ := b1
  obtain ⟨x1, x2⟩ := x1
  obtain ⟨y1, y2⟩ := y1
  go_enter Try.func6, Try.ntmps6
  go_wp2_with (first
    | (go_at_call 11; refine (divide_c _ _ (by omega) (by omega) _).mono ?_; rintro e w1 ⟨rfl, hw⟩; rw [hw]; clear hw w1)
    | (go_at_call 10; refine (whole_c _ _).mono ?_; rintro e w1 ⟨rfl, hw⟩; rw [hw]; clear hw w1)
    | (go_at_call 8; refine (word_c _ _).mono ?_; rintro e w1 ⟨rfl, hw⟩; rw [hw]; clear hw w1)
    | (go_at_call 14; refine (flag_c _ _).mono ?_; rintro e w1 ⟨rfl, hw⟩; rw [hw]; clear hw w1)
    | (go_at_call 12; refine (high_c _ _ (by omega) (by omega) (by omega) (by omega) _).mono ?_; rintro e w1 ⟨rfl, hw⟩; rw [hw]; clear hw w1)
    | (go_at_call 13; refine (power_c _ (by omega) (by omega) _).mono ?_; rintro e w1 ⟨rfl, hw⟩; rw [hw]; clear hw w1))
  go_ret2
  exact ⟨rfl, Below.refl _ _⟩

set_option maxRecDepth 20000 in
set_option maxHeartbeats 1000000 in
theorem do_sub (a b : Int) (w : World) : Calls Try.prog 6 #[.string ⟨#[115,117,98]⟩, .int .i64 a, .int .i64 b] w fun e w' => e = .returned (.tuple #[.int .i64 (m_sub (wd a) (wd b)), .bool true]) ∧ Below w.heap.size w w' := by
  have a1 := wd_in a
  have b1 := wd_in b
  have x1 := wh_in (wd a)
  have y1 := wh_in (wd b)
  obtain ⟨a1, a2⟩ := a1
  obtain ⟨b1, b2⟩ := b1
  obtain ⟨x1, x2⟩ := x1
  obtain ⟨y1, y2⟩ := y1
  go_enter Try.func6, Try.ntmps6
  go_wp2_with (first
    | (go_at_call 11; refine (divide_c _ _ (by omega) (by omega) _).mono ?_; rintro e w1 ⟨rfl, hw⟩; rw [hw]; clear hw w1)
    | (go_at_call 10; refine (whole_c _ _).mono ?_; rintro e w1 ⟨rfl, hw⟩; rw [hw]; clear hw w1)
    | (go_at_call 8; refine (word_c _ _).mono ?_; rintro e w1 ⟨rfl, hw⟩; rw [hw]; clear hw w1)
    | (go_at_call 14; refine (flag_c _ _).mono ?_; rintro e w1 ⟨rfl, hw⟩; rw [hw]; clear hw w1)
    | (go_at_call 12; refine (high_c _ _ (by omega) (by omega) (by omega) (by omega) _).mono ?_; rintro e w1 ⟨rfl, hw⟩; rw [hw]; clear hw w1)
    | (go_at_call 13; refine (power_c _ (by omega) (by omega) _).mono ?_; rintro e w1 ⟨rfl, hw⟩; rw [hw]; clear hw w1))
  go_ret2
  exact ⟨rfl, Below.refl _ _⟩

set_option maxRecDepth 20000 in
set_option maxHeartbeats 1000000 in
theorem do_mul (a b : Int) (w : World) : Calls Try.prog 6 #[.string ⟨#[109,117,108]⟩, .int .i64 a, .int .i64 b] w fun e w' => e = .returned (.tuple #[.int .i64 (m_mul (wd a) (wd b)), .bool true]) ∧ Below w.heap.size w w' := by
  have a1 := wd_in a
  have b1 := wd_in b
  have x1 := wh_in (wd a)
  have y1 := wh_in (wd b)
  obtain ⟨a1, a2⟩ := a1
  obtain ⟨b1, b2⟩ := b1
  obtain ⟨x1, x2⟩ := x1
  obtain ⟨y1, y2⟩ := y1
  have mm := mul_in (a := wd a) (b := wd b) (A := 2147483648) (B := 2147483648) (by omega) (by omega) (by omega) (by omega)
  obtain ⟨m1, m2⟩ := mm
  go_enter Try.func6, Try.ntmps6
  go_wp2_with (first
    | (go_at_call 11; refine (divide_c _ _ (by omega) (by omega) _).mono ?_; rintro e w1 ⟨rfl, hw⟩; rw [hw]; clear hw w1)
    | (go_at_call 10; refine (whole_c _ _).mono ?_; rintro e w1 ⟨rfl, hw⟩; rw [hw]; clear hw w1)
    | (go_at_call 8; refine (word_c _ _).mono ?_; rintro e w1 ⟨rfl, hw⟩; rw [hw]; clear hw w1)
    | (go_at_call 14; refine (flag_c _ _).mono ?_; rintro e w1 ⟨rfl, hw⟩; rw [hw]; clear hw w1)
    | (go_at_call 12; refine (high_c _ _ (by omega) (by omega) (by omega) (by omega) _).mono ?_; rintro e w1 ⟨rfl, hw⟩; rw [hw]; clear hw w1)
    | (go_at_call 13; refine (power_c _ (by omega) (by omega) _).mono ?_; rintro e w1 ⟨rfl, hw⟩; rw [hw]; clear hw w1))
  go_ret2
  exact ⟨rfl, Below.refl _ _⟩

set_option maxRecDepth 20000 in
set_option maxHeartbeats 1000000 in
theorem do_mulh (a b : Int) (w : World) : Calls Try.prog 6 #[.string ⟨#[109,117,108,104]⟩, .int .i64 a, .int .i64 b] w fun e w' => e = .returned (.tuple #[.int .i64 (m_mulh (wd a) (wd b)), .bool true]) ∧ Below w.heap.size w w' := by
  have a1 := wd_in a
  have b1 := wd_in b
  have x1 := wh_in (wd a)
  have y1 := wh_in (wd b)
  obtain ⟨a1, a2⟩ := a1
  obtain ⟨b1, b2⟩ := b1
  obtain ⟨x1, x2⟩ := x1
  obtain ⟨y1, y2⟩ := y1
  go_enter Try.func6, Try.ntmps6
  go_wp2_with (first
    | (go_at_call 11; refine (divide_c _ _ (by omega) (by omega) _).mono ?_; rintro e w1 ⟨rfl, hw⟩; rw [hw]; clear hw w1)
    | (go_at_call 10; refine (whole_c _ _).mono ?_; rintro e w1 ⟨rfl, hw⟩; rw [hw]; clear hw w1)
    | (go_at_call 8; refine (word_c _ _).mono ?_; rintro e w1 ⟨rfl, hw⟩; rw [hw]; clear hw w1)
    | (go_at_call 14; refine (flag_c _ _).mono ?_; rintro e w1 ⟨rfl, hw⟩; rw [hw]; clear hw w1)
    | (go_at_call 12; refine (high_c _ _ (by omega) (by omega) (by omega) (by omega) _).mono ?_; rintro e w1 ⟨rfl, hw⟩; rw [hw]; clear hw w1)
    | (go_at_call 13; refine (power_c _ (by omega) (by omega) _).mono ?_; rintro e w1 ⟨rfl, hw⟩; rw [hw]; clear hw w1))
  go_ret2
  exact ⟨rfl, Below.refl _ _⟩

set_option maxRecDepth 20000 in
set_option maxHeartbeats 1000000 in
theorem do_mulhu (a b : Int) (w : World) : Calls Try.prog 6 #[.string ⟨#[109,117,108,104,117]⟩, .int .i64 a, .int .i64 b] w fun e w' => e = .returned (.tuple #[.int .i64 (m_mulhu (wd a) (wd b)), .bool true]) ∧ Below w.heap.size w w' := by
  have a1 := wd_in a
  have b1 := wd_in b
  have x1 := wh_in (wd a)
  have y1 := wh_in (wd b)
  obtain ⟨a1, a2⟩ := a1
  obtain ⟨b1, b2⟩ := b1
  obtain ⟨x1, x2⟩ := x1
  obtain ⟨y1, y2⟩ := y1
  go_enter Try.func6, Try.ntmps6
  go_wp2_with (first
    | (go_at_call 11; refine (divide_c _ _ (by omega) (by omega) _).mono ?_; rintro e w1 ⟨rfl, hw⟩; rw [hw]; clear hw w1)
    | (go_at_call 10; refine (whole_c _ _).mono ?_; rintro e w1 ⟨rfl, hw⟩; rw [hw]; clear hw w1)
    | (go_at_call 8; refine (word_c _ _).mono ?_; rintro e w1 ⟨rfl, hw⟩; rw [hw]; clear hw w1)
    | (go_at_call 14; refine (flag_c _ _).mono ?_; rintro e w1 ⟨rfl, hw⟩; rw [hw]; clear hw w1)
    | (go_at_call 12; refine (high_c _ _ (by omega) (by omega) (by omega) (by omega) _).mono ?_; rintro e w1 ⟨rfl, hw⟩; rw [hw]; clear hw w1)
    | (go_at_call 13; refine (power_c _ (by omega) (by omega) _).mono ?_; rintro e w1 ⟨rfl, hw⟩; rw [hw]; clear hw w1))
  go_ret2
  exact ⟨rfl, Below.refl _ _⟩

set_option maxRecDepth 20000 in
set_option maxHeartbeats 1000000 in
theorem do_div (a b : Int) (w : World) : Calls Try.prog 6 #[.string ⟨#[100,105,118]⟩, .int .i64 a, .int .i64 b] w fun e w' => e = .returned (.tuple #[.int .i64 (m_div (wd a) (wd b)), .bool true]) ∧ Below w.heap.size w w' := by
  have a1 := wd_in a
  have b1 := wd_in b
  have x1 := wh_in (wd a)
  have y1 := wh_in (wd b)
  obtain ⟨a1, a2⟩ := a1
  obtain ⟨b1, b2⟩ := b1
  obtain ⟨x1, x2⟩ := x1
  obtain ⟨y1, y2⟩ := y1
  go_enter Try.func6, Try.ntmps6
  go_wp2_with (first
    | (go_at_call 11; refine (divide_c _ _ (by omega) (by omega) _).mono ?_; rintro e w1 ⟨rfl, hw⟩; rw [hw]; clear hw w1)
    | (go_at_call 10; refine (whole_c _ _).mono ?_; rintro e w1 ⟨rfl, hw⟩; rw [hw]; clear hw w1)
    | (go_at_call 8; refine (word_c _ _).mono ?_; rintro e w1 ⟨rfl, hw⟩; rw [hw]; clear hw w1)
    | (go_at_call 14; refine (flag_c _ _).mono ?_; rintro e w1 ⟨rfl, hw⟩; rw [hw]; clear hw w1)
    | (go_at_call 12; refine (high_c _ _ (by omega) (by omega) (by omega) (by omega) _).mono ?_; rintro e w1 ⟨rfl, hw⟩; rw [hw]; clear hw w1)
    | (go_at_call 13; refine (power_c _ (by omega) (by omega) _).mono ?_; rintro e w1 ⟨rfl, hw⟩; rw [hw]; clear hw w1))
  go_ret2
  exact ⟨rfl, Below.refl _ _⟩

set_option maxRecDepth 20000 in
set_option maxHeartbeats 1000000 in
theorem do_divu (a b : Int) (w : World) : Calls Try.prog 6 #[.string ⟨#[100,105,118,117]⟩, .int .i64 a, .int .i64 b] w fun e w' => e = .returned (.tuple #[.int .i64 (m_divu (wd a) (wd b)), .bool true]) ∧ Below w.heap.size w w' := by
  have a1 := wd_in a
  have b1 := wd_in b
  have x1 := wh_in (wd a)
  have y1 := wh_in (wd b)
  obtain ⟨a1, a2⟩ := a1
  obtain ⟨b1, b2⟩ := b1
  obtain ⟨x1, x2⟩ := x1
  obtain ⟨y1, y2⟩ := y1
  go_enter Try.func6, Try.ntmps6
  go_wp2_with (first
    | (go_at_call 11; refine (divide_c _ _ (by omega) (by omega) _).mono ?_; rintro e w1 ⟨rfl, hw⟩; rw [hw]; clear hw w1)
    | (go_at_call 10; refine (whole_c _ _).mono ?_; rintro e w1 ⟨rfl, hw⟩; rw [hw]; clear hw w1)
    | (go_at_call 8; refine (word_c _ _).mono ?_; rintro e w1 ⟨rfl, hw⟩; rw [hw]; clear hw w1)
    | (go_at_call 14; refine (flag_c _ _).mono ?_; rintro e w1 ⟨rfl, hw⟩; rw [hw]; clear hw w1)
    | (go_at_call 12; refine (high_c _ _ (by omega) (by omega) (by omega) (by omega) _).mono ?_; rintro e w1 ⟨rfl, hw⟩; rw [hw]; clear hw w1)
    | (go_at_call 13; refine (power_c _ (by omega) (by omega) _).mono ?_; rintro e w1 ⟨rfl, hw⟩; rw [hw]; clear hw w1))
  go_ret2
  exact ⟨rfl, Below.refl _ _⟩

set_option maxRecDepth 20000 in
set_option maxHeartbeats 1000000 in
theorem do_rem (a b : Int) (w : World) : Calls Try.prog 6 #[.string ⟨#[114,101,109]⟩, .int .i64 a, .int .i64 b] w fun e w' => e = .returned (.tuple #[.int .i64 (m_rem (wd a) (wd b)), .bool true]) ∧ Below w.heap.size w w' := by
  have a1 := wd_in a
  have b1 := wd_in b
  have x1 := wh_in (wd a)
  have y1 := wh_in (wd b)
  obtain ⟨a1, a2⟩ := a1
  obtain ⟨b1, b2⟩ := b1
  obtain ⟨x1, x2⟩ := x1
  obtain ⟨y1, y2⟩ := y1
  go_enter Try.func6, Try.ntmps6
  go_wp2_with (first
    | (go_at_call 11; refine (divide_c _ _ (by omega) (by omega) _).mono ?_; rintro e w1 ⟨rfl, hw⟩; rw [hw]; clear hw w1)
    | (go_at_call 10; refine (whole_c _ _).mono ?_; rintro e w1 ⟨rfl, hw⟩; rw [hw]; clear hw w1)
    | (go_at_call 8; refine (word_c _ _).mono ?_; rintro e w1 ⟨rfl, hw⟩; rw [hw]; clear hw w1)
    | (go_at_call 14; refine (flag_c _ _).mono ?_; rintro e w1 ⟨rfl, hw⟩; rw [hw]; clear hw w1)
    | (go_at_call 12; refine (high_c _ _ (by omega) (by omega) (by omega) (by omega) _).mono ?_; rintro e w1 ⟨rfl, hw⟩; rw [hw]; clear hw w1)
    | (go_at_call 13; refine (power_c _ (by omega) (by omega) _).mono ?_; rintro e w1 ⟨rfl, hw⟩; rw [hw]; clear hw w1))
  go_ret2
  exact ⟨rfl, Below.refl _ _⟩

set_option maxRecDepth 20000 in
set_option maxHeartbeats 1000000 in
theorem do_remu (a b : Int) (w : World) : Calls Try.prog 6 #[.string ⟨#[114,101,109,117]⟩, .int .i64 a, .int .i64 b] w fun e w' => e = .returned (.tuple #[.int .i64 (m_remu (wd a) (wd b)), .bool true]) ∧ Below w.heap.size w w' := by
  have a1 := wd_in a
  have b1 := wd_in b
  have x1 := wh_in (wd a)
  have y1 := wh_in (wd b)
  obtain ⟨a1, a2⟩ := a1
  obtain ⟨b1, b2⟩ := b1
  obtain ⟨x1, x2⟩ := x1
  obtain ⟨y1, y2⟩ := y1
  go_enter Try.func6, Try.ntmps6
  go_wp2_with (first
    | (go_at_call 11; refine (divide_c _ _ (by omega) (by omega) _).mono ?_; rintro e w1 ⟨rfl, hw⟩; rw [hw]; clear hw w1)
    | (go_at_call 10; refine (whole_c _ _).mono ?_; rintro e w1 ⟨rfl, hw⟩; rw [hw]; clear hw w1)
    | (go_at_call 8; refine (word_c _ _).mono ?_; rintro e w1 ⟨rfl, hw⟩; rw [hw]; clear hw w1)
    | (go_at_call 14; refine (flag_c _ _).mono ?_; rintro e w1 ⟨rfl, hw⟩; rw [hw]; clear hw w1)
    | (go_at_call 12; refine (high_c _ _ (by omega) (by omega) (by omega) (by omega) _).mono ?_; rintro e w1 ⟨rfl, hw⟩; rw [hw]; clear hw w1)
    | (go_at_call 13; refine (power_c _ (by omega) (by omega) _).mono ?_; rintro e w1 ⟨rfl, hw⟩; rw [hw]; clear hw w1))
  go_ret2
  exact ⟨rfl, Below.refl _ _⟩

set_option maxRecDepth 20000 in
set_option maxHeartbeats 1000000 in
theorem do_and (a b : Int) (w : World) : Calls Try.prog 6 #[.string ⟨#[97,110,100]⟩, .int .i64 a, .int .i64 b] w fun e w' => e = .returned (.tuple #[.int .i64 (m_and (wd a) (wd b)), .bool true]) ∧ Below w.heap.size w w' := by
  have a1 := wd_in a
  have b1 := wd_in b
  have x1 := wh_in (wd a)
  have y1 := wh_in (wd b)
  obtain ⟨a1, a2⟩ := a1
  obtain ⟨b1, b2⟩ := b1
  obtain ⟨x1, x2⟩ := x1
  obtain ⟨y1, y2⟩ := y1
  go_enter Try.func6, Try.ntmps6
  go_wp2_with (first
    | (go_at_call 11; refine (divide_c _ _ (by omega) (by omega) _).mono ?_; rintro e w1 ⟨rfl, hw⟩; rw [hw]; clear hw w1)
    | (go_at_call 10; refine (whole_c _ _).mono ?_; rintro e w1 ⟨rfl, hw⟩; rw [hw]; clear hw w1)
    | (go_at_call 8; refine (word_c _ _).mono ?_; rintro e w1 ⟨rfl, hw⟩; rw [hw]; clear hw w1)
    | (go_at_call 14; refine (flag_c _ _).mono ?_; rintro e w1 ⟨rfl, hw⟩; rw [hw]; clear hw w1)
    | (go_at_call 12; refine (high_c _ _ (by omega) (by omega) (by omega) (by omega) _).mono ?_; rintro e w1 ⟨rfl, hw⟩; rw [hw]; clear hw w1)
    | (go_at_call 13; refine (power_c _ (by omega) (by omega) _).mono ?_; rintro e w1 ⟨rfl, hw⟩; rw [hw]; clear hw w1))
  go_ret2
  exact ⟨rfl, Below.refl _ _⟩

set_option maxRecDepth 20000 in
set_option maxHeartbeats 1000000 in
theorem do_or (a b : Int) (w : World) : Calls Try.prog 6 #[.string ⟨#[111,114]⟩, .int .i64 a, .int .i64 b] w fun e w' => e = .returned (.tuple #[.int .i64 (m_or (wd a) (wd b)), .bool true]) ∧ Below w.heap.size w w' := by
  have a1 := wd_in a
  have b1 := wd_in b
  have x1 := wh_in (wd a)
  have y1 := wh_in (wd b)
  obtain ⟨a1, a2⟩ := a1
  obtain ⟨b1, b2⟩ := b1
  obtain ⟨x1, x2⟩ := x1
  obtain ⟨y1, y2⟩ := y1
  go_enter Try.func6, Try.ntmps6
  go_wp2_with (first
    | (go_at_call 11; refine (divide_c _ _ (by omega) (by omega) _).mono ?_; rintro e w1 ⟨rfl, hw⟩; rw [hw]; clear hw w1)
    | (go_at_call 10; refine (whole_c _ _).mono ?_; rintro e w1 ⟨rfl, hw⟩; rw [hw]; clear hw w1)
    | (go_at_call 8; refine (word_c _ _).mono ?_; rintro e w1 ⟨rfl, hw⟩; rw [hw]; clear hw w1)
    | (go_at_call 14; refine (flag_c _ _).mono ?_; rintro e w1 ⟨rfl, hw⟩; rw [hw]; clear hw w1)
    | (go_at_call 12; refine (high_c _ _ (by omega) (by omega) (by omega) (by omega) _).mono ?_; rintro e w1 ⟨rfl, hw⟩; rw [hw]; clear hw w1)
    | (go_at_call 13; refine (power_c _ (by omega) (by omega) _).mono ?_; rintro e w1 ⟨rfl, hw⟩; rw [hw]; clear hw w1))
  go_ret2
  exact ⟨rfl, Below.refl _ _⟩

set_option maxRecDepth 20000 in
set_option maxHeartbeats 1000000 in
theorem do_xor (a b : Int) (w : World) : Calls Try.prog 6 #[.string ⟨#[120,111,114]⟩, .int .i64 a, .int .i64 b] w fun e w' => e = .returned (.tuple #[.int .i64 (m_xor (wd a) (wd b)), .bool true]) ∧ Below w.heap.size w w' := by
  have a1 := wd_in a
  have b1 := wd_in b
  have x1 := wh_in (wd a)
  have y1 := wh_in (wd b)
  obtain ⟨a1, a2⟩ := a1
  obtain ⟨b1, b2⟩ := b1
  obtain ⟨x1, x2⟩ := x1
  obtain ⟨y1, y2⟩ := y1
  go_enter Try.func6, Try.ntmps6
  go_wp2_with (first
    | (go_at_call 11; refine (divide_c _ _ (by omega) (by omega) _).mono ?_; rintro e w1 ⟨rfl, hw⟩; rw [hw]; clear hw w1)
    | (go_at_call 10; refine (whole_c _ _).mono ?_; rintro e w1 ⟨rfl, hw⟩; rw [hw]; clear hw w1)
    | (go_at_call 8; refine (word_c _ _).mono ?_; rintro e w1 ⟨rfl, hw⟩; rw [hw]; clear hw w1)
    | (go_at_call 14; refine (flag_c _ _).mono ?_; rintro e w1 ⟨rfl, hw⟩; rw [hw]; clear hw w1)
    | (go_at_call 12; refine (high_c _ _ (by omega) (by omega) (by omega) (by omega) _).mono ?_; rintro e w1 ⟨rfl, hw⟩; rw [hw]; clear hw w1)
    | (go_at_call 13; refine (power_c _ (by omega) (by omega) _).mono ?_; rintro e w1 ⟨rfl, hw⟩; rw [hw]; clear hw w1))
  go_ret2
  exact ⟨rfl, Below.refl _ _⟩

set_option maxRecDepth 20000 in
set_option maxHeartbeats 1000000 in
theorem do_sll (a b : Int) (w : World) : Calls Try.prog 6 #[.string ⟨#[115,108,108]⟩, .int .i64 a, .int .i64 b] w fun e w' => e = .returned (.tuple #[.int .i64 (m_sll (wd a) (wd b)), .bool true]) ∧ Below w.heap.size w w' := by
  have a1 := wd_in a
  have b1 := wd_in b
  have x1 := wh_in (wd a)
  have y1 := wh_in (wd b)
  obtain ⟨a1, a2⟩ := a1
  obtain ⟨b1, b2⟩ := b1
  obtain ⟨x1, x2⟩ := x1
  obtain ⟨y1, y2⟩ := y1
  have hs : (wh (wd b)).tmod 32 = wh (wd b) % 32 := Int.tmod_eq_emod_of_nonneg y1
  have pp := pw_in (wh (wd b) % 32) (by omega) (by omega)
  obtain ⟨p1, p2⟩ := pp
  have mm : wh (wd a) * 2 ^ (wh (wd b) % 32).toNat ≤ 4294967295 * 2147483648 := Int.mul_le_mul x2 p2 (by omega) (by omega)
  have mn : 0 ≤ wh (wd a) * 2 ^ (wh (wd b) % 32).toNat := Int.mul_nonneg x1 (by omega)
  go_enter Try.func6, Try.ntmps6
  go_wp2_with (first
    | (go_at_call 11; refine (divide_c _ _ (by omega) (by omega) _).mono ?_; rintro e w1 ⟨rfl, hw⟩; rw [hw]; clear hw w1)
    | (go_at_call 10; refine (whole_c _ _).mono ?_; rintro e w1 ⟨rfl, hw⟩; rw [hw]; clear hw w1)
    | (go_at_call 8; refine (word_c _ _).mono ?_; rintro e w1 ⟨rfl, hw⟩; rw [hw]; clear hw w1)
    | (go_at_call 14; refine (flag_c _ _).mono ?_; rintro e w1 ⟨rfl, hw⟩; rw [hw]; clear hw w1)
    | (go_at_call 12; refine (high_c _ _ (by omega) (by omega) (by omega) (by omega) _).mono ?_; rintro e w1 ⟨rfl, hw⟩; rw [hw]; clear hw w1)
    | (go_at_call 13; refine (power_c _ (by omega) (by omega) _).mono ?_; rintro e w1 ⟨rfl, hw⟩; rw [hw]; clear hw w1))
  go_ret2
  exact ⟨rfl, Below.refl _ _⟩

set_option maxRecDepth 20000 in
set_option maxHeartbeats 1000000 in
theorem do_srl (a b : Int) (w : World) : Calls Try.prog 6 #[.string ⟨#[115,114,108]⟩, .int .i64 a, .int .i64 b] w fun e w' => e = .returned (.tuple #[.int .i64 (m_srl (wd a) (wd b)), .bool true]) ∧ Below w.heap.size w w' := by
  have a1 := wd_in a
  have b1 := wd_in b
  have x1 := wh_in (wd a)
  have y1 := wh_in (wd b)
  obtain ⟨a1, a2⟩ := a1
  obtain ⟨b1, b2⟩ := b1
  obtain ⟨x1, x2⟩ := x1
  obtain ⟨y1, y2⟩ := y1
  have hs : (wh (wd b)).tmod 32 = wh (wd b) % 32 := Int.tmod_eq_emod_of_nonneg y1
  have pp := pw_in (wh (wd b) % 32) (by omega) (by omega)
  obtain ⟨p1, p2⟩ := pp
  have hq : (wh (wd a)).tdiv (2 ^ (wh (wd b) % 32).toNat) = wh (wd a) / 2 ^ (wh (wd b) % 32).toNat := Int.tdiv_eq_ediv_of_nonneg x1
  have hq1 : 0 ≤ wh (wd a) / 2 ^ (wh (wd b) % 32).toNat := Int.ediv_nonneg x1 (by omega)
  have hq2 : wh (wd a) / 2 ^ (wh (wd b) % 32).toNat ≤ wh (wd a) := Int.ediv_le_self _ x1
  have hq0 : ((2 : Int) ^ (wh (wd b) % 32).toNat == 0) = false := by simp; omega
  have hq3 : ¬ (2 : Int) ^ (wh (wd b) % 32).toNat = 0 := by omega
  go_enter Try.func6, Try.ntmps6
  go_wp2_with (first
    | (go_at_call 11; refine (divide_c _ _ (by omega) (by omega) _).mono ?_; rintro e w1 ⟨rfl, hw⟩; rw [hw]; clear hw w1)
    | (go_at_call 10; refine (whole_c _ _).mono ?_; rintro e w1 ⟨rfl, hw⟩; rw [hw]; clear hw w1)
    | (go_at_call 8; refine (word_c _ _).mono ?_; rintro e w1 ⟨rfl, hw⟩; rw [hw]; clear hw w1)
    | (go_at_call 14; refine (flag_c _ _).mono ?_; rintro e w1 ⟨rfl, hw⟩; rw [hw]; clear hw w1)
    | (go_at_call 12; refine (high_c _ _ (by omega) (by omega) (by omega) (by omega) _).mono ?_; rintro e w1 ⟨rfl, hw⟩; rw [hw]; clear hw w1)
    | (go_at_call 13; refine (power_c _ (by omega) (by omega) _).mono ?_; rintro e w1 ⟨rfl, hw⟩; rw [hw]; clear hw w1))
  go_ret2
  exact ⟨rfl, Below.refl _ _⟩

set_option maxRecDepth 20000 in
set_option maxHeartbeats 1000000 in
theorem do_sra (a b : Int) (w : World) : Calls Try.prog 6 #[.string ⟨#[115,114,97]⟩, .int .i64 a, .int .i64 b] w fun e w' => e = .returned (.tuple #[.int .i64 (m_sra (wd a) (wd b)), .bool true]) ∧ Below w.heap.size w w' := by
  have a1 := wd_in a
  have b1 := wd_in b
  have x1 := wh_in (wd a)
  have y1 := wh_in (wd b)
  obtain ⟨a1, a2⟩ := a1
  obtain ⟨b1, b2⟩ := b1
  obtain ⟨x1, x2⟩ := x1
  obtain ⟨y1, y2⟩ := y1
  have hs : (wh (wd b)).tmod 32 = wh (wd b) % 32 := Int.tmod_eq_emod_of_nonneg y1
  have pp := pw_in (wh (wd b) % 32) (by omega) (by omega)
  obtain ⟨p1, p2⟩ := pp
  have t1 := tmod_twice (wd a) (2 ^ (wh (wd b) % 32).toNat) (by omega)
  have t2 := floor_twice (wd a) (2 ^ (wh (wd b) % 32).toNat) (by omega)
  have t3 := Int.lt_tmod_of_pos (wd a) (show (0 : Int) < 2 ^ (wh (wd b) % 32).toNat by omega)
  have t4 := Int.tmod_lt_of_pos (wd a) (show (0 : Int) < 2 ^ (wh (wd b) % 32).toNat by omega)
  have t5 := Int.emod_nonneg (wd a) (show (2 : Int) ^ (wh (wd b) % 32).toNat ≠ 0 by omega)
  have t6 := Int.emod_lt_of_pos (wd a) (show (0 : Int) < 2 ^ (wh (wd b) % 32).toNat by omega)
  have t7 : (wd a / 2 ^ (wh (wd b) % 32).toNat).natAbs ≤ (wd a).natAbs := Int.natAbs_ediv_le_natAbs _ _
  have t8 : -2147483648 ≤ wd a / 2 ^ (wh (wd b) % 32).toNat := by omega
  have t9 : wd a / 2 ^ (wh (wd b) % 32).toNat ≤ 2147483648 := by omega
  have hq0 : ((2 : Int) ^ (wh (wd b) % 32).toNat == 0) = false := by simp; omega
  have hq3 : ¬ (2 : Int) ^ (wh (wd b) % 32).toNat = 0 := by omega
  clear t7
  go_enter Try.func6, Try.ntmps6
  go_wp2_with (first
    | (go_at_call 11; refine (divide_c _ _ (by omega) (by omega) _).mono ?_; rintro e w1 ⟨rfl, hw⟩; rw [hw]; clear hw w1)
    | (go_at_call 10; refine (whole_c _ _).mono ?_; rintro e w1 ⟨rfl, hw⟩; rw [hw]; clear hw w1)
    | (go_at_call 8; refine (word_c _ _).mono ?_; rintro e w1 ⟨rfl, hw⟩; rw [hw]; clear hw w1)
    | (go_at_call 14; refine (flag_c _ _).mono ?_; rintro e w1 ⟨rfl, hw⟩; rw [hw]; clear hw w1)
    | (go_at_call 12; refine (high_c _ _ (by omega) (by omega) (by omega) (by omega) _).mono ?_; rintro e w1 ⟨rfl, hw⟩; rw [hw]; clear hw w1)
    | (go_at_call 13; refine (power_c _ (by omega) (by omega) _).mono ?_; rintro e w1 ⟨rfl, hw⟩; rw [hw]; clear hw w1))
  go_quiet (first
    | (go_at_call 13; exact (power_c _ (by omega) (by omega) _).mono (fun _ _ h => ⟨h.1, _, h.2⟩))
    | (go_at_call 8; exact (word_c _ _).mono (fun _ _ h => ⟨h.1, _, h.2⟩)))
  go_wp2
  go_ret2
  exact ⟨rfl, below_drn _ _⟩

set_option maxRecDepth 20000 in
set_option maxHeartbeats 1000000 in
theorem do_slt (a b : Int) (w : World) : Calls Try.prog 6 #[.string ⟨#[115,108,116]⟩, .int .i64 a, .int .i64 b] w fun e w' => e = .returned (.tuple #[.int .i64 (m_slt (wd a) (wd b)), .bool true]) ∧ Below w.heap.size w w' := by
  have a1 := wd_in a
  have b1 := wd_in b
  have x1 := wh_in (wd a)
  have y1 := wh_in (wd b)
  obtain ⟨a1, a2⟩ := a1
  obtain ⟨b1, b2⟩ := b1
  obtain ⟨x1, x2⟩ := x1
  obtain ⟨y1, y2⟩ := y1
  by_cases hlt : wd a < wd b
  · rw [show m_slt (wd a) (wd b) = 1 from if_pos hlt]
    go_enter Try.func6, Try.ntmps6
    go_wp2_with (first
      | (go_at_call 11; refine (divide_c _ _ (by omega) (by omega) _).mono ?_; rintro e w1 ⟨rfl, hw⟩; rw [hw]; clear hw w1)
      | (go_at_call 10; refine (whole_c _ _).mono ?_; rintro e w1 ⟨rfl, hw⟩; rw [hw]; clear hw w1)
      | (go_at_call 8; refine (word_c _ _).mono ?_; rintro e w1 ⟨rfl, hw⟩; rw [hw]; clear hw w1)
      | (go_at_call 14; refine (flag_c _ _).mono ?_; rintro e w1 ⟨rfl, hw⟩; rw [hw]; clear hw w1)
      | (go_at_call 12; refine (high_c _ _ (by omega) (by omega) (by omega) (by omega) _).mono ?_; rintro e w1 ⟨rfl, hw⟩; rw [hw]; clear hw w1)
      | (go_at_call 13; refine (power_c _ (by omega) (by omega) _).mono ?_; rintro e w1 ⟨rfl, hw⟩; rw [hw]; clear hw w1))
    go_ret2
    exact ⟨rfl, Below.refl _ _⟩
  · rw [show m_slt (wd a) (wd b) = 0 from if_neg hlt]
    go_enter Try.func6, Try.ntmps6
    go_wp2_with (first
      | (go_at_call 11; refine (divide_c _ _ (by omega) (by omega) _).mono ?_; rintro e w1 ⟨rfl, hw⟩; rw [hw]; clear hw w1)
      | (go_at_call 10; refine (whole_c _ _).mono ?_; rintro e w1 ⟨rfl, hw⟩; rw [hw]; clear hw w1)
      | (go_at_call 8; refine (word_c _ _).mono ?_; rintro e w1 ⟨rfl, hw⟩; rw [hw]; clear hw w1)
      | (go_at_call 14; refine (flag_c _ _).mono ?_; rintro e w1 ⟨rfl, hw⟩; rw [hw]; clear hw w1)
      | (go_at_call 12; refine (high_c _ _ (by omega) (by omega) (by omega) (by omega) _).mono ?_; rintro e w1 ⟨rfl, hw⟩; rw [hw]; clear hw w1)
      | (go_at_call 13; refine (power_c _ (by omega) (by omega) _).mono ?_; rintro e w1 ⟨rfl, hw⟩; rw [hw]; clear hw w1))
    go_ret2
    exact ⟨rfl, Below.refl _ _⟩

set_option maxRecDepth 20000 in
set_option maxHeartbeats 1000000 in
theorem do_sltu (a b : Int) (w : World) : Calls Try.prog 6 #[.string ⟨#[115,108,116,117]⟩, .int .i64 a, .int .i64 b] w fun e w' => e = .returned (.tuple #[.int .i64 (m_sltu (wd a) (wd b)), .bool true]) ∧ Below w.heap.size w w' := by
  have a1 := wd_in a
  have b1 := wd_in b
  have x1 := wh_in (wd a)
  have y1 := wh_in (wd b)
  obtain ⟨a1, a2⟩ := a1
  obtain ⟨b1, b2⟩ := b1
  obtain ⟨x1, x2⟩ := x1
  obtain ⟨y1, y2⟩ := y1
  by_cases hlt : wh (wd a) < wh (wd b)
  · rw [show m_sltu (wd a) (wd b) = 1 from if_pos hlt]
    go_enter Try.func6, Try.ntmps6
    go_wp2_with (first
      | (go_at_call 11; refine (divide_c _ _ (by omega) (by omega) _).mono ?_; rintro e w1 ⟨rfl, hw⟩; rw [hw]; clear hw w1)
      | (go_at_call 10; refine (whole_c _ _).mono ?_; rintro e w1 ⟨rfl, hw⟩; rw [hw]; clear hw w1)
      | (go_at_call 8; refine (word_c _ _).mono ?_; rintro e w1 ⟨rfl, hw⟩; rw [hw]; clear hw w1)
      | (go_at_call 14; refine (flag_c _ _).mono ?_; rintro e w1 ⟨rfl, hw⟩; rw [hw]; clear hw w1)
      | (go_at_call 12; refine (high_c _ _ (by omega) (by omega) (by omega) (by omega) _).mono ?_; rintro e w1 ⟨rfl, hw⟩; rw [hw]; clear hw w1)
      | (go_at_call 13; refine (power_c _ (by omega) (by omega) _).mono ?_; rintro e w1 ⟨rfl, hw⟩; rw [hw]; clear hw w1))
    go_ret2
    exact ⟨rfl, Below.refl _ _⟩
  · rw [show m_sltu (wd a) (wd b) = 0 from if_neg hlt]
    go_enter Try.func6, Try.ntmps6
    go_wp2_with (first
      | (go_at_call 11; refine (divide_c _ _ (by omega) (by omega) _).mono ?_; rintro e w1 ⟨rfl, hw⟩; rw [hw]; clear hw w1)
      | (go_at_call 10; refine (whole_c _ _).mono ?_; rintro e w1 ⟨rfl, hw⟩; rw [hw]; clear hw w1)
      | (go_at_call 8; refine (word_c _ _).mono ?_; rintro e w1 ⟨rfl, hw⟩; rw [hw]; clear hw w1)
      | (go_at_call 14; refine (flag_c _ _).mono ?_; rintro e w1 ⟨rfl, hw⟩; rw [hw]; clear hw w1)
      | (go_at_call 12; refine (high_c _ _ (by omega) (by omega) (by omega) (by omega) _).mono ?_; rintro e w1 ⟨rfl, hw⟩; rw [hw]; clear hw w1)
      | (go_at_call 13; refine (power_c _ (by omega) (by omega) _).mono ?_; rintro e w1 ⟨rfl, hw⟩; rw [hw]; clear hw w1))
    go_ret2
    exact ⟨rfl, Below.refl _ _⟩

/-- The names of the operations. -/
def opN : List (List UInt8) := [[97, 100, 100], [115, 117, 98], [109, 117, 108], [109, 117, 108, 104], [109, 117, 108, 104, 117], [100, 105, 118], [100, 105, 118, 117], [114, 101, 109], [114, 101, 109, 117], [97, 110, 100], [111, 114], [120, 111, 114], [115, 108, 108], [115, 114, 108], [115, 114, 97], [115, 108, 116], [115, 108, 116, 117]]

set_option maxRecDepth 20000 in
set_option maxHeartbeats 1000000 in
theorem do_none (op : ByteArray) (hop : ∀ n ∈ opN, ¬ op.toList = n) (a b : Int) (w : World) : Calls Try.prog 6 #[.string op, .int .i64 a, .int .i64 b] w fun e w' => e = .returned (.tuple #[.int .i64 0, .bool false]) ∧ Below w.heap.size w w' := by
  have a1 := wd_in a
  have b1 := wd_in b
  have x1 := wh_in (wd a)
  have y1 := wh_in (wd b)
  obtain ⟨a1, a2⟩ := a1
  obtain ⟨b1, b2⟩ := b1
  obtain ⟨x1, x2⟩ := x1
  obtain ⟨y1, y2⟩ := y1
  have n0 : ¬ op.toList = [97, 100, 100] := hop _ (by simp [opN])
  have m0 : (op.toList == [97, 100, 100]) = false := by simpa using n0
  have n1 : ¬ op.toList = [115, 117, 98] := hop _ (by simp [opN])
  have m1 : (op.toList == [115, 117, 98]) = false := by simpa using n1
  have n2 : ¬ op.toList = [109, 117, 108] := hop _ (by simp [opN])
  have m2 : (op.toList == [109, 117, 108]) = false := by simpa using n2
  have n3 : ¬ op.toList = [109, 117, 108, 104] := hop _ (by simp [opN])
  have m3 : (op.toList == [109, 117, 108, 104]) = false := by simpa using n3
  have n4 : ¬ op.toList = [109, 117, 108, 104, 117] := hop _ (by simp [opN])
  have m4 : (op.toList == [109, 117, 108, 104, 117]) = false := by simpa using n4
  have n5 : ¬ op.toList = [100, 105, 118] := hop _ (by simp [opN])
  have m5 : (op.toList == [100, 105, 118]) = false := by simpa using n5
  have n6 : ¬ op.toList = [100, 105, 118, 117] := hop _ (by simp [opN])
  have m6 : (op.toList == [100, 105, 118, 117]) = false := by simpa using n6
  have n7 : ¬ op.toList = [114, 101, 109] := hop _ (by simp [opN])
  have m7 : (op.toList == [114, 101, 109]) = false := by simpa using n7
  have n8 : ¬ op.toList = [114, 101, 109, 117] := hop _ (by simp [opN])
  have m8 : (op.toList == [114, 101, 109, 117]) = false := by simpa using n8
  have n9 : ¬ op.toList = [97, 110, 100] := hop _ (by simp [opN])
  have m9 : (op.toList == [97, 110, 100]) = false := by simpa using n9
  have n10 : ¬ op.toList = [111, 114] := hop _ (by simp [opN])
  have m10 : (op.toList == [111, 114]) = false := by simpa using n10
  have n11 : ¬ op.toList = [120, 111, 114] := hop _ (by simp [opN])
  have m11 : (op.toList == [120, 111, 114]) = false := by simpa using n11
  have n12 : ¬ op.toList = [115, 108, 108] := hop _ (by simp [opN])
  have m12 : (op.toList == [115, 108, 108]) = false := by simpa using n12
  have n13 : ¬ op.toList = [115, 114, 108] := hop _ (by simp [opN])
  have m13 : (op.toList == [115, 114, 108]) = false := by simpa using n13
  have n14 : ¬ op.toList = [115, 114, 97] := hop _ (by simp [opN])
  have m14 : (op.toList == [115, 114, 97]) = false := by simpa using n14
  have n15 : ¬ op.toList = [115, 108, 116] := hop _ (by simp [opN])
  have m15 : (op.toList == [115, 108, 116]) = false := by simpa using n15
  have n16 : ¬ op.toList = [115, 108, 116, 117] := hop _ (by simp [opN])
  have m16 : (op.toList == [115, 108, 116, 117]) = false := by simpa using n16
  clear hop
  go_enter Try.func6, Try.ntmps6
  go_wp2_with (first
    | (go_at_call 11; refine (divide_c _ _ (by omega) (by omega) _).mono ?_; rintro e w1 ⟨rfl, hw⟩; rw [hw]; clear hw w1)
    | (go_at_call 10; refine (whole_c _ _).mono ?_; rintro e w1 ⟨rfl, hw⟩; rw [hw]; clear hw w1)
    | (go_at_call 8; refine (word_c _ _).mono ?_; rintro e w1 ⟨rfl, hw⟩; rw [hw]; clear hw w1)
    | (go_at_call 14; refine (flag_c _ _).mono ?_; rintro e w1 ⟨rfl, hw⟩; rw [hw]; clear hw w1)
    | (go_at_call 12; refine (high_c _ _ (by omega) (by omega) (by omega) (by omega) _).mono ?_; rintro e w1 ⟨rfl, hw⟩; rw [hw]; clear hw w1)
    | (go_at_call 13; refine (power_c _ (by omega) (by omega) _).mono ?_; rintro e w1 ⟨rfl, hw⟩; rw [hw]; clear hw w1))
  go_ret2
  exact ⟨rfl, Below.refl _ _⟩
end Go.Proofs.Ytgjjapmhcbenbaa
