/-
  Proved: the law MirSums answers true for every two numbers.
-/
import Derived.Test.YtgjjapmhcbenbaaPsum
namespace Go.Proofs.Ytgjjapmhcbenbaa
open Go.RowKit
set_option linter.unusedVariables false

/-- What an operation makes of words, by its name. -/
def mkf (op : ByteArray) : Option (Int → Int → Int) :=
  if op.data.toList = [97, 100, 100] then some m_add else
  if op.data.toList = [115, 117, 98] then some m_sub else
  if op.data.toList = [109, 117, 108] then some m_mul else
  if op.data.toList = [109, 117, 108, 104] then some m_mulh else
  if op.data.toList = [109, 117, 108, 104, 117] then some m_mulhu else
  if op.data.toList = [100, 105, 118] then some m_div else
  if op.data.toList = [100, 105, 118, 117] then some m_divu else
  if op.data.toList = [114, 101, 109] then some m_rem else
  if op.data.toList = [114, 101, 109, 117] then some m_remu else
  if op.data.toList = [97, 110, 100] then some m_and else
  if op.data.toList = [111, 114] then some m_or else
  if op.data.toList = [120, 111, 114] then some m_xor else
  if op.data.toList = [115, 108, 108] then some m_sll else
  if op.data.toList = [115, 114, 108] then some m_srl else
  if op.data.toList = [115, 114, 97] then some m_sra else
  if op.data.toList = [115, 108, 116] then some m_slt else
  if op.data.toList = [115, 108, 116, 117] then some m_sltu else
  none

theorem mkf_dop (op : ByteArray) : (∃ mv, mkf op = some mv ∧ Dop op mv true) ∨ (mkf op = none ∧ ∃ mv, Dop op mv false) := by
  by_cases h0 : op.data.toList = [97, 100, 100]
  · left; exact ⟨m_add, by unfold mkf; rw [if_pos h0], by rw [show op = ⟨#[97, 100, 100]⟩ from Go.WideShapes.bytes_inj (by rw [h0])]; exact dop_add⟩
  by_cases h1 : op.data.toList = [115, 117, 98]
  · left; exact ⟨m_sub, by unfold mkf; rw [if_neg h0, if_pos h1], by rw [show op = ⟨#[115, 117, 98]⟩ from Go.WideShapes.bytes_inj (by rw [h1])]; exact dop_sub⟩
  by_cases h2 : op.data.toList = [109, 117, 108]
  · left; exact ⟨m_mul, by unfold mkf; rw [if_neg h0, if_neg h1, if_pos h2], by rw [show op = ⟨#[109, 117, 108]⟩ from Go.WideShapes.bytes_inj (by rw [h2])]; exact dop_mul⟩
  by_cases h3 : op.data.toList = [109, 117, 108, 104]
  · left; exact ⟨m_mulh, by unfold mkf; rw [if_neg h0, if_neg h1, if_neg h2, if_pos h3], by rw [show op = ⟨#[109, 117, 108, 104]⟩ from Go.WideShapes.bytes_inj (by rw [h3])]; exact dop_mulh⟩
  by_cases h4 : op.data.toList = [109, 117, 108, 104, 117]
  · left; exact ⟨m_mulhu, by unfold mkf; rw [if_neg h0, if_neg h1, if_neg h2, if_neg h3, if_pos h4], by rw [show op = ⟨#[109, 117, 108, 104, 117]⟩ from Go.WideShapes.bytes_inj (by rw [h4])]; exact dop_mulhu⟩
  by_cases h5 : op.data.toList = [100, 105, 118]
  · left; exact ⟨m_div, by unfold mkf; rw [if_neg h0, if_neg h1, if_neg h2, if_neg h3, if_neg h4, if_pos h5], by rw [show op = ⟨#[100, 105, 118]⟩ from Go.WideShapes.bytes_inj (by rw [h5])]; exact dop_div⟩
  by_cases h6 : op.data.toList = [100, 105, 118, 117]
  · left; exact ⟨m_divu, by unfold mkf; rw [if_neg h0, if_neg h1, if_neg h2, if_neg h3, if_neg h4, if_neg h5, if_pos h6], by rw [show op = ⟨#[100, 105, 118, 117]⟩ from Go.WideShapes.bytes_inj (by rw [h6])]; exact dop_divu⟩
  by_cases h7 : op.data.toList = [114, 101, 109]
  · left; exact ⟨m_rem, by unfold mkf; rw [if_neg h0, if_neg h1, if_neg h2, if_neg h3, if_neg h4, if_neg h5, if_neg h6, if_pos h7], by rw [show op = ⟨#[114, 101, 109]⟩ from Go.WideShapes.bytes_inj (by rw [h7])]; exact dop_rem⟩
  by_cases h8 : op.data.toList = [114, 101, 109, 117]
  · left; exact ⟨m_remu, by unfold mkf; rw [if_neg h0, if_neg h1, if_neg h2, if_neg h3, if_neg h4, if_neg h5, if_neg h6, if_neg h7, if_pos h8], by rw [show op = ⟨#[114, 101, 109, 117]⟩ from Go.WideShapes.bytes_inj (by rw [h8])]; exact dop_remu⟩
  by_cases h9 : op.data.toList = [97, 110, 100]
  · left; exact ⟨m_and, by unfold mkf; rw [if_neg h0, if_neg h1, if_neg h2, if_neg h3, if_neg h4, if_neg h5, if_neg h6, if_neg h7, if_neg h8, if_pos h9], by rw [show op = ⟨#[97, 110, 100]⟩ from Go.WideShapes.bytes_inj (by rw [h9])]; exact dop_and⟩
  by_cases h10 : op.data.toList = [111, 114]
  · left; exact ⟨m_or, by unfold mkf; rw [if_neg h0, if_neg h1, if_neg h2, if_neg h3, if_neg h4, if_neg h5, if_neg h6, if_neg h7, if_neg h8, if_neg h9, if_pos h10], by rw [show op = ⟨#[111, 114]⟩ from Go.WideShapes.bytes_inj (by rw [h10])]; exact dop_or⟩
  by_cases h11 : op.data.toList = [120, 111, 114]
  · left; exact ⟨m_xor, by unfold mkf; rw [if_neg h0, if_neg h1, if_neg h2, if_neg h3, if_neg h4, if_neg h5, if_neg h6, if_neg h7, if_neg h8, if_neg h9, if_neg h10, if_pos h11], by rw [show op = ⟨#[120, 111, 114]⟩ from Go.WideShapes.bytes_inj (by rw [h11])]; exact dop_xor⟩
  by_cases h12 : op.data.toList = [115, 108, 108]
  · left; exact ⟨m_sll, by unfold mkf; rw [if_neg h0, if_neg h1, if_neg h2, if_neg h3, if_neg h4, if_neg h5, if_neg h6, if_neg h7, if_neg h8, if_neg h9, if_neg h10, if_neg h11, if_pos h12], by rw [show op = ⟨#[115, 108, 108]⟩ from Go.WideShapes.bytes_inj (by rw [h12])]; exact dop_sll⟩
  by_cases h13 : op.data.toList = [115, 114, 108]
  · left; exact ⟨m_srl, by unfold mkf; rw [if_neg h0, if_neg h1, if_neg h2, if_neg h3, if_neg h4, if_neg h5, if_neg h6, if_neg h7, if_neg h8, if_neg h9, if_neg h10, if_neg h11, if_neg h12, if_pos h13], by rw [show op = ⟨#[115, 114, 108]⟩ from Go.WideShapes.bytes_inj (by rw [h13])]; exact dop_srl⟩
  by_cases h14 : op.data.toList = [115, 114, 97]
  · left; exact ⟨m_sra, by unfold mkf; rw [if_neg h0, if_neg h1, if_neg h2, if_neg h3, if_neg h4, if_neg h5, if_neg h6, if_neg h7, if_neg h8, if_neg h9, if_neg h10, if_neg h11, if_neg h12, if_neg h13, if_pos h14], by rw [show op = ⟨#[115, 114, 97]⟩ from Go.WideShapes.bytes_inj (by rw [h14])]; exact dop_sra⟩
  by_cases h15 : op.data.toList = [115, 108, 116]
  · left; exact ⟨m_slt, by unfold mkf; rw [if_neg h0, if_neg h1, if_neg h2, if_neg h3, if_neg h4, if_neg h5, if_neg h6, if_neg h7, if_neg h8, if_neg h9, if_neg h10, if_neg h11, if_neg h12, if_neg h13, if_neg h14, if_pos h15], by rw [show op = ⟨#[115, 108, 116]⟩ from Go.WideShapes.bytes_inj (by rw [h15])]; exact dop_slt⟩
  by_cases h16 : op.data.toList = [115, 108, 116, 117]
  · left; exact ⟨m_sltu, by unfold mkf; rw [if_neg h0, if_neg h1, if_neg h2, if_neg h3, if_neg h4, if_neg h5, if_neg h6, if_neg h7, if_neg h8, if_neg h9, if_neg h10, if_neg h11, if_neg h12, if_neg h13, if_neg h14, if_neg h15, if_pos h16], by rw [show op = ⟨#[115, 108, 116, 117]⟩ from Go.WideShapes.bytes_inj (by rw [h16])]; exact dop_sltu⟩
  right
  have hop : ∀ n ∈ opN, ¬ op.toList = n := by
    intro n hn
    rw [ByteArray.toList_eq]
    simp only [opN, List.mem_cons, List.not_mem_nil, or_false] at hn
    rcases hn with rfl | rfl | rfl | rfl | rfl | rfl | rfl | rfl | rfl | rfl | rfl | rfl | rfl | rfl | rfl | rfl | rfl <;> assumption
  exact ⟨by unfold mkf; rw [if_neg h0, if_neg h1, if_neg h2, if_neg h3, if_neg h4, if_neg h5, if_neg h6, if_neg h7, if_neg h8, if_neg h9, if_neg h10, if_neg h11, if_neg h12, if_neg h13, if_neg h14, if_neg h15, if_neg h16], fun _ _ => 0, ⟨fun a b _ _ _ _ w => pdo_none op hop a b w, fun a b w => do_none op hop a b w, fun _ _ _ _ _ _ => by omega⟩⟩

/-- What the law's own closure answers. -/
def K (op : ByteArray) (x y : Int) : Int := match mkf op with
  | some mv => mv (wd x) (wd y)
  | none => 1099511627776

set_option maxRecDepth 20000 in
set_option maxHeartbeats 1000000 in
theorem sums1_c (op : ByteArray) (x y : Int) (w : World) : Calls Try.prog 7 #[.string op, .int .i64 x, .int .i64 y] w fun e w' => e = .returned (.int .i64 (K op x y)) ∧ Below w.heap.size w w' := by
  have a1 := wd_in x
  have b1 := wd_in y
  rcases mkf_dop op with ⟨mv, hm, D⟩ | ⟨hm, mv, D⟩
  · have hK : K op x y = mv (wd x) (wd y) := by unfold K; rw [hm]
    rw [hK]
    have hl := D.low (wd x) (wd y) a1.1 a1.2 b1.1 b1.2
    obtain ⟨l1, l2⟩ := hl
    have hc : Hid (∀ w : World, _) := fun w => pDo_c D x y w
    generalize mv (wd x) (wd y) = V at *
    clear D a1 b1 hK hm
    go_enter Try.func7, Try.ntmps7
    go_wp2_with (first
      | (go_at_call 5; refine (hc.out _).mono ?_; rintro e w1 ⟨rfl, hw⟩))
    go_ret
    exact ⟨rfl, by assumption⟩
  · have hK : K op x y = 1099511627776 := by unfold K; rw [hm]
    rw [hK]
    have hc : Hid (∀ w : World, _) := fun w => pDo_c D x y w
    generalize mv (wd x) (wd y) = V at *
    clear D a1 b1 hK hm
    go_enter Try.func7, Try.ntmps7
    go_wp2_with (first
      | (go_at_call 5; refine (hc.out _).mono ?_; rintro e w1 ⟨rfl, hw⟩))
    go_ret
    exact ⟨rfl, by assumption⟩

/-- What add makes of two numbers. -/
def k_add (x y : Int) : Int := m_add (wd x) (wd y)
theorem K_add (x y : Int) : K ⟨#[97, 100, 100]⟩ x y = k_add x y := rfl
theorem kin_add (x y : Int) : -2147483648 ≤ k_add x y ∧ k_add x y ≤ 2147483647 := dop_add.low (wd x) (wd y) (wd_in x).1 (wd_in x).2 (wd_in y).1 (wd_in y).2
theorem kw_add (x y : Int) : wd (k_add x y) = k_add x y := wd_of _ (kin_add x y)
/-- What sub makes of two numbers. -/
def k_sub (x y : Int) : Int := m_sub (wd x) (wd y)
theorem K_sub (x y : Int) : K ⟨#[115, 117, 98]⟩ x y = k_sub x y := rfl
theorem kin_sub (x y : Int) : -2147483648 ≤ k_sub x y ∧ k_sub x y ≤ 2147483647 := dop_sub.low (wd x) (wd y) (wd_in x).1 (wd_in x).2 (wd_in y).1 (wd_in y).2
theorem kw_sub (x y : Int) : wd (k_sub x y) = k_sub x y := wd_of _ (kin_sub x y)
/-- What mul makes of two numbers. -/
def k_mul (x y : Int) : Int := m_mul (wd x) (wd y)
theorem K_mul (x y : Int) : K ⟨#[109, 117, 108]⟩ x y = k_mul x y := rfl
theorem kin_mul (x y : Int) : -2147483648 ≤ k_mul x y ∧ k_mul x y ≤ 2147483647 := dop_mul.low (wd x) (wd y) (wd_in x).1 (wd_in x).2 (wd_in y).1 (wd_in y).2
theorem kw_mul (x y : Int) : wd (k_mul x y) = k_mul x y := wd_of _ (kin_mul x y)
/-- What mulh makes of two numbers. -/
def k_mulh (x y : Int) : Int := m_mulh (wd x) (wd y)
theorem K_mulh (x y : Int) : K ⟨#[109, 117, 108, 104]⟩ x y = k_mulh x y := rfl
theorem kin_mulh (x y : Int) : -2147483648 ≤ k_mulh x y ∧ k_mulh x y ≤ 2147483647 := dop_mulh.low (wd x) (wd y) (wd_in x).1 (wd_in x).2 (wd_in y).1 (wd_in y).2
theorem kw_mulh (x y : Int) : wd (k_mulh x y) = k_mulh x y := wd_of _ (kin_mulh x y)
/-- What div makes of two numbers. -/
def k_div (x y : Int) : Int := m_div (wd x) (wd y)
theorem K_div (x y : Int) : K ⟨#[100, 105, 118]⟩ x y = k_div x y := rfl
theorem kin_div (x y : Int) : -2147483648 ≤ k_div x y ∧ k_div x y ≤ 2147483647 := dop_div.low (wd x) (wd y) (wd_in x).1 (wd_in x).2 (wd_in y).1 (wd_in y).2
theorem kw_div (x y : Int) : wd (k_div x y) = k_div x y := wd_of _ (kin_div x y)
/-- What divu makes of two numbers. -/
def k_divu (x y : Int) : Int := m_divu (wd x) (wd y)
theorem K_divu (x y : Int) : K ⟨#[100, 105, 118, 117]⟩ x y = k_divu x y := rfl
theorem kin_divu (x y : Int) : -2147483648 ≤ k_divu x y ∧ k_divu x y ≤ 2147483647 := dop_divu.low (wd x) (wd y) (wd_in x).1 (wd_in x).2 (wd_in y).1 (wd_in y).2
theorem kw_divu (x y : Int) : wd (k_divu x y) = k_divu x y := wd_of _ (kin_divu x y)
/-- What rem makes of two numbers. -/
def k_rem (x y : Int) : Int := m_rem (wd x) (wd y)
theorem K_rem (x y : Int) : K ⟨#[114, 101, 109]⟩ x y = k_rem x y := rfl
theorem kin_rem (x y : Int) : -2147483648 ≤ k_rem x y ∧ k_rem x y ≤ 2147483647 := dop_rem.low (wd x) (wd y) (wd_in x).1 (wd_in x).2 (wd_in y).1 (wd_in y).2
theorem kw_rem (x y : Int) : wd (k_rem x y) = k_rem x y := wd_of _ (kin_rem x y)
/-- What remu makes of two numbers. -/
def k_remu (x y : Int) : Int := m_remu (wd x) (wd y)
theorem K_remu (x y : Int) : K ⟨#[114, 101, 109, 117]⟩ x y = k_remu x y := rfl
theorem kin_remu (x y : Int) : -2147483648 ≤ k_remu x y ∧ k_remu x y ≤ 2147483647 := dop_remu.low (wd x) (wd y) (wd_in x).1 (wd_in x).2 (wd_in y).1 (wd_in y).2
theorem kw_remu (x y : Int) : wd (k_remu x y) = k_remu x y := wd_of _ (kin_remu x y)
/-- What and makes of two numbers. -/
def k_and (x y : Int) : Int := m_and (wd x) (wd y)
theorem K_and (x y : Int) : K ⟨#[97, 110, 100]⟩ x y = k_and x y := rfl
theorem kin_and (x y : Int) : -2147483648 ≤ k_and x y ∧ k_and x y ≤ 2147483647 := dop_and.low (wd x) (wd y) (wd_in x).1 (wd_in x).2 (wd_in y).1 (wd_in y).2
theorem kw_and (x y : Int) : wd (k_and x y) = k_and x y := wd_of _ (kin_and x y)
/-- What or makes of two numbers. -/
def k_or (x y : Int) : Int := m_or (wd x) (wd y)
theorem K_or (x y : Int) : K ⟨#[111, 114]⟩ x y = k_or x y := rfl
theorem kin_or (x y : Int) : -2147483648 ≤ k_or x y ∧ k_or x y ≤ 2147483647 := dop_or.low (wd x) (wd y) (wd_in x).1 (wd_in x).2 (wd_in y).1 (wd_in y).2
theorem kw_or (x y : Int) : wd (k_or x y) = k_or x y := wd_of _ (kin_or x y)
/-- What xor makes of two numbers. -/
def k_xor (x y : Int) : Int := m_xor (wd x) (wd y)
theorem K_xor (x y : Int) : K ⟨#[120, 111, 114]⟩ x y = k_xor x y := rfl
theorem kin_xor (x y : Int) : -2147483648 ≤ k_xor x y ∧ k_xor x y ≤ 2147483647 := dop_xor.low (wd x) (wd y) (wd_in x).1 (wd_in x).2 (wd_in y).1 (wd_in y).2
theorem kw_xor (x y : Int) : wd (k_xor x y) = k_xor x y := wd_of _ (kin_xor x y)
/-- What sll makes of two numbers. -/
def k_sll (x y : Int) : Int := m_sll (wd x) (wd y)
theorem K_sll (x y : Int) : K ⟨#[115, 108, 108]⟩ x y = k_sll x y := rfl
theorem kin_sll (x y : Int) : -2147483648 ≤ k_sll x y ∧ k_sll x y ≤ 2147483647 := dop_sll.low (wd x) (wd y) (wd_in x).1 (wd_in x).2 (wd_in y).1 (wd_in y).2
theorem kw_sll (x y : Int) : wd (k_sll x y) = k_sll x y := wd_of _ (kin_sll x y)
/-- What srl makes of two numbers. -/
def k_srl (x y : Int) : Int := m_srl (wd x) (wd y)
theorem K_srl (x y : Int) : K ⟨#[115, 114, 108]⟩ x y = k_srl x y := rfl
theorem kin_srl (x y : Int) : -2147483648 ≤ k_srl x y ∧ k_srl x y ≤ 2147483647 := dop_srl.low (wd x) (wd y) (wd_in x).1 (wd_in x).2 (wd_in y).1 (wd_in y).2
theorem kw_srl (x y : Int) : wd (k_srl x y) = k_srl x y := wd_of _ (kin_srl x y)
/-- What sra makes of two numbers. -/
def k_sra (x y : Int) : Int := m_sra (wd x) (wd y)
theorem K_sra (x y : Int) : K ⟨#[115, 114, 97]⟩ x y = k_sra x y := rfl
theorem kin_sra (x y : Int) : -2147483648 ≤ k_sra x y ∧ k_sra x y ≤ 2147483647 := dop_sra.low (wd x) (wd y) (wd_in x).1 (wd_in x).2 (wd_in y).1 (wd_in y).2
theorem kw_sra (x y : Int) : wd (k_sra x y) = k_sra x y := wd_of _ (kin_sra x y)
/-- What slt makes of two numbers. -/
def k_slt (x y : Int) : Int := m_slt (wd x) (wd y)
theorem K_slt (x y : Int) : K ⟨#[115, 108, 116]⟩ x y = k_slt x y := rfl
theorem kin_slt (x y : Int) : -2147483648 ≤ k_slt x y ∧ k_slt x y ≤ 2147483647 := dop_slt.low (wd x) (wd y) (wd_in x).1 (wd_in x).2 (wd_in y).1 (wd_in y).2
theorem kw_slt (x y : Int) : wd (k_slt x y) = k_slt x y := wd_of _ (kin_slt x y)
/-- What sltu makes of two numbers. -/
def k_sltu (x y : Int) : Int := m_sltu (wd x) (wd y)
theorem K_sltu (x y : Int) : K ⟨#[115, 108, 116, 117]⟩ x y = k_sltu x y := rfl
theorem kin_sltu (x y : Int) : -2147483648 ≤ k_sltu x y ∧ k_sltu x y ≤ 2147483647 := dop_sltu.low (wd x) (wd y) (wd_in x).1 (wd_in x).2 (wd_in y).1 (wd_in y).2
theorem kw_sltu (x y : Int) : wd (k_sltu x y) = k_sltu x y := wd_of _ (kin_sltu x y)

set_option maxRecDepth 20000 in
set_option maxHeartbeats 4000000 in
theorem mirSums_walk (a0 b0 : Int) (w : World) : Calls Try.prog 4 #[.int .i64 a0, .int .i64 b0] w fun e w' => e = .returned (.bool true) ∧ Below w.heap.size w w' := by
  have hmf : ∀ (fn : Fn) (first cap : Array Value) (w : World), (Instr.makeFunc fn first cap).run Try.prog w = .ok (.func fn first cap) w := fun _ _ _ _ => rfl
  have a1 := wd_in a0
  have b1 := wd_in b0
  have hwa : Hid (∀ w : World, _) := fun w => word_c a0 w
  have hwb : Hid (∀ w : World, _) := fun w => word_c b0 w
  generalize wd a0 = A at *
  generalize wd b0 = B at *
  obtain ⟨a1, a2⟩ := a1
  obtain ⟨b1, b2⟩ := b1
  have ea : wd A = A := wd_of A ⟨a1, a2⟩
  have eb : wd B = B := wd_of B ⟨b1, b2⟩
  have hs : bits .and .i64 B 31 = B % 32 := and_mask B 5 (by decide)
  have es : wd (B % 32) = B % 32 := wd_of _ (by omega)
  have f1 : k_sub (k_add A B) B = A := by unfold k_sub; rw [kw_add, eb]; unfold k_add; rw [ea, eb]; exact s_sub A B a1 a2 b1 b2
  have f2 : k_xor (k_xor A B) B = A := by unfold k_xor; rw [show wd (m_xor (wd A) (wd B)) = m_xor (wd A) (wd B) from kw_xor A B, ea, eb]; exact s_xor A B a1 a2 b1 b2
  have f3 : k_add (k_and A B) (k_or A B) = k_add A B := by
    have : k_add (k_and A B) (k_or A B) = m_add (k_and A B) (k_or A B) := by unfold k_add; rw [kw_and, kw_or]
    rw [this]; unfold k_add k_and k_or; rw [ea, eb]; exact s_add A B a1 a2 b1 b2
  have f4 : k_mulh A B * 4294967296 + k_mul A B % 4294967296 = A * B := by unfold k_mulh k_mul; rw [ea, eb]; exact s_mulh A B a1 a2 b1 b2
  have f5 : k_add (k_mul (k_div A B) B) (k_rem A B) = A := by
    have : k_add (k_mul (k_div A B) B) (k_rem A B) = m_add (m_mul (k_div A B) B) (k_rem A B) := by unfold k_add; rw [kw_mul, kw_rem]; unfold k_mul; rw [kw_div, eb]
    rw [this]; unfold k_div k_rem; rw [ea, eb]; exact s_div A B a1 a2 b1 b2
  have f6 : k_add (k_mul (k_divu A B) B) (k_remu A B) = A := by
    have : k_add (k_mul (k_divu A B) B) (k_remu A B) = m_add (m_mul (k_divu A B) B) (k_remu A B) := by unfold k_add; rw [kw_mul, kw_remu]; unfold k_mul; rw [kw_divu, eb]
    rw [this]; unfold k_divu k_remu; rw [ea, eb]; exact s_divu A B a1 a2 b1 b2
  have f7 : k_sra (k_sll (k_sra (k_sll A (B % 32)) (B % 32)) (B % 32)) (B % 32) = k_sra (k_sll A (B % 32)) (B % 32) := by
    have e1 : k_sra (k_sll A (B % 32)) (B % 32) = m_sra (m_sll A (B % 32)) (B % 32) := by unfold k_sra; rw [kw_sll, es]; unfold k_sll; rw [ea, es]
    have e2 : ∀ z, k_sra (k_sll (k_sra z (B % 32)) (B % 32)) (B % 32) = m_sra (m_sll (k_sra z (B % 32)) (B % 32)) (B % 32) := by
      intro z
      show m_sra (wd (k_sll (k_sra z (B % 32)) (B % 32))) (wd (B % 32)) = _
      rw [kw_sll, es]
      show m_sra (m_sll (wd (k_sra z (B % 32))) (wd (B % 32))) (B % 32) = _
      rw [kw_sra, es]
    rw [e2, e1]; exact s_shift A (B % 32) (by omega) (by omega)
  have f8 : k_slt A B + k_slt B A ≤ 1 := by unfold k_slt; rw [ea, eb]; exact s_slt A B a1 a2 b1 b2
  have f9 : k_sltu A A = 0 := s_sltu _
  have f10 : k_srl A 0 = A := by unfold k_srl; rw [ea, show wd 0 = 0 from rfl]; exact s_srl A a1 a2
  have g1 := kin_mulh A B
  have g2 := kin_mul A B
  have g3 := kin_slt A B
  have g4 := kin_slt B A
  obtain ⟨g11, g12⟩ := g1
  obtain ⟨g21, g22⟩ := g2
  obtain ⟨g31, g32⟩ := g3
  obtain ⟨g41, g42⟩ := g4
  have mm := mul_in (a := A) (b := B) (A := 2147483648) (B := 2147483648) (by omega) (by omega) (by omega) (by omega)
  obtain ⟨m1, m2⟩ := mm
  have R : Below w.heap.size w w := Below.refl _ _
  clear ea eb es
  simp only [← K_add, ← K_sub, ← K_mul, ← K_mulh, ← K_div, ← K_divu, ← K_rem, ← K_remu, ← K_and, ← K_or, ← K_xor, ← K_sll, ← K_srl, ← K_sra, ← K_slt, ← K_sltu] at f1 f2 f3 f4 f5 f6 f7 f8 f9 f10 g11 g12 g21 g22 g31 g32 g41 g42
  go_enter Try.func4, Try.ntmps4
  go_wp2_with (first
    | (go_at_call 8; have M2 := M1; refine (hwb.out _).mono ?_; rintro e w1 ⟨rfl, hw⟩; rw [hw]; clear hw w1)
    | (go_at_call 8; refine (hwa.out _).mono ?_; rintro e w1 ⟨rfl, hw⟩; have M1 := hw; rw [hw])
    | (go_at_call 7; refine (sums1_c _ _ _ _).mono ?_; rintro e w1 ⟨rfl, hw⟩; have R := R.trans (hw.mono R.size); clear hw))
  go_ret
  exact ⟨rfl, by assumption⟩
end Go.Proofs.Ytgjjapmhcbenbaa
