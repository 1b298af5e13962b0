/-
  Proved: whatever the name of the operation, mir's Do makes the same of two numbers.
-/
import Derived.Test.YtapgaclonilnbaaDoorPdo
namespace Go.Proofs.YtapgaclonilnbaaDoor
open Go.RowKit
set_option linter.unusedVariables false
set_option linter.unusedSimpArgs false

/-- Both make of two words 'mv', and tell 'f'. -/
structure Dop (op : ByteArray) (mv : Int → Int → Int) (f : Bool) : Prop where
  prog : ∀ (a b : Int) (a1 : -2147483648 ≤ a) (a2 : a ≤ 2147483647) (b1 : -2147483648 ≤ b) (b2 : b ≤ 2147483647) (w : World), Calls Tryd.prog 48 #[.string op, .int .i32 a, .int .i32 b] w fun e w' => e = .returned (.tuple #[.int .i32 (mv a b), .bool f]) ∧ Below w.heap.size w w'
  low : ∀ (a b : Int) (a1 : -2147483648 ≤ a) (a2 : a ≤ 2147483647) (b1 : -2147483648 ≤ b) (b2 : b ≤ 2147483647), -2147483648 ≤ mv a b ∧ mv a b ≤ 2147483647

theorem dop_add : Dop ⟨#[97,100,100]⟩ m_add true := ⟨fun a b a1 a2 b1 b2 w => pdo_add a b a1 a2 b1 b2 w, fun a b a1 a2 b1 b2 => wd_in _⟩
theorem dop_sub : Dop ⟨#[115,117,98]⟩ m_sub true := ⟨fun a b a1 a2 b1 b2 w => pdo_sub a b a1 a2 b1 b2 w, fun a b a1 a2 b1 b2 => wd_in _⟩
theorem dop_mul : Dop ⟨#[109,117,108]⟩ m_mul true := ⟨fun a b a1 a2 b1 b2 w => pdo_mul a b a1 a2 b1 b2 w, fun a b a1 a2 b1 b2 => wd_in _⟩
theorem dop_mulh : Dop ⟨#[109,117,108,104]⟩ m_mulh true := ⟨fun a b a1 a2 b1 b2 w => pdo_mulh a b a1 a2 b1 b2 w, fun a b a1 a2 b1 b2 => wd_in _⟩
theorem dop_mulhu : Dop ⟨#[109,117,108,104,117]⟩ m_mulhu true := ⟨fun a b a1 a2 b1 b2 w => pdo_mulhu a b a1 a2 b1 b2 w, fun a b a1 a2 b1 b2 => wd_in _⟩
theorem dop_div : Dop ⟨#[100,105,118]⟩ m_div true := ⟨fun a b a1 a2 b1 b2 w => pdo_div a b a1 a2 b1 b2 w, fun a b a1 a2 b1 b2 => wd_in _⟩
theorem dop_divu : Dop ⟨#[100,105,118,117]⟩ m_divu true := ⟨fun a b a1 a2 b1 b2 w => pdo_divu a b a1 a2 b1 b2 w, fun a b a1 a2 b1 b2 => wd_in _⟩
theorem dop_rem : Dop ⟨#[114,101,109]⟩ m_rem true := ⟨fun a b a1 a2 b1 b2 w => pdo_rem a b a1 a2 b1 b2 w, fun a b a1 a2 b1 b2 => wd_in _⟩
theorem dop_remu : Dop ⟨#[114,101,109,117]⟩ m_remu true := ⟨fun a b a1 a2 b1 b2 w => pdo_remu a b a1 a2 b1 b2 w, fun a b a1 a2 b1 b2 => wd_in _⟩
theorem dop_and : Dop ⟨#[97,110,100]⟩ m_and true := ⟨fun a b a1 a2 b1 b2 w => pdo_and a b a1 a2 b1 b2 w, fun a b a1 a2 b1 b2 => (bits_32 .and (by simp) a b a1 a2 b1 b2).2⟩
theorem dop_or : Dop ⟨#[111,114]⟩ m_or true := ⟨fun a b a1 a2 b1 b2 w => pdo_or a b a1 a2 b1 b2 w, fun a b a1 a2 b1 b2 => (bits_32 .or (by simp) a b a1 a2 b1 b2).2⟩
theorem dop_xor : Dop ⟨#[120,111,114]⟩ m_xor true := ⟨fun a b a1 a2 b1 b2 w => pdo_xor a b a1 a2 b1 b2 w, fun a b a1 a2 b1 b2 => (bits_32 .xor (by simp) a b a1 a2 b1 b2).2⟩
theorem dop_sll : Dop ⟨#[115,108,108]⟩ m_sll true := ⟨fun a b a1 a2 b1 b2 w => pdo_sll a b a1 a2 b1 b2 w, fun a b a1 a2 b1 b2 => wd_in _⟩
theorem dop_srl : Dop ⟨#[115,114,108]⟩ m_srl true := ⟨fun a b a1 a2 b1 b2 w => pdo_srl a b a1 a2 b1 b2 w, fun a b a1 a2 b1 b2 => wd_in _⟩
theorem dop_sra : Dop ⟨#[115,114,97]⟩ m_sra true := ⟨fun a b a1 a2 b1 b2 w => pdo_sra a b a1 a2 b1 b2 w, fun a b a1 a2 b1 b2 => wd_in _⟩
theorem dop_slt : Dop ⟨#[115,108,116]⟩ m_slt true := ⟨fun a b a1 a2 b1 b2 w => pdo_slt a b a1 a2 b1 b2 w, fun a b a1 a2 b1 b2 => by unfold m_slt; split <;> omega⟩
theorem dop_sltu : Dop ⟨#[115,108,116,117]⟩ m_sltu true := ⟨fun a b a1 a2 b1 b2 w => pdo_sltu a b a1 a2 b1 b2 w, fun a b a1 a2 b1 b2 => by unfold m_sltu; split <;> omega⟩

theorem bytes_of {op : ByteArray} {l : List UInt8} (h : op.toList = l) : op = ⟨l.toArray⟩ :=
  Go.WideShapes.bytes_inj (by rw [← ByteArray.toList_eq, h])

/-- What an operation makes of two words. -/
def dov (op : ByteArray) : Int → Int → Int :=
  if op.toList = [97, 100, 100] then m_add
  else if op.toList = [115, 117, 98] then m_sub
  else if op.toList = [109, 117, 108] then m_mul
  else if op.toList = [109, 117, 108, 104] then m_mulh
  else if op.toList = [109, 117, 108, 104, 117] then m_mulhu
  else if op.toList = [100, 105, 118] then m_div
  else if op.toList = [100, 105, 118, 117] then m_divu
  else if op.toList = [114, 101, 109] then m_rem
  else if op.toList = [114, 101, 109, 117] then m_remu
  else if op.toList = [97, 110, 100] then m_and
  else if op.toList = [111, 114] then m_or
  else if op.toList = [120, 111, 114] then m_xor
  else if op.toList = [115, 108, 108] then m_sll
  else if op.toList = [115, 114, 108] then m_srl
  else if op.toList = [115, 114, 97] then m_sra
  else if op.toList = [115, 108, 116] then m_slt
  else if op.toList = [115, 108, 116, 117] then m_sltu
  else fun _ _ => 0

theorem dop_all (op : ByteArray) : ∃ f, Dop op (dov op) f := by
  by_cases h0 : op.toList = [97, 100, 100]
  · have e : dov op = m_add := by unfold dov; simp only [↓reduceIte, h0]; try rfl
    rw [e, bytes_of h0]; exact ⟨_, dop_add⟩
  by_cases h1 : op.toList = [115, 117, 98]
  · have e : dov op = m_sub := by unfold dov; simp only [if_neg h0, ↓reduceIte, h1]; try rfl
    rw [e, bytes_of h1]; exact ⟨_, dop_sub⟩
  by_cases h2 : op.toList = [109, 117, 108]
  · have e : dov op = m_mul := by unfold dov; simp only [if_neg h0, if_neg h1, ↓reduceIte, h2]; try rfl
    rw [e, bytes_of h2]; exact ⟨_, dop_mul⟩
  by_cases h3 : op.toList = [109, 117, 108, 104]
  · have e : dov op = m_mulh := by unfold dov; simp only [if_neg h0, if_neg h1, if_neg h2, ↓reduceIte, h3]; try rfl
    rw [e, bytes_of h3]; exact ⟨_, dop_mulh⟩
  by_cases h4 : op.toList = [109, 117, 108, 104, 117]
  · have e : dov op = m_mulhu := by unfold dov; simp only [if_neg h0, if_neg h1, if_neg h2, if_neg h3, ↓reduceIte, h4]; try rfl
    rw [e, bytes_of h4]; exact ⟨_, dop_mulhu⟩
  by_cases h5 : op.toList = [100, 105, 118]
  · have e : dov op = m_div := by unfold dov; simp only [if_neg h0, if_neg h1, if_neg h2, if_neg h3, if_neg h4, ↓reduceIte, h5]; try rfl
    rw [e, bytes_of h5]; exact ⟨_, dop_div⟩
  by_cases h6 : op.toList = [100, 105, 118, 117]
  · have e : dov op = m_divu := by unfold dov; simp only [if_neg h0, if_neg h1, if_neg h2, if_neg h3, if_neg h4, if_neg h5, ↓reduceIte, h6]; try rfl
    rw [e, bytes_of h6]; exact ⟨_, dop_divu⟩
  by_cases h7 : op.toList = [114, 101, 109]
  · have e : dov op = m_rem := by unfold dov; simp only [if_neg h0, if_neg h1, if_neg h2, if_neg h3, if_neg h4, if_neg h5, if_neg h6, ↓reduceIte, h7]; try rfl
    rw [e, bytes_of h7]; exact ⟨_, dop_rem⟩
  by_cases h8 : op.toList = [114, 101, 109, 117]
  · have e : dov op = m_remu := by unfold dov; simp only [if_neg h0, if_neg h1, if_neg h2, if_neg h3, if_neg h4, if_neg h5, if_neg h6, if_neg h7, ↓reduceIte, h8]; try rfl
    rw [e, bytes_of h8]; exact ⟨_, dop_remu⟩
  by_cases h9 : op.toList = [97, 110, 100]
  · have e : dov op = m_and := by unfold dov; simp only [if_neg h0, if_neg h1, if_neg h2, if_neg h3, if_neg h4, if_neg h5, if_neg h6, if_neg h7, if_neg h8, ↓reduceIte, h9]; try rfl
    rw [e, bytes_of h9]; exact ⟨_, dop_and⟩
  by_cases h10 : op.toList = [111, 114]
  · have e : dov op = m_or := by unfold dov; simp only [if_neg h0, if_neg h1, if_neg h2, if_neg h3, if_neg h4, if_neg h5, if_neg h6, if_neg h7, if_neg h8, if_neg h9, ↓reduceIte, h10]; try rfl
    rw [e, bytes_of h10]; exact ⟨_, dop_or⟩
  by_cases h11 : op.toList = [120, 111, 114]
  · have e : dov op = m_xor := by unfold dov; simp only [if_neg h0, if_neg h1, if_neg h2, if_neg h3, if_neg h4, if_neg h5, if_neg h6, if_neg h7, if_neg h8, if_neg h9, if_neg h10, ↓reduceIte, h11]; try rfl
    rw [e, bytes_of h11]; exact ⟨_, dop_xor⟩
  by_cases h12 : op.toList = [115, 108, 108]
  · have e : dov op = m_sll := by unfold dov; simp only [if_neg h0, if_neg h1, if_neg h2, if_neg h3, if_neg h4, if_neg h5, if_neg h6, if_neg h7, if_neg h8, if_neg h9, if_neg h10, if_neg h11, ↓reduceIte, h12]; try rfl
    rw [e, bytes_of h12]; exact ⟨_, dop_sll⟩
  by_cases h13 : op.toList = [115, 114, 108]
  · have e : dov op = m_srl := by unfold dov; simp only [if_neg h0, if_neg h1, if_neg h2, if_neg h3, if_neg h4, if_neg h5, if_neg h6, if_neg h7, if_neg h8, if_neg h9, if_neg h10, if_neg h11, if_neg h12, ↓reduceIte, h13]; try rfl
    rw [e, bytes_of h13]; exact ⟨_, dop_srl⟩
  by_cases h14 : op.toList = [115, 114, 97]
  · have e : dov op = m_sra := by unfold dov; simp only [if_neg h0, if_neg h1, if_neg h2, if_neg h3, if_neg h4, if_neg h5, if_neg h6, if_neg h7, if_neg h8, if_neg h9, if_neg h10, if_neg h11, if_neg h12, if_neg h13, ↓reduceIte, h14]; try rfl
    rw [e, bytes_of h14]; exact ⟨_, dop_sra⟩
  by_cases h15 : op.toList = [115, 108, 116]
  · have e : dov op = m_slt := by unfold dov; simp only [if_neg h0, if_neg h1, if_neg h2, if_neg h3, if_neg h4, if_neg h5, if_neg h6, if_neg h7, if_neg h8, if_neg h9, if_neg h10, if_neg h11, if_neg h12, if_neg h13, if_neg h14, ↓reduceIte, h15]; try rfl
    rw [e, bytes_of h15]; exact ⟨_, dop_slt⟩
  by_cases h16 : op.toList = [115, 108, 116, 117]
  · have e : dov op = m_sltu := by unfold dov; simp only [if_neg h0, if_neg h1, if_neg h2, if_neg h3, if_neg h4, if_neg h5, if_neg h6, if_neg h7, if_neg h8, if_neg h9, if_neg h10, if_neg h11, if_neg h12, if_neg h13, if_neg h14, if_neg h15, ↓reduceIte, h16]; try rfl
    rw [e, bytes_of h16]; exact ⟨_, dop_sltu⟩
  have hop : ∀ n ∈ opN, ¬ op.toList = n := by
    intro n hn
    simp only [opN, List.mem_cons, List.not_mem_nil, or_false] at hn
    rcases hn with rfl | rfl | rfl | rfl | rfl | rfl | rfl | rfl | rfl | rfl | rfl | rfl | rfl | rfl | rfl | rfl | rfl <;> assumption
  have e : dov op = fun _ _ => 0 := by unfold dov; simp only [if_neg h0, if_neg h1, if_neg h2, if_neg h3, if_neg h4, if_neg h5, if_neg h6, if_neg h7, if_neg h8, if_neg h9, if_neg h10, if_neg h11, if_neg h12, if_neg h13, if_neg h14, if_neg h15, if_neg h16]
  rw [e]
  exact ⟨false, ⟨fun a b _ _ _ _ w => pdo_none op hop a b w, fun _ _ _ _ _ _ => by omega⟩⟩

set_option maxRecDepth 20000 in
set_option maxHeartbeats 1000000 in
theorem pDo_c {op : ByteArray} {mv : Int → Int → Int} {f : Bool} (D : Dop op mv f) (a b : Int) (w : World) : Calls Tryd.prog 29 #[.string op, .int .i64 a, .int .i64 b] w fun e w' => e = .returned (.tuple #[.int .i64 (mv (wd a) (wd b)), .bool f]) ∧ Below w.heap.size w w' := by
  have a1 := wd_in a
  have b1 := wd_in b
  obtain ⟨a1, a2⟩ := a1
  obtain ⟨b1, b2⟩ := b1
  have hl := D.low (wd a) (wd b) a1 a2 b1 b2
  obtain ⟨l1, l2⟩ := hl
  have ha := wrap_wd a
  have hb := wrap_wd b
  generalize hA : wd a = A at *
  generalize hB : wd b = B at *
  clear hA hB
  generalize hV : mv A B = V at *
  have hc := D.prog A B a1 a2 b1 b2
  rw [hV] at hc
  have hC : Hid (∀ w : World, Calls Tryd.prog 48 #[.string op, .int .i32 A, .int .i32 B] w fun e w' => e = .returned (.tuple #[.int .i32 V, .bool f]) ∧ Below w.heap.size w w') := hc
  clear hV D hc
  go_enter Tryd.func29, Tryd.ntmps29
  go_wp2_with (first
    | (go_at_call 48; refine (hC.out _).mono ?_; rintro e w1 ⟨rfl, hw⟩))
  go_ret2
  exact ⟨rfl, by assumption⟩
end Go.Proofs.YtapgaclonilnbaaDoor
