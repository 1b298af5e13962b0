/-
  Proved: the law LowHolds answers true for every text and every two numbers.
-/
import Derived.Test.YtaomojhjfkjkkaaPlow
namespace Go.Proofs.Ytaomojhjfkjkkaa
open Go.RowKit
set_option linter.unusedVariables false

/-- Both Holds answer alike, whatever the text. -/
theorem both (op : ByteArray) (a b : Int) : ∃ x y : Bool, (∀ w : World, Calls Try.prog 4 #[.string op, .int .i64 a, .int .i64 b] w fun e w' => e = .returned (.tuple #[.bool x, .bool y]) ∧ Below w.heap.size w w') ∧
    (∀ w : World, Calls Try.prog 5 #[.string op, .int .i64 a, .int .i64 b] w fun e w' => e = .returned (.tuple #[.bool x, .bool y]) ∧ w' = w) := by
  by_cases h : ∀ n ∈ cmN, ¬ op.toList = n
  · exact ⟨false, false, fun w => pholds_none op h a b w, fun w => holds_none op h a b w⟩
  · have h' : ∃ n ∈ cmN, op.toList = n := by
      refine Classical.byContradiction fun c => h fun n hn e => c ⟨n, hn, e⟩
    obtain ⟨n, hn, e⟩ := h'
    have hop : op = ⟨n.toArray⟩ := by
      rw [← e]
      cases op
      simp [ByteArray.toList_eq]
    simp only [cmN, List.mem_cons, List.not_mem_nil, or_false] at hn
    rcases hn with r | r | r | r | r | r <;> subst r <;> subst hop
    · exact ⟨_, _, fun w => pholds_eq a b w, fun w => holds_eq a b w⟩
    · exact ⟨_, _, fun w => pholds_ne a b w, fun w => holds_ne a b w⟩
    · exact ⟨_, _, fun w => pholds_lt a b w, fun w => holds_lt a b w⟩
    · exact ⟨_, _, fun w => pholds_ge a b w, fun w => holds_ge a b w⟩
    · exact ⟨_, _, fun w => pholds_ltu a b w, fun w => holds_ltu a b w⟩
    · exact ⟨_, _, fun w => pholds_geu a b w, fun w => holds_geu a b w⟩

theorem lowHolds_walk (op : ByteArray) (a b : Int) (w : World) : Calls Try.prog 3 #[.string op, .int .i64 a, .int .i64 b] w fun e w' => e = .returned (.bool true) ∧ Below w.heap.size w w' := by
  obtain ⟨x, y, hP0, hR0⟩ := both op a b
  have hP : Hid (∀ w : World, _) := hP0
  have hR : Hid (∀ w : World, _) := hR0
  clear hP0 hR0
  have h2 : h_ltu (wd 1) (wd (-1)) = true := by decide
  have hM : Hid (∀ w : World, _) := fun w => pholds_ltu 1 (-1) w
  rw [h2] at hM
  clear h2
  go_enter Try.func3, Try.ntmps3
  go_wp2_with (first
    | (go_at_call 5; refine (hR.out _).mono ?_; rintro e w2 ⟨rfl, hw2⟩; rw [hw2]; have M2 := hw2)
    | (go_at_call 4; have M3 := M2; refine (hM.out _).mono ?_; rintro e w3 ⟨rfl, hw3⟩)
    | (go_at_call 4; refine (hP.out _).mono ?_; rintro e w1 ⟨rfl, hw1⟩))
  go_ret
  exact ⟨rfl, hw1.trans (hw3.mono hw1.size)⟩
end Go.Proofs.Ytaomojhjfkjkkaa
