/-
  Proved: what low's own Holds answers, name by name: as the reference's.
-/
import Derived.Test.YtaomojhjfkjkkaaHlow
import Derived.Laws.EntriesVeiled
import Derived.Deep.QuietTactic
namespace Go.Proofs.Ytaomojhjfkjkkaa
open Go.RowKit
set_option linter.unusedVariables false

theorem drawn {B m : Nat} {w w' : World} (h : Below B w w') : Below B w (w'.drewN m) := ⟨h.os, h.tape, h.output, h.size, h.block⟩
theorem chain {w w1 w2 : World} {o : Obj} (h1 : Below w.heap.size w w1) (h2 : Below (w1.alloc o).heap.size (w1.alloc o) w2) : Below w.heap.size w w2 := by
  have h3 : Below w.heap.size w (w1.alloc o) := h1.alloc h1.size o
  exact h3.trans (h2.mono h3.size)
theorem wrap_wd (n : Int) : wrap32 n = wd n := by unfold wrap32 wd; rfl
theorem not_lt (a b : Int) : (decide (a < b) == false) = decide (b ≤ a) := by
  by_cases h : a < b
  · have h2 : ¬ b ≤ a := by omega
    simp [h, h2]
  · have h2 : b ≤ a := by omega
    simp [h, h2]

theorem alike_c (a b : Int) (w : World) : Calls Try.prog 9 #[.int .i32 a, .int .i32 b] w fun e w' => e = .returned (.bool (a == b)) ∧ w' = w := by
  go_enter Try.func9, Try.ntmps9
  go_wp2
  go_ret
  exact ⟨rfl, rfl⟩

theorem below_c (a b : Int) (w : World) : Calls Try.prog 10 #[.int .i32 a, .int .i32 b] w fun e w' => e = .returned (.bool (decide (a < b))) ∧ w' = w := by
  go_enter Try.func10, Try.ntmps10
  go_wp2
  go_ret
  exact ⟨rfl, rfl⟩

theorem from0_c (a b : Int) (w : World) : Calls Try.prog 11 #[.int .i32 a, .int .i32 b] w fun e w' => e = .returned (.bool (decide (wh a < wh b))) ∧ w' = w := by
  go_enter Try.func11, Try.ntmps11
  go_wp2
  go_ret
  exact ⟨rfl, rfl⟩

theorem named_eq (w : World) : Calls Try.prog 6 #[.string ⟨#[101,113]⟩] w fun e w' => e = .returned (.tuple #[.agg #[.func (.func 9) #[] #[], .bool true], .bool true]) ∧ Below w.heap.size w w' := by
  go_enter Try.func6, Try.ntmps6
  go_wp2
  refine bodyPost_ret (v := .tuple #[.agg #[.func (.func 9) #[] #[], .bool true], .bool true]) ?_ rfl ?_
  · simp only [results, show Try.f6.results = #[.cell 2 27, .tmp 3] from rfl]
    go_simp
  · exact ⟨rfl, (Below.refl _ _).alloc (Nat.le_refl _) _⟩

theorem named_ne (w : World) : Calls Try.prog 6 #[.string ⟨#[110,101]⟩] w fun e w' => e = .returned (.tuple #[.agg #[.func (.func 9) #[] #[], .bool false], .bool true]) ∧ Below w.heap.size w w' := by
  go_enter Try.func6, Try.ntmps6
  go_wp2
  refine bodyPost_ret (v := .tuple #[.agg #[.func (.func 9) #[] #[], .bool false], .bool true]) ?_ rfl ?_
  · simp only [results, show Try.f6.results = #[.cell 2 27, .tmp 3] from rfl]
    go_simp
  · exact ⟨rfl, (Below.refl _ _).alloc (Nat.le_refl _) _⟩

theorem named_lt (w : World) : Calls Try.prog 6 #[.string ⟨#[108,116]⟩] w fun e w' => e = .returned (.tuple #[.agg #[.func (.func 10) #[] #[], .bool true], .bool true]) ∧ Below w.heap.size w w' := by
  go_enter Try.func6, Try.ntmps6
  go_wp2
  refine bodyPost_ret (v := .tuple #[.agg #[.func (.func 10) #[] #[], .bool true], .bool true]) ?_ rfl ?_
  · simp only [results, show Try.f6.results = #[.cell 2 27, .tmp 3] from rfl]
    go_simp
  · exact ⟨rfl, (Below.refl _ _).alloc (Nat.le_refl _) _⟩

theorem named_ge (w : World) : Calls Try.prog 6 #[.string ⟨#[103,101]⟩] w fun e w' => e = .returned (.tuple #[.agg #[.func (.func 10) #[] #[], .bool false], .bool true]) ∧ Below w.heap.size w w' := by
  go_enter Try.func6, Try.ntmps6
  go_wp2
  refine bodyPost_ret (v := .tuple #[.agg #[.func (.func 10) #[] #[], .bool false], .bool true]) ?_ rfl ?_
  · simp only [results, show Try.f6.results = #[.cell 2 27, .tmp 3] from rfl]
    go_simp
  · exact ⟨rfl, (Below.refl _ _).alloc (Nat.le_refl _) _⟩

theorem named_ltu (w : World) : Calls Try.prog 6 #[.string ⟨#[108,116,117]⟩] w fun e w' => e = .returned (.tuple #[.agg #[.func (.func 11) #[] #[], .bool true], .bool true]) ∧ Below w.heap.size w w' := by
  go_enter Try.func6, Try.ntmps6
  go_wp2
  refine bodyPost_ret (v := .tuple #[.agg #[.func (.func 11) #[] #[], .bool true], .bool true]) ?_ rfl ?_
  · simp only [results, show Try.f6.results = #[.cell 2 27, .tmp 3] from rfl]
    go_simp
  · exact ⟨rfl, (Below.refl _ _).alloc (Nat.le_refl _) _⟩

theorem named_geu (w : World) : Calls Try.prog 6 #[.string ⟨#[103,101,117]⟩] w fun e w' => e = .returned (.tuple #[.agg #[.func (.func 11) #[] #[], .bool false], .bool true]) ∧ Below w.heap.size w w' := by
  go_enter Try.func6, Try.ntmps6
  go_wp2
  refine bodyPost_ret (v := .tuple #[.agg #[.func (.func 11) #[] #[], .bool false], .bool true]) ?_ rfl ?_
  · simp only [results, show Try.f6.results = #[.cell 2 27, .tmp 3] from rfl]
    go_simp
  · exact ⟨rfl, (Below.refl _ _).alloc (Nat.le_refl _) _⟩

theorem asks_alike (q : Bool) (a b : Int) (w : World) : Calls Try.prog 7 #[.agg #[.func (.func 9) #[] #[], .bool q], .int .i32 a, .int .i32 b] w fun e w' => e = .returned (.bool ((a == b) == q)) ∧ Below w.heap.size w w' := by
  go_enter Try.func7, Try.ntmps7
  go_wp2
  go_quiet ((go_at_call 9; exact Calls.quiet_of_same (alike_c _ _ _)))
  go_wp2
  go_ret
  exact ⟨rfl, drawn ((Below.refl _ _).alloc (Nat.le_refl _) _)⟩

theorem asks_below (q : Bool) (a b : Int) (w : World) : Calls Try.prog 7 #[.agg #[.func (.func 10) #[] #[], .bool q], .int .i32 a, .int .i32 b] w fun e w' => e = .returned (.bool ((decide (a < b)) == q)) ∧ Below w.heap.size w w' := by
  go_enter Try.func7, Try.ntmps7
  go_wp2
  go_quiet ((go_at_call 10; exact Calls.quiet_of_same (below_c _ _ _)))
  go_wp2
  go_ret
  exact ⟨rfl, drawn ((Below.refl _ _).alloc (Nat.le_refl _) _)⟩

theorem asks_belowFrom0 (q : Bool) (a b : Int) (w : World) : Calls Try.prog 7 #[.agg #[.func (.func 11) #[] #[], .bool q], .int .i32 a, .int .i32 b] w fun e w' => e = .returned (.bool ((decide (wh a < wh b)) == q)) ∧ Below w.heap.size w w' := by
  go_enter Try.func7, Try.ntmps7
  go_wp2
  go_quiet ((go_at_call 11; exact Calls.quiet_of_same (from0_c _ _ _)))
  go_wp2
  go_ret
  exact ⟨rfl, drawn ((Below.refl _ _).alloc (Nat.le_refl _) _)⟩

theorem pholds_eq (a b : Int) (w : World) : Calls Try.prog 4 #[.string ⟨#[101,113]⟩, .int .i64 a, .int .i64 b] w fun e w' => e = .returned (.tuple #[.bool (h_eq (wd a) (wd b)), .bool true]) ∧ Below w.heap.size w w' := by
  have hv : ((wd a == wd b) == true) = h_eq (wd a) (wd b) := by by_cases h : wd a = wd b <;> simp [h_eq, h]
  have hA : Hid (∀ w : World, _) := fun w => asks_alike true (wrap32 a) (wrap32 b) w
  simp only [wrap_wd a, wrap_wd b] at hA
  rw [hv, ← wrap_wd a, ← wrap_wd b] at hA
  rw [← wrap_wd a, ← wrap_wd b]
  generalize h_eq (wrap32 a) (wrap32 b) = q at hA ⊢
  clear hv
  go_enter Try.func4, Try.ntmps4
  go_wp2_with (first
    | (go_at_call 6; refine (named_eq _).mono ?_; rintro e w1 ⟨rfl, hw1⟩)
    | (go_at_call 7; refine (hA.out _).mono ?_; rintro e w2 ⟨rfl, hw2⟩))
  go_ret2
  exact ⟨rfl, chain hw1 hw2⟩

theorem pholds_ne (a b : Int) (w : World) : Calls Try.prog 4 #[.string ⟨#[110,101]⟩, .int .i64 a, .int .i64 b] w fun e w' => e = .returned (.tuple #[.bool (h_ne (wd a) (wd b)), .bool true]) ∧ Below w.heap.size w w' := by
  have hv : ((wd a == wd b) == false) = h_ne (wd a) (wd b) := by by_cases h : wd a = wd b <;> simp [h_ne, h]
  have hA : Hid (∀ w : World, _) := fun w => asks_alike false (wrap32 a) (wrap32 b) w
  simp only [wrap_wd a, wrap_wd b] at hA
  rw [hv, ← wrap_wd a, ← wrap_wd b] at hA
  rw [← wrap_wd a, ← wrap_wd b]
  generalize h_ne (wrap32 a) (wrap32 b) = q at hA ⊢
  clear hv
  go_enter Try.func4, Try.ntmps4
  go_wp2_with (first
    | (go_at_call 6; refine (named_ne _).mono ?_; rintro e w1 ⟨rfl, hw1⟩)
    | (go_at_call 7; refine (hA.out _).mono ?_; rintro e w2 ⟨rfl, hw2⟩))
  go_ret2
  exact ⟨rfl, chain hw1 hw2⟩

theorem pholds_lt (a b : Int) (w : World) : Calls Try.prog 4 #[.string ⟨#[108,116]⟩, .int .i64 a, .int .i64 b] w fun e w' => e = .returned (.tuple #[.bool (h_lt (wd a) (wd b)), .bool true]) ∧ Below w.heap.size w w' := by
  have hv : ((decide (wd a < wd b)) == true) = h_lt (wd a) (wd b) := by simp [h_lt]
  have hA : Hid (∀ w : World, _) := fun w => asks_below true (wrap32 a) (wrap32 b) w
  simp only [wrap_wd a, wrap_wd b] at hA
  rw [hv, ← wrap_wd a, ← wrap_wd b] at hA
  rw [← wrap_wd a, ← wrap_wd b]
  generalize h_lt (wrap32 a) (wrap32 b) = q at hA ⊢
  clear hv
  go_enter Try.func4, Try.ntmps4
  go_wp2_with (first
    | (go_at_call 6; refine (named_lt _).mono ?_; rintro e w1 ⟨rfl, hw1⟩)
    | (go_at_call 7; refine (hA.out _).mono ?_; rintro e w2 ⟨rfl, hw2⟩))
  go_ret2
  exact ⟨rfl, chain hw1 hw2⟩

theorem pholds_ge (a b : Int) (w : World) : Calls Try.prog 4 #[.string ⟨#[103,101]⟩, .int .i64 a, .int .i64 b] w fun e w' => e = .returned (.tuple #[.bool (h_ge (wd a) (wd b)), .bool true]) ∧ Below w.heap.size w w' := by
  have hv : ((decide (wd a < wd b)) == false) = h_ge (wd a) (wd b) := by simp only [h_ge, not_lt]
  have hA : Hid (∀ w : World, _) := fun w => asks_below false (wrap32 a) (wrap32 b) w
  simp only [wrap_wd a, wrap_wd b] at hA
  rw [hv, ← wrap_wd a, ← wrap_wd b] at hA
  rw [← wrap_wd a, ← wrap_wd b]
  generalize h_ge (wrap32 a) (wrap32 b) = q at hA ⊢
  clear hv
  go_enter Try.func4, Try.ntmps4
  go_wp2_with (first
    | (go_at_call 6; refine (named_ge _).mono ?_; rintro e w1 ⟨rfl, hw1⟩)
    | (go_at_call 7; refine (hA.out _).mono ?_; rintro e w2 ⟨rfl, hw2⟩))
  go_ret2
  exact ⟨rfl, chain hw1 hw2⟩

theorem pholds_ltu (a b : Int) (w : World) : Calls Try.prog 4 #[.string ⟨#[108,116,117]⟩, .int .i64 a, .int .i64 b] w fun e w' => e = .returned (.tuple #[.bool (h_ltu (wd a) (wd b)), .bool true]) ∧ Below w.heap.size w w' := by
  have hv : ((decide (wh (wd a) < wh (wd b))) == true) = h_ltu (wd a) (wd b) := by simp [h_ltu]
  have hA : Hid (∀ w : World, _) := fun w => asks_belowFrom0 true (wrap32 a) (wrap32 b) w
  simp only [wrap_wd a, wrap_wd b] at hA
  rw [hv, ← wrap_wd a, ← wrap_wd b] at hA
  rw [← wrap_wd a, ← wrap_wd b]
  generalize h_ltu (wrap32 a) (wrap32 b) = q at hA ⊢
  clear hv
  go_enter Try.func4, Try.ntmps4
  go_wp2_with (first
    | (go_at_call 6; refine (named_ltu _).mono ?_; rintro e w1 ⟨rfl, hw1⟩)
    | (go_at_call 7; refine (hA.out _).mono ?_; rintro e w2 ⟨rfl, hw2⟩))
  go_ret2
  exact ⟨rfl, chain hw1 hw2⟩

theorem pholds_geu (a b : Int) (w : World) : Calls Try.prog 4 #[.string ⟨#[103,101,117]⟩, .int .i64 a, .int .i64 b] w fun e w' => e = .returned (.tuple #[.bool (h_geu (wd a) (wd b)), .bool true]) ∧ Below w.heap.size w w' := by
  have hv : ((decide (wh (wd a) < wh (wd b))) == false) = h_geu (wd a) (wd b) := by simp only [h_geu, not_lt]
  have hA : Hid (∀ w : World, _) := fun w => asks_belowFrom0 false (wrap32 a) (wrap32 b) w
  simp only [wrap_wd a, wrap_wd b] at hA
  rw [hv, ← wrap_wd a, ← wrap_wd b] at hA
  rw [← wrap_wd a, ← wrap_wd b]
  generalize h_geu (wrap32 a) (wrap32 b) = q at hA ⊢
  clear hv
  go_enter Try.func4, Try.ntmps4
  go_wp2_with (first
    | (go_at_call 6; refine (named_geu _).mono ?_; rintro e w1 ⟨rfl, hw1⟩)
    | (go_at_call 7; refine (hA.out _).mono ?_; rintro e w2 ⟨rfl, hw2⟩))
  go_ret2
  exact ⟨rfl, chain hw1 hw2⟩

theorem named_none (op : ByteArray) (hop : ∀ n ∈ cmN, ¬ op.toList = n) (w : World) : Calls Try.prog 6 #[.string op] w fun e w' => e = .returned (.tuple #[.agg #[.nilFunc, .bool false], .bool false]) ∧ Below w.heap.size w w' := by
  have n0 : ¬ op.toList = [101, 113] := hop _ (by simp [cmN])
  have m0 : (op.toList == [101, 113]) = false := by simpa using n0
  have n1 : ¬ op.toList = [110, 101] := hop _ (by simp [cmN])
  have m1 : (op.toList == [110, 101]) = false := by simpa using n1
  have n2 : ¬ op.toList = [108, 116] := hop _ (by simp [cmN])
  have m2 : (op.toList == [108, 116]) = false := by simpa using n2
  have n3 : ¬ op.toList = [103, 101] := hop _ (by simp [cmN])
  have m3 : (op.toList == [103, 101]) = false := by simpa using n3
  have n4 : ¬ op.toList = [108, 116, 117] := hop _ (by simp [cmN])
  have m4 : (op.toList == [108, 116, 117]) = false := by simpa using n4
  have n5 : ¬ op.toList = [103, 101, 117] := hop _ (by simp [cmN])
  have m5 : (op.toList == [103, 101, 117]) = false := by simpa using n5
  clear hop
  go_enter Try.func6, Try.ntmps6
  go_wp2
  refine bodyPost_ret (v := .tuple #[.agg #[.nilFunc, .bool false], .bool false]) ?_ rfl ?_
  · simp only [results, show Try.f6.results = #[.cell 2 27, .tmp 3] from rfl]
    go_simp
  · exact ⟨rfl, (Below.refl _ _).alloc (Nat.le_refl _) _⟩

theorem pholds_none (op : ByteArray) (hop : ∀ n ∈ cmN, ¬ op.toList = n) (a b : Int) (w : World) : Calls Try.prog 4 #[.string op, .int .i64 a, .int .i64 b] w fun e w' => e = .returned (.tuple #[.bool false, .bool false]) ∧ Below w.heap.size w w' := by
  have hN : Hid (∀ w : World, _) := fun w => named_none op hop w
  clear hop
  go_enter Try.func4, Try.ntmps4
  go_wp2_with (go_at_call 6; refine (hN.out _).mono ?_; rintro e w1 ⟨rfl, hw1⟩)
  go_ret2
  exact ⟨rfl, hw1.alloc hw1.size _⟩

end Go.Proofs.Ytaomojhjfkjkkaa
