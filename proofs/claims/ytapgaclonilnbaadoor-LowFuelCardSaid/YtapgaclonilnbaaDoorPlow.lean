/-
  Proved: what low's own Holds answers, name by name: as the reference's.
-/
import Derived.Test.YtapgaclonilnbaaDoorPall
import Derived.Test.YtapgaclonilnbaaDoorLchk
import Derived.Laws.EntriesVeiled
import Derived.Deep.QuietTactic
namespace Go.Proofs.YtapgaclonilnbaaDoor
open Go.RowKit
set_option linter.unusedVariables false
set_option linter.unusedSimpArgs false
set_option linter.unusedVariables false

theorem drawn {B m : Nat} {w w' : World} (h : Below B w w') : Below B w (w'.drewN m) := ⟨h.os, h.tape, h.output, h.size, h.block⟩
theorem chain {w w1 w2 : World} {o : Obj} (h1 : Below w.heap.size w w1) (h2 : Below (w1.alloc o).heap.size (w1.alloc o) w2) : Below w.heap.size w w2 := by
  have h3 : Below w.heap.size w (w1.alloc o) := h1.alloc h1.size o
  exact h3.trans (h2.mono h3.size)
theorem not_lt (a b : Int) : (decide (a < b) == false) = decide (b ≤ a) := by
  by_cases h : a < b
  · have h2 : ¬ b ≤ a := by omega
    simp [h, h2]
  · have h2 : b ≤ a := by omega
    simp [h, h2]

theorem alike_c (a b : Int) (w : World) : Calls Tryd.prog 49 #[.int .i32 a, .int .i32 b] w fun e w' => e = .returned (.bool (a == b)) ∧ w' = w := by
  go_enter Tryd.func49, Tryd.ntmps49
  go_wp2
  go_ret
  exact ⟨rfl, rfl⟩

theorem below_c (a b : Int) (w : World) : Calls Tryd.prog 50 #[.int .i32 a, .int .i32 b] w fun e w' => e = .returned (.bool (decide (a < b))) ∧ w' = w := by
  go_enter Tryd.func50, Tryd.ntmps50
  go_wp2
  go_ret
  exact ⟨rfl, rfl⟩

theorem from0_c (a b : Int) (w : World) : Calls Tryd.prog 51 #[.int .i32 a, .int .i32 b] w fun e w' => e = .returned (.bool (decide (wh a < wh b))) ∧ w' = w := by
  go_enter Tryd.func51, Tryd.ntmps51
  go_wp2
  go_ret
  exact ⟨rfl, rfl⟩

theorem named_eq (w : World) : Calls Tryd.prog 35 #[.string ⟨#[101,113]⟩] w fun e w' => e = .returned (.tuple #[.agg #[.func (.func 49) #[] #[], .bool true], .bool true]) ∧ Below w.heap.size w w' := by
  go_enter Tryd.func35, Tryd.ntmps35
  go_wp2
  refine bodyPost_ret (v := .tuple #[.agg #[.func (.func 49) #[] #[], .bool true], .bool true]) ?_ rfl ?_
  · simp only [results, show Tryd.f35.results = #[.cell 2 95, .tmp 3] from rfl]
    go_simp
  · exact ⟨rfl, (Below.refl _ _).alloc (Nat.le_refl _) _⟩

theorem named_ne (w : World) : Calls Tryd.prog 35 #[.string ⟨#[110,101]⟩] w fun e w' => e = .returned (.tuple #[.agg #[.func (.func 49) #[] #[], .bool false], .bool true]) ∧ Below w.heap.size w w' := by
  go_enter Tryd.func35, Tryd.ntmps35
  go_wp2
  refine bodyPost_ret (v := .tuple #[.agg #[.func (.func 49) #[] #[], .bool false], .bool true]) ?_ rfl ?_
  · simp only [results, show Tryd.f35.results = #[.cell 2 95, .tmp 3] from rfl]
    go_simp
  · exact ⟨rfl, (Below.refl _ _).alloc (Nat.le_refl _) _⟩

theorem named_lt (w : World) : Calls Tryd.prog 35 #[.string ⟨#[108,116]⟩] w fun e w' => e = .returned (.tuple #[.agg #[.func (.func 50) #[] #[], .bool true], .bool true]) ∧ Below w.heap.size w w' := by
  go_enter Tryd.func35, Tryd.ntmps35
  go_wp2
  refine bodyPost_ret (v := .tuple #[.agg #[.func (.func 50) #[] #[], .bool true], .bool true]) ?_ rfl ?_
  · simp only [results, show Tryd.f35.results = #[.cell 2 95, .tmp 3] from rfl]
    go_simp
  · exact ⟨rfl, (Below.refl _ _).alloc (Nat.le_refl _) _⟩

theorem named_ge (w : World) : Calls Tryd.prog 35 #[.string ⟨#[103,101]⟩] w fun e w' => e = .returned (.tuple #[.agg #[.func (.func 50) #[] #[], .bool false], .bool true]) ∧ Below w.heap.size w w' := by
  go_enter Tryd.func35, Tryd.ntmps35
  go_wp2
  refine bodyPost_ret (v := .tuple #[.agg #[.func (.func 50) #[] #[], .bool false], .bool true]) ?_ rfl ?_
  · simp only [results, show Tryd.f35.results = #[.cell 2 95, .tmp 3] from rfl]
    go_simp
  · exact ⟨rfl, (Below.refl _ _).alloc (Nat.le_refl _) _⟩

theorem named_ltu (w : World) : Calls Tryd.prog 35 #[.string ⟨#[108,116,117]⟩] w fun e w' => e = .returned (.tuple #[.agg #[.func (.func 51) #[] #[], .bool true], .bool true]) ∧ Below w.heap.size w w' := by
  go_enter Tryd.func35, Tryd.ntmps35
  go_wp2
  refine bodyPost_ret (v := .tuple #[.agg #[.func (.func 51) #[] #[], .bool true], .bool true]) ?_ rfl ?_
  · simp only [results, show Tryd.f35.results = #[.cell 2 95, .tmp 3] from rfl]
    go_simp
  · exact ⟨rfl, (Below.refl _ _).alloc (Nat.le_refl _) _⟩

theorem named_geu (w : World) : Calls Tryd.prog 35 #[.string ⟨#[103,101,117]⟩] w fun e w' => e = .returned (.tuple #[.agg #[.func (.func 51) #[] #[], .bool false], .bool true]) ∧ Below w.heap.size w w' := by
  go_enter Tryd.func35, Tryd.ntmps35
  go_wp2
  refine bodyPost_ret (v := .tuple #[.agg #[.func (.func 51) #[] #[], .bool false], .bool true]) ?_ rfl ?_
  · simp only [results, show Tryd.f35.results = #[.cell 2 95, .tmp 3] from rfl]
    go_simp
  · exact ⟨rfl, (Below.refl _ _).alloc (Nat.le_refl _) _⟩

theorem asks_alike (q : Bool) (a b : Int) (w : World) : Calls Tryd.prog 37 #[.agg #[.func (.func 49) #[] #[], .bool q], .int .i32 a, .int .i32 b] w fun e w' => e = .returned (.bool ((a == b) == q)) ∧ Below w.heap.size w w' := by
  go_enter Tryd.func37, Tryd.ntmps37
  go_wp2
  go_quiet ((go_at_call 49; exact Calls.quiet_of_same (alike_c _ _ _)))
  go_wp2
  go_ret
  exact ⟨rfl, drawn ((Below.refl _ _).alloc (Nat.le_refl _) _)⟩

theorem asks_below (q : Bool) (a b : Int) (w : World) : Calls Tryd.prog 37 #[.agg #[.func (.func 50) #[] #[], .bool q], .int .i32 a, .int .i32 b] w fun e w' => e = .returned (.bool ((decide (a < b)) == q)) ∧ Below w.heap.size w w' := by
  go_enter Tryd.func37, Tryd.ntmps37
  go_wp2
  go_quiet ((go_at_call 50; exact Calls.quiet_of_same (below_c _ _ _)))
  go_wp2
  go_ret
  exact ⟨rfl, drawn ((Below.refl _ _).alloc (Nat.le_refl _) _)⟩

theorem asks_belowFrom0 (q : Bool) (a b : Int) (w : World) : Calls Tryd.prog 37 #[.agg #[.func (.func 51) #[] #[], .bool q], .int .i32 a, .int .i32 b] w fun e w' => e = .returned (.bool ((decide (wh a < wh b)) == q)) ∧ Below w.heap.size w w' := by
  go_enter Tryd.func37, Tryd.ntmps37
  go_wp2
  go_quiet ((go_at_call 51; exact Calls.quiet_of_same (from0_c _ _ _)))
  go_wp2
  go_ret
  exact ⟨rfl, drawn ((Below.refl _ _).alloc (Nat.le_refl _) _)⟩

theorem named_none (op : ByteArray) (hop : ∀ n ∈ cmN, ¬ op.toList = n) (w : World) : Calls Tryd.prog 35 #[.string op] w fun e w' => e = .returned (.tuple #[.agg #[.nilFunc, .bool false], .bool false]) ∧ Below w.heap.size w w' := by
  have n0 : ¬ op.toList = [101, 113] := hop _ (by simp [cmN])
  have m0 : (op.toList == [101, 113]) = false := by simpa using n0
  have n1 : ¬ op.toList = [110, 101] := hop _ (by simp [cmN])
  have m1 : (op.toList == [110, 101]) = false := by simpa using n1
  have n2 : ¬ op.toList = [108, 116] := hop _ (by simp [cmN])
  have m2 : (op.toList == [108, 116]) = false := by simpa using n2
  have n3 : ¬ op.toList = [103, 101] := hop _ (by simp [cmN])
  have m3 : (op.toList == [103, 101]) = false := by simpa using n3
  have n4 : ¬ op.toList = [108, 116, 117] := hop _ (by simp [cmN])
  have m4 : (op.toList == [108, 116, 117]) = false := by simpa using n4
  have n5 : ¬ op.toList = [103, 101, 117] := hop _ (by simp [cmN])
  have m5 : (op.toList == [103, 101, 117]) = false := by simpa using n5
  clear hop
  go_enter Tryd.func35, Tryd.ntmps35
  go_wp2
  refine bodyPost_ret (v := .tuple #[.agg #[.nilFunc, .bool false], .bool false]) ?_ rfl ?_
  · simp only [results, show Tryd.f35.results = #[.cell 2 95, .tmp 3] from rfl]
    go_simp
  · exact ⟨rfl, (Below.refl _ _).alloc (Nat.le_refl _) _⟩

/-- Whether a comparison of two words holds. -/
def cmpv (s : ByteArray) (a b : Int) : Bool :=
  if s.toList = [101, 113] then (a == b) == true
  else if s.toList = [110, 101] then (a == b) == false
  else if s.toList = [108, 116] then (decide (a < b)) == true
  else if s.toList = [103, 101] then (decide (a < b)) == false
  else if s.toList = [108, 116, 117] then (decide (wh a < wh b)) == true
  else if s.toList = [103, 101, 117] then (decide (wh a < wh b)) == false
  else false

/-- The comparison of a name. -/
def CmpV (s : ByteArray) (v : Value) : Prop :=
  (∀ w : World, Calls Tryd.prog 35 #[.string s] w fun e w' => e = .returned (.tuple #[v, .bool true]) ∧ Below w.heap.size w w') ∧
  ∀ (a b : Int) (w : World), Calls Tryd.prog 37 #[v, .int .i32 a, .int .i32 b] w fun e w' => e = .returned (.bool (cmpv s a b)) ∧ Below w.heap.size w w'

theorem cmp_all (s : ByteArray) (hs : cmpB s = true) : ∃ f q, CmpV s (.agg #[.func (.func f) #[] #[], .bool q]) := by
  by_cases h0 : s.toList = [101, 113]
  · have e : ∀ a b, cmpv s a b = ((a == b) == true) := fun a b => by unfold cmpv; simp only [↓reduceIte, h0]; try rfl
    refine ⟨49, true, ?_⟩
    unfold CmpV
    simp only [e]
    rw [bytes_of h0]
    exact ⟨fun w => named_eq w, fun a b w => asks_alike true a b w⟩
  by_cases h1 : s.toList = [110, 101]
  · have e : ∀ a b, cmpv s a b = ((a == b) == false) := fun a b => by unfold cmpv; simp only [if_neg h0, ↓reduceIte, h1]; try rfl
    refine ⟨49, false, ?_⟩
    unfold CmpV
    simp only [e]
    rw [bytes_of h1]
    exact ⟨fun w => named_ne w, fun a b w => asks_alike false a b w⟩
  by_cases h2 : s.toList = [108, 116]
  · have e : ∀ a b, cmpv s a b = ((decide (a < b)) == true) := fun a b => by unfold cmpv; simp only [if_neg h0, if_neg h1, ↓reduceIte, h2]; try rfl
    refine ⟨50, true, ?_⟩
    unfold CmpV
    simp only [e]
    rw [bytes_of h2]
    exact ⟨fun w => named_lt w, fun a b w => asks_below true a b w⟩
  by_cases h3 : s.toList = [103, 101]
  · have e : ∀ a b, cmpv s a b = ((decide (a < b)) == false) := fun a b => by unfold cmpv; simp only [if_neg h0, if_neg h1, if_neg h2, ↓reduceIte, h3]; try rfl
    refine ⟨50, false, ?_⟩
    unfold CmpV
    simp only [e]
    rw [bytes_of h3]
    exact ⟨fun w => named_ge w, fun a b w => asks_below false a b w⟩
  by_cases h4 : s.toList = [108, 116, 117]
  · have e : ∀ a b, cmpv s a b = ((decide (wh a < wh b)) == true) := fun a b => by unfold cmpv; simp only [if_neg h0, if_neg h1, if_neg h2, if_neg h3, ↓reduceIte, h4]; try rfl
    refine ⟨51, true, ?_⟩
    unfold CmpV
    simp only [e]
    rw [bytes_of h4]
    exact ⟨fun w => named_ltu w, fun a b w => asks_belowFrom0 true a b w⟩
  by_cases h5 : s.toList = [103, 101, 117]
  · have e : ∀ a b, cmpv s a b = ((decide (wh a < wh b)) == false) := fun a b => by unfold cmpv; simp only [if_neg h0, if_neg h1, if_neg h2, if_neg h3, if_neg h4, ↓reduceIte, h5]; try rfl
    refine ⟨51, false, ?_⟩
    unfold CmpV
    simp only [e]
    rw [bytes_of h5]
    exact ⟨fun w => named_geu w, fun a b w => asks_belowFrom0 false a b w⟩
  unfold cmpB at hs
  simp only [decide_eq_true_eq, cmN, List.mem_cons, List.not_mem_nil, or_false] at hs
  rcases hs with hs | hs | hs | hs | hs | hs
  · exact absurd hs h0
  · exact absurd hs h1
  · exact absurd hs h2
  · exact absurd hs h3
  · exact absurd hs h4
  · exact absurd hs h5

end Go.Proofs.YtapgaclonilnbaaDoor
