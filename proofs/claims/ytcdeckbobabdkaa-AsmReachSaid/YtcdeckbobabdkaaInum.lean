/-
  Proved: what insn's bits of numbers and numbersIn answer.
-/
import Derived.Test.YtcdeckbobabdkaaIpart
import Derived.Test.YtcdeckbobabdkaaIins
namespace Go.Proofs.Ytcdeckbobabdkaa
open Go.RowKit
set_option linter.unusedVariables false
set_option linter.unusedSimpArgs false

theorem sizeN : (Try.prog.info? 47).map (·.size) = some 4 := by kernel_rfl

def nbI (op f3 f7 : Int) : Int := bits .or .u32 (bits .or .u32 op (f3 * 4096)) (f7 * 33554432)

theorem nbits_c (op f3 f7 : Int) (fm : Value) (a0 : 0 ≤ f3) (a1 : f3 < 8) (b0 : 0 ≤ f7) (b1 : f7 < 128) (w : World) :
    Calls Try.prog 42 #[.agg #[.int .u32 op, fm, .int .u8 f3, .int .u8 f7]] w fun e w' => e = .returned (.int .u32 (nbI op f3 f7)) ∧ Below w.heap.size w w' := by
  go_enter Try.func42, Try.ntmps42
  go_wp2
  go_ret
  exact ⟨rfl, below_alloc _ _⟩

theorem below_al2 (w : World) (A B : Obj) : Below w.heap.size w ((w.alloc A).alloc B) := (below_alloc w A).alloc (by have := (below_alloc w A).size; omega) B
theorem m8 (x : Int) : 0 ≤ x / 4096 % 8 ∧ x / 4096 % 8 < 8 := ⟨Int.emod_nonneg _ (by decide), Int.emod_lt_of_pos _ (by decide)⟩
theorem m128 (x : Int) : 0 ≤ x / 33554432 % 128 ∧ x / 33554432 % 128 < 128 := ⟨Int.emod_nonneg _ (by decide), Int.emod_lt_of_pos _ (by decide)⟩

/-- What stands in a word where a form's numbers are. -/
def nIn (x : Int) (n : Nat) : List Value :=
  match n with
  | 0 => [.int .u32 (x % 128), .int .u8 0, .int .u8 0, .int .u8 0]
  | 1 => [.int .u32 (x % 128), .int .u8 1, .int .u8 0, .int .u8 0]
  | 2 => [.int .u32 (x % 128), .int .u8 2, .int .u8 (x / 4096 % 8), .int .u8 0]
  | 3 => [.int .u32 (x % 128), .int .u8 3, .int .u8 (x / 4096 % 8), .int .u8 (x / 33554432 % 128)]
  | 4 => [.int .u32 (x % 128), .int .u8 4, .int .u8 (x / 4096 % 8), .int .u8 0]
  | 5 => [.int .u32 (x % 128), .int .u8 5, .int .u8 (x / 4096 % 8), .int .u8 0]
  | 6 => [.int .u32 (x % 128), .int .u8 6, .int .u8 (x / 4096 % 8), .int .u8 (x / 33554432 % 128)]
  | _ => [.int .u32 x, .int .u8 7, .int .u8 0, .int .u8 0]

set_option maxHeartbeats 1000000 in
theorem numbersIn_0 (x : Int) (w : World) :
    Calls Try.prog 13 #[.int .u32 x, .int .u8 0] w fun e w' => e = .returned (.agg (nIn x 0).toArray) ∧ Below w.heap.size w w' := by
  go_enter Try.func13, Try.ntmps13
  go_wp2_with (go_at_call 26; refine (part_c _ 0 7 (by decide) (by decide) _).mono ?_; rintro e w1 ⟨rfl, hw⟩; rw [hw]; clear hw w1)
  refine bodyPost_ret (results_cell_row rfl _ _ w.heap.size 47 _ (0, 0) _ rfl ((At.new w _ _).below (below_alloc _ _) (At.new w _ 47).lt) Try.underlying47 rfl sizeN) rfl ?_
  exact ⟨rfl, below_al2 _ _ _⟩

set_option maxHeartbeats 1000000 in
theorem numbersIn_1 (x : Int) (w : World) :
    Calls Try.prog 13 #[.int .u32 x, .int .u8 1] w fun e w' => e = .returned (.agg (nIn x 1).toArray) ∧ Below w.heap.size w w' := by
  go_enter Try.func13, Try.ntmps13
  go_wp2_with (go_at_call 26; refine (part_c _ 0 7 (by decide) (by decide) _).mono ?_; rintro e w1 ⟨rfl, hw⟩; rw [hw]; clear hw w1)
  refine bodyPost_ret (results_cell_row rfl _ _ w.heap.size 47 _ (0, 0) _ rfl ((At.new w _ _).below (below_alloc _ _) (At.new w _ 47).lt) Try.underlying47 rfl sizeN) rfl ?_
  exact ⟨rfl, below_al2 _ _ _⟩

set_option maxHeartbeats 1000000 in
theorem numbersIn_2 (x : Int) (w : World) :
    Calls Try.prog 13 #[.int .u32 x, .int .u8 2] w fun e w' => e = .returned (.agg (nIn x 2).toArray) ∧ Below w.heap.size w w' := by
  have e8 := m8 x
  go_enter Try.func13, Try.ntmps13
  go_wp2_with (first
    | (have M2 := M1; go_at_call 26; refine (part_c _ 12 3 (by decide) (by decide) _).mono ?_; rintro e w1 ⟨rfl, hw⟩; rw [hw]; clear hw w1)
    | (have M1 := trivial; go_at_call 26; refine (part_c _ 0 7 (by decide) (by decide) _).mono ?_; rintro e w1 ⟨rfl, hw⟩; rw [hw]; clear hw w1))
  refine bodyPost_ret (results_cell_row rfl _ _ w.heap.size 47 _ (0, 0) _ rfl ((At.new w _ _).below (below_alloc _ _) (At.new w _ 47).lt) Try.underlying47 rfl sizeN) rfl ?_
  exact ⟨rfl, below_al2 _ _ _⟩

set_option maxHeartbeats 1000000 in
theorem numbersIn_3 (x : Int) (w : World) :
    Calls Try.prog 13 #[.int .u32 x, .int .u8 3] w fun e w' => e = .returned (.agg (nIn x 3).toArray) ∧ Below w.heap.size w w' := by
  have e8 := m8 x
  have e128 := m128 x
  go_enter Try.func13, Try.ntmps13
  go_wp2_with (first
    | (have M3 := M2; go_at_call 26; refine (part_c _ 25 7 (by decide) (by decide) _).mono ?_; rintro e w1 ⟨rfl, hw⟩; rw [hw]; clear hw w1)
    | (have M2 := M1; go_at_call 26; refine (part_c _ 12 3 (by decide) (by decide) _).mono ?_; rintro e w1 ⟨rfl, hw⟩; rw [hw]; clear hw w1)
    | (have M1 := trivial; go_at_call 26; refine (part_c _ 0 7 (by decide) (by decide) _).mono ?_; rintro e w1 ⟨rfl, hw⟩; rw [hw]; clear hw w1))
  refine bodyPost_ret (results_cell_row rfl _ _ w.heap.size 47 _ (0, 0) _ rfl ((At.new w _ _).below (below_alloc _ _) (At.new w _ 47).lt) Try.underlying47 rfl sizeN) rfl ?_
  exact ⟨rfl, below_al2 _ _ _⟩

set_option maxHeartbeats 1000000 in
theorem numbersIn_4 (x : Int) (w : World) :
    Calls Try.prog 13 #[.int .u32 x, .int .u8 4] w fun e w' => e = .returned (.agg (nIn x 4).toArray) ∧ Below w.heap.size w w' := by
  have e8 := m8 x
  go_enter Try.func13, Try.ntmps13
  go_wp2_with (first
    | (have M2 := M1; go_at_call 26; refine (part_c _ 12 3 (by decide) (by decide) _).mono ?_; rintro e w1 ⟨rfl, hw⟩; rw [hw]; clear hw w1)
    | (have M1 := trivial; go_at_call 26; refine (part_c _ 0 7 (by decide) (by decide) _).mono ?_; rintro e w1 ⟨rfl, hw⟩; rw [hw]; clear hw w1))
  refine bodyPost_ret (results_cell_row rfl _ _ w.heap.size 47 _ (0, 0) _ rfl ((At.new w _ _).below (below_alloc _ _) (At.new w _ 47).lt) Try.underlying47 rfl sizeN) rfl ?_
  exact ⟨rfl, below_al2 _ _ _⟩

set_option maxHeartbeats 1000000 in
theorem numbersIn_5 (x : Int) (w : World) :
    Calls Try.prog 13 #[.int .u32 x, .int .u8 5] w fun e w' => e = .returned (.agg (nIn x 5).toArray) ∧ Below w.heap.size w w' := by
  have e8 := m8 x
  go_enter Try.func13, Try.ntmps13
  go_wp2_with (first
    | (have M2 := M1; go_at_call 26; refine (part_c _ 12 3 (by decide) (by decide) _).mono ?_; rintro e w1 ⟨rfl, hw⟩; rw [hw]; clear hw w1)
    | (have M1 := trivial; go_at_call 26; refine (part_c _ 0 7 (by decide) (by decide) _).mono ?_; rintro e w1 ⟨rfl, hw⟩; rw [hw]; clear hw w1))
  refine bodyPost_ret (results_cell_row rfl _ _ w.heap.size 47 _ (0, 0) _ rfl ((At.new w _ _).below (below_alloc _ _) (At.new w _ 47).lt) Try.underlying47 rfl sizeN) rfl ?_
  exact ⟨rfl, below_al2 _ _ _⟩

set_option maxHeartbeats 1000000 in
theorem numbersIn_6 (x : Int) (w : World) :
    Calls Try.prog 13 #[.int .u32 x, .int .u8 6] w fun e w' => e = .returned (.agg (nIn x 6).toArray) ∧ Below w.heap.size w w' := by
  have e8 := m8 x
  have e128 := m128 x
  go_enter Try.func13, Try.ntmps13
  go_wp2_with (first
    | (have M3 := M2; go_at_call 26; refine (part_c _ 25 7 (by decide) (by decide) _).mono ?_; rintro e w1 ⟨rfl, hw⟩; rw [hw]; clear hw w1)
    | (have M2 := M1; go_at_call 26; refine (part_c _ 12 3 (by decide) (by decide) _).mono ?_; rintro e w1 ⟨rfl, hw⟩; rw [hw]; clear hw w1)
    | (have M1 := trivial; go_at_call 26; refine (part_c _ 0 7 (by decide) (by decide) _).mono ?_; rintro e w1 ⟨rfl, hw⟩; rw [hw]; clear hw w1))
  refine bodyPost_ret (results_cell_row rfl _ _ w.heap.size 47 _ (0, 0) _ rfl ((At.new w _ _).below (below_alloc _ _) (At.new w _ 47).lt) Try.underlying47 rfl sizeN) rfl ?_
  exact ⟨rfl, below_al2 _ _ _⟩

set_option maxHeartbeats 1000000 in
theorem numbersIn_7 (x : Int) (w : World) :
    Calls Try.prog 13 #[.int .u32 x, .int .u8 7] w fun e w' => e = .returned (.agg (nIn x 7).toArray) ∧ Below w.heap.size w w' := by
  go_enter Try.func13, Try.ntmps13
  go_wp2_with (go_at_call 26; refine (part_c _ 0 7 (by decide) (by decide) _).mono ?_; rintro e w1 ⟨rfl, hw⟩; rw [hw]; clear hw w1)
  refine bodyPost_ret (results_cell_row rfl _ _ w.heap.size 47 _ (0, 0) _ rfl ((At.new w _ _).below (below_alloc _ _) (At.new w _ 47).lt) Try.underlying47 rfl sizeN) rfl ?_
  exact ⟨rfl, below_al2 _ _ _⟩

theorem numbersIn_c (x : Int) (n : Nat) (hn : n ≤ 7) (w : World) :
    Calls Try.prog 13 #[.int .u32 x, .int .u8 n] w fun e w' => e = .returned (.agg (nIn x n).toArray) ∧ Below w.heap.size w w' := by
  have h : n = 0 ∨ n = 1 ∨ n = 2 ∨ n = 3 ∨ n = 4 ∨ n = 5 ∨ n = 6 ∨ n = 7 := by omega
  rcases h with rfl | rfl | rfl | rfl | rfl | rfl | rfl | rfl
  · exact numbersIn_0 x w
  · exact numbersIn_1 x w
  · exact numbersIn_2 x w
  · exact numbersIn_3 x w
  · exact numbersIn_4 x w
  · exact numbersIn_5 x w
  · exact numbersIn_6 x w
  · exact numbersIn_7 x w
end Go.Proofs.Ytcdeckbobabdkaa
