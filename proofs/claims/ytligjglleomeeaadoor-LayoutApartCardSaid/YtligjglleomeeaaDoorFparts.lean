/-
  Proved: what fold's small functions answer: which parts an operation uses; whether a place begins with what its local holds.
-/
import Derived.Test.YtligjglleomeeaaDoorRplain2
import Derived.Laws.Rows
namespace Go.Proofs.YtligjglleomeeaaDoor
open Go.RowKit

/-- The table of the parts that operations use, in its order. -/
def ptL : List (List Bool) := [[false, false, false, false, false, false, false, false, false, false], [true, true, true, false, false, false, false, false, false, false], [true, true, true, true, false, false, false, true, false, false], [true, true, false, false, true, false, false, false, false, false], [false, false, true, false, true, false, false, false, false, false], [false, false, false, false, true, true, true, false, false, false], [true, true, false, false, true, false, false, false, false, false], [true, true, false, false, false, false, true, false, false, false], [false, false, true, false, false, false, false, false, false, false], [false, false, false, false, true, false, false, false, true, false], [true, false, false, false, false, false, false, false, false, false], [true, false, false, false, false, false, false, false, false, false], [true, false, false, false, false, false, false, false, true, false], [false, false, true, false, false, false, true, false, false, false], [true, true, false, false, false, false, false, false, false, false], [false, false, false, false, false, false, false, true, false, true]]
def ptR (i : Nat) : List Bool := ptL.getD i []

theorem sizeP : (Tryd.prog.info? 60).map (·.size) = some 10 := by kernel_rfl

/-- It lies in block 0. -/
def Tab (w : World) : Prop := ∀ i, i < 16 → RowAt w 0 (i * 10) ((ptR i).map Value.bool)

theorem Tab.lt {w : World} (h : Tab w) : 0 < w.heap.size := (h 0 (by omega)).1
theorem Tab.next {w w' : World} (h : Tab w) (k : Below w.heap.size w w') : Tab w' := fun i hi => (h i hi).below k
theorem Tab.kp {F : Nat → Prop} {w w' : World} (h : Tab w) (k : Kp F w w') (hF : ¬ F 0) : Tab w' := fun i hi => by
  have h1 := h i hi
  have hs : w'.heap[0]? = w.heap[0]? := k.2 _ h1.1 hF
  refine ⟨Nat.lt_of_lt_of_le h1.1 k.1.size, fun j v hj => ?_⟩
  have h2 := h1.2 j v hj
  unfold World.cell? at h2 ⊢
  rw [hs]
  exact h2

/-- Has an operation a place; two of them? -/
def uP (op : Int) : Bool := decide (op = 3) || decide (op = 4) || decide (op = 5) || decide (op = 6) || decide (op = 9)
def uQ (op : Int) : Bool := decide (op = 5)
def ptA (l : List Bool) : Value := .agg (l.map Value.bool).toArray

set_option maxHeartbeats 600000 in
theorem parts_0 (w : World) (T : Tab w) : Calls Tryd.prog 13 #[.int .i64 0] w fun e w' => e = .returned (.agg #[.bool false, .bool false, .bool false, .bool false, .bool false, .bool false, .bool false, .bool false, .bool false, .bool false]) ∧ Below w.heap.size w w' := by
  have hr := T 0 (by omega)
  have hb := hr.1
  have c0 : w.cell? ⟨0, 0, none⟩ = some (.bool false) := hr.2 0 _ rfl
  have c1 : w.cell? ⟨0, 1, none⟩ = some (.bool false) := hr.2 1 _ rfl
  have c2 : w.cell? ⟨0, 2, none⟩ = some (.bool false) := hr.2 2 _ rfl
  have c3 : w.cell? ⟨0, 3, none⟩ = some (.bool false) := hr.2 3 _ rfl
  have c4 : w.cell? ⟨0, 4, none⟩ = some (.bool false) := hr.2 4 _ rfl
  have c5 : w.cell? ⟨0, 5, none⟩ = some (.bool false) := hr.2 5 _ rfl
  have c6 : w.cell? ⟨0, 6, none⟩ = some (.bool false) := hr.2 6 _ rfl
  have c7 : w.cell? ⟨0, 7, none⟩ = some (.bool false) := hr.2 7 _ rfl
  have c8 : w.cell? ⟨0, 8, none⟩ = some (.bool false) := hr.2 8 _ rfl
  have c9 : w.cell? ⟨0, 9, none⟩ = some (.bool false) := hr.2 9 _ rfl
  clear hr T
  go_enter Tryd.func13, Tryd.ntmps13
  go_wp2
  refine bodyPost_ret (results_cell_row rfl _ _ _ 60 _ (0, 0) _ rfl (At.new w _ _) Tryd.underlying60 rfl sizeP) rfl ?_
  exact ⟨rfl, below_alloc _ _⟩

set_option maxHeartbeats 600000 in
theorem parts_1 (w : World) (T : Tab w) : Calls Tryd.prog 13 #[.int .i64 1] w fun e w' => e = .returned (.agg #[.bool true, .bool true, .bool true, .bool false, .bool false, .bool false, .bool false, .bool false, .bool false, .bool false]) ∧ Below w.heap.size w w' := by
  have hr := T 1 (by omega)
  have hb := hr.1
  have c0 : w.cell? ⟨0, 10, none⟩ = some (.bool true) := hr.2 0 _ rfl
  have c1 : w.cell? ⟨0, 11, none⟩ = some (.bool true) := hr.2 1 _ rfl
  have c2 : w.cell? ⟨0, 12, none⟩ = some (.bool true) := hr.2 2 _ rfl
  have c3 : w.cell? ⟨0, 13, none⟩ = some (.bool false) := hr.2 3 _ rfl
  have c4 : w.cell? ⟨0, 14, none⟩ = some (.bool false) := hr.2 4 _ rfl
  have c5 : w.cell? ⟨0, 15, none⟩ = some (.bool false) := hr.2 5 _ rfl
  have c6 : w.cell? ⟨0, 16, none⟩ = some (.bool false) := hr.2 6 _ rfl
  have c7 : w.cell? ⟨0, 17, none⟩ = some (.bool false) := hr.2 7 _ rfl
  have c8 : w.cell? ⟨0, 18, none⟩ = some (.bool false) := hr.2 8 _ rfl
  have c9 : w.cell? ⟨0, 19, none⟩ = some (.bool false) := hr.2 9 _ rfl
  clear hr T
  go_enter Tryd.func13, Tryd.ntmps13
  go_wp2
  refine bodyPost_ret (results_cell_row rfl _ _ _ 60 _ (0, 0) _ rfl (At.new w _ _) Tryd.underlying60 rfl sizeP) rfl ?_
  exact ⟨rfl, below_alloc _ _⟩

set_option maxHeartbeats 600000 in
theorem parts_2 (w : World) (T : Tab w) : Calls Tryd.prog 13 #[.int .i64 2] w fun e w' => e = .returned (.agg #[.bool true, .bool true, .bool true, .bool true, .bool false, .bool false, .bool false, .bool true, .bool false, .bool false]) ∧ Below w.heap.size w w' := by
  have hr := T 2 (by omega)
  have hb := hr.1
  have c0 : w.cell? ⟨0, 20, none⟩ = some (.bool true) := hr.2 0 _ rfl
  have c1 : w.cell? ⟨0, 21, none⟩ = some (.bool true) := hr.2 1 _ rfl
  have c2 : w.cell? ⟨0, 22, none⟩ = some (.bool true) := hr.2 2 _ rfl
  have c3 : w.cell? ⟨0, 23, none⟩ = some (.bool true) := hr.2 3 _ rfl
  have c4 : w.cell? ⟨0, 24, none⟩ = some (.bool false) := hr.2 4 _ rfl
  have c5 : w.cell? ⟨0, 25, none⟩ = some (.bool false) := hr.2 5 _ rfl
  have c6 : w.cell? ⟨0, 26, none⟩ = some (.bool false) := hr.2 6 _ rfl
  have c7 : w.cell? ⟨0, 27, none⟩ = some (.bool true) := hr.2 7 _ rfl
  have c8 : w.cell? ⟨0, 28, none⟩ = some (.bool false) := hr.2 8 _ rfl
  have c9 : w.cell? ⟨0, 29, none⟩ = some (.bool false) := hr.2 9 _ rfl
  clear hr T
  go_enter Tryd.func13, Tryd.ntmps13
  go_wp2
  refine bodyPost_ret (results_cell_row rfl _ _ _ 60 _ (0, 0) _ rfl (At.new w _ _) Tryd.underlying60 rfl sizeP) rfl ?_
  exact ⟨rfl, below_alloc _ _⟩

set_option maxHeartbeats 600000 in
theorem parts_3 (w : World) (T : Tab w) : Calls Tryd.prog 13 #[.int .i64 3] w fun e w' => e = .returned (.agg #[.bool true, .bool true, .bool false, .bool false, .bool true, .bool false, .bool false, .bool false, .bool false, .bool false]) ∧ Below w.heap.size w w' := by
  have hr := T 3 (by omega)
  have hb := hr.1
  have c0 : w.cell? ⟨0, 30, none⟩ = some (.bool true) := hr.2 0 _ rfl
  have c1 : w.cell? ⟨0, 31, none⟩ = some (.bool true) := hr.2 1 _ rfl
  have c2 : w.cell? ⟨0, 32, none⟩ = some (.bool false) := hr.2 2 _ rfl
  have c3 : w.cell? ⟨0, 33, none⟩ = some (.bool false) := hr.2 3 _ rfl
  have c4 : w.cell? ⟨0, 34, none⟩ = some (.bool true) := hr.2 4 _ rfl
  have c5 : w.cell? ⟨0, 35, none⟩ = some (.bool false) := hr.2 5 _ rfl
  have c6 : w.cell? ⟨0, 36, none⟩ = some (.bool false) := hr.2 6 _ rfl
  have c7 : w.cell? ⟨0, 37, none⟩ = some (.bool false) := hr.2 7 _ rfl
  have c8 : w.cell? ⟨0, 38, none⟩ = some (.bool false) := hr.2 8 _ rfl
  have c9 : w.cell? ⟨0, 39, none⟩ = some (.bool false) := hr.2 9 _ rfl
  clear hr T
  go_enter Tryd.func13, Tryd.ntmps13
  go_wp2
  refine bodyPost_ret (results_cell_row rfl _ _ _ 60 _ (0, 0) _ rfl (At.new w _ _) Tryd.underlying60 rfl sizeP) rfl ?_
  exact ⟨rfl, below_alloc _ _⟩

set_option maxHeartbeats 600000 in
theorem parts_4 (w : World) (T : Tab w) : Calls Tryd.prog 13 #[.int .i64 4] w fun e w' => e = .returned (.agg #[.bool false, .bool false, .bool true, .bool false, .bool true, .bool false, .bool false, .bool false, .bool false, .bool false]) ∧ Below w.heap.size w w' := by
  have hr := T 4 (by omega)
  have hb := hr.1
  have c0 : w.cell? ⟨0, 40, none⟩ = some (.bool false) := hr.2 0 _ rfl
  have c1 : w.cell? ⟨0, 41, none⟩ = some (.bool false) := hr.2 1 _ rfl
  have c2 : w.cell? ⟨0, 42, none⟩ = some (.bool true) := hr.2 2 _ rfl
  have c3 : w.cell? ⟨0, 43, none⟩ = some (.bool false) := hr.2 3 _ rfl
  have c4 : w.cell? ⟨0, 44, none⟩ = some (.bool true) := hr.2 4 _ rfl
  have c5 : w.cell? ⟨0, 45, none⟩ = some (.bool false) := hr.2 5 _ rfl
  have c6 : w.cell? ⟨0, 46, none⟩ = some (.bool false) := hr.2 6 _ rfl
  have c7 : w.cell? ⟨0, 47, none⟩ = some (.bool false) := hr.2 7 _ rfl
  have c8 : w.cell? ⟨0, 48, none⟩ = some (.bool false) := hr.2 8 _ rfl
  have c9 : w.cell? ⟨0, 49, none⟩ = some (.bool false) := hr.2 9 _ rfl
  clear hr T
  go_enter Tryd.func13, Tryd.ntmps13
  go_wp2
  refine bodyPost_ret (results_cell_row rfl _ _ _ 60 _ (0, 0) _ rfl (At.new w _ _) Tryd.underlying60 rfl sizeP) rfl ?_
  exact ⟨rfl, below_alloc _ _⟩

set_option maxHeartbeats 600000 in
theorem parts_5 (w : World) (T : Tab w) : Calls Tryd.prog 13 #[.int .i64 5] w fun e w' => e = .returned (.agg #[.bool false, .bool false, .bool false, .bool false, .bool true, .bool true, .bool true, .bool false, .bool false, .bool false]) ∧ Below w.heap.size w w' := by
  have hr := T 5 (by omega)
  have hb := hr.1
  have c0 : w.cell? ⟨0, 50, none⟩ = some (.bool false) := hr.2 0 _ rfl
  have c1 : w.cell? ⟨0, 51, none⟩ = some (.bool false) := hr.2 1 _ rfl
  have c2 : w.cell? ⟨0, 52, none⟩ = some (.bool false) := hr.2 2 _ rfl
  have c3 : w.cell? ⟨0, 53, none⟩ = some (.bool false) := hr.2 3 _ rfl
  have c4 : w.cell? ⟨0, 54, none⟩ = some (.bool true) := hr.2 4 _ rfl
  have c5 : w.cell? ⟨0, 55, none⟩ = some (.bool true) := hr.2 5 _ rfl
  have c6 : w.cell? ⟨0, 56, none⟩ = some (.bool true) := hr.2 6 _ rfl
  have c7 : w.cell? ⟨0, 57, none⟩ = some (.bool false) := hr.2 7 _ rfl
  have c8 : w.cell? ⟨0, 58, none⟩ = some (.bool false) := hr.2 8 _ rfl
  have c9 : w.cell? ⟨0, 59, none⟩ = some (.bool false) := hr.2 9 _ rfl
  clear hr T
  go_enter Tryd.func13, Tryd.ntmps13
  go_wp2
  refine bodyPost_ret (results_cell_row rfl _ _ _ 60 _ (0, 0) _ rfl (At.new w _ _) Tryd.underlying60 rfl sizeP) rfl ?_
  exact ⟨rfl, below_alloc _ _⟩

set_option maxHeartbeats 600000 in
theorem parts_6 (w : World) (T : Tab w) : Calls Tryd.prog 13 #[.int .i64 6] w fun e w' => e = .returned (.agg #[.bool true, .bool true, .bool false, .bool false, .bool true, .bool false, .bool false, .bool false, .bool false, .bool false]) ∧ Below w.heap.size w w' := by
  have hr := T 6 (by omega)
  have hb := hr.1
  have c0 : w.cell? ⟨0, 60, none⟩ = some (.bool true) := hr.2 0 _ rfl
  have c1 : w.cell? ⟨0, 61, none⟩ = some (.bool true) := hr.2 1 _ rfl
  have c2 : w.cell? ⟨0, 62, none⟩ = some (.bool false) := hr.2 2 _ rfl
  have c3 : w.cell? ⟨0, 63, none⟩ = some (.bool false) := hr.2 3 _ rfl
  have c4 : w.cell? ⟨0, 64, none⟩ = some (.bool true) := hr.2 4 _ rfl
  have c5 : w.cell? ⟨0, 65, none⟩ = some (.bool false) := hr.2 5 _ rfl
  have c6 : w.cell? ⟨0, 66, none⟩ = some (.bool false) := hr.2 6 _ rfl
  have c7 : w.cell? ⟨0, 67, none⟩ = some (.bool false) := hr.2 7 _ rfl
  have c8 : w.cell? ⟨0, 68, none⟩ = some (.bool false) := hr.2 8 _ rfl
  have c9 : w.cell? ⟨0, 69, none⟩ = some (.bool false) := hr.2 9 _ rfl
  clear hr T
  go_enter Tryd.func13, Tryd.ntmps13
  go_wp2
  refine bodyPost_ret (results_cell_row rfl _ _ _ 60 _ (0, 0) _ rfl (At.new w _ _) Tryd.underlying60 rfl sizeP) rfl ?_
  exact ⟨rfl, below_alloc _ _⟩

set_option maxHeartbeats 600000 in
theorem parts_7 (w : World) (T : Tab w) : Calls Tryd.prog 13 #[.int .i64 7] w fun e w' => e = .returned (.agg #[.bool true, .bool true, .bool false, .bool false, .bool false, .bool false, .bool true, .bool false, .bool false, .bool false]) ∧ Below w.heap.size w w' := by
  have hr := T 7 (by omega)
  have hb := hr.1
  have c0 : w.cell? ⟨0, 70, none⟩ = some (.bool true) := hr.2 0 _ rfl
  have c1 : w.cell? ⟨0, 71, none⟩ = some (.bool true) := hr.2 1 _ rfl
  have c2 : w.cell? ⟨0, 72, none⟩ = some (.bool false) := hr.2 2 _ rfl
  have c3 : w.cell? ⟨0, 73, none⟩ = some (.bool false) := hr.2 3 _ rfl
  have c4 : w.cell? ⟨0, 74, none⟩ = some (.bool false) := hr.2 4 _ rfl
  have c5 : w.cell? ⟨0, 75, none⟩ = some (.bool false) := hr.2 5 _ rfl
  have c6 : w.cell? ⟨0, 76, none⟩ = some (.bool true) := hr.2 6 _ rfl
  have c7 : w.cell? ⟨0, 77, none⟩ = some (.bool false) := hr.2 7 _ rfl
  have c8 : w.cell? ⟨0, 78, none⟩ = some (.bool false) := hr.2 8 _ rfl
  have c9 : w.cell? ⟨0, 79, none⟩ = some (.bool false) := hr.2 9 _ rfl
  clear hr T
  go_enter Tryd.func13, Tryd.ntmps13
  go_wp2
  refine bodyPost_ret (results_cell_row rfl _ _ _ 60 _ (0, 0) _ rfl (At.new w _ _) Tryd.underlying60 rfl sizeP) rfl ?_
  exact ⟨rfl, below_alloc _ _⟩

set_option maxHeartbeats 600000 in
theorem parts_8 (w : World) (T : Tab w) : Calls Tryd.prog 13 #[.int .i64 8] w fun e w' => e = .returned (.agg #[.bool false, .bool false, .bool true, .bool false, .bool false, .bool false, .bool false, .bool false, .bool false, .bool false]) ∧ Below w.heap.size w w' := by
  have hr := T 8 (by omega)
  have hb := hr.1
  have c0 : w.cell? ⟨0, 80, none⟩ = some (.bool false) := hr.2 0 _ rfl
  have c1 : w.cell? ⟨0, 81, none⟩ = some (.bool false) := hr.2 1 _ rfl
  have c2 : w.cell? ⟨0, 82, none⟩ = some (.bool true) := hr.2 2 _ rfl
  have c3 : w.cell? ⟨0, 83, none⟩ = some (.bool false) := hr.2 3 _ rfl
  have c4 : w.cell? ⟨0, 84, none⟩ = some (.bool false) := hr.2 4 _ rfl
  have c5 : w.cell? ⟨0, 85, none⟩ = some (.bool false) := hr.2 5 _ rfl
  have c6 : w.cell? ⟨0, 86, none⟩ = some (.bool false) := hr.2 6 _ rfl
  have c7 : w.cell? ⟨0, 87, none⟩ = some (.bool false) := hr.2 7 _ rfl
  have c8 : w.cell? ⟨0, 88, none⟩ = some (.bool false) := hr.2 8 _ rfl
  have c9 : w.cell? ⟨0, 89, none⟩ = some (.bool false) := hr.2 9 _ rfl
  clear hr T
  go_enter Tryd.func13, Tryd.ntmps13
  go_wp2
  refine bodyPost_ret (results_cell_row rfl _ _ _ 60 _ (0, 0) _ rfl (At.new w _ _) Tryd.underlying60 rfl sizeP) rfl ?_
  exact ⟨rfl, below_alloc _ _⟩

set_option maxHeartbeats 600000 in
theorem parts_9 (w : World) (T : Tab w) : Calls Tryd.prog 13 #[.int .i64 9] w fun e w' => e = .returned (.agg #[.bool false, .bool false, .bool false, .bool false, .bool true, .bool false, .bool false, .bool false, .bool true, .bool false]) ∧ Below w.heap.size w w' := by
  have hr := T 9 (by omega)
  have hb := hr.1
  have c0 : w.cell? ⟨0, 90, none⟩ = some (.bool false) := hr.2 0 _ rfl
  have c1 : w.cell? ⟨0, 91, none⟩ = some (.bool false) := hr.2 1 _ rfl
  have c2 : w.cell? ⟨0, 92, none⟩ = some (.bool false) := hr.2 2 _ rfl
  have c3 : w.cell? ⟨0, 93, none⟩ = some (.bool false) := hr.2 3 _ rfl
  have c4 : w.cell? ⟨0, 94, none⟩ = some (.bool true) := hr.2 4 _ rfl
  have c5 : w.cell? ⟨0, 95, none⟩ = some (.bool false) := hr.2 5 _ rfl
  have c6 : w.cell? ⟨0, 96, none⟩ = some (.bool false) := hr.2 6 _ rfl
  have c7 : w.cell? ⟨0, 97, none⟩ = some (.bool false) := hr.2 7 _ rfl
  have c8 : w.cell? ⟨0, 98, none⟩ = some (.bool true) := hr.2 8 _ rfl
  have c9 : w.cell? ⟨0, 99, none⟩ = some (.bool false) := hr.2 9 _ rfl
  clear hr T
  go_enter Tryd.func13, Tryd.ntmps13
  go_wp2
  refine bodyPost_ret (results_cell_row rfl _ _ _ 60 _ (0, 0) _ rfl (At.new w _ _) Tryd.underlying60 rfl sizeP) rfl ?_
  exact ⟨rfl, below_alloc _ _⟩

set_option maxHeartbeats 600000 in
theorem parts_10 (w : World) (T : Tab w) : Calls Tryd.prog 13 #[.int .i64 10] w fun e w' => e = .returned (.agg #[.bool true, .bool false, .bool false, .bool false, .bool false, .bool false, .bool false, .bool false, .bool false, .bool false]) ∧ Below w.heap.size w w' := by
  have hr := T 10 (by omega)
  have hb := hr.1
  have c0 : w.cell? ⟨0, 100, none⟩ = some (.bool true) := hr.2 0 _ rfl
  have c1 : w.cell? ⟨0, 101, none⟩ = some (.bool false) := hr.2 1 _ rfl
  have c2 : w.cell? ⟨0, 102, none⟩ = some (.bool false) := hr.2 2 _ rfl
  have c3 : w.cell? ⟨0, 103, none⟩ = some (.bool false) := hr.2 3 _ rfl
  have c4 : w.cell? ⟨0, 104, none⟩ = some (.bool false) := hr.2 4 _ rfl
  have c5 : w.cell? ⟨0, 105, none⟩ = some (.bool false) := hr.2 5 _ rfl
  have c6 : w.cell? ⟨0, 106, none⟩ = some (.bool false) := hr.2 6 _ rfl
  have c7 : w.cell? ⟨0, 107, none⟩ = some (.bool false) := hr.2 7 _ rfl
  have c8 : w.cell? ⟨0, 108, none⟩ = some (.bool false) := hr.2 8 _ rfl
  have c9 : w.cell? ⟨0, 109, none⟩ = some (.bool false) := hr.2 9 _ rfl
  clear hr T
  go_enter Tryd.func13, Tryd.ntmps13
  go_wp2
  refine bodyPost_ret (results_cell_row rfl _ _ _ 60 _ (0, 0) _ rfl (At.new w _ _) Tryd.underlying60 rfl sizeP) rfl ?_
  exact ⟨rfl, below_alloc _ _⟩

set_option maxHeartbeats 600000 in
theorem parts_11 (w : World) (T : Tab w) : Calls Tryd.prog 13 #[.int .i64 11] w fun e w' => e = .returned (.agg #[.bool true, .bool false, .bool false, .bool false, .bool false, .bool false, .bool false, .bool false, .bool false, .bool false]) ∧ Below w.heap.size w w' := by
  have hr := T 11 (by omega)
  have hb := hr.1
  have c0 : w.cell? ⟨0, 110, none⟩ = some (.bool true) := hr.2 0 _ rfl
  have c1 : w.cell? ⟨0, 111, none⟩ = some (.bool false) := hr.2 1 _ rfl
  have c2 : w.cell? ⟨0, 112, none⟩ = some (.bool false) := hr.2 2 _ rfl
  have c3 : w.cell? ⟨0, 113, none⟩ = some (.bool false) := hr.2 3 _ rfl
  have c4 : w.cell? ⟨0, 114, none⟩ = some (.bool false) := hr.2 4 _ rfl
  have c5 : w.cell? ⟨0, 115, none⟩ = some (.bool false) := hr.2 5 _ rfl
  have c6 : w.cell? ⟨0, 116, none⟩ = some (.bool false) := hr.2 6 _ rfl
  have c7 : w.cell? ⟨0, 117, none⟩ = some (.bool false) := hr.2 7 _ rfl
  have c8 : w.cell? ⟨0, 118, none⟩ = some (.bool false) := hr.2 8 _ rfl
  have c9 : w.cell? ⟨0, 119, none⟩ = some (.bool false) := hr.2 9 _ rfl
  clear hr T
  go_enter Tryd.func13, Tryd.ntmps13
  go_wp2
  refine bodyPost_ret (results_cell_row rfl _ _ _ 60 _ (0, 0) _ rfl (At.new w _ _) Tryd.underlying60 rfl sizeP) rfl ?_
  exact ⟨rfl, below_alloc _ _⟩

set_option maxHeartbeats 600000 in
theorem parts_12 (w : World) (T : Tab w) : Calls Tryd.prog 13 #[.int .i64 12] w fun e w' => e = .returned (.agg #[.bool true, .bool false, .bool false, .bool false, .bool false, .bool false, .bool false, .bool false, .bool true, .bool false]) ∧ Below w.heap.size w w' := by
  have hr := T 12 (by omega)
  have hb := hr.1
  have c0 : w.cell? ⟨0, 120, none⟩ = some (.bool true) := hr.2 0 _ rfl
  have c1 : w.cell? ⟨0, 121, none⟩ = some (.bool false) := hr.2 1 _ rfl
  have c2 : w.cell? ⟨0, 122, none⟩ = some (.bool false) := hr.2 2 _ rfl
  have c3 : w.cell? ⟨0, 123, none⟩ = some (.bool false) := hr.2 3 _ rfl
  have c4 : w.cell? ⟨0, 124, none⟩ = some (.bool false) := hr.2 4 _ rfl
  have c5 : w.cell? ⟨0, 125, none⟩ = some (.bool false) := hr.2 5 _ rfl
  have c6 : w.cell? ⟨0, 126, none⟩ = some (.bool false) := hr.2 6 _ rfl
  have c7 : w.cell? ⟨0, 127, none⟩ = some (.bool false) := hr.2 7 _ rfl
  have c8 : w.cell? ⟨0, 128, none⟩ = some (.bool true) := hr.2 8 _ rfl
  have c9 : w.cell? ⟨0, 129, none⟩ = some (.bool false) := hr.2 9 _ rfl
  clear hr T
  go_enter Tryd.func13, Tryd.ntmps13
  go_wp2
  refine bodyPost_ret (results_cell_row rfl _ _ _ 60 _ (0, 0) _ rfl (At.new w _ _) Tryd.underlying60 rfl sizeP) rfl ?_
  exact ⟨rfl, below_alloc _ _⟩

set_option maxHeartbeats 600000 in
theorem parts_13 (w : World) (T : Tab w) : Calls Tryd.prog 13 #[.int .i64 13] w fun e w' => e = .returned (.agg #[.bool false, .bool false, .bool true, .bool false, .bool false, .bool false, .bool true, .bool false, .bool false, .bool false]) ∧ Below w.heap.size w w' := by
  have hr := T 13 (by omega)
  have hb := hr.1
  have c0 : w.cell? ⟨0, 130, none⟩ = some (.bool false) := hr.2 0 _ rfl
  have c1 : w.cell? ⟨0, 131, none⟩ = some (.bool false) := hr.2 1 _ rfl
  have c2 : w.cell? ⟨0, 132, none⟩ = some (.bool true) := hr.2 2 _ rfl
  have c3 : w.cell? ⟨0, 133, none⟩ = some (.bool false) := hr.2 3 _ rfl
  have c4 : w.cell? ⟨0, 134, none⟩ = some (.bool false) := hr.2 4 _ rfl
  have c5 : w.cell? ⟨0, 135, none⟩ = some (.bool false) := hr.2 5 _ rfl
  have c6 : w.cell? ⟨0, 136, none⟩ = some (.bool true) := hr.2 6 _ rfl
  have c7 : w.cell? ⟨0, 137, none⟩ = some (.bool false) := hr.2 7 _ rfl
  have c8 : w.cell? ⟨0, 138, none⟩ = some (.bool false) := hr.2 8 _ rfl
  have c9 : w.cell? ⟨0, 139, none⟩ = some (.bool false) := hr.2 9 _ rfl
  clear hr T
  go_enter Tryd.func13, Tryd.ntmps13
  go_wp2
  refine bodyPost_ret (results_cell_row rfl _ _ _ 60 _ (0, 0) _ rfl (At.new w _ _) Tryd.underlying60 rfl sizeP) rfl ?_
  exact ⟨rfl, below_alloc _ _⟩

set_option maxHeartbeats 600000 in
theorem parts_14 (w : World) (T : Tab w) : Calls Tryd.prog 13 #[.int .i64 14] w fun e w' => e = .returned (.agg #[.bool true, .bool true, .bool false, .bool false, .bool false, .bool false, .bool false, .bool false, .bool false, .bool false]) ∧ Below w.heap.size w w' := by
  have hr := T 14 (by omega)
  have hb := hr.1
  have c0 : w.cell? ⟨0, 140, none⟩ = some (.bool true) := hr.2 0 _ rfl
  have c1 : w.cell? ⟨0, 141, none⟩ = some (.bool true) := hr.2 1 _ rfl
  have c2 : w.cell? ⟨0, 142, none⟩ = some (.bool false) := hr.2 2 _ rfl
  have c3 : w.cell? ⟨0, 143, none⟩ = some (.bool false) := hr.2 3 _ rfl
  have c4 : w.cell? ⟨0, 144, none⟩ = some (.bool false) := hr.2 4 _ rfl
  have c5 : w.cell? ⟨0, 145, none⟩ = some (.bool false) := hr.2 5 _ rfl
  have c6 : w.cell? ⟨0, 146, none⟩ = some (.bool false) := hr.2 6 _ rfl
  have c7 : w.cell? ⟨0, 147, none⟩ = some (.bool false) := hr.2 7 _ rfl
  have c8 : w.cell? ⟨0, 148, none⟩ = some (.bool false) := hr.2 8 _ rfl
  have c9 : w.cell? ⟨0, 149, none⟩ = some (.bool false) := hr.2 9 _ rfl
  clear hr T
  go_enter Tryd.func13, Tryd.ntmps13
  go_wp2
  refine bodyPost_ret (results_cell_row rfl _ _ _ 60 _ (0, 0) _ rfl (At.new w _ _) Tryd.underlying60 rfl sizeP) rfl ?_
  exact ⟨rfl, below_alloc _ _⟩

set_option maxHeartbeats 600000 in
theorem parts_15 (w : World) (T : Tab w) : Calls Tryd.prog 13 #[.int .i64 15] w fun e w' => e = .returned (.agg #[.bool false, .bool false, .bool false, .bool false, .bool false, .bool false, .bool false, .bool true, .bool false, .bool true]) ∧ Below w.heap.size w w' := by
  have hr := T 15 (by omega)
  have hb := hr.1
  have c0 : w.cell? ⟨0, 150, none⟩ = some (.bool false) := hr.2 0 _ rfl
  have c1 : w.cell? ⟨0, 151, none⟩ = some (.bool false) := hr.2 1 _ rfl
  have c2 : w.cell? ⟨0, 152, none⟩ = some (.bool false) := hr.2 2 _ rfl
  have c3 : w.cell? ⟨0, 153, none⟩ = some (.bool false) := hr.2 3 _ rfl
  have c4 : w.cell? ⟨0, 154, none⟩ = some (.bool false) := hr.2 4 _ rfl
  have c5 : w.cell? ⟨0, 155, none⟩ = some (.bool false) := hr.2 5 _ rfl
  have c6 : w.cell? ⟨0, 156, none⟩ = some (.bool false) := hr.2 6 _ rfl
  have c7 : w.cell? ⟨0, 157, none⟩ = some (.bool true) := hr.2 7 _ rfl
  have c8 : w.cell? ⟨0, 158, none⟩ = some (.bool false) := hr.2 8 _ rfl
  have c9 : w.cell? ⟨0, 159, none⟩ = some (.bool true) := hr.2 9 _ rfl
  clear hr T
  go_enter Tryd.func13, Tryd.ntmps13
  go_wp2
  refine bodyPost_ret (results_cell_row rfl _ _ _ 60 _ (0, 0) _ rfl (At.new w _ _) Tryd.underlying60 rfl sizeP) rfl ?_
  exact ⟨rfl, below_alloc _ _⟩

set_option maxHeartbeats 600000 in
theorem parts_out (op : Int) (w : World) (h : op < 0 ∨ 16 ≤ op) : Calls Tryd.prog 13 #[.int .i64 op] w fun e w' => e = .returned (.agg #[.bool false, .bool false, .bool false, .bool false, .bool false, .bool false, .bool false, .bool false, .bool false, .bool false]) ∧ Below w.heap.size w w' := by
  rcases h with h | h
  · go_enter Tryd.func13, Tryd.ntmps13
    go_wp2
    refine bodyPost_ret (results_cell_row rfl _ _ _ 60 _ (0, 0) _ rfl (At.new w _ _) Tryd.underlying60 rfl sizeP) rfl ?_
    exact ⟨rfl, below_alloc _ _⟩
  · have h' : ¬ op < 0 := by omega
    go_enter Tryd.func13, Tryd.ntmps13
    go_wp2
    refine bodyPost_ret (results_cell_row rfl _ _ _ 60 _ (0, 0) _ rfl (At.new w _ _) Tryd.underlying60 rfl sizeP) rfl ?_
    exact ⟨rfl, below_alloc _ _⟩

/-- The parts that an operation uses: of them the places. -/
theorem parts_c (op : Int) (w : World) (T : Tab w) : Calls Tryd.prog 13 #[.int .i64 op] w fun e w' =>
    ∃ b0 b1 b2 b3 b6 b7 b8 b9, e = .returned (.agg #[.bool b0, .bool b1, .bool b2, .bool b3, .bool (uP op), .bool (uQ op), .bool b6, .bool b7, .bool b8, .bool b9]) ∧ Below w.heap.size w w' := by
  by_cases h : op < 0 ∨ 16 ≤ op
  · have e1 : uP op = false := by simp [uP]; omega
    have e2 : uQ op = false := by simp [uQ]; omega
    rw [e1, e2]
    exact (parts_out op w h).mono fun e w' h => ⟨_, _, _, _, _, _, _, _, h⟩
  · have hc : op = 0 ∨ op = 1 ∨ op = 2 ∨ op = 3 ∨ op = 4 ∨ op = 5 ∨ op = 6 ∨ op = 7 ∨ op = 8 ∨ op = 9 ∨ op = 10 ∨ op = 11 ∨ op = 12 ∨ op = 13 ∨ op = 14 ∨ op = 15 := by omega
    rcases hc with rfl | rfl | rfl | rfl | rfl | rfl | rfl | rfl | rfl | rfl | rfl | rfl | rfl | rfl | rfl | rfl
    · exact (parts_0 w T).mono fun e w' h => ⟨_, _, _, _, _, _, _, _, h⟩
    · exact (parts_1 w T).mono fun e w' h => ⟨_, _, _, _, _, _, _, _, h⟩
    · exact (parts_2 w T).mono fun e w' h => ⟨_, _, _, _, _, _, _, _, h⟩
    · exact (parts_3 w T).mono fun e w' h => ⟨_, _, _, _, _, _, _, _, h⟩
    · exact (parts_4 w T).mono fun e w' h => ⟨_, _, _, _, _, _, _, _, h⟩
    · exact (parts_5 w T).mono fun e w' h => ⟨_, _, _, _, _, _, _, _, h⟩
    · exact (parts_6 w T).mono fun e w' h => ⟨_, _, _, _, _, _, _, _, h⟩
    · exact (parts_7 w T).mono fun e w' h => ⟨_, _, _, _, _, _, _, _, h⟩
    · exact (parts_8 w T).mono fun e w' h => ⟨_, _, _, _, _, _, _, _, h⟩
    · exact (parts_9 w T).mono fun e w' h => ⟨_, _, _, _, _, _, _, _, h⟩
    · exact (parts_10 w T).mono fun e w' h => ⟨_, _, _, _, _, _, _, _, h⟩
    · exact (parts_11 w T).mono fun e w' h => ⟨_, _, _, _, _, _, _, _, h⟩
    · exact (parts_12 w T).mono fun e w' h => ⟨_, _, _, _, _, _, _, _, h⟩
    · exact (parts_13 w T).mono fun e w' h => ⟨_, _, _, _, _, _, _, _, h⟩
    · exact (parts_14 w T).mono fun e w' h => ⟨_, _, _, _, _, _, _, _, h⟩
    · exact (parts_15 w T).mono fun e w' h => ⟨_, _, _, _, _, _, _, _, h⟩

/-- Does a place begin with what its local holds? -/
def bgh (p : Pl) : Bool := match p.st with | [] => false | s :: _ => decide (s.k = 3)

set_option maxHeartbeats 600000 in
theorem begins_c (p : Pl) (b o : Nat) (pv : Value) (w : World) (hr : RowAt w b o [.int .i64 p.l, pv]) (h : StsIn w p.st pv) :
    Calls Tryd.prog 12 #[.pointer (some ⟨b, o, none⟩)] w fun e w' => e = .returned (.bool (bgh p)) ∧ w' = w := by
  obtain ⟨l, st⟩ := p
  obtain ⟨hl, A, C, rfl, hx⟩ := h
  simp only [bgh] at *
  have hb := hr.1
  have c0 := hr.2 0 _ rfl
  have c1 := hr.2 1 _ rfl
  simp only [Nat.add_zero] at c0
  clear hr
  cases st with
  | nil =>
    clear hx
    simp only [List.length_nil] at *
    go_enter Tryd.func12, Tryd.ntmps12
    go_wp2
    go_ret
    exact ⟨by simp, rfl⟩
  | cons s st =>
    obtain ⟨b2, o2, cs, rfl, hrow, rfl⟩ := hx 0 (by simp)
    have hb2 := hrow.1
    have d0 := hrow.2 0 _ rfl
    simp only [Nat.zero_mul, Nat.add_zero, List.getElem_cons_zero] at d0
    have hl0 : (0 : Int) < (st.length : Int) + 1 := by omega
    clear hrow hx
    obtain ⟨sk, sn, ss⟩ := s
    simp only at d0
    simp only [List.length_cons] at *
    have E : (sk == 3) = decide (sk = 3) := by rw [Bool.eq_iff_iff]; simp
    go_enter Tryd.func12, Tryd.ntmps12
    go_wp2
    go_ret
    exact ⟨by simp, rfl⟩
end Go.Proofs.YtligjglleomeeaaDoor
