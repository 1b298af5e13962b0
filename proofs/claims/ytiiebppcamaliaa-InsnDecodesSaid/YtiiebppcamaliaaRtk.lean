/-
  Proved: what the reference's takes answers: is an instruction one of a row.
-/
import Derived.Test.YtiiebppcamaliaaRsm
namespace Go.Proofs.Ytiiebppcamaliaa
open Go.RowKit
set_option linter.unusedVariables false
set_option linter.unusedSimpArgs false

theorem r_al2 (w : World) (A B : Obj) : Below w.heap.size w ((w.alloc A).alloc B) := (below_alloc w A).alloc (by have := (below_alloc w A).size; omega) B
theorem rin_v (n lo hi : Int) {b : Bool} (h : inB n lo hi = b) : ∀ w, Calls Try.prog 31 #[.int .i64 n, .int .i64 lo, .int .i64 hi] w fun e w' => e = .returned (.bool b) ∧ w' = w := fun w => by
  have := rin_c n lo hi w
  rw [h] at this
  exact this

theorem tkr_0 (nm fm o1 o2 o3 s : Value) (rd r1 r2 im : Int) (h1 : inB rd 0 31 = false) (w : World) : Calls Try.prog 20 #[.agg #[nm, fm, o1, o2, o3], .agg #[s, .int .i64 rd, .int .i64 r1, .int .i64 r2, .int .i64 im]] w fun e w' => e = .returned (.bool false) ∧ Below w.heap.size w w' := by
  go_enter Try.func20, Try.ntmps20
  go_wp2_with (go_at_call 31; refine (rin_c _ _ _ _).mono ?_; rintro e w1 ⟨rfl, hw⟩; rw [hw]; clear hw w1; first | rw [h1])
  go_ret
  exact ⟨rfl, r_al2 _ _ _⟩

theorem tkr_1 (nm fm o1 o2 o3 s : Value) (rd r1 r2 im : Int) (h1 : inB rd 0 31 = true) (h2 : inB r1 0 31 = false) (w : World) : Calls Try.prog 20 #[.agg #[nm, fm, o1, o2, o3], .agg #[s, .int .i64 rd, .int .i64 r1, .int .i64 r2, .int .i64 im]] w fun e w' => e = .returned (.bool false) ∧ Below w.heap.size w w' := by
  go_enter Try.func20, Try.ntmps20
  go_wp2_with (go_at_call 31; refine (rin_c _ _ _ _).mono ?_; rintro e w1 ⟨rfl, hw⟩; rw [hw]; clear hw w1; first | rw [h1] | rw [h2])
  go_ret
  exact ⟨rfl, r_al2 _ _ _⟩

theorem tkr_2 (nm fm o1 o2 o3 s : Value) (rd r1 r2 im : Int) (h1 : inB rd 0 31 = true) (h2 : inB r1 0 31 = true) (h3 : inB r2 0 31 = false) (w : World) : Calls Try.prog 20 #[.agg #[nm, fm, o1, o2, o3], .agg #[s, .int .i64 rd, .int .i64 r1, .int .i64 r2, .int .i64 im]] w fun e w' => e = .returned (.bool false) ∧ Below w.heap.size w w' := by
  go_enter Try.func20, Try.ntmps20
  go_wp2_with (go_at_call 31; refine (rin_c _ _ _ _).mono ?_; rintro e w1 ⟨rfl, hw⟩; rw [hw]; clear hw w1; first | rw [h1] | rw [h2] | rw [h3])
  go_ret
  exact ⟨rfl, r_al2 _ _ _⟩

theorem tk_0_0 (nm o1 o2 o3 s : Value) (rd r1 r2 im : Int) (h1 : inB rd 0 31 = true) (h2 : inB r1 0 31 = true) (h3 : inB r2 0 31 = true)  (q0 : (r1 == 0) = false) (w : World) : Calls Try.prog 20 #[.agg #[nm, .string ⟨#[85]⟩, o1, o2, o3], .agg #[s, .int .i64 rd, .int .i64 r1, .int .i64 r2, .int .i64 im]] w fun e w' => e = .returned (.bool false) ∧ Below w.heap.size w w' := by
  go_enter Try.func20, Try.ntmps20
  go_wp2_with (go_at_call 31; refine (rin_c _ _ _ _).mono ?_; rintro e w1 ⟨rfl, hw⟩; rw [hw]; clear hw w1; first | rw [h1] | rw [h2] | rw [h3])
  go_ret
  exact ⟨rfl, r_al2 _ _ _⟩

theorem tk_0_1 (nm o1 o2 o3 s : Value) (rd r1 r2 im : Int) (h1 : inB rd 0 31 = true) (h2 : inB r1 0 31 = true) (h3 : inB r2 0 31 = true) (q0 : (r1 == 0) = true) (q1 : (r2 == 0) = false) (w : World) : Calls Try.prog 20 #[.agg #[nm, .string ⟨#[85]⟩, o1, o2, o3], .agg #[s, .int .i64 rd, .int .i64 r1, .int .i64 r2, .int .i64 im]] w fun e w' => e = .returned (.bool false) ∧ Below w.heap.size w w' := by
  go_enter Try.func20, Try.ntmps20
  go_wp2_with (go_at_call 31; refine (rin_c _ _ _ _).mono ?_; rintro e w1 ⟨rfl, hw⟩; rw [hw]; clear hw w1; first | rw [h1] | rw [h2] | rw [h3])
  go_ret
  exact ⟨rfl, r_al2 _ _ _⟩

theorem tk_0_2 (nm o1 o2 o3 s : Value) (rd r1 r2 im : Int) (h1 : inB rd 0 31 = true) (h2 : inB r1 0 31 = true) (h3 : inB r2 0 31 = true) (q0 : (r1 == 0) = true) (q1 : (r2 == 0) = true) (q2 : inB im 0 1048575 = false) (w : World) : Calls Try.prog 20 #[.agg #[nm, .string ⟨#[85]⟩, o1, o2, o3], .agg #[s, .int .i64 rd, .int .i64 r1, .int .i64 r2, .int .i64 im]] w fun e w' => e = .returned (.bool false) ∧ Below w.heap.size w w' := by
  go_enter Try.func20, Try.ntmps20
  go_wp2_with (go_at_call 31; refine (rin_c _ _ _ _).mono ?_; rintro e w1 ⟨rfl, hw⟩; rw [hw]; clear hw w1; first | rw [h1] | rw [h2] | rw [h3] | rw [q2])
  go_ret
  exact ⟨rfl, r_al2 _ _ _⟩

theorem tk_0_3 (nm o1 o2 o3 s : Value) (rd r1 r2 im : Int) (h1 : inB rd 0 31 = true) (h2 : inB r1 0 31 = true) (h3 : inB r2 0 31 = true) (q0 : (r1 == 0) = true) (q1 : (r2 == 0) = true) (q2 : inB im 0 1048575 = true) (w : World) : Calls Try.prog 20 #[.agg #[nm, .string ⟨#[85]⟩, o1, o2, o3], .agg #[s, .int .i64 rd, .int .i64 r1, .int .i64 r2, .int .i64 im]] w fun e w' => e = .returned (.bool true) ∧ Below w.heap.size w w' := by
  go_enter Try.func20, Try.ntmps20
  go_wp2_with (go_at_call 31; refine (rin_c _ _ _ _).mono ?_; rintro e w1 ⟨rfl, hw⟩; rw [hw]; clear hw w1; first | rw [h1] | rw [h2] | rw [h3] | rw [q2])
  go_ret
  exact ⟨rfl, r_al2 _ _ _⟩

theorem tk_1_0 (nm o1 o2 o3 s : Value) (rd r1 r2 im : Int) (h1 : inB rd 0 31 = true) (h2 : inB r1 0 31 = true) (h3 : inB r2 0 31 = true)  (q0 : (r1 == 0) = false) (w : World) : Calls Try.prog 20 #[.agg #[nm, .string ⟨#[74]⟩, o1, o2, o3], .agg #[s, .int .i64 rd, .int .i64 r1, .int .i64 r2, .int .i64 im]] w fun e w' => e = .returned (.bool false) ∧ Below w.heap.size w w' := by
  go_enter Try.func20, Try.ntmps20
  go_wp2_with (go_at_call 31; refine (rin_c _ _ _ _).mono ?_; rintro e w1 ⟨rfl, hw⟩; rw [hw]; clear hw w1; first | rw [h1] | rw [h2] | rw [h3])
  go_ret
  exact ⟨rfl, r_al2 _ _ _⟩

theorem tk_1_1 (nm o1 o2 o3 s : Value) (rd r1 r2 im : Int) (h1 : inB rd 0 31 = true) (h2 : inB r1 0 31 = true) (h3 : inB r2 0 31 = true) (q0 : (r1 == 0) = true) (q1 : (r2 == 0) = false) (w : World) : Calls Try.prog 20 #[.agg #[nm, .string ⟨#[74]⟩, o1, o2, o3], .agg #[s, .int .i64 rd, .int .i64 r1, .int .i64 r2, .int .i64 im]] w fun e w' => e = .returned (.bool false) ∧ Below w.heap.size w w' := by
  go_enter Try.func20, Try.ntmps20
  go_wp2_with (go_at_call 31; refine (rin_c _ _ _ _).mono ?_; rintro e w1 ⟨rfl, hw⟩; rw [hw]; clear hw w1; first | rw [h1] | rw [h2] | rw [h3])
  go_ret
  exact ⟨rfl, r_al2 _ _ _⟩

theorem tk_1_2 (nm o1 o2 o3 s : Value) (rd r1 r2 im : Int) (h1 : inB rd 0 31 = true) (h2 : inB r1 0 31 = true) (h3 : inB r2 0 31 = true) (q0 : (r1 == 0) = true) (q1 : (r2 == 0) = true) (q2 : inB im (-1048576) 1048574 = false) (w : World) : Calls Try.prog 20 #[.agg #[nm, .string ⟨#[74]⟩, o1, o2, o3], .agg #[s, .int .i64 rd, .int .i64 r1, .int .i64 r2, .int .i64 im]] w fun e w' => e = .returned (.bool false) ∧ Below w.heap.size w w' := by
  go_enter Try.func20, Try.ntmps20
  go_wp2_with (go_at_call 31; refine (rin_c _ _ _ _).mono ?_; rintro e w1 ⟨rfl, hw⟩; rw [hw]; clear hw w1; first | rw [h1] | rw [h2] | rw [h3] | rw [q2])
  go_ret
  exact ⟨rfl, r_al2 _ _ _⟩

theorem tk_1_3 (nm o1 o2 o3 s : Value) (rd r1 r2 im : Int) (h1 : inB rd 0 31 = true) (h2 : inB r1 0 31 = true) (h3 : inB r2 0 31 = true) (q0 : (r1 == 0) = true) (q1 : (r2 == 0) = true) (q2 : inB im (-1048576) 1048574 = true) (q3 : (im.tmod 2 == 0) = false) (w : World) : Calls Try.prog 20 #[.agg #[nm, .string ⟨#[74]⟩, o1, o2, o3], .agg #[s, .int .i64 rd, .int .i64 r1, .int .i64 r2, .int .i64 im]] w fun e w' => e = .returned (.bool false) ∧ Below w.heap.size w w' := by
  go_enter Try.func20, Try.ntmps20
  go_wp2_with (go_at_call 31; refine (rin_c _ _ _ _).mono ?_; rintro e w1 ⟨rfl, hw⟩; rw [hw]; clear hw w1; first | rw [h1] | rw [h2] | rw [h3] | rw [q2])
  go_ret
  exact ⟨rfl, r_al2 _ _ _⟩

theorem tk_1_4 (nm o1 o2 o3 s : Value) (rd r1 r2 im : Int) (h1 : inB rd 0 31 = true) (h2 : inB r1 0 31 = true) (h3 : inB r2 0 31 = true) (q0 : (r1 == 0) = true) (q1 : (r2 == 0) = true) (q2 : inB im (-1048576) 1048574 = true) (q3 : (im.tmod 2 == 0) = true) (w : World) : Calls Try.prog 20 #[.agg #[nm, .string ⟨#[74]⟩, o1, o2, o3], .agg #[s, .int .i64 rd, .int .i64 r1, .int .i64 r2, .int .i64 im]] w fun e w' => e = .returned (.bool true) ∧ Below w.heap.size w w' := by
  go_enter Try.func20, Try.ntmps20
  go_wp2_with (go_at_call 31; refine (rin_c _ _ _ _).mono ?_; rintro e w1 ⟨rfl, hw⟩; rw [hw]; clear hw w1; first | rw [h1] | rw [h2] | rw [h3] | rw [q2])
  go_ret
  exact ⟨rfl, r_al2 _ _ _⟩

theorem tk_2_0 (nm o1 o2 o3 s : Value) (rd r1 r2 im : Int) (h1 : inB rd 0 31 = true) (h2 : inB r1 0 31 = true) (h3 : inB r2 0 31 = true)  (q0 : (r2 == 0) = false) (w : World) : Calls Try.prog 20 #[.agg #[nm, .string ⟨#[73]⟩, o1, o2, o3], .agg #[s, .int .i64 rd, .int .i64 r1, .int .i64 r2, .int .i64 im]] w fun e w' => e = .returned (.bool false) ∧ Below w.heap.size w w' := by
  go_enter Try.func20, Try.ntmps20
  go_wp2_with (go_at_call 31; refine (rin_c _ _ _ _).mono ?_; rintro e w1 ⟨rfl, hw⟩; rw [hw]; clear hw w1; first | rw [h1] | rw [h2] | rw [h3])
  go_ret
  exact ⟨rfl, r_al2 _ _ _⟩

theorem tk_2_1 (nm o1 o2 o3 s : Value) (rd r1 r2 im : Int) (h1 : inB rd 0 31 = true) (h2 : inB r1 0 31 = true) (h3 : inB r2 0 31 = true) (q0 : (r2 == 0) = true) (q1 : inB im (-2048) 2047 = false) (w : World) : Calls Try.prog 20 #[.agg #[nm, .string ⟨#[73]⟩, o1, o2, o3], .agg #[s, .int .i64 rd, .int .i64 r1, .int .i64 r2, .int .i64 im]] w fun e w' => e = .returned (.bool false) ∧ Below w.heap.size w w' := by
  go_enter Try.func20, Try.ntmps20
  go_wp2_with (go_at_call 31; refine (rin_c _ _ _ _).mono ?_; rintro e w1 ⟨rfl, hw⟩; rw [hw]; clear hw w1; first | rw [h1] | rw [h2] | rw [h3] | rw [q1])
  go_ret
  exact ⟨rfl, r_al2 _ _ _⟩

theorem tk_2_2 (nm o1 o2 o3 s : Value) (rd r1 r2 im : Int) (h1 : inB rd 0 31 = true) (h2 : inB r1 0 31 = true) (h3 : inB r2 0 31 = true) (q0 : (r2 == 0) = true) (q1 : inB im (-2048) 2047 = true) (w : World) : Calls Try.prog 20 #[.agg #[nm, .string ⟨#[73]⟩, o1, o2, o3], .agg #[s, .int .i64 rd, .int .i64 r1, .int .i64 r2, .int .i64 im]] w fun e w' => e = .returned (.bool true) ∧ Below w.heap.size w w' := by
  go_enter Try.func20, Try.ntmps20
  go_wp2_with (go_at_call 31; refine (rin_c _ _ _ _).mono ?_; rintro e w1 ⟨rfl, hw⟩; rw [hw]; clear hw w1; first | rw [h1] | rw [h2] | rw [h3] | rw [q1])
  go_ret
  exact ⟨rfl, r_al2 _ _ _⟩

theorem tk_3_0 (nm o1 o2 o3 s : Value) (rd r1 r2 im : Int) (h1 : inB rd 0 31 = true) (h2 : inB r1 0 31 = true) (h3 : inB r2 0 31 = true)  (q0 : (r2 == 0) = false) (w : World) : Calls Try.prog 20 #[.agg #[nm, .string ⟨#[115, 104, 105, 102, 116]⟩, o1, o2, o3], .agg #[s, .int .i64 rd, .int .i64 r1, .int .i64 r2, .int .i64 im]] w fun e w' => e = .returned (.bool false) ∧ Below w.heap.size w w' := by
  go_enter Try.func20, Try.ntmps20
  go_wp2_with (go_at_call 31; refine (rin_c _ _ _ _).mono ?_; rintro e w1 ⟨rfl, hw⟩; rw [hw]; clear hw w1; first | rw [h1] | rw [h2] | rw [h3])
  go_ret
  exact ⟨rfl, r_al2 _ _ _⟩

theorem tk_3_1 (nm o1 o2 o3 s : Value) (rd r1 r2 im : Int) (h1 : inB rd 0 31 = true) (h2 : inB r1 0 31 = true) (h3 : inB r2 0 31 = true) (q0 : (r2 == 0) = true) (q1 : inB im 0 31 = false) (w : World) : Calls Try.prog 20 #[.agg #[nm, .string ⟨#[115, 104, 105, 102, 116]⟩, o1, o2, o3], .agg #[s, .int .i64 rd, .int .i64 r1, .int .i64 r2, .int .i64 im]] w fun e w' => e = .returned (.bool false) ∧ Below w.heap.size w w' := by
  go_enter Try.func20, Try.ntmps20
  go_wp2_with (go_at_call 31; refine (rin_c _ _ _ _).mono ?_; rintro e w1 ⟨rfl, hw⟩; rw [hw]; clear hw w1; first | rw [h1] | rw [h2] | rw [h3] | rw [q1])
  go_ret
  exact ⟨rfl, r_al2 _ _ _⟩

theorem tk_3_2 (nm o1 o2 o3 s : Value) (rd r1 r2 im : Int) (h1 : inB rd 0 31 = true) (h2 : inB r1 0 31 = true) (h3 : inB r2 0 31 = true) (q0 : (r2 == 0) = true) (q1 : inB im 0 31 = true) (w : World) : Calls Try.prog 20 #[.agg #[nm, .string ⟨#[115, 104, 105, 102, 116]⟩, o1, o2, o3], .agg #[s, .int .i64 rd, .int .i64 r1, .int .i64 r2, .int .i64 im]] w fun e w' => e = .returned (.bool true) ∧ Below w.heap.size w w' := by
  go_enter Try.func20, Try.ntmps20
  go_wp2_with (go_at_call 31; refine (rin_c _ _ _ _).mono ?_; rintro e w1 ⟨rfl, hw⟩; rw [hw]; clear hw w1; first | rw [h1] | rw [h2] | rw [h3] | rw [q1])
  go_ret
  exact ⟨rfl, r_al2 _ _ _⟩

theorem tk_4_0 (nm o1 o2 o3 s : Value) (rd r1 r2 im : Int) (h1 : inB rd 0 31 = true) (h2 : inB r1 0 31 = true) (h3 : inB r2 0 31 = true)  (q0 : (rd == 0) = false) (w : World) : Calls Try.prog 20 #[.agg #[nm, .string ⟨#[66]⟩, o1, o2, o3], .agg #[s, .int .i64 rd, .int .i64 r1, .int .i64 r2, .int .i64 im]] w fun e w' => e = .returned (.bool false) ∧ Below w.heap.size w w' := by
  go_enter Try.func20, Try.ntmps20
  go_wp2_with (go_at_call 31; refine (rin_c _ _ _ _).mono ?_; rintro e w1 ⟨rfl, hw⟩; rw [hw]; clear hw w1; first | rw [h1] | rw [h2] | rw [h3])
  go_ret
  exact ⟨rfl, r_al2 _ _ _⟩

theorem tk_4_1 (nm o1 o2 o3 s : Value) (rd r1 r2 im : Int) (h1 : inB rd 0 31 = true) (h2 : inB r1 0 31 = true) (h3 : inB r2 0 31 = true) (q0 : (rd == 0) = true) (q1 : inB im (-4096) 4094 = false) (w : World) : Calls Try.prog 20 #[.agg #[nm, .string ⟨#[66]⟩, o1, o2, o3], .agg #[s, .int .i64 rd, .int .i64 r1, .int .i64 r2, .int .i64 im]] w fun e w' => e = .returned (.bool false) ∧ Below w.heap.size w w' := by
  go_enter Try.func20, Try.ntmps20
  go_wp2_with (go_at_call 31; refine (rin_c _ _ _ _).mono ?_; rintro e w1 ⟨rfl, hw⟩; rw [hw]; clear hw w1; first | rw [h1] | rw [h2] | rw [h3] | rw [q1])
  go_ret
  exact ⟨rfl, r_al2 _ _ _⟩

theorem tk_4_2 (nm o1 o2 o3 s : Value) (rd r1 r2 im : Int) (h1 : inB rd 0 31 = true) (h2 : inB r1 0 31 = true) (h3 : inB r2 0 31 = true) (q0 : (rd == 0) = true) (q1 : inB im (-4096) 4094 = true) (q2 : (im.tmod 2 == 0) = false) (w : World) : Calls Try.prog 20 #[.agg #[nm, .string ⟨#[66]⟩, o1, o2, o3], .agg #[s, .int .i64 rd, .int .i64 r1, .int .i64 r2, .int .i64 im]] w fun e w' => e = .returned (.bool false) ∧ Below w.heap.size w w' := by
  go_enter Try.func20, Try.ntmps20
  go_wp2_with (go_at_call 31; refine (rin_c _ _ _ _).mono ?_; rintro e w1 ⟨rfl, hw⟩; rw [hw]; clear hw w1; first | rw [h1] | rw [h2] | rw [h3] | rw [q1])
  go_ret
  exact ⟨rfl, r_al2 _ _ _⟩

theorem tk_4_3 (nm o1 o2 o3 s : Value) (rd r1 r2 im : Int) (h1 : inB rd 0 31 = true) (h2 : inB r1 0 31 = true) (h3 : inB r2 0 31 = true) (q0 : (rd == 0) = true) (q1 : inB im (-4096) 4094 = true) (q2 : (im.tmod 2 == 0) = true) (w : World) : Calls Try.prog 20 #[.agg #[nm, .string ⟨#[66]⟩, o1, o2, o3], .agg #[s, .int .i64 rd, .int .i64 r1, .int .i64 r2, .int .i64 im]] w fun e w' => e = .returned (.bool true) ∧ Below w.heap.size w w' := by
  go_enter Try.func20, Try.ntmps20
  go_wp2_with (go_at_call 31; refine (rin_c _ _ _ _).mono ?_; rintro e w1 ⟨rfl, hw⟩; rw [hw]; clear hw w1; first | rw [h1] | rw [h2] | rw [h3] | rw [q1])
  go_ret
  exact ⟨rfl, r_al2 _ _ _⟩

theorem tk_5_0 (nm o1 o2 o3 s : Value) (rd r1 r2 im : Int) (h1 : inB rd 0 31 = true) (h2 : inB r1 0 31 = true) (h3 : inB r2 0 31 = true)  (q0 : (rd == 0) = false) (w : World) : Calls Try.prog 20 #[.agg #[nm, .string ⟨#[83]⟩, o1, o2, o3], .agg #[s, .int .i64 rd, .int .i64 r1, .int .i64 r2, .int .i64 im]] w fun e w' => e = .returned (.bool false) ∧ Below w.heap.size w w' := by
  go_enter Try.func20, Try.ntmps20
  go_wp2_with (go_at_call 31; refine (rin_c _ _ _ _).mono ?_; rintro e w1 ⟨rfl, hw⟩; rw [hw]; clear hw w1; first | rw [h1] | rw [h2] | rw [h3])
  go_ret
  exact ⟨rfl, r_al2 _ _ _⟩

theorem tk_5_1 (nm o1 o2 o3 s : Value) (rd r1 r2 im : Int) (h1 : inB rd 0 31 = true) (h2 : inB r1 0 31 = true) (h3 : inB r2 0 31 = true) (q0 : (rd == 0) = true) (q1 : inB im (-2048) 2047 = false) (w : World) : Calls Try.prog 20 #[.agg #[nm, .string ⟨#[83]⟩, o1, o2, o3], .agg #[s, .int .i64 rd, .int .i64 r1, .int .i64 r2, .int .i64 im]] w fun e w' => e = .returned (.bool false) ∧ Below w.heap.size w w' := by
  go_enter Try.func20, Try.ntmps20
  go_wp2_with (go_at_call 31; refine (rin_c _ _ _ _).mono ?_; rintro e w1 ⟨rfl, hw⟩; rw [hw]; clear hw w1; first | rw [h1] | rw [h2] | rw [h3] | rw [q1])
  go_ret
  exact ⟨rfl, r_al2 _ _ _⟩

theorem tk_5_2 (nm o1 o2 o3 s : Value) (rd r1 r2 im : Int) (h1 : inB rd 0 31 = true) (h2 : inB r1 0 31 = true) (h3 : inB r2 0 31 = true) (q0 : (rd == 0) = true) (q1 : inB im (-2048) 2047 = true) (w : World) : Calls Try.prog 20 #[.agg #[nm, .string ⟨#[83]⟩, o1, o2, o3], .agg #[s, .int .i64 rd, .int .i64 r1, .int .i64 r2, .int .i64 im]] w fun e w' => e = .returned (.bool true) ∧ Below w.heap.size w w' := by
  go_enter Try.func20, Try.ntmps20
  go_wp2_with (go_at_call 31; refine (rin_c _ _ _ _).mono ?_; rintro e w1 ⟨rfl, hw⟩; rw [hw]; clear hw w1; first | rw [h1] | rw [h2] | rw [h3] | rw [q1])
  go_ret
  exact ⟨rfl, r_al2 _ _ _⟩

theorem tk_6_0 (nm o1 o2 o3 s : Value) (rd r1 r2 im : Int) (h1 : inB rd 0 31 = true) (h2 : inB r1 0 31 = true) (h3 : inB r2 0 31 = true)  (q0 : (im == 0) = false) (w : World) : Calls Try.prog 20 #[.agg #[nm, .string ⟨#[82]⟩, o1, o2, o3], .agg #[s, .int .i64 rd, .int .i64 r1, .int .i64 r2, .int .i64 im]] w fun e w' => e = .returned (.bool false) ∧ Below w.heap.size w w' := by
  go_enter Try.func20, Try.ntmps20
  go_wp2_with (go_at_call 31; refine (rin_c _ _ _ _).mono ?_; rintro e w1 ⟨rfl, hw⟩; rw [hw]; clear hw w1; first | rw [h1] | rw [h2] | rw [h3])
  go_ret
  exact ⟨rfl, r_al2 _ _ _⟩

theorem tk_6_1 (nm o1 o2 o3 s : Value) (rd r1 r2 im : Int) (h1 : inB rd 0 31 = true) (h2 : inB r1 0 31 = true) (h3 : inB r2 0 31 = true) (q0 : (im == 0) = true) (w : World) : Calls Try.prog 20 #[.agg #[nm, .string ⟨#[82]⟩, o1, o2, o3], .agg #[s, .int .i64 rd, .int .i64 r1, .int .i64 r2, .int .i64 im]] w fun e w' => e = .returned (.bool true) ∧ Below w.heap.size w w' := by
  go_enter Try.func20, Try.ntmps20
  go_wp2_with (go_at_call 31; refine (rin_c _ _ _ _).mono ?_; rintro e w1 ⟨rfl, hw⟩; rw [hw]; clear hw w1; first | rw [h1] | rw [h2] | rw [h3])
  go_ret
  exact ⟨rfl, r_al2 _ _ _⟩

theorem tk_7_0 (nm o1 o2 o3 s : Value) (rd r1 r2 im : Int) (h1 : inB rd 0 31 = true) (h2 : inB r1 0 31 = true) (h3 : inB r2 0 31 = true)  (q0 : (rd == 0) = false) (w : World) : Calls Try.prog 20 #[.agg #[nm, .string ⟨#[69]⟩, o1, o2, o3], .agg #[s, .int .i64 rd, .int .i64 r1, .int .i64 r2, .int .i64 im]] w fun e w' => e = .returned (.bool false) ∧ Below w.heap.size w w' := by
  go_enter Try.func20, Try.ntmps20
  go_wp2_with (go_at_call 31; refine (rin_c _ _ _ _).mono ?_; rintro e w1 ⟨rfl, hw⟩; rw [hw]; clear hw w1; first | rw [h1] | rw [h2] | rw [h3])
  go_ret
  exact ⟨rfl, r_al2 _ _ _⟩

theorem tk_7_1 (nm o1 o2 o3 s : Value) (rd r1 r2 im : Int) (h1 : inB rd 0 31 = true) (h2 : inB r1 0 31 = true) (h3 : inB r2 0 31 = true) (q0 : (rd == 0) = true) (q1 : (r1 == 0) = false) (w : World) : Calls Try.prog 20 #[.agg #[nm, .string ⟨#[69]⟩, o1, o2, o3], .agg #[s, .int .i64 rd, .int .i64 r1, .int .i64 r2, .int .i64 im]] w fun e w' => e = .returned (.bool false) ∧ Below w.heap.size w w' := by
  go_enter Try.func20, Try.ntmps20
  go_wp2_with (go_at_call 31; refine (rin_c _ _ _ _).mono ?_; rintro e w1 ⟨rfl, hw⟩; rw [hw]; clear hw w1; first | rw [h1] | rw [h2] | rw [h3])
  go_ret
  exact ⟨rfl, r_al2 _ _ _⟩

theorem tk_7_2 (nm o1 o2 o3 s : Value) (rd r1 r2 im : Int) (h1 : inB rd 0 31 = true) (h2 : inB r1 0 31 = true) (h3 : inB r2 0 31 = true) (q0 : (rd == 0) = true) (q1 : (r1 == 0) = true) (q2 : (r2 == 0) = false) (w : World) : Calls Try.prog 20 #[.agg #[nm, .string ⟨#[69]⟩, o1, o2, o3], .agg #[s, .int .i64 rd, .int .i64 r1, .int .i64 r2, .int .i64 im]] w fun e w' => e = .returned (.bool false) ∧ Below w.heap.size w w' := by
  go_enter Try.func20, Try.ntmps20
  go_wp2_with (go_at_call 31; refine (rin_c _ _ _ _).mono ?_; rintro e w1 ⟨rfl, hw⟩; rw [hw]; clear hw w1; first | rw [h1] | rw [h2] | rw [h3])
  go_ret
  exact ⟨rfl, r_al2 _ _ _⟩

theorem tk_7_3 (nm o1 o2 o3 s : Value) (rd r1 r2 im : Int) (h1 : inB rd 0 31 = true) (h2 : inB r1 0 31 = true) (h3 : inB r2 0 31 = true) (q0 : (rd == 0) = true) (q1 : (r1 == 0) = true) (q2 : (r2 == 0) = true) (q3 : (im == 0) = false) (w : World) : Calls Try.prog 20 #[.agg #[nm, .string ⟨#[69]⟩, o1, o2, o3], .agg #[s, .int .i64 rd, .int .i64 r1, .int .i64 r2, .int .i64 im]] w fun e w' => e = .returned (.bool false) ∧ Below w.heap.size w w' := by
  go_enter Try.func20, Try.ntmps20
  go_wp2_with (go_at_call 31; refine (rin_c _ _ _ _).mono ?_; rintro e w1 ⟨rfl, hw⟩; rw [hw]; clear hw w1; first | rw [h1] | rw [h2] | rw [h3])
  go_ret
  exact ⟨rfl, r_al2 _ _ _⟩

theorem tk_7_4 (nm o1 o2 o3 s : Value) (rd r1 r2 im : Int) (h1 : inB rd 0 31 = true) (h2 : inB r1 0 31 = true) (h3 : inB r2 0 31 = true) (q0 : (rd == 0) = true) (q1 : (r1 == 0) = true) (q2 : (r2 == 0) = true) (q3 : (im == 0) = true) (w : World) : Calls Try.prog 20 #[.agg #[nm, .string ⟨#[69]⟩, o1, o2, o3], .agg #[s, .int .i64 rd, .int .i64 r1, .int .i64 r2, .int .i64 im]] w fun e w' => e = .returned (.bool true) ∧ Below w.heap.size w w' := by
  go_enter Try.func20, Try.ntmps20
  go_wp2_with (go_at_call 31; refine (rin_c _ _ _ _).mono ?_; rintro e w1 ⟨rfl, hw⟩; rw [hw]; clear hw w1; first | rw [h1] | rw [h2] | rw [h3])
  go_ret
  exact ⟨rfl, r_al2 _ _ _⟩

end Go.Proofs.Ytiiebppcamaliaa
