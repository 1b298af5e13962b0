/-
  Proved: what the reference's of answers: a word's fields as an instruction of a row.
-/
import Derived.Test.YtiiebppcamaliaaRcon
namespace Go.Proofs.Ytiiebppcamaliaa
open Go.RowKit
set_option linter.unusedVariables false
set_option linter.unusedSimpArgs false

def sgT (n : Int) : Option Int :=
  match n with
  | 12 => some 2048
  | 13 => some 4096
  | 21 => some 1048576
  | _ => none
theorem rsg_g (n m : Int) {H : Int} (h : sgT m = some H) (n0 : 0 ≤ n) (n1 : n < 2147483648) (w : World) : Calls Try.prog 36 #[.int .i64 n, .int .i64 m] w fun e w' => e = .returned (.int .i64 (sgd n H)) ∧ w' = w := by
  unfold sgT at h
  split at h
  · cases h; exact rsigned_c n 12 n0 n1 (by decide) (by decide) w
  · cases h; exact rsigned_c n 13 n0 n1 (by decide) (by decide) w
  · cases h; exact rsigned_c n 21 n0 n1 (by decide) (by decide) w
  · cases h
theorem sizeI' : (Try.prog.info? 23).map (·.size) = some 5 := by kernel_rfl
theorem al3_b (w : World) (A B C : Obj) : Below w.heap.size w (((w.alloc A).alloc B).alloc C) := (al2_b w A B).alloc (by have := (al2_b w A B).size; omega) C
theorem at_mid (w : World) (A C : Obj) (cs : Array Value) (t : TypeId) : At (((w.alloc A).alloc (.cells cs t)).alloc C) (w.heap.size + 1) cs t := (At.newS (w.alloc A) cs t (by simp)).below (below_alloc _ _) (At.newS (w.alloc A) cs t (by simp)).lt

set_option maxRecDepth 20000 in
set_option maxHeartbeats 1000000 in
theorem rof_0 (nm : ByteArray) (o1 o2 o3 : Value) (x : Int) (w : World) :
    Calls Try.prog 25 #[.agg #[.string nm, .string ⟨#[85]⟩, o1, o2, o3], .int .i64 x] w fun e w' => e = .returned (.agg #[.string nm, .int .i64 (bt x 128 32), .int .i64 (0), .int .i64 (0), .int .i64 (bt x 4096 1048576)]) ∧ Below w.heap.size w w' := by
  have h0 := bt_in x 128 32 (by decide)
  have h1 := bt_in x 32768 32 (by decide)
  have h2 := bt_in x 1048576 32 (by decide)
  have h3 := bt_in x 4096 1048576 (by decide)
  go_enter Try.func25, Try.ntmps25
  go_wp2_with (first | (go_at_call 32; refine (rat_g _ _ (by rfl) (by omega) (by omega) _).mono ?_; rintro e w1 ⟨rfl, hw⟩; rw [hw]; clear hw w1) | (go_at_call 33; refine (rbt_g _ _ _ (by rfl) (by rfl) _).mono ?_; rintro e w1 ⟨rfl, hw⟩; rw [hw]; clear hw w1) | (go_at_call 36; refine (rsg_g _ _ (by rfl) (by omega) (by omega) _).mono ?_; rintro e w1 ⟨rfl, hw⟩; rw [hw]; clear hw w1))
  refine bodyPost_ret (results_cell_row rfl _ _ (w.heap.size + 1) 23 _ (0, 0) _ rfl (at_mid _ _ _ _ _) Try.underlying23 rfl sizeI') rfl ?_
  exact ⟨rfl, al3_b _ _ _ _⟩

set_option maxRecDepth 20000 in
set_option maxHeartbeats 1000000 in
theorem rof_1 (nm : ByteArray) (o1 o2 o3 : Value) (x : Int) (w : World) :
    Calls Try.prog 25 #[.agg #[.string nm, .string ⟨#[74]⟩, o1, o2, o3], .int .i64 x] w fun e w' => e = .returned (.agg #[.string nm, .int .i64 (bt x 128 32), .int .i64 (0), .int .i64 (0), .int .i64 (sgd (bt x 2097152 1024 * 2 + bt x 1048576 2 * 2048 + bt x 4096 256 * 4096 + bt x 2147483648 2 * 1048576) 1048576)]) ∧ Below w.heap.size w w' := by
  have h0 := bt_in x 128 32 (by decide)
  have h1 := bt_in x 32768 32 (by decide)
  have h2 := bt_in x 1048576 32 (by decide)
  have h3 := bt_in x 2097152 1024 (by decide)
  have h4 := bt_in x 1048576 2 (by decide)
  have h5 := bt_in x 4096 256 (by decide)
  have h6 := bt_in x 2147483648 2 (by decide)
  go_enter Try.func25, Try.ntmps25
  go_wp2_with (first | (go_at_call 32; refine (rat_g _ _ (by rfl) (by omega) (by omega) _).mono ?_; rintro e w1 ⟨rfl, hw⟩; rw [hw]; clear hw w1) | (go_at_call 33; refine (rbt_g _ _ _ (by rfl) (by rfl) _).mono ?_; rintro e w1 ⟨rfl, hw⟩; rw [hw]; clear hw w1) | (go_at_call 36; refine (rsg_g _ _ (by rfl) (by omega) (by omega) _).mono ?_; rintro e w1 ⟨rfl, hw⟩; rw [hw]; clear hw w1))
  refine bodyPost_ret (results_cell_row rfl _ _ (w.heap.size + 1) 23 _ (0, 0) _ rfl (at_mid _ _ _ _ _) Try.underlying23 rfl sizeI') rfl ?_
  exact ⟨rfl, al3_b _ _ _ _⟩

set_option maxRecDepth 20000 in
set_option maxHeartbeats 1000000 in
theorem rof_2 (nm : ByteArray) (o1 o2 o3 : Value) (x : Int) (w : World) :
    Calls Try.prog 25 #[.agg #[.string nm, .string ⟨#[73]⟩, o1, o2, o3], .int .i64 x] w fun e w' => e = .returned (.agg #[.string nm, .int .i64 (bt x 128 32), .int .i64 (bt x 32768 32), .int .i64 (0), .int .i64 (sgd (bt x 1048576 4096) 2048)]) ∧ Below w.heap.size w w' := by
  have h0 := bt_in x 128 32 (by decide)
  have h1 := bt_in x 32768 32 (by decide)
  have h2 := bt_in x 1048576 32 (by decide)
  have h3 := bt_in x 1048576 4096 (by decide)
  go_enter Try.func25, Try.ntmps25
  go_wp2_with (first | (go_at_call 32; refine (rat_g _ _ (by rfl) (by omega) (by omega) _).mono ?_; rintro e w1 ⟨rfl, hw⟩; rw [hw]; clear hw w1) | (go_at_call 33; refine (rbt_g _ _ _ (by rfl) (by rfl) _).mono ?_; rintro e w1 ⟨rfl, hw⟩; rw [hw]; clear hw w1) | (go_at_call 36; refine (rsg_g _ _ (by rfl) (by omega) (by omega) _).mono ?_; rintro e w1 ⟨rfl, hw⟩; rw [hw]; clear hw w1))
  refine bodyPost_ret (results_cell_row rfl _ _ (w.heap.size + 1) 23 _ (0, 0) _ rfl (at_mid _ _ _ _ _) Try.underlying23 rfl sizeI') rfl ?_
  exact ⟨rfl, al3_b _ _ _ _⟩

set_option maxRecDepth 20000 in
set_option maxHeartbeats 1000000 in
theorem rof_3 (nm : ByteArray) (o1 o2 o3 : Value) (x : Int) (w : World) :
    Calls Try.prog 25 #[.agg #[.string nm, .string ⟨#[115, 104, 105, 102, 116]⟩, o1, o2, o3], .int .i64 x] w fun e w' => e = .returned (.agg #[.string nm, .int .i64 (bt x 128 32), .int .i64 (bt x 32768 32), .int .i64 (0), .int .i64 (bt x 1048576 32)]) ∧ Below w.heap.size w w' := by
  have h0 := bt_in x 128 32 (by decide)
  have h1 := bt_in x 32768 32 (by decide)
  have h2 := bt_in x 1048576 32 (by decide)
  go_enter Try.func25, Try.ntmps25
  go_wp2_with (first | (go_at_call 32; refine (rat_g _ _ (by rfl) (by omega) (by omega) _).mono ?_; rintro e w1 ⟨rfl, hw⟩; rw [hw]; clear hw w1) | (go_at_call 33; refine (rbt_g _ _ _ (by rfl) (by rfl) _).mono ?_; rintro e w1 ⟨rfl, hw⟩; rw [hw]; clear hw w1) | (go_at_call 36; refine (rsg_g _ _ (by rfl) (by omega) (by omega) _).mono ?_; rintro e w1 ⟨rfl, hw⟩; rw [hw]; clear hw w1))
  refine bodyPost_ret (results_cell_row rfl _ _ (w.heap.size + 1) 23 _ (0, 0) _ rfl (at_mid _ _ _ _ _) Try.underlying23 rfl sizeI') rfl ?_
  exact ⟨rfl, al3_b _ _ _ _⟩

set_option maxRecDepth 20000 in
set_option maxHeartbeats 1000000 in
theorem rof_4 (nm : ByteArray) (o1 o2 o3 : Value) (x : Int) (w : World) :
    Calls Try.prog 25 #[.agg #[.string nm, .string ⟨#[66]⟩, o1, o2, o3], .int .i64 x] w fun e w' => e = .returned (.agg #[.string nm, .int .i64 (0), .int .i64 (bt x 32768 32), .int .i64 (bt x 1048576 32), .int .i64 (sgd (bt x 256 16 * 2 + bt x 33554432 64 * 32 + bt x 128 2 * 2048 + bt x 2147483648 2 * 4096) 4096)]) ∧ Below w.heap.size w w' := by
  have h0 := bt_in x 128 32 (by decide)
  have h1 := bt_in x 32768 32 (by decide)
  have h2 := bt_in x 1048576 32 (by decide)
  have h3 := bt_in x 256 16 (by decide)
  have h4 := bt_in x 33554432 64 (by decide)
  have h5 := bt_in x 128 2 (by decide)
  have h6 := bt_in x 2147483648 2 (by decide)
  go_enter Try.func25, Try.ntmps25
  go_wp2_with (first | (go_at_call 32; refine (rat_g _ _ (by rfl) (by omega) (by omega) _).mono ?_; rintro e w1 ⟨rfl, hw⟩; rw [hw]; clear hw w1) | (go_at_call 33; refine (rbt_g _ _ _ (by rfl) (by rfl) _).mono ?_; rintro e w1 ⟨rfl, hw⟩; rw [hw]; clear hw w1) | (go_at_call 36; refine (rsg_g _ _ (by rfl) (by omega) (by omega) _).mono ?_; rintro e w1 ⟨rfl, hw⟩; rw [hw]; clear hw w1))
  refine bodyPost_ret (results_cell_row rfl _ _ (w.heap.size + 1) 23 _ (0, 0) _ rfl (at_mid _ _ _ _ _) Try.underlying23 rfl sizeI') rfl ?_
  exact ⟨rfl, al3_b _ _ _ _⟩

set_option maxRecDepth 20000 in
set_option maxHeartbeats 1000000 in
theorem rof_5 (nm : ByteArray) (o1 o2 o3 : Value) (x : Int) (w : World) :
    Calls Try.prog 25 #[.agg #[.string nm, .string ⟨#[83]⟩, o1, o2, o3], .int .i64 x] w fun e w' => e = .returned (.agg #[.string nm, .int .i64 (0), .int .i64 (bt x 32768 32), .int .i64 (bt x 1048576 32), .int .i64 (sgd (bt x 128 32 + bt x 33554432 128 * 32) 2048)]) ∧ Below w.heap.size w w' := by
  have h0 := bt_in x 128 32 (by decide)
  have h1 := bt_in x 32768 32 (by decide)
  have h2 := bt_in x 1048576 32 (by decide)
  have h3 := bt_in x 33554432 128 (by decide)
  go_enter Try.func25, Try.ntmps25
  go_wp2_with (first | (go_at_call 32; refine (rat_g _ _ (by rfl) (by omega) (by omega) _).mono ?_; rintro e w1 ⟨rfl, hw⟩; rw [hw]; clear hw w1) | (go_at_call 33; refine (rbt_g _ _ _ (by rfl) (by rfl) _).mono ?_; rintro e w1 ⟨rfl, hw⟩; rw [hw]; clear hw w1) | (go_at_call 36; refine (rsg_g _ _ (by rfl) (by omega) (by omega) _).mono ?_; rintro e w1 ⟨rfl, hw⟩; rw [hw]; clear hw w1))
  refine bodyPost_ret (results_cell_row rfl _ _ (w.heap.size + 1) 23 _ (0, 0) _ rfl (at_mid _ _ _ _ _) Try.underlying23 rfl sizeI') rfl ?_
  exact ⟨rfl, al3_b _ _ _ _⟩

set_option maxRecDepth 20000 in
set_option maxHeartbeats 1000000 in
theorem rof_6 (nm : ByteArray) (o1 o2 o3 : Value) (x : Int) (w : World) :
    Calls Try.prog 25 #[.agg #[.string nm, .string ⟨#[82]⟩, o1, o2, o3], .int .i64 x] w fun e w' => e = .returned (.agg #[.string nm, .int .i64 (bt x 128 32), .int .i64 (bt x 32768 32), .int .i64 (bt x 1048576 32), .int .i64 (0)]) ∧ Below w.heap.size w w' := by
  have h0 := bt_in x 128 32 (by decide)
  have h1 := bt_in x 32768 32 (by decide)
  have h2 := bt_in x 1048576 32 (by decide)
  go_enter Try.func25, Try.ntmps25
  go_wp2_with (first | (go_at_call 32; refine (rat_g _ _ (by rfl) (by omega) (by omega) _).mono ?_; rintro e w1 ⟨rfl, hw⟩; rw [hw]; clear hw w1) | (go_at_call 33; refine (rbt_g _ _ _ (by rfl) (by rfl) _).mono ?_; rintro e w1 ⟨rfl, hw⟩; rw [hw]; clear hw w1) | (go_at_call 36; refine (rsg_g _ _ (by rfl) (by omega) (by omega) _).mono ?_; rintro e w1 ⟨rfl, hw⟩; rw [hw]; clear hw w1))
  refine bodyPost_ret (results_cell_row rfl _ _ (w.heap.size + 1) 23 _ (0, 0) _ rfl (at_mid _ _ _ _ _) Try.underlying23 rfl sizeI') rfl ?_
  exact ⟨rfl, al3_b _ _ _ _⟩

set_option maxRecDepth 20000 in
set_option maxHeartbeats 1000000 in
theorem rof_7 (nm : ByteArray) (o1 o2 o3 : Value) (x : Int) (w : World) :
    Calls Try.prog 25 #[.agg #[.string nm, .string ⟨#[69]⟩, o1, o2, o3], .int .i64 x] w fun e w' => e = .returned (.agg #[.string nm, .int .i64 (0), .int .i64 (0), .int .i64 (0), .int .i64 (0)]) ∧ Below w.heap.size w w' := by
  have h0 := bt_in x 128 32 (by decide)
  have h1 := bt_in x 32768 32 (by decide)
  have h2 := bt_in x 1048576 32 (by decide)
  go_enter Try.func25, Try.ntmps25
  go_wp2_with (first | (go_at_call 32; refine (rat_g _ _ (by rfl) (by omega) (by omega) _).mono ?_; rintro e w1 ⟨rfl, hw⟩; rw [hw]; clear hw w1) | (go_at_call 33; refine (rbt_g _ _ _ (by rfl) (by rfl) _).mono ?_; rintro e w1 ⟨rfl, hw⟩; rw [hw]; clear hw w1) | (go_at_call 36; refine (rsg_g _ _ (by rfl) (by omega) (by omega) _).mono ?_; rintro e w1 ⟨rfl, hw⟩; rw [hw]; clear hw w1))
  refine bodyPost_ret (results_cell_row rfl _ _ (w.heap.size + 1) 23 _ (0, 0) _ rfl (at_mid _ _ _ _ _) Try.underlying23 rfl sizeI') rfl ?_
  exact ⟨rfl, al3_b _ _ _ _⟩

theorem rof_c {r : Rw} (RK : Rok r) (nm : ByteArray) (x : Int) (w : World) :
    Calls Try.prog 25 #[.agg #[.string nm, .string (fmS r.fm), .int .i64 r.op, .int .i64 r.f3, .int .i64 r.f7], .int .i64 x] w fun e w' => e = .returned (.agg #[.string nm, .int .i64 (fo r x).rd, .int .i64 (fo r x).r1, .int .i64 (fo r x).r2, .int .i64 (fo r x).im]) ∧ Below w.heap.size w w' := by
  have hc := fm_cases RK
  obtain ⟨fm, op, f3, f7⟩ := r
  simp only at hc
  rcases hc with rfl | rfl | rfl | rfl | rfl | rfl | rfl | rfl | rfl
  · exact rof_0 nm _ _ _ x w
  · exact rof_1 nm _ _ _ x w
  · exact rof_2 nm _ _ _ x w
  · exact rof_3 nm _ _ _ x w
  · exact rof_4 nm _ _ _ x w
  · exact rof_5 nm _ _ _ x w
  · exact rof_6 nm _ _ _ x w
  · exact rof_7 nm _ _ _ x w
  · exact rof_7 nm _ _ _ x w
end Go.Proofs.Ytiiebppcamaliaa
