/-
  Proved: what num's functions on kinds (shapeOf, Int, Bits, Range, Wrap) answer for every kind and number, in every world in which the table num.shapes holds what the program's text lays there; nothing that was in memory turns.
-/
import Derived.Test.YtjcinojbbfjnjaaDoorChecked
import Derived.Test.YtjcinojbbfjnjaaDoorMath
import Derived.WalkKit
import Derived.BigQuiet
import Derived.Deep.QuietTactic
namespace Go.Proofs.YtjcinojbbfjnjaaDoor
open Go.RowKit

/-- The table num.shapes, cell by cell. -/
structure Tab (w : World) : Prop where
  z : 0 < w.heap.size
  c0 : w.cell? ⟨0, 0, none⟩ = some (.int .i64 0)
  d0 : w.cell? ⟨0, 1, none⟩ = some (.bool false)
  c1 : w.cell? ⟨0, 2, none⟩ = some (.int .i64 0)
  d1 : w.cell? ⟨0, 3, none⟩ = some (.bool false)
  c2 : w.cell? ⟨0, 4, none⟩ = some (.int .i64 0)
  d2 : w.cell? ⟨0, 5, none⟩ = some (.bool false)
  c3 : w.cell? ⟨0, 6, none⟩ = some (.int .i64 8)
  d3 : w.cell? ⟨0, 7, none⟩ = some (.bool true)
  c4 : w.cell? ⟨0, 8, none⟩ = some (.int .i64 16)
  d4 : w.cell? ⟨0, 9, none⟩ = some (.bool true)
  c5 : w.cell? ⟨0, 10, none⟩ = some (.int .i64 32)
  d5 : w.cell? ⟨0, 11, none⟩ = some (.bool true)
  c6 : w.cell? ⟨0, 12, none⟩ = some (.int .i64 8)
  d6 : w.cell? ⟨0, 13, none⟩ = some (.bool false)
  c7 : w.cell? ⟨0, 14, none⟩ = some (.int .i64 16)
  d7 : w.cell? ⟨0, 15, none⟩ = some (.bool false)
  c8 : w.cell? ⟨0, 16, none⟩ = some (.int .i64 32)
  d8 : w.cell? ⟨0, 17, none⟩ = some (.bool false)

theorem Tab.below {w w' : World} (t : Tab w) (h : Below w.heap.size w w') : Tab w' := by
  have k : ∀ o, w'.cell? ⟨0, o, none⟩ = w.cell? ⟨0, o, none⟩ := fun o => h.cell (p := ⟨0, o, none⟩) t.z
  exact ⟨by have := h.size; have := t.z; omega, (k _).trans t.c0, (k _).trans t.d0, (k _).trans t.c1, (k _).trans t.d1, (k _).trans t.c2, (k _).trans t.d2, (k _).trans t.c3, (k _).trans t.d3, (k _).trans t.c4, (k _).trans t.d4, (k _).trans t.c5, (k _).trans t.d5, (k _).trans t.c6, (k _).trans t.d6, (k _).trans t.c7, (k _).trans t.d7, (k _).trans t.c8, (k _).trans t.d8⟩

theorem shape_0 (w : World) (h0 : 0 < w.heap.size) (hc : w.cell? ⟨0, 0, none⟩ = some (.int .i64 0)) (hd : w.cell? ⟨0, 1, none⟩ = some (.bool false)) :
    Calls Tryd.prog 21 #[.int .i64 0] w fun e w' => e = .returned (.agg #[.int .i64 0, .bool false]) ∧ Below w.heap.size w w' := by
  go_enter Tryd.func21, Tryd.ntmps21
  go_wp2
  exact bodyPost_ret (v := .agg #[.int .i64 0, .bool false]) (by simp [results, Tryd.results21, go_sem]) rfl ⟨rfl, (Below.refl _ _).alloc (Nat.le_refl _) _⟩

theorem shape_1 (w : World) (h0 : 0 < w.heap.size) (hc : w.cell? ⟨0, 2, none⟩ = some (.int .i64 0)) (hd : w.cell? ⟨0, 3, none⟩ = some (.bool false)) :
    Calls Tryd.prog 21 #[.int .i64 1] w fun e w' => e = .returned (.agg #[.int .i64 0, .bool false]) ∧ Below w.heap.size w w' := by
  go_enter Tryd.func21, Tryd.ntmps21
  go_wp2
  exact bodyPost_ret (v := .agg #[.int .i64 0, .bool false]) (by simp [results, Tryd.results21, go_sem]) rfl ⟨rfl, (Below.refl _ _).alloc (Nat.le_refl _) _⟩

theorem shape_2 (w : World) (h0 : 0 < w.heap.size) (hc : w.cell? ⟨0, 4, none⟩ = some (.int .i64 0)) (hd : w.cell? ⟨0, 5, none⟩ = some (.bool false)) :
    Calls Tryd.prog 21 #[.int .i64 2] w fun e w' => e = .returned (.agg #[.int .i64 0, .bool false]) ∧ Below w.heap.size w w' := by
  go_enter Tryd.func21, Tryd.ntmps21
  go_wp2
  exact bodyPost_ret (v := .agg #[.int .i64 0, .bool false]) (by simp [results, Tryd.results21, go_sem]) rfl ⟨rfl, (Below.refl _ _).alloc (Nat.le_refl _) _⟩

theorem shape_3 (w : World) (h0 : 0 < w.heap.size) (hc : w.cell? ⟨0, 6, none⟩ = some (.int .i64 8)) (hd : w.cell? ⟨0, 7, none⟩ = some (.bool true)) :
    Calls Tryd.prog 21 #[.int .i64 3] w fun e w' => e = .returned (.agg #[.int .i64 8, .bool true]) ∧ Below w.heap.size w w' := by
  go_enter Tryd.func21, Tryd.ntmps21
  go_wp2
  exact bodyPost_ret (v := .agg #[.int .i64 8, .bool true]) (by simp [results, Tryd.results21, go_sem]) rfl ⟨rfl, (Below.refl _ _).alloc (Nat.le_refl _) _⟩

theorem shape_4 (w : World) (h0 : 0 < w.heap.size) (hc : w.cell? ⟨0, 8, none⟩ = some (.int .i64 16)) (hd : w.cell? ⟨0, 9, none⟩ = some (.bool true)) :
    Calls Tryd.prog 21 #[.int .i64 4] w fun e w' => e = .returned (.agg #[.int .i64 16, .bool true]) ∧ Below w.heap.size w w' := by
  go_enter Tryd.func21, Tryd.ntmps21
  go_wp2
  exact bodyPost_ret (v := .agg #[.int .i64 16, .bool true]) (by simp [results, Tryd.results21, go_sem]) rfl ⟨rfl, (Below.refl _ _).alloc (Nat.le_refl _) _⟩

theorem shape_5 (w : World) (h0 : 0 < w.heap.size) (hc : w.cell? ⟨0, 10, none⟩ = some (.int .i64 32)) (hd : w.cell? ⟨0, 11, none⟩ = some (.bool true)) :
    Calls Tryd.prog 21 #[.int .i64 5] w fun e w' => e = .returned (.agg #[.int .i64 32, .bool true]) ∧ Below w.heap.size w w' := by
  go_enter Tryd.func21, Tryd.ntmps21
  go_wp2
  exact bodyPost_ret (v := .agg #[.int .i64 32, .bool true]) (by simp [results, Tryd.results21, go_sem]) rfl ⟨rfl, (Below.refl _ _).alloc (Nat.le_refl _) _⟩

theorem shape_6 (w : World) (h0 : 0 < w.heap.size) (hc : w.cell? ⟨0, 12, none⟩ = some (.int .i64 8)) (hd : w.cell? ⟨0, 13, none⟩ = some (.bool false)) :
    Calls Tryd.prog 21 #[.int .i64 6] w fun e w' => e = .returned (.agg #[.int .i64 8, .bool false]) ∧ Below w.heap.size w w' := by
  go_enter Tryd.func21, Tryd.ntmps21
  go_wp2
  exact bodyPost_ret (v := .agg #[.int .i64 8, .bool false]) (by simp [results, Tryd.results21, go_sem]) rfl ⟨rfl, (Below.refl _ _).alloc (Nat.le_refl _) _⟩

theorem shape_7 (w : World) (h0 : 0 < w.heap.size) (hc : w.cell? ⟨0, 14, none⟩ = some (.int .i64 16)) (hd : w.cell? ⟨0, 15, none⟩ = some (.bool false)) :
    Calls Tryd.prog 21 #[.int .i64 7] w fun e w' => e = .returned (.agg #[.int .i64 16, .bool false]) ∧ Below w.heap.size w w' := by
  go_enter Tryd.func21, Tryd.ntmps21
  go_wp2
  exact bodyPost_ret (v := .agg #[.int .i64 16, .bool false]) (by simp [results, Tryd.results21, go_sem]) rfl ⟨rfl, (Below.refl _ _).alloc (Nat.le_refl _) _⟩

theorem shape_8 (w : World) (h0 : 0 < w.heap.size) (hc : w.cell? ⟨0, 16, none⟩ = some (.int .i64 32)) (hd : w.cell? ⟨0, 17, none⟩ = some (.bool false)) :
    Calls Tryd.prog 21 #[.int .i64 8] w fun e w' => e = .returned (.agg #[.int .i64 32, .bool false]) ∧ Below w.heap.size w w' := by
  go_enter Tryd.func21, Tryd.ntmps21
  go_wp2
  exact bodyPost_ret (v := .agg #[.int .i64 32, .bool false]) (by simp [results, Tryd.results21, go_sem]) rfl ⟨rfl, (Below.refl _ _).alloc (Nat.le_refl _) _⟩

theorem shape_neg (k : Int) (w : World) (h : k < 0) :
    Calls Tryd.prog 21 #[.int .i64 k] w fun e w' => e = .returned (.agg #[.int .i64 0, .bool false]) ∧ Below w.heap.size w w' := by
  go_enter Tryd.func21, Tryd.ntmps21
  go_wp2
  exact bodyPost_ret (v := .agg #[.int .i64 0, .bool false]) (by simp [results, Tryd.results21, go_sem]) rfl ⟨rfl, (Below.refl _ _).alloc (Nat.le_refl _) _⟩

theorem shape_big (k : Int) (w : World) (h : 8 < k) :
    Calls Tryd.prog 21 #[.int .i64 k] w fun e w' => e = .returned (.agg #[.int .i64 0, .bool false]) ∧ Below w.heap.size w w' := by
  go_enter Tryd.func21, Tryd.ntmps21
  go_wp2
  exact bodyPost_ret (v := .agg #[.int .i64 0, .bool false]) (by simp [results, Tryd.results21, go_sem]) rfl ⟨rfl, (Below.refl _ _).alloc (Nat.le_refl _) _⟩

theorem shape_any {k n : Int} {s : Bool} (h : Sh k n s) (w : World) (t : Tab w) :
    Calls Tryd.prog 21 #[.int .i64 k] w fun e w' => e = .returned (.agg #[.int .i64 n, .bool s]) ∧ Below w.heap.size w w' := by
  unfold Sh at h
  rcases h with ⟨rfl, rfl, rfl⟩ | ⟨rfl, rfl, rfl⟩ | ⟨rfl, rfl, rfl⟩ | ⟨rfl, rfl, rfl⟩ | ⟨rfl, rfl, rfl⟩ | ⟨rfl, rfl, rfl⟩ | ⟨rfl, rfl, rfl⟩ | ⟨rfl, rfl, rfl⟩ | ⟨rfl, rfl, rfl⟩ | ⟨hk, rfl, rfl⟩ | ⟨hk, rfl, rfl⟩
  · exact shape_3 w t.z t.c3 t.d3
  · exact shape_4 w t.z t.c4 t.d4
  · exact shape_5 w t.z t.c5 t.d5
  · exact shape_6 w t.z t.c6 t.d6
  · exact shape_7 w t.z t.c7 t.d7
  · exact shape_8 w t.z t.c8 t.d8
  · exact shape_0 w t.z t.c0 t.d0
  · exact shape_1 w t.z t.c1 t.d1
  · exact shape_2 w t.z t.c2 t.d2
  · exact shape_neg k w hk
  · exact shape_big k w hk

set_option maxHeartbeats 400000 in
theorem bits_any {k n : Int} {s : Bool} (h : Sh k n s) (w : World) (t : Tab w) :
    Calls Tryd.prog 8 #[.int .i64 k] w fun e w' => e = .returned (.tuple #[.int .i64 n, .bool s]) ∧ Below w.heap.size w w' := by
  have H : Hid (Sh k n s) := h
  have T : Hid (Tab w) := t
  clear h t
  go_enter Tryd.func8, Tryd.ntmps8
  go_wp2_with (go_at_call 21; refine (shape_any H.out _ T.out).mono ?_; rintro e w1 ⟨rfl, hb⟩)
  go_quiet (fail)
  go_wp2
  go_ret2
  exact ⟨rfl, by have := (hb.alloc hb.size (Obj.cells #[Value.int IntKind.i64 n, Value.bool s] 40)); exact ⟨this.os, this.tape, this.output, this.size, this.block⟩⟩
set_option maxHeartbeats 400000 in
theorem int_yes {k n : Int} {s : Bool} (h : Sh k n s) (hn : 0 < n) (w : World) (t : Tab w) :
    Calls Tryd.prog 12 #[.int .i64 k] w fun e w' => e = .returned (.bool true) ∧ Below w.heap.size w w' := by
  have H : Hid (Sh k n s) := h
  have T : Hid (Tab w) := t
  clear h t
  go_enter Tryd.func12, Tryd.ntmps12
  go_wp2_with (go_at_call 21; refine (shape_any H.out _ T.out).mono ?_; rintro e w1 ⟨rfl, hb⟩)
  go_ret
  exact ⟨rfl, hb⟩
set_option maxHeartbeats 400000 in
theorem int_no {k : Int} (h : Sh k 0 false) (w : World) (t : Tab w) :
    Calls Tryd.prog 12 #[.int .i64 k] w fun e w' => e = .returned (.bool false) ∧ Below w.heap.size w w' := by
  have H : Hid (Sh k 0 false) := h
  have T : Hid (Tab w) := t
  clear h t
  go_enter Tryd.func12, Tryd.ntmps12
  go_wp2_with (go_at_call 21; refine (shape_any H.out _ T.out).mono ?_; rintro e w1 ⟨rfl, hb⟩)
  go_ret
  exact ⟨rfl, hb⟩

theorem Below.next {W w1 w2 : World} (h1 : Below W.heap.size W w1) (h2 : Below w1.heap.size w1 w2) : Below W.heap.size W w2 := h1.trans (h2.mono h1.size)

set_option maxHeartbeats 800000 in
theorem range_no {k : Int} (h : Sh k 0 false) (w : World) (t : Tab w) :
    Calls Tryd.prog 10 #[.int .i64 k] w fun e w' => e = .returned (.tuple #[.int .i64 0, .int .i64 0]) ∧ Below w.heap.size w w' := by
  have H : Hid (Sh k 0 false) := h
  have T : Hid (Tab w) := t
  clear h t
  go_enter Tryd.func10, Tryd.ntmps10
  go_wp2_with (go_at_call 12; refine (int_no H.out _ T.out).mono ?_; rintro e w1 ⟨rfl, hb⟩)
  go_ret2
  exact ⟨rfl, hb⟩
set_option maxHeartbeats 800000 in
theorem range_3 (w : World) (t : Tab w) :
    Calls Tryd.prog 10 #[.int .i64 3] w fun e w' => e = .returned (.tuple #[.int .i64 (-128), .int .i64 127]) ∧ Below w.heap.size w w' := by
  have H : Hid (Sh 3 8 true) := by simp [Hid, Sh]
  have T : Hid (Tab w) := t
  clear t
  go_enter Tryd.func10, Tryd.ntmps10
  go_wp2_with (first | (go_at_call 12; refine (int_yes H.out (by decide) _ T.out).mono ?_; rintro e w1 ⟨rfl, hb⟩; have T1 : Hid (Tab w1) := T.out.below hb) | (go_at_call 8; refine (bits_any H.out _ T1.out).mono ?_; rintro e w2 ⟨rfl, hb2⟩))
  go_ret2
  exact ⟨rfl, (Below.next hb hb2)⟩
set_option maxHeartbeats 800000 in
theorem range_4 (w : World) (t : Tab w) :
    Calls Tryd.prog 10 #[.int .i64 4] w fun e w' => e = .returned (.tuple #[.int .i64 (-32768), .int .i64 32767]) ∧ Below w.heap.size w w' := by
  have H : Hid (Sh 4 16 true) := by simp [Hid, Sh]
  have T : Hid (Tab w) := t
  clear t
  go_enter Tryd.func10, Tryd.ntmps10
  go_wp2_with (first | (go_at_call 12; refine (int_yes H.out (by decide) _ T.out).mono ?_; rintro e w1 ⟨rfl, hb⟩; have T1 : Hid (Tab w1) := T.out.below hb) | (go_at_call 8; refine (bits_any H.out _ T1.out).mono ?_; rintro e w2 ⟨rfl, hb2⟩))
  go_ret2
  exact ⟨rfl, (Below.next hb hb2)⟩
set_option maxHeartbeats 800000 in
theorem range_5 (w : World) (t : Tab w) :
    Calls Tryd.prog 10 #[.int .i64 5] w fun e w' => e = .returned (.tuple #[.int .i64 (-2147483648), .int .i64 2147483647]) ∧ Below w.heap.size w w' := by
  have H : Hid (Sh 5 32 true) := by simp [Hid, Sh]
  have T : Hid (Tab w) := t
  clear t
  go_enter Tryd.func10, Tryd.ntmps10
  go_wp2_with (first | (go_at_call 12; refine (int_yes H.out (by decide) _ T.out).mono ?_; rintro e w1 ⟨rfl, hb⟩; have T1 : Hid (Tab w1) := T.out.below hb) | (go_at_call 8; refine (bits_any H.out _ T1.out).mono ?_; rintro e w2 ⟨rfl, hb2⟩))
  go_ret2
  exact ⟨rfl, (Below.next hb hb2)⟩
set_option maxHeartbeats 800000 in
theorem range_6 (w : World) (t : Tab w) :
    Calls Tryd.prog 10 #[.int .i64 6] w fun e w' => e = .returned (.tuple #[.int .i64 (0), .int .i64 255]) ∧ Below w.heap.size w w' := by
  have H : Hid (Sh 6 8 false) := by simp [Hid, Sh]
  have T : Hid (Tab w) := t
  clear t
  go_enter Tryd.func10, Tryd.ntmps10
  go_wp2_with (first | (go_at_call 12; refine (int_yes H.out (by decide) _ T.out).mono ?_; rintro e w1 ⟨rfl, hb⟩; have T1 : Hid (Tab w1) := T.out.below hb) | (go_at_call 8; refine (bits_any H.out _ T1.out).mono ?_; rintro e w2 ⟨rfl, hb2⟩))
  go_quiet (fail)
  go_wp2
  go_ret2
  exact ⟨rfl, (by have z := Below.next hb hb2; exact ⟨z.os, z.tape, z.output, z.size, z.block⟩)⟩
set_option maxHeartbeats 800000 in
theorem range_7 (w : World) (t : Tab w) :
    Calls Tryd.prog 10 #[.int .i64 7] w fun e w' => e = .returned (.tuple #[.int .i64 (0), .int .i64 65535]) ∧ Below w.heap.size w w' := by
  have H : Hid (Sh 7 16 false) := by simp [Hid, Sh]
  have T : Hid (Tab w) := t
  clear t
  go_enter Tryd.func10, Tryd.ntmps10
  go_wp2_with (first | (go_at_call 12; refine (int_yes H.out (by decide) _ T.out).mono ?_; rintro e w1 ⟨rfl, hb⟩; have T1 : Hid (Tab w1) := T.out.below hb) | (go_at_call 8; refine (bits_any H.out _ T1.out).mono ?_; rintro e w2 ⟨rfl, hb2⟩))
  go_quiet (fail)
  go_wp2
  go_ret2
  exact ⟨rfl, (by have z := Below.next hb hb2; exact ⟨z.os, z.tape, z.output, z.size, z.block⟩)⟩
set_option maxHeartbeats 800000 in
theorem range_8 (w : World) (t : Tab w) :
    Calls Tryd.prog 10 #[.int .i64 8] w fun e w' => e = .returned (.tuple #[.int .i64 (0), .int .i64 4294967295]) ∧ Below w.heap.size w w' := by
  have H : Hid (Sh 8 32 false) := by simp [Hid, Sh]
  have T : Hid (Tab w) := t
  clear t
  go_enter Tryd.func10, Tryd.ntmps10
  go_wp2_with (first | (go_at_call 12; refine (int_yes H.out (by decide) _ T.out).mono ?_; rintro e w1 ⟨rfl, hb⟩; have T1 : Hid (Tab w1) := T.out.below hb) | (go_at_call 8; refine (bits_any H.out _ T1.out).mono ?_; rintro e w2 ⟨rfl, hb2⟩))
  go_quiet (fail)
  go_wp2
  go_ret2
  exact ⟨rfl, (by have z := Below.next hb hb2; exact ⟨z.os, z.tape, z.output, z.size, z.block⟩)⟩

theorem range_any {k l m : Int} (h : Rg k l m) (w : World) (t : Tab w) :
    Calls Tryd.prog 10 #[.int .i64 k] w fun e w' => e = .returned (.tuple #[.int .i64 l, .int .i64 m]) ∧ Below w.heap.size w w' := by
  unfold Rg at h
  rcases h with ⟨rfl, rfl, rfl⟩ | ⟨rfl, rfl, rfl⟩ | ⟨rfl, rfl, rfl⟩ | ⟨rfl, rfl, rfl⟩ | ⟨rfl, rfl, rfl⟩ | ⟨rfl, rfl, rfl⟩ | ⟨hk, rfl, rfl⟩
  · exact range_3 w t
  · exact range_4 w t
  · exact range_5 w t
  · exact range_6 w t
  · exact range_7 w t
  · exact range_8 w t
  · exact range_no (by simp [Sh]; omega) w t

set_option maxHeartbeats 800000 in
theorem wrap_3lo (v : Int) (w : World) (t : Tab w) (hv : v % 256 ≤ 127) :
    Calls Tryd.prog 14 #[.int .i64 3, .int .i64 v] w fun e w' => e = .returned (.int .i64 (v % 256)) ∧ Below w.heap.size w w' := by
  have H : Hid (Sh 3 8 true) := by simp [Hid, Sh]
  have T : Hid (Tab w) := t
  have ha := and8 v
  have hm : 0 ≤ v % 256 ∧ v % 256 < 256 := by omega
  clear t
  go_enter Tryd.func14, Tryd.ntmps14
  go_wp2_with (first | (go_at_call 12; refine (int_yes H.out (by decide) _ T.out).mono ?_; rintro e w1 ⟨rfl, hb⟩; have T1 : Hid (Tab w1) := T.out.below hb) | (go_at_call 8; refine (bits_any H.out _ T1.out).mono ?_; rintro e w2 ⟨rfl, hb2⟩; have T2 : Hid (Tab w2) := T1.out.below hb2) | (go_at_call 10; refine (range_3 _ T2.out).mono ?_; rintro e w3 ⟨rfl, hb3⟩))
  go_ret
  exact ⟨rfl, Below.next (Below.next hb hb2) hb3⟩
set_option maxHeartbeats 800000 in
theorem wrap_3hi (v : Int) (w : World) (t : Tab w) (hv : 127 < v % 256) :
    Calls Tryd.prog 14 #[.int .i64 3, .int .i64 v] w fun e w' => e = .returned (.int .i64 (v % 256 - 256)) ∧ Below w.heap.size w w' := by
  have H : Hid (Sh 3 8 true) := by simp [Hid, Sh]
  have T : Hid (Tab w) := t
  have ha := and8 v
  have hm : 0 ≤ v % 256 ∧ v % 256 < 256 := by omega
  clear t
  go_enter Tryd.func14, Tryd.ntmps14
  go_wp2_with (first | (go_at_call 12; refine (int_yes H.out (by decide) _ T.out).mono ?_; rintro e w1 ⟨rfl, hb⟩; have T1 : Hid (Tab w1) := T.out.below hb) | (go_at_call 8; refine (bits_any H.out _ T1.out).mono ?_; rintro e w2 ⟨rfl, hb2⟩; have T2 : Hid (Tab w2) := T1.out.below hb2) | (go_at_call 10; refine (range_3 _ T2.out).mono ?_; rintro e w3 ⟨rfl, hb3⟩))
  go_ret
  exact ⟨rfl, Below.next (Below.next hb hb2) hb3⟩
set_option maxHeartbeats 800000 in
theorem wrap_4lo (v : Int) (w : World) (t : Tab w) (hv : v % 65536 ≤ 32767) :
    Calls Tryd.prog 14 #[.int .i64 4, .int .i64 v] w fun e w' => e = .returned (.int .i64 (v % 65536)) ∧ Below w.heap.size w w' := by
  have H : Hid (Sh 4 16 true) := by simp [Hid, Sh]
  have T : Hid (Tab w) := t
  have ha := and16 v
  have hm : 0 ≤ v % 65536 ∧ v % 65536 < 65536 := by omega
  clear t
  go_enter Tryd.func14, Tryd.ntmps14
  go_wp2_with (first | (go_at_call 12; refine (int_yes H.out (by decide) _ T.out).mono ?_; rintro e w1 ⟨rfl, hb⟩; have T1 : Hid (Tab w1) := T.out.below hb) | (go_at_call 8; refine (bits_any H.out _ T1.out).mono ?_; rintro e w2 ⟨rfl, hb2⟩; have T2 : Hid (Tab w2) := T1.out.below hb2) | (go_at_call 10; refine (range_4 _ T2.out).mono ?_; rintro e w3 ⟨rfl, hb3⟩))
  go_ret
  exact ⟨rfl, Below.next (Below.next hb hb2) hb3⟩
set_option maxHeartbeats 800000 in
theorem wrap_4hi (v : Int) (w : World) (t : Tab w) (hv : 32767 < v % 65536) :
    Calls Tryd.prog 14 #[.int .i64 4, .int .i64 v] w fun e w' => e = .returned (.int .i64 (v % 65536 - 65536)) ∧ Below w.heap.size w w' := by
  have H : Hid (Sh 4 16 true) := by simp [Hid, Sh]
  have T : Hid (Tab w) := t
  have ha := and16 v
  have hm : 0 ≤ v % 65536 ∧ v % 65536 < 65536 := by omega
  clear t
  go_enter Tryd.func14, Tryd.ntmps14
  go_wp2_with (first | (go_at_call 12; refine (int_yes H.out (by decide) _ T.out).mono ?_; rintro e w1 ⟨rfl, hb⟩; have T1 : Hid (Tab w1) := T.out.below hb) | (go_at_call 8; refine (bits_any H.out _ T1.out).mono ?_; rintro e w2 ⟨rfl, hb2⟩; have T2 : Hid (Tab w2) := T1.out.below hb2) | (go_at_call 10; refine (range_4 _ T2.out).mono ?_; rintro e w3 ⟨rfl, hb3⟩))
  go_ret
  exact ⟨rfl, Below.next (Below.next hb hb2) hb3⟩
set_option maxHeartbeats 800000 in
theorem wrap_5lo (v : Int) (w : World) (t : Tab w) (hv : v % 4294967296 ≤ 2147483647) :
    Calls Tryd.prog 14 #[.int .i64 5, .int .i64 v] w fun e w' => e = .returned (.int .i64 (v % 4294967296)) ∧ Below w.heap.size w w' := by
  have H : Hid (Sh 5 32 true) := by simp [Hid, Sh]
  have T : Hid (Tab w) := t
  have ha := and32 v
  have hm : 0 ≤ v % 4294967296 ∧ v % 4294967296 < 4294967296 := by omega
  clear t
  go_enter Tryd.func14, Tryd.ntmps14
  go_wp2_with (first | (go_at_call 12; refine (int_yes H.out (by decide) _ T.out).mono ?_; rintro e w1 ⟨rfl, hb⟩; have T1 : Hid (Tab w1) := T.out.below hb) | (go_at_call 8; refine (bits_any H.out _ T1.out).mono ?_; rintro e w2 ⟨rfl, hb2⟩; have T2 : Hid (Tab w2) := T1.out.below hb2) | (go_at_call 10; refine (range_5 _ T2.out).mono ?_; rintro e w3 ⟨rfl, hb3⟩))
  go_ret
  exact ⟨rfl, Below.next (Below.next hb hb2) hb3⟩
set_option maxHeartbeats 800000 in
theorem wrap_5hi (v : Int) (w : World) (t : Tab w) (hv : 2147483647 < v % 4294967296) :
    Calls Tryd.prog 14 #[.int .i64 5, .int .i64 v] w fun e w' => e = .returned (.int .i64 (v % 4294967296 - 4294967296)) ∧ Below w.heap.size w w' := by
  have H : Hid (Sh 5 32 true) := by simp [Hid, Sh]
  have T : Hid (Tab w) := t
  have ha := and32 v
  have hm : 0 ≤ v % 4294967296 ∧ v % 4294967296 < 4294967296 := by omega
  clear t
  go_enter Tryd.func14, Tryd.ntmps14
  go_wp2_with (first | (go_at_call 12; refine (int_yes H.out (by decide) _ T.out).mono ?_; rintro e w1 ⟨rfl, hb⟩; have T1 : Hid (Tab w1) := T.out.below hb) | (go_at_call 8; refine (bits_any H.out _ T1.out).mono ?_; rintro e w2 ⟨rfl, hb2⟩; have T2 : Hid (Tab w2) := T1.out.below hb2) | (go_at_call 10; refine (range_5 _ T2.out).mono ?_; rintro e w3 ⟨rfl, hb3⟩))
  go_ret
  exact ⟨rfl, Below.next (Below.next hb hb2) hb3⟩
set_option maxHeartbeats 800000 in
theorem wrap_6 (v : Int) (w : World) (t : Tab w)  :
    Calls Tryd.prog 14 #[.int .i64 6, .int .i64 v] w fun e w' => e = .returned (.int .i64 (v % 256)) ∧ Below w.heap.size w w' := by
  have H : Hid (Sh 6 8 false) := by simp [Hid, Sh]
  have T : Hid (Tab w) := t
  have ha := and8 v
  have hm : 0 ≤ v % 256 ∧ v % 256 < 256 := by omega
  clear t
  go_enter Tryd.func14, Tryd.ntmps14
  go_wp2_with (first | (go_at_call 12; refine (int_yes H.out (by decide) _ T.out).mono ?_; rintro e w1 ⟨rfl, hb⟩; have T1 : Hid (Tab w1) := T.out.below hb) | (go_at_call 8; refine (bits_any H.out _ T1.out).mono ?_; rintro e w2 ⟨rfl, hb2⟩; have T2 : Hid (Tab w2) := T1.out.below hb2) | (go_at_call 10; refine (range_6 _ T2.out).mono ?_; rintro e w3 ⟨rfl, hb3⟩))
  go_ret
  exact ⟨rfl, Below.next (Below.next hb hb2) hb3⟩
set_option maxHeartbeats 800000 in
theorem wrap_7 (v : Int) (w : World) (t : Tab w)  :
    Calls Tryd.prog 14 #[.int .i64 7, .int .i64 v] w fun e w' => e = .returned (.int .i64 (v % 65536)) ∧ Below w.heap.size w w' := by
  have H : Hid (Sh 7 16 false) := by simp [Hid, Sh]
  have T : Hid (Tab w) := t
  have ha := and16 v
  have hm : 0 ≤ v % 65536 ∧ v % 65536 < 65536 := by omega
  clear t
  go_enter Tryd.func14, Tryd.ntmps14
  go_wp2_with (first | (go_at_call 12; refine (int_yes H.out (by decide) _ T.out).mono ?_; rintro e w1 ⟨rfl, hb⟩; have T1 : Hid (Tab w1) := T.out.below hb) | (go_at_call 8; refine (bits_any H.out _ T1.out).mono ?_; rintro e w2 ⟨rfl, hb2⟩; have T2 : Hid (Tab w2) := T1.out.below hb2) | (go_at_call 10; refine (range_7 _ T2.out).mono ?_; rintro e w3 ⟨rfl, hb3⟩))
  go_ret
  exact ⟨rfl, Below.next (Below.next hb hb2) hb3⟩
set_option maxHeartbeats 800000 in
theorem wrap_8 (v : Int) (w : World) (t : Tab w)  :
    Calls Tryd.prog 14 #[.int .i64 8, .int .i64 v] w fun e w' => e = .returned (.int .i64 (v % 4294967296)) ∧ Below w.heap.size w w' := by
  have H : Hid (Sh 8 32 false) := by simp [Hid, Sh]
  have T : Hid (Tab w) := t
  have ha := and32 v
  have hm : 0 ≤ v % 4294967296 ∧ v % 4294967296 < 4294967296 := by omega
  clear t
  go_enter Tryd.func14, Tryd.ntmps14
  go_wp2_with (first | (go_at_call 12; refine (int_yes H.out (by decide) _ T.out).mono ?_; rintro e w1 ⟨rfl, hb⟩; have T1 : Hid (Tab w1) := T.out.below hb) | (go_at_call 8; refine (bits_any H.out _ T1.out).mono ?_; rintro e w2 ⟨rfl, hb2⟩; have T2 : Hid (Tab w2) := T1.out.below hb2) | (go_at_call 10; refine (range_8 _ T2.out).mono ?_; rintro e w3 ⟨rfl, hb3⟩))
  go_ret
  exact ⟨rfl, Below.next (Below.next hb hb2) hb3⟩

theorem wrap_any {k : Int} (v : Int) (h1 : 3 ≤ k) (h2 : k ≤ 8) (w : World) (t : Tab w) :
    Calls Tryd.prog 14 #[.int .i64 k, .int .i64 v] w fun e w' => e = .returned (.int .i64 (wr k v)) ∧ Below w.heap.size w w' := by
  have hk : k = 3 ∨ k = 4 ∨ k = 5 ∨ k = 6 ∨ k = 7 ∨ k = 8 := by omega
  rcases hk with rfl | rfl | rfl | rfl | rfl | rfl
  · by_cases hv : v % 256 ≤ 127
    · rw [show wr 3 v = v % 256 from by simp [wr]; omega]; exact wrap_3lo v w t hv
    · rw [show wr 3 v = v % 256 - 256 from by simp [wr]; omega]; exact wrap_3hi v w t (by omega)
  · by_cases hv : v % 65536 ≤ 32767
    · rw [show wr 4 v = v % 65536 from by simp [wr]; omega]; exact wrap_4lo v w t hv
    · rw [show wr 4 v = v % 65536 - 65536 from by simp [wr]; omega]; exact wrap_4hi v w t (by omega)
  · by_cases hv : v % 4294967296 ≤ 2147483647
    · rw [show wr 5 v = v % 4294967296 from by simp [wr]; omega]; exact wrap_5lo v w t hv
    · rw [show wr 5 v = v % 4294967296 - 4294967296 from by simp [wr]; omega]; exact wrap_5hi v w t (by omega)
  · exact wrap_6 v w t
  · exact wrap_7 v w t
  · exact wrap_8 v w t

set_option maxHeartbeats 800000 in
theorem wrap_no {k : Int} (v : Int) (h : Sh k 0 false) (w : World) (t : Tab w) :
    Calls Tryd.prog 14 #[.int .i64 k, .int .i64 v] w fun e w' => e = .returned (.int .i64 0) ∧ Below w.heap.size w w' := by
  have H : Hid (Sh k 0 false) := h
  have T : Hid (Tab w) := t
  clear h t
  go_enter Tryd.func14, Tryd.ntmps14
  go_wp2_with (go_at_call 12; refine (int_no H.out _ T.out).mono ?_; rintro e w1 ⟨rfl, hb⟩)
  go_ret
  exact ⟨rfl, hb⟩
end Go.Proofs.YtjcinojbbfjnjaaDoor
