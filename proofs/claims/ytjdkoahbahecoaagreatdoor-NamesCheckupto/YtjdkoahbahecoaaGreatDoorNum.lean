/-
  Proved: what num's functions on kinds (shapeOf, Int, Bits, Range) answer, in every world in which the table num.shapes holds what the program's text lays there.
-/
import Derived.Test.YtjdkoahbahecoaaGreatDoorEnumr
namespace Go.Proofs.YtjdkoahbahecoaaGreatDoor
open Go.RowKit

/-- The kind k has n bits, and a sign or none. -/
def Sh (k n : Int) (s : Bool) : Prop :=
  (k = 3 ∧ n = 8 ∧ s = true) ∨ (k = 4 ∧ n = 16 ∧ s = true) ∨ (k = 5 ∧ n = 32 ∧ s = true) ∨ (k = 6 ∧ n = 8 ∧ s = false) ∨ (k = 7 ∧ n = 16 ∧ s = false) ∨ (k = 8 ∧ n = 32 ∧ s = false) ∨ (k = 0 ∧ n = 0 ∧ s = false) ∨ (k = 1 ∧ n = 0 ∧ s = false) ∨ (k = 2 ∧ n = 0 ∧ s = false) ∨ (k < 0 ∧ n = 0 ∧ s = false) ∨ (8 < k ∧ n = 0 ∧ s = false)

/-- The kind k has the numbers from l to m. -/
def Rg (k l m : Int) : Prop :=
  (k = 3 ∧ l = -128 ∧ m = 127) ∨ (k = 4 ∧ l = -32768 ∧ m = 32767) ∨ (k = 5 ∧ l = -2147483648 ∧ m = 2147483647) ∨ (k = 6 ∧ l = 0 ∧ m = 255) ∨ (k = 7 ∧ l = 0 ∧ m = 65535) ∨ (k = 8 ∧ l = 0 ∧ m = 4294967295) ∨ ((k < 3 ∨ 8 < k) ∧ l = 0 ∧ m = 0)

theorem Sh.ex (k : Int) : ∃ n s, Sh k n s := by
  unfold Sh
  by_cases h3 : k = 3
  · exact ⟨8, true, by simp; omega⟩
  by_cases h4 : k = 4
  · exact ⟨16, true, by simp; omega⟩
  by_cases h5 : k = 5
  · exact ⟨32, true, by simp; omega⟩
  by_cases h6 : k = 6
  · exact ⟨8, false, by simp; omega⟩
  by_cases h7 : k = 7
  · exact ⟨16, false, by simp; omega⟩
  by_cases h8 : k = 8
  · exact ⟨32, false, by simp; omega⟩
  exact ⟨0, false, by simp; omega⟩

theorem Rg.ex (k : Int) : ∃ l m, Rg k l m := by
  unfold Rg
  by_cases h3 : k = 3
  · exact ⟨_, _, .inl ⟨h3, rfl, rfl⟩⟩
  by_cases h4 : k = 4
  · exact ⟨_, _, .inr (.inl ⟨h4, rfl, rfl⟩)⟩
  by_cases h5 : k = 5
  · exact ⟨_, _, .inr (.inr (.inl ⟨h5, rfl, rfl⟩))⟩
  by_cases h6 : k = 6
  · exact ⟨_, _, .inr (.inr (.inr (.inl ⟨h6, rfl, rfl⟩)))⟩
  by_cases h7 : k = 7
  · exact ⟨_, _, .inr (.inr (.inr (.inr (.inl ⟨h7, rfl, rfl⟩))))⟩
  by_cases h8 : k = 8
  · exact ⟨_, _, .inr (.inr (.inr (.inr (.inr (.inl ⟨h8, rfl, rfl⟩)))))⟩
  exact ⟨0, 0, by omega⟩

/-- The table num.shapes, cell by cell. -/
structure Shp (w : World) : Prop where
  z : 2 < w.heap.size
  c0 : w.cell? ⟨2, 0, none⟩ = some (.int .i64 0)
  d0 : w.cell? ⟨2, 1, none⟩ = some (.bool false)
  c1 : w.cell? ⟨2, 2, none⟩ = some (.int .i64 0)
  d1 : w.cell? ⟨2, 3, none⟩ = some (.bool false)
  c2 : w.cell? ⟨2, 4, none⟩ = some (.int .i64 0)
  d2 : w.cell? ⟨2, 5, none⟩ = some (.bool false)
  c3 : w.cell? ⟨2, 6, none⟩ = some (.int .i64 8)
  d3 : w.cell? ⟨2, 7, none⟩ = some (.bool true)
  c4 : w.cell? ⟨2, 8, none⟩ = some (.int .i64 16)
  d4 : w.cell? ⟨2, 9, none⟩ = some (.bool true)
  c5 : w.cell? ⟨2, 10, none⟩ = some (.int .i64 32)
  d5 : w.cell? ⟨2, 11, none⟩ = some (.bool true)
  c6 : w.cell? ⟨2, 12, none⟩ = some (.int .i64 8)
  d6 : w.cell? ⟨2, 13, none⟩ = some (.bool false)
  c7 : w.cell? ⟨2, 14, none⟩ = some (.int .i64 16)
  d7 : w.cell? ⟨2, 15, none⟩ = some (.bool false)
  c8 : w.cell? ⟨2, 16, none⟩ = some (.int .i64 32)
  d8 : w.cell? ⟨2, 17, none⟩ = some (.bool false)

theorem Shp.below {w w' : World} (t : Shp w) (h : Below w.heap.size w w') : Shp w' := by
  have k : ∀ o, w'.cell? ⟨2, o, none⟩ = w.cell? ⟨2, o, none⟩ := fun o => h.cell (p := ⟨2, o, none⟩) t.z
  exact ⟨by have := h.size; have := t.z; omega, (k _).trans t.c0, (k _).trans t.d0, (k _).trans t.c1, (k _).trans t.d1, (k _).trans t.c2, (k _).trans t.d2, (k _).trans t.c3, (k _).trans t.d3, (k _).trans t.c4, (k _).trans t.d4, (k _).trans t.c5, (k _).trans t.d5, (k _).trans t.c6, (k _).trans t.d6, (k _).trans t.c7, (k _).trans t.d7, (k _).trans t.c8, (k _).trans t.d8⟩

theorem shape_0 (w : World) (h0 : 2 < w.heap.size) (hc : w.cell? ⟨2, 0, none⟩ = some (.int .i64 0)) (hd : w.cell? ⟨2, 1, none⟩ = some (.bool false)) :
    Calls Tryz.prog 90 #[.int .i64 0] w fun e w' => e = .returned (.agg #[.int .i64 0, .bool false]) ∧ Below w.heap.size w w' := by
  go_enter Tryz.func90, Tryz.ntmps90
  go_wp2
  exact bodyPost_ret (v := .agg #[.int .i64 0, .bool false]) (by simp [results, Tryz.results90, go_sem]) rfl ⟨rfl, (Below.refl _ _).alloc (Nat.le_refl _) _⟩

theorem shape_1 (w : World) (h0 : 2 < w.heap.size) (hc : w.cell? ⟨2, 2, none⟩ = some (.int .i64 0)) (hd : w.cell? ⟨2, 3, none⟩ = some (.bool false)) :
    Calls Tryz.prog 90 #[.int .i64 1] w fun e w' => e = .returned (.agg #[.int .i64 0, .bool false]) ∧ Below w.heap.size w w' := by
  go_enter Tryz.func90, Tryz.ntmps90
  go_wp2
  exact bodyPost_ret (v := .agg #[.int .i64 0, .bool false]) (by simp [results, Tryz.results90, go_sem]) rfl ⟨rfl, (Below.refl _ _).alloc (Nat.le_refl _) _⟩

theorem shape_2 (w : World) (h0 : 2 < w.heap.size) (hc : w.cell? ⟨2, 4, none⟩ = some (.int .i64 0)) (hd : w.cell? ⟨2, 5, none⟩ = some (.bool false)) :
    Calls Tryz.prog 90 #[.int .i64 2] w fun e w' => e = .returned (.agg #[.int .i64 0, .bool false]) ∧ Below w.heap.size w w' := by
  go_enter Tryz.func90, Tryz.ntmps90
  go_wp2
  exact bodyPost_ret (v := .agg #[.int .i64 0, .bool false]) (by simp [results, Tryz.results90, go_sem]) rfl ⟨rfl, (Below.refl _ _).alloc (Nat.le_refl _) _⟩

theorem shape_3 (w : World) (h0 : 2 < w.heap.size) (hc : w.cell? ⟨2, 6, none⟩ = some (.int .i64 8)) (hd : w.cell? ⟨2, 7, none⟩ = some (.bool true)) :
    Calls Tryz.prog 90 #[.int .i64 3] w fun e w' => e = .returned (.agg #[.int .i64 8, .bool true]) ∧ Below w.heap.size w w' := by
  go_enter Tryz.func90, Tryz.ntmps90
  go_wp2
  exact bodyPost_ret (v := .agg #[.int .i64 8, .bool true]) (by simp [results, Tryz.results90, go_sem]) rfl ⟨rfl, (Below.refl _ _).alloc (Nat.le_refl _) _⟩

theorem shape_4 (w : World) (h0 : 2 < w.heap.size) (hc : w.cell? ⟨2, 8, none⟩ = some (.int .i64 16)) (hd : w.cell? ⟨2, 9, none⟩ = some (.bool true)) :
    Calls Tryz.prog 90 #[.int .i64 4] w fun e w' => e = .returned (.agg #[.int .i64 16, .bool true]) ∧ Below w.heap.size w w' := by
  go_enter Tryz.func90, Tryz.ntmps90
  go_wp2
  exact bodyPost_ret (v := .agg #[.int .i64 16, .bool true]) (by simp [results, Tryz.results90, go_sem]) rfl ⟨rfl, (Below.refl _ _).alloc (Nat.le_refl _) _⟩

theorem shape_5 (w : World) (h0 : 2 < w.heap.size) (hc : w.cell? ⟨2, 10, none⟩ = some (.int .i64 32)) (hd : w.cell? ⟨2, 11, none⟩ = some (.bool true)) :
    Calls Tryz.prog 90 #[.int .i64 5] w fun e w' => e = .returned (.agg #[.int .i64 32, .bool true]) ∧ Below w.heap.size w w' := by
  go_enter Tryz.func90, Tryz.ntmps90
  go_wp2
  exact bodyPost_ret (v := .agg #[.int .i64 32, .bool true]) (by simp [results, Tryz.results90, go_sem]) rfl ⟨rfl, (Below.refl _ _).alloc (Nat.le_refl _) _⟩

theorem shape_6 (w : World) (h0 : 2 < w.heap.size) (hc : w.cell? ⟨2, 12, none⟩ = some (.int .i64 8)) (hd : w.cell? ⟨2, 13, none⟩ = some (.bool false)) :
    Calls Tryz.prog 90 #[.int .i64 6] w fun e w' => e = .returned (.agg #[.int .i64 8, .bool false]) ∧ Below w.heap.size w w' := by
  go_enter Tryz.func90, Tryz.ntmps90
  go_wp2
  exact bodyPost_ret (v := .agg #[.int .i64 8, .bool false]) (by simp [results, Tryz.results90, go_sem]) rfl ⟨rfl, (Below.refl _ _).alloc (Nat.le_refl _) _⟩

theorem shape_7 (w : World) (h0 : 2 < w.heap.size) (hc : w.cell? ⟨2, 14, none⟩ = some (.int .i64 16)) (hd : w.cell? ⟨2, 15, none⟩ = some (.bool false)) :
    Calls Tryz.prog 90 #[.int .i64 7] w fun e w' => e = .returned (.agg #[.int .i64 16, .bool false]) ∧ Below w.heap.size w w' := by
  go_enter Tryz.func90, Tryz.ntmps90
  go_wp2
  exact bodyPost_ret (v := .agg #[.int .i64 16, .bool false]) (by simp [results, Tryz.results90, go_sem]) rfl ⟨rfl, (Below.refl _ _).alloc (Nat.le_refl _) _⟩

theorem shape_8 (w : World) (h0 : 2 < w.heap.size) (hc : w.cell? ⟨2, 16, none⟩ = some (.int .i64 32)) (hd : w.cell? ⟨2, 17, none⟩ = some (.bool false)) :
    Calls Tryz.prog 90 #[.int .i64 8] w fun e w' => e = .returned (.agg #[.int .i64 32, .bool false]) ∧ Below w.heap.size w w' := by
  go_enter Tryz.func90, Tryz.ntmps90
  go_wp2
  exact bodyPost_ret (v := .agg #[.int .i64 32, .bool false]) (by simp [results, Tryz.results90, go_sem]) rfl ⟨rfl, (Below.refl _ _).alloc (Nat.le_refl _) _⟩

theorem shape_neg (k : Int) (w : World) (h : k < 0) :
    Calls Tryz.prog 90 #[.int .i64 k] w fun e w' => e = .returned (.agg #[.int .i64 0, .bool false]) ∧ Below w.heap.size w w' := by
  go_enter Tryz.func90, Tryz.ntmps90
  go_wp2
  exact bodyPost_ret (v := .agg #[.int .i64 0, .bool false]) (by simp [results, Tryz.results90, go_sem]) rfl ⟨rfl, (Below.refl _ _).alloc (Nat.le_refl _) _⟩

theorem shape_big (k : Int) (w : World) (h : 8 < k) :
    Calls Tryz.prog 90 #[.int .i64 k] w fun e w' => e = .returned (.agg #[.int .i64 0, .bool false]) ∧ Below w.heap.size w w' := by
  go_enter Tryz.func90, Tryz.ntmps90
  go_wp2
  exact bodyPost_ret (v := .agg #[.int .i64 0, .bool false]) (by simp [results, Tryz.results90, go_sem]) rfl ⟨rfl, (Below.refl _ _).alloc (Nat.le_refl _) _⟩

theorem shape_any {k n : Int} {s : Bool} (h : Sh k n s) (w : World) (t : Shp w) :
    Calls Tryz.prog 90 #[.int .i64 k] w fun e w' => e = .returned (.agg #[.int .i64 n, .bool s]) ∧ Below w.heap.size w w' := by
  unfold Sh at h
  rcases h with ⟨rfl, rfl, rfl⟩ | ⟨rfl, rfl, rfl⟩ | ⟨rfl, rfl, rfl⟩ | ⟨rfl, rfl, rfl⟩ | ⟨rfl, rfl, rfl⟩ | ⟨rfl, rfl, rfl⟩ | ⟨rfl, rfl, rfl⟩ | ⟨rfl, rfl, rfl⟩ | ⟨rfl, rfl, rfl⟩ | ⟨hk, rfl, rfl⟩ | ⟨hk, rfl, rfl⟩
  · exact shape_3 w t.z t.c3 t.d3
  · exact shape_4 w t.z t.c4 t.d4
  · exact shape_5 w t.z t.c5 t.d5
  · exact shape_6 w t.z t.c6 t.d6
  · exact shape_7 w t.z t.c7 t.d7
  · exact shape_8 w t.z t.c8 t.d8
  · exact shape_0 w t.z t.c0 t.d0
  · exact shape_1 w t.z t.c1 t.d1
  · exact shape_2 w t.z t.c2 t.d2
  · exact shape_neg k w hk
  · exact shape_big k w hk

set_option maxHeartbeats 400000 in
theorem bits_any {k n : Int} {s : Bool} (h : Sh k n s) (w : World) (t : Shp w) :
    Calls Tryz.prog 89 #[.int .i64 k] w fun e w' => e = .returned (.tuple #[.int .i64 n, .bool s]) ∧ Below w.heap.size w w' := by
  have H : Hid (Sh k n s) := h
  have T : Hid (Shp w) := t
  clear h t
  go_enter Tryz.func89, Tryz.ntmps89
  go_wp2_with (go_at_call 90; refine (shape_any H.out _ T.out).mono ?_; rintro e w1 ⟨rfl, hb⟩)
  go_quiet (fail)
  go_wp2
  go_ret2
  exact ⟨rfl, by have := (hb.alloc hb.size (Obj.cells #[Value.int IntKind.i64 n, Value.bool s] 133)); exact ⟨this.os, this.tape, this.output, this.size, this.block⟩⟩
set_option maxHeartbeats 400000 in
theorem int_yes {k n : Int} {s : Bool} (h : Sh k n s) (hn : 0 < n) (w : World) (t : Shp w) :
    Calls Tryz.prog 79 #[.int .i64 k] w fun e w' => e = .returned (.bool true) ∧ Below w.heap.size w w' := by
  have H : Hid (Sh k n s) := h
  have T : Hid (Shp w) := t
  clear h t
  go_enter Tryz.func79, Tryz.ntmps79
  go_wp2_with (go_at_call 90; refine (shape_any H.out _ T.out).mono ?_; rintro e w1 ⟨rfl, hb⟩)
  go_ret
  exact ⟨rfl, hb⟩
set_option maxHeartbeats 400000 in
theorem int_no {k : Int} (h : Sh k 0 false) (w : World) (t : Shp w) :
    Calls Tryz.prog 79 #[.int .i64 k] w fun e w' => e = .returned (.bool false) ∧ Below w.heap.size w w' := by
  have H : Hid (Sh k 0 false) := h
  have T : Hid (Shp w) := t
  clear h t
  go_enter Tryz.func79, Tryz.ntmps79
  go_wp2_with (go_at_call 90; refine (shape_any H.out _ T.out).mono ?_; rintro e w1 ⟨rfl, hb⟩)
  go_ret
  exact ⟨rfl, hb⟩

theorem belowN {W w1 w2 : World} (h1 : Below W.heap.size W w1) (h2 : Below w1.heap.size w1 w2) : Below W.heap.size W w2 := h1.trans (h2.mono h1.size)

set_option maxHeartbeats 800000 in
theorem range_no {k : Int} (h : Sh k 0 false) (w : World) (t : Shp w) :
    Calls Tryz.prog 78 #[.int .i64 k] w fun e w' => e = .returned (.tuple #[.int .i64 0, .int .i64 0]) ∧ Below w.heap.size w w' := by
  have H : Hid (Sh k 0 false) := h
  have T : Hid (Shp w) := t
  clear h t
  go_enter Tryz.func78, Tryz.ntmps78
  go_wp2_with (go_at_call 79; refine (int_no H.out _ T.out).mono ?_; rintro e w1 ⟨rfl, hb⟩)
  go_ret2
  exact ⟨rfl, hb⟩
set_option maxHeartbeats 800000 in
theorem range_3 (w : World) (t : Shp w) :
    Calls Tryz.prog 78 #[.int .i64 3] w fun e w' => e = .returned (.tuple #[.int .i64 (-128), .int .i64 127]) ∧ Below w.heap.size w w' := by
  have H : Hid (Sh 3 8 true) := by simp [Hid, Sh]
  have T : Hid (Shp w) := t
  clear t
  go_enter Tryz.func78, Tryz.ntmps78
  go_wp2_with (first | (go_at_call 79; refine (int_yes H.out (by decide) _ T.out).mono ?_; rintro e w1 ⟨rfl, hb⟩; have T1 : Hid (Shp w1) := T.out.below hb) | (go_at_call 89; refine (bits_any H.out _ T1.out).mono ?_; rintro e w2 ⟨rfl, hb2⟩))
  go_ret2
  exact ⟨rfl, (belowN hb hb2)⟩
set_option maxHeartbeats 800000 in
theorem range_4 (w : World) (t : Shp w) :
    Calls Tryz.prog 78 #[.int .i64 4] w fun e w' => e = .returned (.tuple #[.int .i64 (-32768), .int .i64 32767]) ∧ Below w.heap.size w w' := by
  have H : Hid (Sh 4 16 true) := by simp [Hid, Sh]
  have T : Hid (Shp w) := t
  clear t
  go_enter Tryz.func78, Tryz.ntmps78
  go_wp2_with (first | (go_at_call 79; refine (int_yes H.out (by decide) _ T.out).mono ?_; rintro e w1 ⟨rfl, hb⟩; have T1 : Hid (Shp w1) := T.out.below hb) | (go_at_call 89; refine (bits_any H.out _ T1.out).mono ?_; rintro e w2 ⟨rfl, hb2⟩))
  go_ret2
  exact ⟨rfl, (belowN hb hb2)⟩
set_option maxHeartbeats 800000 in
theorem range_5 (w : World) (t : Shp w) :
    Calls Tryz.prog 78 #[.int .i64 5] w fun e w' => e = .returned (.tuple #[.int .i64 (-2147483648), .int .i64 2147483647]) ∧ Below w.heap.size w w' := by
  have H : Hid (Sh 5 32 true) := by simp [Hid, Sh]
  have T : Hid (Shp w) := t
  clear t
  go_enter Tryz.func78, Tryz.ntmps78
  go_wp2_with (first | (go_at_call 79; refine (int_yes H.out (by decide) _ T.out).mono ?_; rintro e w1 ⟨rfl, hb⟩; have T1 : Hid (Shp w1) := T.out.below hb) | (go_at_call 89; refine (bits_any H.out _ T1.out).mono ?_; rintro e w2 ⟨rfl, hb2⟩))
  go_ret2
  exact ⟨rfl, (belowN hb hb2)⟩
set_option maxHeartbeats 800000 in
theorem range_6 (w : World) (t : Shp w) :
    Calls Tryz.prog 78 #[.int .i64 6] w fun e w' => e = .returned (.tuple #[.int .i64 (0), .int .i64 255]) ∧ Below w.heap.size w w' := by
  have H : Hid (Sh 6 8 false) := by simp [Hid, Sh]
  have T : Hid (Shp w) := t
  clear t
  go_enter Tryz.func78, Tryz.ntmps78
  go_wp2_with (first | (go_at_call 79; refine (int_yes H.out (by decide) _ T.out).mono ?_; rintro e w1 ⟨rfl, hb⟩; have T1 : Hid (Shp w1) := T.out.below hb) | (go_at_call 89; refine (bits_any H.out _ T1.out).mono ?_; rintro e w2 ⟨rfl, hb2⟩))
  go_quiet (fail)
  go_wp2
  go_ret2
  exact ⟨rfl, (by have z := belowN hb hb2; exact ⟨z.os, z.tape, z.output, z.size, z.block⟩)⟩
set_option maxHeartbeats 800000 in
theorem range_7 (w : World) (t : Shp w) :
    Calls Tryz.prog 78 #[.int .i64 7] w fun e w' => e = .returned (.tuple #[.int .i64 (0), .int .i64 65535]) ∧ Below w.heap.size w w' := by
  have H : Hid (Sh 7 16 false) := by simp [Hid, Sh]
  have T : Hid (Shp w) := t
  clear t
  go_enter Tryz.func78, Tryz.ntmps78
  go_wp2_with (first | (go_at_call 79; refine (int_yes H.out (by decide) _ T.out).mono ?_; rintro e w1 ⟨rfl, hb⟩; have T1 : Hid (Shp w1) := T.out.below hb) | (go_at_call 89; refine (bits_any H.out _ T1.out).mono ?_; rintro e w2 ⟨rfl, hb2⟩))
  go_quiet (fail)
  go_wp2
  go_ret2
  exact ⟨rfl, (by have z := belowN hb hb2; exact ⟨z.os, z.tape, z.output, z.size, z.block⟩)⟩
set_option maxHeartbeats 800000 in
theorem range_8 (w : World) (t : Shp w) :
    Calls Tryz.prog 78 #[.int .i64 8] w fun e w' => e = .returned (.tuple #[.int .i64 (0), .int .i64 4294967295]) ∧ Below w.heap.size w w' := by
  have H : Hid (Sh 8 32 false) := by simp [Hid, Sh]
  have T : Hid (Shp w) := t
  clear t
  go_enter Tryz.func78, Tryz.ntmps78
  go_wp2_with (first | (go_at_call 79; refine (int_yes H.out (by decide) _ T.out).mono ?_; rintro e w1 ⟨rfl, hb⟩; have T1 : Hid (Shp w1) := T.out.below hb) | (go_at_call 89; refine (bits_any H.out _ T1.out).mono ?_; rintro e w2 ⟨rfl, hb2⟩))
  go_quiet (fail)
  go_wp2
  go_ret2
  exact ⟨rfl, (by have z := belowN hb hb2; exact ⟨z.os, z.tape, z.output, z.size, z.block⟩)⟩

theorem range_any {k l m : Int} (h : Rg k l m) (w : World) (t : Shp w) :
    Calls Tryz.prog 78 #[.int .i64 k] w fun e w' => e = .returned (.tuple #[.int .i64 l, .int .i64 m]) ∧ Below w.heap.size w w' := by
  unfold Rg at h
  rcases h with ⟨rfl, rfl, rfl⟩ | ⟨rfl, rfl, rfl⟩ | ⟨rfl, rfl, rfl⟩ | ⟨rfl, rfl, rfl⟩ | ⟨rfl, rfl, rfl⟩ | ⟨rfl, rfl, rfl⟩ | ⟨hk, rfl, rfl⟩
  · exact range_3 w t
  · exact range_4 w t
  · exact range_5 w t
  · exact range_6 w t
  · exact range_7 w t
  · exact range_8 w t
  · exact range_no (by simp [Sh]; omega) w t


/-- The range of a kind, (0, 0) where it is no integer. -/
theorem range_c (k : Int) : ∃ l m, Rg k l m ∧ ∀ w, Shp w → Calls Tryz.prog 78 #[.int .i64 k] w fun e w' => e = .returned (.tuple #[.int .i64 l, .int .i64 m]) ∧ Below w.heap.size w w' := by
  obtain ⟨l, m, h⟩ := Rg.ex k
  exact ⟨l, m, h, fun w t => range_any h w t⟩

theorem int_c (k : Int) (w : World) (t : Shp w) : Calls Tryz.prog 79 #[.int .i64 k] w fun e w' => e = .returned (.bool (decide (3 ≤ k ∧ k ≤ 8))) ∧ Below w.heap.size w w' := by
  obtain ⟨n, s, h⟩ := Sh.ex k
  by_cases hk : 3 ≤ k ∧ k ≤ 8
  · rw [decide_eq_true hk]
    exact int_yes h (by simp [Sh] at h; omega) w t
  · rw [decide_eq_false hk]
    exact int_no (by simp [Sh]; omega) w t

end Go.Proofs.YtjdkoahbahecoaaGreatDoor
