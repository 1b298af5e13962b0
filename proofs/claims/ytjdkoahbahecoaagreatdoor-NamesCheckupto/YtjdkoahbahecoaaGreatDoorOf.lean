/-
  Proved: (types.scale).of tells how much a type has, in whatever room; so do types.Words and types.Copy.
-/
import Derived.Test.YtjdkoahbahecoaaGreatDoorNamed
namespace Go.Proofs.YtjdkoahbahecoaaGreatDoor
open Go.RowKit

/-- What lies in the call's own blocks. -/
def OwnO (w : World) (A : Option Addr) (l C : Nat) (k : Int) (s : ByteArray) (n : Int) (EA : Option Addr) (el EC : Nat) (w' : World) : Prop :=
  Below w.heap.size w w' ∧ At w' w.heap.size #[.slice A l C] 125 ∧ At w' (w.heap.size + 1) #[.int .i64 k, .string s, .int .i64 n, .slice EA el EC] 25 ∧ ∃ x y z, At w' (w.heap.size + 2) #[x, y, z] 113

theorem OwnO.next {w : World} {A : Option Addr} {l C : Nat} {k : Int} {s : ByteArray} {n : Int} {EA : Option Addr} {el EC : Nat} {w' w'' : World} (h : OwnO w A l C k s n EA el EC w') (hb : Below w'.heap.size w' w'') : OwnO w A l C k s n EA el EC w'' := by
  obtain ⟨h1, h2, h3, x, y, z, h4⟩ := h
  exact ⟨h1.trans (hb.mono h1.size), h2.below hb h2.lt, h3.below hb h3.lt, x, y, z, h4.below hb h4.lt⟩

theorem OwnO.put {w : World} {A : Option Addr} {l C : Nat} {k : Int} {s : ByteArray} {n : Int} {EA : Option Addr} {el EC : Nat} {w' : World} (h : OwnO w A l C k s n EA el EC w') (x y z : Value) : OwnO w A l C k s n EA el EC (((w'.setCell ⟨w.heap.size + 2, 0, none⟩ x).setCell ⟨w.heap.size + 2, 1, none⟩ y).setCell ⟨w.heap.size + 2, 2, none⟩ z) := by
  obtain ⟨h1, h2, h3, _, _, _, h4⟩ := h
  exact ⟨below_set3 h1 (by omega) _ _ _, h2.far3 (by omega) _ _ _, h3.far3 (by omega) _ _ _, _, _, _, h4.set3 _ _ _⟩

theorem own_of (w : World) (A : Option Addr) (l C : Nat) (k : Int) (s : ByteArray) (n : Int) (EA : Option Addr) (el EC : Nat) (w' : World)
    (hw : Below (((w.alloc (.cells #[.slice A l C] 125)).alloc (.cells #[.int .i64 k, .string s, .int .i64 n, .slice EA el EC] 25)).alloc (.cells #[.int .i64 0, .int .i64 0, .int .i64 0] 113)).heap.size (((w.alloc (.cells #[.slice A l C] 125)).alloc (.cells #[.int .i64 k, .string s, .int .i64 n, .slice EA el EC] 25)).alloc (.cells #[.int .i64 0, .int .i64 0, .int .i64 0] 113)) w') : OwnO w A l C k s n EA el EC w' := by
  refine OwnO.next (w' := (((w.alloc (.cells #[.slice A l C] 125)).alloc (.cells #[.int .i64 k, .string s, .int .i64 n, .slice EA el EC] 25)).alloc (.cells #[.int .i64 0, .int .i64 0, .int .i64 0] 113))) ⟨three_alloc _ _ _ _, ((At.new _ _ _).alloc _).alloc _, ?_, .int .i64 0, .int .i64 0, .int .i64 0, ?_⟩ hw
  · have := (At.new (w.alloc (.cells #[.slice A l C] 125)) #[.int .i64 k, .string s, .int .i64 n, .slice EA el EC] 25).alloc (.cells #[.int .i64 0, .int .i64 0, .int .i64 0] 113)
    simpa using this
  · have := At.new ((w.alloc (.cells #[.slice A l C] 125)).alloc (.cells #[.int .i64 k, .string s, .int .i64 n, .slice EA el EC] 25)) #[.int .i64 0, .int .i64 0, .int .i64 0] 113
    simpa using this

set_option maxRecDepth 100000 in
set_option maxHeartbeats 4000000 in
theorem of_array (l C : Nat) (A : Option Addr) (s : ByteArray) (n : Int) (eb eo el EC : Nat) (hel : 0 < el) (room : Nat) (hr1 : 1 ≤ room) (w : World) (k2 : Int) (s2 : ByteArray) (n2 : Int) (EA2 : Option Addr) (el2 EC2 : Nat) (rp rn rm : Int)
    (RW : Hid (∀ w', Below w.heap.size w w' → w'.cell? ⟨eb, eo, none⟩ = some (.int .i64 k2) ∧ w'.cell? ⟨eb, eo + 1, none⟩ = some (.string s2) ∧ w'.cell? ⟨eb, eo + 2, none⟩ = some (.int .i64 n2) ∧ w'.cell? ⟨eb, eo + 3, none⟩ = some (.slice EA2 el2 EC2)))
    (AR : Hid (∀ w', Below w.heap.size w w' → Calls Tryz.prog 92 #[.agg #[.slice A l C], .int .i64 n, .agg #[.int .i64 k2, .string s2, .int .i64 n2, .slice EA2 el2 EC2], .int .i64 (room : Int)] w' fun e w'' => e = .returned (.agg #[.int .i64 rp, .int .i64 rn, .int .i64 rm]) ∧ Below w'.heap.size w' w'')) :
    Calls Tryz.prog 82 #[.agg #[.slice A l C], .agg #[.int .i64 10, .string s, .int .i64 n, .slice (some ⟨eb, eo, none⟩) el EC], .int .i64 (room : Int)] w
      fun e' w' => e' = .returned (.agg #[.int .i64 rp, .int .i64 rn, .int .i64 rm]) ∧ Below w.heap.size w w' := by
  have hel' : (0 : Int) < (el : Int) := by omega
  have hel0 : ¬ el = 0 := by omega
  have hr' : ¬ (room : Int) < 1 := by omega
  have SI : Hid (∀ w', OwnO w A l C 10 s n (some ⟨eb, eo, none⟩) el EC w' → w'.cell? ⟨w.heap.size, 0, none⟩ = some (.slice A l C) ∧ w'.cell? ⟨w.heap.size + 1, 2, none⟩ = some (.int .i64 n) ∧ w'.cell? ⟨w.heap.size + 1, 3, none⟩ = some (.slice (some ⟨eb, eo, none⟩) el EC) ∧ w'.cell? ⟨eb, eo, none⟩ = some (.int .i64 k2) ∧ w'.cell? ⟨eb, eo + 1, none⟩ = some (.string s2) ∧ w'.cell? ⟨eb, eo + 2, none⟩ = some (.int .i64 n2) ∧ w'.cell? ⟨eb, eo + 3, none⟩ = some (.slice EA2 el2 EC2) ∧ Hid (OwnO w A l C 10 s n (some ⟨eb, eo, none⟩) el EC w')) := fun w' h =>
    ⟨(h.2.1.cell 0).trans rfl, (h.2.2.1.cell 2).trans rfl, (h.2.2.1.cell 3).trans rfl, (RW.out w' h.1).1, (RW.out w' h.1).2.1, (RW.out w' h.1).2.2.1, (RW.out w' h.1).2.2.2, h⟩
  go_enter Tryz.func82, Tryz.ntmps82
  go_wp2
  obtain ⟨w3, hw3⟩ : ∃ w3, (((w.alloc (.cells #[.slice A l C] 125)).alloc (.cells #[.int .i64 10, .string s, .int .i64 n, .slice (some ⟨eb, eo, none⟩) el EC] 25)).alloc (.cells #[.int .i64 0, .int .i64 0, .int .i64 0] 113)) = w3 := ⟨_, rfl⟩
  have O1 : Hid (OwnO w A l C 10 s n (some ⟨eb, eo, none⟩) el EC w3) := by subst hw3; exact own_of _ _ _ _ _ _ _ _ _ _ _ (Below.refl _ _)
  rw [hw3]
  clear hw3
  have OO := O1
  go_region_held3 (fun w' => w'.cell? ⟨w.heap.size, 0, none⟩ = some (.slice A l C) ∧ w'.cell? ⟨w.heap.size + 1, 2, none⟩ = some (.int .i64 n) ∧ w'.cell? ⟨w.heap.size + 1, 3, none⟩ = some (.slice (some ⟨eb, eo, none⟩) el EC) ∧ w'.cell? ⟨eb, eo, none⟩ = some (.int .i64 k2) ∧ w'.cell? ⟨eb, eo + 1, none⟩ = some (.string s2) ∧ w'.cell? ⟨eb, eo + 2, none⟩ = some (.int .i64 n2) ∧ w'.cell? ⟨eb, eo + 3, none⟩ = some (.slice EA2 el2 EC2) ∧ Hid (OwnO w A l C 10 s n (some ⟨eb, eo, none⟩) el EC w'))
    (first
      | with_reducible exact SI.out _ (O1.out.next ((Below.refl _ _).drew))
      | with_reducible exact SI.out _ OO.out
      | with_reducible exact SI.out _ (OO.out.put _ _ _))
    (first
      | (go_at_call 92; refine (AR.out _ (O1.out.next ((Below.refl _ _).drew)).1).mono ?_; rintro e' w4 ⟨rfl, hb1⟩; have OO : Hid (OwnO w A l C 10 s n (some ⟨eb, eo, none⟩) el EC w4) := (O1.out.next ((Below.refl _ _).drew)).next hb1; obtain ⟨x0, x1, x2, hx⟩ := OO.out.2.2.2; have HX : Hid (At w4 (w.heap.size + 2) #[x0, x1, x2] 113) := hx; obtain ⟨⟨s0, s1, s2⟩, ⟨y0, y1, y2⟩, sz⟩ := cells3 hx; clear hb1 hx))
  all_goals (go_wp2_with fail)
  all_goals (
    have hA := HX.out.set3 (.int .i64 rp) (.int .i64 rn) (.int .i64 rm)
    obtain ⟨⟨k0, k1, k2⟩, _, _⟩ := cells3 hA
    refine bodyPost_ret (v := .agg #[.int .i64 rp, .int .i64 rn, .int .i64 rm]) (by simp [results, Tryz.results82, go_sem, k0, k1, k2]) rfl ⟨rfl, ?_⟩
    exact (OO.out.put _ _ _).1)


set_option maxRecDepth 100000 in
set_option maxHeartbeats 4000000 in
theorem of_room (l C : Nat) (A : Option Addr) (k : Int) (s : ByteArray) (n : Int) (EA : Option Addr) (el EC : Nat) (room : Nat) (w : World) (ht : Tab w) (hr : room < 1) :
    Calls Tryz.prog 82 #[.agg #[.slice A l C], .agg #[.int .i64 k, .string s, .int .i64 n, .slice EA el EC], .int .i64 (room : Int)] w
      fun e' w' => e' = .returned (.agg #[.int .i64 513, .int .i64 0, .int .i64 0]) ∧ Below w.heap.size w w' := by
  have t0 := ht.c0
  have t1 := ht.c1
  have t2 := ht.c2
  have tz := ht.z
  have tz0 : 0 < w.heap.size := by omega
  have hr' : (room : Int) < 1 := by omega
  go_enter Tryz.func82, Tryz.ntmps82
  go_wp2
  all_goals (
    refine bodyPost_ret (v := .agg #[.int .i64 513, .int .i64 0, .int .i64 0]) (by simp [results, Tryz.results82, go_sem]) rfl ⟨rfl, ?_⟩
    exact three_alloc _ _ _ _)

set_option maxRecDepth 100000 in
set_option maxHeartbeats 4000000 in
theorem of_unit (l C : Nat) (A : Option Addr) (k : Int) (s : ByteArray) (n : Int) (EA : Option Addr) (el EC : Nat) (room : Nat) (w : World) (hr : 1 ≤ room) (hk : k = 1) :
    Calls Tryz.prog 82 #[.agg #[.slice A l C], .agg #[.int .i64 k, .string s, .int .i64 n, .slice EA el EC], .int .i64 (room : Int)] w
      fun e' w' => e' = .returned (.agg #[.int .i64 1, .int .i64 0, .int .i64 0]) ∧ Below w.heap.size w w' := by
  have hr' : ¬ (room : Int) < 1 := by omega
  subst hk
  go_enter Tryz.func82, Tryz.ntmps82
  go_wp2
  all_goals (
    refine bodyPost_ret (v := .agg #[.int .i64 1, .int .i64 0, .int .i64 0]) (by simp [results, Tryz.results82, go_sem]) rfl ⟨rfl, ?_⟩
    exact three_alloc _ _ _ _)

set_option maxRecDepth 100000 in
set_option maxHeartbeats 4000000 in
theorem of_word (l C : Nat) (A : Option Addr) (k : Int) (s : ByteArray) (n : Int) (EA : Option Addr) (el EC : Nat) (room : Nat) (w : World) (hr : 1 ≤ room) (hk : 2 ≤ k) (hk' : k ≤ 8) :
    Calls Tryz.prog 82 #[.agg #[.slice A l C], .agg #[.int .i64 k, .string s, .int .i64 n, .slice EA el EC], .int .i64 (room : Int)] w
      fun e' w' => e' = .returned (.agg #[.int .i64 1, .int .i64 1, .int .i64 0]) ∧ Below w.heap.size w w' := by
  have hr' : ¬ (room : Int) < 1 := by omega
  have g1 : ¬ k = 1 := by omega
  have f1 : (k == 1) = false := by simpa using g1
  go_enter Tryz.func82, Tryz.ntmps82
  go_wp2
  all_goals (
    refine bodyPost_ret (v := .agg #[.int .i64 1, .int .i64 1, .int .i64 0]) (by simp [results, Tryz.results82, go_sem]) rfl ⟨rfl, ?_⟩
    exact three_alloc _ _ _ _)

set_option maxRecDepth 100000 in
set_option maxHeartbeats 4000000 in
theorem of_bare_lo (l C : Nat) (A : Option Addr) (k : Int) (s : ByteArray) (n : Int) (EA : Option Addr) (el EC : Nat) (room : Nat) (w : World) (ht : Tab w) (hr : 1 ≤ room) (hk1 : ¬ k = 1) (hge : ¬ 2 ≤ k) (hk9 : ¬ k = 9) (hel : el = 0) :
    Calls Tryz.prog 82 #[.agg #[.slice A l C], .agg #[.int .i64 k, .string s, .int .i64 n, .slice EA el EC], .int .i64 (room : Int)] w
      fun e' w' => e' = .returned (.agg #[.int .i64 513, .int .i64 0, .int .i64 0]) ∧ Below w.heap.size w w' := by
  have t0 := ht.c0
  have t1 := ht.c1
  have t2 := ht.c2
  have tz := ht.z
  have tz0 : 0 < w.heap.size := by omega
  have hr' : ¬ (room : Int) < 1 := by omega
  subst hel
  have g1 : ¬ k = 1 := by omega
  have f1 : (k == 1) = false := by simpa using g1
  have g9 : ¬ k = 9 := by omega
  have f9 : (k == 9) = false := by simpa using g9
  go_enter Tryz.func82, Tryz.ntmps82
  go_wp2
  all_goals (
    refine bodyPost_ret (v := .agg #[.int .i64 513, .int .i64 0, .int .i64 0]) (by simp [results, Tryz.results82, go_sem]) rfl ⟨rfl, ?_⟩
    exact three_alloc _ _ _ _)

set_option maxRecDepth 100000 in
set_option maxHeartbeats 4000000 in
theorem of_bare_hi (l C : Nat) (A : Option Addr) (k : Int) (s : ByteArray) (n : Int) (EA : Option Addr) (el EC : Nat) (room : Nat) (w : World) (ht : Tab w) (hr : 1 ≤ room) (hk1 : ¬ k = 1) (hge : 2 ≤ k) (hle : ¬ k ≤ 8) (hk9 : ¬ k = 9) (hel : el = 0) :
    Calls Tryz.prog 82 #[.agg #[.slice A l C], .agg #[.int .i64 k, .string s, .int .i64 n, .slice EA el EC], .int .i64 (room : Int)] w
      fun e' w' => e' = .returned (.agg #[.int .i64 513, .int .i64 0, .int .i64 0]) ∧ Below w.heap.size w w' := by
  have t0 := ht.c0
  have t1 := ht.c1
  have t2 := ht.c2
  have tz := ht.z
  have tz0 : 0 < w.heap.size := by omega
  have hr' : ¬ (room : Int) < 1 := by omega
  subst hel
  have g1 : ¬ k = 1 := by omega
  have f1 : (k == 1) = false := by simpa using g1
  have g9 : ¬ k = 9 := by omega
  have f9 : (k == 9) = false := by simpa using g9
  go_enter Tryz.func82, Tryz.ntmps82
  go_wp2
  all_goals (
    refine bodyPost_ret (v := .agg #[.int .i64 513, .int .i64 0, .int .i64 0]) (by simp [results, Tryz.results82, go_sem]) rfl ⟨rfl, ?_⟩
    exact three_alloc _ _ _ _)

set_option maxRecDepth 100000 in
set_option maxHeartbeats 4000000 in
theorem of_ref (l C : Nat) (A : Option Addr) (k : Int) (s : ByteArray) (n : Int) (EA : Option Addr) (el EC : Nat) (room : Nat) (w : World) (hr : 1 ≤ room) (hk : k = 12) (hel : 0 < el) :
    Calls Tryz.prog 82 #[.agg #[.slice A l C], .agg #[.int .i64 k, .string s, .int .i64 n, .slice EA el EC], .int .i64 (room : Int)] w
      fun e' w' => e' = .returned (.agg #[.int .i64 1, .int .i64 1, .int .i64 0]) ∧ Below w.heap.size w w' := by
  have hr' : ¬ (room : Int) < 1 := by omega
  have hel' : (0 : Int) < (el : Int) := by omega
  have hel0 : ¬ el = 0 := by omega
  subst hk
  go_enter Tryz.func82, Tryz.ntmps82
  go_wp2
  all_goals (
    refine bodyPost_ret (v := .agg #[.int .i64 1, .int .i64 1, .int .i64 0]) (by simp [results, Tryz.results82, go_sem]) rfl ⟨rfl, ?_⟩
    exact three_alloc _ _ _ _)

set_option maxRecDepth 100000 in
set_option maxHeartbeats 4000000 in
theorem of_box (l C : Nat) (A : Option Addr) (k : Int) (s : ByteArray) (n : Int) (EA : Option Addr) (el EC : Nat) (room : Nat) (w : World) (hr : 1 ≤ room) (hk : k = 11) (hel : 0 < el) :
    Calls Tryz.prog 82 #[.agg #[.slice A l C], .agg #[.int .i64 k, .string s, .int .i64 n, .slice EA el EC], .int .i64 (room : Int)] w
      fun e' w' => e' = .returned (.agg #[.int .i64 1, .int .i64 1, .int .i64 1]) ∧ Below w.heap.size w w' := by
  have hr' : ¬ (room : Int) < 1 := by omega
  have hel' : (0 : Int) < (el : Int) := by omega
  have hel0 : ¬ el = 0 := by omega
  subst hk
  go_enter Tryz.func82, Tryz.ntmps82
  go_wp2
  all_goals (
    refine bodyPost_ret (v := .agg #[.int .i64 1, .int .i64 1, .int .i64 1]) (by simp [results, Tryz.results82, go_sem]) rfl ⟨rfl, ?_⟩
    exact three_alloc _ _ _ _)

set_option maxRecDepth 100000 in
set_option maxHeartbeats 4000000 in
theorem of_mut (l C : Nat) (A : Option Addr) (k : Int) (s : ByteArray) (n : Int) (EA : Option Addr) (el EC : Nat) (room : Nat) (w : World) (hr : 1 ≤ room) (hk : k = 13) (hel : 0 < el) :
    Calls Tryz.prog 82 #[.agg #[.slice A l C], .agg #[.int .i64 k, .string s, .int .i64 n, .slice EA el EC], .int .i64 (room : Int)] w
      fun e' w' => e' = .returned (.agg #[.int .i64 1, .int .i64 1, .int .i64 1]) ∧ Below w.heap.size w w' := by
  have hr' : ¬ (room : Int) < 1 := by omega
  have hel' : (0 : Int) < (el : Int) := by omega
  have hel0 : ¬ el = 0 := by omega
  subst hk
  go_enter Tryz.func82, Tryz.ntmps82
  go_wp2
  all_goals (
    refine bodyPost_ret (v := .agg #[.int .i64 1, .int .i64 1, .int .i64 1]) (by simp [results, Tryz.results82, go_sem]) rfl ⟨rfl, ?_⟩
    exact three_alloc _ _ _ _)

set_option maxRecDepth 100000 in
set_option maxHeartbeats 4000000 in
theorem of_odd_lo (l C : Nat) (A : Option Addr) (k : Int) (s : ByteArray) (n : Int) (EA : Option Addr) (el EC : Nat) (room : Nat) (w : World) (ht : Tab w) (hr : 1 ≤ room) (hk1 : ¬ k = 1) (hge : ¬ 2 ≤ k) (hk9 : ¬ k = 9) (hka : ¬ k = 10) (hkb : ¬ k = 11) (hkc : ¬ k = 12) (hkd : ¬ k = 13) (hel : 0 < el) :
    Calls Tryz.prog 82 #[.agg #[.slice A l C], .agg #[.int .i64 k, .string s, .int .i64 n, .slice EA el EC], .int .i64 (room : Int)] w
      fun e' w' => e' = .returned (.agg #[.int .i64 513, .int .i64 0, .int .i64 0]) ∧ Below w.heap.size w w' := by
  have t0 := ht.c0
  have t1 := ht.c1
  have t2 := ht.c2
  have tz := ht.z
  have tz0 : 0 < w.heap.size := by omega
  have hr' : ¬ (room : Int) < 1 := by omega
  have hel' : (0 : Int) < (el : Int) := by omega
  have hel0 : ¬ el = 0 := by omega
  have g1 : ¬ k = 1 := by omega
  have f1 : (k == 1) = false := by simpa using g1
  have g9 : ¬ k = 9 := by omega
  have f9 : (k == 9) = false := by simpa using g9
  have g10 : ¬ k = 10 := by omega
  have f10 : (k == 10) = false := by simpa using g10
  have g11 : ¬ k = 11 := by omega
  have f11 : (k == 11) = false := by simpa using g11
  have g12 : ¬ k = 12 := by omega
  have f12 : (k == 12) = false := by simpa using g12
  have g13 : ¬ k = 13 := by omega
  have f13 : (k == 13) = false := by simpa using g13
  go_enter Tryz.func82, Tryz.ntmps82
  go_wp2
  all_goals (
    refine bodyPost_ret (v := .agg #[.int .i64 513, .int .i64 0, .int .i64 0]) (by simp [results, Tryz.results82, go_sem]) rfl ⟨rfl, ?_⟩
    exact three_alloc _ _ _ _)

set_option maxRecDepth 100000 in
set_option maxHeartbeats 4000000 in
theorem of_odd_hi (l C : Nat) (A : Option Addr) (k : Int) (s : ByteArray) (n : Int) (EA : Option Addr) (el EC : Nat) (room : Nat) (w : World) (ht : Tab w) (hr : 1 ≤ room) (hk1 : ¬ k = 1) (hge : 2 ≤ k) (hle : ¬ k ≤ 8) (hk9 : ¬ k = 9) (hka : ¬ k = 10) (hkb : ¬ k = 11) (hkc : ¬ k = 12) (hkd : ¬ k = 13) (hel : 0 < el) :
    Calls Tryz.prog 82 #[.agg #[.slice A l C], .agg #[.int .i64 k, .string s, .int .i64 n, .slice EA el EC], .int .i64 (room : Int)] w
      fun e' w' => e' = .returned (.agg #[.int .i64 513, .int .i64 0, .int .i64 0]) ∧ Below w.heap.size w w' := by
  have t0 := ht.c0
  have t1 := ht.c1
  have t2 := ht.c2
  have tz := ht.z
  have tz0 : 0 < w.heap.size := by omega
  have hr' : ¬ (room : Int) < 1 := by omega
  have hel' : (0 : Int) < (el : Int) := by omega
  have hel0 : ¬ el = 0 := by omega
  have g1 : ¬ k = 1 := by omega
  have f1 : (k == 1) = false := by simpa using g1
  have g9 : ¬ k = 9 := by omega
  have f9 : (k == 9) = false := by simpa using g9
  have g10 : ¬ k = 10 := by omega
  have f10 : (k == 10) = false := by simpa using g10
  have g11 : ¬ k = 11 := by omega
  have f11 : (k == 11) = false := by simpa using g11
  have g12 : ¬ k = 12 := by omega
  have f12 : (k == 12) = false := by simpa using g12
  have g13 : ¬ k = 13 := by omega
  have f13 : (k == 13) = false := by simpa using g13
  go_enter Tryz.func82, Tryz.ntmps82
  go_wp2
  all_goals (
    refine bodyPost_ret (v := .agg #[.int .i64 513, .int .i64 0, .int .i64 0]) (by simp [results, Tryz.results82, go_sem]) rfl ⟨rfl, ?_⟩
    exact three_alloc _ _ _ _)

set_option maxRecDepth 100000 in
set_option maxHeartbeats 4000000 in
theorem of_named (l C : Nat) (A : Option Addr) (s : ByteArray) (n : Int) (EA : Option Addr) (el EC : Nat) (room : Nat) (hr : 1 ≤ room) (w : World) (rp rn rm : Int)
    (NM : Hid (∀ w', Below w.heap.size w w' → Calls Tryz.prog 91 #[.agg #[.slice A l C], .string s, .int .i64 (room : Int)] w' fun e w'' => e = .returned (.agg #[.int .i64 rp, .int .i64 rn, .int .i64 rm]) ∧ Below w'.heap.size w' w'')) :
    Calls Tryz.prog 82 #[.agg #[.slice A l C], .agg #[.int .i64 9, .string s, .int .i64 n, .slice EA el EC], .int .i64 (room : Int)] w
      fun e' w' => e' = .returned (.agg #[.int .i64 rp, .int .i64 rn, .int .i64 rm]) ∧ Below w.heap.size w w' := by
  have hr' : ¬ (room : Int) < 1 := by omega
  have HW3 : Hid (∀ a b c, Below w.heap.size w (((w.alloc a).alloc b).alloc c)) := three_alloc w
  have OWN : Hid (∀ w', Below (((w.alloc (.cells #[.slice A l C] 125)).alloc (.cells #[.int .i64 9, .string s, .int .i64 n, .slice EA el EC] 25)).alloc (.cells #[.int .i64 0, .int .i64 0, .int .i64 0] 113)).heap.size (((w.alloc (.cells #[.slice A l C] 125)).alloc (.cells #[.int .i64 9, .string s, .int .i64 n, .slice EA el EC] 25)).alloc (.cells #[.int .i64 0, .int .i64 0, .int .i64 0] 113)) w' → OwnO w A l C 9 s n EA el EC w') := own_of w A l C 9 s n EA el EC
  go_enter Tryz.func82, Tryz.ntmps82
  go_wp2_with (go_at_call 91; refine (NM.out _ (HW3.out _ _ _)).mono ?_; rintro e' w4 ⟨rfl, hb1⟩; have OO : Hid (OwnO w A l C 9 s n EA el EC w4) := OWN.out _ hb1; obtain ⟨x0, x1, x2, hx⟩ := OO.out.2.2.2; have HX : Hid (At w4 (w.heap.size + 2) #[x0, x1, x2] 113) := hx; obtain ⟨⟨s0, s1, s2⟩, ⟨y0, y1, y2⟩, sz⟩ := cells3 hx; clear hb1 hx)
  have hA := HX.out.set3 (.int .i64 rp) (.int .i64 rn) (.int .i64 rm)
  obtain ⟨⟨k0, k1, k2⟩, _, _⟩ := cells3 hA
  refine bodyPost_ret (v := .agg #[.int .i64 rp, .int .i64 rn, .int .i64 rm]) (by simp [results, Tryz.results82, go_sem, k0, k1, k2]) rfl ⟨rfl, ?_⟩
  exact (OO.out.put _ _ _).1

theorem of_step (is : List It) (N : Nat) (hN : N + 1 ≤ 512) (ih : OfC is N) : OfC is (N + 1) := by
  intro room t w cs A C hrN ht hi hx
  obtain ⟨k, s, n, es⟩ := t
  obtain ⟨EA, EC, rfl, hes⟩ := hx.inv
  rw [am_succ]
  by_cases hr : room < 1
  · rw [if_pos hr]; exact of_room is.length C A k s n EA es.length EC room w ht hr
  rw [if_neg hr]
  have hr1 : 1 ≤ room := by omega
  by_cases hk1 : k = 1
  · rw [if_pos hk1]; exact of_unit is.length C A k s n EA es.length EC room w hr1 hk1
  rw [if_neg hk1]
  by_cases hk2 : 2 ≤ k ∧ k ≤ 8
  · rw [if_pos hk2]; exact of_word is.length C A k s n EA es.length EC room w hr1 hk2.1 hk2.2
  rw [if_neg hk2]
  by_cases hk9 : k = 9
  · subst hk9
    rw [if_pos rfl]
    obtain ⟨rp, rn, rm, hX⟩ := amV_agg (nam is N s room)
    have := of_named is.length C A s n EA es.length EC room hr1 w rp rn rm (fun w' hw => by rw [← hX]; exact named_c is N ih room hr1 hrN (by omega) s A C w' (ht.below hw) (hi.below hw))
    rw [← hX] at this
    exact this
  rw [if_neg hk9]
  cases es with
  | nil =>
    by_cases hge : 2 ≤ k
    · exact of_bare_hi is.length C A k s n EA 0 EC room w ht hr1 hk1 hge (fun h => hk2 ⟨hge, h⟩) hk9 rfl
    · exact of_bare_lo is.length C A k s n EA 0 EC room w ht hr1 hk1 hge hk9 rfl
  | cons e es =>
    have hel : 0 < (e :: es).length := by simp
    obtain ⟨eb, eo, cs2, rfl, hrow, hte⟩ := hes.2 0 hel
    by_cases hka : k = 10
    · subst hka
      simp only [if_true]
      obtain ⟨k2, s2, n2, es2⟩ := e
      have hte' : TIn w (.mk k2 s2 n2 es2) cs2 := hte
      obtain ⟨EA2, EC2, rfl, _⟩ := hte'.inv
      obtain ⟨rp, rn, rm, hX⟩ := amV_agg (arr is N n (.mk k2 s2 n2 es2) room)
      have h1 := of_array is.length C A s n eb eo ((T.mk k2 s2 n2 es2) :: es).length EC hel room hr1 w k2 s2 n2 EA2 es2.length EC2 rp rn rm
        (fun w' hw => by
          have h := hrow.below hw
          refine ⟨?_, ?_, ?_, ?_⟩
          · simpa using h.2 0 _ rfl
          · simpa using h.2 1 _ rfl
          · simpa using h.2 2 _ rfl
          · simpa using h.2 3 _ rfl)
        (fun w' hw => by rw [← hX]; exact array_c is N ih room hr1 hrN (by omega) n (.mk k2 s2 n2 es2) _ A C w' (ht.below hw) (hi.below hw) (hte'.stays hw))
      rw [← hX] at h1
      exact h1
    · by_cases hkc : k = 12
      · simp only [if_neg hka, if_pos hkc]
        exact of_ref is.length C A k s n _ (e :: es).length EC room w hr1 hkc hel
      · by_cases hkb : k = 11
        · simp only [if_neg hka, if_neg hkc, if_pos (Or.inl hkb : k = 11 ∨ k = 13)]
          exact of_box is.length C A k s n _ (e :: es).length EC room w hr1 hkb hel
        · by_cases hkd : k = 13
          · simp only [if_neg hka, if_neg hkc, if_pos (Or.inr hkd : k = 11 ∨ k = 13)]
            exact of_mut is.length C A k s n _ (e :: es).length EC room w hr1 hkd hel
          · simp only [if_neg hka, if_neg hkc, if_neg (fun h : k = 11 ∨ k = 13 => h.elim hkb hkd)]
            by_cases hge : 2 ≤ k
            · exact of_odd_hi is.length C A k s n _ (e :: es).length EC room w ht hr1 hk1 hge (fun h => hk2 ⟨hge, h⟩) hk9 hka hkb hkc hkd hel
            · exact of_odd_lo is.length C A k s n _ (e :: es).length EC room w ht hr1 hk1 hge hk9 hka hkb hkc hkd hel

theorem of_zero (is : List It) : OfC is 0 := by
  intro room t w cs A C hr ht _ hx
  obtain ⟨k, s, n, es⟩ := t
  obtain ⟨EA, EC, rfl, _⟩ := hx.inv
  exact of_room is.length C A k s n EA es.length EC room w ht (by omega)

theorem of_c (is : List It) : ∀ N, N ≤ 512 → OfC is N
  | 0, _ => of_zero is
  | N + 1, h => of_step is N h (of_c is N (by omega))

end Go.Proofs.YtjdkoahbahecoaaGreatDoor
