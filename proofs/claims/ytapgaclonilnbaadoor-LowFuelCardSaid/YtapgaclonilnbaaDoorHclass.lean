/-
  Proved: what heap.Class and heap.find answer; and the reference's Class.
-/
import Derived.Test.YtapgaclonilnbaaDoorHsmall
namespace Go.Proofs.YtapgaclonilnbaaDoor
open Go.RowKit

def clsV : Option Nat → Value
  | none => .tuple #[.int .i64 0, .int .i64 0, .int .i64 0, .int .i64 2]
  | some k => .tuple #[.int .i64 (k : Int), .int .i64 (sz k : Int), .int .i64 (bl k : Int), .int .i64 0]

theorem Tab.cell {w : World} (h : Tab w) (j : Nat) : w.cell? ⟨0, j, none⟩ = spansC[j]? := by
  obtain ⟨t, fr, h⟩ := h
  simp [World.cell?, h]

theorem class_c (x : Int) (w : World) (ht : Tab w) : Calls Tryd.prog 65 #[.int .i64 x] w fun e w' => e = .returned (clsV (clsOf x)) ∧ Below w.heap.size w w' := by
  have T : Hid (Tab w) := ht
  have F : Hid (∀ B w, Tab w → w.cell? ⟨B, 0, none⟩ = some (.int .i64 x) → Calls Tryd.prog 66 #[.func (.func 69) #[] #[.pointer (some ⟨B, 0, none⟩)]] w fun e w' => e = .returned (ffV (clsOf x)) ∧ Below w.heap.size w w') := fun B w => firstA_c x B w
  have L := ff_lt (clsP x) 4 0
  change ∀ i, clsOf x = some i → _ at L
  clear ht
  generalize clsOf x = R at *
  cases R with
  | none =>
    unfold ffV at F
    go_enter Tryd.func65, Tryd.ntmps65
    go_wp2_with (first
      | (go_at_call 66; refine (F.out _ _ (T.out.below (below_alloc _ _) T.out.lt) (by go_simp)).mono ?_; rintro e w' ⟨rfl, he⟩; have NN : Hid (Below w.heap.size w w') := below_next (below_alloc _ _) he; clear he)
      | go_in)
    refine bodyPost_ret (v := clsV none) (by simp [results, Tryd.results65, go_sem, clsV]) rfl ⟨rfl, NN.out⟩
  | some k =>
    have hk := (L k rfl).2.1
    clear L
    rcases (by omega : k = 0 ∨ k = 1 ∨ k = 2 ∨ k = 3) with rfl | rfl | rfl | rfl
    all_goals (
      unfold ffV at F
      go_enter Tryd.func65, Tryd.ntmps65
      go_wp2_with (first
        | (go_at_call 66; refine (F.out _ _ (T.out.below (below_alloc _ _) T.out.lt) (by go_simp)).mono ?_; rintro e w' ⟨rfl, he⟩; have NN : Hid (Below w.heap.size w w') := below_next (below_alloc _ _) he; clear he)
        | go_in)
      have TT : Tab w' := T.out.below NN.out T.out.lt
      have t0 : w'.cell? ⟨0, 0, none⟩ = some (.int .i64 4) := (TT.cell 0).trans rfl
      have t1 : w'.cell? ⟨0, 1, none⟩ = some (.int .i64 64) := (TT.cell 1).trans rfl
      have t2 : w'.cell? ⟨0, 2, none⟩ = some (.int .i64 262144) := (TT.cell 2).trans rfl
      have t3 : w'.cell? ⟨0, 3, none⟩ = some (.int .i64 16) := (TT.cell 3).trans rfl
      have t4 : w'.cell? ⟨0, 4, none⟩ = some (.int .i64 32) := (TT.cell 4).trans rfl
      have t5 : w'.cell? ⟨0, 5, none⟩ = some (.int .i64 263168) := (TT.cell 5).trans rfl
      have t6 : w'.cell? ⟨0, 6, none⟩ = some (.int .i64 64) := (TT.cell 6).trans rfl
      have t7 : w'.cell? ⟨0, 7, none⟩ = some (.int .i64 16) := (TT.cell 7).trans rfl
      have t8 : w'.cell? ⟨0, 8, none⟩ = some (.int .i64 265216) := (TT.cell 8).trans rfl
      have t9 : w'.cell? ⟨0, 9, none⟩ = some (.int .i64 128) := (TT.cell 9).trans rfl
      have t10 : w'.cell? ⟨0, 10, none⟩ = some (.int .i64 8) := (TT.cell 10).trans rfl
      have t11 : w'.cell? ⟨0, 11, none⟩ = some (.int .i64 269312) := (TT.cell 11).trans rfl
      clear TT
      go_quiet (fail)
      go_wp2)
    all_goals exact bodyPost_ret (v := clsV (some _)) (by simp [results, Tryd.results65, go_sem, clsV, sz, bl]; done) rfl ⟨rfl, drew_below NN.out _⟩

theorem clsP_eq (x : Int) (i : Nat) (b : Bool) (h : (0 ≤ x ∧ x ≤ (sz i : Int)) ↔ b = true) : clsP x i = b := by
  have : clsP x i = true ↔ b = true := by rw [← h]; simp [clsP]
  cases b <;> simp_all

theorem clsOf_eq (x : Int) : clsOf x = if x < 0 ∨ 128 < x then none else if x ≤ 4 then some 0 else if x ≤ 16 then some 1 else if x ≤ 64 then some 2 else some 3 := by
  have s0 : sz 0 = 4 := rfl
  have s1 : sz 1 = 16 := rfl
  have s2 : sz 2 = 64 := rfl
  have s3 : sz 3 = 128 := rfl
  rcases (by omega : (x < 0) ∨ (128 < x) ∨ (0 ≤ x ∧ x ≤ 4) ∨ (4 < x ∧ x ≤ 16) ∨ (16 < x ∧ x ≤ 64) ∨ (64 < x ∧ x ≤ 128)) with h | h | h | h | h | h
  · have a0 := clsP_eq x 0 false (by simp; omega)
    have a1 := clsP_eq x 1 false (by simp; omega)
    have a2 := clsP_eq x 2 false (by simp; omega)
    have a3 := clsP_eq x 3 false (by simp; omega)
    rw [if_pos (by omega)]
    simp [clsOf, ff, a0, a1, a2, a3]
  · have a0 := clsP_eq x 0 false (by simp; omega)
    have a1 := clsP_eq x 1 false (by simp; omega)
    have a2 := clsP_eq x 2 false (by simp; omega)
    have a3 := clsP_eq x 3 false (by simp; omega)
    rw [if_pos (by omega)]
    simp [clsOf, ff, a0, a1, a2, a3]
  · have a0 := clsP_eq x 0 true (by simp; omega)
    rw [if_neg (by omega), if_pos (by omega)]
    simp [clsOf, ff, a0]
  · have a0 := clsP_eq x 0 false (by simp; omega)
    have a1 := clsP_eq x 1 true (by simp; omega)
    rw [if_neg (by omega), if_neg (by omega), if_pos (by omega)]
    simp [clsOf, ff, a0, a1]
  · have a0 := clsP_eq x 0 false (by simp; omega)
    have a1 := clsP_eq x 1 false (by simp; omega)
    have a2 := clsP_eq x 2 true (by simp; omega)
    rw [if_neg (by omega), if_neg (by omega), if_neg (by omega), if_pos (by omega)]
    simp [clsOf, ff, a0, a1, a2]
  · have a0 := clsP_eq x 0 false (by simp; omega)
    have a1 := clsP_eq x 1 false (by simp; omega)
    have a2 := clsP_eq x 2 false (by simp; omega)
    have a3 := clsP_eq x 3 true (by simp; omega)
    rw [if_neg (by omega), if_neg (by omega), if_neg (by omega), if_neg (by omega)]
    simp [clsOf, ff, a0, a1, a2, a3]

def placeV (x : Int) : Option Nat → Value
  | none => .tuple #[.agg #[.int .i64 0, .int .i64 0, .int .i64 0], .bool false]
  | some k => .tuple #[.agg #[.int .i64 (k : Int), .int .i64 ((x - st k) / (4 * (sz k : Int))), .int .i64 ((x - st k) % (4 * (sz k : Int)))], .bool true]

theorem find_c (x : Int) (w : World) (ht : Tab w) : Calls Tryd.prog 61 #[.int .i64 x] w fun e w' => e = .returned (placeV x (atOf x)) ∧ Below w.heap.size w w' := by
  have T : Hid (Tab w) := ht
  have F : Hid (∀ B w, Tab w → w.cell? ⟨B, 0, none⟩ = some (.int .i64 x) → Calls Tryd.prog 66 #[.func (.func 67) #[] #[.pointer (some ⟨B, 0, none⟩)]] w fun e w' => e = .returned (ffV (atOf x)) ∧ Below w.heap.size w w') := fun B w => firstB_c x B w
  have L := ff_lt (atP x) 4 0
  change ∀ i, atOf x = some i → _ at L
  clear ht
  generalize atOf x = R at *
  cases R with
  | none =>
    unfold ffV at F
    go_enter Tryd.func61, Tryd.ntmps61
    go_wp2_with ((go_at_call 66; refine (F.out _ _ (T.out.below (below_two _ _ _) T.out.lt) (by go_simp)).mono ?_; rintro e w' ⟨rfl, he⟩; have NN : Hid (Below w.heap.size w w') := below_next (below_two _ _ _) he; have AB : Hid (At w' w.heap.size #[.int .i64 x] 3) := ((At.new _ _ _).below (below_alloc _ _) (by simp)).below he (by simp; omega); have AP : Hid (At w' (w.heap.size + 1) #[.int .i64 0, .int .i64 0, .int .i64 0] 121) := (At.newS _ _ _ (by simp)).below he (by simp); clear he; have g0 : w'.cell? ⟨w.heap.size + 1, 0, none⟩ = some (.int .i64 0) := (AP.out.cell 0).trans rfl; have g1 : w'.cell? ⟨w.heap.size + 1, 1, none⟩ = some (.int .i64 0) := (AP.out.cell 1).trans rfl; have g2 : w'.cell? ⟨w.heap.size + 1, 2, none⟩ = some (.int .i64 0) := (AP.out.cell 2).trans rfl; have k0 := AP.out.frozen 0; have k1 := AP.out.frozen 1; have k2 := AP.out.frozen 2; have kl := AP.out.lt))
    exact bodyPost_ret (v := placeV x none) (by simp [results, Tryd.results61, go_sem, g0, g1, g2, placeV]) rfl ⟨rfl, ((NN.out.setCell (p := ⟨w.heap.size + 1, 0, none⟩) (by simp) _).setCell (p := ⟨w.heap.size + 1, 1, none⟩) (by simp) _).setCell (p := ⟨w.heap.size + 1, 2, none⟩) (by simp) _⟩
  | some k =>
    have hk := (L k rfl).2.1
    have hq := (L k rfl).2.2
    clear L
    rcases (by omega : k = 0 ∨ k = 1 ∨ k = 2 ∨ k = 3) with rfl | rfl | rfl | rfl
    · have hq' : 262144 ≤ x ∧ x < 263168 := by simpa [atP, st, bl, sz] using hq
      have hq1 := hq'.1
      have hq2 := hq'.2
      clear hq hq' hk
      unfold ffV at F
      go_enter Tryd.func61, Tryd.ntmps61
      go_wp2_with ((go_at_call 66; refine (F.out _ _ (T.out.below (below_two _ _ _) T.out.lt) (by go_simp)).mono ?_; rintro e w' ⟨rfl, he⟩; have NN : Hid (Below w.heap.size w w') := below_next (below_two _ _ _) he; have AB : Hid (At w' w.heap.size #[.int .i64 x] 3) := ((At.new _ _ _).below (below_alloc _ _) (by simp)).below he (by simp; omega); have AP : Hid (At w' (w.heap.size + 1) #[.int .i64 0, .int .i64 0, .int .i64 0] 121) := (At.newS _ _ _ (by simp)).below he (by simp); clear he))
      have TT : Tab w' := T.out.below NN.out T.out.lt
      have t0 : ∀ x : After w', x.w.cell? ⟨0, 0, none⟩ = some (.int .i64 4) := fun x => After.cell ((TT.cell 0).trans rfl) x
      have t1 : ∀ x : After w', x.w.cell? ⟨0, 1, none⟩ = some (.int .i64 64) := fun x => After.cell ((TT.cell 1).trans rfl) x
      have t2 : ∀ x : After w', x.w.cell? ⟨0, 2, none⟩ = some (.int .i64 262144) := fun x => After.cell ((TT.cell 2).trans rfl) x
      have e0 : ∀ y : After w', y.w.cell? ⟨w.heap.size, 0, none⟩ = some (.int .i64 x) := fun y => After.cell ((AB.out.cell 0).trans rfl) y
      clear TT
      haveI := After.has w'
      refine wp_region_after (by kernel_rfl) (by kernel_rfl) ?_
      repeat (quiet_step ((go_at_call 62; exact Calls.after (bytes_c 4 64 262144 _ (by omega) (by omega)))))
      refine wpQuiet_nil ?_
      intro _ hw'
      obtain ⟨xq, hw''⟩ := hw'
      subst hw''
      have AP : Hid (At xq.w (w.heap.size + 1) #[.int .i64 0, .int .i64 0, .int .i64 0] 121) := AP.out.below xq.below AP.out.lt
      have NN : Hid (Below w.heap.size w xq.w) := below_next NN.out xq.below
      clear AB t0 t1 t2 e0
      have g0 : xq.w.cell? ⟨w.heap.size + 1, 0, none⟩ = some (.int .i64 0) := (AP.out.cell 0).trans rfl; have g1 : xq.w.cell? ⟨w.heap.size + 1, 1, none⟩ = some (.int .i64 0) := (AP.out.cell 1).trans rfl; have g2 : xq.w.cell? ⟨w.heap.size + 1, 2, none⟩ = some (.int .i64 0) := (AP.out.cell 2).trans rfl; have k0 := AP.out.frozen 0; have k1 := AP.out.frozen 1; have k2 := AP.out.frozen 2; have kl := AP.out.lt
      go_wp2
      rw [wrap_in (x - 262144) ⟨by omega, by omega⟩]
      go_region_held3 (fun _ => True) (trivial) (fail)
      all_goals go_wp2
      rw [Int.tdiv_eq_ediv_of_nonneg (show 0 ≤ x - 262144 by omega), Int.tmod_eq_emod_of_nonneg (show 0 ≤ x - 262144 by omega), wrap_in ((x - 262144) / 16) ⟨by omega, by omega⟩]
      exact bodyPost_ret (v := placeV x (some 0)) (by simp [results, Tryd.results61, go_sem, g0, g1, g2, placeV, st, sz]) rfl ⟨rfl, (((NN.out.setCell (p := ⟨w.heap.size + 1, 0, none⟩) (by simp) _).setCell (p := ⟨w.heap.size + 1, 1, none⟩) (by simp) _).setCell (p := ⟨w.heap.size + 1, 2, none⟩) (by simp) _).drew⟩
    · have hq' : 263168 ≤ x ∧ x < 265216 := by simpa [atP, st, bl, sz] using hq
      have hq1 := hq'.1
      have hq2 := hq'.2
      clear hq hq' hk
      unfold ffV at F
      go_enter Tryd.func61, Tryd.ntmps61
      go_wp2_with ((go_at_call 66; refine (F.out _ _ (T.out.below (below_two _ _ _) T.out.lt) (by go_simp)).mono ?_; rintro e w' ⟨rfl, he⟩; have NN : Hid (Below w.heap.size w w') := below_next (below_two _ _ _) he; have AB : Hid (At w' w.heap.size #[.int .i64 x] 3) := ((At.new _ _ _).below (below_alloc _ _) (by simp)).below he (by simp; omega); have AP : Hid (At w' (w.heap.size + 1) #[.int .i64 0, .int .i64 0, .int .i64 0] 121) := (At.newS _ _ _ (by simp)).below he (by simp); clear he))
      have TT : Tab w' := T.out.below NN.out T.out.lt
      have t3 : ∀ x : After w', x.w.cell? ⟨0, 3, none⟩ = some (.int .i64 16) := fun x => After.cell ((TT.cell 3).trans rfl) x
      have t4 : ∀ x : After w', x.w.cell? ⟨0, 4, none⟩ = some (.int .i64 32) := fun x => After.cell ((TT.cell 4).trans rfl) x
      have t5 : ∀ x : After w', x.w.cell? ⟨0, 5, none⟩ = some (.int .i64 263168) := fun x => After.cell ((TT.cell 5).trans rfl) x
      have e0 : ∀ y : After w', y.w.cell? ⟨w.heap.size, 0, none⟩ = some (.int .i64 x) := fun y => After.cell ((AB.out.cell 0).trans rfl) y
      clear TT
      haveI := After.has w'
      refine wp_region_after (by kernel_rfl) (by kernel_rfl) ?_
      repeat (quiet_step ((go_at_call 62; exact Calls.after (bytes_c 16 32 263168 _ (by omega) (by omega)))))
      refine wpQuiet_nil ?_
      intro _ hw'
      obtain ⟨xq, hw''⟩ := hw'
      subst hw''
      have AP : Hid (At xq.w (w.heap.size + 1) #[.int .i64 0, .int .i64 0, .int .i64 0] 121) := AP.out.below xq.below AP.out.lt
      have NN : Hid (Below w.heap.size w xq.w) := below_next NN.out xq.below
      clear AB t3 t4 t5 e0
      have g0 : xq.w.cell? ⟨w.heap.size + 1, 0, none⟩ = some (.int .i64 0) := (AP.out.cell 0).trans rfl; have g1 : xq.w.cell? ⟨w.heap.size + 1, 1, none⟩ = some (.int .i64 0) := (AP.out.cell 1).trans rfl; have g2 : xq.w.cell? ⟨w.heap.size + 1, 2, none⟩ = some (.int .i64 0) := (AP.out.cell 2).trans rfl; have k0 := AP.out.frozen 0; have k1 := AP.out.frozen 1; have k2 := AP.out.frozen 2; have kl := AP.out.lt
      go_wp2
      rw [wrap_in (x - 263168) ⟨by omega, by omega⟩]
      go_region_held3 (fun _ => True) (trivial) (fail)
      all_goals go_wp2
      rw [Int.tdiv_eq_ediv_of_nonneg (show 0 ≤ x - 263168 by omega), Int.tmod_eq_emod_of_nonneg (show 0 ≤ x - 263168 by omega), wrap_in ((x - 263168) / 64) ⟨by omega, by omega⟩]
      exact bodyPost_ret (v := placeV x (some 1)) (by simp [results, Tryd.results61, go_sem, g0, g1, g2, placeV, st, sz]) rfl ⟨rfl, (((NN.out.setCell (p := ⟨w.heap.size + 1, 0, none⟩) (by simp) _).setCell (p := ⟨w.heap.size + 1, 1, none⟩) (by simp) _).setCell (p := ⟨w.heap.size + 1, 2, none⟩) (by simp) _).drew⟩
    · have hq' : 265216 ≤ x ∧ x < 269312 := by simpa [atP, st, bl, sz] using hq
      have hq1 := hq'.1
      have hq2 := hq'.2
      clear hq hq' hk
      unfold ffV at F
      go_enter Tryd.func61, Tryd.ntmps61
      go_wp2_with ((go_at_call 66; refine (F.out _ _ (T.out.below (below_two _ _ _) T.out.lt) (by go_simp)).mono ?_; rintro e w' ⟨rfl, he⟩; have NN : Hid (Below w.heap.size w w') := below_next (below_two _ _ _) he; have AB : Hid (At w' w.heap.size #[.int .i64 x] 3) := ((At.new _ _ _).below (below_alloc _ _) (by simp)).below he (by simp; omega); have AP : Hid (At w' (w.heap.size + 1) #[.int .i64 0, .int .i64 0, .int .i64 0] 121) := (At.newS _ _ _ (by simp)).below he (by simp); clear he))
      have TT : Tab w' := T.out.below NN.out T.out.lt
      have t6 : ∀ x : After w', x.w.cell? ⟨0, 6, none⟩ = some (.int .i64 64) := fun x => After.cell ((TT.cell 6).trans rfl) x
      have t7 : ∀ x : After w', x.w.cell? ⟨0, 7, none⟩ = some (.int .i64 16) := fun x => After.cell ((TT.cell 7).trans rfl) x
      have t8 : ∀ x : After w', x.w.cell? ⟨0, 8, none⟩ = some (.int .i64 265216) := fun x => After.cell ((TT.cell 8).trans rfl) x
      have e0 : ∀ y : After w', y.w.cell? ⟨w.heap.size, 0, none⟩ = some (.int .i64 x) := fun y => After.cell ((AB.out.cell 0).trans rfl) y
      clear TT
      haveI := After.has w'
      refine wp_region_after (by kernel_rfl) (by kernel_rfl) ?_
      repeat (quiet_step ((go_at_call 62; exact Calls.after (bytes_c 64 16 265216 _ (by omega) (by omega)))))
      refine wpQuiet_nil ?_
      intro _ hw'
      obtain ⟨xq, hw''⟩ := hw'
      subst hw''
      have AP : Hid (At xq.w (w.heap.size + 1) #[.int .i64 0, .int .i64 0, .int .i64 0] 121) := AP.out.below xq.below AP.out.lt
      have NN : Hid (Below w.heap.size w xq.w) := below_next NN.out xq.below
      clear AB t6 t7 t8 e0
      have g0 : xq.w.cell? ⟨w.heap.size + 1, 0, none⟩ = some (.int .i64 0) := (AP.out.cell 0).trans rfl; have g1 : xq.w.cell? ⟨w.heap.size + 1, 1, none⟩ = some (.int .i64 0) := (AP.out.cell 1).trans rfl; have g2 : xq.w.cell? ⟨w.heap.size + 1, 2, none⟩ = some (.int .i64 0) := (AP.out.cell 2).trans rfl; have k0 := AP.out.frozen 0; have k1 := AP.out.frozen 1; have k2 := AP.out.frozen 2; have kl := AP.out.lt
      go_wp2
      rw [wrap_in (x - 265216) ⟨by omega, by omega⟩]
      go_region_held3 (fun _ => True) (trivial) (fail)
      all_goals go_wp2
      rw [Int.tdiv_eq_ediv_of_nonneg (show 0 ≤ x - 265216 by omega), Int.tmod_eq_emod_of_nonneg (show 0 ≤ x - 265216 by omega), wrap_in ((x - 265216) / 256) ⟨by omega, by omega⟩]
      exact bodyPost_ret (v := placeV x (some 2)) (by simp [results, Tryd.results61, go_sem, g0, g1, g2, placeV, st, sz]) rfl ⟨rfl, (((NN.out.setCell (p := ⟨w.heap.size + 1, 0, none⟩) (by simp) _).setCell (p := ⟨w.heap.size + 1, 1, none⟩) (by simp) _).setCell (p := ⟨w.heap.size + 1, 2, none⟩) (by simp) _).drew⟩
    · have hq' : 269312 ≤ x ∧ x < 273408 := by simpa [atP, st, bl, sz] using hq
      have hq1 := hq'.1
      have hq2 := hq'.2
      clear hq hq' hk
      unfold ffV at F
      go_enter Tryd.func61, Tryd.ntmps61
      go_wp2_with ((go_at_call 66; refine (F.out _ _ (T.out.below (below_two _ _ _) T.out.lt) (by go_simp)).mono ?_; rintro e w' ⟨rfl, he⟩; have NN : Hid (Below w.heap.size w w') := below_next (below_two _ _ _) he; have AB : Hid (At w' w.heap.size #[.int .i64 x] 3) := ((At.new _ _ _).below (below_alloc _ _) (by simp)).below he (by simp; omega); have AP : Hid (At w' (w.heap.size + 1) #[.int .i64 0, .int .i64 0, .int .i64 0] 121) := (At.newS _ _ _ (by simp)).below he (by simp); clear he))
      have TT : Tab w' := T.out.below NN.out T.out.lt
      have t9 : ∀ x : After w', x.w.cell? ⟨0, 9, none⟩ = some (.int .i64 128) := fun x => After.cell ((TT.cell 9).trans rfl) x
      have t10 : ∀ x : After w', x.w.cell? ⟨0, 10, none⟩ = some (.int .i64 8) := fun x => After.cell ((TT.cell 10).trans rfl) x
      have t11 : ∀ x : After w', x.w.cell? ⟨0, 11, none⟩ = some (.int .i64 269312) := fun x => After.cell ((TT.cell 11).trans rfl) x
      have e0 : ∀ y : After w', y.w.cell? ⟨w.heap.size, 0, none⟩ = some (.int .i64 x) := fun y => After.cell ((AB.out.cell 0).trans rfl) y
      clear TT
      haveI := After.has w'
      refine wp_region_after (by kernel_rfl) (by kernel_rfl) ?_
      repeat (quiet_step ((go_at_call 62; exact Calls.after (bytes_c 128 8 269312 _ (by omega) (by omega)))))
      refine wpQuiet_nil ?_
      intro _ hw'
      obtain ⟨xq, hw''⟩ := hw'
      subst hw''
      have AP : Hid (At xq.w (w.heap.size + 1) #[.int .i64 0, .int .i64 0, .int .i64 0] 121) := AP.out.below xq.below AP.out.lt
      have NN : Hid (Below w.heap.size w xq.w) := below_next NN.out xq.below
      clear AB t9 t10 t11 e0
      have g0 : xq.w.cell? ⟨w.heap.size + 1, 0, none⟩ = some (.int .i64 0) := (AP.out.cell 0).trans rfl; have g1 : xq.w.cell? ⟨w.heap.size + 1, 1, none⟩ = some (.int .i64 0) := (AP.out.cell 1).trans rfl; have g2 : xq.w.cell? ⟨w.heap.size + 1, 2, none⟩ = some (.int .i64 0) := (AP.out.cell 2).trans rfl; have k0 := AP.out.frozen 0; have k1 := AP.out.frozen 1; have k2 := AP.out.frozen 2; have kl := AP.out.lt
      go_wp2
      rw [wrap_in (x - 269312) ⟨by omega, by omega⟩]
      go_region_held3 (fun _ => True) (trivial) (fail)
      all_goals go_wp2
      rw [Int.tdiv_eq_ediv_of_nonneg (show 0 ≤ x - 269312 by omega), Int.tmod_eq_emod_of_nonneg (show 0 ≤ x - 269312 by omega), wrap_in ((x - 269312) / 512) ⟨by omega, by omega⟩]
      exact bodyPost_ret (v := placeV x (some 3)) (by simp [results, Tryd.results61, go_sem, g0, g1, g2, placeV, st, sz]) rfl ⟨rfl, (((NN.out.setCell (p := ⟨w.heap.size + 1, 0, none⟩) (by simp) _).setCell (p := ⟨w.heap.size + 1, 1, none⟩) (by simp) _).setCell (p := ⟨w.heap.size + 1, 2, none⟩) (by simp) _).drew⟩
end Go.Proofs.YtapgaclonilnbaaDoor
