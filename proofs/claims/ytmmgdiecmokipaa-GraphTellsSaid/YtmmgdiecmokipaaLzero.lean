/-
  Proved: what all of them answer where there is no block.
-/
import Derived.Test.YtmmgdiecmokipaaLfew
namespace Go.Proofs.Ytmmgdiecmokipaa
open Go.RowKit

theorem rwalk_0 (z : Int) (hz : z ≤ 0) (tv : Value) (w : World) : Calls Try.prog 21 #[.int .i64 z, tv, .int .i64 (-1)] w fun e w' => e = .returned (.slice (some ⟨w.heap.size, 0, none⟩) 0 0) ∧ Below w.heap.size w w' := by
  have hmk := make_b 0 (by omega)
  have HB : Hid (Below w.heap.size w (w.alloc (.cells (madeCells #[.bool false] 0) 4))) := below_alloc _ _
  simp only [Int.cast_ofNat_Int] at hmk
  rcases Int.lt_or_eq_of_le hz with h | h
  · go_enter Try.func21, Try.ntmps21
    go_wp2
    go_ret
    exact ⟨rfl, HB.out⟩
  · subst h
    go_enter Try.func21, Try.ntmps21
    go_wp2
    go_ret
    exact ⟨rfl, HB.out⟩

theorem rreach_0 (z : Int) (hz : z ≤ 0) (tv : Value) (w : World) : Calls Try.prog 9 #[.int .i64 z, tv] w fun e w' => e = .returned (.slice (some ⟨w.heap.size, 0, none⟩) 0 0) ∧ Below w.heap.size w w' := by
  have W0 : Hid (Calls Try.prog 21 #[.int .i64 z, tv, .int .i64 (-1)] w fun e w' => e = .returned (.slice (some ⟨w.heap.size, 0, none⟩) 0 0) ∧ Below w.heap.size w w') := rwalk_0 z hz tv w
  go_enter Try.func9, Try.ntmps9
  go_wp2_with (go_at_call 21; refine W0.out.mono ?_; rintro e w1 ⟨rfl, hb⟩; have B1 : Hid (Below w.heap.size w w1) := hb; clear hb)
  go_ret
  exact ⟨rfl, B1.out⟩

theorem rfrom_0 (z : Int) (hz : z ≤ 0) (tv : Value) (w : World) : Calls Try.prog 11 #[.int .i64 z, tv] w fun e w' => e = .returned (.slice none 0 0) ∧ w' = w := by
  go_enter Try.func11, Try.ntmps11
  go_wp2
  go_loopw [5, 6] (fun ov iv wr => ov = .slice none 0 0 ∧ iv = .int .i64 0 ∧ wr = w) (fun _ _ _ => 0)
  case atStart => exact ⟨rfl, rfl, rfl⟩
  case round =>
    obtain ⟨rfl, rfl, hwr⟩ := hrel
    rw [hwr]
    clear hwr wr
    go_wp2
    go_ret
    exact ⟨rfl, rfl⟩

theorem rorder_0 (z : Int) (hz : z ≤ 0) (tv : Value) (w : World) : Calls Try.prog 14 #[.int .i64 z, tv] w fun e w' => e = .returned (.slice none 0 0) ∧ w' = w := by
  have h1 : z < 1 := by omega
  go_enter Try.func14, Try.ntmps14
  go_wp2
  go_ret
  exact ⟨rfl, rfl⟩

theorem rdoms_0 (z : Int) (hz : z ≤ 0) (tv : Value) (w : World) : Calls Try.prog 16 #[.int .i64 z, tv] w fun e w' => e = .returned (.slice none 0 0) ∧ Below w.heap.size w w' := by
  have W0 : Hid (Calls Try.prog 9 #[.int .i64 z, tv] w fun e w' => e = .returned (.slice (some ⟨w.heap.size, 0, none⟩) 0 0) ∧ Below w.heap.size w w') := rreach_0 z hz tv w
  go_enter Try.func16, Try.ntmps16
  go_wp2_with (go_at_call 9; refine W0.out.mono ?_; rintro e w1 ⟨rfl, hb⟩; have B1 : Hid (Below w.heap.size w w1) := hb; clear hb)
  go_loopw [5, 7] (fun ov iv wr => ov = .slice none 0 0 ∧ iv = .int .i64 0 ∧ wr = w1) (fun _ _ _ => 0)
  case atStart => exact ⟨rfl, rfl, rfl⟩
  case round =>
    obtain ⟨rfl, rfl, hwr⟩ := hrel
    rw [hwr]
    clear hwr wr
    go_wp2
    go_ret
    exact ⟨rfl, B1.out⟩

set_option maxHeartbeats 2000000 in
theorem turnsOf_0 (tv : Value) (w : World) : Calls Try.prog 29 #[.int .i64 0, tv] w fun e w' => e = .returned (.pointer (some ⟨w.heap.size, 0, none⟩)) ∧ Below w.heap.size w w' ∧ w'.cell? ⟨w.heap.size, 0, none⟩ = some (.slice none 0 0) := by
  have mixed : Try.prog.follows Departure.mixedOrders = true := by kernel_rfl
  have hmk := make_i 0 (by omega)
  have hmk2 := make_rr 0 (by omega)
  simp only [Int.cast_ofNat_Int] at hmk hmk2
  obtain ⟨TT0, b0⟩ := wT_tt w 0
  have T0 : Hid (TT (wT w 0) w.heap.size 0 (fun _ => .slice none 0 0) (rws []) (tof [])) := TT0
  have B0 : Hid (Below w.heap.size w (wT w 0)) := b0
  have P0 : Hid (Calls Try.prog 18 #[.int .i64 0, tv, .func (.func 33) #[] #[.pointer (some ⟨w.heap.size + 1, 0, none⟩), .pointer (some ⟨w.heap.size + 3, 0, none⟩)], .func (.func 34) #[] #[]] (wT w 0) fun e w' => e = .returned (.tuple #[]) ∧ Below (wT w 0).heap.size (wT w 0) w') := walk_none 0 (by omega) tv _ _ _ _
  have KT : Hid (∀ w3, Below (wT w 0).heap.size (wT w 0) w3 → TT w3 w.heap.size 0 (fun _ => .slice none 0 0) (rws []) (tof [])) := fun w3 hb => TT0.kp (Kp.of_below (F := fun _ => False) hb) fun _ h => h.elim
  clear TT0 b0 T0
  unfold wT at P0 B0 KT
  go_enter Try.func29, Try.ntmps29
  go_wp2_with (go_at_call 18; refine P0.out.mono ?_; rintro e w3 ⟨rfl, hb3⟩; have T3 : Hid (TT w3 w.heap.size 0 (fun _ => .slice none 0 0) (rws []) (tof [])) := KT.out w3 hb3; have B3 : Hid (Below w.heap.size w w3) := below_next B0.out hb3; clear hb3)
  have SK : Hid (∀ wq, Below w3.heap.size w3 wq → wq.cell? ⟨w.heap.size + 1, 0, none⟩ = some (.pointer (some ⟨w.heap.size, 0, none⟩)) ∧ wq.cell? ⟨w.heap.size, 0, none⟩ = some (.slice none 0 0)) := fun wq hb => by
    have t := T3.out.kp (Kp.of_below (F := fun _ => False) hb) fun _ h => h.elim
    exact ⟨t.2.2.2.1.cell 0, t.field 0 (by decide)⟩
  have at3 : At (w3.alloc (.cells (madeCells #[.slice none 0 0] 0) 28)) w.heap.size (vC (fun _ => .slice none 0 0) 6) 46 := (Kp.of_below (F := fun _ => False) (below_alloc _ _)).at T3.out.1 (fun h => h)
  have c2 : (w3.alloc (.cells (madeCells #[.slice none 0 0] 0) 28)).cell? ⟨w.heap.size, 2, none⟩ = some (.slice none 0 0) := at3.cell 2
  have f2 := at3.frozen 2
  have a4 : At (((w3.alloc (.cells (madeCells #[.slice none 0 0] 0) 28)).setCell ⟨w.heap.size, 2, none⟩ (.slice (some ⟨w3.heap.size, 0, none⟩) 0 0)).drew) w.heap.size #[.slice none 0 0, .slice none 0 0, .slice (some ⟨w3.heap.size, 0, none⟩) 0 0, .slice none 0 0, .slice none 0 0, .slice none 0 0] 46 := at3.set (j := 2) _
  have p4 : At (((w3.alloc (.cells (madeCells #[.slice none 0 0] 0) 28)).setCell ⟨w.heap.size, 2, none⟩ (.slice (some ⟨w3.heap.size, 0, none⟩) 0 0)).drew) (w.heap.size + 1) #[.pointer (some ⟨w.heap.size, 0, none⟩)] 42 := (Kp.set (F := fun b => b = w.heap.size) (w3.alloc (.cells (madeCells #[.slice none 0 0] 0) 28)) 2 (.slice (some ⟨w3.heap.size, 0, none⟩) 0 0) rfl).at ((Kp.of_below (F := fun _ => False) (below_alloc _ _)).at T3.out.2.2.2.1 (fun h => h)) (by omega)
  have B4 : Hid (Below w.heap.size w (((w3.alloc (.cells (madeCells #[.slice none 0 0] 0) 28)).setCell ⟨w.heap.size, 2, none⟩ (.slice (some ⟨w3.heap.size, 0, none⟩) 0 0)).drew)) := Below.drew (below_set (B3.out.trans ((below_alloc w3 _).mono B3.out.size)) (Nat.le_refl _) _)
  have c40 := a4.cell 0
  have c41 := p4.cell 0
  refine wp_region_N (fun w' => w'.cell? ⟨w.heap.size + 1, 0, none⟩ = some (.pointer (some ⟨w.heap.size, 0, none⟩)) ∧ w'.cell? ⟨w.heap.size, 0, none⟩ = some (.slice none 0 0)) (fun j => j != 9) mixed (SK.out _ (below_drew _)) ?_
  intro S0
  refine wpAnyN_take (i := 0) (v := .pointer (some ⟨w.heap.size, 0, none⟩)) rfl (by kernel_rfl) (by kernel_rfl) (by kernel_rfl) (by kernel_rfl) (fun _ _ _ h => h) (Or.inl ⟨by rfl, ?_⟩) S0 ?_
  · intro w' hS'
    obtain ⟨h1, h2⟩ := hS'
    go_simp
  (try simp only [Act.put, List.getElem_toArray, List.getElem_cons_zero, List.setIfInBounds_toArray, List.set_cons_zero, List.set_cons_succ])
  refine wpAnyN_take (i := 1) (v := .pointer (some ⟨w.heap.size, 0, none⟩)) rfl (by kernel_rfl) (by kernel_rfl) (by kernel_rfl) (by kernel_rfl) (fun _ _ _ h => h) (Or.inl ⟨by rfl, ?_⟩) S0 ?_
  · intro w' hS'
    obtain ⟨h1, h2⟩ := hS'
    go_simp
  (try simp only [Act.put, List.getElem_toArray, List.getElem_cons_succ, List.getElem_cons_zero, List.setIfInBounds_toArray, List.set_cons_zero, List.set_cons_succ])
  refine wpAnyN_take (i := 2) (v := .pointer (some ⟨w.heap.size, 0, none⟩)) rfl (by kernel_rfl) (by kernel_rfl) (by kernel_rfl) (by kernel_rfl) (fun _ _ _ h => h) (Or.inl ⟨by rfl, ?_⟩) S0 ?_
  · intro w' hS'
    obtain ⟨h1, h2⟩ := hS'
    go_simp
  (try simp only [Act.put, List.getElem_toArray, List.getElem_cons_succ, List.getElem_cons_zero, List.setIfInBounds_toArray, List.set_cons_zero, List.set_cons_succ])
  refine wpAnyN_take (i := 3) (v := .pointer (some ⟨w.heap.size, 0, none⟩)) rfl (by kernel_rfl) (by kernel_rfl) (by kernel_rfl) (by kernel_rfl) (fun _ _ _ h => h) (Or.inl ⟨by rfl, ?_⟩) S0 ?_
  · intro w' hS'
    obtain ⟨h1, h2⟩ := hS'
    go_simp
  (try simp only [Act.put, List.getElem_toArray, List.getElem_cons_succ, List.getElem_cons_zero, List.setIfInBounds_toArray, List.set_cons_zero, List.set_cons_succ])
  refine wpAnyN_take (i := 4) (v := .slice none 0 0) rfl (by kernel_rfl) (by kernel_rfl) (by kernel_rfl) (by kernel_rfl) (fun _ _ _ h => h) (Or.inl ⟨by rfl, ?_⟩) S0 ?_
  · intro w' hS'
    obtain ⟨h1, h2⟩ := hS'
    go_simp
  (try simp only [Act.put, List.getElem_toArray, List.getElem_cons_succ, List.getElem_cons_zero, List.setIfInBounds_toArray, List.set_cons_zero, List.set_cons_succ])
  refine wpAnyN_take (i := 5) (v := .int .i64 0) rfl (by kernel_rfl) (by kernel_rfl) (by kernel_rfl) (by kernel_rfl) (fun _ _ _ h => h) (Or.inl ⟨by rfl, ?_⟩) S0 ?_
  · intro w' hS'
    obtain ⟨h1, h2⟩ := hS'
    go_simp
  (try simp only [Act.put, List.getElem_toArray, List.getElem_cons_succ, List.getElem_cons_zero, List.setIfInBounds_toArray, List.set_cons_zero, List.set_cons_succ])
  refine wpAnyN_one (i := 6) (by kernel_rfl) rfl (fun K hK => ?_)
  go_simp
  refine hK _ _ (fun h => SK.out _ (below_next (below_drew _) (below_alloc _ _))) ?_
  clear hK K
  (try simp only [Act.put, List.getElem_toArray, List.getElem_cons_succ, List.getElem_cons_zero, List.setIfInBounds_toArray, List.set_cons_zero, List.set_cons_succ])
  have S1 := SK.out _ (below_next (below_drew w3) (below_alloc w3.drew (.cells (madeCells #[.slice none 0 0] 0) 28)))
  refine wpAnyN_one (i := 7) (by kernel_rfl) rfl (fun K hK => ?_)
  go_simp
  refine hK _ _ (fun h => S1) ?_
  clear hK K
  (try simp only [Act.put, List.getElem_toArray, List.getElem_cons_succ, List.getElem_cons_zero, List.setIfInBounds_toArray, List.set_cons_zero, List.set_cons_succ])
  refine wpAnyN_one (i := 8) (by kernel_rfl) rfl (fun K hK => ?_)
  go_simp
  refine hK _ _ (fun h => S1) ?_
  clear hK K
  (try simp only [Act.put, List.getElem_toArray, List.getElem_cons_succ, List.getElem_cons_zero, List.setIfInBounds_toArray, List.set_cons_zero, List.set_cons_succ])
  refine wpAnyN_one (i := 9) (by kernel_rfl) rfl (fun K hK => ?_)
  go_simp
  refine hK _ _ (fun h => by cases h) ?_
  clear hK K
  (try simp only [Act.put, List.getElem_toArray, List.getElem_cons_succ, List.getElem_cons_zero, List.setIfInBounds_toArray, List.set_cons_zero, List.set_cons_succ])
  refine wpAnyN_done (by kernel_rfl) ?_ _
  clear S0 S1 SK c2 f2 at3 a4 p4
  generalize ((w3.alloc (.cells (madeCells #[.slice none 0 0] 0) 28)).setCell ⟨w.heap.size, 2, none⟩ (.slice (some ⟨w3.heap.size, 0, none⟩) 0 0)).drew = w4 at *
  have d40 : w4.cell? ⟨w.heap.size, 0, none⟩ = some (.slice none 0 0) := c40
  have d41 : w4.cell? ⟨w.heap.size + 1, 0, none⟩ = some (.pointer (some ⟨w.heap.size, 0, none⟩)) := c41
  clear c40 c41
  go_wp2
  go_loopw [32] (fun kv wr => kv = .int .i64 0 ∧ wr = w4) (fun _ _ => 0)
  case atStart => exact ⟨rfl, rfl⟩
  case round =>
    obtain ⟨rfl, hwr⟩ := hrel
    rw [hwr]
    clear hwr wr
    go_wp2
    go_ret
    exact ⟨rfl, B4.out, d40⟩

set_option maxRecDepth 20000 in
set_option maxHeartbeats 1000000 in
theorem tdoms_0 (N : Nat) (w : World) (c0 : w.cell? ⟨N, 0, none⟩ = some (.slice none 0 0)) : Calls Try.prog 30 #[.pointer (some ⟨N, 0, none⟩)] w fun e w' => e = .returned (.slice (some ⟨w.heap.size, 0, none⟩) 0 0) ∧ Below w.heap.size w w' := by
  have hmk := make_i 0 (by omega)
  have hmk2 := make_rr 0 (by omega)
  simp only [Int.cast_ofNat_Int] at hmk hmk2
  have c1 : (w.alloc (.cells (madeCells #[.int .i64 0] 0) 3)).cell? ⟨N, 0, none⟩ = some (.slice none 0 0) := cell_new _ c0
  have HB : Hid (Below w.heap.size w ((w.alloc (.cells (madeCells #[.int .i64 0] 0) 3)).alloc (.cells (madeCells #[.slice none 0 0] 0) 28))) := below_next (below_alloc _ _) (below_alloc _ _)
  go_enter Try.func30, Try.ntmps30
  go_wp2
  generalize (w.alloc (.cells (madeCells #[.int .i64 0] 0) 3)).alloc (.cells (madeCells #[.slice none 0 0] 0) 28) = w2 at *
  go_loopw [5] (fun tv wr => tv = .int .i64 (-1) ∧ wr = w2) (fun _ _ => 0)
  case atStart => exact ⟨rfl, rfl⟩
  case round =>
    obtain ⟨rfl, hwr⟩ := hrel
    rw [hwr]
    clear hwr wr
    go_wp2
    go_loopw [125] (fun tv wr => tv = .int .i64 0 ∧ wr = w2) (fun _ _ => 0)
    case atStart => exact ⟨rfl, rfl⟩
    case round =>
      rename World => wr
      obtain ⟨rfl, hwr⟩ := hrel
      rw [hwr]
      clear hwr wr
      go_wp2
      go_ret
      exact ⟨rfl, HB.out⟩

set_option maxRecDepth 20000 in
set_option maxHeartbeats 1000000 in
theorem doms_0 (z : Int) (hz : z ≤ 0) (tv : Value) (w : World) : Calls Try.prog 15 #[.int .i64 z, tv] w fun e w' => e = .returned (.slice (some ⟨w.heap.size, 0, none⟩) 0 0) ∧ Below w.heap.size w w' := by
  have RM : Hid (∀ w, Calls Try.prog 17 #[.int .i64 z] w fun e w' => e = .returned (.int .i64 0) ∧ w' = w) := fun w => by
    have := room_z (z := z) (n := 0) (by rcases Int.lt_or_eq_of_le hz with h | h; exact Or.inr ⟨h, rfl⟩; exact Or.inl h) (by omega) w
    simpa using this
  have hmk := make_i 0 (by omega)
  simp only [Int.cast_ofNat_Int] at hmk
  have B0 : Hid (Below w.heap.size w (w.alloc (.cells (madeCells #[.int .i64 0] 0) 3))) := below_alloc _ _
  go_enter Try.func15, Try.ntmps15
  go_wp2_with (go_at_call 17; refine (RM.out _).mono ?_; rintro e w3 ⟨rfl, hw3⟩; rw [hw3]; clear hw3 w3)
  generalize w.alloc (.cells (madeCells #[.int .i64 0] 0) 3) = w2 at *
  go_loopw [15] (fun kv wr => kv = .int .i64 0 ∧ wr = w2) (fun _ _ => 0)
  case atStart => exact ⟨rfl, rfl⟩
  case round =>
    obtain ⟨rfl, hwr⟩ := hrel
    rw [hwr]
    clear hwr wr
    go_wp2_with (first
      | (go_at_call 29; refine (turnsOf_0 tv w2).mono ?_; rintro e w4 ⟨rfl, hb4, hc4⟩; have B4 : Hid (Below w2.heap.size w2 w4) := hb4; have C4 : Hid (w4.cell? ⟨w2.heap.size, 0, none⟩ = some (.slice none 0 0)) := hc4; clear hb4 hc4)
      | (go_at_call 30; refine (tdoms_0 w2.heap.size w4 C4.out).mono ?_; rintro e w5 ⟨rfl, hb5⟩; have B5 : Hid (Below w4.heap.size w4 w5) := hb5; clear hb5))
    go_loopw [29] (fun tv wr => tv = .int .i64 0 ∧ wr = w5) (fun _ _ => 0)
    case atStart => exact ⟨rfl, rfl⟩
    case round =>
      rename World => wr
      obtain ⟨rfl, hwr⟩ := hrel
      rw [hwr]
      clear hwr wr
      go_wp2
      go_ret
      exact ⟨rfl, below_next B0.out (below_next B4.out B5.out)⟩

theorem nums_nil (w : World) (A : Option Addr) (C : Nat) : NumsIn w [] (.slice A 0 C) := ⟨A, C, rfl, fun i hi => by simp at hi⟩

set_option maxRecDepth 20000 in
set_option maxHeartbeats 4000000 in
theorem tells_zero (z : Int) (hz : z ≤ 0) (to : List (List Int)) (tv : Value) (w : World) (h : RwsIn w to tv) (hl : to.length ≤ 281474976710656) (hl2 : ∀ i (h : i < to.length), (to[i]'h).length ≤ 281474976710656) (hf : Fw to) (hfs : fsum to to.length < 200) :
    Calls Try.prog 3 #[.int .i64 z, tv] w fun e w' => e = .returned (.bool true) ∧ Below w.heap.size w w' := by
  have FD : Hid (Calls Try.prog 7 #[tv] w fun e w' => e = .returned (.bool true) ∧ w' = w) := by
    have := few_d to tv w h hl hl2
    rwa [decide_eq_true hfs] at this
  have hN : IsN z 0 := by
    rcases Int.lt_or_eq_of_le hz with h | h
    · exact Or.inr ⟨h, rfl⟩
    · exact Or.inl h
  have hmin : min z 12 = z := by omega
  have R1 : Hid (∀ w1, Below w.heap.size w w1 → Calls Try.prog 8 #[.int .i64 z, tv] w1 fun e w' => e = .returned (.slice (some ⟨w1.heap.size, 0, none⟩) 0 0) ∧ Below w1.heap.size w1 w') := fun w1 hb => (reach_p z 0 hN (by omega) to tv w1 (h.below hb) hf).mono fun e w' h => ⟨h.1, h.2.1⟩
  have F1 : Hid (∀ w1, Below w.heap.size w w1 → Calls Try.prog 10 #[.int .i64 z, tv] w1 fun e w' => e = .returned (.slice (some ⟨w1.heap.size, 0, none⟩) 0 0) ∧ Below w1.heap.size w1 w') := fun w1 hb => (from_p z 0 hN (by omega) to tv w1 (h.below hb) hf).mono fun e w' h => ⟨h.1, h.2.1⟩
  have O1 : Hid (∀ w1, Below w.heap.size w w1 → Calls Try.prog 13 #[.int .i64 z, tv] w1 fun e w' => ∃ A C, e = .returned (.slice A 0 C) ∧ Below w1.heap.size w1 w') := fun w1 hb => (order_p z 0 hN (by omega) to tv w1 (h.below hb) hf).mono fun e w' h => by
    obtain ⟨v, rfl, ⟨A, C, rfl, -⟩, hb⟩ := h
    exact ⟨A, C, rfl, hb⟩
  obtain ⟨A, C, rfl, -⟩ := h
  clear hf hl hl2
  go_enter Try.func3, Try.ntmps3
  go_wp2_with (first
    | (go_at_call 7; refine FD.out.mono ?_; rintro e wa ⟨rfl, hwa⟩; rw [hwa]; clear hwa wa)
    | (go_at_call 8; refine (R1.out w (Below.refl _ _)).mono ?_; rintro e w1 ⟨rfl, hb1⟩; have B1 : Hid (Below w.heap.size w w1) := hb1; clear hb1)
    | (go_at_call 9; refine (rreach_0 z hz _ w1).mono ?_; rintro e w2 ⟨rfl, hb2⟩; have C2 : Hid (Below w.heap.size w w2) := below_next B1.out hb2; clear hb2)
    | (go_at_call 10; refine (F1.out w2 C2.out).mono ?_; rintro e w3 ⟨rfl, hb3⟩; have C3 : Hid (Below w.heap.size w w3) := below_next C2.out hb3; clear hb3)
    | (go_at_call 11; refine (rfrom_0 z hz _ w3).mono ?_; rintro e w4 ⟨rfl, hw4⟩; rw [hw4]; clear hw4 w4)
    | (go_at_call 13; refine (O1.out w3 C3.out).mono ?_; rintro e w5 ⟨A5, K5, rfl, hb5⟩; have C5 : Hid (Below w.heap.size w w5) := below_next C3.out hb5; clear hb5)
    | (go_at_call 14; refine (rorder_0 z hz _ w5).mono ?_; rintro e w6 ⟨rfl, hw6⟩; rw [hw6]; clear hw6 w6)
    | (go_at_call 12; refine (ints_c [] [] _ _ w9 (nums_nil _ _ _) (nums_nil _ _ _) (by simp)).mono ?_; rintro e wt ⟨rfl, hbt⟩; have CT : Hid (Below w.heap.size w wt) := below_next C9.out hbt; have hdt : decide (([] : List Int) = []) = true := rfl; clear hbt)
    | (go_at_call 12; refine (ints_c [] [] _ _ w5 (nums_nil _ _ _) (nums_nil _ _ _) (by simp)).mono ?_; rintro e w7 ⟨rfl, hb7⟩; have C7 : Hid (Below w.heap.size w w7) := below_next C5.out hb7; have hdo : decide (([] : List Int) = []) = true := rfl; clear hb7)
    | (go_at_call 15; refine (doms_0 z hz _ w7).mono ?_; rintro e w8 ⟨rfl, hb8⟩; have C8 : Hid (Below w.heap.size w w8) := below_next C7.out hb8; clear hb8)
    | (go_at_call 16; refine (rdoms_0 z hz _ w8).mono ?_; rintro e w9 ⟨rfl, hb9⟩; have C9 : Hid (Below w.heap.size w w9) := below_next C8.out hb9; clear hb9))
  go_loopw [9] (fun iv wr => iv = .int .i64 0 ∧ wr = wt) (fun _ _ => 0)
  case atStart => exact ⟨rfl, rfl⟩
  case round =>
    obtain ⟨rfl, hwr⟩ := hrel
    rw [hwr]
    clear hwr wr
    go_wp2
    go_ret
    exact ⟨rfl, CT.out⟩
end Go.Proofs.Ytmmgdiecmokipaa
