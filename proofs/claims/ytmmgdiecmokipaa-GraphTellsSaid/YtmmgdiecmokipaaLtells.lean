/-
  Proved: GraphTells answers true where there is a block at least.
-/
import Derived.Test.YtmmgdiecmokipaaLfew
namespace Go.Proofs.Ytmmgdiecmokipaa
open Go.RowKit

/-- The cells of rows in a row. -/
theorem RO.cell {base : Nat} {L : List (List Nat)} {xs : List (Option Addr × Nat × Nat)} {v : Value} {w : World} (h : RO base L xs v w) (hl : 0 < L.length) : ∃ D C, v = .slice (some ⟨D, 0, none⟩) L.length C ∧ D < w.heap.size ∧ ∀ j (hj : j < L.length), ∃ x, w.cell? ⟨D, j, none⟩ = some (sv x) ∧ ON base L[j] (sv x) w := by
  obtain ⟨A, C, e, h1⟩ := OwnB.shape sL_len h.1
  rw [h.2.1] at e h1
  obtain ⟨D, e1, e2, e3, e4, e5⟩ := h1 hl
  subst e1
  refine ⟨D, C, e, e3, fun j hj => ?_⟩
  have hj' : j < xs.length := by rw [h.2.1]; exact hj
  have := RowsIn.cell (j := 0) (u := sv xs[j]) e5 j hj' rfl
  exact ⟨xs[j], by simpa using this, h.2.2 j hj hj'⟩

set_option maxRecDepth 20000 in
set_option maxHeartbeats 8000000 in
theorem tells_pos (z : Int) (n : Nat) (h0 : 0 < n) (hn : n ≤ 12) (hz : min z 12 = (n : Int)) (to : List (List Int)) (tv : Value) (w : World) (h : RwsIn w to tv) (hl : to.length ≤ 281474976710656) (hl2 : ∀ i (h : i < to.length), (to[i]'h).length ≤ 281474976710656) (hf : Fw to) (hfs : fsum to to.length < 200) :
    Calls Try.prog 3 #[.int .i64 z, tv] w fun e w' => e = .returned (.bool true) ∧ Below w.heap.size w w' := by
  have mixed : Try.prog.follows Departure.mixedOrders = true := by kernel_rfl
  have FD : Hid (Calls Try.prog 7 #[tv] w fun e w' => e = .returned (.bool true) ∧ w' = w) := by
    have := few_d to tv w h hl hl2
    rwa [decide_eq_true hfs] at this
  have TI : Hid (RwsIn w to tv) := h
  have FW : Hid (Fw to) := hf
  have R1 : Hid (∀ w1, Below w.heap.size w w1 → Calls Try.prog 8 #[.int .i64 (n : Int), tv] w1 fun e w' => e = .returned (.slice (some ⟨w1.heap.size, 0, none⟩) n n) ∧ Below w1.heap.size w1 w' ∧ ∃ p, BR w' w1.heap.size n p ∧ ∀ j, j < n → (p j = true ↔ Rch (wy n to) (-1) j)) := fun w1 hb => reach_p n n (Or.inl rfl) (by omega) to tv w1 (h.below hb) hf
  have R2 : Hid (∀ w1, Below w.heap.size w w1 → Calls Try.prog 9 #[.int .i64 (n : Int), tv] w1 fun e w' => e = .returned (.slice (some ⟨w1.heap.size, 0, none⟩) n n) ∧ Below w1.heap.size w1 w' ∧ w1.heap.size < w'.heap.size ∧ ∀ j, j < n → w'.cell? ⟨w1.heap.size, j, none⟩ = some (.bool (rb n to (-1) j))) := fun w1 hb => reach_c n to tv w1 (h.below hb) hf (by omega)
  have F1 : Hid (∀ w1, Below w.heap.size w w1 → Calls Try.prog 10 #[.int .i64 (n : Int), tv] w1 fun e w' => e = .returned (.slice (some ⟨w1.heap.size, 0, none⟩) n n) ∧ Below w1.heap.size w1 w' ∧ ∃ vs, RR w' w1.heap.size n vs (fr n to)) := fun w1 hb => from_p n n (Or.inl rfl) (by omega) to tv w1 (h.below hb) hf
  have F2 : Hid (∀ w1, Below w.heap.size w w1 → Calls Try.prog 11 #[.int .i64 (n : Int), tv] w1 fun e w' => ∃ v xs, e = .returned v ∧ RO w1.heap.size ((List.range n).map (fr n to)) xs v w' ∧ Below w1.heap.size w1 w') := fun w1 hb => from_c n to tv w1 (h.below hb) hf (by omega)
  have O1 : Hid (∀ w1, Below w.heap.size w w1 → Calls Try.prog 13 #[.int .i64 (n : Int), tv] w1 fun e w' => ∃ v, e = .returned v ∧ NumsIn w' ((ord n to).map fun x : Nat => (x : Int)) v ∧ Below w1.heap.size w1 w') := fun w1 hb => order_p n n (Or.inl rfl) (by omega) to tv w1 (h.below hb) hf
  have O2 : Hid (∀ w1, Below w.heap.size w w1 → Calls Try.prog 14 #[.int .i64 (n : Int), tv] w1 fun e w' => ∃ v, e = .returned v ∧ ON w1.heap.size (ord n to) v w' ∧ Below w1.heap.size w1 w') := fun w1 hb => order_c n to tv w1 (h.below hb) hf (by omega)
  have D1 : Hid (∀ w1, Below w.heap.size w w1 → Calls Try.prog 15 #[.int .i64 (n : Int), tv] w1 fun e w' => e = .returned (.slice (some ⟨w1.heap.size, 0, none⟩) n n) ∧ Below w1.heap.size w1 w' ∧ IZ w' w1.heap.size n (dm n to)) := fun w1 hb => doms_p n h0 (by omega) to tv w1 (h.below hb) hf
  have D2 : Hid (∀ w1, Below w.heap.size w w1 → Calls Try.prog 16 #[.int .i64 (n : Int), tv] w1 fun e w' => ∃ v, e = .returned v ∧ OZ w1.heap.size ((List.range n).map (dm n to)) v w' ∧ Below w1.heap.size w1 w') := fun w1 hb => doms_c n to tv w1 (h.below hb) hf (by omega)
  have OL : (ord n to).length ≤ 1000 := by
    have h1 := lv_len (g := wy n to) (n := n) (fun a b hb => wy_lt n to a b hb) n 0 (fun _ => false, []) h0 rfl (Nat.le_of_eq (un_all n))
    have h2 := un_all n
    simp only [List.length_nil] at h1
    rw [ord, if_neg (by omega), List.length_reverse]
    omega
  obtain ⟨A, C, rfl, -⟩ := h
  clear hf hl hl2
  have hnn : ((n : Int) == (n : Int)) = true := by simp
  go_enter Try.func3, Try.ntmps3
  go_wp2_with (first
    | (go_at_call 7; refine FD.out.mono ?_; rintro e wa ⟨rfl, hwa⟩; rw [hwa]; clear hwa wa)
    | (go_at_call 8; refine (R1.out w (Below.refl _ _)).mono ?_; rintro e w1 ⟨rfl, hb1, p, hp1, hp2⟩; have B1 : Hid (Below w.heap.size w w1) := hb1; have P1 : Hid (BR w1 w.heap.size n p) := hp1; have Q1 : Hid (∀ j, j < n → (p j = true ↔ Rch (wy n to) (-1) j)) := hp2; clear hb1 hp1 hp2)
    | (go_at_call 9; refine (R2.out w1 B1.out).mono ?_; rintro e w2 ⟨rfl, hb2, hs2, hc2⟩; have B2 : Hid (Below w1.heap.size w1 w2) := hb2; have C2 : Hid (Below w.heap.size w w2) := below_next B1.out hb2; have S2 : Hid (w1.heap.size < w2.heap.size) := hs2; have Q2 : Hid (∀ j, j < n → w2.cell? ⟨w1.heap.size, j, none⟩ = some (.bool (rb n to (-1) j))) := hc2; clear hb2 hs2 hc2)
    | (go_at_call 10; refine (F1.out w2 C2.out).mono ?_; rintro e w3 ⟨rfl, hb3, vs, hr3⟩; have B3 : Hid (Below w2.heap.size w2 w3) := hb3; have C3 : Hid (Below w.heap.size w w3) := below_next C2.out hb3; have Q3 : Hid (RR w3 w2.heap.size n vs (fr n to)) := hr3; clear hb3 hr3)
    | (go_at_call 11; refine (F2.out w3 C3.out).mono ?_; rintro e w4 ⟨v4, xs, rfl, hr4, hb4⟩; obtain ⟨DD, CC, rfl, hDl, hDc⟩ := hr4.cell (by simp; omega); have B4 : Hid (Below w3.heap.size w3 w4) := hb4; have C4 : Hid (Below w.heap.size w w4) := below_next C3.out hb4; have L4 : Hid (DD < w4.heap.size) := hDl; have Q4 : Hid (∀ j (hj : j < ((List.range n).map (fr n to)).length), ∃ x, w4.cell? ⟨DD, j, none⟩ = some (sv x) ∧ ON w3.heap.size ((List.range n).map (fr n to))[j] (sv x) w4) := hDc; have e4 : ((List.range n).map (fr n to)).length = n := (by simp : ((List.range n).map (fr n to)).length = n); clear hb4 hr4 hDl hDc)
    | (go_at_call 13; refine (O1.out w4 C4.out).mono ?_; rintro e w5 ⟨v5, rfl, hn5, hb5⟩; have B5 : Hid (Below w4.heap.size w4 w5) := hb5; have C5 : Hid (Below w.heap.size w w5) := below_next C4.out hb5; have N5 : Hid (NumsIn w5 ((ord n to).map fun x : Nat => (x : Int)) v5) := hn5; obtain ⟨A5, K5, e5, -⟩ := hn5; rw [List.length_map] at e5; subst e5; clear hb5)
    | (go_at_call 14; refine (O2.out w5 C5.out).mono ?_; rintro e w6 ⟨v6, rfl, hn6, hb6⟩; have B6 : Hid (Below w5.heap.size w5 w6) := hb6; have C6 : Hid (Below w.heap.size w w6) := below_next C5.out hb6; have N6 : Hid (NumsIn w6 ((ord n to).map fun x : Nat => (x : Int)) v6) := hn6.nums; obtain ⟨A6, K6, e6, -⟩ := hn6.shape; subst e6; clear hb6 hn6)
    | (go_at_call 12; refine (ints_c _ _ _ _ w9 (N8.out.below B9.out) N9.out (by simp; omega)).mono ?_; rintro e wt ⟨rfl, hbt⟩; have BT : Hid (Below w9.heap.size w9 wt) := hbt; have hdt : decide ((List.range n).map (dm n to) = (List.range n).map (dm n to)) = true := decide_eq_true rfl; clear hbt)
    | (go_at_call 12; refine (ints_c _ _ _ _ w6 (N5.out.below B6.out) N6.out (by simp; omega)).mono ?_; rintro e w7 ⟨rfl, hb7⟩; have B7 : Hid (Below w6.heap.size w6 w7) := hb7; have C7 : Hid (Below w.heap.size w w7) := below_next C6.out hb7; have hdo : decide ((ord n to).map (fun x : Nat => (x : Int)) = (ord n to).map fun x : Nat => (x : Int)) = true := decide_eq_true rfl; clear hb7)
    | (go_at_call 15; refine (D1.out w7 C7.out).mono ?_; rintro e w8 ⟨rfl, hb8, hz8⟩; have B8 : Hid (Below w7.heap.size w7 w8) := hb8; have C8 : Hid (Below w.heap.size w w8) := below_next C7.out hb8; have N8 : Hid (NumsIn w8 ((List.range n).map (dm n to)) (.slice (some ⟨w7.heap.size, 0, none⟩) n n)) := hz8.nums; clear hb8 hz8)
    | (go_at_call 16; refine (D2.out w8 C8.out).mono ?_; rintro e w9 ⟨v9, rfl, hn9, hb9⟩; have B9 : Hid (Below w8.heap.size w8 w9) := hb9; have C9 : Hid (Below w.heap.size w w9) := below_next C8.out hb9; have N9 : Hid (NumsIn w9 ((List.range n).map (dm n to)) v9) := hn9.nums; obtain ⟨A9, K9, e9, -⟩ := hn9.shape; rw [List.length_map, List.length_range] at e9; subst e9; clear hb9 hn9))
  have b9 := BT.out
  have b8 := below_next B9.out b9
  have b7 := below_next B8.out b8
  have b6 := below_next B7.out b7
  have b5 := below_next B6.out b6
  have b4 := below_next B5.out b5
  have b3 := below_next B4.out b4
  have b2 := below_next B3.out b3
  have b1 := below_next B2.out b2
  have CT : Hid (Below w.heap.size w wt) := below_next B1.out b1
  have AT : Hid (∀ wr, Below wt.heap.size wt wr → ∀ j, j < n → wr.cell? ⟨w.heap.size, j, none⟩ = some (.bool (p j))) := fun wr hb j hj => BR.cell (show BR wr w.heap.size n p from At.below P1.out (below_next b1 hb) P1.out.lt) j hj
  have BTT : Hid (∀ wr, Below wt.heap.size wt wr → ∀ j, j < n → wr.cell? ⟨w1.heap.size, j, none⟩ = some (.bool (p j))) := fun wr hb j hj => by
    rw [(below_next b2 hb).cell (p := ⟨w1.heap.size, j, none⟩) S2.out, Q2.out j hj]
    congr 2
    rcases Bool.eq_false_or_eq_true (p j) with h1 | h1
    · rw [h1, (rb_iff _ _ _ _).2 ((Q1.out j hj).1 h1)]
    · rw [h1]
      rcases Bool.eq_false_or_eq_true (rb n to (-1) j) with h2 | h2
      · have := (Q1.out j hj).2 ((rb_iff _ _ _ _).1 h2)
        rw [h1] at this
        cases this
      · exact h2
  have CTT : Hid (∀ wr, Below wt.heap.size wt wr → RR wr w2.heap.size n vs (fr n to)) := fun wr hb => Q3.out.kp (Kp.of_below (F := fun _ => False) (below_next b3 hb)) fun _ h => h.elim
  have DTT : Hid (∀ j, j < n → ∃ x, ∀ wr, Below wt.heap.size wt wr → wr.cell? ⟨DD, j, none⟩ = some (sv x) ∧ ON w3.heap.size (fr n to j) (sv x) wr) := fun j hj => by
    obtain ⟨x, h1, h2⟩ := Q4.out j (by rw [e4]; exact hj)
    refine ⟨x, fun wr hb => ⟨((below_next b4 hb).cell (p := ⟨DD, j, none⟩) L4.out).trans h1, ?_⟩⟩
    have := h2.below (below_next b4 hb)
    simpa using this
  have FLN : Hid (∀ i, (fr n to i).length ≤ n) := fun i => frT_len n to i n
  clear b1 b2 b3 b4 b5 b6 b7 b8 b9 R1 R2 F1 F2 O1 O2 D1 D2
  go_loopw [9] (fun iv wr => ∃ i : Nat, i ≤ n ∧ iv = .int .i64 (i : Int) ∧ Below wt.heap.size wt wr) (fun iv _ => n - (intOf iv).toNat)
  case atStart => exact ⟨0, Nat.zero_le _, rfl, Below.refl _ _⟩
  case round =>
    obtain ⟨i, hi, rfl, hB⟩ := hrel
    have BR1 : Hid (Below wt.heap.size wt wr) := hB
    clear hB
    rcases Nat.lt_or_ge i n with hi' | hi'
    · have hiz : (i : Int) < n := by omega
      obtain ⟨x, hx⟩ := DTT.out i hi'
      have OV := (CTT.out wr BR1.out).2.1 i hi'
      obtain ⟨Av, Cv, ev, -⟩ := OV.shape
      obtain ⟨Ax, Cx, ex, -⟩ := (hx wr BR1.out).2.shape
      have NV : Hid (∀ wq, Below wt.heap.size wt wq → NumsIn wq ((fr n to i).map fun x : Nat => (x : Int)) (.slice Av (fr n to i).length Cv)) := fun wq hb => by
        have := ((CTT.out wq hb).2.1 i hi').nums
        rwa [ev] at this
      have NX : Hid (∀ wq, Below wt.heap.size wt wq → NumsIn wq ((fr n to i).map fun x : Nat => (x : Int)) (.slice Ax (fr n to i).length Cx)) := fun wq hb => by
        have := (hx wq hb).2.nums
        rwa [ex] at this
      have hfl := FLN.out i
      have SK : Hid (∀ wq, Below wr.heap.size wr wq → wq.cell? ⟨w.heap.size, i, none⟩ = some (.bool (p i)) ∧ wq.cell? ⟨w1.heap.size, i, none⟩ = some (.bool (p i)) ∧ wq.cell? ⟨w2.heap.size, i, none⟩ = some (.slice Av (fr n to i).length Cv) ∧ wq.cell? ⟨DD, i, none⟩ = some (.slice Ax (fr n to i).length Cx)) := fun wq hb => by
        have hb' := below_next BR1.out hb
        refine ⟨AT.out wq hb' i hi', BTT.out wq hb' i hi', ?_, ?_⟩
        · rw [(CTT.out wq hb').cell i hi', ev]
        · rw [(hx wq hb').1, ex]
      have IC : Hid (Calls Try.prog 12 #[.slice Av (fr n to i).length Cv, .slice Ax (fr n to i).length Cx] wr.drew fun e w' => e = .returned (.bool true) ∧ Below wr.drew.heap.size wr.drew w') := by
        have := ints_c _ _ _ _ wr.drew (NV.out _ (below_next BR1.out (below_drew _))) (NX.out _ (below_next BR1.out (below_drew _))) (by simp; omega)
        rwa [decide_eq_true rfl] at this
      clear OV ev ex hx
      generalize (fr n to i).length = L at *
      generalize p i = β at *
      go_wp2
      refine wp_region_N (fun w' => w'.cell? ⟨w.heap.size, i, none⟩ = some (.bool β) ∧ w'.cell? ⟨w1.heap.size, i, none⟩ = some (.bool β) ∧ w'.cell? ⟨w2.heap.size, i, none⟩ = some (.slice Av L Cv) ∧ w'.cell? ⟨DD, i, none⟩ = some (.slice Ax L Cx)) (fun _ => true) mixed (SK.out _ (below_drew _)) ?_
      intro S0
      refine wpAnyN_take (i := 0) (v := .slice (some ⟨w.heap.size, 0, none⟩) n n) rfl (by kernel_rfl) (by kernel_rfl) (by kernel_rfl) (by kernel_rfl) (fun _ _ _ h => h) (Or.inl ⟨by rfl, ?_⟩) S0 ?_
      · intro w' hS'
        obtain ⟨h1, h2, h3, h4⟩ := hS'
        go_simp
      (try simp only [Act.put, List.getElem_toArray, List.getElem_cons_zero, List.setIfInBounds_toArray, List.set_cons_zero, List.set_cons_succ])
      refine wpAnyN_take (i := 1) (v := .int .i64 (i : Int)) rfl (by kernel_rfl) (by kernel_rfl) (by kernel_rfl) (by kernel_rfl) (fun _ _ _ h => h) (Or.inl ⟨by rfl, ?_⟩) S0 ?_
      · intro w' hS'
        obtain ⟨h1, h2, h3, h4⟩ := hS'
        go_simp
      (try simp only [Act.put, List.getElem_toArray, List.getElem_cons_succ, List.getElem_cons_zero, List.setIfInBounds_toArray, List.set_cons_zero, List.set_cons_succ])
      refine wpAnyN_take (i := 2) (v := .pointer (some ⟨w.heap.size, i, none⟩)) rfl (by kernel_rfl) (by kernel_rfl) (by kernel_rfl) (by kernel_rfl) (fun _ _ _ h => h) (Or.inl ⟨by rfl, ?_⟩) S0 ?_
      · intro w' hS'
        obtain ⟨h1, h2, h3, h4⟩ := hS'
        go_simp
      (try simp only [Act.put, List.getElem_toArray, List.getElem_cons_succ, List.getElem_cons_zero, List.setIfInBounds_toArray, List.set_cons_zero, List.set_cons_succ])
      refine wpAnyN_take (i := 3) (v := .bool β) rfl (by kernel_rfl) (by kernel_rfl) (by kernel_rfl) (by kernel_rfl) (fun _ _ _ h => h) (Or.inl ⟨by rfl, ?_⟩) S0 ?_
      · intro w' hS'
        obtain ⟨h1, h2, h3, h4⟩ := hS'
        go_simp
      (try simp only [Act.put, List.getElem_toArray, List.getElem_cons_succ, List.getElem_cons_zero, List.setIfInBounds_toArray, List.set_cons_zero, List.set_cons_succ])
      refine wpAnyN_take (i := 4) (v := .slice (some ⟨w1.heap.size, 0, none⟩) n n) rfl (by kernel_rfl) (by kernel_rfl) (by kernel_rfl) (by kernel_rfl) (fun _ _ _ h => h) (Or.inl ⟨by rfl, ?_⟩) S0 ?_
      · intro w' hS'
        obtain ⟨h1, h2, h3, h4⟩ := hS'
        go_simp
      (try simp only [Act.put, List.getElem_toArray, List.getElem_cons_succ, List.getElem_cons_zero, List.setIfInBounds_toArray, List.set_cons_zero, List.set_cons_succ])
      refine wpAnyN_take (i := 5) (v := .int .i64 (i : Int)) rfl (by kernel_rfl) (by kernel_rfl) (by kernel_rfl) (by kernel_rfl) (fun _ _ _ h => h) (Or.inl ⟨by rfl, ?_⟩) S0 ?_
      · intro w' hS'
        obtain ⟨h1, h2, h3, h4⟩ := hS'
        go_simp
      (try simp only [Act.put, List.getElem_toArray, List.getElem_cons_succ, List.getElem_cons_zero, List.setIfInBounds_toArray, List.set_cons_zero, List.set_cons_succ])
      refine wpAnyN_take (i := 6) (v := .pointer (some ⟨w1.heap.size, i, none⟩)) rfl (by kernel_rfl) (by kernel_rfl) (by kernel_rfl) (by kernel_rfl) (fun _ _ _ h => h) (Or.inl ⟨by rfl, ?_⟩) S0 ?_
      · intro w' hS'
        obtain ⟨h1, h2, h3, h4⟩ := hS'
        go_simp
      (try simp only [Act.put, List.getElem_toArray, List.getElem_cons_succ, List.getElem_cons_zero, List.setIfInBounds_toArray, List.set_cons_zero, List.set_cons_succ])
      refine wpAnyN_take (i := 7) (v := .bool β) rfl (by kernel_rfl) (by kernel_rfl) (by kernel_rfl) (by kernel_rfl) (fun _ _ _ h => h) (Or.inl ⟨by rfl, ?_⟩) S0 ?_
      · intro w' hS'
        obtain ⟨h1, h2, h3, h4⟩ := hS'
        go_simp
      (try simp only [Act.put, List.getElem_toArray, List.getElem_cons_succ, List.getElem_cons_zero, List.setIfInBounds_toArray, List.set_cons_zero, List.set_cons_succ])
      refine wpAnyN_take (i := 8) (v := .bool false) rfl (by kernel_rfl) (by kernel_rfl) (by kernel_rfl) (by kernel_rfl) (fun _ _ _ h => h) (Or.inl ⟨by rfl, ?_⟩) S0 ?_
      · intro w' hS'
        obtain ⟨h1, h2, h3, h4⟩ := hS'
        go_simp
      (try simp only [Act.put, List.getElem_toArray, List.getElem_cons_succ, List.getElem_cons_zero, List.setIfInBounds_toArray, List.set_cons_zero, List.set_cons_succ])
      refine wpAnyN_take (i := 9) (v := .bool false) rfl (by kernel_rfl) (by kernel_rfl) (by kernel_rfl) (by kernel_rfl) (fun _ _ _ h => h) (Or.inl ⟨by rfl, ?_⟩) S0 ?_
      · intro w' hS'
        obtain ⟨h1, h2, h3, h4⟩ := hS'
        go_simp
      (try simp only [Act.put, List.getElem_toArray, List.getElem_cons_succ, List.getElem_cons_zero, List.setIfInBounds_toArray, List.set_cons_zero, List.set_cons_succ])
      refine wpAnyN_take (i := 10) (v := .slice (some ⟨w2.heap.size, 0, none⟩) n n) rfl (by kernel_rfl) (by kernel_rfl) (by kernel_rfl) (by kernel_rfl) (fun _ _ _ h => h) (Or.inl ⟨by rfl, ?_⟩) S0 ?_
      · intro w' hS'
        obtain ⟨h1, h2, h3, h4⟩ := hS'
        go_simp
      (try simp only [Act.put, List.getElem_toArray, List.getElem_cons_succ, List.getElem_cons_zero, List.setIfInBounds_toArray, List.set_cons_zero, List.set_cons_succ])
      refine wpAnyN_take (i := 11) (v := .int .i64 (i : Int)) rfl (by kernel_rfl) (by kernel_rfl) (by kernel_rfl) (by kernel_rfl) (fun _ _ _ h => h) (Or.inl ⟨by rfl, ?_⟩) S0 ?_
      · intro w' hS'
        obtain ⟨h1, h2, h3, h4⟩ := hS'
        go_simp
      (try simp only [Act.put, List.getElem_toArray, List.getElem_cons_succ, List.getElem_cons_zero, List.setIfInBounds_toArray, List.set_cons_zero, List.set_cons_succ])
      refine wpAnyN_take (i := 12) (v := .pointer (some ⟨w2.heap.size, i, none⟩)) rfl (by kernel_rfl) (by kernel_rfl) (by kernel_rfl) (by kernel_rfl) (fun _ _ _ h => h) (Or.inl ⟨by rfl, ?_⟩) S0 ?_
      · intro w' hS'
        obtain ⟨h1, h2, h3, h4⟩ := hS'
        go_simp
      (try simp only [Act.put, List.getElem_toArray, List.getElem_cons_succ, List.getElem_cons_zero, List.setIfInBounds_toArray, List.set_cons_zero, List.set_cons_succ])
      refine wpAnyN_take (i := 13) (v := .slice Av L Cv) rfl (by kernel_rfl) (by kernel_rfl) (by kernel_rfl) (by kernel_rfl) (fun _ _ _ h => h) (Or.inl ⟨by rfl, ?_⟩) S0 ?_
      · intro w' hS'
        obtain ⟨h1, h2, h3, h4⟩ := hS'
        go_simp
      (try simp only [Act.put, List.getElem_toArray, List.getElem_cons_succ, List.getElem_cons_zero, List.setIfInBounds_toArray, List.set_cons_zero, List.set_cons_succ])
      refine wpAnyN_take (i := 14) (v := .slice (some ⟨DD, 0, none⟩) n CC) rfl (by kernel_rfl) (by kernel_rfl) (by kernel_rfl) (by kernel_rfl) (fun _ _ _ h => h) (Or.inl ⟨by rfl, ?_⟩) S0 ?_
      · intro w' hS'
        obtain ⟨h1, h2, h3, h4⟩ := hS'
        go_simp
      (try simp only [Act.put, List.getElem_toArray, List.getElem_cons_succ, List.getElem_cons_zero, List.setIfInBounds_toArray, List.set_cons_zero, List.set_cons_succ])
      refine wpAnyN_take (i := 15) (v := .int .i64 (i : Int)) rfl (by kernel_rfl) (by kernel_rfl) (by kernel_rfl) (by kernel_rfl) (fun _ _ _ h => h) (Or.inl ⟨by rfl, ?_⟩) S0 ?_
      · intro w' hS'
        obtain ⟨h1, h2, h3, h4⟩ := hS'
        go_simp
      (try simp only [Act.put, List.getElem_toArray, List.getElem_cons_succ, List.getElem_cons_zero, List.setIfInBounds_toArray, List.set_cons_zero, List.set_cons_succ])
      refine wpAnyN_take (i := 16) (v := .pointer (some ⟨DD, i, none⟩)) rfl (by kernel_rfl) (by kernel_rfl) (by kernel_rfl) (by kernel_rfl) (fun _ _ _ h => h) (Or.inl ⟨by rfl, ?_⟩) S0 ?_
      · intro w' hS'
        obtain ⟨h1, h2, h3, h4⟩ := hS'
        go_simp
      (try simp only [Act.put, List.getElem_toArray, List.getElem_cons_succ, List.getElem_cons_zero, List.setIfInBounds_toArray, List.set_cons_zero, List.set_cons_succ])
      refine wpAnyN_take (i := 17) (v := .slice Ax L Cx) rfl (by kernel_rfl) (by kernel_rfl) (by kernel_rfl) (by kernel_rfl) (fun _ _ _ h => h) (Or.inl ⟨by rfl, ?_⟩) S0 ?_
      · intro w' hS'
        obtain ⟨h1, h2, h3, h4⟩ := hS'
        go_simp
      (try simp only [Act.put, List.getElem_toArray, List.getElem_cons_succ, List.getElem_cons_zero, List.setIfInBounds_toArray, List.set_cons_zero, List.set_cons_succ])
      refine wpAnyN_one (i := 18) (by kernel_rfl) rfl (fun K hK => ?_)
      go_simp
      (go_at_call 12; refine IC.out.mono ?_; rintro e w5 ⟨rfl, hb5⟩)
      have B5' : Hid (Below wr.heap.size wr w5) := below_next (below_drew _) hb5
      have S5 := SK.out w5 B5'.out
      have C5' : Hid (Below wt.heap.size wt w5) := below_next BR1.out B5'.out
      clear hb5
      go_wp2_with fail
      refine hK _ _ (fun _ => S5) ?_
      clear hK K
      (try simp only [Act.put, List.getElem_toArray, List.getElem_cons_succ, List.getElem_cons_zero, List.setIfInBounds_toArray, List.set_cons_zero, List.set_cons_succ])
      refine wpAnyN_one (i := 19) (by kernel_rfl) rfl (fun K hK => ?_)
      go_simp
      refine hK _ _ (fun h => S5) ?_
      clear hK K
      (try simp only [Act.put, List.getElem_toArray, List.getElem_cons_succ, List.getElem_cons_zero, List.setIfInBounds_toArray, List.set_cons_zero, List.set_cons_succ])
      refine wpAnyN_one (i := 20) (by kernel_rfl) rfl (fun K hK => ?_)
      go_simp
      refine hK _ _ (fun h => S5) ?_
      clear hK K
      (try simp only [Act.put, List.getElem_toArray, List.getElem_cons_succ, List.getElem_cons_zero, List.setIfInBounds_toArray, List.set_cons_zero, List.set_cons_succ])
      refine wpAnyN_done (by kernel_rfl) ?_ _
      clear S0 S5
      go_wp2
      go_roundw
      case rel => exact ⟨i + 1, by omega, by go_num, C5'.out⟩
      case measure => simp [intOf]; omega
    · have hiz : ¬ (i : Int) < n := by omega
      go_wp2
      go_ret
      exact ⟨rfl, below_next CT.out BR1.out⟩
end Go.Proofs.Ytmmgdiecmokipaa
