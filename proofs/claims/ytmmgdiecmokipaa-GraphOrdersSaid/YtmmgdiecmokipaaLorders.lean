/-
  Proved: GraphOrders answers true.
-/
import Derived.Test.YtmmgdiecmokipaaLfew
namespace Go.Proofs.Ytmmgdiecmokipaa
open Go.RowKit

/-- Where a block stands among the first k, counted from 1; 0: not there. -/
def plc (L : List Nat) (k b : Nat) : Int := if b ∈ L.take k then ((L.idxOf b + 1 : Nat) : Int) else 0

theorem idx_of {L : List Nat} (hn : L.Nodup) {k : Nat} (hk : k < L.length) : L.idxOf L[k] = k := by
  have h1 : L.idxOf L[k] < L.length := List.idxOf_lt_length_of_mem (List.getElem_mem hk)
  exact nodup_inj hn h1 hk (List.getElem_idxOf h1)

theorem plc_step {L : List Nat} (hn : L.Nodup) {k : Nat} (hk : k < L.length) : plc L (k + 1) = pu (plc L k) L[k] ((k + 1 : Nat) : Int) := by
  funext b
  unfold plc
  rw [List.take_succ_eq_append_getElem hk]
  by_cases e : b = L[k]
  · subst e
    rw [pu_self, if_pos (List.mem_append_right _ (List.mem_singleton.2 rfl)), idx_of hn hk]
  · rw [pu_ne _ _ e]
    by_cases h : b ∈ L.take k
    · rw [if_pos h, if_pos (List.mem_append_left _ h)]
    · rw [if_neg h, if_neg]
      intro h2
      rcases List.mem_append.1 h2 with h3 | h3
      · exact h h3
      · exact e (List.mem_singleton.1 h3)

theorem plc_new {L : List Nat} (hn : L.Nodup) {k : Nat} (hk : k < L.length) : plc L k L[k] = 0 := by
  unfold plc
  rw [if_neg]
  intro h
  obtain ⟨j, hj, e⟩ := List.getElem_of_mem h
  rw [List.getElem_take] at e
  rw [List.length_take] at hj
  have := nodup_inj hn (by omega) hk e
  omega

/-- How many of the first k blocks can be come to. -/
noncomputable def cnR (n : Nat) (to : List (List Int)) (k : Nat) : Nat := ((List.range k).filter fun i => rb n to (-1) i).length

theorem cnR_step (n : Nat) (to : List (List Int)) (k : Nat) : cnR n to (k + 1) = cnR n to k + if rb n to (-1) k = true then 1 else 0 := by
  unfold cnR
  rw [List.range_succ, List.filter_append, List.length_append]
  congr 1
  cases h : rb n to (-1) k
  · rw [List.filter_cons_of_neg (by rw [h]; simp)]; rfl
  · rw [List.filter_cons_of_pos h]; rfl

theorem cnR_le (n : Nat) (to : List (List Int)) (k : Nat) : cnR n to k ≤ k := by
  unfold cnR
  refine Nat.le_trans (List.length_filter_le _ _) ?_
  simp

theorem cnR_all (n : Nat) (to : List (List Int)) (h0 : 0 < n) : cnR n to n = (ord n to).length := by
  obtain ⟨l, e, hnd, hmem, _⟩ := ord_all n to h0
  rw [e]
  have hlt : ∀ x, Rch (wy n to) (-1) x → x < n := fun x hr => by
    have h5 : x < n ∨ x = 0 := hr.2 (fun x => x < n ∨ x = 0) (Or.inr rfl) fun a b _ hb _ => Or.inl (wy_lt n to a b hb)
    omega
  unfold cnR
  apply Nat.le_antisymm
  · refine List.Nodup.length_le_of_subset (List.Pairwise.filter _ List.nodup_range) fun x hx => ?_
    exact (hmem x).2 ((rb_iff _ _ _ _).1 (List.mem_filter.1 hx).2)
  · refine List.Nodup.length_le_of_subset hnd fun x hx => ?_
    have hr := (hmem x).1 hx
    exact List.mem_filter.2 ⟨by simpa using hlt x hr, (rb_iff _ _ _ _).2 hr⟩

theorem below_next' {a b c : World} (h : Below a.heap.size a b) (k : Below b.heap.size b c) : Below a.heap.size a c := below_next h k

set_option maxRecDepth 20000 in
set_option maxHeartbeats 8000000 in
theorem orders_pos (z : Int) (k n : Nat) (hm : bits .and .i64 z 31 = (k : Int)) (hkn : (1 : Int) + (k : Int) = (n : Int)) (h0 : 0 < n) (hn : n ≤ 32) (to : List (List Int)) (tv : Value) (w : World) (h : RwsIn w to tv) (hl : to.length ≤ 281474976710656) (hl2 : ∀ i (h : i < to.length), (to[i]'h).length ≤ 281474976710656) (hf : Fw to) (hfs : fsum to to.length < 200) :
    Calls Try.prog 4 #[.int .i64 z, tv] w fun e w' => e = .returned (.bool true) ∧ Below w.heap.size w w' := by
  have mixed : Try.prog.follows Departure.mixedOrders = true := by kernel_rfl
  have FD : Hid (Calls Try.prog 7 #[tv] w fun e w' => e = .returned (.bool true) ∧ w' = w) := by
    have := few_d to tv w h hl hl2
    rwa [decide_eq_true hfs] at this
  have R1 : Hid (∀ w1, Below w.heap.size w w1 → Calls Try.prog 8 #[.int .i64 (n : Int), tv] w1 fun e w' => e = .returned (.slice (some ⟨w1.heap.size, 0, none⟩) n n) ∧ Below w1.heap.size w1 w' ∧ ∃ p, BR w' w1.heap.size n p ∧ ∀ j, j < n → (p j = true ↔ Rch (wy n to) (-1) j)) := fun w1 hb => reach_p n n (Or.inl rfl) (by omega) to tv w1 (h.below hb) hf
  have O1 : Hid (∀ w1, Below w.heap.size w w1 → Calls Try.prog 13 #[.int .i64 (n : Int), tv] w1 fun e w' => ∃ v, e = .returned v ∧ NumsIn w' ((ord n to).map fun x : Nat => (x : Int)) v ∧ Below w1.heap.size w1 w') := fun w1 hb => order_p n n (Or.inl rfl) (by omega) to tv w1 (h.below hb) hf
  have D1 : Hid (∀ w1, Below w.heap.size w w1 → Calls Try.prog 15 #[.int .i64 (n : Int), tv] w1 fun e w' => e = .returned (.slice (some ⟨w1.heap.size, 0, none⟩) n n) ∧ Below w1.heap.size w1 w' ∧ IZ w' w1.heap.size n (dm n to)) := fun w1 hb => doms_p n h0 (by omega) to tv w1 (h.below hb) hf
  have hmk := make_i n (by omega)
  obtain ⟨l, eo, hnd, hmem, hdom⟩ := ord_all n to h0
  have hlt : ∀ x, x ∈ ord n to → x < n := fun x hx => by
    have hr := (hmem x).1 (by rw [← eo]; exact hx)
    have h5 : x < n ∨ x = 0 := hr.2 (fun x => x < n ∨ x = 0) (Or.inr rfl) fun a b _ hb _ => Or.inl (wy_lt n to a b hb)
    omega
  have ND : Hid ((ord n to).Nodup) := (by rw [eo]; exact hnd : (ord n to).Nodup)
  have LT : Hid (∀ x, x ∈ ord n to → x < n) := hlt
  have ME : Hid (∀ x, x ∈ ord n to ↔ Rch (wy n to) (-1) x) := fun x => by rw [eo]; exact hmem x
  have DO : Hid (∀ i j (hi : i < (ord n to).length) (hj : j < (ord n to).length), Dom (wy n to) (ord n to)[j] (ord n to)[i] → j < i) := fun i j hi hj hd => hdom (by rw [← eo]; exact hi) (by rw [← eo]; exact hj) (by simpa only [eo] using hd)
  have HZ : Hid (∃ h : 0 < (ord n to).length, (ord n to)[0] = 0) := ⟨by rw [eo]; simp, by simp only [eo]; rfl⟩
  have CN : Hid (cnR n to n = (ord n to).length) := cnR_all n to h0
  have OL : (ord n to).length ≤ n := by rw [← CN.out]; exact cnR_le n to n
  clear eo hnd hmem hdom hlt
  obtain ⟨A, C, rfl, -⟩ := h
  clear hf hl hl2
  generalize hL : ord n to = L at *
  have hnn : ((n : Int) == (n : Int)) = true := by simp
  have hL0 : ((L.length : Int) == 0) = false := by obtain ⟨h, _⟩ := HZ.out; simp; intro h2; rw [h2] at h; simp at h
  have hL1 : ¬ (L.length : Int) = 0 := by obtain ⟨h, _⟩ := HZ.out; omega
  go_enter Try.func4, Try.ntmps4
  go_wp2_with (first
    | (go_at_call 7; refine FD.out.mono ?_; rintro e wa ⟨rfl, hwa⟩; rw [hwa]; clear hwa wa)
    | (go_at_call 13; refine (O1.out w (Below.refl _ _)).mono ?_; rintro e w1 ⟨v1, rfl, hn1, hb1⟩; have B1 : Hid (Below w.heap.size w w1) := hb1; obtain ⟨A1, K1, e1, hn2⟩ := hn1; rw [List.length_map] at e1; subst e1; obtain ⟨hl0, hz0⟩ := HZ.out; obtain ⟨ob, oo, rfl, hob, hoc⟩ := hn2 0 (by simp; omega); have N1 : Hid (∀ i (hi : i < L.length), w1.cell? ⟨ob, oo + i, none⟩ = some (.int .i64 (L[i] : Int)) ∧ ob < w1.heap.size) := (fun i hi => by
        obtain ⟨b', o', e', h1, h2⟩ := hn2 i (by simpa using hi)
        injection e' with e'
        injection e' with e1 e2 _
        subst e1 e2
        exact ⟨by simpa using h2, h1⟩); have hl0z : (0 : Int) < L.length := (by omega); clear hb1 hn2 hob hoc)
    | (go_at_call 8; refine (R1.out w1 B1.out).mono ?_; rintro e w2 ⟨rfl, hb2, p, hp1, hp2⟩; have B2 : Hid (Below w1.heap.size w1 w2) := hb2; have C2 : Hid (Below w.heap.size w w2) := below_next B1.out hb2; have P2 : Hid (BR w2 w1.heap.size n p) := hp1; have Q2 : Hid (∀ j, j < n → (p j = true ↔ Rch (wy n to) (-1) j)) := hp2; clear hb2 hp1 hp2)
    | (go_at_call 15; refine (D1.out w2 C2.out).mono ?_; rintro e w3 ⟨rfl, hb3, hz3⟩; have B3 : Hid (Below w2.heap.size w2 w3) := hb3; have C3 : Hid (Below w.heap.size w w3) := below_next C2.out hb3; have Z3 : Hid (IZ w3 w2.heap.size n (dm n to)) := hz3; have c30 : w3.cell? ⟨w2.heap.size, 0, none⟩ = some (.int .i64 (-1)) := (by rw [hz3.cell 0 h0, dm_none n to 0 (fun h => by have := h.1; omega)]); have c31 : w3.cell? ⟨ob, oo, none⟩ = some (.int .i64 0) := (by have h1 := N1.out 0 hl0; rw [hz0] at h1; have := ((below_next B2.out hb3).cell (p := ⟨ob, oo + 0, none⟩) h1.2).trans h1.1; simpa using this); clear hb3 hz3))
  have Z4 : Hid (IZ (w3.alloc (.cells (madeCells #[.int .i64 0] n) 3)) w3.heap.size n (plc L 0)) := (IZ.made w3 n).ext fun i _ => by simp [plc]
  have B4 : Hid (Below w3.heap.size w3 (w3.alloc (.cells (madeCells #[.int .i64 0] n) 3))) := below_alloc _ _
  have OC : Hid (∀ wq, Below w3.heap.size w3 wq → ∀ i (hi : i < L.length), wq.cell? ⟨ob, oo + i, none⟩ = some (.int .i64 (L[i] : Int))) := fun wq hb i hi => ((below_next (below_next B2.out B3.out) hb).cell (p := ⟨ob, oo + i, none⟩) (N1.out i hi).2).trans (N1.out i hi).1
  have PC : Hid (∀ wq, Below w3.heap.size w3 wq → ∀ j, j < n → wq.cell? ⟨w1.heap.size, j, none⟩ = some (.bool (p j))) := fun wq hb j hj => BR.cell (show BR wq w1.heap.size n p from At.below P2.out (below_next B3.out hb) P2.out.lt) j hj
  have DC : Hid (∀ wq, Below w3.heap.size w3 wq → IZ wq w2.heap.size n (dm n to)) := fun wq hb => Z3.out.kp (Kp.of_below (F := fun _ => False) hb) (fun h => h)
  have PT : Hid (∀ x, x ∈ L → p x = true) := fun x hx => (Q2.out x (LT.out x hx)).2 ((ME.out x).1 hx)
  clear c30 c31 R1 O1 D1 FD
  generalize hw4 : w3.alloc (.cells (madeCells #[.int .i64 0] n) 3) = w4 at *
  go_loopw [10] (fun iv wr => ∃ i : Nat, i ≤ L.length ∧ iv = .int .i64 (i : Int) ∧ IZ wr w3.heap.size n (plc L i) ∧ Below w3.heap.size w3 wr) (fun iv _ => L.length - (intOf iv).toNat)
  case atStart => exact ⟨0, Nat.zero_le _, rfl, Z4.out, B4.out⟩
  case round =>
    obtain ⟨i, hi, rfl, hZ, hB⟩ := hrel
    have Z5 : Hid (IZ wr w3.heap.size n (plc L i)) := hZ
    have B5 : Hid (Below w3.heap.size w3 wr) := hB
    clear hZ hB
    rcases Nat.lt_or_ge i L.length with hi' | hi'
    · have hiz : (i : Int) < L.length := by omega
      have c1 := OC.out wr B5.out i hi'
      have hbm : L[i] ∈ L := List.getElem_mem hi'
      have hbn := LT.out _ hbm
      have c2 := Z5.out.cell _ hbn
      rw [plc_new ND.out hi'] at c2
      have f2 := Z5.out.frozen L[i]
      have c3 := PC.out wr B5.out _ hbn
      rw [PT.out _ hbm] at c3
      have Z6 : Hid (IZ (wr.setCell ⟨w3.heap.size, L[i], none⟩ (.int .i64 ((i : Int) + 1))) w3.heap.size n (plc L (i + 1))) := (by rw [plc_step ND.out hi']; exact Z5.out.set _ hbn _ : IZ (wr.setCell ⟨w3.heap.size, L[i], none⟩ (.int .i64 ((i : Int) + 1))) w3.heap.size n (plc L (i + 1)))
      have B6 : Hid (Below w3.heap.size w3 (wr.setCell ⟨w3.heap.size, L[i], none⟩ (.int .i64 ((i : Int) + 1)))) := below_set B5.out (Nat.le_refl _) _
      generalize L[i] = b at *
      have hbz : (b : Int) < n := by omega
      go_wp2
      go_roundw
      case rel => exact ⟨i + 1, by omega, by go_num, Z6.out, B6.out⟩
      case measure => simp [intOf]; omega
    · have hiz : ¬ (i : Int) < L.length := by omega
      obtain rfl : i = L.length := by omega
      clear Z4 B4 hw4
      go_wp2
      go_loopw [9, 12] (fun cv iv wz => ∃ i : Nat, i ≤ n ∧ iv = .int .i64 (i : Int) ∧ cv = .int .i64 (cnR n to i : Int) ∧ Below wr.heap.size wr wz) (fun _ iv _ => n - (intOf iv).toNat)
      case atStart => exact ⟨0, Nat.zero_le _, rfl, rfl, Below.refl _ _⟩
      case round =>
        rename World => wz
        obtain ⟨i, hi, rfl, rfl, hB⟩ := hrel
        have BZ : Hid (Below wr.heap.size wr wz) := hB
        have CZ : Hid (Below w3.heap.size w3 wz) := below_next' B5.out hB
        clear hB
        rcases Nat.lt_or_ge i n with hi' | hi'
        · have hiz : (i : Int) < n := by omega
          have hcl := cnR_le n to i
          have CS : Hid (cnR n to (i + 1) = cnR n to i + if rb n to (-1) i = true then 1 else 0) := cnR_step n to i
          generalize hc : cnR n to i = cc at *
          clear hc
          have c3 := PC.out wz CZ.out i hi'
          by_cases hr : Rch (wy n to) (-1) i
          · rw [(Q2.out i hi').2 hr] at c3
            have CS2 : Hid (cnR n to (i + 1) = cc + 1) := (by rw [CS.out, if_pos ((rb_iff _ _ _ _).2 hr)] : cnR n to (i + 1) = cc + 1)
            rcases Nat.eq_zero_or_pos i with h00 | h00
            · subst h00
              go_wp2
              refine wp_region_N (fun _ => True) (fun _ => true) mixed trivial ?_
              intro S0
              refine wpAnyN_take (i := 0) (v := .int .i64 0) rfl (by kernel_rfl) (by kernel_rfl) (by kernel_rfl) (by kernel_rfl) (fun _ _ _ h => h) (Or.inl ⟨by rfl, ?_⟩) S0 ?_
              · intro w' hS'
                go_simp
              (try simp only [Act.put, List.getElem_toArray, List.getElem_cons_zero, List.setIfInBounds_toArray, List.set_cons_zero, List.set_cons_succ])
              refine wpAnyN_take (i := 1) (v := .bool false) rfl (by kernel_rfl) (by kernel_rfl) (by kernel_rfl) (by kernel_rfl) (fun _ _ _ h => h) (Or.inl ⟨by rfl, ?_⟩) S0 ?_
              · intro w' hS'
                go_simp
              (try simp only [Act.put, List.getElem_toArray, List.getElem_cons_succ, List.getElem_cons_zero, List.setIfInBounds_toArray, List.set_cons_zero, List.set_cons_succ])
              refine wpAnyN_take (i := 2) (v := .bool false) rfl (by kernel_rfl) (by kernel_rfl) (by kernel_rfl) (by kernel_rfl) (fun _ _ _ h => h) (Or.inl ⟨by rfl, ?_⟩) S0 ?_
              · intro w' hS'
                go_simp
              (try simp only [Act.put, List.getElem_toArray, List.getElem_cons_succ, List.getElem_cons_zero, List.setIfInBounds_toArray, List.set_cons_zero, List.set_cons_succ])
              refine wpAnyN_take (i := 3) (v := undef) rfl (by kernel_rfl) (by kernel_rfl) (by kernel_rfl) (by kernel_rfl) (fun _ _ _ h => h) (Or.inr ⟨by rfl, rfl⟩) S0 ?_
              (try simp only [Act.put, List.getElem_toArray, List.getElem_cons_succ, List.getElem_cons_zero, List.setIfInBounds_toArray, List.set_cons_zero, List.set_cons_succ])
              refine wpAnyN_take (i := 4) (v := undef) rfl (by kernel_rfl) (by kernel_rfl) (by kernel_rfl) (by kernel_rfl) (fun _ _ _ h => h) (Or.inr ⟨by rfl, rfl⟩) S0 ?_
              (try simp only [Act.put, List.getElem_toArray, List.getElem_cons_succ, List.getElem_cons_zero, List.setIfInBounds_toArray, List.set_cons_zero, List.set_cons_succ])
              refine wpAnyN_take (i := 5) (v := undef) rfl (by kernel_rfl) (by kernel_rfl) (by kernel_rfl) (by kernel_rfl) (fun _ _ _ h => h) (Or.inr ⟨by rfl, rfl⟩) S0 ?_
              (try simp only [Act.put, List.getElem_toArray, List.getElem_cons_succ, List.getElem_cons_zero, List.setIfInBounds_toArray, List.set_cons_zero, List.set_cons_succ])
              refine wpAnyN_take (i := 6) (v := undef) rfl (by kernel_rfl) (by kernel_rfl) (by kernel_rfl) (by kernel_rfl) (fun _ _ _ h => h) (Or.inr ⟨by rfl, rfl⟩) S0 ?_
              (try simp only [Act.put, List.getElem_toArray, List.getElem_cons_succ, List.getElem_cons_zero, List.setIfInBounds_toArray, List.set_cons_zero, List.set_cons_succ])
              refine wpAnyN_take (i := 7) (v := undef) rfl (by kernel_rfl) (by kernel_rfl) (by kernel_rfl) (by kernel_rfl) (fun _ _ _ h => h) (Or.inr ⟨by rfl, rfl⟩) S0 ?_
              (try simp only [Act.put, List.getElem_toArray, List.getElem_cons_succ, List.getElem_cons_zero, List.setIfInBounds_toArray, List.set_cons_zero, List.set_cons_succ])
              refine wpAnyN_take (i := 8) (v := undef) rfl (by kernel_rfl) (by kernel_rfl) (by kernel_rfl) (by kernel_rfl) (fun _ _ _ h => h) (Or.inr ⟨by rfl, rfl⟩) S0 ?_
              (try simp only [Act.put, List.getElem_toArray, List.getElem_cons_succ, List.getElem_cons_zero, List.setIfInBounds_toArray, List.set_cons_zero, List.set_cons_succ])
              refine wpAnyN_take (i := 9) (v := undef) rfl (by kernel_rfl) (by kernel_rfl) (by kernel_rfl) (by kernel_rfl) (fun _ _ _ h => h) (Or.inr ⟨by rfl, rfl⟩) S0 ?_
              (try simp only [Act.put, List.getElem_toArray, List.getElem_cons_succ, List.getElem_cons_zero, List.setIfInBounds_toArray, List.set_cons_zero, List.set_cons_succ])
              refine wpAnyN_take (i := 10) (v := undef) rfl (by kernel_rfl) (by kernel_rfl) (by kernel_rfl) (by kernel_rfl) (fun _ _ _ h => h) (Or.inr ⟨by rfl, rfl⟩) S0 ?_
              (try simp only [Act.put, List.getElem_toArray, List.getElem_cons_succ, List.getElem_cons_zero, List.setIfInBounds_toArray, List.set_cons_zero, List.set_cons_succ])
              refine wpAnyN_take (i := 11) (v := undef) rfl (by kernel_rfl) (by kernel_rfl) (by kernel_rfl) (by kernel_rfl) (fun _ _ _ h => h) (Or.inr ⟨by rfl, rfl⟩) S0 ?_
              (try simp only [Act.put, List.getElem_toArray, List.getElem_cons_succ, List.getElem_cons_zero, List.setIfInBounds_toArray, List.set_cons_zero, List.set_cons_succ])
              refine wpAnyN_take (i := 12) (v := undef) rfl (by kernel_rfl) (by kernel_rfl) (by kernel_rfl) (by kernel_rfl) (fun _ _ _ h => h) (Or.inr ⟨by rfl, rfl⟩) S0 ?_
              (try simp only [Act.put, List.getElem_toArray, List.getElem_cons_succ, List.getElem_cons_zero, List.setIfInBounds_toArray, List.set_cons_zero, List.set_cons_succ])
              refine wpAnyN_take (i := 13) (v := undef) rfl (by kernel_rfl) (by kernel_rfl) (by kernel_rfl) (by kernel_rfl) (fun _ _ _ h => h) (Or.inr ⟨by rfl, rfl⟩) S0 ?_
              (try simp only [Act.put, List.getElem_toArray, List.getElem_cons_succ, List.getElem_cons_zero, List.setIfInBounds_toArray, List.set_cons_zero, List.set_cons_succ])
              refine wpAnyN_take (i := 14) (v := undef) rfl (by kernel_rfl) (by kernel_rfl) (by kernel_rfl) (by kernel_rfl) (fun _ _ _ h => h) (Or.inr ⟨by rfl, rfl⟩) S0 ?_
              (try simp only [Act.put, List.getElem_toArray, List.getElem_cons_succ, List.getElem_cons_zero, List.setIfInBounds_toArray, List.set_cons_zero, List.set_cons_succ])
              refine wpAnyN_take (i := 15) (v := undef) rfl (by kernel_rfl) (by kernel_rfl) (by kernel_rfl) (by kernel_rfl) (fun _ _ _ h => h) (Or.inr ⟨by rfl, rfl⟩) S0 ?_
              (try simp only [Act.put, List.getElem_toArray, List.getElem_cons_succ, List.getElem_cons_zero, List.setIfInBounds_toArray, List.set_cons_zero, List.set_cons_succ])
              refine wpAnyN_take (i := 16) (v := undef) rfl (by kernel_rfl) (by kernel_rfl) (by kernel_rfl) (by kernel_rfl) (fun _ _ _ h => h) (Or.inr ⟨by rfl, rfl⟩) S0 ?_
              (try simp only [Act.put, List.getElem_toArray, List.getElem_cons_succ, List.getElem_cons_zero, List.setIfInBounds_toArray, List.set_cons_zero, List.set_cons_succ])
              refine wpAnyN_take (i := 17) (v := undef) rfl (by kernel_rfl) (by kernel_rfl) (by kernel_rfl) (by kernel_rfl) (fun _ _ _ h => h) (Or.inr ⟨by rfl, rfl⟩) S0 ?_
              (try simp only [Act.put, List.getElem_toArray, List.getElem_cons_succ, List.getElem_cons_zero, List.setIfInBounds_toArray, List.set_cons_zero, List.set_cons_succ])
              refine wpAnyN_take (i := 18) (v := undef) rfl (by kernel_rfl) (by kernel_rfl) (by kernel_rfl) (by kernel_rfl) (fun _ _ _ h => h) (Or.inr ⟨by rfl, rfl⟩) S0 ?_
              (try simp only [Act.put, List.getElem_toArray, List.getElem_cons_succ, List.getElem_cons_zero, List.setIfInBounds_toArray, List.set_cons_zero, List.set_cons_succ])
              refine wpAnyN_take (i := 19) (v := undef) rfl (by kernel_rfl) (by kernel_rfl) (by kernel_rfl) (by kernel_rfl) (fun _ _ _ h => h) (Or.inr ⟨by rfl, rfl⟩) S0 ?_
              (try simp only [Act.put, List.getElem_toArray, List.getElem_cons_succ, List.getElem_cons_zero, List.setIfInBounds_toArray, List.set_cons_zero, List.set_cons_succ])
              refine wpAnyN_take (i := 20) (v := undef) rfl (by kernel_rfl) (by kernel_rfl) (by kernel_rfl) (by kernel_rfl) (fun _ _ _ h => h) (Or.inr ⟨by rfl, rfl⟩) S0 ?_
              (try simp only [Act.put, List.getElem_toArray, List.getElem_cons_succ, List.getElem_cons_zero, List.setIfInBounds_toArray, List.set_cons_zero, List.set_cons_succ])
              refine wpAnyN_take (i := 21) (v := undef) rfl (by kernel_rfl) (by kernel_rfl) (by kernel_rfl) (by kernel_rfl) (fun _ _ _ h => h) (Or.inr ⟨by rfl, rfl⟩) S0 ?_
              (try simp only [Act.put, List.getElem_toArray, List.getElem_cons_succ, List.getElem_cons_zero, List.setIfInBounds_toArray, List.set_cons_zero, List.set_cons_succ])
              refine wpAnyN_take (i := 22) (v := .bool false) rfl (by kernel_rfl) (by kernel_rfl) (by kernel_rfl) (by kernel_rfl) (fun _ _ _ h => h) (Or.inl ⟨by rfl, ?_⟩) S0 ?_
              · intro w' hS'
                go_simp
              (try simp only [Act.put, List.getElem_toArray, List.getElem_cons_succ, List.getElem_cons_zero, List.setIfInBounds_toArray, List.set_cons_zero, List.set_cons_succ])
              refine wpAnyN_done (by kernel_rfl) ?_ _
              clear S0
              go_wp2
              go_roundw
              case rel => exact ⟨0 + 1, by omega, by go_num, by rw [CS2.out]; go_num, below_next BZ.out (below_drew _)⟩
              case measure => simp [intOf]; omega
            · obtain ⟨d, hdn, hde, hnear⟩ := dm_near n to i h00 hi' hr
              have hdi : d ∈ L := (ME.out d).2 hnear.1.2.1
              have hii : i ∈ L := (ME.out i).2 hr
              obtain ⟨qi, hqi, eqi⟩ := List.getElem_of_mem hii
              obtain ⟨qd, hqd, eqd⟩ := List.getElem_of_mem hdi
              have hlt : qd < qi := DO.out qi qd hqi hqd (by rw [eqi, eqd]; exact hnear.1)
              have pi : plc L L.length i = ((qi + 1 : Nat) : Int) := by
                unfold plc
                rw [List.take_of_length_le (Nat.le_refl _), if_pos hii, ← eqi, idx_of ND.out hqi]
              have pd : plc L L.length d = ((qd + 1 : Nat) : Int) := by
                unfold plc
                rw [List.take_of_length_le (Nat.le_refl _), if_pos hdi, ← eqd, idx_of ND.out hqd]
              have SK : Hid (∀ wq, Below wz.heap.size wz wq → wq.cell? ⟨w2.heap.size, i, none⟩ = some (.int .i64 (d : Int)) ∧ wq.cell? ⟨w3.heap.size, d, none⟩ = some (.int .i64 ((qd : Int) + 1)) ∧ wq.cell? ⟨w3.heap.size, i, none⟩ = some (.int .i64 ((qi : Int) + 1))) := fun wq hb => by
                have z1 := (DC.out wq (below_next' CZ.out hb)).cell i hi'
                have z2 := Z5.out.kp (Kp.of_below (F := fun _ => False) (below_next BZ.out hb)) (fun h => h)
                have z3 := z2.cell d hdn
                have z4 := z2.cell i hi'
                rw [hde] at z1
                rw [pd] at z3
                rw [pi] at z4
                exact ⟨z1, z3, z4⟩
              have h00z : (0 : Int) < (i : Int) := by omega
              have hdz : (d : Int) < n := by omega
              have hdnn : ¬ (d : Int) < 0 := by omega
              have hge : ¬ (qi : Int) + 1 ≤ (qd : Int) + 1 := by omega
              have hge2 : ¬ (qi : Int) ≤ (qd : Int) := by omega
              clear eqi eqd hnear hde pi pd
              go_wp2
              refine wp_region_N (fun w' => w'.cell? ⟨w2.heap.size, i, none⟩ = some (.int .i64 (d : Int)) ∧ w'.cell? ⟨w3.heap.size, d, none⟩ = some (.int .i64 ((qd : Int) + 1)) ∧ w'.cell? ⟨w3.heap.size, i, none⟩ = some (.int .i64 ((qi : Int) + 1))) (fun _ => true) mixed (SK.out _ (below_drew _)) ?_
              intro S0
              refine wpAnyN_take (i := 0) (v := .int .i64 (i : Int)) rfl (by kernel_rfl) (by kernel_rfl) (by kernel_rfl) (by kernel_rfl) (fun _ _ _ h => h) (Or.inl ⟨by rfl, ?_⟩) S0 ?_
              · intro w' hS'
                obtain ⟨h1, h2, h3⟩ := hS'
                go_simp
              (try simp only [Act.put, List.getElem_toArray, List.getElem_cons_zero, List.setIfInBounds_toArray, List.set_cons_zero, List.set_cons_succ])
              refine wpAnyN_take (i := 1) (v := .bool true) rfl (by kernel_rfl) (by kernel_rfl) (by kernel_rfl) (by kernel_rfl) (fun _ _ _ h => h) (Or.inl ⟨by rfl, ?_⟩) S0 ?_
              · intro w' hS'
                obtain ⟨h1, h2, h3⟩ := hS'
                go_simp
              (try simp only [Act.put, List.getElem_toArray, List.getElem_cons_succ, List.getElem_cons_zero, List.setIfInBounds_toArray, List.set_cons_zero, List.set_cons_succ])
              refine wpAnyN_take (i := 2) (v := .bool true) rfl (by kernel_rfl) (by kernel_rfl) (by kernel_rfl) (by kernel_rfl) (fun _ _ _ h => h) (Or.inl ⟨by rfl, ?_⟩) S0 ?_
              · intro w' hS'
                obtain ⟨h1, h2, h3⟩ := hS'
                go_simp
              (try simp only [Act.put, List.getElem_toArray, List.getElem_cons_succ, List.getElem_cons_zero, List.setIfInBounds_toArray, List.set_cons_zero, List.set_cons_succ])
              refine wpAnyN_take (i := 3) (v := .slice (some ⟨w2.heap.size, 0, none⟩) n n) rfl (by kernel_rfl) (by kernel_rfl) (by kernel_rfl) (by kernel_rfl) (fun _ _ _ h => h) (Or.inl ⟨by rfl, ?_⟩) S0 ?_
              · intro w' hS'
                obtain ⟨h1, h2, h3⟩ := hS'
                go_simp
              (try simp only [Act.put, List.getElem_toArray, List.getElem_cons_succ, List.getElem_cons_zero, List.setIfInBounds_toArray, List.set_cons_zero, List.set_cons_succ])
              refine wpAnyN_take (i := 4) (v := .int .i64 (i : Int)) rfl (by kernel_rfl) (by kernel_rfl) (by kernel_rfl) (by kernel_rfl) (fun _ _ _ h => h) (Or.inl ⟨by rfl, ?_⟩) S0 ?_
              · intro w' hS'
                obtain ⟨h1, h2, h3⟩ := hS'
                go_simp
              (try simp only [Act.put, List.getElem_toArray, List.getElem_cons_succ, List.getElem_cons_zero, List.setIfInBounds_toArray, List.set_cons_zero, List.set_cons_succ])
              refine wpAnyN_take (i := 5) (v := .pointer (some ⟨w2.heap.size, i, none⟩)) rfl (by kernel_rfl) (by kernel_rfl) (by kernel_rfl) (by kernel_rfl) (fun _ _ _ h => h) (Or.inl ⟨by rfl, ?_⟩) S0 ?_
              · intro w' hS'
                obtain ⟨h1, h2, h3⟩ := hS'
                go_simp
              (try simp only [Act.put, List.getElem_toArray, List.getElem_cons_succ, List.getElem_cons_zero, List.setIfInBounds_toArray, List.set_cons_zero, List.set_cons_succ])
              refine wpAnyN_take (i := 6) (v := .int .i64 (d : Int)) rfl (by kernel_rfl) (by kernel_rfl) (by kernel_rfl) (by kernel_rfl) (fun _ _ _ h => h) (Or.inl ⟨by rfl, ?_⟩) S0 ?_
              · intro w' hS'
                obtain ⟨h1, h2, h3⟩ := hS'
                go_simp
              (try simp only [Act.put, List.getElem_toArray, List.getElem_cons_succ, List.getElem_cons_zero, List.setIfInBounds_toArray, List.set_cons_zero, List.set_cons_succ])
              refine wpAnyN_take (i := 7) (v := .bool false) rfl (by kernel_rfl) (by kernel_rfl) (by kernel_rfl) (by kernel_rfl) (fun _ _ _ h => h) (Or.inl ⟨by rfl, ?_⟩) S0 ?_
              · intro w' hS'
                obtain ⟨h1, h2, h3⟩ := hS'
                go_simp
              (try simp only [Act.put, List.getElem_toArray, List.getElem_cons_succ, List.getElem_cons_zero, List.setIfInBounds_toArray, List.set_cons_zero, List.set_cons_succ])
              refine wpAnyN_take (i := 8) (v := .bool false) rfl (by kernel_rfl) (by kernel_rfl) (by kernel_rfl) (by kernel_rfl) (fun _ _ _ h => h) (Or.inl ⟨by rfl, ?_⟩) S0 ?_
              · intro w' hS'
                obtain ⟨h1, h2, h3⟩ := hS'
                go_simp
              (try simp only [Act.put, List.getElem_toArray, List.getElem_cons_succ, List.getElem_cons_zero, List.setIfInBounds_toArray, List.set_cons_zero, List.set_cons_succ])
              refine wpAnyN_take (i := 9) (v := .slice (some ⟨w3.heap.size, 0, none⟩) n n) rfl (by kernel_rfl) (by kernel_rfl) (by kernel_rfl) (by kernel_rfl) (fun _ _ _ h => h) (Or.inl ⟨by rfl, ?_⟩) S0 ?_
              · intro w' hS'
                obtain ⟨h1, h2, h3⟩ := hS'
                go_simp
              (try simp only [Act.put, List.getElem_toArray, List.getElem_cons_succ, List.getElem_cons_zero, List.setIfInBounds_toArray, List.set_cons_zero, List.set_cons_succ])
              refine wpAnyN_take (i := 10) (v := .slice (some ⟨w2.heap.size, 0, none⟩) n n) rfl (by kernel_rfl) (by kernel_rfl) (by kernel_rfl) (by kernel_rfl) (fun _ _ _ h => h) (Or.inl ⟨by rfl, ?_⟩) S0 ?_
              · intro w' hS'
                obtain ⟨h1, h2, h3⟩ := hS'
                go_simp
              (try simp only [Act.put, List.getElem_toArray, List.getElem_cons_succ, List.getElem_cons_zero, List.setIfInBounds_toArray, List.set_cons_zero, List.set_cons_succ])
              refine wpAnyN_take (i := 11) (v := .int .i64 (i : Int)) rfl (by kernel_rfl) (by kernel_rfl) (by kernel_rfl) (by kernel_rfl) (fun _ _ _ h => h) (Or.inl ⟨by rfl, ?_⟩) S0 ?_
              · intro w' hS'
                obtain ⟨h1, h2, h3⟩ := hS'
                go_simp
              (try simp only [Act.put, List.getElem_toArray, List.getElem_cons_succ, List.getElem_cons_zero, List.setIfInBounds_toArray, List.set_cons_zero, List.set_cons_succ])
              refine wpAnyN_take (i := 12) (v := .pointer (some ⟨w2.heap.size, i, none⟩)) rfl (by kernel_rfl) (by kernel_rfl) (by kernel_rfl) (by kernel_rfl) (fun _ _ _ h => h) (Or.inl ⟨by rfl, ?_⟩) S0 ?_
              · intro w' hS'
                obtain ⟨h1, h2, h3⟩ := hS'
                go_simp
              (try simp only [Act.put, List.getElem_toArray, List.getElem_cons_succ, List.getElem_cons_zero, List.setIfInBounds_toArray, List.set_cons_zero, List.set_cons_succ])
              refine wpAnyN_take (i := 13) (v := .int .i64 (d : Int)) rfl (by kernel_rfl) (by kernel_rfl) (by kernel_rfl) (by kernel_rfl) (fun _ _ _ h => h) (Or.inl ⟨by rfl, ?_⟩) S0 ?_
              · intro w' hS'
                obtain ⟨h1, h2, h3⟩ := hS'
                go_simp
              (try simp only [Act.put, List.getElem_toArray, List.getElem_cons_succ, List.getElem_cons_zero, List.setIfInBounds_toArray, List.set_cons_zero, List.set_cons_succ])
              refine wpAnyN_take (i := 14) (v := .pointer (some ⟨w3.heap.size, d, none⟩)) rfl (by kernel_rfl) (by kernel_rfl) (by kernel_rfl) (by kernel_rfl) (fun _ _ _ h => h) (Or.inl ⟨by rfl, ?_⟩) S0 ?_
              · intro w' hS'
                obtain ⟨h1, h2, h3⟩ := hS'
                go_simp
              (try simp only [Act.put, List.getElem_toArray, List.getElem_cons_succ, List.getElem_cons_zero, List.setIfInBounds_toArray, List.set_cons_zero, List.set_cons_succ])
              refine wpAnyN_take (i := 15) (v := .int .i64 ((qd : Int) + 1)) rfl (by kernel_rfl) (by kernel_rfl) (by kernel_rfl) (by kernel_rfl) (fun _ _ _ h => h) (Or.inl ⟨by rfl, ?_⟩) S0 ?_
              · intro w' hS'
                obtain ⟨h1, h2, h3⟩ := hS'
                go_simp
              (try simp only [Act.put, List.getElem_toArray, List.getElem_cons_succ, List.getElem_cons_zero, List.setIfInBounds_toArray, List.set_cons_zero, List.set_cons_succ])
              refine wpAnyN_take (i := 16) (v := .slice (some ⟨w3.heap.size, 0, none⟩) n n) rfl (by kernel_rfl) (by kernel_rfl) (by kernel_rfl) (by kernel_rfl) (fun _ _ _ h => h) (Or.inl ⟨by rfl, ?_⟩) S0 ?_
              · intro w' hS'
                obtain ⟨h1, h2, h3⟩ := hS'
                go_simp
              (try simp only [Act.put, List.getElem_toArray, List.getElem_cons_succ, List.getElem_cons_zero, List.setIfInBounds_toArray, List.set_cons_zero, List.set_cons_succ])
              refine wpAnyN_take (i := 17) (v := .int .i64 (i : Int)) rfl (by kernel_rfl) (by kernel_rfl) (by kernel_rfl) (by kernel_rfl) (fun _ _ _ h => h) (Or.inl ⟨by rfl, ?_⟩) S0 ?_
              · intro w' hS'
                obtain ⟨h1, h2, h3⟩ := hS'
                go_simp
              (try simp only [Act.put, List.getElem_toArray, List.getElem_cons_succ, List.getElem_cons_zero, List.setIfInBounds_toArray, List.set_cons_zero, List.set_cons_succ])
              refine wpAnyN_take (i := 18) (v := .pointer (some ⟨w3.heap.size, i, none⟩)) rfl (by kernel_rfl) (by kernel_rfl) (by kernel_rfl) (by kernel_rfl) (fun _ _ _ h => h) (Or.inl ⟨by rfl, ?_⟩) S0 ?_
              · intro w' hS'
                obtain ⟨h1, h2, h3⟩ := hS'
                go_simp
              (try simp only [Act.put, List.getElem_toArray, List.getElem_cons_succ, List.getElem_cons_zero, List.setIfInBounds_toArray, List.set_cons_zero, List.set_cons_succ])
              refine wpAnyN_take (i := 19) (v := .int .i64 ((qi : Int) + 1)) rfl (by kernel_rfl) (by kernel_rfl) (by kernel_rfl) (by kernel_rfl) (fun _ _ _ h => h) (Or.inl ⟨by rfl, ?_⟩) S0 ?_
              · intro w' hS'
                obtain ⟨h1, h2, h3⟩ := hS'
                go_simp
              (try simp only [Act.put, List.getElem_toArray, List.getElem_cons_succ, List.getElem_cons_zero, List.setIfInBounds_toArray, List.set_cons_zero, List.set_cons_succ])
              refine wpAnyN_take (i := 20) (v := .bool false) rfl (by kernel_rfl) (by kernel_rfl) (by kernel_rfl) (by kernel_rfl) (fun _ _ _ h => h) (Or.inl ⟨by rfl, ?_⟩) S0 ?_
              · intro w' hS'
                obtain ⟨h1, h2, h3⟩ := hS'
                go_simp
              (try simp only [Act.put, List.getElem_toArray, List.getElem_cons_succ, List.getElem_cons_zero, List.setIfInBounds_toArray, List.set_cons_zero, List.set_cons_succ])
              refine wpAnyN_take (i := 21) (v := .bool false) rfl (by kernel_rfl) (by kernel_rfl) (by kernel_rfl) (by kernel_rfl) (fun _ _ _ h => h) (Or.inl ⟨by rfl, ?_⟩) S0 ?_
              · intro w' hS'
                obtain ⟨h1, h2, h3⟩ := hS'
                go_simp
              (try simp only [Act.put, List.getElem_toArray, List.getElem_cons_succ, List.getElem_cons_zero, List.setIfInBounds_toArray, List.set_cons_zero, List.set_cons_succ])
              refine wpAnyN_take (i := 22) (v := .bool false) rfl (by kernel_rfl) (by kernel_rfl) (by kernel_rfl) (by kernel_rfl) (fun _ _ _ h => h) (Or.inl ⟨by rfl, ?_⟩) S0 ?_
              · intro w' hS'
                obtain ⟨h1, h2, h3⟩ := hS'
                go_simp
              (try simp only [Act.put, List.getElem_toArray, List.getElem_cons_succ, List.getElem_cons_zero, List.setIfInBounds_toArray, List.set_cons_zero, List.set_cons_succ])
              refine wpAnyN_done (by kernel_rfl) ?_ _
              clear S0
              go_wp2
              go_roundw
              case rel => exact ⟨i + 1, by omega, by go_num, by rw [CS2.out]; go_num, below_next BZ.out (below_drew _)⟩
              case measure => simp [intOf]; omega
          · rw [show p i = false from by cases hp : p i with | false => rfl | true => exact absurd ((Q2.out i hi').1 hp) hr] at c3
            have CS2 : Hid (cnR n to (i + 1) = cc) := (by rw [CS.out, if_neg (fun h => hr ((rb_iff _ _ _ _).1 h))]; rfl : cnR n to (i + 1) = cc)
            have c4 := (DC.out wz CZ.out).cell i hi'
            rw [dm_none n to i (fun h => hr h.2)] at c4
            go_wp2
            go_roundw
            case rel => exact ⟨i + 1, by omega, by go_num, by rw [CS2.out], BZ.out⟩
            case measure => simp [intOf]; omega
        · have hiz : ¬ (i : Int) < n := by omega
          obtain rfl : i = n := by omega
          rw [CN.out]
          have hll : ((L.length : Int) == (L.length : Int)) = true := by simp
          go_wp2
          go_ret
          exact ⟨rfl, C3.out.trans (CZ.out.mono C3.out.size)⟩
end Go.Proofs.Ytmmgdiecmokipaa
