/-
  Proved: GraphCloses answers true.
-/
import Derived.Test.YtmmgdiecmokipaaLcount
namespace Go.Proofs.Ytmmgdiecmokipaa
open Go.RowKit

/-- Is a number not among some? -/
def nin (x : Int) (l : List Int) : Bool := decide (x ∉ l)
theorem nin_step (x : Int) (l : List Int) (j : Nat) (hj : j < l.length) : nin x (l.take (j + 1)) = (nin x (l.take j) && (l[j] != x)) := by
  unfold nin
  rw [List.take_succ_eq_append_getElem hj]
  by_cases h1 : x ∈ l.take j
  · have h2 : x ∈ l.take j ++ [l[j]] := List.mem_append_left _ h1
    rw [decide_eq_false (fun h => h h2), decide_eq_false (fun h => h h1)]
    rfl
  · rw [decide_eq_true h1]
    by_cases h3 : l[j] = x
    · rw [decide_eq_false (fun h => h (List.mem_append_right _ (List.mem_singleton.2 h3.symm)))]
      simp [h3]
    · have h4 : x ∉ l.take j ++ [l[j]] := fun h => by
        rcases List.mem_append.1 h with h5 | h5
        · exact h1 h5
        · exact h3 (List.mem_singleton.1 h5).symm
      rw [decide_eq_true h4]
      simp [h3]
theorem zero_eq (i : Nat) : ((i : Int) == 0) = decide (i = 0) := by
  rw [Bool.eq_iff_iff]
  simp
theorem nin_keep {n y : Nat} {l : List Int} (hy : y < n) : nin (y : Int) l = true ↔ y ∉ keep n l := by
  unfold nin
  rw [decide_eq_true_iff, keep_mem]
  exact ⟨fun h h2 => h h2.1, fun h h2 => h ⟨h2, hy⟩⟩

set_option maxRecDepth 20000 in
set_option maxHeartbeats 16000000 in
theorem closes_pos (z : Int) (kk n : Nat) (hm : bits .and .i64 z 31 = (kk : Int)) (hkn : (1 : Int) + (kk : Int) = (n : Int)) (h0 : 0 < n) (hn : n ≤ 32) (to : List (List Int)) (tv : Value) (w : World) (h : RwsIn w to tv) (hl : to.length ≤ 281474976710656) (hl2 : ∀ i (h : i < to.length), (to[i]'h).length ≤ 281474976710656) (hf : Fw to) (hfs : fsum to to.length < 200) :
    Calls Try.prog 5 #[.int .i64 z, tv] w fun e w' => e = .returned (.bool true) ∧ Below w.heap.size w w' := by
  have mixed : Try.prog.follows Departure.mixedOrders = true := by kernel_rfl
  have FD : Hid (Calls Try.prog 7 #[tv] w fun e w' => e = .returned (.bool true) ∧ w' = w) := by
    have := few_d to tv w h hl hl2
    rwa [decide_eq_true hfs] at this
  have R1 : Hid (∀ w1, Below w.heap.size w w1 → Calls Try.prog 8 #[.int .i64 (n : Int), tv] w1 fun e w' => e = .returned (.slice (some ⟨w1.heap.size, 0, none⟩) n n) ∧ Below w1.heap.size w1 w' ∧ ∃ p, BR w' w1.heap.size n p ∧ ∀ j, j < n → (p j = true ↔ Rch (wy n to) (-1) j)) := fun w1 hb => reach_p n n (Or.inl rfl) (by omega) to tv w1 (h.below hb) hf
  have F1 : Hid (∀ w1, Below w.heap.size w w1 → Calls Try.prog 10 #[.int .i64 (n : Int), tv] w1 fun e w' => e = .returned (.slice (some ⟨w1.heap.size, 0, none⟩) n n) ∧ Below w1.heap.size w1 w' ∧ ∃ vs, RR w' w1.heap.size n vs (fr n to)) := fun w1 hb => from_p n n (Or.inl rfl) (by omega) to tv w1 (h.below hb) hf
  have FW : Hid (Fw to) := hf
  have hll : to.length ≤ 200 := hf.1
  obtain ⟨A, C, rfl, hr⟩ := h
  have HR : Hid (∀ i (h : i < to.length), ∃ b o u, A = some ⟨b, o, none⟩ ∧ b < w.heap.size ∧ w.cell? ⟨b, o + i, none⟩ = some u ∧ NumsIn w (to[i]'h) u) := hr
  clear hf hl hl2 hr
  have hnn : ((n : Int) == (n : Int)) = true := by simp
  go_enter Try.func5, Try.ntmps5
  go_wp2_with (first
    | (go_at_call 7; refine FD.out.mono ?_; rintro e wa ⟨rfl, hwa⟩; rw [hwa]; clear hwa wa)
    | (go_at_call 8; refine (R1.out w (Below.refl _ _)).mono ?_; rintro e w1 ⟨rfl, hb1, p, hp1, hp2⟩; have B1 : Hid (Below w.heap.size w w1) := hb1; have P1 : Hid (BR w1 w.heap.size n p) := hp1; have Q1 : Hid (∀ j, j < n → p j = rb n to (-1) j) := (fun j hj => by
        rcases Bool.eq_false_or_eq_true (p j) with h1 | h1
        · rw [h1, (rb_iff _ _ _ _).2 ((hp2 j hj).1 h1)]
        · rw [h1]
          rcases Bool.eq_false_or_eq_true (rb n to (-1) j) with h2 | h2
          · have := (hp2 j hj).2 ((rb_iff _ _ _ _).1 h2)
            rw [h1] at this
            cases this
          · exact h2.symm); clear hb1 hp1 hp2)
    | (go_at_call 10; refine (F1.out w1 B1.out).mono ?_; rintro e w2 ⟨rfl, hb2, vs, hr2⟩; have B2 : Hid (Below w1.heap.size w1 w2) := hb2; have C2 : Hid (Below w.heap.size w w2) := below_next B1.out hb2; have Q2 : Hid (RR w2 w1.heap.size n vs (fr n to)) := hr2; have c20 : w2.cell? ⟨w.heap.size, 0, none⟩ = some (.bool true) := (by rw [BR.cell (show BR w2 w.heap.size n p from At.below P1.out hb2 P1.out.lt) 0 h0, Q1.out 0 h0, (rb_iff _ _ _ _).2 (Rch.zero (by decide))]); clear hb2 hr2))
  have PC : Hid (∀ wq, Below w2.heap.size w2 wq → ∀ j, j < n → wq.cell? ⟨w.heap.size, j, none⟩ = some (.bool (rb n to (-1) j))) := fun wq hb j hj => by
    rw [BR.cell (show BR wq w.heap.size n p from At.below P1.out (below_next B2.out hb) P1.out.lt) j hj, Q1.out j hj]
  have RC : Hid (∀ wq, Below w2.heap.size w2 wq → RR wq w1.heap.size n vs (fr n to)) := fun wq hb => Q2.out.kp (Kp.of_below (F := fun _ => False) hb) fun _ h => h.elim
  have SFL : Hid (∀ i, i ≤ n → sm (fun x => (fr n to x).length) i ≤ 1024) := fun i hi => by
    have := sm_le (f := fun x => (fr n to x).length) (n := i) (c := n) fun x => frT_len n to x n
    have h2 : i * n ≤ 32 * 32 := Nat.mul_le_mul (by omega) hn
    omega
  clear R1 F1 FD c20 P1 Q1 Q2
  go_loopw [7, 8] (fun cv iv wr => ∃ i : Nat, i ≤ n ∧ iv = .int .i64 (i : Int) ∧ cv = .int .i64 (sm (fun x => (fr n to x).length) i : Int) ∧ Below w2.heap.size w2 wr) (fun _ iv _ => n - (intOf iv).toNat)
  case atStart => exact ⟨0, Nat.zero_le _, rfl, rfl, Below.refl _ _⟩
  case round =>
    obtain ⟨i, hi, rfl, rfl, hB⟩ := hrel
    have BA : Hid (Below w2.heap.size w2 wr) := hB
    clear hB
    rcases Nat.lt_or_ge i n with hi' | hi'
    · have hiz : (i : Int) < n := by omega
      have hsf := SFL.out i hi
      have hfl : (fr n to i).length ≤ n := frT_len n to i n
      have OV := (RC.out wr BA.out).2.1 i hi'
      obtain ⟨Av, Cv, ev, -⟩ := OV.shape
      have EV : Hid (vs i = .slice Av (fr n to i).length Cv) := ev
      have FC : Hid (∀ wq, Below w2.heap.size w2 wq → wq.cell? ⟨w1.heap.size, i, none⟩ = some (.slice Av (fr n to i).length Cv)) := fun wq hb => by rw [(RC.out wq hb).cell i hi', EV.out]
      have FE : Hid (∀ k, k < (fr n to i).length → ∃ Bv, Av = some ⟨Bv, 0, none⟩ ∧ ∀ wq, Below w2.heap.size w2 wq → ∀ k' (hk' : k' < (fr n to i).length), wq.cell? ⟨Bv, k', none⟩ = some (.int .i64 ((fr n to i)[k'] : Int))) := fun k hk => by
        have o := (RC.out wr BA.out).2.1 i hi'
        rw [EV.out] at o
        obtain ⟨A', C', e', hs'⟩ := o.shape
        injection e' with e1 _ _
        obtain ⟨B, h1, _⟩ := hs' (by omega)
        refine ⟨B, by rw [e1, h1], fun wq hb k' hk' => ?_⟩
        have o2 := (RC.out wq hb).2.1 i hi'
        rw [EV.out] at o2
        obtain ⟨A2, C2, e2, hs2⟩ := o2.shape
        injection e2 with e3 _ _
        obtain ⟨B2, h3, _, _, _, h4⟩ := hs2 (by omega)
        have : some (⟨B2, 0, none⟩ : Addr) = some ⟨B, 0, none⟩ := by rw [← h3, ← e3, e1, h1]
        injection this with this
        injection this with this _ _
        subst this
        exact h4 k' hk'
      have ES : Hid (sm (fun x => (fr n to x).length) (i + 1) = sm (fun x => (fr n to x).length) i + (fr n to i).length) := rfl
      clear OV ev
      have hf1 := FC.out wr BA.out
      generalize sm (fun x => (fr n to x).length) i = sf at *
      go_wp2
      go_loopw [7, 9, 10] (fun cv mv kv wz => ∃ k : Nat, k ≤ (fr n to i).length ∧ kv = .int .i64 (k : Int) ∧ cv = .int .i64 ((sf + k : Nat) : Int) ∧ mv = .bool (cam n to i k) ∧ Below w2.heap.size w2 wz) (fun _ _ kv _ => (fr n to i).length - (intOf kv).toNat)
      case atStart => exact ⟨0, Nat.zero_le _, rfl, rfl, by rw [zero_eq]; simp [cam], BA.out⟩
      case round =>
        rename World => wz
        obtain ⟨k, hk, rfl, rfl, rfl, hB⟩ := hrel
        have BB : Hid (Below w2.heap.size w2 wz) := hB
        have hf2 := FC.out wz hB
        clear hB hf1
        rcases Nat.lt_or_ge k (fr n to i).length with hk' | hk'
        · have hkz : (k : Int) < (fr n to i).length := by omega
          have hsk : sf + k ≤ 2000 := by omega
          obtain ⟨Bv, rfl, hcell⟩ := FE.out k hk'
          have CE : Hid (∀ wq, Below w2.heap.size w2 wq → ∀ k' (hk' : k' < (fr n to i).length), wq.cell? ⟨Bv, k', none⟩ = some (.int .i64 ((fr n to i)[k'] : Int))) := hcell
          have CS : Hid (cam n to i (k + 1) = (cam n to i k || rb n to (-1) (fr n to i)[k])) := cam_step n to i k hk'
          have hx : (fr n to i)[k] < n := fr_lt n to i _ (List.getElem_mem hk')
          have SR : Hid (∀ k' (h : k' + 1 < (fr n to i).length), (fr n to i)[k'] < (fr n to i)[k' + 1]) := fun k' h => List.pairwise_iff_getElem.1 (fr_sorted n to i) k' (k' + 1) (by omega) h (by omega)
          have c1 := hcell wz BB.out k hk'
          have c2 := PC.out wz BB.out _ hx
          have GEN : Hid (∀ wq, Below wz.heap.size wz wq → wq.cell? ⟨w1.heap.size, i, none⟩ = some (.slice (some ⟨Bv, 0, none⟩) (fr n to i).length Cv)) := fun wq hb => FC.out wq (below_next BB.out hb)
          clear hcell
          obtain ⟨x, hxe⟩ : ∃ x, (fr n to i)[k]'(by omega) = x := ⟨_, rfl⟩
          rw [hxe] at CS c1 c2 hx
          have hxz : (x : Int) < n := by omega
          rcases Nat.eq_zero_or_pos k with hk0 | hk0
          · subst hk0
            have SK : Hid (∀ wq, Below wz.heap.size wz wq → wq.cell? ⟨w1.heap.size, i, none⟩ = some (.slice (some ⟨Bv, 0, none⟩) (fr n to i).length Cv)) := GEN.out
            rcases Bool.eq_false_or_eq_true (cam n to i 0) with hcm | hcm
            · have CN : Hid (cam n to i (0 + 1) = true) := (by rw [CS.out, hcm]; rfl : cam n to i (0 + 1) = true)
              rw [hcm]
              go_wp2
              refine wp_region_N (fun w' => w'.cell? ⟨w1.heap.size, i, none⟩ = some (.slice (some ⟨Bv, 0, none⟩) (fr n to i).length Cv)) (fun _ => true) mixed (SK.out _ (below_drew _)) ?_
              intro S0
              refine wpAnyN_take (i := 0) (v := .int .i64 0) rfl (by kernel_rfl) (by kernel_rfl) (by kernel_rfl) (by kernel_rfl) (fun _ _ _ h => h) (Or.inl ⟨by rfl, ?_⟩) S0 ?_
              · intro w' hS'
                go_simp
              (try simp only [Act.put, List.getElem_toArray, List.getElem_cons_zero, List.setIfInBounds_toArray, List.set_cons_zero, List.set_cons_succ])
              refine wpAnyN_take (i := 1) (v := .bool false) rfl (by kernel_rfl) (by kernel_rfl) (by kernel_rfl) (by kernel_rfl) (fun _ _ _ h => h) (Or.inl ⟨by rfl, ?_⟩) S0 ?_
              · intro w' hS'
                go_simp
              (try simp only [Act.put, List.getElem_toArray, List.getElem_cons_succ, List.getElem_cons_zero, List.setIfInBounds_toArray, List.set_cons_zero, List.set_cons_succ])
              refine wpAnyN_take (i := 2) (v := .bool false) rfl (by kernel_rfl) (by kernel_rfl) (by kernel_rfl) (by kernel_rfl) (fun _ _ _ h => h) (Or.inl ⟨by rfl, ?_⟩) S0 ?_
              · intro w' hS'
                go_simp
              (try simp only [Act.put, List.getElem_toArray, List.getElem_cons_succ, List.getElem_cons_zero, List.setIfInBounds_toArray, List.set_cons_zero, List.set_cons_succ])
              refine wpAnyN_take (i := 3) (v := undef) rfl (by kernel_rfl) (by kernel_rfl) (by kernel_rfl) (by kernel_rfl) (fun _ _ _ h => h) (Or.inr ⟨by rfl, rfl⟩) S0 ?_
              (try simp only [Act.put, List.getElem_toArray, List.getElem_cons_succ, List.getElem_cons_zero, List.setIfInBounds_toArray, List.set_cons_zero, List.set_cons_succ])
              refine wpAnyN_take (i := 4) (v := undef) rfl (by kernel_rfl) (by kernel_rfl) (by kernel_rfl) (by kernel_rfl) (fun _ _ _ h => h) (Or.inr ⟨by rfl, rfl⟩) S0 ?_
              (try simp only [Act.put, List.getElem_toArray, List.getElem_cons_succ, List.getElem_cons_zero, List.setIfInBounds_toArray, List.set_cons_zero, List.set_cons_succ])
              refine wpAnyN_take (i := 5) (v := undef) rfl (by kernel_rfl) (by kernel_rfl) (by kernel_rfl) (by kernel_rfl) (fun _ _ _ h => h) (Or.inr ⟨by rfl, rfl⟩) S0 ?_
              (try simp only [Act.put, List.getElem_toArray, List.getElem_cons_succ, List.getElem_cons_zero, List.setIfInBounds_toArray, List.set_cons_zero, List.set_cons_succ])
              refine wpAnyN_take (i := 6) (v := undef) rfl (by kernel_rfl) (by kernel_rfl) (by kernel_rfl) (by kernel_rfl) (fun _ _ _ h => h) (Or.inr ⟨by rfl, rfl⟩) S0 ?_
              (try simp only [Act.put, List.getElem_toArray, List.getElem_cons_succ, List.getElem_cons_zero, List.setIfInBounds_toArray, List.set_cons_zero, List.set_cons_succ])
              refine wpAnyN_take (i := 7) (v := undef) rfl (by kernel_rfl) (by kernel_rfl) (by kernel_rfl) (by kernel_rfl) (fun _ _ _ h => h) (Or.inr ⟨by rfl, rfl⟩) S0 ?_
              (try simp only [Act.put, List.getElem_toArray, List.getElem_cons_succ, List.getElem_cons_zero, List.setIfInBounds_toArray, List.set_cons_zero, List.set_cons_succ])
              refine wpAnyN_take (i := 8) (v := undef) rfl (by kernel_rfl) (by kernel_rfl) (by kernel_rfl) (by kernel_rfl) (fun _ _ _ h => h) (Or.inr ⟨by rfl, rfl⟩) S0 ?_
              (try simp only [Act.put, List.getElem_toArray, List.getElem_cons_succ, List.getElem_cons_zero, List.setIfInBounds_toArray, List.set_cons_zero, List.set_cons_succ])
              refine wpAnyN_take (i := 9) (v := undef) rfl (by kernel_rfl) (by kernel_rfl) (by kernel_rfl) (by kernel_rfl) (fun _ _ _ h => h) (Or.inr ⟨by rfl, rfl⟩) S0 ?_
              (try simp only [Act.put, List.getElem_toArray, List.getElem_cons_succ, List.getElem_cons_zero, List.setIfInBounds_toArray, List.set_cons_zero, List.set_cons_succ])
              refine wpAnyN_take (i := 10) (v := undef) rfl (by kernel_rfl) (by kernel_rfl) (by kernel_rfl) (by kernel_rfl) (fun _ _ _ h => h) (Or.inr ⟨by rfl, rfl⟩) S0 ?_
              (try simp only [Act.put, List.getElem_toArray, List.getElem_cons_succ, List.getElem_cons_zero, List.setIfInBounds_toArray, List.set_cons_zero, List.set_cons_succ])
              refine wpAnyN_take (i := 11) (v := undef) rfl (by kernel_rfl) (by kernel_rfl) (by kernel_rfl) (by kernel_rfl) (fun _ _ _ h => h) (Or.inr ⟨by rfl, rfl⟩) S0 ?_
              (try simp only [Act.put, List.getElem_toArray, List.getElem_cons_succ, List.getElem_cons_zero, List.setIfInBounds_toArray, List.set_cons_zero, List.set_cons_succ])
              refine wpAnyN_take (i := 12) (v := undef) rfl (by kernel_rfl) (by kernel_rfl) (by kernel_rfl) (by kernel_rfl) (fun _ _ _ h => h) (Or.inr ⟨by rfl, rfl⟩) S0 ?_
              (try simp only [Act.put, List.getElem_toArray, List.getElem_cons_succ, List.getElem_cons_zero, List.setIfInBounds_toArray, List.set_cons_zero, List.set_cons_succ])
              refine wpAnyN_take (i := 13) (v := undef) rfl (by kernel_rfl) (by kernel_rfl) (by kernel_rfl) (by kernel_rfl) (fun _ _ _ h => h) (Or.inr ⟨by rfl, rfl⟩) S0 ?_
              (try simp only [Act.put, List.getElem_toArray, List.getElem_cons_succ, List.getElem_cons_zero, List.setIfInBounds_toArray, List.set_cons_zero, List.set_cons_succ])
              refine wpAnyN_take (i := 14) (v := undef) rfl (by kernel_rfl) (by kernel_rfl) (by kernel_rfl) (by kernel_rfl) (fun _ _ _ h => h) (Or.inr ⟨by rfl, rfl⟩) S0 ?_
              (try simp only [Act.put, List.getElem_toArray, List.getElem_cons_succ, List.getElem_cons_zero, List.setIfInBounds_toArray, List.set_cons_zero, List.set_cons_succ])
              refine wpAnyN_take (i := 15) (v := undef) rfl (by kernel_rfl) (by kernel_rfl) (by kernel_rfl) (by kernel_rfl) (fun _ _ _ h => h) (Or.inr ⟨by rfl, rfl⟩) S0 ?_
              (try simp only [Act.put, List.getElem_toArray, List.getElem_cons_succ, List.getElem_cons_zero, List.setIfInBounds_toArray, List.set_cons_zero, List.set_cons_succ])
              refine wpAnyN_take (i := 16) (v := undef) rfl (by kernel_rfl) (by kernel_rfl) (by kernel_rfl) (by kernel_rfl) (fun _ _ _ h => h) (Or.inr ⟨by rfl, rfl⟩) S0 ?_
              (try simp only [Act.put, List.getElem_toArray, List.getElem_cons_succ, List.getElem_cons_zero, List.setIfInBounds_toArray, List.set_cons_zero, List.set_cons_succ])
              refine wpAnyN_take (i := 17) (v := undef) rfl (by kernel_rfl) (by kernel_rfl) (by kernel_rfl) (by kernel_rfl) (fun _ _ _ h => h) (Or.inr ⟨by rfl, rfl⟩) S0 ?_
              (try simp only [Act.put, List.getElem_toArray, List.getElem_cons_succ, List.getElem_cons_zero, List.setIfInBounds_toArray, List.set_cons_zero, List.set_cons_succ])
              refine wpAnyN_take (i := 18) (v := undef) rfl (by kernel_rfl) (by kernel_rfl) (by kernel_rfl) (by kernel_rfl) (fun _ _ _ h => h) (Or.inr ⟨by rfl, rfl⟩) S0 ?_
              (try simp only [Act.put, List.getElem_toArray, List.getElem_cons_succ, List.getElem_cons_zero, List.setIfInBounds_toArray, List.set_cons_zero, List.set_cons_succ])
              refine wpAnyN_take (i := 19) (v := .bool false) rfl (by kernel_rfl) (by kernel_rfl) (by kernel_rfl) (by kernel_rfl) (fun _ _ _ h => h) (Or.inl ⟨by rfl, ?_⟩) S0 ?_
              · intro w' hS'
                go_simp
              (try simp only [Act.put, List.getElem_toArray, List.getElem_cons_succ, List.getElem_cons_zero, List.setIfInBounds_toArray, List.set_cons_zero, List.set_cons_succ])
              refine wpAnyN_done (by kernel_rfl) ?_ _
              clear S0
              go_wp2
              go_roundw
              case rel => exact ⟨0 + 1, by omega, by go_num, by go_num, by rw [CN.out], below_next BB.out (below_drew _)⟩
              case measure => simp [intOf]; omega
            · have CN : Hid (cam n to i (0 + 1) = rb n to (-1) x) := (by rw [CS.out, hcm]; rfl : cam n to i (0 + 1) = rb n to (-1) x)
              rw [hcm]
              go_wp2
              refine wp_region_N (fun w' => w'.cell? ⟨w1.heap.size, i, none⟩ = some (.slice (some ⟨Bv, 0, none⟩) (fr n to i).length Cv)) (fun _ => true) mixed (SK.out _ (below_drew _)) ?_
              intro S0
              refine wpAnyN_take (i := 0) (v := .int .i64 0) rfl (by kernel_rfl) (by kernel_rfl) (by kernel_rfl) (by kernel_rfl) (fun _ _ _ h => h) (Or.inl ⟨by rfl, ?_⟩) S0 ?_
              · intro w' hS'
                go_simp
              (try simp only [Act.put, List.getElem_toArray, List.getElem_cons_zero, List.setIfInBounds_toArray, List.set_cons_zero, List.set_cons_succ])
              refine wpAnyN_take (i := 1) (v := .bool false) rfl (by kernel_rfl) (by kernel_rfl) (by kernel_rfl) (by kernel_rfl) (fun _ _ _ h => h) (Or.inl ⟨by rfl, ?_⟩) S0 ?_
              · intro w' hS'
                go_simp
              (try simp only [Act.put, List.getElem_toArray, List.getElem_cons_succ, List.getElem_cons_zero, List.setIfInBounds_toArray, List.set_cons_zero, List.set_cons_succ])
              refine wpAnyN_take (i := 2) (v := .bool false) rfl (by kernel_rfl) (by kernel_rfl) (by kernel_rfl) (by kernel_rfl) (fun _ _ _ h => h) (Or.inl ⟨by rfl, ?_⟩) S0 ?_
              · intro w' hS'
                go_simp
              (try simp only [Act.put, List.getElem_toArray, List.getElem_cons_succ, List.getElem_cons_zero, List.setIfInBounds_toArray, List.set_cons_zero, List.set_cons_succ])
              refine wpAnyN_take (i := 3) (v := undef) rfl (by kernel_rfl) (by kernel_rfl) (by kernel_rfl) (by kernel_rfl) (fun _ _ _ h => h) (Or.inr ⟨by rfl, rfl⟩) S0 ?_
              (try simp only [Act.put, List.getElem_toArray, List.getElem_cons_succ, List.getElem_cons_zero, List.setIfInBounds_toArray, List.set_cons_zero, List.set_cons_succ])
              refine wpAnyN_take (i := 4) (v := undef) rfl (by kernel_rfl) (by kernel_rfl) (by kernel_rfl) (by kernel_rfl) (fun _ _ _ h => h) (Or.inr ⟨by rfl, rfl⟩) S0 ?_
              (try simp only [Act.put, List.getElem_toArray, List.getElem_cons_succ, List.getElem_cons_zero, List.setIfInBounds_toArray, List.set_cons_zero, List.set_cons_succ])
              refine wpAnyN_take (i := 5) (v := undef) rfl (by kernel_rfl) (by kernel_rfl) (by kernel_rfl) (by kernel_rfl) (fun _ _ _ h => h) (Or.inr ⟨by rfl, rfl⟩) S0 ?_
              (try simp only [Act.put, List.getElem_toArray, List.getElem_cons_succ, List.getElem_cons_zero, List.setIfInBounds_toArray, List.set_cons_zero, List.set_cons_succ])
              refine wpAnyN_take (i := 6) (v := undef) rfl (by kernel_rfl) (by kernel_rfl) (by kernel_rfl) (by kernel_rfl) (fun _ _ _ h => h) (Or.inr ⟨by rfl, rfl⟩) S0 ?_
              (try simp only [Act.put, List.getElem_toArray, List.getElem_cons_succ, List.getElem_cons_zero, List.setIfInBounds_toArray, List.set_cons_zero, List.set_cons_succ])
              refine wpAnyN_take (i := 7) (v := undef) rfl (by kernel_rfl) (by kernel_rfl) (by kernel_rfl) (by kernel_rfl) (fun _ _ _ h => h) (Or.inr ⟨by rfl, rfl⟩) S0 ?_
              (try simp only [Act.put, List.getElem_toArray, List.getElem_cons_succ, List.getElem_cons_zero, List.setIfInBounds_toArray, List.set_cons_zero, List.set_cons_succ])
              refine wpAnyN_take (i := 8) (v := undef) rfl (by kernel_rfl) (by kernel_rfl) (by kernel_rfl) (by kernel_rfl) (fun _ _ _ h => h) (Or.inr ⟨by rfl, rfl⟩) S0 ?_
              (try simp only [Act.put, List.getElem_toArray, List.getElem_cons_succ, List.getElem_cons_zero, List.setIfInBounds_toArray, List.set_cons_zero, List.set_cons_succ])
              refine wpAnyN_take (i := 9) (v := undef) rfl (by kernel_rfl) (by kernel_rfl) (by kernel_rfl) (by kernel_rfl) (fun _ _ _ h => h) (Or.inr ⟨by rfl, rfl⟩) S0 ?_
              (try simp only [Act.put, List.getElem_toArray, List.getElem_cons_succ, List.getElem_cons_zero, List.setIfInBounds_toArray, List.set_cons_zero, List.set_cons_succ])
              refine wpAnyN_take (i := 10) (v := undef) rfl (by kernel_rfl) (by kernel_rfl) (by kernel_rfl) (by kernel_rfl) (fun _ _ _ h => h) (Or.inr ⟨by rfl, rfl⟩) S0 ?_
              (try simp only [Act.put, List.getElem_toArray, List.getElem_cons_succ, List.getElem_cons_zero, List.setIfInBounds_toArray, List.set_cons_zero, List.set_cons_succ])
              refine wpAnyN_take (i := 11) (v := undef) rfl (by kernel_rfl) (by kernel_rfl) (by kernel_rfl) (by kernel_rfl) (fun _ _ _ h => h) (Or.inr ⟨by rfl, rfl⟩) S0 ?_
              (try simp only [Act.put, List.getElem_toArray, List.getElem_cons_succ, List.getElem_cons_zero, List.setIfInBounds_toArray, List.set_cons_zero, List.set_cons_succ])
              refine wpAnyN_take (i := 12) (v := undef) rfl (by kernel_rfl) (by kernel_rfl) (by kernel_rfl) (by kernel_rfl) (fun _ _ _ h => h) (Or.inr ⟨by rfl, rfl⟩) S0 ?_
              (try simp only [Act.put, List.getElem_toArray, List.getElem_cons_succ, List.getElem_cons_zero, List.setIfInBounds_toArray, List.set_cons_zero, List.set_cons_succ])
              refine wpAnyN_take (i := 13) (v := undef) rfl (by kernel_rfl) (by kernel_rfl) (by kernel_rfl) (by kernel_rfl) (fun _ _ _ h => h) (Or.inr ⟨by rfl, rfl⟩) S0 ?_
              (try simp only [Act.put, List.getElem_toArray, List.getElem_cons_succ, List.getElem_cons_zero, List.setIfInBounds_toArray, List.set_cons_zero, List.set_cons_succ])
              refine wpAnyN_take (i := 14) (v := undef) rfl (by kernel_rfl) (by kernel_rfl) (by kernel_rfl) (by kernel_rfl) (fun _ _ _ h => h) (Or.inr ⟨by rfl, rfl⟩) S0 ?_
              (try simp only [Act.put, List.getElem_toArray, List.getElem_cons_succ, List.getElem_cons_zero, List.setIfInBounds_toArray, List.set_cons_zero, List.set_cons_succ])
              refine wpAnyN_take (i := 15) (v := undef) rfl (by kernel_rfl) (by kernel_rfl) (by kernel_rfl) (by kernel_rfl) (fun _ _ _ h => h) (Or.inr ⟨by rfl, rfl⟩) S0 ?_
              (try simp only [Act.put, List.getElem_toArray, List.getElem_cons_succ, List.getElem_cons_zero, List.setIfInBounds_toArray, List.set_cons_zero, List.set_cons_succ])
              refine wpAnyN_take (i := 16) (v := undef) rfl (by kernel_rfl) (by kernel_rfl) (by kernel_rfl) (by kernel_rfl) (fun _ _ _ h => h) (Or.inr ⟨by rfl, rfl⟩) S0 ?_
              (try simp only [Act.put, List.getElem_toArray, List.getElem_cons_succ, List.getElem_cons_zero, List.setIfInBounds_toArray, List.set_cons_zero, List.set_cons_succ])
              refine wpAnyN_take (i := 17) (v := undef) rfl (by kernel_rfl) (by kernel_rfl) (by kernel_rfl) (by kernel_rfl) (fun _ _ _ h => h) (Or.inr ⟨by rfl, rfl⟩) S0 ?_
              (try simp only [Act.put, List.getElem_toArray, List.getElem_cons_succ, List.getElem_cons_zero, List.setIfInBounds_toArray, List.set_cons_zero, List.set_cons_succ])
              refine wpAnyN_take (i := 18) (v := undef) rfl (by kernel_rfl) (by kernel_rfl) (by kernel_rfl) (by kernel_rfl) (fun _ _ _ h => h) (Or.inr ⟨by rfl, rfl⟩) S0 ?_
              (try simp only [Act.put, List.getElem_toArray, List.getElem_cons_succ, List.getElem_cons_zero, List.setIfInBounds_toArray, List.set_cons_zero, List.set_cons_succ])
              refine wpAnyN_take (i := 19) (v := .bool false) rfl (by kernel_rfl) (by kernel_rfl) (by kernel_rfl) (by kernel_rfl) (fun _ _ _ h => h) (Or.inl ⟨by rfl, ?_⟩) S0 ?_
              · intro w' hS'
                go_simp
              (try simp only [Act.put, List.getElem_toArray, List.getElem_cons_succ, List.getElem_cons_zero, List.setIfInBounds_toArray, List.set_cons_zero, List.set_cons_succ])
              refine wpAnyN_done (by kernel_rfl) ?_ _
              clear S0
              go_wp2
              go_roundw
              case rel => exact ⟨0 + 1, by omega, by go_num, by go_num, by rw [CN.out], below_next BB.out (below_drew _)⟩
              case measure => simp [intOf]; omega
          · obtain ⟨k, rfl⟩ : ∃ k', k = k' + 1 := ⟨k - 1, by omega⟩
            obtain ⟨y, hye⟩ : ∃ y, (fr n to i)[k]'(by omega) = y := ⟨_, rfl⟩
            have hxy : y < x := by rw [← hxe, ← hye]; exact SR.out k (by omega)
            have hxyz : ¬ (x : Int) ≤ (y : Int) := by omega
            have hk0z : (0 : Int) < (k : Int) + 1 := by omega
            have hk1n : ¬ (k : Int) + 1 < 0 := by omega
            have hwk : IntKind.i64.wrap (k : Int) = (k : Int) := by rw [IntKind.wrap_i64]; omega
            have hkz2 : (k : Int) < (fr n to i).length := by omega
            have SK : Hid (∀ wq, Below wz.heap.size wz wq → wq.cell? ⟨w1.heap.size, i, none⟩ = some (.slice (some ⟨Bv, 0, none⟩) (fr n to i).length Cv) ∧ wq.cell? ⟨Bv, k + 1, none⟩ = some (.int .i64 (x : Int)) ∧ wq.cell? ⟨Bv, k, none⟩ = some (.int .i64 (y : Int))) := fun wq hb => ⟨GEN.out wq hb, by rw [← hxe]; exact CE.out wq (below_next BB.out hb) (k + 1) (by omega), by rw [← hye]; exact CE.out wq (below_next BB.out hb) k (by omega)⟩
            rcases Bool.eq_false_or_eq_true (cam n to i (k + 1)) with hcm | hcm
            · have CN : Hid (cam n to i (k + 1 + 1) = true) := (by rw [CS.out, hcm]; rfl : cam n to i (k + 1 + 1) = true)
              rw [hcm]
              go_wp2
              refine wp_region_N (fun w' => w'.cell? ⟨w1.heap.size, i, none⟩ = some (.slice (some ⟨Bv, 0, none⟩) (fr n to i).length Cv) ∧ w'.cell? ⟨Bv, k + 1, none⟩ = some (.int .i64 (x : Int)) ∧ w'.cell? ⟨Bv, k, none⟩ = some (.int .i64 (y : Int))) (fun _ => true) mixed (SK.out _ (below_drew _)) ?_
              intro S0
              refine wpAnyN_take (i := 0) (v := .int .i64 ((k : Int) + 1)) rfl (by kernel_rfl) (by kernel_rfl) (by kernel_rfl) (by kernel_rfl) (fun _ _ _ h => h) (Or.inl ⟨by rfl, ?_⟩) S0 ?_
              · intro w' hS'
                obtain ⟨h1, h2, h3⟩ := hS'
                go_simp
              (try simp only [Act.put, List.getElem_toArray, List.getElem_cons_zero, List.setIfInBounds_toArray, List.set_cons_zero, List.set_cons_succ])
              refine wpAnyN_take (i := 1) (v := .bool true) rfl (by kernel_rfl) (by kernel_rfl) (by kernel_rfl) (by kernel_rfl) (fun _ _ _ h => h) (Or.inl ⟨by rfl, ?_⟩) S0 ?_
              · intro w' hS'
                obtain ⟨h1, h2, h3⟩ := hS'
                go_simp
              (try simp only [Act.put, List.getElem_toArray, List.getElem_cons_succ, List.getElem_cons_zero, List.setIfInBounds_toArray, List.set_cons_zero, List.set_cons_succ])
              refine wpAnyN_take (i := 2) (v := .bool true) rfl (by kernel_rfl) (by kernel_rfl) (by kernel_rfl) (by kernel_rfl) (fun _ _ _ h => h) (Or.inl ⟨by rfl, ?_⟩) S0 ?_
              · intro w' hS'
                obtain ⟨h1, h2, h3⟩ := hS'
                go_simp
              (try simp only [Act.put, List.getElem_toArray, List.getElem_cons_succ, List.getElem_cons_zero, List.setIfInBounds_toArray, List.set_cons_zero, List.set_cons_succ])
              refine wpAnyN_take (i := 3) (v := .slice (some ⟨w1.heap.size, 0, none⟩) n n) rfl (by kernel_rfl) (by kernel_rfl) (by kernel_rfl) (by kernel_rfl) (fun _ _ _ h => h) (Or.inl ⟨by rfl, ?_⟩) S0 ?_
              · intro w' hS'
                obtain ⟨h1, h2, h3⟩ := hS'
                go_simp
              (try simp only [Act.put, List.getElem_toArray, List.getElem_cons_succ, List.getElem_cons_zero, List.setIfInBounds_toArray, List.set_cons_zero, List.set_cons_succ])
              refine wpAnyN_take (i := 4) (v := .int .i64 (i : Int)) rfl (by kernel_rfl) (by kernel_rfl) (by kernel_rfl) (by kernel_rfl) (fun _ _ _ h => h) (Or.inl ⟨by rfl, ?_⟩) S0 ?_
              · intro w' hS'
                obtain ⟨h1, h2, h3⟩ := hS'
                go_simp
              (try simp only [Act.put, List.getElem_toArray, List.getElem_cons_succ, List.getElem_cons_zero, List.setIfInBounds_toArray, List.set_cons_zero, List.set_cons_succ])
              refine wpAnyN_take (i := 5) (v := .pointer (some ⟨w1.heap.size, i, none⟩)) rfl (by kernel_rfl) (by kernel_rfl) (by kernel_rfl) (by kernel_rfl) (fun _ _ _ h => h) (Or.inl ⟨by rfl, ?_⟩) S0 ?_
              · intro w' hS'
                obtain ⟨h1, h2, h3⟩ := hS'
                go_simp
              (try simp only [Act.put, List.getElem_toArray, List.getElem_cons_succ, List.getElem_cons_zero, List.setIfInBounds_toArray, List.set_cons_zero, List.set_cons_succ])
              refine wpAnyN_take (i := 6) (v := .slice (some ⟨Bv, 0, none⟩) (fr n to i).length Cv) rfl (by kernel_rfl) (by kernel_rfl) (by kernel_rfl) (by kernel_rfl) (fun _ _ _ h => h) (Or.inl ⟨by rfl, ?_⟩) S0 ?_
              · intro w' hS'
                obtain ⟨h1, h2, h3⟩ := hS'
                go_simp
              (try simp only [Act.put, List.getElem_toArray, List.getElem_cons_succ, List.getElem_cons_zero, List.setIfInBounds_toArray, List.set_cons_zero, List.set_cons_succ])
              refine wpAnyN_take (i := 7) (v := .int .i64 ((k : Int) + 1)) rfl (by kernel_rfl) (by kernel_rfl) (by kernel_rfl) (by kernel_rfl) (fun _ _ _ h => h) (Or.inl ⟨by rfl, ?_⟩) S0 ?_
              · intro w' hS'
                obtain ⟨h1, h2, h3⟩ := hS'
                go_simp
              (try simp only [Act.put, List.getElem_toArray, List.getElem_cons_succ, List.getElem_cons_zero, List.setIfInBounds_toArray, List.set_cons_zero, List.set_cons_succ])
              refine wpAnyN_take (i := 8) (v := .pointer (some ⟨Bv, k + 1, none⟩)) rfl (by kernel_rfl) (by kernel_rfl) (by kernel_rfl) (by kernel_rfl) (fun _ _ _ h => h) (Or.inl ⟨by rfl, ?_⟩) S0 ?_
              · intro w' hS'
                obtain ⟨h1, h2, h3⟩ := hS'
                go_simp
              (try simp only [Act.put, List.getElem_toArray, List.getElem_cons_succ, List.getElem_cons_zero, List.setIfInBounds_toArray, List.set_cons_zero, List.set_cons_succ])
              refine wpAnyN_take (i := 9) (v := .int .i64 (x : Int)) rfl (by kernel_rfl) (by kernel_rfl) (by kernel_rfl) (by kernel_rfl) (fun _ _ _ h => h) (Or.inl ⟨by rfl, ?_⟩) S0 ?_
              · intro w' hS'
                obtain ⟨h1, h2, h3⟩ := hS'
                go_simp
              (try simp only [Act.put, List.getElem_toArray, List.getElem_cons_succ, List.getElem_cons_zero, List.setIfInBounds_toArray, List.set_cons_zero, List.set_cons_succ])
              refine wpAnyN_take (i := 10) (v := .slice (some ⟨w1.heap.size, 0, none⟩) n n) rfl (by kernel_rfl) (by kernel_rfl) (by kernel_rfl) (by kernel_rfl) (fun _ _ _ h => h) (Or.inl ⟨by rfl, ?_⟩) S0 ?_
              · intro w' hS'
                obtain ⟨h1, h2, h3⟩ := hS'
                go_simp
              (try simp only [Act.put, List.getElem_toArray, List.getElem_cons_succ, List.getElem_cons_zero, List.setIfInBounds_toArray, List.set_cons_zero, List.set_cons_succ])
              refine wpAnyN_take (i := 11) (v := .int .i64 (i : Int)) rfl (by kernel_rfl) (by kernel_rfl) (by kernel_rfl) (by kernel_rfl) (fun _ _ _ h => h) (Or.inl ⟨by rfl, ?_⟩) S0 ?_
              · intro w' hS'
                obtain ⟨h1, h2, h3⟩ := hS'
                go_simp
              (try simp only [Act.put, List.getElem_toArray, List.getElem_cons_succ, List.getElem_cons_zero, List.setIfInBounds_toArray, List.set_cons_zero, List.set_cons_succ])
              refine wpAnyN_take (i := 12) (v := .pointer (some ⟨w1.heap.size, i, none⟩)) rfl (by kernel_rfl) (by kernel_rfl) (by kernel_rfl) (by kernel_rfl) (fun _ _ _ h => h) (Or.inl ⟨by rfl, ?_⟩) S0 ?_
              · intro w' hS'
                obtain ⟨h1, h2, h3⟩ := hS'
                go_simp
              (try simp only [Act.put, List.getElem_toArray, List.getElem_cons_succ, List.getElem_cons_zero, List.setIfInBounds_toArray, List.set_cons_zero, List.set_cons_succ])
              refine wpAnyN_take (i := 13) (v := .slice (some ⟨Bv, 0, none⟩) (fr n to i).length Cv) rfl (by kernel_rfl) (by kernel_rfl) (by kernel_rfl) (by kernel_rfl) (fun _ _ _ h => h) (Or.inl ⟨by rfl, ?_⟩) S0 ?_
              · intro w' hS'
                obtain ⟨h1, h2, h3⟩ := hS'
                go_simp
              (try simp only [Act.put, List.getElem_toArray, List.getElem_cons_succ, List.getElem_cons_zero, List.setIfInBounds_toArray, List.set_cons_zero, List.set_cons_succ])
              refine wpAnyN_take (i := 14) (v := .int .i64 ((k : Int) + 1)) rfl (by kernel_rfl) (by kernel_rfl) (by kernel_rfl) (by kernel_rfl) (fun _ _ _ h => h) (Or.inl ⟨by rfl, ?_⟩) S0 ?_
              · intro w' hS'
                obtain ⟨h1, h2, h3⟩ := hS'
                go_simp
              (try simp only [Act.put, List.getElem_toArray, List.getElem_cons_succ, List.getElem_cons_zero, List.setIfInBounds_toArray, List.set_cons_zero, List.set_cons_succ])
              refine wpAnyN_take (i := 15) (v := .int .i64 (k : Int)) rfl (by kernel_rfl) (by kernel_rfl) (by kernel_rfl) (by kernel_rfl) (fun _ _ _ h => h) (Or.inl ⟨by rfl, ?_⟩) S0 ?_
              · intro w' hS'
                obtain ⟨h1, h2, h3⟩ := hS'
                go_simp
              (try simp only [Act.put, List.getElem_toArray, List.getElem_cons_succ, List.getElem_cons_zero, List.setIfInBounds_toArray, List.set_cons_zero, List.set_cons_succ])
              refine wpAnyN_take (i := 16) (v := .pointer (some ⟨Bv, k, none⟩)) rfl (by kernel_rfl) (by kernel_rfl) (by kernel_rfl) (by kernel_rfl) (fun _ _ _ h => h) (Or.inl ⟨by rfl, ?_⟩) S0 ?_
              · intro w' hS'
                obtain ⟨h1, h2, h3⟩ := hS'
                go_simp
              (try simp only [Act.put, List.getElem_toArray, List.getElem_cons_succ, List.getElem_cons_zero, List.setIfInBounds_toArray, List.set_cons_zero, List.set_cons_succ])
              refine wpAnyN_take (i := 17) (v := .int .i64 (y : Int)) rfl (by kernel_rfl) (by kernel_rfl) (by kernel_rfl) (by kernel_rfl) (fun _ _ _ h => h) (Or.inl ⟨by rfl, ?_⟩) S0 ?_
              · intro w' hS'
                obtain ⟨h1, h2, h3⟩ := hS'
                go_simp
              (try simp only [Act.put, List.getElem_toArray, List.getElem_cons_succ, List.getElem_cons_zero, List.setIfInBounds_toArray, List.set_cons_zero, List.set_cons_succ])
              refine wpAnyN_take (i := 18) (v := .bool false) rfl (by kernel_rfl) (by kernel_rfl) (by kernel_rfl) (by kernel_rfl) (fun _ _ _ h => h) (Or.inl ⟨by rfl, ?_⟩) S0 ?_
              · intro w' hS'
                obtain ⟨h1, h2, h3⟩ := hS'
                go_simp
              (try simp only [Act.put, List.getElem_toArray, List.getElem_cons_succ, List.getElem_cons_zero, List.setIfInBounds_toArray, List.set_cons_zero, List.set_cons_succ])
              refine wpAnyN_take (i := 19) (v := .bool false) rfl (by kernel_rfl) (by kernel_rfl) (by kernel_rfl) (by kernel_rfl) (fun _ _ _ h => h) (Or.inl ⟨by rfl, ?_⟩) S0 ?_
              · intro w' hS'
                obtain ⟨h1, h2, h3⟩ := hS'
                go_simp
              (try simp only [Act.put, List.getElem_toArray, List.getElem_cons_succ, List.getElem_cons_zero, List.setIfInBounds_toArray, List.set_cons_zero, List.set_cons_succ])
              refine wpAnyN_done (by kernel_rfl) ?_ _
              clear S0
              go_wp2
              go_roundw
              case rel => exact ⟨k + 1 + 1, by omega, by go_num, by go_num, by rw [CN.out], below_next BB.out (below_drew _)⟩
              case measure => simp [intOf]; omega
            · have CN : Hid (cam n to i (k + 1 + 1) = rb n to (-1) x) := (by rw [CS.out, hcm]; rfl : cam n to i (k + 1 + 1) = rb n to (-1) x)
              rw [hcm]
              go_wp2
              refine wp_region_N (fun w' => w'.cell? ⟨w1.heap.size, i, none⟩ = some (.slice (some ⟨Bv, 0, none⟩) (fr n to i).length Cv) ∧ w'.cell? ⟨Bv, k + 1, none⟩ = some (.int .i64 (x : Int)) ∧ w'.cell? ⟨Bv, k, none⟩ = some (.int .i64 (y : Int))) (fun _ => true) mixed (SK.out _ (below_drew _)) ?_
              intro S0
              refine wpAnyN_take (i := 0) (v := .int .i64 ((k : Int) + 1)) rfl (by kernel_rfl) (by kernel_rfl) (by kernel_rfl) (by kernel_rfl) (fun _ _ _ h => h) (Or.inl ⟨by rfl, ?_⟩) S0 ?_
              · intro w' hS'
                obtain ⟨h1, h2, h3⟩ := hS'
                go_simp
              (try simp only [Act.put, List.getElem_toArray, List.getElem_cons_zero, List.setIfInBounds_toArray, List.set_cons_zero, List.set_cons_succ])
              refine wpAnyN_take (i := 1) (v := .bool true) rfl (by kernel_rfl) (by kernel_rfl) (by kernel_rfl) (by kernel_rfl) (fun _ _ _ h => h) (Or.inl ⟨by rfl, ?_⟩) S0 ?_
              · intro w' hS'
                obtain ⟨h1, h2, h3⟩ := hS'
                go_simp
              (try simp only [Act.put, List.getElem_toArray, List.getElem_cons_succ, List.getElem_cons_zero, List.setIfInBounds_toArray, List.set_cons_zero, List.set_cons_succ])
              refine wpAnyN_take (i := 2) (v := .bool true) rfl (by kernel_rfl) (by kernel_rfl) (by kernel_rfl) (by kernel_rfl) (fun _ _ _ h => h) (Or.inl ⟨by rfl, ?_⟩) S0 ?_
              · intro w' hS'
                obtain ⟨h1, h2, h3⟩ := hS'
                go_simp
              (try simp only [Act.put, List.getElem_toArray, List.getElem_cons_succ, List.getElem_cons_zero, List.setIfInBounds_toArray, List.set_cons_zero, List.set_cons_succ])
              refine wpAnyN_take (i := 3) (v := .slice (some ⟨w1.heap.size, 0, none⟩) n n) rfl (by kernel_rfl) (by kernel_rfl) (by kernel_rfl) (by kernel_rfl) (fun _ _ _ h => h) (Or.inl ⟨by rfl, ?_⟩) S0 ?_
              · intro w' hS'
                obtain ⟨h1, h2, h3⟩ := hS'
                go_simp
              (try simp only [Act.put, List.getElem_toArray, List.getElem_cons_succ, List.getElem_cons_zero, List.setIfInBounds_toArray, List.set_cons_zero, List.set_cons_succ])
              refine wpAnyN_take (i := 4) (v := .int .i64 (i : Int)) rfl (by kernel_rfl) (by kernel_rfl) (by kernel_rfl) (by kernel_rfl) (fun _ _ _ h => h) (Or.inl ⟨by rfl, ?_⟩) S0 ?_
              · intro w' hS'
                obtain ⟨h1, h2, h3⟩ := hS'
                go_simp
              (try simp only [Act.put, List.getElem_toArray, List.getElem_cons_succ, List.getElem_cons_zero, List.setIfInBounds_toArray, List.set_cons_zero, List.set_cons_succ])
              refine wpAnyN_take (i := 5) (v := .pointer (some ⟨w1.heap.size, i, none⟩)) rfl (by kernel_rfl) (by kernel_rfl) (by kernel_rfl) (by kernel_rfl) (fun _ _ _ h => h) (Or.inl ⟨by rfl, ?_⟩) S0 ?_
              · intro w' hS'
                obtain ⟨h1, h2, h3⟩ := hS'
                go_simp
              (try simp only [Act.put, List.getElem_toArray, List.getElem_cons_succ, List.getElem_cons_zero, List.setIfInBounds_toArray, List.set_cons_zero, List.set_cons_succ])
              refine wpAnyN_take (i := 6) (v := .slice (some ⟨Bv, 0, none⟩) (fr n to i).length Cv) rfl (by kernel_rfl) (by kernel_rfl) (by kernel_rfl) (by kernel_rfl) (fun _ _ _ h => h) (Or.inl ⟨by rfl, ?_⟩) S0 ?_
              · intro w' hS'
                obtain ⟨h1, h2, h3⟩ := hS'
                go_simp
              (try simp only [Act.put, List.getElem_toArray, List.getElem_cons_succ, List.getElem_cons_zero, List.setIfInBounds_toArray, List.set_cons_zero, List.set_cons_succ])
              refine wpAnyN_take (i := 7) (v := .int .i64 ((k : Int) + 1)) rfl (by kernel_rfl) (by kernel_rfl) (by kernel_rfl) (by kernel_rfl) (fun _ _ _ h => h) (Or.inl ⟨by rfl, ?_⟩) S0 ?_
              · intro w' hS'
                obtain ⟨h1, h2, h3⟩ := hS'
                go_simp
              (try simp only [Act.put, List.getElem_toArray, List.getElem_cons_succ, List.getElem_cons_zero, List.setIfInBounds_toArray, List.set_cons_zero, List.set_cons_succ])
              refine wpAnyN_take (i := 8) (v := .pointer (some ⟨Bv, k + 1, none⟩)) rfl (by kernel_rfl) (by kernel_rfl) (by kernel_rfl) (by kernel_rfl) (fun _ _ _ h => h) (Or.inl ⟨by rfl, ?_⟩) S0 ?_
              · intro w' hS'
                obtain ⟨h1, h2, h3⟩ := hS'
                go_simp
              (try simp only [Act.put, List.getElem_toArray, List.getElem_cons_succ, List.getElem_cons_zero, List.setIfInBounds_toArray, List.set_cons_zero, List.set_cons_succ])
              refine wpAnyN_take (i := 9) (v := .int .i64 (x : Int)) rfl (by kernel_rfl) (by kernel_rfl) (by kernel_rfl) (by kernel_rfl) (fun _ _ _ h => h) (Or.inl ⟨by rfl, ?_⟩) S0 ?_
              · intro w' hS'
                obtain ⟨h1, h2, h3⟩ := hS'
                go_simp
              (try simp only [Act.put, List.getElem_toArray, List.getElem_cons_succ, List.getElem_cons_zero, List.setIfInBounds_toArray, List.set_cons_zero, List.set_cons_succ])
              refine wpAnyN_take (i := 10) (v := .slice (some ⟨w1.heap.size, 0, none⟩) n n) rfl (by kernel_rfl) (by kernel_rfl) (by kernel_rfl) (by kernel_rfl) (fun _ _ _ h => h) (Or.inl ⟨by rfl, ?_⟩) S0 ?_
              · intro w' hS'
                obtain ⟨h1, h2, h3⟩ := hS'
                go_simp
              (try simp only [Act.put, List.getElem_toArray, List.getElem_cons_succ, List.getElem_cons_zero, List.setIfInBounds_toArray, List.set_cons_zero, List.set_cons_succ])
              refine wpAnyN_take (i := 11) (v := .int .i64 (i : Int)) rfl (by kernel_rfl) (by kernel_rfl) (by kernel_rfl) (by kernel_rfl) (fun _ _ _ h => h) (Or.inl ⟨by rfl, ?_⟩) S0 ?_
              · intro w' hS'
                obtain ⟨h1, h2, h3⟩ := hS'
                go_simp
              (try simp only [Act.put, List.getElem_toArray, List.getElem_cons_succ, List.getElem_cons_zero, List.setIfInBounds_toArray, List.set_cons_zero, List.set_cons_succ])
              refine wpAnyN_take (i := 12) (v := .pointer (some ⟨w1.heap.size, i, none⟩)) rfl (by kernel_rfl) (by kernel_rfl) (by kernel_rfl) (by kernel_rfl) (fun _ _ _ h => h) (Or.inl ⟨by rfl, ?_⟩) S0 ?_
              · intro w' hS'
                obtain ⟨h1, h2, h3⟩ := hS'
                go_simp
              (try simp only [Act.put, List.getElem_toArray, List.getElem_cons_succ, List.getElem_cons_zero, List.setIfInBounds_toArray, List.set_cons_zero, List.set_cons_succ])
              refine wpAnyN_take (i := 13) (v := .slice (some ⟨Bv, 0, none⟩) (fr n to i).length Cv) rfl (by kernel_rfl) (by kernel_rfl) (by kernel_rfl) (by kernel_rfl) (fun _ _ _ h => h) (Or.inl ⟨by rfl, ?_⟩) S0 ?_
              · intro w' hS'
                obtain ⟨h1, h2, h3⟩ := hS'
                go_simp
              (try simp only [Act.put, List.getElem_toArray, List.getElem_cons_succ, List.getElem_cons_zero, List.setIfInBounds_toArray, List.set_cons_zero, List.set_cons_succ])
              refine wpAnyN_take (i := 14) (v := .int .i64 ((k : Int) + 1)) rfl (by kernel_rfl) (by kernel_rfl) (by kernel_rfl) (by kernel_rfl) (fun _ _ _ h => h) (Or.inl ⟨by rfl, ?_⟩) S0 ?_
              · intro w' hS'
                obtain ⟨h1, h2, h3⟩ := hS'
                go_simp
              (try simp only [Act.put, List.getElem_toArray, List.getElem_cons_succ, List.getElem_cons_zero, List.setIfInBounds_toArray, List.set_cons_zero, List.set_cons_succ])
              refine wpAnyN_take (i := 15) (v := .int .i64 (k : Int)) rfl (by kernel_rfl) (by kernel_rfl) (by kernel_rfl) (by kernel_rfl) (fun _ _ _ h => h) (Or.inl ⟨by rfl, ?_⟩) S0 ?_
              · intro w' hS'
                obtain ⟨h1, h2, h3⟩ := hS'
                go_simp
              (try simp only [Act.put, List.getElem_toArray, List.getElem_cons_succ, List.getElem_cons_zero, List.setIfInBounds_toArray, List.set_cons_zero, List.set_cons_succ])
              refine wpAnyN_take (i := 16) (v := .pointer (some ⟨Bv, k, none⟩)) rfl (by kernel_rfl) (by kernel_rfl) (by kernel_rfl) (by kernel_rfl) (fun _ _ _ h => h) (Or.inl ⟨by rfl, ?_⟩) S0 ?_
              · intro w' hS'
                obtain ⟨h1, h2, h3⟩ := hS'
                go_simp
              (try simp only [Act.put, List.getElem_toArray, List.getElem_cons_succ, List.getElem_cons_zero, List.setIfInBounds_toArray, List.set_cons_zero, List.set_cons_succ])
              refine wpAnyN_take (i := 17) (v := .int .i64 (y : Int)) rfl (by kernel_rfl) (by kernel_rfl) (by kernel_rfl) (by kernel_rfl) (fun _ _ _ h => h) (Or.inl ⟨by rfl, ?_⟩) S0 ?_
              · intro w' hS'
                obtain ⟨h1, h2, h3⟩ := hS'
                go_simp
              (try simp only [Act.put, List.getElem_toArray, List.getElem_cons_succ, List.getElem_cons_zero, List.setIfInBounds_toArray, List.set_cons_zero, List.set_cons_succ])
              refine wpAnyN_take (i := 18) (v := .bool false) rfl (by kernel_rfl) (by kernel_rfl) (by kernel_rfl) (by kernel_rfl) (fun _ _ _ h => h) (Or.inl ⟨by rfl, ?_⟩) S0 ?_
              · intro w' hS'
                obtain ⟨h1, h2, h3⟩ := hS'
                go_simp
              (try simp only [Act.put, List.getElem_toArray, List.getElem_cons_succ, List.getElem_cons_zero, List.setIfInBounds_toArray, List.set_cons_zero, List.set_cons_succ])
              refine wpAnyN_take (i := 19) (v := .bool false) rfl (by kernel_rfl) (by kernel_rfl) (by kernel_rfl) (by kernel_rfl) (fun _ _ _ h => h) (Or.inl ⟨by rfl, ?_⟩) S0 ?_
              · intro w' hS'
                obtain ⟨h1, h2, h3⟩ := hS'
                go_simp
              (try simp only [Act.put, List.getElem_toArray, List.getElem_cons_succ, List.getElem_cons_zero, List.setIfInBounds_toArray, List.set_cons_zero, List.set_cons_succ])
              refine wpAnyN_done (by kernel_rfl) ?_ _
              clear S0
              go_wp2
              go_roundw
              case rel => exact ⟨k + 1 + 1, by omega, by go_num, by go_num, by rw [CN.out], below_next BB.out (below_drew _)⟩
              case measure => simp [intOf]; omega
        · have hkz : ¬ (k : Int) < (fr n to i).length := by omega
          obtain rfl : k = (fr n to i).length := by omega
          have c3 := PC.out wz BB.out i hi'
          rcases Bool.eq_false_or_eq_true (rb n to (-1) i) with hri | hri
          · rw [cam_all h0 hri]
            rw [hri] at c3
            go_wp2
            go_roundw
            case rel => exact ⟨i + 1, by omega, by go_num, by rw [ES.out], BB.out⟩
            case measure => simp [intOf]; omega
          · rw [hri] at c3
            generalize cam n to i (fr n to i).length = γ at *
            go_wp2
            go_roundw
            case rel => exact ⟨i + 1, by omega, by go_num, by rw [ES.out], BB.out⟩
            case measure => simp [intOf]; omega
    · have hiz : ¬ (i : Int) < n := by omega
      obtain rfl : n = i := by omega
      have TOT : Hid (sm (fun x => (fr n to x).length) n = sm (fun a => dst n (wy n to a)) (min n to.length)) := both_ways n to
      have hcn := SFL.out n (Nat.le_refl _)
      have SDL : Hid (∀ i, i ≤ n → sm (fun a => dst n (wy n to a)) i ≤ 1024) := fun i hi => by
        have := sm_le (f := fun a => dst n (wy n to a)) (n := i) (c := n) fun x => dst_le n _
        have h2 : i * n ≤ 32 * 32 := Nat.mul_le_mul (by omega) hn
        omega
      generalize sm (fun x => (fr n to x).length) n = CT at *
      clear SFL RC
      go_wp2
      go_loopw [11, 12] (fun wv iv wq => ∃ i : Nat, i ≤ min n to.length ∧ iv = .int .i64 (i : Int) ∧ wv = .int .i64 (sm (fun a => dst n (wy n to a)) i : Int) ∧ Below w2.heap.size w2 wq) (fun _ iv _ => n - (intOf iv).toNat)
      case atStart => exact ⟨0, Nat.zero_le _, rfl, rfl, BA.out⟩
      case round =>
        rename World => wq
        obtain ⟨i, hi, rfl, rfl, hB⟩ := hrel
        have BC : Hid (Below w2.heap.size w2 wq) := hB
        clear hB
        by_cases hil : i < to.length
        · have hilz : (i : Int) < to.length := by omega
          by_cases hin : i < n
          · have hinz : (i : Int) < n := by omega
            obtain ⟨b, o, u, rfl, hb, hcu, hnum⟩ := HR.out i hil
            obtain ⟨A1, C1, rfl, hn1⟩ := hnum
            have EW : Hid (wy n to i = keep n to[i]) := (by unfold wy; rw [List.getD_eq_getElem?_getD, List.getElem?_eq_getElem hil]; rfl : wy n to i = keep n to[i])
            have hLl : to[i].length ≤ 200 := FW.out.2 i hil
            have ESD : Hid (sm (fun a => dst n (wy n to a)) (i + 1) = sm (fun a => dst n (wy n to a)) i + dst n (keep n to[i])) := (by rw [← EW.out]; rfl : sm (fun a => dst n (wy n to a)) (i + 1) = sm (fun a => dst n (wy n to a)) i + dst n (keep n to[i]))
            have CLS : Hid (∀ y : Nat, y < n → (y : Int) ∈ to[i] → rb n to (-1) i = true → rb n to (-1) y = true) := fun y hy hm hr => (rb_iff _ _ _ _).2 (((rb_iff _ _ _ _).1 hr).step (show y ∈ wy n to i by rw [EW.out]; exact keep_mem.2 ⟨hm, hy⟩) (by omega))
            have hsd := SDL.out i (by omega)
            have TC : Hid (∀ wz, Below w2.heap.size w2 wz → wz.cell? ⟨b, o + i, none⟩ = some (.slice A1 to[i].length C1)) := fun wz hbz => ((below_next C2.out hbz).cell (p := ⟨b, o + i, none⟩) hb).trans hcu
            have HN : Hid (∀ k, k < to[i].length → ∃ b1 o1, A1 = some ⟨b1, o1, none⟩ ∧ ∀ wz, Below w2.heap.size w2 wz → ∀ k' (hk' : k' < to[i].length), wz.cell? ⟨b1, o1 + k', none⟩ = some (.int .i64 (to[i][k']'hk'))) := fun k hk => by
              obtain ⟨b1, o1, e1, hb1, hc1⟩ := hn1 k hk
              refine ⟨b1, o1, e1, fun wz hbz k' hk' => ?_⟩
              obtain ⟨b2, o2, e2, hb2, hc2⟩ := hn1 k' hk'
              rw [e1] at e2
              injection e2 with e2
              injection e2 with e3 e4 _
              subst e3 e4
              exact ((below_next C2.out hbz).cell (p := ⟨b1, o1 + k', none⟩) hb2).trans hc2
            clear hcu hn1 EW
            generalize to[i] = L at *
            generalize sm (fun a => dst n (wy n to a)) i = sd at *
            go_wp2
            go_loopw [11, 13] (fun wv kv wz => ∃ k : Nat, k ≤ L.length ∧ kv = .int .i64 (k : Int) ∧ wv = .int .i64 ((sd + dst n (keep n (L.take k)) : Nat) : Int) ∧ Below w2.heap.size w2 wz) (fun _ kv _ => L.length - (intOf kv).toNat)
            case atStart => exact ⟨0, Nat.zero_le _, rfl, by simp [keep, dst, sm_zero], BC.out⟩
            case round =>
              rename World => wz
              obtain ⟨k, hk, rfl, rfl, hB⟩ := hrel
              have BD : Hid (Below w2.heap.size w2 wz) := hB
              have d1 := TC.out wz hB
              clear hB
              rcases Nat.lt_or_ge k L.length with hk' | hk'
              · have hkz : (k : Int) < L.length := by omega
                obtain ⟨b1, o1, rfl, hcell⟩ := HN.out k hk'
                have CE : Hid (∀ wz, Below w2.heap.size w2 wz → ∀ k' (hk' : k' < L.length), wz.cell? ⟨b1, o1 + k', none⟩ = some (.int .i64 (L[k']'hk'))) := hcell
                have d2 := hcell wz BD.out k hk'
                have hdl := dst_le n (keep n (L.take k))
                have KS : Hid (keep n (L.take (k + 1)) = keep n (L.take k) ++ if 0 ≤ L[k] ∧ L[k] < (n : Int) then [L[k].toNat] else []) := keep_step n L k hk'
                have MEM : Hid (L[k] ∈ L) := List.getElem_mem hk'
                clear hcell
                obtain ⟨x, hxe⟩ : ∃ x, L[k]'hk' = x := ⟨_, rfl⟩
                rw [hxe] at KS d2 MEM
                by_cases hx : 0 ≤ x ∧ x < (n : Int)
                · obtain ⟨y, rfl⟩ : ∃ y : Nat, x = (y : Int) := ⟨x.toNat, by omega⟩
                  have hyn : y < n := by omega
                  have hyz : (y : Int) < n := by omega
                  have hy0 : ¬ (y : Int) < 0 := by omega
                  have KS2 : Hid (keep n (L.take (k + 1)) = keep n (L.take k) ++ [y]) := (by rw [KS.out, if_pos hx, Int.toNat_natCast] : keep n (L.take (k + 1)) = keep n (L.take k) ++ [y])
                  have d3 := PC.out wz BD.out i hin
                  have d4 := PC.out wz BD.out y hyn
                  have DY : Hid (y ∉ keep n (L.take k) → dst n (keep n (L.take (k + 1))) = dst n (keep n (L.take k)) + 1) := fun h => by rw [KS2.out]; exact dst_in hyn h
                  have DN : Hid (y ∈ keep n (L.take k) → dst n (keep n (L.take (k + 1))) = dst n (keep n (L.take k))) := fun h => by rw [KS2.out]; exact dst_same h
                  have NK : Hid (nin (y : Int) (L.take k) = true ↔ y ∉ keep n (L.take k)) := nin_keep hyn
                  have CY := CLS.out y hyn MEM.out
                  clear hx
                  go_wp2
                  go_loopw [14, 15] (fun fv jv wt => ∃ j : Nat, j ≤ k ∧ jv = .int .i64 (j : Int) ∧ fv = .bool (nin (y : Int) (L.take j)) ∧ Below wz.heap.size wz wt) (fun _ jv _ => k - (intOf jv).toNat)
                  case atStart => exact ⟨0, Nat.zero_le _, rfl, by simp [nin], Below.refl _ _⟩
                  case round =>
                    rename World => wt
                    obtain ⟨j, hj, rfl, rfl, hB⟩ := hrel
                    have BE : Hid (Below wz.heap.size wz wt) := hB
                    have BF : Hid (Below w2.heap.size w2 wt) := below_next BD.out hB
                    clear hB
                    rcases Nat.lt_or_ge j k with hj' | hj'
                    · have hjz : (j : Int) < k := by omega
                      have hjl : j < L.length := by omega
                      have hjlz : (j : Int) < L.length := by omega
                      have NS : Hid (nin (y : Int) (L.take (j + 1)) = (nin (y : Int) (L.take j) && (L[j] != (y : Int)))) := nin_step _ _ _ hjl
                      obtain ⟨v, hve⟩ : ∃ v, L[j]'hjl = v := ⟨_, rfl⟩
                      rw [hve] at NS
                      have SK : Hid (∀ wv, Below wt.heap.size wt wv → wv.cell? ⟨b, o + i, none⟩ = some (.slice (some ⟨b1, o1, none⟩) L.length C1) ∧ wv.cell? ⟨b1, o1 + j, none⟩ = some (.int .i64 v) ∧ wv.cell? ⟨b1, o1 + k, none⟩ = some (.int .i64 (y : Int))) := fun wv hbv => by
                        have hb2 := below_next BF.out hbv
                        refine ⟨TC.out wv hb2, ?_, ?_⟩
                        · rw [← hve]; exact CE.out wv hb2 j hjl
                        · rw [← hxe]; exact CE.out wv hb2 k hk'
                      rcases Bool.eq_false_or_eq_true (nin (y : Int) (L.take j)) with hni | hni
                      · have NT : Hid (nin (y : Int) (L.take (j + 1)) = (v != (y : Int))) := (by rw [NS.out, hni, Bool.true_and] : nin (y : Int) (L.take (j + 1)) = (v != (y : Int)))
                        rw [hni]
                        go_wp2
                        refine wp_region_N (fun w' => w'.cell? ⟨b, o + i, none⟩ = some (.slice (some ⟨b1, o1, none⟩) L.length C1) ∧ w'.cell? ⟨b1, o1 + j, none⟩ = some (.int .i64 v) ∧ w'.cell? ⟨b1, o1 + k, none⟩ = some (.int .i64 (y : Int))) (fun _ => true) mixed (SK.out _ (below_drew _)) ?_
                        intro S0
                        refine wpAnyN_take (i := 0) (v := .bool true) rfl (by kernel_rfl) (by kernel_rfl) (by kernel_rfl) (by kernel_rfl) (fun _ _ _ h => h) (Or.inl ⟨by rfl, ?_⟩) S0 ?_
                        · intro w' hS'
                          obtain ⟨h1, h2, h3⟩ := hS'
                          go_simp
                        (try simp only [Act.put, List.getElem_toArray, List.getElem_cons_zero, List.setIfInBounds_toArray, List.set_cons_zero, List.set_cons_succ])
                        refine wpAnyN_take (i := 1) (v := .bool true) rfl (by kernel_rfl) (by kernel_rfl) (by kernel_rfl) (by kernel_rfl) (fun _ _ _ h => h) (Or.inl ⟨by rfl, ?_⟩) S0 ?_
                        · intro w' hS'
                          obtain ⟨h1, h2, h3⟩ := hS'
                          go_simp
                        (try simp only [Act.put, List.getElem_toArray, List.getElem_cons_succ, List.getElem_cons_zero, List.setIfInBounds_toArray, List.set_cons_zero, List.set_cons_succ])
                        refine wpAnyN_take (i := 2) (v := .slice (some ⟨b, o, none⟩) to.length C) rfl (by kernel_rfl) (by kernel_rfl) (by kernel_rfl) (by kernel_rfl) (fun _ _ _ h => h) (Or.inl ⟨by rfl, ?_⟩) S0 ?_
                        · intro w' hS'
                          obtain ⟨h1, h2, h3⟩ := hS'
                          go_simp
                        (try simp only [Act.put, List.getElem_toArray, List.getElem_cons_succ, List.getElem_cons_zero, List.setIfInBounds_toArray, List.set_cons_zero, List.set_cons_succ])
                        refine wpAnyN_take (i := 3) (v := .int .i64 (i : Int)) rfl (by kernel_rfl) (by kernel_rfl) (by kernel_rfl) (by kernel_rfl) (fun _ _ _ h => h) (Or.inl ⟨by rfl, ?_⟩) S0 ?_
                        · intro w' hS'
                          obtain ⟨h1, h2, h3⟩ := hS'
                          go_simp
                        (try simp only [Act.put, List.getElem_toArray, List.getElem_cons_succ, List.getElem_cons_zero, List.setIfInBounds_toArray, List.set_cons_zero, List.set_cons_succ])
                        refine wpAnyN_take (i := 4) (v := .pointer (some ⟨b, o + i, none⟩)) rfl (by kernel_rfl) (by kernel_rfl) (by kernel_rfl) (by kernel_rfl) (fun _ _ _ h => h) (Or.inl ⟨by rfl, ?_⟩) S0 ?_
                        · intro w' hS'
                          obtain ⟨h1, h2, h3⟩ := hS'
                          go_simp
                        (try simp only [Act.put, List.getElem_toArray, List.getElem_cons_succ, List.getElem_cons_zero, List.setIfInBounds_toArray, List.set_cons_zero, List.set_cons_succ])
                        refine wpAnyN_take (i := 5) (v := .slice (some ⟨b1, o1, none⟩) L.length C1) rfl (by kernel_rfl) (by kernel_rfl) (by kernel_rfl) (by kernel_rfl) (fun _ _ _ h => h) (Or.inl ⟨by rfl, ?_⟩) S0 ?_
                        · intro w' hS'
                          obtain ⟨h1, h2, h3⟩ := hS'
                          go_simp
                        (try simp only [Act.put, List.getElem_toArray, List.getElem_cons_succ, List.getElem_cons_zero, List.setIfInBounds_toArray, List.set_cons_zero, List.set_cons_succ])
                        refine wpAnyN_take (i := 6) (v := .int .i64 (j : Int)) rfl (by kernel_rfl) (by kernel_rfl) (by kernel_rfl) (by kernel_rfl) (fun _ _ _ h => h) (Or.inl ⟨by rfl, ?_⟩) S0 ?_
                        · intro w' hS'
                          obtain ⟨h1, h2, h3⟩ := hS'
                          go_simp
                        (try simp only [Act.put, List.getElem_toArray, List.getElem_cons_succ, List.getElem_cons_zero, List.setIfInBounds_toArray, List.set_cons_zero, List.set_cons_succ])
                        refine wpAnyN_take (i := 7) (v := .pointer (some ⟨b1, o1 + j, none⟩)) rfl (by kernel_rfl) (by kernel_rfl) (by kernel_rfl) (by kernel_rfl) (fun _ _ _ h => h) (Or.inl ⟨by rfl, ?_⟩) S0 ?_
                        · intro w' hS'
                          obtain ⟨h1, h2, h3⟩ := hS'
                          go_simp
                        (try simp only [Act.put, List.getElem_toArray, List.getElem_cons_succ, List.getElem_cons_zero, List.setIfInBounds_toArray, List.set_cons_zero, List.set_cons_succ])
                        refine wpAnyN_take (i := 8) (v := .int .i64 v) rfl (by kernel_rfl) (by kernel_rfl) (by kernel_rfl) (by kernel_rfl) (fun _ _ _ h => h) (Or.inl ⟨by rfl, ?_⟩) S0 ?_
                        · intro w' hS'
                          obtain ⟨h1, h2, h3⟩ := hS'
                          go_simp
                        (try simp only [Act.put, List.getElem_toArray, List.getElem_cons_succ, List.getElem_cons_zero, List.setIfInBounds_toArray, List.set_cons_zero, List.set_cons_succ])
                        refine wpAnyN_take (i := 9) (v := .slice (some ⟨b, o, none⟩) to.length C) rfl (by kernel_rfl) (by kernel_rfl) (by kernel_rfl) (by kernel_rfl) (fun _ _ _ h => h) (Or.inl ⟨by rfl, ?_⟩) S0 ?_
                        · intro w' hS'
                          obtain ⟨h1, h2, h3⟩ := hS'
                          go_simp
                        (try simp only [Act.put, List.getElem_toArray, List.getElem_cons_succ, List.getElem_cons_zero, List.setIfInBounds_toArray, List.set_cons_zero, List.set_cons_succ])
                        refine wpAnyN_take (i := 10) (v := .int .i64 (i : Int)) rfl (by kernel_rfl) (by kernel_rfl) (by kernel_rfl) (by kernel_rfl) (fun _ _ _ h => h) (Or.inl ⟨by rfl, ?_⟩) S0 ?_
                        · intro w' hS'
                          obtain ⟨h1, h2, h3⟩ := hS'
                          go_simp
                        (try simp only [Act.put, List.getElem_toArray, List.getElem_cons_succ, List.getElem_cons_zero, List.setIfInBounds_toArray, List.set_cons_zero, List.set_cons_succ])
                        refine wpAnyN_take (i := 11) (v := .pointer (some ⟨b, o + i, none⟩)) rfl (by kernel_rfl) (by kernel_rfl) (by kernel_rfl) (by kernel_rfl) (fun _ _ _ h => h) (Or.inl ⟨by rfl, ?_⟩) S0 ?_
                        · intro w' hS'
                          obtain ⟨h1, h2, h3⟩ := hS'
                          go_simp
                        (try simp only [Act.put, List.getElem_toArray, List.getElem_cons_succ, List.getElem_cons_zero, List.setIfInBounds_toArray, List.set_cons_zero, List.set_cons_succ])
                        refine wpAnyN_take (i := 12) (v := .slice (some ⟨b1, o1, none⟩) L.length C1) rfl (by kernel_rfl) (by kernel_rfl) (by kernel_rfl) (by kernel_rfl) (fun _ _ _ h => h) (Or.inl ⟨by rfl, ?_⟩) S0 ?_
                        · intro w' hS'
                          obtain ⟨h1, h2, h3⟩ := hS'
                          go_simp
                        (try simp only [Act.put, List.getElem_toArray, List.getElem_cons_succ, List.getElem_cons_zero, List.setIfInBounds_toArray, List.set_cons_zero, List.set_cons_succ])
                        refine wpAnyN_take (i := 13) (v := .int .i64 (k : Int)) rfl (by kernel_rfl) (by kernel_rfl) (by kernel_rfl) (by kernel_rfl) (fun _ _ _ h => h) (Or.inl ⟨by rfl, ?_⟩) S0 ?_
                        · intro w' hS'
                          obtain ⟨h1, h2, h3⟩ := hS'
                          go_simp
                        (try simp only [Act.put, List.getElem_toArray, List.getElem_cons_succ, List.getElem_cons_zero, List.setIfInBounds_toArray, List.set_cons_zero, List.set_cons_succ])
                        refine wpAnyN_take (i := 14) (v := .pointer (some ⟨b1, o1 + k, none⟩)) rfl (by kernel_rfl) (by kernel_rfl) (by kernel_rfl) (by kernel_rfl) (fun _ _ _ h => h) (Or.inl ⟨by rfl, ?_⟩) S0 ?_
                        · intro w' hS'
                          obtain ⟨h1, h2, h3⟩ := hS'
                          go_simp
                        (try simp only [Act.put, List.getElem_toArray, List.getElem_cons_succ, List.getElem_cons_zero, List.setIfInBounds_toArray, List.set_cons_zero, List.set_cons_succ])
                        refine wpAnyN_take (i := 15) (v := .int .i64 (y : Int)) rfl (by kernel_rfl) (by kernel_rfl) (by kernel_rfl) (by kernel_rfl) (fun _ _ _ h => h) (Or.inl ⟨by rfl, ?_⟩) S0 ?_
                        · intro w' hS'
                          obtain ⟨h1, h2, h3⟩ := hS'
                          go_simp
                        (try simp only [Act.put, List.getElem_toArray, List.getElem_cons_succ, List.getElem_cons_zero, List.setIfInBounds_toArray, List.set_cons_zero, List.set_cons_succ])
                        refine wpAnyN_take (i := 16) (v := .bool (v != (y : Int))) rfl (by kernel_rfl) (by kernel_rfl) (by kernel_rfl) (by kernel_rfl) (fun _ _ _ h => h) (Or.inl ⟨by rfl, ?_⟩) S0 ?_
                        · intro w' hS'
                          obtain ⟨h1, h2, h3⟩ := hS'
                          go_simp
                        (try simp only [Act.put, List.getElem_toArray, List.getElem_cons_succ, List.getElem_cons_zero, List.setIfInBounds_toArray, List.set_cons_zero, List.set_cons_succ])
                        refine wpAnyN_take (i := 17) (v := .bool (v != (y : Int))) rfl (by kernel_rfl) (by kernel_rfl) (by kernel_rfl) (by kernel_rfl) (fun _ _ _ h => h) (Or.inl ⟨by rfl, ?_⟩) S0 ?_
                        · intro w' hS'
                          obtain ⟨h1, h2, h3⟩ := hS'
                          go_simp
                        (try simp only [Act.put, List.getElem_toArray, List.getElem_cons_succ, List.getElem_cons_zero, List.setIfInBounds_toArray, List.set_cons_zero, List.set_cons_succ])
                        refine wpAnyN_take (i := 18) (v := .bool (v != (y : Int))) rfl (by kernel_rfl) (by kernel_rfl) (by kernel_rfl) (by kernel_rfl) (fun _ _ _ h => h) (Or.inl ⟨by rfl, ?_⟩) S0 ?_
                        · intro w' hS'
                          obtain ⟨h1, h2, h3⟩ := hS'
                          go_simp
                        (try simp only [Act.put, List.getElem_toArray, List.getElem_cons_succ, List.getElem_cons_zero, List.setIfInBounds_toArray, List.set_cons_zero, List.set_cons_succ])
                        refine wpAnyN_done (by kernel_rfl) ?_ _
                        clear S0
                        go_wp2
                        go_roundw
                        case rel => exact ⟨j + 1, by omega, by go_num, by rw [NT.out], below_next BE.out (below_drew _)⟩
                        case measure => simp [intOf]; omega
                      · have NT : Hid (nin (y : Int) (L.take (j + 1)) = false) := (by rw [NS.out, hni, Bool.false_and] : nin (y : Int) (L.take (j + 1)) = false)
                        rw [hni]
                        go_wp2
                        refine wp_region_N (fun w' => w'.cell? ⟨b, o + i, none⟩ = some (.slice (some ⟨b1, o1, none⟩) L.length C1) ∧ w'.cell? ⟨b1, o1 + j, none⟩ = some (.int .i64 v) ∧ w'.cell? ⟨b1, o1 + k, none⟩ = some (.int .i64 (y : Int))) (fun _ => true) mixed (SK.out _ (below_drew _)) ?_
                        intro S0
                        refine wpAnyN_take (i := 0) (v := .bool false) rfl (by kernel_rfl) (by kernel_rfl) (by kernel_rfl) (by kernel_rfl) (fun _ _ _ h => h) (Or.inl ⟨by rfl, ?_⟩) S0 ?_
                        · intro w' hS'
                          obtain ⟨h1, h2, h3⟩ := hS'
                          go_simp
                        (try simp only [Act.put, List.getElem_toArray, List.getElem_cons_zero, List.setIfInBounds_toArray, List.set_cons_zero, List.set_cons_succ])
                        refine wpAnyN_take (i := 1) (v := .bool false) rfl (by kernel_rfl) (by kernel_rfl) (by kernel_rfl) (by kernel_rfl) (fun _ _ _ h => h) (Or.inl ⟨by rfl, ?_⟩) S0 ?_
                        · intro w' hS'
                          obtain ⟨h1, h2, h3⟩ := hS'
                          go_simp
                        (try simp only [Act.put, List.getElem_toArray, List.getElem_cons_succ, List.getElem_cons_zero, List.setIfInBounds_toArray, List.set_cons_zero, List.set_cons_succ])
                        refine wpAnyN_take (i := 2) (v := undef) rfl (by kernel_rfl) (by kernel_rfl) (by kernel_rfl) (by kernel_rfl) (fun _ _ _ h => h) (Or.inr ⟨by rfl, rfl⟩) S0 ?_
                        (try simp only [Act.put, List.getElem_toArray, List.getElem_cons_succ, List.getElem_cons_zero, List.setIfInBounds_toArray, List.set_cons_zero, List.set_cons_succ])
                        refine wpAnyN_take (i := 3) (v := undef) rfl (by kernel_rfl) (by kernel_rfl) (by kernel_rfl) (by kernel_rfl) (fun _ _ _ h => h) (Or.inr ⟨by rfl, rfl⟩) S0 ?_
                        (try simp only [Act.put, List.getElem_toArray, List.getElem_cons_succ, List.getElem_cons_zero, List.setIfInBounds_toArray, List.set_cons_zero, List.set_cons_succ])
                        refine wpAnyN_take (i := 4) (v := undef) rfl (by kernel_rfl) (by kernel_rfl) (by kernel_rfl) (by kernel_rfl) (fun _ _ _ h => h) (Or.inr ⟨by rfl, rfl⟩) S0 ?_
                        (try simp only [Act.put, List.getElem_toArray, List.getElem_cons_succ, List.getElem_cons_zero, List.setIfInBounds_toArray, List.set_cons_zero, List.set_cons_succ])
                        refine wpAnyN_take (i := 5) (v := undef) rfl (by kernel_rfl) (by kernel_rfl) (by kernel_rfl) (by kernel_rfl) (fun _ _ _ h => h) (Or.inr ⟨by rfl, rfl⟩) S0 ?_
                        (try simp only [Act.put, List.getElem_toArray, List.getElem_cons_succ, List.getElem_cons_zero, List.setIfInBounds_toArray, List.set_cons_zero, List.set_cons_succ])
                        refine wpAnyN_take (i := 6) (v := undef) rfl (by kernel_rfl) (by kernel_rfl) (by kernel_rfl) (by kernel_rfl) (fun _ _ _ h => h) (Or.inr ⟨by rfl, rfl⟩) S0 ?_
                        (try simp only [Act.put, List.getElem_toArray, List.getElem_cons_succ, List.getElem_cons_zero, List.setIfInBounds_toArray, List.set_cons_zero, List.set_cons_succ])
                        refine wpAnyN_take (i := 7) (v := undef) rfl (by kernel_rfl) (by kernel_rfl) (by kernel_rfl) (by kernel_rfl) (fun _ _ _ h => h) (Or.inr ⟨by rfl, rfl⟩) S0 ?_
                        (try simp only [Act.put, List.getElem_toArray, List.getElem_cons_succ, List.getElem_cons_zero, List.setIfInBounds_toArray, List.set_cons_zero, List.set_cons_succ])
                        refine wpAnyN_take (i := 8) (v := undef) rfl (by kernel_rfl) (by kernel_rfl) (by kernel_rfl) (by kernel_rfl) (fun _ _ _ h => h) (Or.inr ⟨by rfl, rfl⟩) S0 ?_
                        (try simp only [Act.put, List.getElem_toArray, List.getElem_cons_succ, List.getElem_cons_zero, List.setIfInBounds_toArray, List.set_cons_zero, List.set_cons_succ])
                        refine wpAnyN_take (i := 9) (v := undef) rfl (by kernel_rfl) (by kernel_rfl) (by kernel_rfl) (by kernel_rfl) (fun _ _ _ h => h) (Or.inr ⟨by rfl, rfl⟩) S0 ?_
                        (try simp only [Act.put, List.getElem_toArray, List.getElem_cons_succ, List.getElem_cons_zero, List.setIfInBounds_toArray, List.set_cons_zero, List.set_cons_succ])
                        refine wpAnyN_take (i := 10) (v := undef) rfl (by kernel_rfl) (by kernel_rfl) (by kernel_rfl) (by kernel_rfl) (fun _ _ _ h => h) (Or.inr ⟨by rfl, rfl⟩) S0 ?_
                        (try simp only [Act.put, List.getElem_toArray, List.getElem_cons_succ, List.getElem_cons_zero, List.setIfInBounds_toArray, List.set_cons_zero, List.set_cons_succ])
                        refine wpAnyN_take (i := 11) (v := undef) rfl (by kernel_rfl) (by kernel_rfl) (by kernel_rfl) (by kernel_rfl) (fun _ _ _ h => h) (Or.inr ⟨by rfl, rfl⟩) S0 ?_
                        (try simp only [Act.put, List.getElem_toArray, List.getElem_cons_succ, List.getElem_cons_zero, List.setIfInBounds_toArray, List.set_cons_zero, List.set_cons_succ])
                        refine wpAnyN_take (i := 12) (v := undef) rfl (by kernel_rfl) (by kernel_rfl) (by kernel_rfl) (by kernel_rfl) (fun _ _ _ h => h) (Or.inr ⟨by rfl, rfl⟩) S0 ?_
                        (try simp only [Act.put, List.getElem_toArray, List.getElem_cons_succ, List.getElem_cons_zero, List.setIfInBounds_toArray, List.set_cons_zero, List.set_cons_succ])
                        refine wpAnyN_take (i := 13) (v := undef) rfl (by kernel_rfl) (by kernel_rfl) (by kernel_rfl) (by kernel_rfl) (fun _ _ _ h => h) (Or.inr ⟨by rfl, rfl⟩) S0 ?_
                        (try simp only [Act.put, List.getElem_toArray, List.getElem_cons_succ, List.getElem_cons_zero, List.setIfInBounds_toArray, List.set_cons_zero, List.set_cons_succ])
                        refine wpAnyN_take (i := 14) (v := undef) rfl (by kernel_rfl) (by kernel_rfl) (by kernel_rfl) (by kernel_rfl) (fun _ _ _ h => h) (Or.inr ⟨by rfl, rfl⟩) S0 ?_
                        (try simp only [Act.put, List.getElem_toArray, List.getElem_cons_succ, List.getElem_cons_zero, List.setIfInBounds_toArray, List.set_cons_zero, List.set_cons_succ])
                        refine wpAnyN_take (i := 15) (v := undef) rfl (by kernel_rfl) (by kernel_rfl) (by kernel_rfl) (by kernel_rfl) (fun _ _ _ h => h) (Or.inr ⟨by rfl, rfl⟩) S0 ?_
                        (try simp only [Act.put, List.getElem_toArray, List.getElem_cons_succ, List.getElem_cons_zero, List.setIfInBounds_toArray, List.set_cons_zero, List.set_cons_succ])
                        refine wpAnyN_take (i := 16) (v := undef) rfl (by kernel_rfl) (by kernel_rfl) (by kernel_rfl) (by kernel_rfl) (fun _ _ _ h => h) (Or.inr ⟨by rfl, rfl⟩) S0 ?_
                        (try simp only [Act.put, List.getElem_toArray, List.getElem_cons_succ, List.getElem_cons_zero, List.setIfInBounds_toArray, List.set_cons_zero, List.set_cons_succ])
                        refine wpAnyN_take (i := 17) (v := .bool false) rfl (by kernel_rfl) (by kernel_rfl) (by kernel_rfl) (by kernel_rfl) (fun _ _ _ h => h) (Or.inl ⟨by rfl, ?_⟩) S0 ?_
                        · intro w' hS'
                          obtain ⟨h1, h2, h3⟩ := hS'
                          go_simp
                        (try simp only [Act.put, List.getElem_toArray, List.getElem_cons_succ, List.getElem_cons_zero, List.setIfInBounds_toArray, List.set_cons_zero, List.set_cons_succ])
                        refine wpAnyN_take (i := 18) (v := .bool false) rfl (by kernel_rfl) (by kernel_rfl) (by kernel_rfl) (by kernel_rfl) (fun _ _ _ h => h) (Or.inl ⟨by rfl, ?_⟩) S0 ?_
                        · intro w' hS'
                          obtain ⟨h1, h2, h3⟩ := hS'
                          go_simp
                        (try simp only [Act.put, List.getElem_toArray, List.getElem_cons_succ, List.getElem_cons_zero, List.setIfInBounds_toArray, List.set_cons_zero, List.set_cons_succ])
                        refine wpAnyN_done (by kernel_rfl) ?_ _
                        clear S0
                        go_wp2
                        go_roundw
                        case rel => exact ⟨j + 1, by omega, by go_num, by rw [NT.out], below_next BE.out (below_drew _)⟩
                        case measure => simp [intOf]; omega
                    · have hjz : ¬ (j : Int) < k := by omega
                      obtain rfl : j = k := by omega
                      have d1' := TC.out wt BF.out
                      have d2' := CE.out wt BF.out j hk'
                      rw [hxe] at d2'
                      have d3' := PC.out wt BF.out i hin
                      have d4' := PC.out wt BF.out y hyn
                      clear d1 d2 d3 d4
                      rcases Bool.eq_false_or_eq_true (nin (y : Int) (L.take j)) with hni | hni
                      · have hadd := DY.out (NK.out.1 hni)
                        have HA : Hid (dst n (keep n (L.take (j + 1))) = dst n (keep n (L.take j)) + 1) := hadd
                        rw [hni]
                        clear hadd
                        generalize dst n (keep n (L.take j)) = dd at *
                        have hsum : sd + dd ≤ 2000 := by omega
                        rcases Bool.eq_false_or_eq_true (rb n to (-1) i) with hri | hri
                        · rw [CY hri] at d4'
                          rw [hri] at d3'
                          go_wp2
                          go_roundw
                          case rel => exact ⟨j + 1, by omega, by go_num, by rw [HA.out]; go_num, BF.out⟩
                          case measure => simp [intOf]; omega
                        · rw [hri] at d3'
                          go_wp2
                          go_roundw
                          case rel => exact ⟨j + 1, by omega, by go_num, by rw [HA.out]; go_num, BF.out⟩
                          case measure => simp [intOf]; omega
                      · have hadd := DN.out (by
                          by_cases hq : y ∈ keep n (L.take j)
                          · exact hq
                          · have := NK.out.2 hq
                            rw [hni] at this
                            cases this)
                        have HA : Hid (dst n (keep n (L.take (j + 1))) = dst n (keep n (L.take j))) := hadd
                        rw [hni]
                        clear hadd
                        generalize dst n (keep n (L.take j)) = dd at *
                        rcases Bool.eq_false_or_eq_true (rb n to (-1) i) with hri | hri
                        · rw [CY hri] at d4'
                          rw [hri] at d3'
                          go_wp2
                          go_roundw
                          case rel => exact ⟨j + 1, by omega, by go_num, by rw [HA.out]; rfl, BF.out⟩
                          case measure => simp [intOf]; omega
                        · rw [hri] at d3'
                          go_wp2
                          go_roundw
                          case rel => exact ⟨j + 1, by omega, by go_num, by rw [HA.out]; rfl, BF.out⟩
                          case measure => simp [intOf]; omega
                · have KS2 : Hid (keep n (L.take (k + 1)) = keep n (L.take k)) := (by rw [KS.out, if_neg hx, List.append_nil] : keep n (L.take (k + 1)) = keep n (L.take k))
                  by_cases hx0 : x < 0
                  · clear hx
                    go_wp2
                    go_roundw
                    case rel => exact ⟨k + 1, by omega, by go_num, by rw [KS2.out], BD.out⟩
                    case measure => simp [intOf]; omega
                  · have hxn : ¬ x < (n : Int) := by omega
                    clear hx
                    go_wp2
                    go_roundw
                    case rel => exact ⟨k + 1, by omega, by go_num, by rw [KS2.out], BD.out⟩
                    case measure => simp [intOf]; omega
              · have hkz : ¬ (k : Int) < L.length := by omega
                obtain rfl : k = L.length := by omega
                go_wp2
                go_roundw
                case rel => exact ⟨i + 1, by omega, by go_num, by rw [ESD.out, List.take_of_length_le (Nat.le_refl _)], BD.out⟩
                case measure => simp [intOf]; omega
          · have hinz : ¬ (i : Int) < n := by omega
            have hie : i = min n to.length := by omega
            rw [show sm (fun a => dst n (wy n to a)) i = CT from by rw [hie, TOT.out]]
            have hcc : ((CT : Int) == (CT : Int)) = true := by simp
            go_wp2
            go_ret
            exact ⟨rfl, below_next C2.out BC.out⟩
        · have hilz : ¬ (i : Int) < to.length := by omega
          have hie : i = min n to.length := by omega
          rw [show sm (fun a => dst n (wy n to a)) i = CT from by rw [hie, TOT.out]]
          have hcc : ((CT : Int) == (CT : Int)) = true := by simp
          go_wp2
          go_ret
          exact ⟨rfl, below_next C2.out BC.out⟩
end Go.Proofs.Ytmmgdiecmokipaa
