/-
  Proved: .. of a place with steps.
-/
import Derived.Test.YtjbglolcnhmkcaaStepp
namespace Go.Proofs.Ytjbglolcnhmkcaa
open Go.RowKit

set_option maxRecDepth 100000 in
set_option maxHeartbeats 8000000 in
theorem steps_13b_row (n : Int) (s : ByteArray) (ks : List X) (ts : List T) (h : 0 < ks.length) (h1 : 1 < ks.length) (h2 : ¬ (ks[1]'h1).k = 1) (ih : StepsC (ks[0]'h)) (hz : ¬ (rsts (ks[0]'h)).length = 0) : StepsC (.mk 13 n s ks ts) := by
  intro w cs hx hd
  obtain ⟨e1, e2, e3⟩ := told_pos 13 n s ks ts h rfl
  rw [rst_13b n s ks ts h1 h2] at e1
  have hd2 := dpt_pos 13 n s ks ts h
  obtain ⟨at', A, C, B, D, p, q, r, Z, zl, zc, rfl, hks, _⟩ := hx.inv
  have hl := hks.1
  have hpos : ¬ (ks.length : Int) = 0 := by omega
  have hpos2 : ((ks.length : Int) == 0) = false := by simpa using hpos
  have hpos3 : ¬ ks.length = 0 := by omega
  have hone : (1 : Int) < (ks.length : Int) := by omega
  obtain ⟨b3, o3, cs3, eA, hr3, hx3⟩ := hks.2 1 h1
  generalize ks[1]'h1 = z at *
  obtain ⟨k3, n3, s3, ks3, ts3⟩ := z
  obtain ⟨at3, A3, C3, B3, D3, p3, q3, r3, Z3, zl3, zc3, rfl, _, _⟩ := hx3.inv
  have f0 := hr3.2 0 _ rfl
  have f2 := hr3.2 2 _ rfl
  have fb := hr3.1
  simp only [Nat.add_zero, Nat.one_mul] at f0 f2
  simp only at h2 e1
  have g2 : (k3 == 1) = false := by simpa using h2
  clear hr3 hx3
  obtain ⟨b2, o2, cs2, rfl, hr2, hx2⟩ := hks.2 0 h
  rw [Nat.zero_mul, Nat.add_zero] at hr2
  injection eA with eA
  injection eA with eb eo
  subst eb eo
  generalize ks[0]'h = y at *
  have KEY : Hid (∀ W, Below w.heap.size w W → Calls Try.prog 9 #[.agg cs2.toArray] W fun e w' => Told W y e w') := fun W hW => ih W cs2 (hx2.stays hW) (by omega)
  have HLEN : Hid ((rsts y).length ≤ 1000) := by have := outX_len y; show (rsts y).length ≤ 1000; simp [rsts]; omega
  have hlen : (rsts y).length ≤ 1000 := HLEN.out
  have HZ : Hid (¬ (rsts y).length = 0) := hz
  have FIN : Hid (∀ (v : Value) (W0 w' : World), OwnB 41 2 rL W0.heap.size (rsts y ++ [(3, 0)]) v w' → Below w.heap.size w w' → Told w (.mk 13 n s ks ts) (.returned (.tuple #[.int .i64 (rootN y), v, .bool (isPl y)])) w') := fun v W0 w' h1 h2 => by
    obtain ⟨A', C', rfl, h3⟩ := h1.done rL_len
    exact ⟨A', C', by rw [e1, e2, e3], by rw [e1]; exact h3, by rw [e1]; intro h; simp at h, h2⟩
  obtain ⟨k2, n2, s2, ks2, ts2⟩ := y
  obtain ⟨at2, A2, C2, B2, D2, p2, q2, r2, Z2, zl2, zc2, rfl, _, _⟩ := hx2.inv
  have d0 := hr2.2 0 _ rfl
  have d1 := hr2.2 1 _ rfl
  have d2 := hr2.2 2 _ rfl
  have d3 := hr2.2 3 _ rfl
  have d4 := hr2.2 4 _ rfl
  have d5 := hr2.2 5 _ rfl
  have d6 := hr2.2 6 _ rfl
  have d7 := hr2.2 7 _ rfl
  have d8 := hr2.2 8 _ rfl
  have d9 := hr2.2 9 _ rfl
  have hb := hr2.1
  simp only [Nat.add_zero] at d0
  clear hr2 hx hx2 hks hd hd2 ih e1 e2 e3
  generalize X.mk k2 n2 s2 ks2 ts2 = y at *
  go_enter Try.func9, Try.ntmps9
  go_wp2_with (go_at_call 9; refine (KEY.out _ (below_alloc _ _)).mono ?_; rintro e w1 ⟨AL, CL, rfl, hrows, hnn, hb1⟩; have HR : Hid (RowsIn w1 2 rL (rsts y) AL) := hrows; have HB1 : Hid (Below w.heap.size w w1) := below_next (below_alloc _ _) hb1; have HAT : Hid (At w1 w.heap.size _ 27) := (At.new w _ _).below hb1 (At.new w _ _).lt; obtain ⟨⟨c0, c1, c2, c3, c4, c5, c6, c7, c8, c9⟩, _⟩ := cells10 HAT.out; have ca := HAT.out.lt; obtain ⟨f0', f2'⟩ := (⟨(HB1.out.cell fb).trans f0, (HB1.out.cell fb).trans f2⟩ : w1.cell? ⟨b2, o2 + 10, none⟩ = some (.int .i64 k3) ∧ w1.cell? ⟨b2, o2 + 10 + 2, none⟩ = some (.int .i64 n3)); have fb1 := Nat.lt_of_lt_of_le fb HB1.out.size; clear hrows hb1 hnn)
  generalize hWs : w1.alloc (.cells #[.int .i64 3, .int .i64 0] 41) = Ws
  have HS : Hid (At Ws w1.heap.size #[.int .i64 3, .int .i64 0] 41) := by rw [← hWs]; exact At.new _ _ _
  have HWB : Hid (Below w1.heap.size w1 Ws) := by rw [← hWs]; exact below_alloc _ _
  have SS : Hid (∀ W, Below Ws.heap.size Ws W → W.cell? ⟨w1.heap.size, 0, none⟩ = some (.int .i64 3) ∧ W.cell? ⟨w1.heap.size, 1, none⟩ = some (.int .i64 0) ∧ Hid (Below Ws.heap.size Ws W)) := fun W hW => ⟨(HS.out.below hW HS.out.lt).cell 0, (HS.out.below hW HS.out.lt).cell 1, hW⟩
  clear hWs
  refine wp_region_held_drew (S := fun W => W.cell? ⟨w1.heap.size, 0, none⟩ = some (.int .i64 3) ∧ W.cell? ⟨w1.heap.size, 1, none⟩ = some (.int .i64 0) ∧ Hid (Below Ws.heap.size Ws W)) (by kernel_rfl) (SS.out _ (below_drew _)) fun hS0 => ?_
  refine wpAnyH_take (i := 0) (v := .int .i64 (rootN y)) rfl (by kernel_rfl) (by kernel_rfl) (by kernel_rfl) (fun _ _ _ h => h) (Or.inl ⟨by rfl, ?_⟩) (by assumption) ?_
  · intro w' hSw; (try dsimp only at hSw); obtain ⟨hc1, hc2, _⟩ := hSw; go_simp
  (try simp only [Act.put, List.getElem_toArray, List.getElem_cons_zero, List.setIfInBounds_toArray, List.set_cons_zero, List.set_cons_succ])
  refine wpAnyH_take (i := 2) (v := (.slice AL (rsts y).length CL)) rfl (by kernel_rfl) (by kernel_rfl) (by kernel_rfl) (fun _ _ _ h => h) (Or.inl ⟨by rfl, ?_⟩) (by assumption) ?_
  · intro w' hSw; (try dsimp only at hSw); obtain ⟨hc1, hc2, _⟩ := hSw; go_simp
  (try simp only [Act.put, List.getElem_toArray, List.getElem_cons_succ, List.getElem_cons_zero, List.setIfInBounds_toArray, List.set_cons_zero, List.set_cons_succ])
  refine wpAnyH_take (i := 4) (v := .agg #[.int .i64 3, .int .i64 0]) rfl (by kernel_rfl) (by kernel_rfl) (by kernel_rfl) (fun _ _ _ h => h) (Or.inl ⟨by rfl, ?_⟩) (by assumption) ?_
  · intro w' hSw; (try dsimp only at hSw); obtain ⟨hc1, hc2, _⟩ := hSw; go_simp
  (try simp only [Act.put, List.getElem_toArray, List.getElem_cons_succ, List.getElem_cons_zero, List.setIfInBounds_toArray, List.set_cons_zero, List.set_cons_succ])
  refine wpAnyH_take (i := 7) (v := .bool (isPl y)) rfl (by kernel_rfl) (by kernel_rfl) (by kernel_rfl) (fun _ _ _ h => h) (Or.inl ⟨by rfl, ?_⟩) (by assumption) ?_
  · intro w' hSw; (try dsimp only at hSw); obtain ⟨hc1, hc2, _⟩ := hSw; go_simp
  (try simp only [Act.put, List.getElem_toArray, List.getElem_cons_succ, List.getElem_cons_zero, List.setIfInBounds_toArray, List.set_cons_zero, List.set_cons_succ])
  refine wpAnyH_ready (rs := [1, 5]) (by kernel_rfl) (by simp) ?_
  refine AllReadyH.cons rfl (fun K hK => ?_) (AllReadyH.cons rfl (fun K hK => ?_) AllReadyH.nil)
  · go_simp
    refine hK.out _ _ (SS.out _ (below_next (below_drew _) (below_alloc _ _))) (fun hH => ?_)
    (try simp only [Act.put, List.getElem_toArray, List.getElem_cons_succ, List.getElem_cons_zero, List.setIfInBounds_toArray, List.set_cons_zero, List.set_cons_succ])
    refine wpAnyH_ready (rs := [3, 5]) (by kernel_rfl) (by simp) ?_
    refine AllReadyH.cons rfl (fun K hK => ?_) (AllReadyH.cons rfl (fun K hK => ?_) AllReadyH.nil)
    · rw [if_pos (by rfl)]
      have O3a : Hid (OwnB 41 2 rL Ws.heap.size ([] : List (Int × Int)) (.slice (some ⟨Ws.heap.size, 0, none⟩) 0 0) (Ws.drew.alloc (.cells #[] 41))) := OwnB.fresh (At.new Ws.drew #[] 41) (Nat.le_refl _)
      obtain ⟨lb, lo, eL, hlr⟩ := rows_all rL_len (HR.out.below (below_next HWB.out (below_next (below_drew _) (below_alloc _ _)))) (by have := HZ.out; omega)
      subst eL
      refine OwnB.appendK 37 41 rL _ 2 16 info41 Try.underlying37 rfl (by decide) (by decide) rL_len rL_one _ _ _ rfl (.slice (some ⟨Ws.heap.size, 0, none⟩) 0 0) rfl Ws.heap.size [] (rsts y) O3a.out ⟨lb, lo, none⟩ CL rfl hlr (by simp; omega) ?_
      intro v5 w5 h5 k5 j5
      obtain ⟨A5, C5, rfl, _⟩ := h5.done rL_len
      simp only [List.nil_append] at h5 ⊢
      have O3 : Hid (OwnB 41 2 rL Ws.heap.size (rsts y) (.slice A5 (rsts y).length C5) w5) := h5
      have K5 : Hid (Below Ws.heap.size Ws w5) := Below.trans (below_next (below_drew _) (below_alloc _ _)) k5
      clear h5 k5 j5 hlr
      refine hK.out _ _ (SS.out _ (K5.out)) (fun hH => ?_)
      (try simp only [Act.put, List.getElem_toArray, List.getElem_cons_succ, List.getElem_cons_zero, List.setIfInBounds_toArray, List.set_cons_zero, List.set_cons_succ])
      refine wpAnyH_ready (rs := [5]) (by kernel_rfl) (by simp) ?_
      refine AllReadyH.cons rfl (fun K hK => ?_) AllReadyH.nil
      go_simp
      refine hK.out _ _ (SS.out _ (below_next K5.out (below_alloc _ _))) (fun hH => ?_)
      (try simp only [Act.put, List.getElem_toArray, List.getElem_cons_succ, List.getElem_cons_zero, List.setIfInBounds_toArray, List.set_cons_zero, List.set_cons_succ])
      refine wpAnyH_ready (rs := [6]) (by kernel_rfl) (by simp) ?_
      refine AllReadyH.cons rfl (fun K hK => ?_) AllReadyH.nil
      rw [if_pos (by rfl)]
      refine OwnB.appendK 37 41 rL _ 2 16 info41 Try.underlying37 rfl (by decide) (by decide) rL_len rL_one _ _ _ rfl _ rfl Ws.heap.size (rsts y) [(3, 0)] (O3.out.below (below_alloc _ _)) ⟨_, 0, none⟩ 1 rfl (fun j u hj => cells_new _ (rL (3, 0)) 41 j u hj) (by simp; omega) ?_
      intro v6 w6 h6 k6 _
      have O6 : Hid (OwnB 41 2 rL Ws.heap.size (rsts y ++ [(3, 0)]) v6 w6) := h6
      have K6 : Hid (Below Ws.heap.size Ws w6) := Below.trans (below_next K5.out (below_alloc _ _)) k6
      clear h6 k6
      refine hK.out _ _ (SS.out _ (K6.out)) (fun hH => ?_)
      (try simp only [Act.put, List.getElem_toArray, List.getElem_cons_succ, List.getElem_cons_zero, List.setIfInBounds_toArray, List.set_cons_zero, List.set_cons_succ])
      refine wpAnyH_take (i := 8) (v := .int .i64 (rootN y)) rfl (by kernel_rfl) (by kernel_rfl) (by kernel_rfl) (fun _ _ _ h => h) (Or.inl ⟨by rfl, ?_⟩) (by assumption) ?_
      · intro w' hSw; (try dsimp only at hSw); obtain ⟨hc1, hc2, _⟩ := hSw; go_simp
      (try simp only [Act.put, List.getElem_toArray, List.getElem_cons_succ, List.getElem_cons_zero, List.setIfInBounds_toArray, List.set_cons_zero, List.set_cons_succ])
      refine wpAnyH_take (i := 9) (v := v6) rfl (by kernel_rfl) (by kernel_rfl) (by kernel_rfl) (fun _ _ _ h => h) (Or.inl ⟨by rfl, ?_⟩) (by assumption) ?_
      · intro w' hSw; (try dsimp only at hSw); obtain ⟨hc1, hc2, _⟩ := hSw; go_simp
      (try simp only [Act.put, List.getElem_toArray, List.getElem_cons_succ, List.getElem_cons_zero, List.setIfInBounds_toArray, List.set_cons_zero, List.set_cons_succ])
      refine wpAnyH_take (i := 10) (v := .bool (isPl y)) rfl (by kernel_rfl) (by kernel_rfl) (by kernel_rfl) (fun _ _ _ h => h) (Or.inl ⟨by rfl, ?_⟩) (by assumption) ?_
      · intro w' hSw; (try dsimp only at hSw); obtain ⟨hc1, hc2, _⟩ := hSw; go_simp
      (try simp only [Act.put, List.getElem_toArray, List.getElem_cons_succ, List.getElem_cons_zero, List.setIfInBounds_toArray, List.set_cons_zero, List.set_cons_succ])
      refine wpAnyH_done (by kernel_rfl) ?_ _
      go_wp2
      refine bodyPost_ret (v := .tuple #[.int .i64 (rootN y), v6, .bool (isPl y)]) (by simp [results, Try.results9, go_sem]) rfl ?_
      exact FIN.out v6 Ws _ O6.out (below_next HB1.out (below_next HWB.out K6.out))
    · go_simp
      refine hK.out _ _ (SS.out _ (below_next (below_next (below_drew _) (below_alloc _ _)) (below_alloc _ _))) (fun hH => ?_)
      (try simp only [Act.put, List.getElem_toArray, List.getElem_cons_succ, List.getElem_cons_zero, List.setIfInBounds_toArray, List.set_cons_zero, List.set_cons_succ])
      refine wpAnyH_ready (rs := [3]) (by kernel_rfl) (by simp) ?_
      refine AllReadyH.cons rfl (fun K hK => ?_) AllReadyH.nil
      rw [if_pos (by rfl)]
      have O3a : Hid (OwnB 41 2 rL Ws.heap.size ([] : List (Int × Int)) (.slice (some ⟨Ws.heap.size, 0, none⟩) 0 0) ((Ws.drew.alloc (.cells #[] 41)).alloc (.cells #[.int .i64 3, .int .i64 0] 41))) := OwnB.fresh ((At.new Ws.drew #[] 41).below (below_alloc _ _) (At.new Ws.drew #[] 41).lt) (Nat.le_refl _)
      obtain ⟨lb, lo, eL, hlr⟩ := rows_all rL_len (HR.out.below (below_next HWB.out (below_next (below_next (below_drew _) (below_alloc _ _)) (below_alloc _ _)))) (by have := HZ.out; omega)
      subst eL
      refine OwnB.appendK 37 41 rL _ 2 16 info41 Try.underlying37 rfl (by decide) (by decide) rL_len rL_one _ _ _ rfl (.slice (some ⟨Ws.heap.size, 0, none⟩) 0 0) rfl Ws.heap.size [] (rsts y) O3a.out ⟨lb, lo, none⟩ CL rfl hlr (by simp; omega) ?_
      intro v5 w5 h5 k5 j5
      obtain ⟨A5, C5, rfl, _⟩ := h5.done rL_len
      simp only [List.nil_append] at h5 ⊢
      have O3 : Hid (OwnB 41 2 rL Ws.heap.size (rsts y) (.slice A5 (rsts y).length C5) w5) := h5
      have K5 : Hid (Below Ws.heap.size Ws w5) := Below.trans (below_next (below_next (below_drew _) (below_alloc _ _)) (below_alloc _ _)) k5
      have hh5 : At ((Ws.drew.alloc (.cells #[] 41)).alloc (.cells #[.int .i64 3, .int .i64 0] 41)) (Ws.heap.size + 1) #[.int .i64 3, .int .i64 0] 41 := At.newS (Ws.drew.alloc (.cells #[] 41)) #[.int .i64 3, .int .i64 0] 41 (by simp)
      have H5 : Hid (At w5 (Ws.heap.size + 1) #[.int .i64 3, .int .i64 0] 41) := (j5 _ hh5.lt (by simp [Value.ownBlock])).trans hh5
      clear hh5
      clear h5 k5 j5 hlr
      refine hK.out _ _ (SS.out _ (K5.out)) (fun hH => ?_)
      (try simp only [Act.put, List.getElem_toArray, List.getElem_cons_succ, List.getElem_cons_zero, List.setIfInBounds_toArray, List.set_cons_zero, List.set_cons_succ])
      refine wpAnyH_ready (rs := [6]) (by kernel_rfl) (by simp) ?_
      refine AllReadyH.cons rfl (fun K hK => ?_) AllReadyH.nil
      rw [if_pos (by rfl)]
      refine OwnB.appendK 37 41 rL _ 2 16 info41 Try.underlying37 rfl (by decide) (by decide) rL_len rL_one _ _ _ rfl _ rfl Ws.heap.size (rsts y) [(3, 0)] O3.out ⟨Ws.heap.size + 1, 0, none⟩ 1 rfl (fun j u hj => H5.out.add (rL (3, 0)) j u hj) (by simp; omega) ?_
      intro v6 w6 h6 k6 _
      have O6 : Hid (OwnB 41 2 rL Ws.heap.size (rsts y ++ [(3, 0)]) v6 w6) := h6
      have K6 : Hid (Below Ws.heap.size Ws w6) := Below.trans (K5.out) k6
      clear h6 k6
      refine hK.out _ _ (SS.out _ (K6.out)) (fun hH => ?_)
      (try simp only [Act.put, List.getElem_toArray, List.getElem_cons_succ, List.getElem_cons_zero, List.setIfInBounds_toArray, List.set_cons_zero, List.set_cons_succ])
      refine wpAnyH_take (i := 8) (v := .int .i64 (rootN y)) rfl (by kernel_rfl) (by kernel_rfl) (by kernel_rfl) (fun _ _ _ h => h) (Or.inl ⟨by rfl, ?_⟩) (by assumption) ?_
      · intro w' hSw; (try dsimp only at hSw); obtain ⟨hc1, hc2, _⟩ := hSw; go_simp
      (try simp only [Act.put, List.getElem_toArray, List.getElem_cons_succ, List.getElem_cons_zero, List.setIfInBounds_toArray, List.set_cons_zero, List.set_cons_succ])
      refine wpAnyH_take (i := 9) (v := v6) rfl (by kernel_rfl) (by kernel_rfl) (by kernel_rfl) (fun _ _ _ h => h) (Or.inl ⟨by rfl, ?_⟩) (by assumption) ?_
      · intro w' hSw; (try dsimp only at hSw); obtain ⟨hc1, hc2, _⟩ := hSw; go_simp
      (try simp only [Act.put, List.getElem_toArray, List.getElem_cons_succ, List.getElem_cons_zero, List.setIfInBounds_toArray, List.set_cons_zero, List.set_cons_succ])
      refine wpAnyH_take (i := 10) (v := .bool (isPl y)) rfl (by kernel_rfl) (by kernel_rfl) (by kernel_rfl) (fun _ _ _ h => h) (Or.inl ⟨by rfl, ?_⟩) (by assumption) ?_
      · intro w' hSw; (try dsimp only at hSw); obtain ⟨hc1, hc2, _⟩ := hSw; go_simp
      (try simp only [Act.put, List.getElem_toArray, List.getElem_cons_succ, List.getElem_cons_zero, List.setIfInBounds_toArray, List.set_cons_zero, List.set_cons_succ])
      refine wpAnyH_done (by kernel_rfl) ?_ _
      go_wp2
      refine bodyPost_ret (v := .tuple #[.int .i64 (rootN y), v6, .bool (isPl y)]) (by simp [results, Try.results9, go_sem]) rfl ?_
      exact FIN.out v6 Ws _ O6.out (below_next HB1.out (below_next HWB.out K6.out))
  · go_simp
    refine hK.out _ _ (SS.out _ (below_next (below_drew _) (below_alloc _ _))) (fun hH => ?_)
    (try simp only [Act.put, List.getElem_toArray, List.getElem_cons_succ, List.getElem_cons_zero, List.setIfInBounds_toArray, List.set_cons_zero, List.set_cons_succ])
    refine wpAnyH_ready (rs := [1]) (by kernel_rfl) (by simp) ?_
    refine AllReadyH.cons rfl (fun K hK => ?_) AllReadyH.nil
    go_simp
    refine hK.out _ _ (SS.out _ (below_next (below_next (below_drew _) (below_alloc _ _)) (below_alloc _ _))) (fun hH => ?_)
    (try simp only [Act.put, List.getElem_toArray, List.getElem_cons_succ, List.getElem_cons_zero, List.setIfInBounds_toArray, List.set_cons_zero, List.set_cons_succ])
    refine wpAnyH_ready (rs := [3]) (by kernel_rfl) (by simp) ?_
    refine AllReadyH.cons rfl (fun K hK => ?_) AllReadyH.nil
    rw [if_pos (by rfl)]
    have O3a : Hid (OwnB 41 2 rL Ws.heap.size ([] : List (Int × Int)) (.slice (some ⟨Ws.heap.size + 1, 0, none⟩) 0 0) ((Ws.drew.alloc (.cells #[.int .i64 3, .int .i64 0] 41)).alloc (.cells #[] 41))) := OwnB.fresh (At.newS (Ws.drew.alloc (.cells #[.int .i64 3, .int .i64 0] 41)) #[] 41 (by simp)) (Nat.le_succ _)
    obtain ⟨lb, lo, eL, hlr⟩ := rows_all rL_len (HR.out.below (below_next HWB.out (below_next (below_next (below_drew _) (below_alloc _ _)) (below_alloc _ _)))) (by have := HZ.out; omega)
    subst eL
    refine OwnB.appendK 37 41 rL _ 2 16 info41 Try.underlying37 rfl (by decide) (by decide) rL_len rL_one _ _ _ rfl (.slice (some ⟨Ws.heap.size + 1, 0, none⟩) 0 0) rfl Ws.heap.size [] (rsts y) O3a.out ⟨lb, lo, none⟩ CL rfl hlr (by simp; omega) ?_
    intro v5 w5 h5 k5 j5
    obtain ⟨A5, C5, rfl, _⟩ := h5.done rL_len
    simp only [List.nil_append] at h5 ⊢
    have O3 : Hid (OwnB 41 2 rL Ws.heap.size (rsts y) (.slice A5 (rsts y).length C5) w5) := h5
    have K5 : Hid (Below Ws.heap.size Ws w5) := Below.trans (below_next (below_next (below_drew _) (below_alloc _ _)) (below_alloc _ _)) k5
    have hh5 : At ((Ws.drew.alloc (.cells #[.int .i64 3, .int .i64 0] 41)).alloc (.cells #[] 41)) (Ws.heap.size) #[.int .i64 3, .int .i64 0] 41 := (At.new Ws.drew #[.int .i64 3, .int .i64 0] 41).below (below_alloc _ _) (At.new Ws.drew #[.int .i64 3, .int .i64 0] 41).lt
    have H5 : Hid (At w5 (Ws.heap.size) #[.int .i64 3, .int .i64 0] 41) := (j5 _ hh5.lt (by simp [Value.ownBlock])).trans hh5
    clear hh5
    clear h5 k5 j5 hlr
    refine hK.out _ _ (SS.out _ (K5.out)) (fun hH => ?_)
    (try simp only [Act.put, List.getElem_toArray, List.getElem_cons_succ, List.getElem_cons_zero, List.setIfInBounds_toArray, List.set_cons_zero, List.set_cons_succ])
    refine wpAnyH_ready (rs := [6]) (by kernel_rfl) (by simp) ?_
    refine AllReadyH.cons rfl (fun K hK => ?_) AllReadyH.nil
    rw [if_pos (by rfl)]
    refine OwnB.appendK 37 41 rL _ 2 16 info41 Try.underlying37 rfl (by decide) (by decide) rL_len rL_one _ _ _ rfl _ rfl Ws.heap.size (rsts y) [(3, 0)] O3.out ⟨Ws.heap.size, 0, none⟩ 1 rfl (fun j u hj => H5.out.add (rL (3, 0)) j u hj) (by simp; omega) ?_
    intro v6 w6 h6 k6 _
    have O6 : Hid (OwnB 41 2 rL Ws.heap.size (rsts y ++ [(3, 0)]) v6 w6) := h6
    have K6 : Hid (Below Ws.heap.size Ws w6) := Below.trans (K5.out) k6
    clear h6 k6
    refine hK.out _ _ (SS.out _ (K6.out)) (fun hH => ?_)
    (try simp only [Act.put, List.getElem_toArray, List.getElem_cons_succ, List.getElem_cons_zero, List.setIfInBounds_toArray, List.set_cons_zero, List.set_cons_succ])
    refine wpAnyH_take (i := 8) (v := .int .i64 (rootN y)) rfl (by kernel_rfl) (by kernel_rfl) (by kernel_rfl) (fun _ _ _ h => h) (Or.inl ⟨by rfl, ?_⟩) (by assumption) ?_
    · intro w' hSw; (try dsimp only at hSw); obtain ⟨hc1, hc2, _⟩ := hSw; go_simp
    (try simp only [Act.put, List.getElem_toArray, List.getElem_cons_succ, List.getElem_cons_zero, List.setIfInBounds_toArray, List.set_cons_zero, List.set_cons_succ])
    refine wpAnyH_take (i := 9) (v := v6) rfl (by kernel_rfl) (by kernel_rfl) (by kernel_rfl) (fun _ _ _ h => h) (Or.inl ⟨by rfl, ?_⟩) (by assumption) ?_
    · intro w' hSw; (try dsimp only at hSw); obtain ⟨hc1, hc2, _⟩ := hSw; go_simp
    (try simp only [Act.put, List.getElem_toArray, List.getElem_cons_succ, List.getElem_cons_zero, List.setIfInBounds_toArray, List.set_cons_zero, List.set_cons_succ])
    refine wpAnyH_take (i := 10) (v := .bool (isPl y)) rfl (by kernel_rfl) (by kernel_rfl) (by kernel_rfl) (fun _ _ _ h => h) (Or.inl ⟨by rfl, ?_⟩) (by assumption) ?_
    · intro w' hSw; (try dsimp only at hSw); obtain ⟨hc1, hc2, _⟩ := hSw; go_simp
    (try simp only [Act.put, List.getElem_toArray, List.getElem_cons_succ, List.getElem_cons_zero, List.setIfInBounds_toArray, List.set_cons_zero, List.set_cons_succ])
    refine wpAnyH_done (by kernel_rfl) ?_ _
    go_wp2
    refine bodyPost_ret (v := .tuple #[.int .i64 (rootN y), v6, .bool (isPl y)]) (by simp [results, Try.results9, go_sem]) rfl ?_
    exact FIN.out v6 Ws _ O6.out (below_next HB1.out (below_next HWB.out K6.out))

set_option maxRecDepth 100000 in
set_option maxHeartbeats 8000000 in
theorem steps_13b_nil (n : Int) (s : ByteArray) (ks : List X) (ts : List T) (h : 0 < ks.length) (h1 : 1 < ks.length) (h2 : ¬ (ks[1]'h1).k = 1) (ih : StepsC (ks[0]'h)) (hz : (rsts (ks[0]'h)).length = 0) : StepsC (.mk 13 n s ks ts) := by
  intro w cs hx hd
  obtain ⟨e1, e2, e3⟩ := told_pos 13 n s ks ts h rfl
  rw [rst_13b n s ks ts h1 h2] at e1
  have hd2 := dpt_pos 13 n s ks ts h
  obtain ⟨at', A, C, B, D, p, q, r, Z, zl, zc, rfl, hks, _⟩ := hx.inv
  have hl := hks.1
  have hpos : ¬ (ks.length : Int) = 0 := by omega
  have hpos2 : ((ks.length : Int) == 0) = false := by simpa using hpos
  have hpos3 : ¬ ks.length = 0 := by omega
  have hone : (1 : Int) < (ks.length : Int) := by omega
  obtain ⟨b3, o3, cs3, eA, hr3, hx3⟩ := hks.2 1 h1
  generalize ks[1]'h1 = z at *
  obtain ⟨k3, n3, s3, ks3, ts3⟩ := z
  obtain ⟨at3, A3, C3, B3, D3, p3, q3, r3, Z3, zl3, zc3, rfl, _, _⟩ := hx3.inv
  have f0 := hr3.2 0 _ rfl
  have f2 := hr3.2 2 _ rfl
  have fb := hr3.1
  simp only [Nat.add_zero, Nat.one_mul] at f0 f2
  simp only at h2 e1
  have g2 : (k3 == 1) = false := by simpa using h2
  clear hr3 hx3
  obtain ⟨b2, o2, cs2, rfl, hr2, hx2⟩ := hks.2 0 h
  rw [Nat.zero_mul, Nat.add_zero] at hr2
  injection eA with eA
  injection eA with eb eo
  subst eb eo
  generalize ks[0]'h = y at *
  have KEY : Hid (∀ W, Below w.heap.size w W → Calls Try.prog 9 #[.agg cs2.toArray] W fun e w' => Told W y e w') := fun W hW => ih W cs2 (hx2.stays hW) (by omega)
  have HLEN : Hid ((rsts y).length ≤ 1000) := by have := outX_len y; show (rsts y).length ≤ 1000; simp [rsts]; omega
  have hlen : (rsts y).length ≤ 1000 := HLEN.out
  have HZ : Hid ((rsts y).length = 0) := hz
  have FIN : Hid (∀ (v : Value) (W0 w' : World), OwnB 41 2 rL W0.heap.size (rsts y ++ [(3, 0)]) v w' → Below w.heap.size w w' → Told w (.mk 13 n s ks ts) (.returned (.tuple #[.int .i64 (rootN y), v, .bool (isPl y)])) w') := fun v W0 w' h1 h2 => by
    obtain ⟨A', C', rfl, h3⟩ := h1.done rL_len
    exact ⟨A', C', by rw [e1, e2, e3], by rw [e1]; exact h3, by rw [e1]; intro h; simp at h, h2⟩
  obtain ⟨k2, n2, s2, ks2, ts2⟩ := y
  obtain ⟨at2, A2, C2, B2, D2, p2, q2, r2, Z2, zl2, zc2, rfl, _, _⟩ := hx2.inv
  have d0 := hr2.2 0 _ rfl
  have d1 := hr2.2 1 _ rfl
  have d2 := hr2.2 2 _ rfl
  have d3 := hr2.2 3 _ rfl
  have d4 := hr2.2 4 _ rfl
  have d5 := hr2.2 5 _ rfl
  have d6 := hr2.2 6 _ rfl
  have d7 := hr2.2 7 _ rfl
  have d8 := hr2.2 8 _ rfl
  have d9 := hr2.2 9 _ rfl
  have hb := hr2.1
  simp only [Nat.add_zero] at d0
  clear hr2 hx hx2 hks hd hd2 ih e1 e2 e3
  generalize X.mk k2 n2 s2 ks2 ts2 = y at *
  go_enter Try.func9, Try.ntmps9
  go_wp2_with (go_at_call 9; refine (KEY.out _ (below_alloc _ _)).mono ?_; rintro e w1 ⟨AL, CL, rfl, hrows, hnn, hb1⟩; have HR : Hid (RowsIn w1 2 rL (rsts y) AL) := hrows; have HB1 : Hid (Below w.heap.size w w1) := below_next (below_alloc _ _) hb1; have HAT : Hid (At w1 w.heap.size _ 27) := (At.new w _ _).below hb1 (At.new w _ _).lt; obtain ⟨⟨c0, c1, c2, c3, c4, c5, c6, c7, c8, c9⟩, _⟩ := cells10 HAT.out; have ca := HAT.out.lt; obtain ⟨f0', f2'⟩ := (⟨(HB1.out.cell fb).trans f0, (HB1.out.cell fb).trans f2⟩ : w1.cell? ⟨b2, o2 + 10, none⟩ = some (.int .i64 k3) ∧ w1.cell? ⟨b2, o2 + 10 + 2, none⟩ = some (.int .i64 n3)); have fb1 := Nat.lt_of_lt_of_le fb HB1.out.size; obtain rfl := hnn hz; rw [hz]; clear hrows hb1 hnn)
  generalize hWs : w1.alloc (.cells #[.int .i64 3, .int .i64 0] 41) = Ws
  have HS : Hid (At Ws w1.heap.size #[.int .i64 3, .int .i64 0] 41) := by rw [← hWs]; exact At.new _ _ _
  have HWB : Hid (Below w1.heap.size w1 Ws) := by rw [← hWs]; exact below_alloc _ _
  have SS : Hid (∀ W, Below Ws.heap.size Ws W → W.cell? ⟨w1.heap.size, 0, none⟩ = some (.int .i64 3) ∧ W.cell? ⟨w1.heap.size, 1, none⟩ = some (.int .i64 0) ∧ Hid (Below Ws.heap.size Ws W)) := fun W hW => ⟨(HS.out.below hW HS.out.lt).cell 0, (HS.out.below hW HS.out.lt).cell 1, hW⟩
  clear hWs
  refine wp_region_held_drew (S := fun W => W.cell? ⟨w1.heap.size, 0, none⟩ = some (.int .i64 3) ∧ W.cell? ⟨w1.heap.size, 1, none⟩ = some (.int .i64 0) ∧ Hid (Below Ws.heap.size Ws W)) (by kernel_rfl) (SS.out _ (below_drew _)) fun hS0 => ?_
  refine wpAnyH_take (i := 0) (v := .int .i64 (rootN y)) rfl (by kernel_rfl) (by kernel_rfl) (by kernel_rfl) (fun _ _ _ h => h) (Or.inl ⟨by rfl, ?_⟩) (by assumption) ?_
  · intro w' hSw; (try dsimp only at hSw); obtain ⟨hc1, hc2, _⟩ := hSw; go_simp
  (try simp only [Act.put, List.getElem_toArray, List.getElem_cons_zero, List.setIfInBounds_toArray, List.set_cons_zero, List.set_cons_succ])
  refine wpAnyH_take (i := 2) (v := (.slice none 0 CL)) rfl (by kernel_rfl) (by kernel_rfl) (by kernel_rfl) (fun _ _ _ h => h) (Or.inl ⟨by rfl, ?_⟩) (by assumption) ?_
  · intro w' hSw; (try dsimp only at hSw); obtain ⟨hc1, hc2, _⟩ := hSw; go_simp
  (try simp only [Act.put, List.getElem_toArray, List.getElem_cons_succ, List.getElem_cons_zero, List.setIfInBounds_toArray, List.set_cons_zero, List.set_cons_succ])
  refine wpAnyH_take (i := 4) (v := .agg #[.int .i64 3, .int .i64 0]) rfl (by kernel_rfl) (by kernel_rfl) (by kernel_rfl) (fun _ _ _ h => h) (Or.inl ⟨by rfl, ?_⟩) (by assumption) ?_
  · intro w' hSw; (try dsimp only at hSw); obtain ⟨hc1, hc2, _⟩ := hSw; go_simp
  (try simp only [Act.put, List.getElem_toArray, List.getElem_cons_succ, List.getElem_cons_zero, List.setIfInBounds_toArray, List.set_cons_zero, List.set_cons_succ])
  refine wpAnyH_take (i := 7) (v := .bool (isPl y)) rfl (by kernel_rfl) (by kernel_rfl) (by kernel_rfl) (fun _ _ _ h => h) (Or.inl ⟨by rfl, ?_⟩) (by assumption) ?_
  · intro w' hSw; (try dsimp only at hSw); obtain ⟨hc1, hc2, _⟩ := hSw; go_simp
  (try simp only [Act.put, List.getElem_toArray, List.getElem_cons_succ, List.getElem_cons_zero, List.setIfInBounds_toArray, List.set_cons_zero, List.set_cons_succ])
  refine wpAnyH_ready (rs := [1, 5]) (by kernel_rfl) (by simp) ?_
  refine AllReadyH.cons rfl (fun K hK => ?_) (AllReadyH.cons rfl (fun K hK => ?_) AllReadyH.nil)
  · go_simp
    refine hK.out _ _ (SS.out _ (below_next (below_drew _) (below_alloc _ _))) (fun hH => ?_)
    (try simp only [Act.put, List.getElem_toArray, List.getElem_cons_succ, List.getElem_cons_zero, List.setIfInBounds_toArray, List.set_cons_zero, List.set_cons_succ])
    refine wpAnyH_ready (rs := [3, 5]) (by kernel_rfl) (by simp) ?_
    refine AllReadyH.cons rfl (fun K hK => ?_) (AllReadyH.cons rfl (fun K hK => ?_) AllReadyH.nil)
    · rw [if_pos (by rfl)]
      have O3 : Hid (OwnB 41 2 rL Ws.heap.size ([] : List (Int × Int)) (.slice (some ⟨Ws.heap.size, 0, none⟩) 0 0) (Ws.drew.alloc (.cells #[] 41))) := OwnB.fresh (At.new Ws.drew #[] 41) (Nat.le_refl _)
      refine OwnB.append_nil 37 41 rL _ 2 16 info41 Try.underlying37 _ _ _ rfl _ rfl Ws.heap.size [] O3.out CL rfl ?_
      have X3 : Hid ((rsts y) = []) := List.eq_nil_of_length_eq_zero HZ.out
      refine hK.out _ _ (SS.out _ (below_next (below_drew _) (below_alloc _ _))) (fun hH => ?_)
      (try simp only [Act.put, List.getElem_toArray, List.getElem_cons_succ, List.getElem_cons_zero, List.setIfInBounds_toArray, List.set_cons_zero, List.set_cons_succ])
      refine wpAnyH_ready (rs := [5]) (by kernel_rfl) (by simp) ?_
      refine AllReadyH.cons rfl (fun K hK => ?_) AllReadyH.nil
      go_simp
      refine hK.out _ _ (SS.out _ (below_next (below_next (below_drew _) (below_alloc _ _)) (below_alloc _ _))) (fun hH => ?_)
      (try simp only [Act.put, List.getElem_toArray, List.getElem_cons_succ, List.getElem_cons_zero, List.setIfInBounds_toArray, List.set_cons_zero, List.set_cons_succ])
      refine wpAnyH_ready (rs := [6]) (by kernel_rfl) (by simp) ?_
      refine AllReadyH.cons rfl (fun K hK => ?_) AllReadyH.nil
      rw [if_pos (by rfl)]
      have H5 : Hid (At ((Ws.drew.alloc (.cells #[] 41)).alloc (.cells #[.int .i64 3, .int .i64 0] 41)) (Ws.heap.size + 1) #[.int .i64 3, .int .i64 0] 41) := At.newS (Ws.drew.alloc (.cells #[] 41)) #[.int .i64 3, .int .i64 0] 41 (by simp)
      refine OwnB.appendK 37 41 rL _ 2 16 info41 Try.underlying37 rfl (by decide) (by decide) rL_len rL_one _ _ _ rfl _ rfl Ws.heap.size [] [(3, 0)] (O3.out.below (below_alloc _ _)) ⟨Ws.heap.size + 1, 0, none⟩ 1 rfl (fun j u hj => H5.out.add (rL (3, 0)) j u hj) (by simp) ?_
      intro v6 w6 h6 k6 _
      have O6 : Hid (OwnB 41 2 rL Ws.heap.size (rsts y ++ [(3, 0)]) v6 w6) := by rw [X3.out]; exact h6
      have K6 : Hid (Below Ws.heap.size Ws w6) := Below.trans (below_next (below_next (below_drew _) (below_alloc _ _)) (below_alloc _ _)) k6
      clear h6 k6
      refine hK.out _ _ (SS.out _ (K6.out)) (fun hH => ?_)
      (try simp only [Act.put, List.getElem_toArray, List.getElem_cons_succ, List.getElem_cons_zero, List.setIfInBounds_toArray, List.set_cons_zero, List.set_cons_succ])
      refine wpAnyH_take (i := 8) (v := .int .i64 (rootN y)) rfl (by kernel_rfl) (by kernel_rfl) (by kernel_rfl) (fun _ _ _ h => h) (Or.inl ⟨by rfl, ?_⟩) (by assumption) ?_
      · intro w' hSw; (try dsimp only at hSw); obtain ⟨hc1, hc2, _⟩ := hSw; go_simp
      (try simp only [Act.put, List.getElem_toArray, List.getElem_cons_succ, List.getElem_cons_zero, List.setIfInBounds_toArray, List.set_cons_zero, List.set_cons_succ])
      refine wpAnyH_take (i := 9) (v := v6) rfl (by kernel_rfl) (by kernel_rfl) (by kernel_rfl) (fun _ _ _ h => h) (Or.inl ⟨by rfl, ?_⟩) (by assumption) ?_
      · intro w' hSw; (try dsimp only at hSw); obtain ⟨hc1, hc2, _⟩ := hSw; go_simp
      (try simp only [Act.put, List.getElem_toArray, List.getElem_cons_succ, List.getElem_cons_zero, List.setIfInBounds_toArray, List.set_cons_zero, List.set_cons_succ])
      refine wpAnyH_take (i := 10) (v := .bool (isPl y)) rfl (by kernel_rfl) (by kernel_rfl) (by kernel_rfl) (fun _ _ _ h => h) (Or.inl ⟨by rfl, ?_⟩) (by assumption) ?_
      · intro w' hSw; (try dsimp only at hSw); obtain ⟨hc1, hc2, _⟩ := hSw; go_simp
      (try simp only [Act.put, List.getElem_toArray, List.getElem_cons_succ, List.getElem_cons_zero, List.setIfInBounds_toArray, List.set_cons_zero, List.set_cons_succ])
      refine wpAnyH_done (by kernel_rfl) ?_ _
      go_wp2
      refine bodyPost_ret (v := .tuple #[.int .i64 (rootN y), v6, .bool (isPl y)]) (by simp [results, Try.results9, go_sem]) rfl ?_
      exact FIN.out v6 Ws _ O6.out (below_next HB1.out (below_next HWB.out K6.out))
    · go_simp
      refine hK.out _ _ (SS.out _ (below_next (below_next (below_drew _) (below_alloc _ _)) (below_alloc _ _))) (fun hH => ?_)
      (try simp only [Act.put, List.getElem_toArray, List.getElem_cons_succ, List.getElem_cons_zero, List.setIfInBounds_toArray, List.set_cons_zero, List.set_cons_succ])
      refine wpAnyH_ready (rs := [3]) (by kernel_rfl) (by simp) ?_
      refine AllReadyH.cons rfl (fun K hK => ?_) AllReadyH.nil
      rw [if_pos (by rfl)]
      have O3 : Hid (OwnB 41 2 rL Ws.heap.size ([] : List (Int × Int)) (.slice (some ⟨Ws.heap.size, 0, none⟩) 0 0) ((Ws.drew.alloc (.cells #[] 41)).alloc (.cells #[.int .i64 3, .int .i64 0] 41))) := OwnB.fresh ((At.new Ws.drew #[] 41).below (below_alloc _ _) (At.new Ws.drew #[] 41).lt) (Nat.le_refl _)
      refine OwnB.append_nil 37 41 rL _ 2 16 info41 Try.underlying37 _ _ _ rfl _ rfl Ws.heap.size [] O3.out CL rfl ?_
      have X3 : Hid ((rsts y) = []) := List.eq_nil_of_length_eq_zero HZ.out
      refine hK.out _ _ (SS.out _ (below_next (below_next (below_drew _) (below_alloc _ _)) (below_alloc _ _))) (fun hH => ?_)
      (try simp only [Act.put, List.getElem_toArray, List.getElem_cons_succ, List.getElem_cons_zero, List.setIfInBounds_toArray, List.set_cons_zero, List.set_cons_succ])
      refine wpAnyH_ready (rs := [6]) (by kernel_rfl) (by simp) ?_
      refine AllReadyH.cons rfl (fun K hK => ?_) AllReadyH.nil
      rw [if_pos (by rfl)]
      have H5 : Hid (At ((Ws.drew.alloc (.cells #[] 41)).alloc (.cells #[.int .i64 3, .int .i64 0] 41)) (Ws.heap.size + 1) #[.int .i64 3, .int .i64 0] 41) := At.newS (Ws.drew.alloc (.cells #[] 41)) #[.int .i64 3, .int .i64 0] 41 (by simp)
      refine OwnB.appendK 37 41 rL _ 2 16 info41 Try.underlying37 rfl (by decide) (by decide) rL_len rL_one _ _ _ rfl _ rfl Ws.heap.size [] [(3, 0)] O3.out ⟨Ws.heap.size + 1, 0, none⟩ 1 rfl (fun j u hj => H5.out.add (rL (3, 0)) j u hj) (by simp) ?_
      intro v6 w6 h6 k6 _
      have O6 : Hid (OwnB 41 2 rL Ws.heap.size (rsts y ++ [(3, 0)]) v6 w6) := by rw [X3.out]; exact h6
      have K6 : Hid (Below Ws.heap.size Ws w6) := Below.trans (below_next (below_next (below_drew _) (below_alloc _ _)) (below_alloc _ _)) k6
      clear h6 k6
      refine hK.out _ _ (SS.out _ (K6.out)) (fun hH => ?_)
      (try simp only [Act.put, List.getElem_toArray, List.getElem_cons_succ, List.getElem_cons_zero, List.setIfInBounds_toArray, List.set_cons_zero, List.set_cons_succ])
      refine wpAnyH_take (i := 8) (v := .int .i64 (rootN y)) rfl (by kernel_rfl) (by kernel_rfl) (by kernel_rfl) (fun _ _ _ h => h) (Or.inl ⟨by rfl, ?_⟩) (by assumption) ?_
      · intro w' hSw; (try dsimp only at hSw); obtain ⟨hc1, hc2, _⟩ := hSw; go_simp
      (try simp only [Act.put, List.getElem_toArray, List.getElem_cons_succ, List.getElem_cons_zero, List.setIfInBounds_toArray, List.set_cons_zero, List.set_cons_succ])
      refine wpAnyH_take (i := 9) (v := v6) rfl (by kernel_rfl) (by kernel_rfl) (by kernel_rfl) (fun _ _ _ h => h) (Or.inl ⟨by rfl, ?_⟩) (by assumption) ?_
      · intro w' hSw; (try dsimp only at hSw); obtain ⟨hc1, hc2, _⟩ := hSw; go_simp
      (try simp only [Act.put, List.getElem_toArray, List.getElem_cons_succ, List.getElem_cons_zero, List.setIfInBounds_toArray, List.set_cons_zero, List.set_cons_succ])
      refine wpAnyH_take (i := 10) (v := .bool (isPl y)) rfl (by kernel_rfl) (by kernel_rfl) (by kernel_rfl) (fun _ _ _ h => h) (Or.inl ⟨by rfl, ?_⟩) (by assumption) ?_
      · intro w' hSw; (try dsimp only at hSw); obtain ⟨hc1, hc2, _⟩ := hSw; go_simp
      (try simp only [Act.put, List.getElem_toArray, List.getElem_cons_succ, List.getElem_cons_zero, List.setIfInBounds_toArray, List.set_cons_zero, List.set_cons_succ])
      refine wpAnyH_done (by kernel_rfl) ?_ _
      go_wp2
      refine bodyPost_ret (v := .tuple #[.int .i64 (rootN y), v6, .bool (isPl y)]) (by simp [results, Try.results9, go_sem]) rfl ?_
      exact FIN.out v6 Ws _ O6.out (below_next HB1.out (below_next HWB.out K6.out))
  · go_simp
    refine hK.out _ _ (SS.out _ (below_next (below_drew _) (below_alloc _ _))) (fun hH => ?_)
    (try simp only [Act.put, List.getElem_toArray, List.getElem_cons_succ, List.getElem_cons_zero, List.setIfInBounds_toArray, List.set_cons_zero, List.set_cons_succ])
    refine wpAnyH_ready (rs := [1]) (by kernel_rfl) (by simp) ?_
    refine AllReadyH.cons rfl (fun K hK => ?_) AllReadyH.nil
    go_simp
    refine hK.out _ _ (SS.out _ (below_next (below_next (below_drew _) (below_alloc _ _)) (below_alloc _ _))) (fun hH => ?_)
    (try simp only [Act.put, List.getElem_toArray, List.getElem_cons_succ, List.getElem_cons_zero, List.setIfInBounds_toArray, List.set_cons_zero, List.set_cons_succ])
    refine wpAnyH_ready (rs := [3]) (by kernel_rfl) (by simp) ?_
    refine AllReadyH.cons rfl (fun K hK => ?_) AllReadyH.nil
    rw [if_pos (by rfl)]
    have O3 : Hid (OwnB 41 2 rL Ws.heap.size ([] : List (Int × Int)) (.slice (some ⟨Ws.heap.size + 1, 0, none⟩) 0 0) ((Ws.drew.alloc (.cells #[.int .i64 3, .int .i64 0] 41)).alloc (.cells #[] 41))) := OwnB.fresh (At.newS (Ws.drew.alloc (.cells #[.int .i64 3, .int .i64 0] 41)) #[] 41 (by simp)) (Nat.le_succ _)
    refine OwnB.append_nil 37 41 rL _ 2 16 info41 Try.underlying37 _ _ _ rfl _ rfl Ws.heap.size [] O3.out CL rfl ?_
    have X3 : Hid ((rsts y) = []) := List.eq_nil_of_length_eq_zero HZ.out
    refine hK.out _ _ (SS.out _ (below_next (below_next (below_drew _) (below_alloc _ _)) (below_alloc _ _))) (fun hH => ?_)
    (try simp only [Act.put, List.getElem_toArray, List.getElem_cons_succ, List.getElem_cons_zero, List.setIfInBounds_toArray, List.set_cons_zero, List.set_cons_succ])
    refine wpAnyH_ready (rs := [6]) (by kernel_rfl) (by simp) ?_
    refine AllReadyH.cons rfl (fun K hK => ?_) AllReadyH.nil
    rw [if_pos (by rfl)]
    have H5 : Hid (At ((Ws.drew.alloc (.cells #[.int .i64 3, .int .i64 0] 41)).alloc (.cells #[] 41)) (Ws.heap.size) #[.int .i64 3, .int .i64 0] 41) := (At.new Ws.drew #[.int .i64 3, .int .i64 0] 41).below (below_alloc _ _) (At.new Ws.drew #[.int .i64 3, .int .i64 0] 41).lt
    refine OwnB.appendK 37 41 rL _ 2 16 info41 Try.underlying37 rfl (by decide) (by decide) rL_len rL_one _ _ _ rfl _ rfl Ws.heap.size [] [(3, 0)] O3.out ⟨Ws.heap.size, 0, none⟩ 1 rfl (fun j u hj => H5.out.add (rL (3, 0)) j u hj) (by simp) ?_
    intro v6 w6 h6 k6 _
    have O6 : Hid (OwnB 41 2 rL Ws.heap.size (rsts y ++ [(3, 0)]) v6 w6) := by rw [X3.out]; exact h6
    have K6 : Hid (Below Ws.heap.size Ws w6) := Below.trans (below_next (below_next (below_drew _) (below_alloc _ _)) (below_alloc _ _)) k6
    clear h6 k6
    refine hK.out _ _ (SS.out _ (K6.out)) (fun hH => ?_)
    (try simp only [Act.put, List.getElem_toArray, List.getElem_cons_succ, List.getElem_cons_zero, List.setIfInBounds_toArray, List.set_cons_zero, List.set_cons_succ])
    refine wpAnyH_take (i := 8) (v := .int .i64 (rootN y)) rfl (by kernel_rfl) (by kernel_rfl) (by kernel_rfl) (fun _ _ _ h => h) (Or.inl ⟨by rfl, ?_⟩) (by assumption) ?_
    · intro w' hSw; (try dsimp only at hSw); obtain ⟨hc1, hc2, _⟩ := hSw; go_simp
    (try simp only [Act.put, List.getElem_toArray, List.getElem_cons_succ, List.getElem_cons_zero, List.setIfInBounds_toArray, List.set_cons_zero, List.set_cons_succ])
    refine wpAnyH_take (i := 9) (v := v6) rfl (by kernel_rfl) (by kernel_rfl) (by kernel_rfl) (fun _ _ _ h => h) (Or.inl ⟨by rfl, ?_⟩) (by assumption) ?_
    · intro w' hSw; (try dsimp only at hSw); obtain ⟨hc1, hc2, _⟩ := hSw; go_simp
    (try simp only [Act.put, List.getElem_toArray, List.getElem_cons_succ, List.getElem_cons_zero, List.setIfInBounds_toArray, List.set_cons_zero, List.set_cons_succ])
    refine wpAnyH_take (i := 10) (v := .bool (isPl y)) rfl (by kernel_rfl) (by kernel_rfl) (by kernel_rfl) (fun _ _ _ h => h) (Or.inl ⟨by rfl, ?_⟩) (by assumption) ?_
    · intro w' hSw; (try dsimp only at hSw); obtain ⟨hc1, hc2, _⟩ := hSw; go_simp
    (try simp only [Act.put, List.getElem_toArray, List.getElem_cons_succ, List.getElem_cons_zero, List.setIfInBounds_toArray, List.set_cons_zero, List.set_cons_succ])
    refine wpAnyH_done (by kernel_rfl) ?_ _
    go_wp2
    refine bodyPost_ret (v := .tuple #[.int .i64 (rootN y), v6, .bool (isPl y)]) (by simp [results, Try.results9, go_sem]) rfl ?_
    exact FIN.out v6 Ws _ O6.out (below_next HB1.out (below_next HWB.out K6.out))

end Go.Proofs.Ytjbglolcnhmkcaa
