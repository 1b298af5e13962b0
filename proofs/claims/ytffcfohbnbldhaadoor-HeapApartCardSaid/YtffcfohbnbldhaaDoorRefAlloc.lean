/-
  Proved: what the reference's Alloc answers, and which blocks it holds then.
-/
import Derived.Test.YtffcfohbnbldhaaDoorRef
namespace Go.Proofs.YtffcfohbnbldhaaDoor
open Go.RowKit

theorem RIn.below {w w' : World} {rb base : Nat} {bs : List (Nat × Nat)} {lv : Value} (h : RIn w rb base bs lv) (k : Below w.heap.size w w') : RIn w' rb base bs lv := ⟨h.1.below k h.1.lt, h.2.below k⟩

/-- The blocks of a reference's heap. -/
def Rs (rb : Nat) (lv : Value) (b : Nat) : Prop := b = rb ∨ lv.ownBlock = some b

theorem ral_fin {rb base : Nat} {bs ns : List (Nat × Nat)} {lv v5 : Value} (W w2 : World) {o : Obj} (w5 : World) (hrb : rb < base) (h2 : RIn w2 rb base bs lv) (hW : Below W.heap.size W w2) (h5 : OwnB 59 3 bL base ns v5 w5) (k5 : Below base (w2.alloc o) w5) (m5 : ∀ k, k < (w2.alloc o).heap.size → lv.ownBlock ≠ some k → w5.heap[k]? = (w2.alloc o).heap[k]?) :
    RIn (w5.setCell ⟨rb, 0, none⟩ v5) rb base ns v5 ∧ Kp (Rs rb lv) W (w5.setCell ⟨rb, 0, none⟩ v5) ∧ At w5 rb #[lv] 28 := by
  have a1 : At (w2.alloc o) rb #[lv] 28 := h2.1.below (below_alloc _ _) h2.1.lt
  have a2 : At w5 rb #[lv] 28 := a1.below k5 hrb
  refine ⟨⟨?_, h5.set hrb _⟩, ?_, a2⟩
  · have := a2.set (j := 0) v5
    simpa using this
  · have q1 : Kp (Rs rb lv) (w2.alloc o) w5 := ⟨k5.mono (Nat.zero_le _), fun b hb hn => m5 b hb (fun e => hn (Or.inr e))⟩
    exact (Kp.of_below (below_next hW (below_alloc _ _))).trans (q1.trans (Kp.set w5 0 v5 (Or.inl rfl)))

def bsR (bs : List (Nat × Nat)) (c : Nat) : Option Nat → List (Nat × Nat)
  | none => bs
  | some k => bs ++ [(c, k)]

set_option maxHeartbeats 2000000 in
theorem ralloc_some {w : World} {rb base : Nat} {bs : List (Nat × Nat)} {lv : Value} (us : Nat → Nat → Bool) (h : RIn w rb base bs lv) (hl : bs.length ≤ 1000) (hu : ∀ c k, c < 4 → k < bl c → (us c k = false ↔ fx bs (adr c k) = none)) (hrb : rb < base) (x : Int) (c : Nat) (hc : c < 4) (hx : clsOf x = some c) :
    Calls Tryd.prog 11 #[.pointer (some ⟨rb, 0, none⟩), .int .i64 x] w fun e w' => e = .returned (.tuple #[.int .i64 (alR us c (fr us c)).1, .int .i64 (alR us c (fr us c)).2.1]) ∧ (∃ lv', RIn w' rb base (bsR bs c (fr us c)) lv') ∧ Kp (Rs rb lv) w w' := by
  have CC : Hid (∀ w, Calls Tryd.prog 15 #[.int .i64 x] w fun e w' => e = .returned (.tuple #[.int .i64 (c : Int), .int .i64 (sz c : Int), .int .i64 (bl c : Int), .int .i64 0]) ∧ w' = w) := fun w => by
    have := rclass_c x w
    rw [hx] at this
    exact this
  have HU : Hid (∀ k, k < bl c → (us c k = false ↔ fx bs (adr c k) = none)) := fun k hk => hu c k hc hk
  have HH : Hid (RIn w rb base bs lv) := h
  have hb := span_le c
  clear hu hx h
  generalize hR : fr us c = R
  go_enter Tryd.func11, Tryd.ntmps11
  go_wp2_with (go_at_call 15; refine (CC.out _).mono ?_; rintro e w0 ⟨rfl, hw⟩; rw [hw]; clear hw w0)
  go_loopw [10] (fun i wr => ∃ j : Nat, j ≤ bl c ∧ i = .int .i64 (j : Int) ∧ ff (fun k => !us c k) (bl c - j) j = R ∧ RIn wr rb base bs lv ∧ Below w.heap.size w wr) (fun i _ => bl c - (intOf i).toNat)
  case atStart => exact ⟨0, by omega, rfl, hR, HH.out, Below.refl _ _⟩
  case round =>
    obtain ⟨j, hj, rfl, hr, hI, hB⟩ := hrel
    have HR : Hid (ff (fun k => !us c k) (bl c - j) j = R) := hr
    have RI : Hid (RIn wr rb base bs lv) := hI
    have NN : Hid (Below w.heap.size w wr) := hB
    clear hr hI hB hR
    rcases Nat.lt_or_ge j (bl c) with hj' | hj'
    · have hjz : (j : Int) < (bl c : Int) := by omega
      have PL : Hid (∀ w, Calls Tryd.prog 23 #[.int .i64 (c : Int), .int .i64 (j : Int)] w fun e w' => e = .returned (.int .i64 (adr c j)) ∧ Below w.heap.size w w') := fun w => place_c c j hc (by omega) w
      have HS : Hid (ff (fun k => !us c k) (bl c - j) j = if us c j then ff (fun k => !us c k) (bl c - (j + 1)) (j + 1) else some j) := fr_step us c j (bl c) hj'
      have FU : Hid (us c j = false ↔ fx bs (adr c j) = none) := HU.out j hj'
      have FF : Hid (∀ W, RIn W rb base bs lv → Calls Tryd.prog 22 #[.pointer (some ⟨rb, 0, none⟩), .int .i64 (adr c j)] W fun e w' => e = .returned (.int .i64 (fxV (fx bs (adr c j)))) ∧ Below W.heap.size W w') := fun W hW => rfind_c hW hl (adr c j)
      generalize fx bs (adr c j) = fq at FU FF
      cases fq with
      | some i =>
        have hus : us c j = true := by
          have h0 := FU.out
          cases e : us c j with
          | true => rfl
          | false => exact absurd (h0.1 e) (by simp)
        have h1 := HR.out
        rw [HS.out, if_pos hus] at h1
        have HR2 : Hid (ff (fun k => !us c k) (bl c - (j + 1)) (j + 1) = R) := h1
        clear h1
        have FF : Hid (∀ W, RIn W rb base bs lv → Calls Tryd.prog 22 #[.pointer (some ⟨rb, 0, none⟩), .int .i64 (adr c j)] W fun e w' => e = .returned (.int .i64 (i : Int)) ∧ Below W.heap.size W w') := FF.out
        have hiz : ¬ (i : Int) < 0 := by omega
        go_wp2_with (first
          | (go_at_call 23; refine (PL.out _).mono ?_; rintro e w2 ⟨rfl, hb2⟩; have R2 : Hid (RIn w2 rb base bs lv) := RI.out.below hb2; have N2 : Hid (Below w.heap.size w w2) := below_next NN.out hb2; clear hb2)
          | (go_at_call 22; refine (FF.out _ R2.out).mono ?_; rintro e w3 ⟨rfl, hb3⟩; have R3 : Hid (RIn w3 rb base bs lv) := R2.out.below hb3; have N3 : Hid (Below w.heap.size w w3) := below_next N2.out hb3; clear hb3))
        go_roundw
        case rel => exact ⟨j + 1, by omega, by go_num, HR2.out, R3.out, N3.out⟩
        case measure => simp [intOf]; omega
      | none =>
        have hus : us c j = false := FU.out.2 rfl
        have h1 := HR.out
        rw [HS.out, hus, if_neg (by simp)] at h1
        subst h1
        have FF : Hid (∀ W, RIn W rb base bs lv → Calls Tryd.prog 22 #[.pointer (some ⟨rb, 0, none⟩), .int .i64 (adr c j)] W fun e w' => e = .returned (.int .i64 (-1)) ∧ Below W.heap.size W w') := FF.out
        go_wp2_with (first
          | (go_at_call 23; refine (PL.out _).mono ?_; rintro e w2 ⟨rfl, hb2⟩; have R2 : Hid (RIn w2 rb base bs lv) := RI.out.below hb2; have N2 : Hid (Below w.heap.size w w2) := below_next NN.out hb2; clear hb2)
          | (go_at_call 22; refine (FF.out _ R2.out).mono ?_; rintro e W ⟨rfl, hb3⟩; have RW : Hid (RIn W rb base bs lv) := R2.out.below hb3; have NW : Hid (Below w.heap.size w W) := below_next N2.out hb3; clear hb3))
        have KW : Hid (Kp (Rs rb lv) w W) := Kp.of_below NW.out
        have HC : Hid (bs.length + [(c, j)].length ≤ 100000) := (by simp; omega : bs.length + [(c, j)].length ≤ 100000)
        have c0 := RW.out.1.cell 0
        have c3 := RW.out.1.lt
        simp at c0
        obtain ⟨AL, CL, hlv, _⟩ := RW.out.2.bshape
        subst hlv
        refine wp_region_any (by kernel_rfl) ?_
        change wpAny _ _ _ _ _ _ _ (World.drew _)
        refine wpAny_take (i := 0) (v := .pointer (some ⟨rb, 0, none⟩)) rfl (by kernel_rfl) (by kernel_rfl) (by kernel_rfl) (fun _ _ _ h => h) (Or.inl ⟨by rfl, ?_⟩) ?_
        · intro w'; go_simp
        (try simp only [Act.put, List.getElem_toArray, List.getElem_cons_zero, List.setIfInBounds_toArray, List.set_cons_zero, List.set_cons_succ])
        refine wpAny_take (i := 1) (v := .pointer (some ⟨rb, 0, none⟩)) rfl (by kernel_rfl) (by kernel_rfl) (by kernel_rfl) (fun _ _ _ h => h) (Or.inl ⟨by rfl, ?_⟩) ?_
        · intro w'; go_simp
        (try simp only [Act.put, List.getElem_toArray, List.getElem_cons_succ, List.getElem_cons_zero, List.setIfInBounds_toArray, List.set_cons_zero, List.set_cons_succ])
        refine wpAny_take (i := 2) (v := .pointer (some ⟨rb, 0, none⟩)) rfl (by kernel_rfl) (by kernel_rfl) (by kernel_rfl) (fun _ _ _ h => h) (Or.inl ⟨by rfl, ?_⟩) ?_
        · intro w'; go_simp
        (try simp only [Act.put, List.getElem_toArray, List.getElem_cons_succ, List.getElem_cons_zero, List.setIfInBounds_toArray, List.set_cons_zero, List.set_cons_succ])
        refine wpAny_take (i := 3) (v := .pointer (some ⟨rb, 0, none⟩)) rfl (by kernel_rfl) (by kernel_rfl) (by kernel_rfl) (fun _ _ _ h => h) (Or.inl ⟨by rfl, ?_⟩) ?_
        · intro w'; go_simp
        (try simp only [Act.put, List.getElem_toArray, List.getElem_cons_succ, List.getElem_cons_zero, List.setIfInBounds_toArray, List.set_cons_zero, List.set_cons_succ])
        refine wpAny_take (i := 5) (v := .int .i64 (c : Int)) rfl (by kernel_rfl) (by kernel_rfl) (by kernel_rfl) (fun _ _ _ h => h) (Or.inl ⟨by rfl, ?_⟩) ?_
        · intro w'; go_simp
        (try simp only [Act.put, List.getElem_toArray, List.getElem_cons_succ, List.getElem_cons_zero, List.setIfInBounds_toArray, List.set_cons_zero, List.set_cons_succ])
        refine wpAny_take (i := 6) (v := .int .i64 (j : Int)) rfl (by kernel_rfl) (by kernel_rfl) (by kernel_rfl) (fun _ _ _ h => h) (Or.inl ⟨by rfl, ?_⟩) ?_
        · intro w'; go_simp
        (try simp only [Act.put, List.getElem_toArray, List.getElem_cons_succ, List.getElem_cons_zero, List.setIfInBounds_toArray, List.set_cons_zero, List.set_cons_succ])
        refine wpAny_take (i := 8) (v := .int .i64 (c : Int)) rfl (by kernel_rfl) (by kernel_rfl) (by kernel_rfl) (fun _ _ _ h => h) (Or.inl ⟨by rfl, ?_⟩) ?_
        · intro w'; go_simp
        (try simp only [Act.put, List.getElem_toArray, List.getElem_cons_succ, List.getElem_cons_zero, List.setIfInBounds_toArray, List.set_cons_zero, List.set_cons_succ])
        refine wpAny_take (i := 9) (v := .int .i64 (sz c : Int)) rfl (by kernel_rfl) (by kernel_rfl) (by kernel_rfl) (fun _ _ _ h => h) (Or.inl ⟨by rfl, ?_⟩) ?_
        · intro w'; go_simp
        (try simp only [Act.put, List.getElem_toArray, List.getElem_cons_succ, List.getElem_cons_zero, List.setIfInBounds_toArray, List.set_cons_zero, List.set_cons_succ])
        refine wpAny_ready (rs := [4, 7]) (by kernel_rfl) (by simp) ?_
        refine AllReady.cons rfl (fun K hK => ?_) (AllReady.cons rfl (fun K hK => ?_) AllReady.nil)
        · go_simp
          refine hK _ _ ?_; clear hK K
          (try simp only [Act.put, List.getElem_toArray, List.getElem_cons_succ, List.getElem_cons_zero, List.setIfInBounds_toArray, List.set_cons_zero, List.set_cons_succ])
          refine wpAny_ready (rs := [7]) (by kernel_rfl) (by simp) ?_
          refine AllReady.cons rfl (fun K hK => ?_) AllReady.nil
          go_simp
          (go_at_call 23; refine (PL.out _).mono ?_; rintro e w2 ⟨rfl, hb2⟩; have OO : Hid (RIn w2 rb base bs (.slice AL bs.length CL)) := ((RW.out.below (below_drew _)).below hb2); have PW : Hid (Below W.heap.size W w2) := below_next (below_drew _) hb2; have y0 := OO.out.1.cell 0; have y3 := OO.out.1.lt; clear hb2)
          go_wp2_with fail
          (try simp only [Act.put, List.getElem_toArray, List.getElem_cons_succ, List.getElem_cons_zero, List.setIfInBounds_toArray, List.set_cons_zero, List.set_cons_succ])
          refine wpAny_take (i := 10) (v := .agg #[.int .i64 (adr c j), .int .i64 (c : Int), .int .i64 (sz c : Int)]) rfl (by kernel_rfl) (by kernel_rfl) (by kernel_rfl) (fun _ _ _ h => h) (Or.inl ⟨by rfl, ?_⟩) ?_
          · intro w'; go_simp
          (try simp only [Act.put, List.getElem_toArray, List.getElem_cons_succ, List.getElem_cons_zero, List.setIfInBounds_toArray, List.set_cons_zero, List.set_cons_succ])
          refine wpAny_ready (rs := [11]) (by kernel_rfl) (by simp) ?_
          refine AllReady.cons rfl (fun K hK => ?_) AllReady.nil
          go_simp
          refine hK _ _ ?_; clear hK K
          (try simp only [Act.put, List.getElem_toArray, List.getElem_cons_succ, List.getElem_cons_zero, List.setIfInBounds_toArray, List.set_cons_zero, List.set_cons_succ])
          refine wpAny_ready (rs := [12]) (by kernel_rfl) (by simp) ?_
          refine AllReady.cons rfl (fun K hK => ?_) AllReady.nil
          rw [if_pos (by rfl)]
          refine OwnB.appendK 26 59 bL _ 3 24 info59 Tryd.underlying26 rfl (by decide) (by decide) bL_len bL_one _ _ _ rfl (.slice AL bs.length CL) rfl base bs [(c, j)] (OO.out.2.below (below_alloc _ _)) ⟨_, 0, none⟩ 1 rfl (fun i u hi => cells_new _ (bL (c, j)) 59 i u hi) HC.out ?_
          intro v5 w5 h5 k5 m5
          obtain ⟨A5, C5, rfl, _⟩ := h5.done bL_len
          have FIN : Hid (RIn (w5.setCell ⟨rb, 0, none⟩ (.slice A5 (bs ++ [(c, j)]).length C5)) rb base (bs ++ [(c, j)]) (.slice A5 (bs ++ [(c, j)]).length C5) ∧ Kp (Rs rb (.slice AL bs.length CL)) W (w5.setCell ⟨rb, 0, none⟩ (.slice A5 (bs ++ [(c, j)]).length C5)) ∧ At w5 rb #[.slice AL bs.length CL] 28) := ral_fin W w2 w5 hrb OO.out PW.out h5 k5 m5
          have z1 := FIN.out.2.2.cell 0
          have z2 := FIN.out.2.2.frozen 0
          have z3 := FIN.out.2.2.lt
          clear h5 k5 m5
          generalize (bs ++ [(c, j)]).length = LN at FIN ⊢
          refine hK _ _ ?_; clear hK K
          (try simp only [Act.put, List.getElem_toArray, List.getElem_cons_succ, List.getElem_cons_zero, List.setIfInBounds_toArray, List.set_cons_zero, List.set_cons_succ])
          refine wpAny_take (i := 13) (v := .pointer (some ⟨rb, 0, none⟩)) rfl (by kernel_rfl) (by kernel_rfl) (by kernel_rfl) (fun _ _ _ h => h) (Or.inl ⟨by rfl, ?_⟩) ?_
          · intro w'; go_simp
          (try simp only [Act.put, List.getElem_toArray, List.getElem_cons_succ, List.getElem_cons_zero, List.setIfInBounds_toArray, List.set_cons_zero, List.set_cons_succ])
          refine wpAny_take (i := 14) (v := .pointer (some ⟨rb, 0, none⟩)) rfl (by kernel_rfl) (by kernel_rfl) (by kernel_rfl) (fun _ _ _ h => h) (Or.inl ⟨by rfl, ?_⟩) ?_
          · intro w'; go_simp
          (try simp only [Act.put, List.getElem_toArray, List.getElem_cons_succ, List.getElem_cons_zero, List.setIfInBounds_toArray, List.set_cons_zero, List.set_cons_succ])
          refine wpAny_ready (rs := [15]) (by kernel_rfl) (by simp) ?_
          refine AllReady.cons rfl (fun K hK => ?_) AllReady.nil
          go_simp
          refine hK _ _ ?_; clear hK K
          (try simp only [Act.put, List.getElem_toArray, List.getElem_cons_succ, List.getElem_cons_zero, List.setIfInBounds_toArray, List.set_cons_zero, List.set_cons_succ])
          refine wpAny_done (by kernel_rfl) ?_ _
          generalize w5.setCell ⟨rb, 0, none⟩ (.slice A5 LN C5) = w6 at *
          go_wp2_with (go_at_call 23; refine (PL.out _).mono ?_; rintro e w7 ⟨rfl, hb7⟩; have R7 : Hid (∃ lv', RIn w7 rb base (bs ++ [(c, j)]) lv') := ⟨_, FIN.out.1.below hb7⟩; have K7 : Hid (Kp (Rs rb (.slice AL bs.length CL)) W w7) := FIN.out.2.1.trans (Kp.of_below hb7); clear hb7)
          go_ret2
          exact ⟨rfl, R7.out, KW.out.trans K7.out⟩
        · go_simp
          (go_at_call 23; refine (PL.out _).mono ?_; rintro e w2 ⟨rfl, hb2⟩; have OO : Hid (RIn w2 rb base bs (.slice AL bs.length CL)) := ((RW.out.below (below_drew _)).below hb2); have PW : Hid (Below W.heap.size W w2) := below_next (below_drew _) hb2; have y0 := OO.out.1.cell 0; have y3 := OO.out.1.lt; clear hb2)
          go_wp2_with fail
          (try simp only [Act.put, List.getElem_toArray, List.getElem_cons_succ, List.getElem_cons_zero, List.setIfInBounds_toArray, List.set_cons_zero, List.set_cons_succ])
          refine wpAny_take (i := 10) (v := .agg #[.int .i64 (adr c j), .int .i64 (c : Int), .int .i64 (sz c : Int)]) rfl (by kernel_rfl) (by kernel_rfl) (by kernel_rfl) (fun _ _ _ h => h) (Or.inl ⟨by rfl, ?_⟩) ?_
          · intro w'; go_simp
          (try simp only [Act.put, List.getElem_toArray, List.getElem_cons_succ, List.getElem_cons_zero, List.setIfInBounds_toArray, List.set_cons_zero, List.set_cons_succ])
          refine wpAny_ready (rs := [4, 11]) (by kernel_rfl) (by simp) ?_
          refine AllReady.cons rfl (fun K hK => ?_) (AllReady.cons rfl (fun K hK => ?_) AllReady.nil)
          · go_simp
            refine hK _ _ ?_; clear hK K
            (try simp only [Act.put, List.getElem_toArray, List.getElem_cons_succ, List.getElem_cons_zero, List.setIfInBounds_toArray, List.set_cons_zero, List.set_cons_succ])
            refine wpAny_ready (rs := [11]) (by kernel_rfl) (by simp) ?_
            refine AllReady.cons rfl (fun K hK => ?_) AllReady.nil
            go_simp
            refine hK _ _ ?_; clear hK K
            (try simp only [Act.put, List.getElem_toArray, List.getElem_cons_succ, List.getElem_cons_zero, List.setIfInBounds_toArray, List.set_cons_zero, List.set_cons_succ])
            refine wpAny_ready (rs := [12]) (by kernel_rfl) (by simp) ?_
            refine AllReady.cons rfl (fun K hK => ?_) AllReady.nil
            rw [if_pos (by rfl)]
            refine OwnB.appendK 26 59 bL _ 3 24 info59 Tryd.underlying26 rfl (by decide) (by decide) bL_len bL_one _ _ _ rfl (.slice AL bs.length CL) rfl base bs [(c, j)] (OO.out.2.below (below_alloc _ _)) ⟨_, 0, none⟩ 1 rfl (fun i u hi => cells_new _ (bL (c, j)) 59 i u hi) HC.out ?_
            intro v5 w5 h5 k5 m5
            obtain ⟨A5, C5, rfl, _⟩ := h5.done bL_len
            have FIN : Hid (RIn (w5.setCell ⟨rb, 0, none⟩ (.slice A5 (bs ++ [(c, j)]).length C5)) rb base (bs ++ [(c, j)]) (.slice A5 (bs ++ [(c, j)]).length C5) ∧ Kp (Rs rb (.slice AL bs.length CL)) W (w5.setCell ⟨rb, 0, none⟩ (.slice A5 (bs ++ [(c, j)]).length C5)) ∧ At w5 rb #[.slice AL bs.length CL] 28) := ral_fin W w2 w5 hrb OO.out PW.out h5 k5 m5
            have z1 := FIN.out.2.2.cell 0
            have z2 := FIN.out.2.2.frozen 0
            have z3 := FIN.out.2.2.lt
            clear h5 k5 m5
            generalize (bs ++ [(c, j)]).length = LN at FIN ⊢
            refine hK _ _ ?_; clear hK K
            (try simp only [Act.put, List.getElem_toArray, List.getElem_cons_succ, List.getElem_cons_zero, List.setIfInBounds_toArray, List.set_cons_zero, List.set_cons_succ])
            refine wpAny_take (i := 13) (v := .pointer (some ⟨rb, 0, none⟩)) rfl (by kernel_rfl) (by kernel_rfl) (by kernel_rfl) (fun _ _ _ h => h) (Or.inl ⟨by rfl, ?_⟩) ?_
            · intro w'; go_simp
            (try simp only [Act.put, List.getElem_toArray, List.getElem_cons_succ, List.getElem_cons_zero, List.setIfInBounds_toArray, List.set_cons_zero, List.set_cons_succ])
            refine wpAny_take (i := 14) (v := .pointer (some ⟨rb, 0, none⟩)) rfl (by kernel_rfl) (by kernel_rfl) (by kernel_rfl) (fun _ _ _ h => h) (Or.inl ⟨by rfl, ?_⟩) ?_
            · intro w'; go_simp
            (try simp only [Act.put, List.getElem_toArray, List.getElem_cons_succ, List.getElem_cons_zero, List.setIfInBounds_toArray, List.set_cons_zero, List.set_cons_succ])
            refine wpAny_ready (rs := [15]) (by kernel_rfl) (by simp) ?_
            refine AllReady.cons rfl (fun K hK => ?_) AllReady.nil
            go_simp
            refine hK _ _ ?_; clear hK K
            (try simp only [Act.put, List.getElem_toArray, List.getElem_cons_succ, List.getElem_cons_zero, List.setIfInBounds_toArray, List.set_cons_zero, List.set_cons_succ])
            refine wpAny_done (by kernel_rfl) ?_ _
            generalize w5.setCell ⟨rb, 0, none⟩ (.slice A5 LN C5) = w6 at *
            go_wp2_with (go_at_call 23; refine (PL.out _).mono ?_; rintro e w7 ⟨rfl, hb7⟩; have R7 : Hid (∃ lv', RIn w7 rb base (bs ++ [(c, j)]) lv') := ⟨_, FIN.out.1.below hb7⟩; have K7 : Hid (Kp (Rs rb (.slice AL bs.length CL)) W w7) := FIN.out.2.1.trans (Kp.of_below hb7); clear hb7)
            go_ret2
            exact ⟨rfl, R7.out, KW.out.trans K7.out⟩
          · go_simp
            refine hK _ _ ?_; clear hK K
            (try simp only [Act.put, List.getElem_toArray, List.getElem_cons_succ, List.getElem_cons_zero, List.setIfInBounds_toArray, List.set_cons_zero, List.set_cons_succ])
            refine wpAny_ready (rs := [4]) (by kernel_rfl) (by simp) ?_
            refine AllReady.cons rfl (fun K hK => ?_) AllReady.nil
            go_simp
            refine hK _ _ ?_; clear hK K
            (try simp only [Act.put, List.getElem_toArray, List.getElem_cons_succ, List.getElem_cons_zero, List.setIfInBounds_toArray, List.set_cons_zero, List.set_cons_succ])
            refine wpAny_ready (rs := [12]) (by kernel_rfl) (by simp) ?_
            refine AllReady.cons rfl (fun K hK => ?_) AllReady.nil
            rw [if_pos (by rfl)]
            refine OwnB.appendK 26 59 bL _ 3 24 info59 Tryd.underlying26 rfl (by decide) (by decide) bL_len bL_one _ _ _ rfl (.slice AL bs.length CL) rfl base bs [(c, j)] (OO.out.2.below (below_alloc _ _)) ⟨_, 0, none⟩ 1 rfl (fun i u hi => cells_new _ (bL (c, j)) 59 i u hi) HC.out ?_
            intro v5 w5 h5 k5 m5
            obtain ⟨A5, C5, rfl, _⟩ := h5.done bL_len
            have FIN : Hid (RIn (w5.setCell ⟨rb, 0, none⟩ (.slice A5 (bs ++ [(c, j)]).length C5)) rb base (bs ++ [(c, j)]) (.slice A5 (bs ++ [(c, j)]).length C5) ∧ Kp (Rs rb (.slice AL bs.length CL)) W (w5.setCell ⟨rb, 0, none⟩ (.slice A5 (bs ++ [(c, j)]).length C5)) ∧ At w5 rb #[.slice AL bs.length CL] 28) := ral_fin W w2 w5 hrb OO.out PW.out h5 k5 m5
            have z1 := FIN.out.2.2.cell 0
            have z2 := FIN.out.2.2.frozen 0
            have z3 := FIN.out.2.2.lt
            clear h5 k5 m5
            generalize (bs ++ [(c, j)]).length = LN at FIN ⊢
            refine hK _ _ ?_; clear hK K
            (try simp only [Act.put, List.getElem_toArray, List.getElem_cons_succ, List.getElem_cons_zero, List.setIfInBounds_toArray, List.set_cons_zero, List.set_cons_succ])
            refine wpAny_take (i := 13) (v := .pointer (some ⟨rb, 0, none⟩)) rfl (by kernel_rfl) (by kernel_rfl) (by kernel_rfl) (fun _ _ _ h => h) (Or.inl ⟨by rfl, ?_⟩) ?_
            · intro w'; go_simp
            (try simp only [Act.put, List.getElem_toArray, List.getElem_cons_succ, List.getElem_cons_zero, List.setIfInBounds_toArray, List.set_cons_zero, List.set_cons_succ])
            refine wpAny_take (i := 14) (v := .pointer (some ⟨rb, 0, none⟩)) rfl (by kernel_rfl) (by kernel_rfl) (by kernel_rfl) (fun _ _ _ h => h) (Or.inl ⟨by rfl, ?_⟩) ?_
            · intro w'; go_simp
            (try simp only [Act.put, List.getElem_toArray, List.getElem_cons_succ, List.getElem_cons_zero, List.setIfInBounds_toArray, List.set_cons_zero, List.set_cons_succ])
            refine wpAny_ready (rs := [15]) (by kernel_rfl) (by simp) ?_
            refine AllReady.cons rfl (fun K hK => ?_) AllReady.nil
            go_simp
            refine hK _ _ ?_; clear hK K
            (try simp only [Act.put, List.getElem_toArray, List.getElem_cons_succ, List.getElem_cons_zero, List.setIfInBounds_toArray, List.set_cons_zero, List.set_cons_succ])
            refine wpAny_done (by kernel_rfl) ?_ _
            generalize w5.setCell ⟨rb, 0, none⟩ (.slice A5 LN C5) = w6 at *
            go_wp2_with (go_at_call 23; refine (PL.out _).mono ?_; rintro e w7 ⟨rfl, hb7⟩; have R7 : Hid (∃ lv', RIn w7 rb base (bs ++ [(c, j)]) lv') := ⟨_, FIN.out.1.below hb7⟩; have K7 : Hid (Kp (Rs rb (.slice AL bs.length CL)) W w7) := FIN.out.2.1.trans (Kp.of_below hb7); clear hb7)
            go_ret2
            exact ⟨rfl, R7.out, KW.out.trans K7.out⟩
    · obtain rfl : j = bl c := by omega
      have hjz : ¬ (bl c : Int) < (bl c : Int) := by omega
      have h1 := HR.out
      rw [Nat.sub_self] at h1
      have h3 : R = none := h1.symm
      subst h3
      go_wp2
      go_ret2
      exact ⟨rfl, ⟨lv, RI.out⟩, Kp.of_below NN.out⟩
end Go.Proofs.YtffcfohbnbldhaaDoor
