/-
  Proved: what the checker's blocks answers.
-/
import Derived.Test.YtapgaclonilnbaaDoorCinstr
import Derived.Test.YtapgaclonilnbaaDoorCterm
namespace Go.Proofs.YtapgaclonilnbaaDoor
open Go.RowKit
set_option linter.unusedVariables false
set_option linter.unusedSimpArgs false

theorem all_step {α : Type} (p : α → Bool) (l : List α) (k : Nat) (h : k < l.length) : (l.take (k + 1)).all p = ((l.take k).all p && p l[k]) := by
  rw [List.take_succ_eq_append_getElem h, List.all_append]
  simp
theorem all_false {α : Type} {p : α → Bool} {l : List α} {k : Nat} (h : k < l.length) (hf : p l[k] = false) : l.all p = false := by
  rw [List.all_eq_false]
  exact ⟨l[k], List.getElem_mem h, by simpa using hf⟩
theorem RowAt.tail {w : World} {b o : Nat} {c : Value} {cs : List Value} (h : RowAt w b o (c :: cs)) : RowAt w b (o + 1) cs :=
  ⟨h.1, fun j v hj => by have := h.2 (j + 1) v (by simpa using hj); rwa [show o + (j + 1) = o + 1 + j by omega] at this⟩

set_option maxRecDepth 20000 in
set_option maxHeartbeats 2000000 in
theorem blocks_c (l : List Lf) (LA : Option Addr) (LC mb n fb fo : Nat) (f : Lf) (pv bv : Value) (w : World) (hl : LfsIn w l (.slice LA l.length LC)) (hm : MapS w mb n (byN l)) (hx : RowAt w fb fo (lfC f pv bv)) (hp : NosIn w f.pa pv) (hb : LbsIn w f.bs bv) :
    Calls Tryd.prog 14 #[.agg #[.slice LA l.length LC, .map (some mb), .pointer (some ⟨fb, fo, none⟩)]] w fun e w' => e = .returned (.bool (blocksB l f)) ∧ Below w.heap.size w w' := by
  obtain ⟨_, PA, PC, rfl, _⟩ := hp.cells
  obtain ⟨hb0, BA, BC, rfl, hbs⟩ := hb
  have B0 : Hid (Below w.heap.size w (w.alloc (.cells #[.slice LA l.length LC, .map (some mb), .pointer (some ⟨fb, fo, none⟩)] 62))) := below_alloc _ _
  have HS : Hid (∀ w', Below (w.alloc (.cells #[.slice LA l.length LC, .map (some mb), .pointer (some ⟨fb, fo, none⟩)] 62)).heap.size (w.alloc (.cells #[.slice LA l.length LC, .map (some mb), .pointer (some ⟨fb, fo, none⟩)] 62)) w' → w'.cell? ⟨w.heap.size, 0, none⟩ = some (.slice LA l.length LC) ∧ w'.cell? ⟨w.heap.size, 1, none⟩ = some (.map (some mb)) ∧ w'.cell? ⟨w.heap.size, 2, none⟩ = some (.pointer (some ⟨fb, fo, none⟩)) ∧ w'.cell? ⟨fb, fo + 2, none⟩ = some (.slice PA f.pa.length PC) ∧ w'.cell? ⟨fb, fo + 6, none⟩ = some (.slice BA f.bs.length BC)) := fun w' hb => by
    have hb2 := below_next B0.out hb
    have hA := (At.new w #[.slice LA l.length LC, .map (some mb), .pointer (some ⟨fb, fo, none⟩)] 62).below hb (by simp)
    exact ⟨hA.cell 0, hA.cell 1, hA.cell 2, kp_cell (hx.at 2 rfl) hb2, kp_cell (hx.at 6 rfl) hb2⟩
  have HL : Hid (LfsIn w l (.slice LA l.length LC)) := hl
  have HM : Hid (MapS w mb n (byN l)) := hm
  have HP : Hid (NosIn w f.pa (.slice PA f.pa.length PC)) := hp
  have HR : Hid (w.cell? ⟨fb, fo + 1, none⟩ = some (.int .i64 f.rg)) := hx.at 1 rfl
  have HN : Hid (w.cell? ⟨fb, fo + 3, none⟩ = some (.int .i64 f.an)) := hx.at 3 rfl
  have HB : Hid (w.cell? ⟨fb, fo + 6, none⟩ = some (.slice BA f.bs.length BC)) := hx.at 6 rfl
  have HE : Hid (∀ i (h : i < f.bs.length), ∃ b o cs, BA = some ⟨b, o, none⟩ ∧ RowAt w b (o + i * 8) cs ∧ LbIn w (f.bs[i]'h) cs) := hbs
  have AS : Hid (∀ k (h : k < f.bs.length), (f.bs.take (k + 1)).all (blockB l f.rg f.an f.bs.length) = ((f.bs.take k).all (blockB l f.rg f.an f.bs.length) && blockB l f.rg f.an f.bs.length f.bs[k])) := fun k h => all_step _ _ k h
  clear hl hm hx hp hbs
  cases hq : setsB f.rg f.pa with
  | false =>
    have EE : Hid (blocksB l f = false) := (by unfold blocksB; rw [hq, Bool.false_and] : blocksB l f = false)
    have HQ : Hid (setsB f.rg f.pa = false) := hq
    clear hq
    go_enter Tryd.func14, Tryd.ntmps14
    go_wp2
    generalize w.alloc (.cells #[.slice LA l.length LC, .map (some mb), .pointer (some ⟨fb, fo, none⟩)] 62) = w1 at *
    refine wp_region_N (fun w' => w'.cell? ⟨w.heap.size, 0, none⟩ = some (.slice LA l.length LC) ∧ w'.cell? ⟨w.heap.size, 1, none⟩ = some (.map (some mb)) ∧ w'.cell? ⟨w.heap.size, 2, none⟩ = some (.pointer (some ⟨fb, fo, none⟩)) ∧ w'.cell? ⟨fb, fo + 2, none⟩ = some (.slice PA f.pa.length PC) ∧ w'.cell? ⟨fb, fo + 6, none⟩ = some (.slice BA f.bs.length BC)) (fun _ => true) mixed (HS.out _ (below_next (Below.refl _ _) (below_drew _))) ?_
    intro S0
    have BL : Below w1.heap.size w1 w1.drew := below_next (Below.refl _ _) (below_drew _)
    generalize w1.drew = wd at *
    refine wpAnyN_take (i := 0) (v := ?_) rfl (by kernel_rfl) (by kernel_rfl) (by kernel_rfl) (by kernel_rfl) (fun _ _ _ h => h) (Or.inl ⟨by rfl, ?_⟩) S0 ?_
    rotate_left
    · intro w' hS'
      obtain ⟨h0, h1, h2, h3, h4⟩ := hS'
      (try go_simp)
      first | done | exact rfl | exact ⟨rfl, rfl⟩
    (try simp only [Act.put, List.getElem_toArray, List.getElem_cons_zero, List.setIfInBounds_toArray, List.set_cons_zero, List.set_cons_succ])
    refine wpAnyN_take (i := 1) (v := ?_) rfl (by kernel_rfl) (by kernel_rfl) (by kernel_rfl) (by kernel_rfl) (fun _ _ _ h => h) (Or.inl ⟨by rfl, ?_⟩) S0 ?_
    rotate_left
    · intro w' hS'
      obtain ⟨h0, h1, h2, h3, h4⟩ := hS'
      (try go_simp)
      first | done | exact rfl | exact ⟨rfl, rfl⟩
    (try simp only [Act.put, List.getElem_toArray, List.getElem_cons_succ, List.getElem_cons_zero, List.setIfInBounds_toArray, List.set_cons_zero, List.set_cons_succ])
    refine wpAnyN_take (i := 2) (v := ?_) rfl (by kernel_rfl) (by kernel_rfl) (by kernel_rfl) (by kernel_rfl) (fun _ _ _ h => h) (Or.inl ⟨by rfl, ?_⟩) S0 ?_
    rotate_left
    · intro w' hS'
      obtain ⟨h0, h1, h2, h3, h4⟩ := hS'
      (try go_simp)
      first | done | exact rfl | exact ⟨rfl, rfl⟩
    (try simp only [Act.put, List.getElem_toArray, List.getElem_cons_succ, List.getElem_cons_zero, List.setIfInBounds_toArray, List.set_cons_zero, List.set_cons_succ])
    refine wpAnyN_take (i := 3) (v := ?_) rfl (by kernel_rfl) (by kernel_rfl) (by kernel_rfl) (by kernel_rfl) (fun _ _ _ h => h) (Or.inl ⟨by rfl, ?_⟩) S0 ?_
    rotate_left
    · intro w' hS'
      obtain ⟨h0, h1, h2, h3, h4⟩ := hS'
      (try go_simp)
      first | done | exact rfl | exact ⟨rfl, rfl⟩
    (try simp only [Act.put, List.getElem_toArray, List.getElem_cons_succ, List.getElem_cons_zero, List.setIfInBounds_toArray, List.set_cons_zero, List.set_cons_succ])
    refine wpAnyN_take (i := 4) (v := ?_) rfl (by kernel_rfl) (by kernel_rfl) (by kernel_rfl) (by kernel_rfl) (fun _ _ _ h => h) (Or.inl ⟨by rfl, ?_⟩) S0 ?_
    rotate_left
    · intro w' hS'
      obtain ⟨h0, h1, h2, h3, h4⟩ := hS'
      (try go_simp)
      first | done | exact rfl | exact ⟨rfl, rfl⟩
    (try simp only [Act.put, List.getElem_toArray, List.getElem_cons_succ, List.getElem_cons_zero, List.setIfInBounds_toArray, List.set_cons_zero, List.set_cons_succ])
    refine wpAnyN_take (i := 5) (v := ?_) rfl (by kernel_rfl) (by kernel_rfl) (by kernel_rfl) (by kernel_rfl) (fun _ _ _ h => h) (Or.inl ⟨by rfl, ?_⟩) S0 ?_
    rotate_left
    · intro w' hS'
      obtain ⟨h0, h1, h2, h3, h4⟩ := hS'
      (try go_simp)
      first | done | exact rfl | exact ⟨rfl, rfl⟩
    (try simp only [Act.put, List.getElem_toArray, List.getElem_cons_succ, List.getElem_cons_zero, List.setIfInBounds_toArray, List.set_cons_zero, List.set_cons_succ])
    refine wpAnyN_one (i := 6) (by kernel_rfl) rfl (fun K hK => ?_)
    go_simp
    (go_at_call 21; refine Calls.mono (sets_c _ _ fb fo f.rg f.pa _ _ (kp_cell HR.out (below_next B0.out BL)) (HP.out.below (below_next B0.out BL))) ?_; rintro e w106 ⟨rfl, hb6⟩)
    rw [HQ.out]
    have BL := below_next BL hb6
    have S7 := HS.out _ BL
    clear hb6
    go_wp2_with fail
    refine hK _ _ (fun _ => S7) ?_
    clear hK K
    (try simp only [Act.put, List.getElem_toArray, List.getElem_cons_succ, List.getElem_cons_zero, List.setIfInBounds_toArray, List.set_cons_zero, List.set_cons_succ])
    refine wpAnyN_take (i := 7) (v := ?_) rfl (by kernel_rfl) (by kernel_rfl) (by kernel_rfl) (by kernel_rfl) (fun _ _ _ h => h) (Or.inl ⟨by rfl, ?_⟩) S7 ?_
    rotate_left
    · intro w' hS'
      obtain ⟨h0, h1, h2, h3, h4⟩ := hS'
      (try go_simp)
      first | done | exact rfl | exact ⟨rfl, rfl⟩
    (try simp only [Act.put, List.getElem_toArray, List.getElem_cons_succ, List.getElem_cons_zero, List.setIfInBounds_toArray, List.set_cons_zero, List.set_cons_succ])
    refine wpAnyN_done (by kernel_rfl) ?_ _
    have BE : Hid (Below w.heap.size w w106) := below_next B0.out BL
    clear BL S0 S7
    go_wp2
    go_ret
    exact ⟨by rw [EE.out]; rfl, BE.out⟩
  | true =>
    have EQ : Hid (blocksB l f = f.bs.all (blockB l f.rg f.an f.bs.length)) := (by unfold blocksB; rw [hq, Bool.true_and] : blocksB l f = f.bs.all (blockB l f.rg f.an f.bs.length))
    have HQ : Hid (setsB f.rg f.pa = true) := hq
    clear hq
    go_enter Tryd.func14, Tryd.ntmps14
    go_wp2
    generalize w.alloc (.cells #[.slice LA l.length LC, .map (some mb), .pointer (some ⟨fb, fo, none⟩)] 62) = w1 at *
    refine wp_region_N (fun w' => w'.cell? ⟨w.heap.size, 0, none⟩ = some (.slice LA l.length LC) ∧ w'.cell? ⟨w.heap.size, 1, none⟩ = some (.map (some mb)) ∧ w'.cell? ⟨w.heap.size, 2, none⟩ = some (.pointer (some ⟨fb, fo, none⟩)) ∧ w'.cell? ⟨fb, fo + 2, none⟩ = some (.slice PA f.pa.length PC) ∧ w'.cell? ⟨fb, fo + 6, none⟩ = some (.slice BA f.bs.length BC)) (fun _ => true) mixed (HS.out _ (below_next (Below.refl _ _) (below_drew _))) ?_
    intro S0
    have BL : Below w1.heap.size w1 w1.drew := below_next (Below.refl _ _) (below_drew _)
    generalize w1.drew = wd at *
    refine wpAnyN_take (i := 0) (v := ?_) rfl (by kernel_rfl) (by kernel_rfl) (by kernel_rfl) (by kernel_rfl) (fun _ _ _ h => h) (Or.inl ⟨by rfl, ?_⟩) S0 ?_
    rotate_left
    · intro w' hS'
      obtain ⟨h0, h1, h2, h3, h4⟩ := hS'
      (try go_simp)
      first | done | exact rfl | exact ⟨rfl, rfl⟩
    (try simp only [Act.put, List.getElem_toArray, List.getElem_cons_zero, List.setIfInBounds_toArray, List.set_cons_zero, List.set_cons_succ])
    refine wpAnyN_take (i := 1) (v := ?_) rfl (by kernel_rfl) (by kernel_rfl) (by kernel_rfl) (by kernel_rfl) (fun _ _ _ h => h) (Or.inl ⟨by rfl, ?_⟩) S0 ?_
    rotate_left
    · intro w' hS'
      obtain ⟨h0, h1, h2, h3, h4⟩ := hS'
      (try go_simp)
      first | done | exact rfl | exact ⟨rfl, rfl⟩
    (try simp only [Act.put, List.getElem_toArray, List.getElem_cons_succ, List.getElem_cons_zero, List.setIfInBounds_toArray, List.set_cons_zero, List.set_cons_succ])
    refine wpAnyN_take (i := 2) (v := ?_) rfl (by kernel_rfl) (by kernel_rfl) (by kernel_rfl) (by kernel_rfl) (fun _ _ _ h => h) (Or.inl ⟨by rfl, ?_⟩) S0 ?_
    rotate_left
    · intro w' hS'
      obtain ⟨h0, h1, h2, h3, h4⟩ := hS'
      (try go_simp)
      first | done | exact rfl | exact ⟨rfl, rfl⟩
    (try simp only [Act.put, List.getElem_toArray, List.getElem_cons_succ, List.getElem_cons_zero, List.setIfInBounds_toArray, List.set_cons_zero, List.set_cons_succ])
    refine wpAnyN_take (i := 3) (v := ?_) rfl (by kernel_rfl) (by kernel_rfl) (by kernel_rfl) (by kernel_rfl) (fun _ _ _ h => h) (Or.inl ⟨by rfl, ?_⟩) S0 ?_
    rotate_left
    · intro w' hS'
      obtain ⟨h0, h1, h2, h3, h4⟩ := hS'
      (try go_simp)
      first | done | exact rfl | exact ⟨rfl, rfl⟩
    (try simp only [Act.put, List.getElem_toArray, List.getElem_cons_succ, List.getElem_cons_zero, List.setIfInBounds_toArray, List.set_cons_zero, List.set_cons_succ])
    refine wpAnyN_take (i := 4) (v := ?_) rfl (by kernel_rfl) (by kernel_rfl) (by kernel_rfl) (by kernel_rfl) (fun _ _ _ h => h) (Or.inl ⟨by rfl, ?_⟩) S0 ?_
    rotate_left
    · intro w' hS'
      obtain ⟨h0, h1, h2, h3, h4⟩ := hS'
      (try go_simp)
      first | done | exact rfl | exact ⟨rfl, rfl⟩
    (try simp only [Act.put, List.getElem_toArray, List.getElem_cons_succ, List.getElem_cons_zero, List.setIfInBounds_toArray, List.set_cons_zero, List.set_cons_succ])
    refine wpAnyN_take (i := 5) (v := ?_) rfl (by kernel_rfl) (by kernel_rfl) (by kernel_rfl) (by kernel_rfl) (fun _ _ _ h => h) (Or.inl ⟨by rfl, ?_⟩) S0 ?_
    rotate_left
    · intro w' hS'
      obtain ⟨h0, h1, h2, h3, h4⟩ := hS'
      (try go_simp)
      first | done | exact rfl | exact ⟨rfl, rfl⟩
    (try simp only [Act.put, List.getElem_toArray, List.getElem_cons_succ, List.getElem_cons_zero, List.setIfInBounds_toArray, List.set_cons_zero, List.set_cons_succ])
    refine wpAnyN_one (i := 6) (by kernel_rfl) rfl (fun K hK => ?_)
    go_simp
    (go_at_call 21; refine Calls.mono (sets_c _ _ fb fo f.rg f.pa _ _ (kp_cell HR.out (below_next B0.out BL)) (HP.out.below (below_next B0.out BL))) ?_; rintro e w106 ⟨rfl, hb6⟩)
    rw [HQ.out]
    have BL := below_next BL hb6
    have S7 := HS.out _ BL
    clear hb6
    go_wp2_with fail
    refine hK _ _ (fun _ => S7) ?_
    clear hK K
    (try simp only [Act.put, List.getElem_toArray, List.getElem_cons_succ, List.getElem_cons_zero, List.setIfInBounds_toArray, List.set_cons_zero, List.set_cons_succ])
    refine wpAnyN_take (i := 7) (v := ?_) rfl (by kernel_rfl) (by kernel_rfl) (by kernel_rfl) (by kernel_rfl) (fun _ _ _ h => h) (Or.inl ⟨by rfl, ?_⟩) S7 ?_
    rotate_left
    · intro w' hS'
      obtain ⟨h0, h1, h2, h3, h4⟩ := hS'
      (try go_simp)
      first | done | exact rfl | exact ⟨rfl, rfl⟩
    (try simp only [Act.put, List.getElem_toArray, List.getElem_cons_succ, List.getElem_cons_zero, List.setIfInBounds_toArray, List.set_cons_zero, List.set_cons_succ])
    refine wpAnyN_done (by kernel_rfl) ?_ _
    have BE : Hid (Below w1.heap.size w1 w106) := BL
    obtain ⟨d0, d1, d2, d3, d4⟩ := S7
    clear BL S0
    go_wp2
    clear d0 d1 d2 d3 d4
    go_loopw [20] (fun i wr => ∃ k : Nat, k ≤ f.bs.length ∧ i = .int .i64 (k : Int) ∧ (f.bs.take k).all (blockB l f.rg f.an f.bs.length) = true ∧ Below w1.heap.size w1 wr) (fun i _ => f.bs.length - (intOf i).toNat)
    case atStart => exact ⟨0, by omega, rfl, rfl, BE.out⟩
    case round =>
      obtain ⟨k, hk, rfl, hs, hB⟩ := hrel
      have BB : Hid (Below w1.heap.size w1 wr) := hB
      have KS : Hid ((f.bs.take k).all (blockB l f.rg f.an f.bs.length) = true) := hs
      obtain ⟨d0, d1, d2, d3, d4⟩ := HS.out _ hB
      clear hs hB BE
      rcases Nat.lt_or_ge k f.bs.length with hk' | hk'
      · have hkz : (k : Int) < f.bs.length := by omega
        obtain ⟨bb, bo, cs, rfl, hrow, lv2, av2, rfl, hli, hav⟩ := HE.out k hk'
        have AS' := AS.out k hk'
        have AF : Hid (blockB l f.rg f.an f.bs.length f.bs[k] = false → blocksB l f = false) := fun h => by rw [EQ.out]; exact all_false hk' h
        generalize f.bs[k] = b at *
        have AT : Hid ((f.bs.take (k + 1)).all (blockB l f.rg f.an f.bs.length) = ((f.bs.take k).all (blockB l f.rg f.an f.bs.length) && blockB l f.rg f.an f.bs.length b)) := AS'
        obtain ⟨hl1, IA, IC, rfl, hel⟩ := hli
        have HI : Hid (∀ i (h : i < b.li.length), ∃ b' o cs, IA = some ⟨b', o, none⟩ ∧ RowAt w b' (o + i * 8) cs ∧ LoIn w (b.li[i]'h) cs) := hel
        have HW : Hid (RowAt w bb (bo + k * 8 + 1) (leC b.tm av2)) := hrow.tail
        have HV : Hid (NosIn w b.tm.args av2) := hav
        have HC : Hid (∀ w', Below w1.heap.size w1 w' → w'.cell? ⟨bb, bo + k * 8, none⟩ = some (.slice IA b.li.length IC)) := fun w' hb => kp_cell (hrow.at 0 rfl) (below_next B0.out hb)
        have c0 := HC.out _ BB.out
        have IS : Hid (∀ j (h : j < b.li.length), (b.li.take (j + 1)).all (instrB l f.rg) = ((b.li.take j).all (instrB l f.rg) && instrB l f.rg b.li[j])) := fun j h => all_step _ _ j h
        clear hrow hav hel AS'
        go_wp2
        clear d0 d1 d2 d3 d4 c0
        go_loopw [35] (fun i wi => ∃ j : Nat, j ≤ b.li.length ∧ i = .int .i64 (j : Int) ∧ (b.li.take j).all (instrB l f.rg) = true ∧ Below w1.heap.size w1 wi) (fun i _ => b.li.length - (intOf i).toNat)
        case atStart => exact ⟨0, by omega, rfl, rfl, BB.out⟩
        case round =>
          obtain ⟨j, hj, rfl, hs, hB⟩ := hrel
          rename World => wi
          have BI : Hid (Below w1.heap.size w1 wi) := hB
          have JS : Hid ((b.li.take j).all (instrB l f.rg) = true) := hs
          clear hs hB
          rcases Nat.lt_or_ge j b.li.length with hj' | hj'
          · have hjz : (j : Int) < b.li.length := by omega
            obtain ⟨ib, io, cs2, rfl, hrow2, av3, dv3, rfl, ht3, ha3, hd3⟩ := HI.out j hj'
            have JT : Hid ((b.li.take (j + 1)).all (instrB l f.rg) = ((b.li.take j).all (instrB l f.rg) && instrB l f.rg b.li[j])) := IS.out j hj'
            have JF : Hid (instrB l f.rg b.li[j] = false → blocksB l f = false) := fun h => AF.out (by unfold blockB; rw [all_false hj' h, Bool.false_and])
            generalize b.li[j] = x at *
            have XR : Hid (RowAt w ib (io + j * 8) (loC x av3 dv3)) := hrow2
            have XA : Hid (NosIn w x.args av3) := ha3
            have XD : Hid (NosIn w x.dsts dv3) := hd3
            have XT : Hid (x.tx.size ≤ maxLen) := ht3
            clear hrow2 ha3 hd3 ht3
            cases hq : instrB l f.rg x with
            | true =>
              have HQ2 : Hid (instrB l f.rg x = true) := hq
              clear hq
              go_wp2
              refine wp_region_N (fun w' => w'.cell? ⟨w.heap.size, 0, none⟩ = some (.slice LA l.length LC) ∧ w'.cell? ⟨w.heap.size, 1, none⟩ = some (.map (some mb)) ∧ w'.cell? ⟨w.heap.size, 2, none⟩ = some (.pointer (some ⟨fb, fo, none⟩)) ∧ w'.cell? ⟨bb, bo + k * 8, none⟩ = some (.slice (some ⟨ib, io, none⟩) b.li.length IC)) (fun _ => true) mixed (have a := HS.out _ (below_next BI.out (below_drew _)); And.intro a.1 (And.intro a.2.1 (And.intro a.2.2.1 (HC.out _ (below_next BI.out (below_drew _)))))) ?_
              intro S0
              have BL : Below w1.heap.size w1 wi.drew := below_next BI.out (below_drew _)
              generalize wi.drew = wd at *
              refine wpAnyN_take (i := 0) (v := ?_) rfl (by kernel_rfl) (by kernel_rfl) (by kernel_rfl) (by kernel_rfl) (fun _ _ _ h => h) (Or.inl ⟨by rfl, ?_⟩) S0 ?_
              rotate_left
              · intro w' hS'
                obtain ⟨h0, h1, h2, h3⟩ := hS'
                (try go_simp)
                first | done | exact rfl | exact ⟨rfl, rfl⟩
              (try simp only [Act.put, List.getElem_toArray, List.getElem_cons_zero, List.setIfInBounds_toArray, List.set_cons_zero, List.set_cons_succ])
              refine wpAnyN_take (i := 1) (v := ?_) rfl (by kernel_rfl) (by kernel_rfl) (by kernel_rfl) (by kernel_rfl) (fun _ _ _ h => h) (Or.inl ⟨by rfl, ?_⟩) S0 ?_
              rotate_left
              · intro w' hS'
                obtain ⟨h0, h1, h2, h3⟩ := hS'
                (try go_simp)
                first | done | exact rfl | exact ⟨rfl, rfl⟩
              (try simp only [Act.put, List.getElem_toArray, List.getElem_cons_succ, List.getElem_cons_zero, List.setIfInBounds_toArray, List.set_cons_zero, List.set_cons_succ])
              refine wpAnyN_take (i := 2) (v := ?_) rfl (by kernel_rfl) (by kernel_rfl) (by kernel_rfl) (by kernel_rfl) (fun _ _ _ h => h) (Or.inl ⟨by rfl, ?_⟩) S0 ?_
              rotate_left
              · intro w' hS'
                obtain ⟨h0, h1, h2, h3⟩ := hS'
                (try go_simp)
                first | done | exact rfl | exact ⟨rfl, rfl⟩
              (try simp only [Act.put, List.getElem_toArray, List.getElem_cons_succ, List.getElem_cons_zero, List.setIfInBounds_toArray, List.set_cons_zero, List.set_cons_succ])
              refine wpAnyN_take (i := 3) (v := ?_) rfl (by kernel_rfl) (by kernel_rfl) (by kernel_rfl) (by kernel_rfl) (fun _ _ _ h => h) (Or.inl ⟨by rfl, ?_⟩) S0 ?_
              rotate_left
              · intro w' hS'
                obtain ⟨h0, h1, h2, h3⟩ := hS'
                (try go_simp)
                first | done | exact rfl | exact ⟨rfl, rfl⟩
              (try simp only [Act.put, List.getElem_toArray, List.getElem_cons_succ, List.getElem_cons_zero, List.setIfInBounds_toArray, List.set_cons_zero, List.set_cons_succ])
              refine wpAnyN_take (i := 4) (v := ?_) rfl (by kernel_rfl) (by kernel_rfl) (by kernel_rfl) (by kernel_rfl) (fun _ _ _ h => h) (Or.inl ⟨by rfl, ?_⟩) S0 ?_
              rotate_left
              · intro w' hS'
                obtain ⟨h0, h1, h2, h3⟩ := hS'
                (try go_simp)
                first | done | exact rfl | exact ⟨rfl, rfl⟩
              (try simp only [Act.put, List.getElem_toArray, List.getElem_cons_succ, List.getElem_cons_zero, List.setIfInBounds_toArray, List.set_cons_zero, List.set_cons_succ])
              refine wpAnyN_take (i := 5) (v := ?_) rfl (by kernel_rfl) (by kernel_rfl) (by kernel_rfl) (by kernel_rfl) (fun _ _ _ h => h) (Or.inl ⟨by rfl, ?_⟩) S0 ?_
              rotate_left
              · intro w' hS'
                obtain ⟨h0, h1, h2, h3⟩ := hS'
                (try go_simp)
                first | done | exact rfl | exact ⟨rfl, rfl⟩
              (try simp only [Act.put, List.getElem_toArray, List.getElem_cons_succ, List.getElem_cons_zero, List.setIfInBounds_toArray, List.set_cons_zero, List.set_cons_succ])
              refine wpAnyN_take (i := 6) (v := ?_) rfl (by kernel_rfl) (by kernel_rfl) (by kernel_rfl) (by kernel_rfl) (fun _ _ _ h => h) (Or.inl ⟨by rfl, ?_⟩) S0 ?_
              rotate_left
              · intro w' hS'
                obtain ⟨h0, h1, h2, h3⟩ := hS'
                (try go_simp)
                first | done | exact rfl | exact ⟨rfl, rfl⟩
              (try simp only [Act.put, List.getElem_toArray, List.getElem_cons_succ, List.getElem_cons_zero, List.setIfInBounds_toArray, List.set_cons_zero, List.set_cons_succ])
              refine wpAnyN_one (i := 7) (by kernel_rfl) rfl (fun K hK => ?_)
              go_simp
              (go_at_call 22; refine Calls.mono (instr_c l LA LC mb n fb fo ib (io + j * 8) f.rg x av3 dv3 _ (HL.out.below (below_next B0.out BL)) (HM.out.below (below_next B0.out BL)) (kp_cell HR.out (below_next B0.out BL)) (XR.out.below (below_next B0.out BL)) XT.out (XA.out.below (below_next B0.out BL)) (XD.out.below (below_next B0.out BL))) ?_; rintro e w107 ⟨rfl, hb7⟩)
              rw [HQ2.out]
              have BL := below_next BL hb7
              have S8 := (have a := HS.out _ (BL); And.intro a.1 (And.intro a.2.1 (And.intro a.2.2.1 (HC.out _ (BL)))))
              clear hb7
              go_wp2_with fail
              refine hK _ _ (fun _ => S8) ?_
              clear hK K
              (try simp only [Act.put, List.getElem_toArray, List.getElem_cons_succ, List.getElem_cons_zero, List.setIfInBounds_toArray, List.set_cons_zero, List.set_cons_succ])
              refine wpAnyN_take (i := 8) (v := ?_) rfl (by kernel_rfl) (by kernel_rfl) (by kernel_rfl) (by kernel_rfl) (fun _ _ _ h => h) (Or.inl ⟨by rfl, ?_⟩) S8 ?_
              rotate_left
              · intro w' hS'
                obtain ⟨h0, h1, h2, h3⟩ := hS'
                (try go_simp)
                first | done | exact rfl | exact ⟨rfl, rfl⟩
              (try simp only [Act.put, List.getElem_toArray, List.getElem_cons_succ, List.getElem_cons_zero, List.setIfInBounds_toArray, List.set_cons_zero, List.set_cons_succ])
              refine wpAnyN_done (by kernel_rfl) ?_ _
              have BE : Hid (Below w1.heap.size w1 w107) := BL
              clear BL S0 S8
              go_wp2
              go_roundw
              case rel => exact ⟨j + 1, by omega, by go_num, by rw [JT.out, JS.out, HQ2.out]; rfl, BE.out⟩
              case measure => simp [intOf]; omega
            | false =>
              have HQ2 : Hid (instrB l f.rg x = false) := hq
              have EE : Hid (blocksB l f = false) := JF.out hq
              clear hq
              go_wp2
              refine wp_region_N (fun w' => w'.cell? ⟨w.heap.size, 0, none⟩ = some (.slice LA l.length LC) ∧ w'.cell? ⟨w.heap.size, 1, none⟩ = some (.map (some mb)) ∧ w'.cell? ⟨w.heap.size, 2, none⟩ = some (.pointer (some ⟨fb, fo, none⟩)) ∧ w'.cell? ⟨bb, bo + k * 8, none⟩ = some (.slice (some ⟨ib, io, none⟩) b.li.length IC)) (fun _ => true) mixed (have a := HS.out _ (below_next BI.out (below_drew _)); And.intro a.1 (And.intro a.2.1 (And.intro a.2.2.1 (HC.out _ (below_next BI.out (below_drew _)))))) ?_
              intro S0
              have BL : Below w1.heap.size w1 wi.drew := below_next BI.out (below_drew _)
              generalize wi.drew = wd at *
              refine wpAnyN_take (i := 0) (v := ?_) rfl (by kernel_rfl) (by kernel_rfl) (by kernel_rfl) (by kernel_rfl) (fun _ _ _ h => h) (Or.inl ⟨by rfl, ?_⟩) S0 ?_
              rotate_left
              · intro w' hS'
                obtain ⟨h0, h1, h2, h3⟩ := hS'
                (try go_simp)
                first | done | exact rfl | exact ⟨rfl, rfl⟩
              (try simp only [Act.put, List.getElem_toArray, List.getElem_cons_zero, List.setIfInBounds_toArray, List.set_cons_zero, List.set_cons_succ])
              refine wpAnyN_take (i := 1) (v := ?_) rfl (by kernel_rfl) (by kernel_rfl) (by kernel_rfl) (by kernel_rfl) (fun _ _ _ h => h) (Or.inl ⟨by rfl, ?_⟩) S0 ?_
              rotate_left
              · intro w' hS'
                obtain ⟨h0, h1, h2, h3⟩ := hS'
                (try go_simp)
                first | done | exact rfl | exact ⟨rfl, rfl⟩
              (try simp only [Act.put, List.getElem_toArray, List.getElem_cons_succ, List.getElem_cons_zero, List.setIfInBounds_toArray, List.set_cons_zero, List.set_cons_succ])
              refine wpAnyN_take (i := 2) (v := ?_) rfl (by kernel_rfl) (by kernel_rfl) (by kernel_rfl) (by kernel_rfl) (fun _ _ _ h => h) (Or.inl ⟨by rfl, ?_⟩) S0 ?_
              rotate_left
              · intro w' hS'
                obtain ⟨h0, h1, h2, h3⟩ := hS'
                (try go_simp)
                first | done | exact rfl | exact ⟨rfl, rfl⟩
              (try simp only [Act.put, List.getElem_toArray, List.getElem_cons_succ, List.getElem_cons_zero, List.setIfInBounds_toArray, List.set_cons_zero, List.set_cons_succ])
              refine wpAnyN_take (i := 3) (v := ?_) rfl (by kernel_rfl) (by kernel_rfl) (by kernel_rfl) (by kernel_rfl) (fun _ _ _ h => h) (Or.inl ⟨by rfl, ?_⟩) S0 ?_
              rotate_left
              · intro w' hS'
                obtain ⟨h0, h1, h2, h3⟩ := hS'
                (try go_simp)
                first | done | exact rfl | exact ⟨rfl, rfl⟩
              (try simp only [Act.put, List.getElem_toArray, List.getElem_cons_succ, List.getElem_cons_zero, List.setIfInBounds_toArray, List.set_cons_zero, List.set_cons_succ])
              refine wpAnyN_take (i := 4) (v := ?_) rfl (by kernel_rfl) (by kernel_rfl) (by kernel_rfl) (by kernel_rfl) (fun _ _ _ h => h) (Or.inl ⟨by rfl, ?_⟩) S0 ?_
              rotate_left
              · intro w' hS'
                obtain ⟨h0, h1, h2, h3⟩ := hS'
                (try go_simp)
                first | done | exact rfl | exact ⟨rfl, rfl⟩
              (try simp only [Act.put, List.getElem_toArray, List.getElem_cons_succ, List.getElem_cons_zero, List.setIfInBounds_toArray, List.set_cons_zero, List.set_cons_succ])
              refine wpAnyN_take (i := 5) (v := ?_) rfl (by kernel_rfl) (by kernel_rfl) (by kernel_rfl) (by kernel_rfl) (fun _ _ _ h => h) (Or.inl ⟨by rfl, ?_⟩) S0 ?_
              rotate_left
              · intro w' hS'
                obtain ⟨h0, h1, h2, h3⟩ := hS'
                (try go_simp)
                first | done | exact rfl | exact ⟨rfl, rfl⟩
              (try simp only [Act.put, List.getElem_toArray, List.getElem_cons_succ, List.getElem_cons_zero, List.setIfInBounds_toArray, List.set_cons_zero, List.set_cons_succ])
              refine wpAnyN_take (i := 6) (v := ?_) rfl (by kernel_rfl) (by kernel_rfl) (by kernel_rfl) (by kernel_rfl) (fun _ _ _ h => h) (Or.inl ⟨by rfl, ?_⟩) S0 ?_
              rotate_left
              · intro w' hS'
                obtain ⟨h0, h1, h2, h3⟩ := hS'
                (try go_simp)
                first | done | exact rfl | exact ⟨rfl, rfl⟩
              (try simp only [Act.put, List.getElem_toArray, List.getElem_cons_succ, List.getElem_cons_zero, List.setIfInBounds_toArray, List.set_cons_zero, List.set_cons_succ])
              refine wpAnyN_one (i := 7) (by kernel_rfl) rfl (fun K hK => ?_)
              go_simp
              (go_at_call 22; refine Calls.mono (instr_c l LA LC mb n fb fo ib (io + j * 8) f.rg x av3 dv3 _ (HL.out.below (below_next B0.out BL)) (HM.out.below (below_next B0.out BL)) (kp_cell HR.out (below_next B0.out BL)) (XR.out.below (below_next B0.out BL)) XT.out (XA.out.below (below_next B0.out BL)) (XD.out.below (below_next B0.out BL))) ?_; rintro e w107 ⟨rfl, hb7⟩)
              rw [HQ2.out]
              have BL := below_next BL hb7
              have S8 := (have a := HS.out _ (BL); And.intro a.1 (And.intro a.2.1 (And.intro a.2.2.1 (HC.out _ (BL)))))
              clear hb7
              go_wp2_with fail
              refine hK _ _ (fun _ => S8) ?_
              clear hK K
              (try simp only [Act.put, List.getElem_toArray, List.getElem_cons_succ, List.getElem_cons_zero, List.setIfInBounds_toArray, List.set_cons_zero, List.set_cons_succ])
              refine wpAnyN_take (i := 8) (v := ?_) rfl (by kernel_rfl) (by kernel_rfl) (by kernel_rfl) (by kernel_rfl) (fun _ _ _ h => h) (Or.inl ⟨by rfl, ?_⟩) S8 ?_
              rotate_left
              · intro w' hS'
                obtain ⟨h0, h1, h2, h3⟩ := hS'
                (try go_simp)
                first | done | exact rfl | exact ⟨rfl, rfl⟩
              (try simp only [Act.put, List.getElem_toArray, List.getElem_cons_succ, List.getElem_cons_zero, List.setIfInBounds_toArray, List.set_cons_zero, List.set_cons_succ])
              refine wpAnyN_done (by kernel_rfl) ?_ _
              have BE : Hid (Below w1.heap.size w1 w107) := BL
              clear BL S0 S8
              go_wp2
              go_ret
              exact ⟨by rw [EE.out]; rfl, below_next B0.out BE.out⟩
          · have hjz : ¬ (j : Int) < b.li.length := by omega
            obtain rfl : j = b.li.length := by omega
            have JA : Hid (b.li.all (instrB l f.rg) = true) := (by have := JS.out; rwa [List.take_length] at this : b.li.all (instrB l f.rg) = true)
            cases hq : termB f.rg f.an f.bs.length b.tm with
            | true =>
              have HQ2 : Hid (termB f.rg f.an f.bs.length b.tm = true) := hq
              clear hq
              go_wp2
              refine wp_region_N (fun w' => w'.cell? ⟨w.heap.size, 0, none⟩ = some (.slice LA l.length LC) ∧ w'.cell? ⟨w.heap.size, 1, none⟩ = some (.map (some mb)) ∧ w'.cell? ⟨w.heap.size, 2, none⟩ = some (.pointer (some ⟨fb, fo, none⟩))) (fun _ => true) mixed (have a := HS.out _ (below_next BI.out (below_drew _)); And.intro a.1 (And.intro a.2.1 a.2.2.1)) ?_
              intro S0
              have BL : Below w1.heap.size w1 wi.drew := below_next BI.out (below_drew _)
              generalize wi.drew = wd at *
              refine wpAnyN_take (i := 0) (v := ?_) rfl (by kernel_rfl) (by kernel_rfl) (by kernel_rfl) (by kernel_rfl) (fun _ _ _ h => h) (Or.inl ⟨by rfl, ?_⟩) S0 ?_
              rotate_left
              · intro w' hS'
                obtain ⟨h0, h1, h2⟩ := hS'
                (try go_simp)
                first | done | exact rfl | exact ⟨rfl, rfl⟩
              (try simp only [Act.put, List.getElem_toArray, List.getElem_cons_zero, List.setIfInBounds_toArray, List.set_cons_zero, List.set_cons_succ])
              refine wpAnyN_take (i := 1) (v := ?_) rfl (by kernel_rfl) (by kernel_rfl) (by kernel_rfl) (by kernel_rfl) (fun _ _ _ h => h) (Or.inl ⟨by rfl, ?_⟩) S0 ?_
              rotate_left
              · intro w' hS'
                obtain ⟨h0, h1, h2⟩ := hS'
                (try go_simp)
                first | done | exact rfl | exact ⟨rfl, rfl⟩
              (try simp only [Act.put, List.getElem_toArray, List.getElem_cons_succ, List.getElem_cons_zero, List.setIfInBounds_toArray, List.set_cons_zero, List.set_cons_succ])
              refine wpAnyN_take (i := 2) (v := ?_) rfl (by kernel_rfl) (by kernel_rfl) (by kernel_rfl) (by kernel_rfl) (fun _ _ _ h => h) (Or.inl ⟨by rfl, ?_⟩) S0 ?_
              rotate_left
              · intro w' hS'
                obtain ⟨h0, h1, h2⟩ := hS'
                (try go_simp)
                first | done | exact rfl | exact ⟨rfl, rfl⟩
              (try simp only [Act.put, List.getElem_toArray, List.getElem_cons_succ, List.getElem_cons_zero, List.setIfInBounds_toArray, List.set_cons_zero, List.set_cons_succ])
              refine wpAnyN_take (i := 3) (v := ?_) rfl (by kernel_rfl) (by kernel_rfl) (by kernel_rfl) (by kernel_rfl) (fun _ _ _ h => h) (Or.inl ⟨by rfl, ?_⟩) S0 ?_
              rotate_left
              · intro w' hS'
                obtain ⟨h0, h1, h2⟩ := hS'
                (try go_simp)
                first | done | exact rfl | exact ⟨rfl, rfl⟩
              (try simp only [Act.put, List.getElem_toArray, List.getElem_cons_succ, List.getElem_cons_zero, List.setIfInBounds_toArray, List.set_cons_zero, List.set_cons_succ])
              refine wpAnyN_one (i := 4) (by kernel_rfl) rfl (fun K hK => ?_)
              go_simp
              (go_at_call 23; refine Calls.mono (term_c _ _ fb fo bb (bo + k * 8 + 1) f.bs.length BC _ f.rg f.an b.tm av2 _ (kp_cell HR.out (below_next B0.out BL)) (kp_cell HN.out (below_next B0.out BL)) (kp_cell HB.out (below_next B0.out BL)) (HW.out.below (below_next B0.out BL)) (HV.out.below (below_next B0.out BL))) ?_; rintro e w104 ⟨rfl, hb4⟩)
              rw [HQ2.out]
              have BL := below_next BL hb4
              have S5 := (have a := HS.out _ (BL); And.intro a.1 (And.intro a.2.1 a.2.2.1))
              clear hb4
              go_wp2_with fail
              refine hK _ _ (fun _ => S5) ?_
              clear hK K
              (try simp only [Act.put, List.getElem_toArray, List.getElem_cons_succ, List.getElem_cons_zero, List.setIfInBounds_toArray, List.set_cons_zero, List.set_cons_succ])
              refine wpAnyN_take (i := 5) (v := ?_) rfl (by kernel_rfl) (by kernel_rfl) (by kernel_rfl) (by kernel_rfl) (fun _ _ _ h => h) (Or.inl ⟨by rfl, ?_⟩) S5 ?_
              rotate_left
              · intro w' hS'
                obtain ⟨h0, h1, h2⟩ := hS'
                (try go_simp)
                first | done | exact rfl | exact ⟨rfl, rfl⟩
              (try simp only [Act.put, List.getElem_toArray, List.getElem_cons_succ, List.getElem_cons_zero, List.setIfInBounds_toArray, List.set_cons_zero, List.set_cons_succ])
              refine wpAnyN_done (by kernel_rfl) ?_ _
              have BE : Hid (Below w1.heap.size w1 w104) := BL
              clear BL S0 S5
              go_wp2
              go_roundw
              case rel => exact ⟨k + 1, by omega, by go_num, by rw [AT.out, KS.out]; unfold blockB; rw [JA.out, HQ2.out]; rfl, BE.out⟩
              case measure => simp [intOf]; omega
            | false =>
              have HQ2 : Hid (termB f.rg f.an f.bs.length b.tm = false) := hq
              have EE : Hid (blocksB l f = false) := AF.out (by unfold blockB; rw [hq, Bool.and_false])
              clear hq
              go_wp2
              refine wp_region_N (fun w' => w'.cell? ⟨w.heap.size, 0, none⟩ = some (.slice LA l.length LC) ∧ w'.cell? ⟨w.heap.size, 1, none⟩ = some (.map (some mb)) ∧ w'.cell? ⟨w.heap.size, 2, none⟩ = some (.pointer (some ⟨fb, fo, none⟩))) (fun _ => true) mixed (have a := HS.out _ (below_next BI.out (below_drew _)); And.intro a.1 (And.intro a.2.1 a.2.2.1)) ?_
              intro S0
              have BL : Below w1.heap.size w1 wi.drew := below_next BI.out (below_drew _)
              generalize wi.drew = wd at *
              refine wpAnyN_take (i := 0) (v := ?_) rfl (by kernel_rfl) (by kernel_rfl) (by kernel_rfl) (by kernel_rfl) (fun _ _ _ h => h) (Or.inl ⟨by rfl, ?_⟩) S0 ?_
              rotate_left
              · intro w' hS'
                obtain ⟨h0, h1, h2⟩ := hS'
                (try go_simp)
                first | done | exact rfl | exact ⟨rfl, rfl⟩
              (try simp only [Act.put, List.getElem_toArray, List.getElem_cons_zero, List.setIfInBounds_toArray, List.set_cons_zero, List.set_cons_succ])
              refine wpAnyN_take (i := 1) (v := ?_) rfl (by kernel_rfl) (by kernel_rfl) (by kernel_rfl) (by kernel_rfl) (fun _ _ _ h => h) (Or.inl ⟨by rfl, ?_⟩) S0 ?_
              rotate_left
              · intro w' hS'
                obtain ⟨h0, h1, h2⟩ := hS'
                (try go_simp)
                first | done | exact rfl | exact ⟨rfl, rfl⟩
              (try simp only [Act.put, List.getElem_toArray, List.getElem_cons_succ, List.getElem_cons_zero, List.setIfInBounds_toArray, List.set_cons_zero, List.set_cons_succ])
              refine wpAnyN_take (i := 2) (v := ?_) rfl (by kernel_rfl) (by kernel_rfl) (by kernel_rfl) (by kernel_rfl) (fun _ _ _ h => h) (Or.inl ⟨by rfl, ?_⟩) S0 ?_
              rotate_left
              · intro w' hS'
                obtain ⟨h0, h1, h2⟩ := hS'
                (try go_simp)
                first | done | exact rfl | exact ⟨rfl, rfl⟩
              (try simp only [Act.put, List.getElem_toArray, List.getElem_cons_succ, List.getElem_cons_zero, List.setIfInBounds_toArray, List.set_cons_zero, List.set_cons_succ])
              refine wpAnyN_take (i := 3) (v := ?_) rfl (by kernel_rfl) (by kernel_rfl) (by kernel_rfl) (by kernel_rfl) (fun _ _ _ h => h) (Or.inl ⟨by rfl, ?_⟩) S0 ?_
              rotate_left
              · intro w' hS'
                obtain ⟨h0, h1, h2⟩ := hS'
                (try go_simp)
                first | done | exact rfl | exact ⟨rfl, rfl⟩
              (try simp only [Act.put, List.getElem_toArray, List.getElem_cons_succ, List.getElem_cons_zero, List.setIfInBounds_toArray, List.set_cons_zero, List.set_cons_succ])
              refine wpAnyN_one (i := 4) (by kernel_rfl) rfl (fun K hK => ?_)
              go_simp
              (go_at_call 23; refine Calls.mono (term_c _ _ fb fo bb (bo + k * 8 + 1) f.bs.length BC _ f.rg f.an b.tm av2 _ (kp_cell HR.out (below_next B0.out BL)) (kp_cell HN.out (below_next B0.out BL)) (kp_cell HB.out (below_next B0.out BL)) (HW.out.below (below_next B0.out BL)) (HV.out.below (below_next B0.out BL))) ?_; rintro e w104 ⟨rfl, hb4⟩)
              rw [HQ2.out]
              have BL := below_next BL hb4
              have S5 := (have a := HS.out _ (BL); And.intro a.1 (And.intro a.2.1 a.2.2.1))
              clear hb4
              go_wp2_with fail
              refine hK _ _ (fun _ => S5) ?_
              clear hK K
              (try simp only [Act.put, List.getElem_toArray, List.getElem_cons_succ, List.getElem_cons_zero, List.setIfInBounds_toArray, List.set_cons_zero, List.set_cons_succ])
              refine wpAnyN_take (i := 5) (v := ?_) rfl (by kernel_rfl) (by kernel_rfl) (by kernel_rfl) (by kernel_rfl) (fun _ _ _ h => h) (Or.inl ⟨by rfl, ?_⟩) S5 ?_
              rotate_left
              · intro w' hS'
                obtain ⟨h0, h1, h2⟩ := hS'
                (try go_simp)
                first | done | exact rfl | exact ⟨rfl, rfl⟩
              (try simp only [Act.put, List.getElem_toArray, List.getElem_cons_succ, List.getElem_cons_zero, List.setIfInBounds_toArray, List.set_cons_zero, List.set_cons_succ])
              refine wpAnyN_done (by kernel_rfl) ?_ _
              have BE : Hid (Below w1.heap.size w1 w104) := BL
              clear BL S0 S5
              go_wp2
              go_ret
              exact ⟨by rw [EE.out]; rfl, below_next B0.out BE.out⟩
      · have hkz : ¬ (k : Int) < f.bs.length := by omega
        obtain rfl : k = f.bs.length := by omega
        have EE : Hid (blocksB l f = true) := (by have := KS.out; rw [EQ.out]; rwa [List.take_length] at this : blocksB l f = true)
        go_wp2
        go_ret
        exact ⟨by rw [EE.out]; rfl, below_next B0.out BB.out⟩
end Go.Proofs.YtapgaclonilnbaaDoor
