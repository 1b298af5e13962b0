/-
  Proved: what low's Check answers: OK just if functions are formed.
-/
import Derived.Test.YtapgaclonilnbaaDoorCblocks
namespace Go.Proofs.YtapgaclonilnbaaDoor
open Go.RowKit
set_option linter.unusedVariables false
set_option linter.unusedSimpArgs false

set_option maxRecDepth 20000 in
set_option maxHeartbeats 1000000 in
theorem hasForm_c (fb fo : Nat) (f : Lf) (pv bv : Value) (w : World) (hx : RowAt w fb fo (lfC f pv bv)) (hp : NosIn w f.pa pv) (hb : LbsIn w f.bs bv) :
    Calls Tryd.prog 13 #[.pointer (some ⟨fb, fo, none⟩)] w fun e w' => e = .returned (.bool (formB f)) ∧ Below w.heap.size w w' := by
  obtain ⟨_, PA, PC, rfl, _⟩ := hp.cells
  obtain ⟨hb0, BA, BC, rfl, hbs⟩ := hb
  have c1 := hx.at 1 (v := .int .i64 f.rg) rfl
  have c2 := hx.at 2 (v := .slice PA f.pa.length PC) rfl
  have c3 := hx.at 3 (v := .int .i64 f.an) rfl
  have c4 := hx.at 4 (v := .int .i64 f.fr) rfl
  have c6 := hx.at 6 (v := .slice BA f.bs.length BC) rfl
  have e0 : formB f = (decide (0 < f.bs.length) && upB f.rg 65536 && upB f.fr 65536 && upB f.an 8 && decide (f.pa.length ≤ 8)) := rfl
  clear hx hp hbs
  by_cases h1 : 0 < f.bs.length
  · have h1z : (0 : Int) < f.bs.length := by omega
    rw [decide_eq_true h1, Bool.true_and] at e0
    cases g1 : upB f.rg 65536 with
    | false =>
      rw [g1] at e0
      have EE : Hid (formB f = false) := (by simpa using e0 : formB f = false)
      clear e0
      go_enter Tryd.func13, Tryd.ntmps13
      go_wp2_with (go_at_call 20; refine Calls.mono (upTo_c _ _ _) ?_; rintro e w1 ⟨rfl, hw⟩; rw [hw, g1]; clear hw w1)
      go_ret
      exact ⟨by rw [EE.out]; rfl, Below.refl _ _⟩
    | true =>
      rw [g1, Bool.true_and] at e0
      cases g2 : upB f.fr 65536 with
      | false =>
        rw [g2] at e0
        have EE : Hid (formB f = false) := (by simpa using e0 : formB f = false)
        clear e0
        go_enter Tryd.func13, Tryd.ntmps13
        go_wp2_with (go_at_call 20; refine Calls.mono (upTo_c _ _ _) ?_; rintro e w1 ⟨rfl, hw⟩; rw [hw]; (try rw [g1]); (try rw [g2]); clear hw w1)
        go_ret
        exact ⟨by rw [EE.out]; rfl, Below.refl _ _⟩
      | true =>
        rw [g2, Bool.true_and] at e0
        cases g3 : upB f.an 8 with
        | false =>
          rw [g3] at e0
          have EE : Hid (formB f = false) := (by simpa using e0 : formB f = false)
          clear e0
          go_enter Tryd.func13, Tryd.ntmps13
          go_wp2_with (go_at_call 20; refine Calls.mono (upTo_c _ _ _) ?_; rintro e w1 ⟨rfl, hw⟩; rw [hw]; (try rw [g1]); (try rw [g2]); (try rw [g3]); clear hw w1)
          go_ret
          exact ⟨by rw [EE.out]; rfl, Below.refl _ _⟩
        | true =>
          rw [g3, Bool.true_and] at e0
          have EE : Hid (formB f = decide (f.pa.length ≤ 8)) := e0
          clear e0
          by_cases h5 : f.pa.length ≤ 8
          · have h5z : (f.pa.length : Int) ≤ 8 := by omega
            go_enter Tryd.func13, Tryd.ntmps13
            go_wp2_with (go_at_call 20; refine Calls.mono (upTo_c _ _ _) ?_; rintro e w1 ⟨rfl, hw⟩; rw [hw]; (try rw [g1]); (try rw [g2]); (try rw [g3]); clear hw w1)
            go_ret
            exact ⟨by rw [EE.out, decide_eq_true h5]; rfl, Below.refl _ _⟩
          · have h5z : ¬ (f.pa.length : Int) ≤ 8 := by omega
            go_enter Tryd.func13, Tryd.ntmps13
            go_wp2_with (go_at_call 20; refine Calls.mono (upTo_c _ _ _) ?_; rintro e w1 ⟨rfl, hw⟩; rw [hw]; (try rw [g1]); (try rw [g2]); (try rw [g3]); clear hw w1)
            go_ret
            exact ⟨by rw [EE.out, decide_eq_false h5]; show Ending.returned (.bool (decide ((f.pa.length : Int) ≤ 8))) = _; simp; omega, Below.refl _ _⟩
  · have h1z : ¬ (0 : Int) < f.bs.length := by omega
    have EE : Hid (formB f = false) := (by rw [e0, decide_eq_false h1]; rfl : formB f = false)
    clear e0
    go_enter Tryd.func13, Tryd.ntmps13
    go_wp2
    go_ret
    exact ⟨by rw [EE.out]; rfl, Below.refl _ _⟩

theorem cnN_step (l : List Lf) (k : Nat) (h : k < l.length) : cnN l (k + 1) = if (byN (l.take k) (nmOf l[k])).isSome then cnN l k else cnN l k + 1 := by
  rw [cnN, List.getD_eq_getElem?_getD, List.getElem?_eq_getElem h]
  rfl

set_option maxHeartbeats 1000000 in
theorem byNames_c (l : List Lf) (LA : Option Addr) (LC : Nat) (w : World) (hl : LfsIn w l (.slice LA l.length LC)) :
    Calls Tryd.prog 12 #[.slice LA l.length LC] w fun e w' => e = .returned (.tuple #[.map (some w.heap.size), .bool (decide (cnN l l.length = l.length))]) ∧ Below w.heap.size w w' ∧ MapS w' w.heap.size (cnN l l.length) (byN l) := by
  obtain ⟨hl0, LA', LC', eL, hL⟩ := hl
  cases eL
  have HE : Hid (∀ i (h : i < l.length), ∃ b o cs, LA = some ⟨b, o, none⟩ ∧ RowAt w b (o + i * 7) cs ∧ LfIn w (l[i]'h) cs) := hL
  have BT : Hid (∀ k (h : k < l.length), byN (l.take (k + 1)) = updS (byN (l.take k)) (nmOf l[k]) (some (k : Int)) ∧ cnN l (k + 1) = if (byN (l.take k) (nmOf l[k])).isSome then cnN l k else cnN l k + 1) := fun k h => ⟨byN_take l k h, cnN_step l k h⟩
  have hmm := @run_makeMap Tryd.prog
  clear hL
  go_enter Tryd.func12, Tryd.ntmps12
  go_wp2
  clear hmm
  go_loopw [9] (fun i wr => ∃ k : Nat, k ≤ l.length ∧ i = .int .i64 (k : Int) ∧ Below w.heap.size w wr ∧ MapS wr w.heap.size (cnN l k) (byN (l.take k))) (fun i _ => l.length - (intOf i).toNat)
  case atStart => exact ⟨0, by omega, rfl, below_alloc _ _, MapS.made w⟩
  case round =>
    obtain ⟨k, hk, rfl, hB, hM⟩ := hrel
    have BB : Hid (Below w.heap.size w wr) := hB
    have MM : Hid (MapS wr w.heap.size (cnN l k) (byN (l.take k))) := hM
    clear hB hM
    rcases Nat.lt_or_ge k l.length with hk' | hk'
    · have hkz : (k : Int) < l.length := by omega
      obtain ⟨b, o, cs, rfl, hrow, pv, bv, rfl, hnm, _, _⟩ := HE.out k hk'
      obtain ⟨t1, t2⟩ := BT.out k hk'
      generalize l[k] = f at *
      have T1 : Hid (byN (l.take (k + 1)) = updS (byN (l.take k)) (nmOf f) (some (k : Int))) := t1
      have T2 : Hid (cnN l (k + 1) = if (byN (l.take k) (nmOf f)).isSome then cnN l k else cnN l k + 1) := t2
      have c0 : wr.cell? ⟨b, o + k * 7, none⟩ = some (.string f.nm) := kp_cell (hrow.at 0 rfl) BB.out
      have hn1 := cnN_le l k
      obtain ⟨w2, hrun, hput, hkp, hsz⟩ := MM.out.put (x := f.nm) (v := (k : Int)) hnm ⟨by omega, by omega⟩ (by omega)
      have M2 : Hid (MapS w2 w.heap.size (if (byN (l.take k) f.nm.data.toList).isSome then cnN l k else cnN l k + 1) (updS (byN (l.take k)) f.nm.data.toList (some (k : Int)))) := hput
      have K2 : Hid (Below w.heap.size w w2) := BB.out.trans (hkp.below BB.out.size (fun b hb => by subst hb; exact Nat.le_refl _))
      clear hput hkp hsz hrow hn1 t1 t2
      go_wp2
      go_roundw
      case rel => exact ⟨k + 1, by omega, by go_num, K2.out, by rw [T1.out, T2.out]; exact M2.out⟩
      case measure => simp [intOf]; omega
    · have hkz : ¬ (k : Int) < l.length := by omega
      obtain rfl : k = l.length := by omega
      have M1 : Hid (MapS wr w.heap.size (cnN l l.length) (byN l)) := (by have := MM.out; rwa [List.take_length] at this : MapS wr w.heap.size (cnN l l.length) (byN l))
      have hlen := fun ty => MM.out.len ty
      have hq : ((cnN l l.length : Int) == l.length) = decide (cnN l l.length = l.length) := by
        by_cases h : cnN l l.length = l.length
        · simp [h]
        · have h2 : ¬ (cnN l l.length : Int) = l.length := by omega
          simp [h, h2]
      have HQ : Hid (((cnN l l.length : Int) == l.length) = decide (cnN l l.length = l.length)) := hq
      clear hq
      go_wp2
      go_ret2
      exact ⟨by rw [← HQ.out]; rfl, BB.out, M1.out⟩

/-- Check: 0, or 10 (ErrForm). -/
def chkE (l : List Lf) : Int := if chk l then 0 else 10

set_option maxHeartbeats 1000000 in
theorem check_c (l : List Lf) (LA : Option Addr) (LC : Nat) (w : World) (hl : LfsIn w l (.slice LA l.length LC)) :
    Calls Tryd.prog 8 #[.slice LA l.length LC] w fun e w' => e = .returned (.int .i64 (chkE l)) ∧ Below w.heap.size w w' := by
  have BN := byNames_c l LA LC w hl
  have HL : Hid (LfsIn w l (.slice LA l.length LC)) := hl
  obtain ⟨hl0, LA', LC', eL, hL⟩ := hl
  cases eL
  have HE : Hid (∀ i (h : i < l.length), ∃ b o cs, LA = some ⟨b, o, none⟩ ∧ RowAt w b (o + i * 7) cs ∧ LfIn w (l[i]'h) cs) := hL
  clear hL
  cases hq : decide (cnN l l.length = l.length) with
  | false =>
    have EE : Hid (chkE l = 10) := (by unfold chkE chk; rw [hq]; rfl : chkE l = 10)
    rw [hq] at BN
    have BN : Hid _ := BN
    clear hq
    go_enter Tryd.func8, Tryd.ntmps8
    go_wp2_with (go_at_call 12; refine Calls.mono (Hid.out BN) ?_; rintro e w1 ⟨rfl, hb1, _⟩)
    go_ret
    exact ⟨by rw [EE.out]; rfl, hb1⟩
  | true =>
    rw [hq] at BN
    have BN : Hid _ := BN
    have EQ : Hid (chk l = (l.all formB && l.all (blocksB l))) := (by unfold chk; rw [hq, Bool.true_and] : chk l = (l.all formB && l.all (blocksB l)))
    have AF : Hid (∀ k (h : k < l.length), (l.take (k + 1)).all formB = ((l.take k).all formB && formB l[k])) := fun k h => all_step _ _ k h
    have AB : Hid (∀ k (h : k < l.length), (l.take (k + 1)).all (blocksB l) = ((l.take k).all (blocksB l) && blocksB l l[k])) := fun k h => all_step _ _ k h
    clear hq
    go_enter Tryd.func8, Tryd.ntmps8
    go_wp2_with (go_at_call 12; refine Calls.mono (Hid.out BN) ?_; rintro e w1 ⟨rfl, hb1, hm1⟩; have B1 : Hid (Below w.heap.size w w1) := hb1; have M1 : Hid (MapS w1 w.heap.size (cnN l l.length) (byN l)) := hm1; clear hb1 hm1)
    go_loopw [16] (fun i wr => ∃ k : Nat, k ≤ l.length ∧ i = .int .i64 (k : Int) ∧ (l.take k).all formB = true ∧ Below w1.heap.size w1 wr) (fun i _ => l.length - (intOf i).toNat)
    case atStart => exact ⟨0, by omega, rfl, rfl, Below.refl _ _⟩
    case round =>
      obtain ⟨k, hk, rfl, hs, hB⟩ := hrel
      have BB : Hid (Below w1.heap.size w1 wr) := hB
      have HS : Hid ((l.take k).all formB = true) := hs
      clear hB hs
      rcases Nat.lt_or_ge k l.length with hk' | hk'
      · have hkz : (k : Int) < l.length := by omega
        obtain ⟨b, o, cs, rfl, hrow, pv, bv, rfl, hnm, hpa, hbs⟩ := HE.out k hk'
        have BW : Hid (Below w.heap.size w wr) := below_next B1.out BB.out
        have AT : Hid ((l.take (k + 1)).all formB = ((l.take k).all formB && formB l[k])) := AF.out k hk'
        have AN : Hid (formB l[k] = false → chkE l = 10) := fun h => by unfold chkE; rw [EQ.out, all_false hk' h, Bool.false_and]; rfl
        generalize l[k] = f at *
        have CC : Hid (Calls Tryd.prog 13 #[.pointer (some ⟨b, o + k * 7, none⟩)] wr fun e w' => e = .returned (.bool (formB f)) ∧ Below wr.heap.size wr w') := hasForm_c b (o + k * 7) f pv bv wr (hrow.below BW.out) (hpa.below BW.out) (hbs.below BW.out)
        clear hrow hpa hbs
        cases hq : formB f with
        | true =>
          rw [hq] at CC
          go_wp2_with (go_at_call 13; refine Calls.mono (Hid.out CC) ?_; rintro e w2 ⟨rfl, hw⟩; have B2 : Hid (Below w1.heap.size w1 w2) := below_next BB.out hw; clear hw)
          go_roundw
          case rel => exact ⟨k + 1, by omega, by go_num, by rw [AT.out, HS.out, hq]; rfl, B2.out⟩
          case measure => simp [intOf]; omega
        | false =>
          rw [hq] at CC
          have EE : Hid (chkE l = 10) := AN.out hq
          go_wp2_with (go_at_call 13; refine Calls.mono (Hid.out CC) ?_; rintro e w2 ⟨rfl, hw⟩; have B2 : Hid (Below w1.heap.size w1 w2) := below_next BB.out hw; clear hw)
          go_ret
          exact ⟨by rw [EE.out]; rfl, below_next B1.out B2.out⟩
      · have hkz : ¬ (k : Int) < l.length := by omega
        obtain rfl : k = l.length := by omega
        have FA : Hid (l.all formB = true) := (by have := HS.out; rwa [List.take_length] at this : l.all formB = true)
        clear HS
        go_wp2
        go_loopw [27] (fun i wi => ∃ k : Nat, k ≤ l.length ∧ i = .int .i64 (k : Int) ∧ (l.take k).all (blocksB l) = true ∧ Below w1.heap.size w1 wi) (fun i _ => l.length - (intOf i).toNat)
        case atStart => exact ⟨0, by omega, rfl, rfl, BB.out⟩
        case round =>
          obtain ⟨k, hk, rfl, hs, hB⟩ := hrel
          rename World => wi
          have BI : Hid (Below w1.heap.size w1 wi) := hB
          have HS : Hid ((l.take k).all (blocksB l) = true) := hs
          clear hB hs
          rcases Nat.lt_or_ge k l.length with hk' | hk'
          · have hkz : (k : Int) < l.length := by omega
            obtain ⟨b, o, cs, rfl, hrow, pv, bv, rfl, hnm, hpa, hbs⟩ := HE.out k hk'
            have BW : Hid (Below w.heap.size w wi) := below_next B1.out BI.out
            have AT : Hid ((l.take (k + 1)).all (blocksB l) = ((l.take k).all (blocksB l) && blocksB l l[k])) := AB.out k hk'
            have AN : Hid (blocksB l l[k] = false → chkE l = 10) := fun h => by unfold chkE; rw [EQ.out, all_false hk' h, Bool.and_false]; rfl
            generalize l[k] = f at *
            have CC : Hid (Calls Tryd.prog 14 #[.agg #[.slice (some ⟨b, o, none⟩) l.length LC, .map (some w.heap.size), .pointer (some ⟨b, o + k * 7, none⟩)]] wi fun e w' => e = .returned (.bool (blocksB l f)) ∧ Below wi.heap.size wi w') :=
              blocks_c l _ LC w.heap.size _ b (o + k * 7) f pv bv wi (HL.out.below BW.out) (M1.out.below BI.out) (hrow.below BW.out) (hpa.below BW.out) (hbs.below BW.out)
            clear hrow hpa hbs
            cases hq : blocksB l f with
            | true =>
              rw [hq] at CC
              go_wp2_with (go_at_call 14; refine Calls.mono (Hid.out CC) ?_; rintro e w2 ⟨rfl, hw⟩; have B2 : Hid (Below w1.heap.size w1 w2) := below_next BI.out hw; clear hw)
              go_roundw
              case rel => exact ⟨k + 1, by omega, by go_num, by rw [AT.out, HS.out, hq]; rfl, B2.out⟩
              case measure => simp [intOf]; omega
            | false =>
              rw [hq] at CC
              have EE : Hid (chkE l = 10) := AN.out hq
              go_wp2_with (go_at_call 14; refine Calls.mono (Hid.out CC) ?_; rintro e w2 ⟨rfl, hw⟩; have B2 : Hid (Below w1.heap.size w1 w2) := below_next BI.out hw; clear hw)
              go_ret
              exact ⟨by rw [EE.out]; rfl, below_next B1.out B2.out⟩
          · have hkz : ¬ (k : Int) < l.length := by omega
            obtain rfl : k = l.length := by omega
            have EE : Hid (chkE l = 0) := (by have := HS.out; unfold chkE; rw [EQ.out, FA.out]; rw [List.take_length] at this; rw [this]; rfl : chkE l = 0)
            go_wp2
            go_ret
            exact ⟨by rw [EE.out]; rfl, below_next B1.out BI.out⟩
end Go.Proofs.YtapgaclonilnbaaDoor
