/-
  Proved: the document's own variants tells the first error of an enum's variants.
-/
import Derived.Test.YtjdkoahbahecoaaGreatDoorRParams
namespace Go.Proofs.YtjdkoahbahecoaaGreatDoor
open Go.RowKit

set_option maxRecDepth 100000 in
set_option maxHeartbeats 800000 in
theorem rvariants_c (A : Option Addr) (is : List It) (hfew : Few is) (C : Nat) (j : Jt) (cs : List Value) (w : World) (hi : IsIn w is A) (hj : JIn w j cs) :
    Calls Tryz.prog 36 #[.slice A is.length C, .agg cs.toArray] w fun e w' => e = .returned (chkV (vck is j.vs)) ∧ Below w.heap.size w w' := by
  obtain ⟨P, PC, V, VC, tk, ts, tn, TA, tl, TC, e1, e2, e3, _, e4⟩ := hj.cel
  have HC : Hid (∀ w0, w.alloc (.cells cs.toArray 43) = w0 → ∀ w', Below w0.heap.size w0 w' → w'.cell? ⟨w.heap.size, 4, none⟩ = some (.slice V j.vs.length VC)) := fun w0 hw0 w' hw => by
    subst hw0
    exact (e4 w' w.heap.size ((At.new w cs.toArray 43).below hw (At.new w cs.toArray 43).lt)).c4
  have HV : Hid (VjIn w j.vs V) := e3
  have RT : Hid (∀ t ct, TIn w t ct → ∀ w', Below w.heap.size w w' → Calls Tryz.prog 8 #[.slice A is.length C, .agg ct.toArray, .bool false] w' fun e w'' => e = .returned (.int .i64 (tyE is t false)) ∧ Below w'.heap.size w' w'') := fun t ct h w' hw => by
    have := rType_c is hfew t ct false A C w' (hi.below hw) (h.stays hw)
    rw [rT_eq is t false (fun h => by cases h)] at this
    exact this
  have hvl := e3.1
  have HW1 : Hid (Below w.heap.size w (w.alloc (.cells cs.toArray 43))) := below_alloc w _
  generalize j.vs = vs at HC HV hvl
  have HE : Hid (∀ (i : Nat) (h : i < vs.length), vrtAt is vs i = (if isIn (vs[i]'h).s ((vs.take i).map (·.s)) = true then some ((vs[i]'h).a, 40) else none).or (tsk is (vs[i]'h))) := fun i h => by
    unfold vrtAt
    rw [List.getElem?_eq_getElem h]
    rfl
  generalize hX : vck is vs = X
  have HX0 : Hid (fo (vrtAt is vs) 0 (vs.length - 0) = X) := hX
  generalize cs.toArray = ca at HC HW1
  clear hi hj e1 e2 e3 e4 hX hfew
  go_enter Tryz.func36, Tryz.ntmps36
  go_wp2
  obtain ⟨w0, hw0⟩ : ∃ w0, w.alloc (.cells ca 43) = w0 := ⟨_, rfl⟩
  have HC0 := HC.out w0 hw0
  have HC1 : Hid (∀ w', Below w0.heap.size w0 w' → w'.cell? ⟨w.heap.size, 4, none⟩ = some (.slice V vs.length VC)) := HC0
  have hsz0 : Hid (w0.heap.size = w.heap.size + 1) := by rw [← hw0]; exact (by simp : (w.alloc (.cells ca 43)).heap.size = w.heap.size + 1)
  rw [hw0] at HW1 ⊢
  clear hw0 HC HC0
  go_loopw [6] (fun iv wr => ∃ i : Nat, i ≤ vs.length ∧ iv = .int .i64 (i : Int) ∧ Hid (fo (vrtAt is vs) i (vs.length - i) = X) ∧ Hid (Below w0.heap.size w0 wr)) (fun iv _ => vs.length - (intOf iv).toNat)
  case atStart => exact ⟨0, Nat.zero_le _, rfl, HX0.out, Below.refl _ _⟩
  case round =>
    rename World => wi
    obtain ⟨i, hil, rfl, HF, HB⟩ := hrel
    have HBW : Hid (Below w.heap.size w wi) := below_next HW1.out HB.out
    have g4 := HC1.out wi HB.out
    have gz : w.heap.size < wi.heap.size := by have h1 := hsz0.out; have h2 := HB.out.size; omega
    by_cases hlt : i < vs.length
    · have hlt' : (i : Int) < (vs.length : Int) := by omega
      obtain ⟨vb, vo, vcs, hVe, hrow, hvin⟩ := HV.out.2 i hlt
      subst hVe
      have hst := fo_step (R := vrtAt is vs) hlt
      rw [HE.out i hlt] at hst
      have HNM : Hid (∀ q (hq : q < vs.length), ∀ w', Below w0.heap.size w0 w' → w'.cell? ⟨vb, vo + q * 3, none⟩ = some (.string (vs[q]'hq).s)) := fun q hq w' hw => by
        obtain ⟨vb2, vo2, vcs2, hV2, hr2, B2, C2, rfl, _⟩ := HV.out.2 q hq
        simp only [Option.some.injEq, Addr.mk.injEq, and_true] at hV2
        obtain ⟨rfl, rfl⟩ := hV2
        exact (hr2.below (below_next HW1.out hw)).2 0 _ rfl
      have HST : Hid (fo (vrtAt is vs) i (vs.length - i) = ((if isIn (vs[i]'hlt).s ((vs.take i).map (·.s)) = true then some ((vs[i]'hlt).a, 40) else none).or (tsk is (vs[i]'hlt))).or (fo (vrtAt is vs) (i + 1) (vs.length - (i + 1)))) := hst
      have HMEM : Hid (∀ q (hq : q < vs.length), q < i → (vs[q]'hq).s = (vs[i]'hlt).s → isIn (vs[i]'hlt).s ((vs.take i).map (·.s)) = true) := fun q hq hqi e => by
        rw [isIn_iff, ← e]
        exact List.mem_map.2 ⟨vs[q], List.mem_take_iff_getElem.2 ⟨q, by omega, rfl⟩, rfl⟩
      have HTK : Hid (∀ q (hq : q < vs.length), isIn (vs[i]'hlt).s ((vs.take (q + 1)).map (·.s)) = (isIn (vs[i]'hlt).s ((vs.take q).map (·.s)) || decide ((vs[i]'hlt).s = (vs[q]'hq).s))) := fun q hq => by
        rw [take_names _ vs q hq, isIn, isIn, List.any_append]
        simp
      generalize hvv : vs[i]'hlt = vv at hvin HST HMEM HTK
      obtain ⟨nm, tts, aa⟩ := vv
      simp only at hvin HST HMEM HTK
      obtain ⟨TB, TC2, rfl, hts⟩ := hvin
      simp only at hrow hts
      have hrow' := hrow.below HBW.out
      have r0 := hrow'.2 0 _ rfl
      have r1 := hrow'.2 1 _ rfl
      have r2 := hrow'.2 2 _ rfl
      simp only [Nat.add_zero] at r0
      have HTS : Hid (TsIn w tts TB) := hts
      have htl := hts.1
      have rz := hrow'.1
      generalize hY : tsk is ⟨nm, tts, aa⟩ = Y at HST
      have HY : Hid (fo (tskAt is ⟨nm, tts, aa⟩) 0 (tts.length - 0) = Y) := hY
      have HTA : Hid (∀ q (hq : q < tts.length), tskAt is ⟨nm, tts, aa⟩ q = nz aa (tyE is (tts[q]'hq) false)) := fun q hq => by
        unfold tskAt
        rw [List.getElem?_eq_getElem hq]
      clear hst hrow hrow' hts hY hvv
      go_wp2
      obtain ⟨w1, hw1⟩ : ∃ w1, wi.alloc (.cells #[.string nm, .slice TB tts.length TC2, .int .i64 aa] 45) = w1 := ⟨_, rfl⟩
      have HCV : Hid (∀ w', Below w1.heap.size w1 w' → w'.cell? ⟨wi.heap.size, 0, none⟩ = some (.string nm) ∧ w'.cell? ⟨wi.heap.size, 1, none⟩ = some (.slice TB tts.length TC2) ∧ w'.cell? ⟨wi.heap.size, 2, none⟩ = some (.int .i64 aa) ∧ wi.heap.size < w'.heap.size) := fun w' hw => by
        subst hw1
        have a := (At.new wi #[.string nm, .slice TB tts.length TC2, .int .i64 aa] 45).below hw (At.new wi _ _).lt
        exact ⟨(a.cell 0).trans rfl, (a.cell 1).trans rfl, (a.cell 2).trans rfl, a.lt⟩
      have HB1 : Hid (Below w0.heap.size w0 w1) := by rw [← hw1]; exact below_next HB.out (below_alloc _ _)
      rw [hw1]
      clear hw1
      go_loopw [8] (fun kv wz => ∃ k : Nat, k ≤ i ∧ kv = .int .i64 (k : Int) ∧ Hid (isIn nm ((vs.take k).map (·.s)) = false) ∧ Hid (Below w1.heap.size w1 wz)) (fun kv _ => i - (intOf kv).toNat)
      case atStart => exact ⟨0, Nat.zero_le _, rfl, rfl, Below.refl _ _⟩
      case round =>
        rename World => wk
        obtain ⟨k, hk, rfl, HK, HZ⟩ := hrel
        have HZ0 : Hid (Below w0.heap.size w0 wk) := below_next HB1.out HZ.out
        have z4 := HC1.out wk HZ0.out
        obtain ⟨v0, v1, v2, vz⟩ := HCV.out wk HZ.out
        have zz : w.heap.size < wk.heap.size := by have h1 := hsz0.out; have h2 := HZ0.out.size; omega
        by_cases hkt : k < i
        · have hkt' : (k : Int) < (i : Int) := by omega
          have hkl : k < vs.length := by omega
          have hkl' : (k : Int) < (vs.length : Int) := by omega
          have ck := HNM.out k hkl wk HZ0.out
          have hmem := HMEM.out k hkl hkt
          have htk := HTK.out k hkl
          generalize (vs[k]'hkl).s = nk at ck hmem htk
          by_cases hs : nk = nm
          · subst hs
            have HA : Hid (X = some (aa, 40)) := (show X = some (aa, 40) by rw [← HF.out, HST.out, if_pos (hmem rfl)]; rfl)
            clear hmem htk
            go_wp2
            go_quiet (fail)
            go_wp2
            exact bodyPost_ret (v := .tuple #[.int .i64 aa, .int .i64 40]) (by simp [results, Tryz.results36, go_sem]) rfl ⟨by rw [HA.out]; rfl, drew_below (below_next HW1.out HZ0.out) _⟩
          · obtain ⟨s1, s2⟩ := str_ne hs
            have HK2 : Hid (isIn nm ((vs.take (k + 1)).map (·.s)) = false) := (show _ = false by rw [htk, HK.out, Bool.false_or]; exact decide_eq_false (fun e => hs e.symm))
            clear hs hmem htk
            go_wp2
            go_quiet (fail)
            go_wp2
            go_roundw
            case rel => exact ⟨k + 1, by omega, by go_num, HK2.out, drew_below HZ.out _⟩
            case measure => simp [intOf]; omega
        · obtain rfl : k = i := by omega
          have HX2 : Hid (Y.or (fo (vrtAt is vs) (k + 1) (vs.length - (k + 1))) = X) := (show _ = X by rw [← HF.out, HST.out, HK.out]; rfl)
          clear HST HMEM HTK
          go_wp2
          go_loopw [9] (fun qv wz => ∃ q : Nat, q ≤ tts.length ∧ qv = .int .i64 (q : Int) ∧ Hid (fo (tskAt is ⟨nm, tts, aa⟩) q (tts.length - q) = Y) ∧ Hid (Below w1.heap.size w1 wz)) (fun qv _ => tts.length - (intOf qv).toNat)
          case atStart => exact ⟨0, Nat.zero_le _, rfl, HY.out, HZ.out⟩
          case round =>
            obtain ⟨q, hq, rfl, HQ, HU⟩ := hrel
            have HU0 : Hid (Below w0.heap.size w0 wr) := below_next HB1.out HU.out
            have HUW : Hid (Below w.heap.size w wr) := below_next HW1.out HU0.out
            obtain ⟨u0, u1, u2, uz⟩ := HCV.out wr HU.out
            by_cases hqt : q < tts.length
            · have hqt' : (q : Int) < (tts.length : Int) := by omega
              have hst := fo_step (R := tskAt is ⟨nm, tts, aa⟩) hqt
              rw [HTA.out q hqt] at hst
              obtain ⟨tb, tof, ct, rfl, trow, htin⟩ := HTS.out.2 q hqt
              have key := RT.out _ ct htin wr HUW.out
              generalize tyE is (tts[q]'hqt) false = E at key hst
              generalize tts[q]'hqt = tt at htin
              obtain ⟨pk, pn, pm, pes⟩ := tt
              obtain ⟨PA, PC', rfl, _⟩ := htin.inv
              have trow' := trow.below HUW.out
              have d0 := trow'.2 0 _ rfl
              have d1 := trow'.2 1 _ rfl
              have d2 := trow'.2 2 _ rfl
              have d3 := trow'.2 3 _ rfl
              simp only [Nat.add_zero] at d0
              have dz := trow'.1
              have K : Hid (Calls Tryz.prog 8 #[.slice A is.length C, .agg #[.int .i64 pk, .string pn, .int .i64 pm, .slice PA pes.length PC'], .bool false] wr fun e w'' => e = .returned (.int .i64 E) ∧ Below wr.heap.size wr w'') := key
              have HSQ : Hid ((nz aa E).or (fo (tskAt is ⟨nm, tts, aa⟩) (q + 1) (tts.length - (q + 1))) = Y) := (show _ = Y by rw [← HQ.out]; exact hst.symm)
              clear trow trow' htin key hst HQ
              by_cases hE0 : E = 0
              · subst hE0
                go_wp2_with (go_at_call 8; refine K.out.mono ?_; rintro e w5 ⟨rfl, hb5⟩; have H5 : Hid (Below w1.heap.size w1 w5) := below_next HU.out hb5; clear hb5)
                go_roundw
                case rel => exact ⟨q + 1, by omega, by go_num, (show _ = Y by have h := HSQ.out; simpa [nz] using h), H5.out⟩
                case measure => simp [intOf]; omega
              · have hE1 : (E == 0) = false := by simpa using hE0
                have hE2 : (E != 0) = true := by simpa using hE0
                have HA : Hid (X = some (aa, E)) := (show X = some (aa, E) by rw [← HX2.out, ← HSQ.out, nz, if_neg hE0]; rfl)
                go_wp2_with (go_at_call 8; refine K.out.mono ?_; rintro e w5 ⟨rfl, hb5⟩; have H5 : Hid (Below w1.heap.size w1 w5) := below_next HU.out hb5; obtain ⟨m0, m1, m2, mz⟩ := HCV.out w5 H5.out; clear hb5)
                exact bodyPost_ret (v := .tuple #[.int .i64 aa, .int .i64 E]) (by simp [results, Tryz.results36, go_sem]) rfl ⟨by rw [HA.out]; rfl, below_next HW1.out (below_next HB1.out H5.out)⟩
            · obtain rfl : q = tts.length := by omega
              have HN : Hid (fo (vrtAt is vs) (k + 1) (vs.length - (k + 1)) = X) := (show _ = X by
                have h1 := HQ.out
                rw [Nat.sub_self] at h1
                have h2 : Y = none := h1.symm
                have h := HX2.out
                rw [h2] at h
                exact h)
              go_wp2
              go_roundw
              case rel => exact ⟨k + 1, by omega, by go_num, HN.out, HU0.out⟩
              case measure => simp [intOf]; omega
    · obtain rfl : i = vs.length := by omega
      have HA : Hid (X = none) := (show X = none by rw [← HF.out, Nat.sub_self]; rfl)
      go_wp2
      exact bodyPost_ret (v := .tuple #[.int .i64 0, .int .i64 0]) (by simp [results, Tryz.results36, go_sem]) rfl ⟨by rw [HA.out]; rfl, HBW.out⟩

end Go.Proofs.YtjdkoahbahecoaaGreatDoor
