/-
  Proved: the document's own words of an enum: one more than those of the variant that has the most.
-/
import Derived.Test.YtjdkoahbahecoaaGreatDoorRWordsS
namespace Go.Proofs.YtjdkoahbahecoaaGreatDoor
open Go.RowKit

attribute [local go_sem ↓] fold38 foldS

theorem vars_step {f : T → Nat → Option Am} {room : Nat} {a b : Am} {ts : List T} {l : List (List T)} (h : vars f room a (ts :: l) = some b) : ∃ o, tog f room ⟨a.p, 0, a.m⟩ ts = some o ∧ vars f room ⟨o.p, max a.w o.w, o.m⟩ l = some b := by
  rw [vars] at h
  cases hf : tog f room ⟨a.p, 0, a.m⟩ ts with
  | none => rw [hf] at h; cases h
  | some o => rw [hf] at h; exact ⟨o, rfl, h⟩

set_option maxRecDepth 100000 in
set_option maxHeartbeats 1200000 in
theorem rw_enum (is : List It) (N room : Nat) (hN : N ≤ 511) (hroom : room ≤ N + 1) (hroom1 : 1 ≤ room) (s : ByteArray) (n : Int) (EA : Option Addr) (el EC C : Nat) (A : Option Addr) (w : World) (hi : IsIn w is A) (j : Nat) (hf : fst s is 0 = some j) (hj : j < is.length) (hk : (is[j]'hj).k = 3) (am0 : Am)
    (ha : vars (am is N) room ⟨1, 0, 0⟩ ((is[j]'hj).vs.map (·.2)) = some am0)
    (KEY : Hid (∀ t q o, q ≤ N → am is N t q = some o → ∀ w' cs, Below w.heap.size w w' → TIn w' t cs → Calls Tryz.prog 45 #[.slice A is.length C, .agg cs.toArray] w' fun e w'' => e = .returned (.int .i64 (o.w : Int)) ∧ Below w'.heap.size w' w'')) :
    Calls Tryz.prog 45 #[.slice A is.length C, .agg #[.int .i64 9, .string s, .int .i64 n, .slice EA el EC]] w fun e w' => e = .returned (.int .i64 ((1 + am0.w : Nat) : Int)) ∧ Below w.heap.size w w' := by
  obtain ⟨b, o, P, pc, V, vc, r, rfl, hrow, hps, hvs⟩ := hi.2 j hj
  have RI : Hid (∀ w', Below w.heap.size w w' → Calls Tryz.prog 19 #[.slice (some ⟨b, o, none⟩) is.length C, .string s] w' fun e w'' => e = .returned (.int .i64 (j : Int)) ∧ Below w'.heap.size w' w'') := fun w' hw => by
    have := ritem_c is s (some ⟨b, o, none⟩) C w' (hi.below hw)
    rw [hf] at this
    exact this
  have hl := hi.1
  generalize is[j]'hj = it at hrow hps hvs hk ha
  obtain ⟨ik, is', ps, vs⟩ := it
  simp only at hrow hps hvs hk ha
  subst hk
  have h20 := icells_20 3 is' P ps.length pc V vs.length vc r
  have HLD : Hid (∀ w', Below w.heap.size w w' → (ldI (.pointer (some ⟨b, o + j * 20, none⟩))).run Tryz.prog w' = .ok (.agg (icells 3 is' P ps.length pc V vs.length vc r).toArray) w') := fun w' hw => load20 h20 (hrow.below hw)
  have HST : Hid (∀ w1 : World, ∃ W2, (stI (.pointer (some ⟨w1.heap.size, 0, none⟩)) (.agg (icells 3 is' P ps.length pc V vs.length vc r).toArray)).run Tryz.prog (w1.alloc (.cells (icells 0 ⟨#[]⟩ none 0 0 none 0 0 zr).toArray 43)) = .ok () W2 ∧ Below w1.heap.size w1 W2 ∧ w1.heap.size < W2.heap.size ∧ Hid (∀ w', Below W2.heap.size W2 w' → w'.cell? ⟨w1.heap.size, 0, none⟩ = some (.int .i64 3) ∧ w'.cell? ⟨w1.heap.size, 4, none⟩ = some (.slice V vs.length vc))) := fun w1 => by
    obtain ⟨W2, st, at2, bl2⟩ := store20 (At.new w1 (icells 0 ⟨#[]⟩ none 0 0 none 0 0 zr).toArray 43) rfl h20
    refine ⟨W2, st, bl2 _ _ (below_alloc _ _) (Nat.le_refl _), at2.lt, fun w' hw => ?_⟩
    have a := at2.below hw at2.lt
    exact ⟨(a.cell 0).trans rfl, (a.cell 4).trans rfl⟩
  have HV : Hid (VsIn w vs V) := hvs
  have hvl := hvs.1
  have hlt' : (j : Int) < (is.length : Int) := by omega
  have HW1 : Hid (∀ a, Below w.heap.size w (w.alloc a)) := below_alloc w
  have HTG : Hid (vars (am is N) room ⟨1, 0, 0⟩ ((vs.map (·.2)).drop 0) = some am0) := ha
  have FIN : Hid (Fine (am is N)) := am_ok is N
  generalize (Value.agg (icells 3 is' P ps.length pc V vs.length vc r).toArray) = VI at HLD HST
  simp only [icells, zr] at HST
  clear hrow hps hvs hi hf ha h20
  go_enter Tryz.func45, Tryz.ntmps45
  go_wp2_with (first
    | (go_at_call 19; refine (RI.out _ (HW1.out _)).mono ?_; rintro e w1 ⟨rfl, hb1⟩; have B1 : Hid (Below w.heap.size w w1) := below_next (HW1.out _) hb1; clear hb1; have ld := HLD.out w1 B1.out; obtain ⟨W2, st, bl2, sz2, CC⟩ := HST.out w1; have B2 : Hid (Below w.heap.size w W2) := below_next B1.out bl2; have c0 := (CC.out _ (Below.refl _ _)).1; clear bl2))
  go_loopw [6, 8] (fun sv iv wz => ∃ (i p q m : Nat), i ≤ vs.length ∧ iv = .int .i64 (i : Int) ∧ sv = .int .i64 (q : Int) ∧ q + 1 ≤ p ∧ p ≤ room ∧ Hid (vars (am is N) room ⟨p, q, m⟩ ((vs.map (·.2)).drop i) = some am0) ∧ Hid (Below W2.heap.size W2 wz)) (fun _ iv _ => vs.length - (intOf iv).toNat)
  case atStart => exact ⟨0, 1, 0, 0, Nat.zero_le _, rfl, rfl, by omega, hroom1, HTG.out, Below.refl _ _⟩
  case round =>
    rename World => wi
    obtain ⟨i, p, q, m, hil, rfl, rfl, hqp, hpr, HT, HZ⟩ := hrel
    obtain ⟨g0, g4⟩ := CC.out wi HZ.out
    have hz2 : w1.heap.size < wi.heap.size := Nat.lt_of_lt_of_le sz2 HZ.out.size
    have HBW : Hid (Below w.heap.size w wi) := below_next B2.out HZ.out
    by_cases hlt : i < vs.length
    · have hlt2 : (i : Int) < (vs.length : Int) := by omega
      obtain ⟨vb, vo, VB, vcap, at', rfl, vrow, hts⟩ := HV.out.2 i hlt
      have hdr : (vs.map (·.2)).drop i = (vs[i]'hlt).2 :: (vs.map (·.2)).drop (i + 1) := by
        rw [List.drop_eq_getElem_cons (by simpa using hlt)]
        simp
      have h1 := HT.out
      rw [hdr] at h1
      obtain ⟨o1, ho1, h2⟩ := vars_step h1
      generalize (vs[i]'hlt).2 = ts at vrow hts ho1
      generalize (vs[i]'hlt).1 = vn at vrow
      have HTO : Hid (tog (am is N) room ⟨p, 0, m⟩ (ts.drop 0) = some o1) := ho1
      have HV2 : Hid (vars (am is N) room ⟨o1.p, max q o1.w, o1.m⟩ ((vs.map (·.2)).drop (i + 1)) = some am0) := h2
      have HTS : Hid (TsIn w ts VB) := hts
      have htl := hts.1
      have HVR : Hid (∀ w', Below W2.heap.size W2 w' → w'.cell? ⟨vb, vo + i * 3 + 1, none⟩ = some (.slice VB ts.length vcap)) := fun w' hw => (vrow.below (below_next B2.out hw)).2 1 _ rfl
      clear vrow hts hdr h1 h2 ho1 HT
      have vr0 := HVR.out wi HZ.out
      go_wp2
      go_loopw [9, 10] (fun kv jv wz => ∃ (jj p' q' m' : Nat), jj ≤ ts.length ∧ jv = .int .i64 (jj : Int) ∧ kv = .int .i64 (q' : Int) ∧ q' + p ≤ p' ∧ p' ≤ room ∧ Hid (tog (am is N) room ⟨p', q', m'⟩ (ts.drop jj) = some o1) ∧ Hid (Below W2.heap.size W2 wz)) (fun _ jv _ => ts.length - (intOf jv).toNat)
      case atStart => exact ⟨0, p, 0, m, Nat.zero_le _, rfl, rfl, by omega, hpr, HTO.out, HZ.out⟩
      case round =>
        obtain ⟨jj, p', q', m', hjl, rfl, rfl, hqp', hpr', HT', HZ'⟩ := hrel
        obtain ⟨e0, e4⟩ := CC.out wr HZ'.out
        have hz3 : w1.heap.size < wr.heap.size := Nat.lt_of_lt_of_le sz2 HZ'.out.size
        have HBW' : Hid (Below w.heap.size w wr) := below_next B2.out HZ'.out
        have vr1 := HVR.out wr HZ'.out
        by_cases hjt : jj < ts.length
        · have hjt2 : (jj : Int) < (ts.length : Int) := by omega
          obtain ⟨tb, tof, cs1, rfl, trow, ht1⟩ := HTS.out.2 jj hjt
          have h1 := HT'.out
          rw [List.drop_eq_getElem_cons hjt] at h1
          obtain ⟨o2, ho2, h2⟩ := tog_step h1
          have fine := FIN.out _ _ _ ho2
          have key := KEY.out _ (room - p') _ (by omega) ho2 wr cs1 HBW'.out (ht1.stays HBW'.out)
          generalize ts[jj]'hjt = tt at trow ht1
          obtain ⟨tk, tn, tm, tes⟩ := tt
          have trow := trow.below HBW'.out
          obtain ⟨TA, TC, rfl, _⟩ := ht1.inv
          have d0 := trow.2 0 _ rfl
          have d1 := trow.2 1 _ rfl
          have d2 := trow.2 2 _ rfl
          have d3 := trow.2 3 _ rfl
          simp only [Nat.add_zero] at d0
          obtain ⟨op, ow, om⟩ := o2
          simp only at fine key h2
          have HT2 : Hid (tog (am is N) room ⟨p' + op, q' + ow, m' + om⟩ (ts.drop (jj + 1)) = some o1) := h2
          have K : Hid (Calls Tryz.prog 45 #[.slice (some ⟨b, o, none⟩) is.length C, .agg #[.int .i64 tk, .string tn, .int .i64 tm, .slice TA tes.length TC]] wr fun e w'' => e = .returned (.int .i64 (ow : Int)) ∧ Below wr.heap.size wr w'') := key
          obtain ⟨f1, f2, f3, f4⟩ := fine
          have htb := trow.1
          clear trow ht1 h1 h2 key ho2 HT'
          go_wp2_with (go_at_call 45; refine K.out.mono ?_; rintro e w4 ⟨rfl, hb4⟩; have H4 : Hid (Below W2.heap.size W2 w4) := below_next HZ'.out hb4; clear hb4)
          go_roundw
          case rel => exact ⟨jj + 1, p' + op, q' + ow, m' + om, by omega, by go_num, by go_num, by omega, by omega, HT2.out, H4.out⟩
          case measure => simp [intOf]; omega
        · obtain rfl : jj = ts.length := by omega
          have h1 := HT'.out
          rw [List.drop_eq_nil_of_le (by simp), tog] at h1
          have HE : Hid (vars (am is N) room ⟨p', max q q', m'⟩ ((vs.map (·.2)).drop (i + 1)) = some am0) := by have h2 := HV2.out; cases h1; exact h2
          clear h1 HT'
          by_cases hgt : q < q'
          · have hgt2 : (q : Int) < (q' : Int) := by omega
            go_wp2
            go_roundw
            case rel => exact ⟨i + 1, p', q', m', by omega, by go_num, rfl, by omega, hpr', by have h := HE.out; rw [Nat.max_eq_right (by omega)] at h; exact h, HZ'.out⟩
            case measure => simp [intOf]; omega
          · have hgt2 : ¬ (q : Int) < (q' : Int) := by omega
            go_wp2
            go_roundw
            case rel => exact ⟨i + 1, p', q, m', by omega, by go_num, rfl, by omega, hpr', by have h := HE.out; rw [Nat.max_eq_left (by omega)] at h; exact h, HZ'.out⟩
            case measure => simp [intOf]; omega
    · obtain rfl : i = vs.length := by omega
      have h1 := HT.out
      rw [List.drop_eq_nil_of_le (by simp), vars] at h1
      have HE : Hid (q = am0.w) := by cases h1; rfl
      clear h1 HT
      go_wp2
      go_ret
      exact ⟨by rw [← HE.out]; go_num, HBW.out⟩

end Go.Proofs.YtjdkoahbahecoaaGreatDoor
