/-
  Proved: the document's own params tells the first error of an item's params.
-/
import Derived.Test.YtjdkoahbahecoaaGreatDoorRTypeP
import Derived.Test.YtjdkoahbahecoaaGreatDoorRSmall
import Derived.Test.YtjdkoahbahecoaaGreatDoorAs
namespace Go.Proofs.YtjdkoahbahecoaaGreatDoor
open Go.RowKit

set_option maxRecDepth 100000 in
set_option maxHeartbeats 800000 in
theorem rparams_c (A : Option Addr) (is : List It) (hfew : Few is) (C : Nat) (j : Jt) (cs : List Value) (w : World) (hi : IsIn w is A) (hj : JIn w j cs) (rf : Bool) (hrf : (j.k == 1) = rf) (hd : rf = true → ∀ p ∈ j.ps, dep p.t ≤ 9223372036854775807) :
    Calls Tryz.prog 35 #[.slice A is.length C, .agg cs.toArray] w fun e w' => e = .returned (chkV (pck is rf j.ps)) ∧ Below w.heap.size w w' := by
  obtain ⟨P, PC, V, VC, tk, ts, tn, TA, tl, TC, e1, e2, e3, _, e4⟩ := hj.cel
  have HC : Hid (∀ w0, w.alloc (.cells cs.toArray 43) = w0 → ∀ w', Below w0.heap.size w0 w' → w'.cell? ⟨w.heap.size, 0, none⟩ = some (.int .i64 j.k) ∧ w'.cell? ⟨w.heap.size, 3, none⟩ = some (.slice P j.ps.length PC)) := fun w0 hw0 w' hw => by
    subst hw0
    have c := e4 w' w.heap.size ((At.new w cs.toArray 43).below hw (At.new w cs.toArray 43).lt)
    exact ⟨c.c0, c.c3⟩
  have WP : Hid (∀ q (hq : q < j.ps.length), ∃ pb po mu pk pn pm PA pl PC', P = some ⟨pb, po, none⟩ ∧ ∀ w', Below w.heap.size w w' → RowAt w' pb (po + q * 7) [.string (j.ps[q]'hq).s, .bool mu, .int .i64 pk, .string pn, .int .i64 pm, .slice PA pl PC', .int .i64 (j.ps[q]'hq).a] ∧ Calls Tryz.prog 8 #[.slice A is.length C, .agg #[.int .i64 pk, .string pn, .int .i64 pm, .slice PA pl PC'], .bool rf] w' fun e w'' => e = .returned (.int .i64 (tyE is (j.ps[q]'hq).t rf)) ∧ Below w'.heap.size w' w'') := fun q hq => by
    obtain ⟨pb, po, pcs, p1, p2, mu, ct, p3, p4⟩ := e2.2 q hq
    have hdq := rT_eq is (j.ps[q]'hq).t rf (fun h => hd h _ (List.getElem_mem hq))
    have key : ∀ w', Below w.heap.size w w' → Calls Tryz.prog 8 #[.slice A is.length C, .agg ct.toArray, .bool rf] w' fun e w'' => e = .returned (.int .i64 (rT is (j.ps[q]'hq).t rf)) ∧ Below w'.heap.size w' w'' := fun w' hw => rType_c is hfew _ ct rf A C w' (hi.below hw) (p4.stays hw)
    rw [hdq] at key
    generalize (j.ps[q]'hq) = p at p3 p4 key ⊢
    obtain ⟨s, t, a⟩ := p
    obtain ⟨pk, pn, pm, pes⟩ := t
    obtain ⟨PA, PC', rfl, _⟩ := p4.inv
    subst p3
    exact ⟨pb, po, mu, pk, pn, pm, PA, pes.length, PC', p1, fun w' hw => ⟨p2.below hw, key w' hw⟩⟩
  have hpl := e2.1
  have HW1 : Hid (Below w.heap.size w (w.alloc (.cells cs.toArray 43))) := below_alloc w _
  have hE : ∀ (ps : List Pj) (i : Nat) (h : i < ps.length), prmAt is rf ps i = (if isIn (ps[i]'h).s ((ps.take i).map (·.s)) = true then some ((ps[i]'h).a, 40) else none).or (nz (ps[i]'h).a (tyE is (ps[i]'h).t rf)) := fun ps i h => by
    unfold prmAt
    rw [List.getElem?_eq_getElem h]
    rfl
  generalize j.ps = ps at HC WP hpl
  generalize j.k = kk at HC hrf
  generalize hX : pck is rf ps = X
  have HX0 : Hid (fo (prmAt is rf ps) 0 (ps.length - 0) = X) := hX
  generalize cs.toArray = ca at HC HW1
  have HE : Hid (∀ (i : Nat) (h : i < ps.length), prmAt is rf ps i = (if isIn (ps[i]'h).s ((ps.take i).map (·.s)) = true then some ((ps[i]'h).a, 40) else none).or (nz (ps[i]'h).a (tyE is (ps[i]'h).t rf))) := hE ps
  clear hi hj e1 e2 e3 e4 hE hX hd hfew
  go_enter Tryz.func35, Tryz.ntmps35
  go_wp2
  obtain ⟨w0, hw0⟩ : ∃ w0, w.alloc (.cells ca 43) = w0 := ⟨_, rfl⟩
  have HC0 := HC.out w0 hw0
  have HC1 : Hid (∀ w', Below w0.heap.size w0 w' → w'.cell? ⟨w.heap.size, 0, none⟩ = some (.int .i64 kk) ∧ w'.cell? ⟨w.heap.size, 3, none⟩ = some (.slice P ps.length PC)) := HC0
  have hsz0 : Hid (w0.heap.size = w.heap.size + 1) := by rw [← hw0]; exact (by simp : (w.alloc (.cells ca 43)).heap.size = w.heap.size + 1)
  rw [hw0] at HW1 ⊢
  clear hw0 HC HC0
  go_loopw [6] (fun iv wr => ∃ i : Nat, i ≤ ps.length ∧ iv = .int .i64 (i : Int) ∧ Hid (fo (prmAt is rf ps) i (ps.length - i) = X) ∧ Hid (Below w0.heap.size w0 wr)) (fun iv _ => ps.length - (intOf iv).toNat)
  case atStart => exact ⟨0, Nat.zero_le _, rfl, HX0.out, Below.refl _ _⟩
  case round =>
    rename World => wi
    obtain ⟨i, hil, rfl, HF, HB⟩ := hrel
    have HBW : Hid (Below w.heap.size w wi) := below_next HW1.out HB.out
    obtain ⟨g0, g3⟩ := HC1.out wi HB.out
    have gz : w.heap.size < wi.heap.size := by have h1 := hsz0.out; have h2 := HB.out.size; omega
    by_cases hlt : i < ps.length
    · have hlt' : (i : Int) < (ps.length : Int) := by omega
      obtain ⟨pb, po, mu, pk, pn, pm, PA, pl, PC', hP, hrw⟩ := WP.out i hlt
      subst hP
      have hst := fo_step (R := prmAt is rf ps) hlt
      rw [HE.out i hlt] at hst
      have HRT : Hid (∀ w', Below w0.heap.size w0 w' → Calls Tryz.prog 8 #[.slice A is.length C, .agg #[.int .i64 pk, .string pn, .int .i64 pm, .slice PA pl PC'], .bool rf] w' fun e w'' => e = .returned (.int .i64 (tyE is (ps[i]'hlt).t rf)) ∧ Below w'.heap.size w' w'') := fun w' hw => (hrw w' (below_next HW1.out hw)).2
      have HRW : Hid (∀ w', Below w0.heap.size w0 w' → RowAt w' pb (po + i * 7) [.string (ps[i]'hlt).s, .bool mu, .int .i64 pk, .string pn, .int .i64 pm, .slice PA pl PC', .int .i64 (ps[i]'hlt).a]) := fun w' hw => (hrw w' (below_next HW1.out hw)).1
      have HNM : Hid (∀ q (hq : q < ps.length), ∀ w', Below w0.heap.size w0 w' → w'.cell? ⟨pb, po + q * 7, none⟩ = some (.string (ps[q]'hq).s)) := fun q hq w' hw => by
        obtain ⟨pb2, po2, _, _, _, _, _, _, _, hP2, h2⟩ := WP.out q hq
        simp only [Option.some.injEq, Addr.mk.injEq, and_true] at hP2
        obtain ⟨rfl, rfl⟩ := hP2
        exact (h2 w' (below_next HW1.out hw)).1.2 0 _ rfl
      have HST : Hid (fo (prmAt is rf ps) i (ps.length - i) = ((if isIn (ps[i]'hlt).s ((ps.take i).map (·.s)) = true then some ((ps[i]'hlt).a, 40) else none).or (nz (ps[i]'hlt).a (tyE is (ps[i]'hlt).t rf))).or (fo (prmAt is rf ps) (i + 1) (ps.length - (i + 1)))) := hst
      have HMEM : Hid (∀ q (hq : q < ps.length), q < i → (ps[q]'hq).s = (ps[i]'hlt).s → isIn (ps[i]'hlt).s ((ps.take i).map (·.s)) = true) := fun q hq hqi e => by
        rw [isIn_iff, ← e]
        exact List.mem_map.2 ⟨ps[q], List.mem_take_iff_getElem.2 ⟨q, by omega, rfl⟩, rfl⟩
      have HTK : Hid (∀ q (hq : q < ps.length), isIn (ps[i]'hlt).s ((ps.take (q + 1)).map (·.s)) = (isIn (ps[i]'hlt).s ((ps.take q).map (·.s)) || decide ((ps[i]'hlt).s = (ps[q]'hq).s))) := fun q hq => by
        rw [take_names _ ps q hq, isIn, isIn, List.any_append]
        simp
      generalize tyE is (ps[i]'hlt).t rf = E at HRT HST
      have HNI : Hid (∀ w', Below w0.heap.size w0 w' → w'.cell? ⟨pb, po + i * 7, none⟩ = some (.string (ps[i]'hlt).s)) := HNM.out i hlt
      generalize (ps[i]'hlt).s = nm at HRW HST HMEM HTK HNI
      generalize (ps[i]'hlt).a = aa at HRW HST
      clear hst hrw
      go_wp2
      go_loopw [7] (fun kv wz => ∃ k : Nat, k ≤ i ∧ kv = .int .i64 (k : Int) ∧ Hid (isIn nm ((ps.take k).map (·.s)) = false) ∧ Hid (Below w0.heap.size w0 wz)) (fun kv _ => i - (intOf kv).toNat)
      case atStart => exact ⟨0, Nat.zero_le _, rfl, rfl, HB.out⟩
      case round =>
        obtain ⟨k, hk, rfl, HK, HZ⟩ := hrel
        have ci := HNI.out wr HZ.out
        have c6 := (HRW.out wr HZ.out).2 6 _ rfl
        obtain ⟨z0, z3⟩ := HC1.out wr HZ.out
        have zz : w.heap.size < wr.heap.size := by have h1 := hsz0.out; have h2 := HZ.out.size; omega
        have HBZ : Hid (Below w.heap.size w wr) := below_next HW1.out HZ.out
        by_cases hkt : k < i
        · have hkt' : (k : Int) < (i : Int) := by omega
          have hkl : k < ps.length := by omega
          have hkl' : (k : Int) < (ps.length : Int) := by omega
          have ck := HNM.out k hkl wr HZ.out
          have hmem := HMEM.out k hkl hkt
          have htk := HTK.out k hkl
          generalize (ps[k]'hkl).s = nk at ck hmem htk
          by_cases hs : nk = nm
          · subst hs
            have HA : Hid (X = some (aa, 40)) := (show X = some (aa, 40) by rw [← HF.out, HST.out, if_pos (hmem rfl)]; rfl)
            clear hmem htk
            go_wp2
            go_quiet (fail)
            go_wp2
            exact bodyPost_ret (v := .tuple #[.int .i64 aa, .int .i64 40]) (by simp [results, Tryz.results35, go_sem]) rfl ⟨by rw [HA.out]; rfl, drew_below HBZ.out _⟩
          · obtain ⟨s1, s2⟩ := str_ne hs
            have HK2 : Hid (isIn nm ((ps.take (k + 1)).map (·.s)) = false) := (show _ = false by rw [htk, HK.out, Bool.false_or]; exact decide_eq_false (fun e => hs e.symm))
            clear hs hmem htk
            go_wp2
            go_quiet (fail)
            go_wp2
            go_roundw
            case rel => exact ⟨k + 1, by omega, by go_num, HK2.out, drew_below HZ.out _⟩
            case measure => simp [intOf]; omega
        · obtain rfl : k = i := by omega
          have HX2 : Hid ((nz aa E).or (fo (prmAt is rf ps) (k + 1) (ps.length - (k + 1))) = X) := (show _ = X by rw [← HF.out, HST.out, HK.out]; rfl)
          have HCL : Hid (∀ w', Below w0.heap.size w0 w' → w'.cell? ⟨w.heap.size, 0, none⟩ = some (.int .i64 kk) ∧ w'.cell? ⟨w.heap.size, 3, none⟩ = some (.slice (some ⟨pb, po, none⟩) ps.length PC) ∧ w'.cell? ⟨pb, po + k * 7 + 2, none⟩ = some (.int .i64 pk) ∧ w'.cell? ⟨pb, po + k * 7 + 2 + 1, none⟩ = some (.string pn) ∧ w'.cell? ⟨pb, po + k * 7 + 2 + 2, none⟩ = some (.int .i64 pm) ∧ w'.cell? ⟨pb, po + k * 7 + 2 + 3, none⟩ = some (.slice PA pl PC') ∧ Hid (Below w0.heap.size w0 w')) := fun w' hw => by
            have r := (HRW.out w' hw).2
            obtain ⟨h0, h3⟩ := HC1.out w' hw
            exact ⟨h0, h3, r 2 _ rfl, r 3 _ rfl, r 4 _ rfl, r 5 _ rfl, hw⟩
          clear HST HMEM HTK
          go_wp2
          go_region_held3 (fun w' => w'.cell? ⟨w.heap.size, 0, none⟩ = some (.int .i64 kk) ∧ w'.cell? ⟨w.heap.size, 3, none⟩ = some (.slice (some ⟨pb, po, none⟩) ps.length PC) ∧ w'.cell? ⟨pb, po + k * 7 + 2, none⟩ = some (.int .i64 pk) ∧ w'.cell? ⟨pb, po + k * 7 + 2 + 1, none⟩ = some (.string pn) ∧ w'.cell? ⟨pb, po + k * 7 + 2 + 2, none⟩ = some (.int .i64 pm) ∧ w'.cell? ⟨pb, po + k * 7 + 2 + 3, none⟩ = some (.slice PA pl PC') ∧ Hid (Below w0.heap.size w0 w'))
            (first
              | exact HCL.out _ (HZ.out.drew)
              | exact HCL.out _ OO.out)
            (first
              | (go_at_call 8; refine (HRT.out _ (Hid.out (And.right (And.right (And.right (And.right (And.right (And.right (by assumption)))))))) ).mono ?_; rintro e' w1 ⟨rfl, hb1⟩; have OO : Hid (Below w0.heap.size w0 w1) := below_next (Hid.out (And.right (And.right (And.right (And.right (And.right (And.right (by assumption)))))))) hb1; clear hb1))
          all_goals (
            by_cases hE0 : E = 0
            · subst hE0
              go_wp2_with fail
              go_roundw
              case rel => exact ⟨k + 1, by omega, by go_num, (show _ = X by have h := HX2.out; simpa [nz] using h), OO.out⟩
              case measure => simp [intOf]; omega
            · have hE1 : (E == 0) = false := by simpa using hE0
              have hE2 : (E != 0) = true := by simpa using hE0
              have HA : Hid (X = some (aa, E)) := (show X = some (aa, E) by rw [← HX2.out, nz, if_neg hE0]; rfl)
              obtain ⟨m0, m3⟩ := HC1.out _ OO.out
              have m6 := (HRW.out _ OO.out).2 6 _ rfl
              go_wp2_with fail
              exact bodyPost_ret (v := .tuple #[.int .i64 aa, .int .i64 E]) (by simp [results, Tryz.results35, go_sem]) rfl ⟨by rw [HA.out]; rfl, below_next HW1.out OO.out⟩)
    · obtain rfl : i = ps.length := by omega
      have HA : Hid (X = none) := (show X = none by rw [← HF.out, Nat.sub_self]; rfl)
      go_wp2
      exact bodyPost_ret (v := .tuple #[.int .i64 0, .int .i64 0]) (by simp [results, Tryz.results35, go_sem]) rfl ⟨by rw [HA.out]; rfl, HBW.out⟩

end Go.Proofs.YtjdkoahbahecoaaGreatDoor
