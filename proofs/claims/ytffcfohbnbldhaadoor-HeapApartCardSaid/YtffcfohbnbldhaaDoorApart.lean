/-
  Proved: HeapApart answers true of every two lists of numbers that lie in memory.
-/
import Derived.Test.YtffcfohbnbldhaaDoorCut
import Derived.Test.YtffcfohbnbldhaaDoorClasses
import Derived.Test.YtffcfohbnbldhaaDoorFillsW
namespace Go.Proofs.YtffcfohbnbldhaaDoor
open Go.RowKit

def adA1 (p : Nat × Nat) : Int := adr p.1 p.2
def szA (p : Nat × Nat) : Int := (sz p.1 : Int)
def clA (p : Nat × Nat) : Int := (p.1 : Int)

set_option maxRecDepth 4000 in
set_option maxHeartbeats 8000000 in
theorem apart_walk (sizes frees : List Int) (A B : Option Addr) (C D : Nat) (w : World) (ht : Tab w) (hA : RowsIn w 1 iL sizes A) (hB : RowsIn w 1 iL frees B) (hl : sizes.length ≤ 9223372036854775807) : Calls Tryd.prog 5 #[.slice A sizes.length C, .slice B frees.length D] w fun e w' => e = .returned (.bool true) ∧ Below w.heap.size w w' := by
  have T : Hid (Tab w) := ht
  have RA : Hid (RowsIn w 1 iL sizes A) := hA
  have RB : Hid (RowsIn w 1 iL frees B) := hB
  clear ht hA hB
  go_enter Tryd.func5, Tryd.ntmps5
  go_wp2_with (go_at_call 8; refine (new_c _ T.out).mono ?_; rintro e w1 ⟨g, rfl, hw1, hH⟩; have N1 : Hid (Below w.heap.size w w1) := hw1; have H1 : Hid (HIn w1 w.heap.size g (fun _ _ => false)) := hH; have T1 : Hid (Tab w1) := T.out.below hw1 T.out.lt; clear hw1 hH)
  have PS : Hid (AM w w.heap.size g w1.heap.size (fun _ _ => false) ((([] : List (Nat × Nat))).map adA1) (.slice none 0 0) ((([] : List (Nat × Nat))).map szA) (.slice none 0 0) ((([] : List (Nat × Nat))).map clA) (.slice none 0 0) w1) :=
    ⟨H1.out, ⟨Nat.le_refl _, by simp, Or.inl ⟨rfl, rfl⟩⟩, ⟨Nat.le_refl _, by simp, Or.inl ⟨rfl, rfl⟩⟩, ⟨Nat.le_refl _, by simp, Or.inl ⟨rfl, rfl⟩⟩, (fun _ h => by cases h), (fun _ h => by cases h), (fun _ h => by cases h), N1.out, T1.out, (H1.out.rows 3 (by omega)).lt, Nat.le_refl _, T.out.lt⟩
  clear N1 H1 T1
  go_loopw [6, 7, 8, 9] (fun av lv cv i wr => ∃ (k : Nat) (us : Nat → Nat → Bool) (bs : List (Nat × Nat)), k ≤ sizes.length ∧ k ≤ 150 ∧ i = .int .i64 (k : Int) ∧ AM w w.heap.size g w1.heap.size us ((bs).map adA1) av ((bs).map szA) lv ((bs).map clA) cv wr ∧ Rel us bs ∧ bs.length ≤ k) (fun _ _ _ i _ => 150 - (intOf i).toNat)
  case atStart => exact ⟨0, _, [], by omega, by omega, rfl, PS.out, Rel.start, by simp⟩
  case round =>
    obtain ⟨k, us, bs, hk1, hk2, rfl, hP, hR, hbl⟩ := hrel
    have P : Hid (AM w w.heap.size g w1.heap.size us ((bs).map adA1) _ ((bs).map szA) _ ((bs).map clA) _ wr) := hP
    have RR : Hid (Rel us bs) := hR
    clear PS hP hR
    by_cases hk3 : k < sizes.length ∧ k < 150
    · obtain ⟨hk3, hk4⟩ := hk3
      have hkz : (k : Int) < sizes.length := by omega
      have hkz2 : (k : Int) < 150 := by omega
      obtain ⟨b, o, hAe, hrow⟩ := RA.out k hk3
      subst hAe
      have c0 := (hrow.below P.out.b).2 0 _ rfl
      simp only [Nat.add_zero, Nat.mul_one] at c0
      clear hrow
      generalize sizes[k] = sk at c0
      obtain ⟨m, hm, hm'⟩ : ∃ m : Nat, sk % 128 = (m : Int) ∧ m ≤ 127 := ⟨(sk % 128).toNat, by omega, by omega⟩
      have hand := and127 sk
      rw [hm] at hand
      clear hm
      have CM : Hid (∀ w, Tab w → Calls Tryd.prog 14 #[.int .i64 (m : Int)] w fun e w' => e = .returned (.tuple #[.int .i64 (clsN m : Int), .int .i64 (sz (clsN m) : Int), .int .i64 (bl (clsN m) : Int), .int .i64 0]) ∧ Below w.heap.size w w') := fun w ht => class_n m (by omega) w ht
      have CO : Hid (clsOf (m : Int) = some (clsN m)) := clsOf_nat m (by omega)
      have hc := clsN_lt m
      have hz := clsN_sz m (by omega)
      generalize clsN m = c at *
      have hsp := span_le c
      have hcz : (c : Int) < 4 := by omega
      obtain ⟨AA, AC, hav, hsha⟩ := P.out.a.shape
      obtain ⟨LA, LC, hlv, hshl⟩ := P.out.l.shape
      obtain ⟨CA, CC, hcv, hshc⟩ := P.out.c.shape
      rw [List.length_map] at hav hlv hcv hsha hshl hshc
      subst hav hlv hcv
      have hzz : ¬ (sz c : Int) < (m : Int) := by omega
      go_wp2_with (go_at_call 14; refine (CM.out _ P.out.tab).mono ?_; rintro e w2 ⟨rfl, hw2⟩; have P2 : Hid (AM w w.heap.size g w1.heap.size us ((bs).map adA1) _ ((bs).map szA) _ ((bs).map clA) _ w2) := P.out.below hw2; clear hw2)
      go_loopw [15, 16] (fun lv j wz => ∃ i : Nat, i ≤ bs.length ∧ j = .int .i64 (i : Int) ∧ lv = .int .i64 (cb bs (c : Int) i : Int) ∧ wz = w2) (fun _ j _ => bs.length - (intOf j).toNat)
      case atStart => exact ⟨0, by omega, rfl, rfl, rfl⟩
      case round =>
        obtain ⟨i, hi, rfl, rfl, hwz⟩ := hrel
        rw [hwz]
        clear hwz wr
        have CL := cb_le bs (c : Int) i
        rcases Nat.lt_or_ge i bs.length with hi' | hi'
        · have hiz : (i : Int) < bs.length := by omega
          obtain ⟨CB, rfl, _, _, _⟩ := hshc (by omega)
          have h0 := P2.out.c.icell i (by rw [List.length_map]; exact hi')
          rw [List.getElem_map] at h0
          have hg : bs.getD i (0, 0) = bs[i] := by rw [List.getD_eq_getElem?_getD, List.getElem?_eq_getElem hi']; rfl
          have CS : Hid (cb bs (c : Int) (i + 1) = cb bs (c : Int) i + if clA bs[i] = (c : Int) then 1 else 0) := by rw [← hg]; rfl
          generalize clA bs[i] = y at *
          by_cases hy : y = (c : Int)
          · subst hy
            go_wp2
            go_roundw
            case rel => exact ⟨i + 1, by omega, by go_num, by rw [CS.out, if_pos rfl]; go_num, trivial⟩
            case measure => simp [intOf]; omega
          · have hy' : (y == (c : Int)) = false := by simpa using hy
            go_wp2
            go_roundw
            case rel => exact ⟨i + 1, by omega, by go_num, by rw [CS.out, if_neg hy]; rfl, trivial⟩
            case measure => simp [intOf]; omega
        · have hiz : ¬ (i : Int) < bs.length := by omega
          obtain rfl : i = bs.length := by omega
          clear c0
          have CF0 : k < frees.length → ∃ fb fo fk, B = some ⟨fb, fo, none⟩ ∧ ∀ W, Below w.heap.size w W → W.cell? ⟨fb, fo + k, none⟩ = some (.int .i64 fk) := fun h => by
            obtain ⟨fb, fo, e, h2⟩ := RB.out k h
            refine ⟨fb, fo, frees[k], e, fun W hW => ?_⟩
            have := (h2.below hW).2 0 _ rfl
            simpa using this
          cases hfr : fr us c with
          | none =>
            by_cases hf1 : k < frees.length
            · obtain ⟨fb, fo, fk, hBe, hCF⟩ := CF0 hf1
              have CF : Hid (∀ W, Below w.heap.size w W → W.cell? ⟨fb, fo + k, none⟩ = some (.int .i64 fk)) := hCF
              clear CF0 hCF
              subst hBe
              have ha3 : bits .and .i64 fk 3 = fk % 4 := and_mask fk 2 (by decide)
              by_cases hf2 : fk % 4 = 0
              · rw [hf2] at ha3
                clear hf2
                as_aux_lemma =>
                  have hcnt : cnt us c (bl c) = bl c := cnt_all (fr_none hfr)
                  have hli : liA us (c : Int) = bl c := by unfold liA; rw [if_neg (by omega)]; exact hcnt
                  have hL : cb bs (c : Int) bs.length = bl c := by rw [← RR.out.live]; exact hli
                  have hbp : 0 < bs.length := by have := cb_le bs (c : Int) bs.length; omega
                  rw [hL]
                  obtain ⟨AB, rfl, _, _, hAC⟩ := hsha hbp
                  obtain ⟨LB, rfl, _, _, hLC⟩ := hshl hbp
                  obtain ⟨CB, rfl, _, _, hCC⟩ := hshc hbp
                  have RN : Hid (Rel us bs) := RR.out
                  have KA : Hid (Calls Tryd.prog 10 #[.pointer (some ⟨w.heap.size, 0, none⟩), .int .i64 (m : Int)] w2 fun e w' => e = .returned (.tuple #[.int .i64 0, .int .i64 12]) ∧ HIn w' w.heap.size g us ∧ Kp (Gs g) w2 w') := by
                    have := alloc_c P2.out.h (m : Int) P2.out.tab
                    rw [CO.out, show alA us (some c) = (0, 12, us) by show alR us c (fr us c) = _; rw [hfr]; rfl] at this
                    exact this
                  have KL : Hid (∀ W, HIn W w.heap.size g us → Calls Tryd.prog 16 #[.pointer (some ⟨w.heap.size, 0, none⟩), .int .i64 (c : Int)] W fun e w' => e = .returned (.int .i64 (bl c : Int)) ∧ Below W.heap.size W w') := fun W h => by
                    have := live_c h (c : Int)
                    rw [hli] at this
                    exact this
                  have P2b : Hid (AM w w.heap.size g w1.heap.size us (bs.map adA1) (.slice (some ⟨AB, 0, none⟩) bs.length AC) (bs.map szA) (.slice (some ⟨LB, 0, none⟩) bs.length LC) (bs.map clA) (.slice (some ⟨CB, 0, none⟩) bs.length CC) w2) := P2.out
                  clear hcnt hli hL hfr CL hsha hshl hshc
                  have hfz : (k : Int) < frees.length := by omega
                  obtain ⟨t, ht1, ht2⟩ := turn_of fk (bs.length : Int) (by omega) (by omega)
                  have htn : t < bs.length := by omega
                  have htl : t < bs.length := by omega
                  have htz : (t : Int) < (bs.length : Int) := by omega
                  have htz1 : (t : Int) + 1 ≤ (bs.length : Int) := by omega
                  have hnp : ¬ (bs.length : Int) = 0 := by omega
                  have hnp2 : (0 : Int) < (bs.length : Int) := by omega
                  obtain ⟨hut, RC⟩ := RN.out.cut t htl
                  have hpt := RN.out.ok _ (List.getElem_mem htl)
                  have RC2 : Hid (Rel (upd us bs[t].1 bs[t].2 false) (bs.take t ++ bs.drop (t + 1))) := RC
                  obtain ⟨Y, hY⟩ : ∃ Y, Y = adr bs[t].1 bs[t].2 := ⟨_, rfl⟩
                  have e1 := free_once (us := us) bs[t].1 bs[t].2 hpt.1 hpt.2 hut
                  have e2 := free_twice (us := upd us bs[t].1 bs[t].2 false) bs[t].1 bs[t].2 hpt.1 hpt.2 (upd_self _ _ _ _)
                  have e3 := within_not (us := upd us bs[t].1 bs[t].2 false) bs[t].1 bs[t].2 1 hpt.1 hpt.2 (upd_self _ _ _ _)
                  have GY : Hid (∀ (i : Nat) (h : i < (bs.map adA1).length), i = t → (bs.map adA1)[i] = Y) := fun i h e => by subst e; rw [List.getElem_map, hY]; rfl
                  rw [← hY] at e1 e2 e3
                  have KF1 : Hid (∀ W, HIn W w.heap.size g us → Tab W → Calls Tryd.prog 12 #[.pointer (some ⟨w.heap.size, 0, none⟩), .int .i64 Y] W fun e w' => e = .returned (.int .i64 0) ∧ HIn w' w.heap.size g (upd us bs[t].1 bs[t].2 false) ∧ Kp (Gs g) W w') := fun W h1 h2 => by
                    have := free_c h1 Y h2
                    rw [e1] at this
                    exact this
                  have KF2 : Hid (∀ W, HIn W w.heap.size g (upd us bs[t].1 bs[t].2 false) → Tab W → Calls Tryd.prog 12 #[.pointer (some ⟨w.heap.size, 0, none⟩), .int .i64 Y] W fun e w' => e = .returned (.int .i64 13) ∧ HIn w' w.heap.size g (upd us bs[t].1 bs[t].2 false) ∧ Kp (Gs g) W w') := fun W h1 h2 => by
                    have := free_c h1 Y h2
                    rw [e2] at this
                    exact this
                  have KW : Hid (∀ W, HIn W w.heap.size g (upd us bs[t].1 bs[t].2 false) → Tab W → Calls Tryd.prog 18 #[.pointer (some ⟨w.heap.size, 0, none⟩), .int .i64 Y, .int .i64 1] W fun e w' => e = .returned (.bool false) ∧ Below W.heap.size W w') := fun W h1 h2 => by
                    have := within_c h1 Y 1 h2
                    rw [e3] at this
                    exact this
                  clear e1 e2 e3 hut RC hY
                  go_wp2_with (first
                  | (go_at_call 10; refine KA.out.mono ?_; rintro e w3 ⟨rfl, h3, k3⟩; have P3 : Hid (AM w w.heap.size g w1.heap.size us (bs.map adA1) (.slice (some ⟨AB, 0, none⟩) bs.length AC) (bs.map szA) (.slice (some ⟨LB, 0, none⟩) bs.length LC) (bs.map clA) (.slice (some ⟨CB, 0, none⟩) bs.length CC) w3) := P2b.out.byH h3 k3; clear h3 k3)
                  | (go_at_call 16; refine (KL.out _ P3.out.h).mono ?_; rintro e w4 ⟨rfl, h4⟩; have P4 : Hid (AM w w.heap.size g w1.heap.size us (bs.map adA1) (.slice (some ⟨AB, 0, none⟩) bs.length AC) (bs.map szA) (.slice (some ⟨LB, 0, none⟩) bs.length LC) (bs.map clA) (.slice (some ⟨CB, 0, none⟩) bs.length CC) w4) := P3.out.below h4; have cf := CF.out _ P4.out.b; have ce : w4.cell? ⟨AB, t, none⟩ = some (.int .i64 Y) := (by have q := P4.out.a.icell t (by rw [List.length_map]; exact htl); rw [GY.out t _ rfl] at q; exact q); clear h4)
                  | (go_at_call 18; refine (KW.out _ PF2.out.h PF2.out.tab).mono ?_; rintro e w7 ⟨rfl, h9⟩; have PF3 : Hid (AM w w.heap.size g w1.heap.size (upd us bs[t].1 bs[t].2 false) (bs.map adA1) (.slice (some ⟨AB, 0, none⟩) bs.length AC) (bs.map szA) (.slice (some ⟨LB, 0, none⟩) bs.length LC) (bs.map clA) (.slice (some ⟨CB, 0, none⟩) bs.length CC) w7) := PF2.out.below h9; clear h9)
                  | (go_at_call 12; have M' := PF1; refine (KF2.out _ PF1.out.h PF1.out.tab).mono ?_; rintro e w6 ⟨rfl, h9, h10⟩; have PF2 : Hid (AM w w.heap.size g w1.heap.size (upd us bs[t].1 bs[t].2 false) (bs.map adA1) (.slice (some ⟨AB, 0, none⟩) bs.length AC) (bs.map szA) (.slice (some ⟨LB, 0, none⟩) bs.length LC) (bs.map clA) (.slice (some ⟨CB, 0, none⟩) bs.length CC) w6) := PF1.out.byH h9 h10; have ce : w6.cell? ⟨AB, t, none⟩ = some (.int .i64 Y) := (by have q := PF2.out.a.icell t (by rw [List.length_map]; exact htl); rw [GY.out t _ rfl] at q; exact q); clear h9 h10 M')
                  | (go_at_call 12; refine (KF1.out _ P4.out.h P4.out.tab).mono ?_; rintro e w5 ⟨rfl, h9, h10⟩; have PF1 : Hid (AM w w.heap.size g w1.heap.size (upd us bs[t].1 bs[t].2 false) (bs.map adA1) (.slice (some ⟨AB, 0, none⟩) bs.length AC) (bs.map szA) (.slice (some ⟨LB, 0, none⟩) bs.length LC) (bs.map clA) (.slice (some ⟨CB, 0, none⟩) bs.length CC) w5) := P4.out.byH h9 h10; have ce : w5.cell? ⟨AB, t, none⟩ = some (.int .i64 Y) := (by have q := PF1.out.a.icell t (by rw [List.length_map]; exact htl); rw [GY.out t _ rfl] at q; exact q); clear h9 h10))
                  obtain ⟨Qa, hQa⟩ : ∃ q, (if AC = t + 1 then some (⟨AB, 0, none⟩ : Addr) else some ⟨AB, t + 1, none⟩) = some q := by split <;> exact ⟨_, rfl⟩
                  have HQa : Hid ((if AC = t + 1 then some (⟨AB, 0, none⟩ : Addr) else some ⟨AB, t + 1, none⟩) = some Qa) := hQa
                  clear hQa
                  have RLa : Hid ((bs.map adA1).length = bs.length) := (by rw [List.length_map] : (bs.map adA1).length = bs.length)
                  have OWa : Hid (OwnB 3 1 iL w1.heap.size (bs.map adA1) (.slice (some ⟨AB, 0, none⟩) (bs.map adA1).length AC) w7) := (by rw [RLa.out]; exact PF3.out.a : OwnB 3 1 iL w1.heap.size (bs.map adA1) (.slice (some ⟨AB, 0, none⟩) (bs.map adA1).length AC) w7)
                  have TLa : Hid (((bs.map adA1).take t).length = t) := (by rw [List.length_take, RLa.out]; omega : ((bs.map adA1).take t).length = t)
                  have DLa : Hid (((bs.map adA1).drop (t + 1)).length = bs.length - (t + 1)) := (by rw [List.length_drop, RLa.out] : ((bs.map adA1).drop (t + 1)).length = bs.length - (t + 1))
                  have T1a : Hid (∀ j u, (((bs.map adA1).take t).flatMap iL)[j]? = some u → (w7.drew.alloc (.cells #[] 3)).cell? ((⟨AB, 0, none⟩ : Addr).add j) = some u) := cut_take w7 OWa.out t
                  have F5Fa : Hid (∀ v5 w5, OwnB 3 1 iL w7.heap.size ([] ++ (bs.map adA1).take t) v5 w5 → Below w7.heap.size (w7.drew.alloc (.cells #[] 3)) w5 → Below w7.heap.size w7 w5 ∧ OwnB 3 1 iL w7.heap.size ((bs.map adA1).take t) v5 w5 ∧ (∀ j u, (((bs.map adA1).drop (t + 1)).flatMap iL)[j]? = some u → w5.cell? (Qa.add j) = some u)) := fun v5 w5 h5 k5 => cut_one w7 OWa.out t Qa HQa.out (by rw [RLa.out]; omega) v5 w5 h5 k5
                  refine wp_region_any (by kernel_rfl) ?_
                  change wpAny _ _ _ _ _ _ _ (World.drew _)
                  refine wpAny_take (i := 1) (v := .slice (some ⟨AB, 0, none⟩) bs.length AC) rfl (by kernel_rfl) (by kernel_rfl) (by kernel_rfl) (fun _ _ _ h => h) (Or.inl ⟨by rfl, ?_⟩) ?_
                  · intro w'; go_simp
                  (try simp only [Act.put, List.getElem_toArray, List.getElem_cons_succ, List.getElem_cons_zero, List.setIfInBounds_toArray, List.set_cons_zero, List.set_cons_succ])
                  refine wpAny_take (i := 2) (v := .int .i64 (t : Int)) rfl (by kernel_rfl) (by kernel_rfl) (by kernel_rfl) (fun _ _ _ h => h) (Or.inl ⟨by rfl, ?_⟩) ?_
                  · intro w'; go_simp
                  (try simp only [Act.put, List.getElem_toArray, List.getElem_cons_succ, List.getElem_cons_zero, List.setIfInBounds_toArray, List.set_cons_zero, List.set_cons_succ])
                  refine wpAny_take (i := 3) (v := .slice (some ⟨AB, 0, none⟩) t AC) rfl (by kernel_rfl) (by kernel_rfl) (by kernel_rfl) (fun _ _ _ h => h) (Or.inl ⟨by rfl, ?_⟩) ?_
                  · intro w'; go_simp; intro h; exfalso; omega
                  (try simp only [Act.put, List.getElem_toArray, List.getElem_cons_succ, List.getElem_cons_zero, List.setIfInBounds_toArray, List.set_cons_zero, List.set_cons_succ])
                  refine wpAny_take (i := 5) (v := .slice (some ⟨AB, 0, none⟩) bs.length AC) rfl (by kernel_rfl) (by kernel_rfl) (by kernel_rfl) (fun _ _ _ h => h) (Or.inl ⟨by rfl, ?_⟩) ?_
                  · intro w'; go_simp
                  (try simp only [Act.put, List.getElem_toArray, List.getElem_cons_succ, List.getElem_cons_zero, List.setIfInBounds_toArray, List.set_cons_zero, List.set_cons_succ])
                  refine wpAny_take (i := 6) (v := .int .i64 (t : Int)) rfl (by kernel_rfl) (by kernel_rfl) (by kernel_rfl) (fun _ _ _ h => h) (Or.inl ⟨by rfl, ?_⟩) ?_
                  · intro w'; go_simp
                  (try simp only [Act.put, List.getElem_toArray, List.getElem_cons_succ, List.getElem_cons_zero, List.setIfInBounds_toArray, List.set_cons_zero, List.set_cons_succ])
                  refine wpAny_take (i := 7) (v := .int .i64 ((t : Int) + 1)) rfl (by kernel_rfl) (by kernel_rfl) (by kernel_rfl) (fun _ _ _ h => h) (Or.inl ⟨by rfl, ?_⟩) ?_
                  · intro w'; go_simp; exact wrap_in _ ⟨by omega, by omega⟩
                  (try simp only [Act.put, List.getElem_toArray, List.getElem_cons_succ, List.getElem_cons_zero, List.setIfInBounds_toArray, List.set_cons_zero, List.set_cons_succ])
                  refine wpAny_take (i := 8) (v := .slice (some Qa) (bs.length - (t + 1)) (AC - (t + 1))) rfl (by kernel_rfl) (by kernel_rfl) (by kernel_rfl) (fun _ _ _ h => h) (Or.inl ⟨by rfl, ?_⟩) ?_
                  · intro w'; go_simp; rw [if_pos (by omega), HQa.out]
                  (try simp only [Act.put, List.getElem_toArray, List.getElem_cons_succ, List.getElem_cons_zero, List.setIfInBounds_toArray, List.set_cons_zero, List.set_cons_succ])
                  refine wpAny_ready (rs := [0]) (by kernel_rfl) (by simp) ?_
                  refine AllReady.cons rfl (fun K hK => ?_) AllReady.nil
                  go_simp
                  refine hK _ _ ?_; clear hK K
                  (try simp only [Act.put, List.getElem_toArray, List.getElem_cons_succ, List.getElem_cons_zero, List.setIfInBounds_toArray, List.set_cons_zero, List.set_cons_succ])
                  have EAa : Hid (OwnB 3 1 iL w7.heap.size [] (.slice (some ⟨w7.heap.size, 0, none⟩) 0 0) (w7.drew.alloc (.cells #[] 3))) := OwnB.fresh (At.newS _ _ _ rfl) (Nat.le_refl _)
                  refine wpAny_ready (rs := [4]) (by kernel_rfl) (by simp) ?_
                  refine AllReady.cons rfl (fun K hK => ?_) AllReady.nil
                  rw [if_pos (by rfl)]
                  refine OwnB.append 30 3 iL _ 1 8 info3 Tryd.underlying30 rfl (by decide) (by decide) iL_len iL_one _ _ _ rfl _ rfl w7.heap.size [] ((bs.map adA1).take t) EAa.out ⟨AB, 0, none⟩ AC (by rw [TLa.out]; rfl) T1a.out (by rw [TLa.out]; simp; omega) ?_
                  intro v5a w5a h5 k5
                  obtain ⟨A5a, C5a, rfl, _⟩ := h5.done iL_len
                  have F5a : Hid (Below w7.heap.size w7 w5a ∧ OwnB 3 1 iL w7.heap.size ((bs.map adA1).take t) (.slice A5a ([] ++ (bs.map adA1).take t).length C5a) w5a ∧ (∀ j u, (((bs.map adA1).drop (t + 1)).flatMap iL)[j]? = some u → w5a.cell? (Qa.add j) = some u)) := F5Fa.out _ _ h5 k5
                  clear h5 k5
                  generalize ([] ++ (bs.map adA1).take t).length = LNa at F5a ⊢
                  refine hK _ _ ?_; clear hK K
                  (try simp only [Act.put, List.getElem_toArray, List.getElem_cons_succ, List.getElem_cons_zero, List.setIfInBounds_toArray, List.set_cons_zero, List.set_cons_succ])
                  refine wpAny_ready (rs := [9]) (by kernel_rfl) (by simp) ?_
                  refine AllReady.cons rfl (fun K hK => ?_) AllReady.nil
                  rw [if_pos (by rfl)]
                  refine OwnB.append 30 3 iL _ 1 8 info3 Tryd.underlying30 rfl (by decide) (by decide) iL_len iL_one _ _ _ rfl _ rfl w7.heap.size ((bs.map adA1).take t) ((bs.map adA1).drop (t + 1)) F5a.out.2.1 Qa (AC - (t + 1)) (by rw [DLa.out]; rfl) F5a.out.2.2 (by rw [TLa.out, DLa.out]; omega) ?_
                  intro v6a w6a h6 k6
                  obtain ⟨A6a, C6a, rfl, _⟩ := h6.done iL_len
                  have F6a : Hid (OwnB 3 1 iL w7.heap.size ((bs.map adA1).take t ++ (bs.map adA1).drop (t + 1)) (.slice A6a ((bs.map adA1).take t ++ (bs.map adA1).drop (t + 1)).length C6a) w6a ∧ Below w7.heap.size w7 w6a) := ⟨h6, F5a.out.1.trans k6⟩
                  clear h6 k6
                  generalize ((bs.map adA1).take t ++ (bs.map adA1).drop (t + 1)).length = LMa at F6a ⊢
                  refine hK _ _ ?_; clear hK K
                  (try simp only [Act.put, List.getElem_toArray, List.getElem_cons_succ, List.getElem_cons_zero, List.setIfInBounds_toArray, List.set_cons_zero, List.set_cons_succ])
                  refine wpAny_take (i := 10) (v := .slice A6a LMa C6a) rfl (by kernel_rfl) (by kernel_rfl) (by kernel_rfl) (fun _ _ _ h => h) (Or.inl ⟨by rfl, ?_⟩) ?_
                  · intro w'; go_simp
                  (try simp only [Act.put, List.getElem_toArray, List.getElem_cons_succ, List.getElem_cons_zero, List.setIfInBounds_toArray, List.set_cons_zero, List.set_cons_succ])
                  refine wpAny_done (by kernel_rfl) ?_ _
                  have PK : Hid (AM w w.heap.size g w1.heap.size (upd us bs[t].1 bs[t].2 false) (((bs.map adA1).take t ++ (bs.map adA1).drop (t + 1))) (.slice A6a LMa C6a) (bs.map szA) (.slice (some ⟨LB, 0, none⟩) bs.length LC) (bs.map clA) (.slice (some ⟨CB, 0, none⟩) bs.length CC) w6a) := PF3.out.byN F6a.out.1 F6a.out.2
                  clear F6a
                  go_wp2
                  obtain ⟨Ql, hQl⟩ : ∃ q, (if LC = t + 1 then some (⟨LB, 0, none⟩ : Addr) else some ⟨LB, t + 1, none⟩) = some q := by split <;> exact ⟨_, rfl⟩
                  have HQl : Hid ((if LC = t + 1 then some (⟨LB, 0, none⟩ : Addr) else some ⟨LB, t + 1, none⟩) = some Ql) := hQl
                  clear hQl
                  have RLl : Hid ((bs.map szA).length = bs.length) := (by rw [List.length_map] : (bs.map szA).length = bs.length)
                  have OWl : Hid (OwnB 3 1 iL w1.heap.size (bs.map szA) (.slice (some ⟨LB, 0, none⟩) (bs.map szA).length LC) w6a) := (by rw [RLl.out]; exact PK.out.l : OwnB 3 1 iL w1.heap.size (bs.map szA) (.slice (some ⟨LB, 0, none⟩) (bs.map szA).length LC) w6a)
                  have TLl : Hid (((bs.map szA).take t).length = t) := (by rw [List.length_take, RLl.out]; omega : ((bs.map szA).take t).length = t)
                  have DLl : Hid (((bs.map szA).drop (t + 1)).length = bs.length - (t + 1)) := (by rw [List.length_drop, RLl.out] : ((bs.map szA).drop (t + 1)).length = bs.length - (t + 1))
                  have T1l : Hid (∀ j u, (((bs.map szA).take t).flatMap iL)[j]? = some u → (w6a.drew.alloc (.cells #[] 3)).cell? ((⟨LB, 0, none⟩ : Addr).add j) = some u) := cut_take w6a OWl.out t
                  have F5Fl : Hid (∀ v5 w5, OwnB 3 1 iL w6a.heap.size ([] ++ (bs.map szA).take t) v5 w5 → Below w6a.heap.size (w6a.drew.alloc (.cells #[] 3)) w5 → Below w6a.heap.size w6a w5 ∧ OwnB 3 1 iL w6a.heap.size ((bs.map szA).take t) v5 w5 ∧ (∀ j u, (((bs.map szA).drop (t + 1)).flatMap iL)[j]? = some u → w5.cell? (Ql.add j) = some u)) := fun v5 w5 h5 k5 => cut_one w6a OWl.out t Ql HQl.out (by rw [RLl.out]; omega) v5 w5 h5 k5
                  refine wp_region_any (by kernel_rfl) ?_
                  change wpAny _ _ _ _ _ _ _ (World.drew _)
                  refine wpAny_take (i := 1) (v := .slice (some ⟨LB, 0, none⟩) bs.length LC) rfl (by kernel_rfl) (by kernel_rfl) (by kernel_rfl) (fun _ _ _ h => h) (Or.inl ⟨by rfl, ?_⟩) ?_
                  · intro w'; go_simp
                  (try simp only [Act.put, List.getElem_toArray, List.getElem_cons_succ, List.getElem_cons_zero, List.setIfInBounds_toArray, List.set_cons_zero, List.set_cons_succ])
                  refine wpAny_take (i := 2) (v := .int .i64 (t : Int)) rfl (by kernel_rfl) (by kernel_rfl) (by kernel_rfl) (fun _ _ _ h => h) (Or.inl ⟨by rfl, ?_⟩) ?_
                  · intro w'; go_simp
                  (try simp only [Act.put, List.getElem_toArray, List.getElem_cons_succ, List.getElem_cons_zero, List.setIfInBounds_toArray, List.set_cons_zero, List.set_cons_succ])
                  refine wpAny_take (i := 3) (v := .slice (some ⟨LB, 0, none⟩) t LC) rfl (by kernel_rfl) (by kernel_rfl) (by kernel_rfl) (fun _ _ _ h => h) (Or.inl ⟨by rfl, ?_⟩) ?_
                  · intro w'; go_simp; intro h; exfalso; omega
                  (try simp only [Act.put, List.getElem_toArray, List.getElem_cons_succ, List.getElem_cons_zero, List.setIfInBounds_toArray, List.set_cons_zero, List.set_cons_succ])
                  refine wpAny_take (i := 5) (v := .slice (some ⟨LB, 0, none⟩) bs.length LC) rfl (by kernel_rfl) (by kernel_rfl) (by kernel_rfl) (fun _ _ _ h => h) (Or.inl ⟨by rfl, ?_⟩) ?_
                  · intro w'; go_simp
                  (try simp only [Act.put, List.getElem_toArray, List.getElem_cons_succ, List.getElem_cons_zero, List.setIfInBounds_toArray, List.set_cons_zero, List.set_cons_succ])
                  refine wpAny_take (i := 6) (v := .int .i64 (t : Int)) rfl (by kernel_rfl) (by kernel_rfl) (by kernel_rfl) (fun _ _ _ h => h) (Or.inl ⟨by rfl, ?_⟩) ?_
                  · intro w'; go_simp
                  (try simp only [Act.put, List.getElem_toArray, List.getElem_cons_succ, List.getElem_cons_zero, List.setIfInBounds_toArray, List.set_cons_zero, List.set_cons_succ])
                  refine wpAny_take (i := 7) (v := .int .i64 ((t : Int) + 1)) rfl (by kernel_rfl) (by kernel_rfl) (by kernel_rfl) (fun _ _ _ h => h) (Or.inl ⟨by rfl, ?_⟩) ?_
                  · intro w'; go_simp; exact wrap_in _ ⟨by omega, by omega⟩
                  (try simp only [Act.put, List.getElem_toArray, List.getElem_cons_succ, List.getElem_cons_zero, List.setIfInBounds_toArray, List.set_cons_zero, List.set_cons_succ])
                  refine wpAny_take (i := 8) (v := .slice (some Ql) (bs.length - (t + 1)) (LC - (t + 1))) rfl (by kernel_rfl) (by kernel_rfl) (by kernel_rfl) (fun _ _ _ h => h) (Or.inl ⟨by rfl, ?_⟩) ?_
                  · intro w'; go_simp; rw [if_pos (by omega), HQl.out]
                  (try simp only [Act.put, List.getElem_toArray, List.getElem_cons_succ, List.getElem_cons_zero, List.setIfInBounds_toArray, List.set_cons_zero, List.set_cons_succ])
                  refine wpAny_ready (rs := [0]) (by kernel_rfl) (by simp) ?_
                  refine AllReady.cons rfl (fun K hK => ?_) AllReady.nil
                  go_simp
                  refine hK _ _ ?_; clear hK K
                  (try simp only [Act.put, List.getElem_toArray, List.getElem_cons_succ, List.getElem_cons_zero, List.setIfInBounds_toArray, List.set_cons_zero, List.set_cons_succ])
                  have EAl : Hid (OwnB 3 1 iL w6a.heap.size [] (.slice (some ⟨w6a.heap.size, 0, none⟩) 0 0) (w6a.drew.alloc (.cells #[] 3))) := OwnB.fresh (At.newS _ _ _ rfl) (Nat.le_refl _)
                  refine wpAny_ready (rs := [4]) (by kernel_rfl) (by simp) ?_
                  refine AllReady.cons rfl (fun K hK => ?_) AllReady.nil
                  rw [if_pos (by rfl)]
                  refine OwnB.append 30 3 iL _ 1 8 info3 Tryd.underlying30 rfl (by decide) (by decide) iL_len iL_one _ _ _ rfl _ rfl w6a.heap.size [] ((bs.map szA).take t) EAl.out ⟨LB, 0, none⟩ LC (by rw [TLl.out]; rfl) T1l.out (by rw [TLl.out]; simp; omega) ?_
                  intro v5l w5l h5 k5
                  obtain ⟨A5l, C5l, rfl, _⟩ := h5.done iL_len
                  have F5l : Hid (Below w6a.heap.size w6a w5l ∧ OwnB 3 1 iL w6a.heap.size ((bs.map szA).take t) (.slice A5l ([] ++ (bs.map szA).take t).length C5l) w5l ∧ (∀ j u, (((bs.map szA).drop (t + 1)).flatMap iL)[j]? = some u → w5l.cell? (Ql.add j) = some u)) := F5Fl.out _ _ h5 k5
                  clear h5 k5
                  generalize ([] ++ (bs.map szA).take t).length = LNl at F5l ⊢
                  refine hK _ _ ?_; clear hK K
                  (try simp only [Act.put, List.getElem_toArray, List.getElem_cons_succ, List.getElem_cons_zero, List.setIfInBounds_toArray, List.set_cons_zero, List.set_cons_succ])
                  refine wpAny_ready (rs := [9]) (by kernel_rfl) (by simp) ?_
                  refine AllReady.cons rfl (fun K hK => ?_) AllReady.nil
                  rw [if_pos (by rfl)]
                  refine OwnB.append 30 3 iL _ 1 8 info3 Tryd.underlying30 rfl (by decide) (by decide) iL_len iL_one _ _ _ rfl _ rfl w6a.heap.size ((bs.map szA).take t) ((bs.map szA).drop (t + 1)) F5l.out.2.1 Ql (LC - (t + 1)) (by rw [DLl.out]; rfl) F5l.out.2.2 (by rw [TLl.out, DLl.out]; omega) ?_
                  intro v6l w6l h6 k6
                  obtain ⟨A6l, C6l, rfl, _⟩ := h6.done iL_len
                  have F6l : Hid (OwnB 3 1 iL w6a.heap.size ((bs.map szA).take t ++ (bs.map szA).drop (t + 1)) (.slice A6l ((bs.map szA).take t ++ (bs.map szA).drop (t + 1)).length C6l) w6l ∧ Below w6a.heap.size w6a w6l) := ⟨h6, F5l.out.1.trans k6⟩
                  clear h6 k6
                  generalize ((bs.map szA).take t ++ (bs.map szA).drop (t + 1)).length = LMl at F6l ⊢
                  refine hK _ _ ?_; clear hK K
                  (try simp only [Act.put, List.getElem_toArray, List.getElem_cons_succ, List.getElem_cons_zero, List.setIfInBounds_toArray, List.set_cons_zero, List.set_cons_succ])
                  refine wpAny_take (i := 10) (v := .slice A6l LMl C6l) rfl (by kernel_rfl) (by kernel_rfl) (by kernel_rfl) (fun _ _ _ h => h) (Or.inl ⟨by rfl, ?_⟩) ?_
                  · intro w'; go_simp
                  (try simp only [Act.put, List.getElem_toArray, List.getElem_cons_succ, List.getElem_cons_zero, List.setIfInBounds_toArray, List.set_cons_zero, List.set_cons_succ])
                  refine wpAny_done (by kernel_rfl) ?_ _
                  have PL : Hid (AM w w.heap.size g w1.heap.size (upd us bs[t].1 bs[t].2 false) (((bs.map adA1).take t ++ (bs.map adA1).drop (t + 1))) (.slice A6a LMa C6a) (((bs.map szA).take t ++ (bs.map szA).drop (t + 1))) (.slice A6l LMl C6l) (bs.map clA) (.slice (some ⟨CB, 0, none⟩) bs.length CC) w6l) := (PK.out.rot.byN F6l.out.1 F6l.out.2).rot.rot
                  clear F6l
                  go_wp2
                  obtain ⟨Qc, hQc⟩ : ∃ q, (if CC = t + 1 then some (⟨CB, 0, none⟩ : Addr) else some ⟨CB, t + 1, none⟩) = some q := by split <;> exact ⟨_, rfl⟩
                  have HQc : Hid ((if CC = t + 1 then some (⟨CB, 0, none⟩ : Addr) else some ⟨CB, t + 1, none⟩) = some Qc) := hQc
                  clear hQc
                  have RLc : Hid ((bs.map clA).length = bs.length) := (by rw [List.length_map] : (bs.map clA).length = bs.length)
                  have OWc : Hid (OwnB 3 1 iL w1.heap.size (bs.map clA) (.slice (some ⟨CB, 0, none⟩) (bs.map clA).length CC) w6l) := (by rw [RLc.out]; exact PL.out.c : OwnB 3 1 iL w1.heap.size (bs.map clA) (.slice (some ⟨CB, 0, none⟩) (bs.map clA).length CC) w6l)
                  have TLc : Hid (((bs.map clA).take t).length = t) := (by rw [List.length_take, RLc.out]; omega : ((bs.map clA).take t).length = t)
                  have DLc : Hid (((bs.map clA).drop (t + 1)).length = bs.length - (t + 1)) := (by rw [List.length_drop, RLc.out] : ((bs.map clA).drop (t + 1)).length = bs.length - (t + 1))
                  have T1c : Hid (∀ j u, (((bs.map clA).take t).flatMap iL)[j]? = some u → (w6l.drew.alloc (.cells #[] 3)).cell? ((⟨CB, 0, none⟩ : Addr).add j) = some u) := cut_take w6l OWc.out t
                  have F5Fc : Hid (∀ v5 w5, OwnB 3 1 iL w6l.heap.size ([] ++ (bs.map clA).take t) v5 w5 → Below w6l.heap.size (w6l.drew.alloc (.cells #[] 3)) w5 → Below w6l.heap.size w6l w5 ∧ OwnB 3 1 iL w6l.heap.size ((bs.map clA).take t) v5 w5 ∧ (∀ j u, (((bs.map clA).drop (t + 1)).flatMap iL)[j]? = some u → w5.cell? (Qc.add j) = some u)) := fun v5 w5 h5 k5 => cut_one w6l OWc.out t Qc HQc.out (by rw [RLc.out]; omega) v5 w5 h5 k5
                  refine wp_region_any (by kernel_rfl) ?_
                  change wpAny _ _ _ _ _ _ _ (World.drew _)
                  refine wpAny_take (i := 1) (v := .slice (some ⟨CB, 0, none⟩) bs.length CC) rfl (by kernel_rfl) (by kernel_rfl) (by kernel_rfl) (fun _ _ _ h => h) (Or.inl ⟨by rfl, ?_⟩) ?_
                  · intro w'; go_simp
                  (try simp only [Act.put, List.getElem_toArray, List.getElem_cons_succ, List.getElem_cons_zero, List.setIfInBounds_toArray, List.set_cons_zero, List.set_cons_succ])
                  refine wpAny_take (i := 2) (v := .int .i64 (t : Int)) rfl (by kernel_rfl) (by kernel_rfl) (by kernel_rfl) (fun _ _ _ h => h) (Or.inl ⟨by rfl, ?_⟩) ?_
                  · intro w'; go_simp
                  (try simp only [Act.put, List.getElem_toArray, List.getElem_cons_succ, List.getElem_cons_zero, List.setIfInBounds_toArray, List.set_cons_zero, List.set_cons_succ])
                  refine wpAny_take (i := 3) (v := .slice (some ⟨CB, 0, none⟩) t CC) rfl (by kernel_rfl) (by kernel_rfl) (by kernel_rfl) (fun _ _ _ h => h) (Or.inl ⟨by rfl, ?_⟩) ?_
                  · intro w'; go_simp; intro h; exfalso; omega
                  (try simp only [Act.put, List.getElem_toArray, List.getElem_cons_succ, List.getElem_cons_zero, List.setIfInBounds_toArray, List.set_cons_zero, List.set_cons_succ])
                  refine wpAny_take (i := 5) (v := .slice (some ⟨CB, 0, none⟩) bs.length CC) rfl (by kernel_rfl) (by kernel_rfl) (by kernel_rfl) (fun _ _ _ h => h) (Or.inl ⟨by rfl, ?_⟩) ?_
                  · intro w'; go_simp
                  (try simp only [Act.put, List.getElem_toArray, List.getElem_cons_succ, List.getElem_cons_zero, List.setIfInBounds_toArray, List.set_cons_zero, List.set_cons_succ])
                  refine wpAny_take (i := 6) (v := .int .i64 (t : Int)) rfl (by kernel_rfl) (by kernel_rfl) (by kernel_rfl) (fun _ _ _ h => h) (Or.inl ⟨by rfl, ?_⟩) ?_
                  · intro w'; go_simp
                  (try simp only [Act.put, List.getElem_toArray, List.getElem_cons_succ, List.getElem_cons_zero, List.setIfInBounds_toArray, List.set_cons_zero, List.set_cons_succ])
                  refine wpAny_take (i := 7) (v := .int .i64 ((t : Int) + 1)) rfl (by kernel_rfl) (by kernel_rfl) (by kernel_rfl) (fun _ _ _ h => h) (Or.inl ⟨by rfl, ?_⟩) ?_
                  · intro w'; go_simp; exact wrap_in _ ⟨by omega, by omega⟩
                  (try simp only [Act.put, List.getElem_toArray, List.getElem_cons_succ, List.getElem_cons_zero, List.setIfInBounds_toArray, List.set_cons_zero, List.set_cons_succ])
                  refine wpAny_take (i := 8) (v := .slice (some Qc) (bs.length - (t + 1)) (CC - (t + 1))) rfl (by kernel_rfl) (by kernel_rfl) (by kernel_rfl) (fun _ _ _ h => h) (Or.inl ⟨by rfl, ?_⟩) ?_
                  · intro w'; go_simp; rw [if_pos (by omega), HQc.out]
                  (try simp only [Act.put, List.getElem_toArray, List.getElem_cons_succ, List.getElem_cons_zero, List.setIfInBounds_toArray, List.set_cons_zero, List.set_cons_succ])
                  refine wpAny_ready (rs := [0]) (by kernel_rfl) (by simp) ?_
                  refine AllReady.cons rfl (fun K hK => ?_) AllReady.nil
                  go_simp
                  refine hK _ _ ?_; clear hK K
                  (try simp only [Act.put, List.getElem_toArray, List.getElem_cons_succ, List.getElem_cons_zero, List.setIfInBounds_toArray, List.set_cons_zero, List.set_cons_succ])
                  have EAc : Hid (OwnB 3 1 iL w6l.heap.size [] (.slice (some ⟨w6l.heap.size, 0, none⟩) 0 0) (w6l.drew.alloc (.cells #[] 3))) := OwnB.fresh (At.newS _ _ _ rfl) (Nat.le_refl _)
                  refine wpAny_ready (rs := [4]) (by kernel_rfl) (by simp) ?_
                  refine AllReady.cons rfl (fun K hK => ?_) AllReady.nil
                  rw [if_pos (by rfl)]
                  refine OwnB.append 30 3 iL _ 1 8 info3 Tryd.underlying30 rfl (by decide) (by decide) iL_len iL_one _ _ _ rfl _ rfl w6l.heap.size [] ((bs.map clA).take t) EAc.out ⟨CB, 0, none⟩ CC (by rw [TLc.out]; rfl) T1c.out (by rw [TLc.out]; simp; omega) ?_
                  intro v5c w5c h5 k5
                  obtain ⟨A5c, C5c, rfl, _⟩ := h5.done iL_len
                  have F5c : Hid (Below w6l.heap.size w6l w5c ∧ OwnB 3 1 iL w6l.heap.size ((bs.map clA).take t) (.slice A5c ([] ++ (bs.map clA).take t).length C5c) w5c ∧ (∀ j u, (((bs.map clA).drop (t + 1)).flatMap iL)[j]? = some u → w5c.cell? (Qc.add j) = some u)) := F5Fc.out _ _ h5 k5
                  clear h5 k5
                  generalize ([] ++ (bs.map clA).take t).length = LNc at F5c ⊢
                  refine hK _ _ ?_; clear hK K
                  (try simp only [Act.put, List.getElem_toArray, List.getElem_cons_succ, List.getElem_cons_zero, List.setIfInBounds_toArray, List.set_cons_zero, List.set_cons_succ])
                  refine wpAny_ready (rs := [9]) (by kernel_rfl) (by simp) ?_
                  refine AllReady.cons rfl (fun K hK => ?_) AllReady.nil
                  rw [if_pos (by rfl)]
                  refine OwnB.append 30 3 iL _ 1 8 info3 Tryd.underlying30 rfl (by decide) (by decide) iL_len iL_one _ _ _ rfl _ rfl w6l.heap.size ((bs.map clA).take t) ((bs.map clA).drop (t + 1)) F5c.out.2.1 Qc (CC - (t + 1)) (by rw [DLc.out]; rfl) F5c.out.2.2 (by rw [TLc.out, DLc.out]; omega) ?_
                  intro v6c w6c h6 k6
                  obtain ⟨A6c, C6c, rfl, _⟩ := h6.done iL_len
                  have F6c : Hid (OwnB 3 1 iL w6l.heap.size ((bs.map clA).take t ++ (bs.map clA).drop (t + 1)) (.slice A6c ((bs.map clA).take t ++ (bs.map clA).drop (t + 1)).length C6c) w6c ∧ Below w6l.heap.size w6l w6c) := ⟨h6, F5c.out.1.trans k6⟩
                  clear h6 k6
                  generalize ((bs.map clA).take t ++ (bs.map clA).drop (t + 1)).length = LMc at F6c ⊢
                  refine hK _ _ ?_; clear hK K
                  (try simp only [Act.put, List.getElem_toArray, List.getElem_cons_succ, List.getElem_cons_zero, List.setIfInBounds_toArray, List.set_cons_zero, List.set_cons_succ])
                  refine wpAny_take (i := 10) (v := .slice A6c LMc C6c) rfl (by kernel_rfl) (by kernel_rfl) (by kernel_rfl) (fun _ _ _ h => h) (Or.inl ⟨by rfl, ?_⟩) ?_
                  · intro w'; go_simp
                  (try simp only [Act.put, List.getElem_toArray, List.getElem_cons_succ, List.getElem_cons_zero, List.setIfInBounds_toArray, List.set_cons_zero, List.set_cons_succ])
                  refine wpAny_done (by kernel_rfl) ?_ _
                  have ZZ : Hid (AM w w.heap.size g w1.heap.size (upd us bs[t].1 bs[t].2 false) (((bs.map adA1).take t ++ (bs.map adA1).drop (t + 1))) (.slice A6a LMa C6a) (((bs.map szA).take t ++ (bs.map szA).drop (t + 1))) (.slice A6l LMl C6l) (((bs.map clA).take t ++ (bs.map clA).drop (t + 1))) (.slice A6c LMc C6c) w6c) := (PL.out.rot.rot.byN F6c.out.1 F6c.out.2).rot
                  go_wp2
                  go_roundw
                  case rel => exact ⟨k + 1, (upd us bs[t].1 bs[t].2 false), bs.take t ++ bs.drop (t + 1), by omega, by omega, by go_num, (by have := ZZ.out; simpa only [List.map_append, List.map_take, List.map_drop] using this), RC2.out, (by simp; omega)⟩
                  case measure => simp [intOf]; omega
              · have hf3 : ((fk % 4) == 0) = false := by simpa using hf2
                as_aux_lemma =>
                  have hcnt : cnt us c (bl c) = bl c := cnt_all (fr_none hfr)
                  have hli : liA us (c : Int) = bl c := by unfold liA; rw [if_neg (by omega)]; exact hcnt
                  have hL : cb bs (c : Int) bs.length = bl c := by rw [← RR.out.live]; exact hli
                  have hbp : 0 < bs.length := by have := cb_le bs (c : Int) bs.length; omega
                  rw [hL]
                  obtain ⟨AB, rfl, _, _, hAC⟩ := hsha hbp
                  obtain ⟨LB, rfl, _, _, hLC⟩ := hshl hbp
                  obtain ⟨CB, rfl, _, _, hCC⟩ := hshc hbp
                  have RN : Hid (Rel us bs) := RR.out
                  have KA : Hid (Calls Tryd.prog 10 #[.pointer (some ⟨w.heap.size, 0, none⟩), .int .i64 (m : Int)] w2 fun e w' => e = .returned (.tuple #[.int .i64 0, .int .i64 12]) ∧ HIn w' w.heap.size g us ∧ Kp (Gs g) w2 w') := by
                    have := alloc_c P2.out.h (m : Int) P2.out.tab
                    rw [CO.out, show alA us (some c) = (0, 12, us) by show alR us c (fr us c) = _; rw [hfr]; rfl] at this
                    exact this
                  have KL : Hid (∀ W, HIn W w.heap.size g us → Calls Tryd.prog 16 #[.pointer (some ⟨w.heap.size, 0, none⟩), .int .i64 (c : Int)] W fun e w' => e = .returned (.int .i64 (bl c : Int)) ∧ Below W.heap.size W w') := fun W h => by
                    have := live_c h (c : Int)
                    rw [hli] at this
                    exact this
                  have P2b : Hid (AM w w.heap.size g w1.heap.size us (bs.map adA1) (.slice (some ⟨AB, 0, none⟩) bs.length AC) (bs.map szA) (.slice (some ⟨LB, 0, none⟩) bs.length LC) (bs.map clA) (.slice (some ⟨CB, 0, none⟩) bs.length CC) w2) := P2.out
                  clear hcnt hli hL hfr CL hsha hshl hshc
                  have hfz : (k : Int) < frees.length := by omega
                  go_wp2_with (first
                  | (go_at_call 10; refine KA.out.mono ?_; rintro e w3 ⟨rfl, h3, k3⟩; have P3 : Hid (AM w w.heap.size g w1.heap.size us (bs.map adA1) (.slice (some ⟨AB, 0, none⟩) bs.length AC) (bs.map szA) (.slice (some ⟨LB, 0, none⟩) bs.length LC) (bs.map clA) (.slice (some ⟨CB, 0, none⟩) bs.length CC) w3) := P2b.out.byH h3 k3; clear h3 k3)
                  | (go_at_call 16; refine (KL.out _ P3.out.h).mono ?_; rintro e w4 ⟨rfl, h4⟩; have P4 : Hid (AM w w.heap.size g w1.heap.size us (bs.map adA1) (.slice (some ⟨AB, 0, none⟩) bs.length AC) (bs.map szA) (.slice (some ⟨LB, 0, none⟩) bs.length LC) (bs.map clA) (.slice (some ⟨CB, 0, none⟩) bs.length CC) w4) := P3.out.below h4; have cf := CF.out _ P4.out.b; clear h4))
                  go_roundw
                  case rel => exact ⟨k + 1, us, bs, by omega, by omega, by go_num, P4.out, RN.out, by omega⟩
                  case measure => simp [intOf]; omega
            · clear CF0
              as_aux_lemma =>
                have hcnt : cnt us c (bl c) = bl c := cnt_all (fr_none hfr)
                have hli : liA us (c : Int) = bl c := by unfold liA; rw [if_neg (by omega)]; exact hcnt
                have hL : cb bs (c : Int) bs.length = bl c := by rw [← RR.out.live]; exact hli
                have hbp : 0 < bs.length := by have := cb_le bs (c : Int) bs.length; omega
                rw [hL]
                obtain ⟨AB, rfl, _, _, hAC⟩ := hsha hbp
                obtain ⟨LB, rfl, _, _, hLC⟩ := hshl hbp
                obtain ⟨CB, rfl, _, _, hCC⟩ := hshc hbp
                have RN : Hid (Rel us bs) := RR.out
                have KA : Hid (Calls Tryd.prog 10 #[.pointer (some ⟨w.heap.size, 0, none⟩), .int .i64 (m : Int)] w2 fun e w' => e = .returned (.tuple #[.int .i64 0, .int .i64 12]) ∧ HIn w' w.heap.size g us ∧ Kp (Gs g) w2 w') := by
                  have := alloc_c P2.out.h (m : Int) P2.out.tab
                  rw [CO.out, show alA us (some c) = (0, 12, us) by show alR us c (fr us c) = _; rw [hfr]; rfl] at this
                  exact this
                have KL : Hid (∀ W, HIn W w.heap.size g us → Calls Tryd.prog 16 #[.pointer (some ⟨w.heap.size, 0, none⟩), .int .i64 (c : Int)] W fun e w' => e = .returned (.int .i64 (bl c : Int)) ∧ Below W.heap.size W w') := fun W h => by
                  have := live_c h (c : Int)
                  rw [hli] at this
                  exact this
                have P2b : Hid (AM w w.heap.size g w1.heap.size us (bs.map adA1) (.slice (some ⟨AB, 0, none⟩) bs.length AC) (bs.map szA) (.slice (some ⟨LB, 0, none⟩) bs.length LC) (bs.map clA) (.slice (some ⟨CB, 0, none⟩) bs.length CC) w2) := P2.out
                clear hcnt hli hL hfr CL hsha hshl hshc
                have hfz : ¬ (k : Int) < frees.length := by omega
                go_wp2_with (first
                | (go_at_call 10; refine KA.out.mono ?_; rintro e w3 ⟨rfl, h3, k3⟩; have P3 : Hid (AM w w.heap.size g w1.heap.size us (bs.map adA1) (.slice (some ⟨AB, 0, none⟩) bs.length AC) (bs.map szA) (.slice (some ⟨LB, 0, none⟩) bs.length LC) (bs.map clA) (.slice (some ⟨CB, 0, none⟩) bs.length CC) w3) := P2b.out.byH h3 k3; clear h3 k3)
                | (go_at_call 16; refine (KL.out _ P3.out.h).mono ?_; rintro e w4 ⟨rfl, h4⟩; have P4 : Hid (AM w w.heap.size g w1.heap.size us (bs.map adA1) (.slice (some ⟨AB, 0, none⟩) bs.length AC) (bs.map szA) (.slice (some ⟨LB, 0, none⟩) bs.length LC) (bs.map clA) (.slice (some ⟨CB, 0, none⟩) bs.length CC) w4) := P3.out.below h4; clear h4))
                go_roundw
                case rel => exact ⟨k + 1, us, bs, by omega, by omega, by go_num, P4.out, RN.out, by omega⟩
                case measure => simp [intOf]; omega
          | some k0 =>
            by_cases hf1 : k < frees.length
            · obtain ⟨fb, fo, fk, hBe, hCF⟩ := CF0 hf1
              have CF : Hid (∀ W, Below w.heap.size w W → W.cell? ⟨fb, fo + k, none⟩ = some (.int .i64 fk)) := hCF
              clear CF0 hCF
              subst hBe
              have ha3 : bits .and .i64 fk 3 = fk % 4 := and_mask fk 2 (by decide)
              by_cases hf2 : fk % 4 = 0
              · rw [hf2] at ha3
                clear hf2
                as_aux_lemma =>
                  obtain ⟨hk0, hu0⟩ := fr_some hfr
                  have hct := cnt_take (us := us) (c := c) (n := bl c) k0 hk0 hu0
                  have hcl := cnt_le (upd us c k0 true) c (bl c)
                  have hlu : liA us (c : Int) = cnt us c (bl c) := by unfold liA; rw [if_neg (by omega)]; rfl
                  have hlv : liA (upd us c k0 true) (c : Int) = cnt us c (bl c) + 1 := by unfold liA; rw [if_neg (by omega)]; exact hct
                  have hL : cb bs (c : Int) bs.length = cnt us c (bl c) := by rw [← RR.out.live]; exact hlu
                  have RN : Hid (Rel (upd us c k0 true) (bs ++ [(c, k0)])) := by
                    have := RR.out.alloc c hc
                    rw [hfr] at this
                    exact this
                  have hnot : (c, k0) ∉ bs := fun hp => by
                    have := (RR.out.mem c k0 hc hk0).2 hp
                    rw [hu0] at this
                    cases this
                  rw [hL]
                  obtain ⟨X, hX⟩ : ∃ X, X = adr c k0 := ⟨_, rfl⟩
                  have hw := within_all (us := upd us c k0 true) c k0 hc hk0 (upd_self _ _ _ _)
                  have hX0 := adr_in c k0 hk0
                  have hXe := st_end c hc
                  have hX3 : X.tmod 4 = 0 := by rw [hX]; exact adr_tmod c k0 hc
                  rw [← hX] at hw hX0
                  have hX1 : (262144 : Int) ≤ X := by omega
                  have hX2 : X + 4 * (sz c : Int) ≤ 273408 := by omega
                  have APT : Hid (∀ (i : Nat) (h : i < bs.length), ¬ (X < adA1 bs[i] + 4 * szA bs[i] ∧ adA1 bs[i] < X + 4 * (sz c : Int))) := fun i h => by
                    have ho := RR.out.ok _ (List.getElem_mem h)
                    have := apart_blocks c k0 bs[i].1 bs[i].2 hc ho.1 hk0 ho.2 (fun e => hnot (by rw [e]; exact List.getElem_mem h))
                    rw [← hX] at this
                    exact this
                  have BND : Hid (∀ (i : Nat) (h : i < bs.length), 262144 ≤ adA1 bs[i] ∧ adA1 bs[i] ≤ 273408 ∧ 4 ≤ szA bs[i] ∧ szA bs[i] ≤ 128) := fun i h => by
                    have ho := RR.out.ok _ (List.getElem_mem h)
                    have q1 := adr_in _ _ ho.2
                    have q2 := st_end _ ho.1
                    have q3 := span_le bs[i].1
                    unfold adA1 szA
                    omega
                  have KA : Hid (Calls Tryd.prog 10 #[.pointer (some ⟨w.heap.size, 0, none⟩), .int .i64 (m : Int)] w2 fun e w' => e = .returned (.tuple #[.int .i64 X, .int .i64 0]) ∧ HIn w' w.heap.size g (upd us c k0 true) ∧ Kp (Gs g) w2 w') := by
                    have := alloc_c P2.out.h (m : Int) P2.out.tab
                    rw [CO.out, show alA us (some c) = (X, 0, upd us c k0 true) by show alR us c (fr us c) = _; rw [hfr, hX]; rfl] at this
                    exact this
                  generalize cnt us c (bl c) = L at *
                  have KL : Hid (∀ W, HIn W w.heap.size g (upd us c k0 true) → Calls Tryd.prog 16 #[.pointer (some ⟨w.heap.size, 0, none⟩), .int .i64 (c : Int)] W fun e w' => e = .returned (.int .i64 ((L : Int) + 1)) ∧ Below W.heap.size W w') := fun W h => by
                    have := live_c h (c : Int)
                    rw [hlv] at this
                    exact this
                  have KX : Hid (∀ W, HIn W w.heap.size g (upd us c k0 true) → Tab W → Calls Tryd.prog 18 #[.pointer (some ⟨w.heap.size, 0, none⟩), .int .i64 X, .int .i64 (sz c : Int)] W fun e w' => e = .returned (.bool true) ∧ Below W.heap.size W w') := fun W h1 h2 => by
                    have := within_c h1 X (sz c : Int) h2
                    rw [hw] at this
                    exact this
                  have hLb : ((L : Int) == (bl c : Int)) = false := by rw [beq_eq_false_iff_ne]; omega
                  have hLs : (L : Int) + 1 - (L : Int) = 1 := by omega
                  have hLz : (L : Int) ≤ 64 := by omega
                  obtain ⟨nb, hnb⟩ : ∃ nb, nb = bs ++ [(c, k0)] := ⟨_, rfl⟩
                  obtain ⟨n2, hn2⟩ : ∃ n2, n2 = bs.length + 1 := ⟨_, rfl⟩
                  have hnl : nb.length = n2 := by rw [hnb, hn2]; simp
                  have ma : Hid (bs.map adA1 ++ [X] = nb.map adA1) := (by rw [hnb, hX]; simp [adA1] : bs.map adA1 ++ [X] = nb.map adA1)
                  have ml : Hid (bs.map szA ++ [(sz c : Int)] = nb.map szA) := (by rw [hnb]; simp [szA] : bs.map szA ++ [(sz c : Int)] = nb.map szA)
                  have mc : Hid (bs.map clA ++ [(c : Int)] = nb.map clA) := (by rw [hnb]; simp [clA] : bs.map clA ++ [(c : Int)] = nb.map clA)
                  rw [← hnb] at RN
                  have LA1 : Hid ((bs.map adA1).length ≤ 1000) := (by simp; omega : (bs.map adA1).length ≤ 1000)
                  have LL1 : Hid ((bs.map szA).length ≤ 1000) := (by simp; omega : (bs.map szA).length ≤ 1000)
                  have LC1 : Hid ((bs.map clA).length ≤ 1000) := (by simp; omega : (bs.map clA).length ≤ 1000)
                  have NA : Hid ((nb.map adA1).length = n2) := (by simpa using hnl : (nb.map adA1).length = n2)
                  have NL : Hid ((nb.map szA).length = n2) := (by simpa using hnl : (nb.map szA).length = n2)
                  have NC : Hid ((nb.map clA).length = n2) := (by simpa using hnl : (nb.map clA).length = n2)
                  have hn2p : 0 < n2 := by omega
                  have hn2l : n2 ≤ 151 := by omega
                  have hn2k : n2 ≤ k + 1 := by omega
                  clear hct hcl hlu hlv hL hfr hw hX0 hXe CL hnot hu0 hX hnb hn2
                  go_wp2_with (first
                  | (go_at_call 10; refine KA.out.mono ?_; rintro e w3 ⟨rfl, h3, k3⟩; have P3 : Hid (AM w w.heap.size g w1.heap.size (upd us c k0 true) (bs.map adA1) (.slice AA bs.length AC) (bs.map szA) (.slice LA bs.length LC) (bs.map clA) (.slice CA bs.length CC) w3) := P2.out.byH h3 k3; clear h3 k3)
                  | (go_at_call 16; refine (KL.out _ P3.out.h).mono ?_; rintro e w4 ⟨rfl, h4⟩; have P4 : Hid (AM w w.heap.size g w1.heap.size (upd us c k0 true) (bs.map adA1) (.slice AA bs.length AC) (bs.map szA) (.slice LA bs.length LC) (bs.map clA) (.slice CA bs.length CC) w4) := P3.out.below h4; clear h4)
                  | (go_at_call 18; refine (KX.out _ P4.out.h P4.out.tab).mono ?_; rintro e w5 ⟨rfl, h5⟩; have P5 : Hid (AM w w.heap.size g w1.heap.size (upd us c k0 true) (bs.map adA1) (.slice AA bs.length AC) (bs.map szA) (.slice LA bs.length LC) (bs.map clA) (.slice CA bs.length CC) w5) := P4.out.below h5; clear h5))
                  go_loopw [19] (fun j wr => ∃ i : Nat, i ≤ bs.length ∧ j = .int .i64 (i : Int) ∧ AM w w.heap.size g w1.heap.size (upd us c k0 true) (bs.map adA1) (.slice AA bs.length AC) (bs.map szA) (.slice LA bs.length LC) (bs.map clA) (.slice CA bs.length CC) wr) (fun j _ => bs.length - (intOf j).toNat)
                  case atStart => exact ⟨0, by omega, rfl, P5.out⟩
                  case round =>
                    obtain ⟨i, hi, rfl, hPi⟩ := hrel
                    have P6 : Hid (AM w w.heap.size g w1.heap.size (upd us c k0 true) (bs.map adA1) (.slice AA bs.length AC) (bs.map szA) (.slice LA bs.length LC) (bs.map clA) (.slice CA bs.length CC) wr) := hPi
                    clear hPi
                    rcases Nat.lt_or_ge i bs.length with hi' | hi'
                    · have hiz : (i : Int) < bs.length := by omega
                      obtain ⟨AB, rfl, _, _, _⟩ := hsha (by omega)
                      obtain ⟨LB, rfl, _, _, _⟩ := hshl (by omega)
                      have h0 := P6.out.a.icell i (by rw [List.length_map]; exact hi')
                      have h1 := P6.out.l.icell i (by rw [List.length_map]; exact hi')
                      rw [List.getElem_map] at h0 h1
                      have hap := APT.out i hi'
                      obtain ⟨y1, y2, y3, y4⟩ := BND.out i hi'
                      generalize adA1 bs[i] = y at *
                      generalize szA bs[i] = z at *
                      by_cases q1 : X < y + 4 * z
                      · have q2 : ¬ y < X + 4 * (sz c : Int) := fun h => hap ⟨q1, h⟩
                        clear hap
                        go_wp2
                        go_quiet (fail)
                        go_wp2
                        go_roundw
                        case rel => exact ⟨i + 1, by omega, by go_num, P6.out.below (below_drewN _ _)⟩
                        case measure => simp [intOf]; omega
                      · clear hap
                        have q1' : decide (X < y + 4 * z) = false := decide_eq_false q1
                        go_wp2
                        go_quiet (fail)
                        go_wp2
                        go_roundw
                        case rel => exact ⟨i + 1, by omega, by go_num, P6.out.below (below_drewN _ _)⟩
                        case measure => simp [intOf]; omega
                    · have hiz : ¬ (i : Int) < bs.length := by omega
                      clear hsha hshl hshc APT BND
                      have hfz : (k : Int) < frees.length := by omega
                      obtain ⟨t, ht1, ht2⟩ := turn_of fk (n2 : Int) (by omega) (by omega)
                      have htn : t < n2 := by omega
                      have htl : t < nb.length := by omega
                      have htz : (t : Int) < (n2 : Int) := by omega
                      have htz1 : (t : Int) + 1 ≤ (n2 : Int) := by omega
                      have hnp : ¬ (n2 : Int) = 0 := by omega
                      have hnp2 : (0 : Int) < (n2 : Int) := by omega
                      obtain ⟨hut, RC⟩ := RN.out.cut t htl
                      have hpt := RN.out.ok _ (List.getElem_mem htl)
                      have RC2 : Hid (Rel (upd (upd us c k0 true) nb[t].1 nb[t].2 false) (nb.take t ++ nb.drop (t + 1))) := RC
                      obtain ⟨Y, hY⟩ : ∃ Y, Y = adr nb[t].1 nb[t].2 := ⟨_, rfl⟩
                      have e1 := free_once (us := (upd us c k0 true)) nb[t].1 nb[t].2 hpt.1 hpt.2 hut
                      have e2 := free_twice (us := upd (upd us c k0 true) nb[t].1 nb[t].2 false) nb[t].1 nb[t].2 hpt.1 hpt.2 (upd_self _ _ _ _)
                      have e3 := within_not (us := upd (upd us c k0 true) nb[t].1 nb[t].2 false) nb[t].1 nb[t].2 1 hpt.1 hpt.2 (upd_self _ _ _ _)
                      have GY : Hid (∀ (i : Nat) (h : i < (nb.map adA1).length), i = t → (nb.map adA1)[i] = Y) := fun i h e => by subst e; rw [List.getElem_map, hY]; rfl
                      rw [← hY] at e1 e2 e3
                      have KF1 : Hid (∀ W, HIn W w.heap.size g (upd us c k0 true) → Tab W → Calls Tryd.prog 12 #[.pointer (some ⟨w.heap.size, 0, none⟩), .int .i64 Y] W fun e w' => e = .returned (.int .i64 0) ∧ HIn w' w.heap.size g (upd (upd us c k0 true) nb[t].1 nb[t].2 false) ∧ Kp (Gs g) W w') := fun W h1 h2 => by
                        have := free_c h1 Y h2
                        rw [e1] at this
                        exact this
                      have KF2 : Hid (∀ W, HIn W w.heap.size g (upd (upd us c k0 true) nb[t].1 nb[t].2 false) → Tab W → Calls Tryd.prog 12 #[.pointer (some ⟨w.heap.size, 0, none⟩), .int .i64 Y] W fun e w' => e = .returned (.int .i64 13) ∧ HIn w' w.heap.size g (upd (upd us c k0 true) nb[t].1 nb[t].2 false) ∧ Kp (Gs g) W w') := fun W h1 h2 => by
                        have := free_c h1 Y h2
                        rw [e2] at this
                        exact this
                      have KW : Hid (∀ W, HIn W w.heap.size g (upd (upd us c k0 true) nb[t].1 nb[t].2 false) → Tab W → Calls Tryd.prog 18 #[.pointer (some ⟨w.heap.size, 0, none⟩), .int .i64 Y, .int .i64 1] W fun e w' => e = .returned (.bool false) ∧ Below W.heap.size W w') := fun W h1 h2 => by
                        have := within_c h1 Y 1 h2
                        rw [e3] at this
                        exact this
                      clear e1 e2 e3 hut RC hY
                      go_wp2_with (first
                      | (have M' := P8; refine OwnB.appendNL _ rfl _ _ rfl _ rfl (c : Int) (P8.out.below (below_alloc _ _)).c ⟨w8.heap.size, 0, none⟩ 1 rfl (fun j u hj => cells_new _ (iL (c : Int)) 3 j u hj) LC1.out ?_; intro v9 w9 h9 k9 m9 n9; rw [mc.out] at h9; obtain ⟨A9, C9, hv9, s9⟩ := h9.shape; rw [NC.out] at hv9 s9; obtain ⟨B9, rfl, _, _, hC9⟩ := s9 hn2p; subst hv9; have P9 : Hid (AM w w.heap.size g w1.heap.size (upd us c k0 true) (nb.map adA1) (.slice (some ⟨B7, 0, none⟩) n2 C7) (nb.map szA) (.slice (some ⟨B8, 0, none⟩) n2 C8) (nb.map clA) (.slice (some ⟨B9, 0, none⟩) n2 C9) w9) := ((P8.out.below (below_alloc _ _)).rot.rot.byA h9 k9 m9 n9).rot; have cf := CF.out _ P9.out.b; have ce : w9.cell? ⟨B7, t, none⟩ = some (.int .i64 Y) := (by have q := P9.out.a.icell t (by rw [List.length_map]; exact htl); rw [GY.out t _ rfl] at q; exact q); clear h9 k9 m9 n9 s9 M' P8)
                      | (have M' := P7; refine OwnB.appendNL _ rfl _ _ rfl _ rfl (sz c : Int) (P7.out.below (below_alloc _ _)).l ⟨w7.heap.size, 0, none⟩ 1 rfl (fun j u hj => cells_new _ (iL (sz c : Int)) 3 j u hj) LL1.out ?_; intro v8 w8 h8 k8 m8 n8; rw [ml.out] at h8; obtain ⟨A8, C8, hv8, s8⟩ := h8.shape; rw [NL.out] at hv8 s8; obtain ⟨B8, rfl, _, _, hC8⟩ := s8 hn2p; subst hv8; have P8 : Hid (AM w w.heap.size g w1.heap.size (upd us c k0 true) (nb.map adA1) (.slice (some ⟨B7, 0, none⟩) n2 C7) (nb.map szA) (.slice (some ⟨B8, 0, none⟩) n2 C8) (bs.map clA) (.slice CA bs.length CC) w8) := ((P7.out.below (below_alloc _ _)).rot.byA h8 k8 m8 n8).rot.rot; clear h8 k8 m8 n8 s8 M' P7)
                      | (refine OwnB.appendNL _ rfl _ _ rfl _ rfl X (P6.out.below (below_alloc _ _)).a ⟨wr.heap.size, 0, none⟩ 1 rfl (fun j u hj => cells_new _ (iL X) 3 j u hj) LA1.out ?_; intro v7 w7 h7 k7 m7 n7; rw [ma.out] at h7; obtain ⟨A7, C7, hv7, s7⟩ := h7.shape; rw [NA.out] at hv7 s7; obtain ⟨B7, rfl, _, _, hC7⟩ := s7 hn2p; subst hv7; have P7 : Hid (AM w w.heap.size g w1.heap.size (upd us c k0 true) (nb.map adA1) (.slice (some ⟨B7, 0, none⟩) n2 C7) (bs.map szA) (.slice LA bs.length LC) (bs.map clA) (.slice CA bs.length CC) w7) := (P6.out.below (below_alloc _ _)).byA h7 k7 m7 n7; clear h7 k7 m7 n7 s7)
                      | (go_at_call 18; refine (KW.out _ PF2.out.h PF2.out.tab).mono ?_; rintro e w12 ⟨rfl, h9⟩; have PF3 : Hid (AM w w.heap.size g w1.heap.size (upd (upd us c k0 true) nb[t].1 nb[t].2 false) (nb.map adA1) (.slice (some ⟨B7, 0, none⟩) n2 C7) (nb.map szA) (.slice (some ⟨B8, 0, none⟩) n2 C8) (nb.map clA) (.slice (some ⟨B9, 0, none⟩) n2 C9) w12) := PF2.out.below h9; clear h9)
                      | (go_at_call 12; have M' := PF1; refine (KF2.out _ PF1.out.h PF1.out.tab).mono ?_; rintro e w11 ⟨rfl, h9, h10⟩; have PF2 : Hid (AM w w.heap.size g w1.heap.size (upd (upd us c k0 true) nb[t].1 nb[t].2 false) (nb.map adA1) (.slice (some ⟨B7, 0, none⟩) n2 C7) (nb.map szA) (.slice (some ⟨B8, 0, none⟩) n2 C8) (nb.map clA) (.slice (some ⟨B9, 0, none⟩) n2 C9) w11) := PF1.out.byH h9 h10; have ce : w11.cell? ⟨B7, t, none⟩ = some (.int .i64 Y) := (by have q := PF2.out.a.icell t (by rw [List.length_map]; exact htl); rw [GY.out t _ rfl] at q; exact q); clear h9 h10 M')
                      | (go_at_call 12; refine (KF1.out _ P9.out.h P9.out.tab).mono ?_; rintro e w10 ⟨rfl, h9, h10⟩; have PF1 : Hid (AM w w.heap.size g w1.heap.size (upd (upd us c k0 true) nb[t].1 nb[t].2 false) (nb.map adA1) (.slice (some ⟨B7, 0, none⟩) n2 C7) (nb.map szA) (.slice (some ⟨B8, 0, none⟩) n2 C8) (nb.map clA) (.slice (some ⟨B9, 0, none⟩) n2 C9) w10) := P9.out.byH h9 h10; have ce : w10.cell? ⟨B7, t, none⟩ = some (.int .i64 Y) := (by have q := PF1.out.a.icell t (by rw [List.length_map]; exact htl); rw [GY.out t _ rfl] at q; exact q); clear h9 h10))
                      obtain ⟨Qa, hQa⟩ : ∃ q, (if C7 = t + 1 then some (⟨B7, 0, none⟩ : Addr) else some ⟨B7, t + 1, none⟩) = some q := by split <;> exact ⟨_, rfl⟩
                      have HQa : Hid ((if C7 = t + 1 then some (⟨B7, 0, none⟩ : Addr) else some ⟨B7, t + 1, none⟩) = some Qa) := hQa
                      clear hQa
                      have RLa : Hid ((nb.map adA1).length = n2) := (by rw [List.length_map]; exact hnl : (nb.map adA1).length = n2)
                      have OWa : Hid (OwnB 3 1 iL w1.heap.size (nb.map adA1) (.slice (some ⟨B7, 0, none⟩) (nb.map adA1).length C7) w12) := (by rw [RLa.out]; exact PF3.out.a : OwnB 3 1 iL w1.heap.size (nb.map adA1) (.slice (some ⟨B7, 0, none⟩) (nb.map adA1).length C7) w12)
                      have TLa : Hid (((nb.map adA1).take t).length = t) := (by rw [List.length_take, RLa.out]; omega : ((nb.map adA1).take t).length = t)
                      have DLa : Hid (((nb.map adA1).drop (t + 1)).length = n2 - (t + 1)) := (by rw [List.length_drop, RLa.out] : ((nb.map adA1).drop (t + 1)).length = n2 - (t + 1))
                      have T1a : Hid (∀ j u, (((nb.map adA1).take t).flatMap iL)[j]? = some u → (w12.drew.alloc (.cells #[] 3)).cell? ((⟨B7, 0, none⟩ : Addr).add j) = some u) := cut_take w12 OWa.out t
                      have F5Fa : Hid (∀ v5 w5, OwnB 3 1 iL w12.heap.size ([] ++ (nb.map adA1).take t) v5 w5 → Below w12.heap.size (w12.drew.alloc (.cells #[] 3)) w5 → Below w12.heap.size w12 w5 ∧ OwnB 3 1 iL w12.heap.size ((nb.map adA1).take t) v5 w5 ∧ (∀ j u, (((nb.map adA1).drop (t + 1)).flatMap iL)[j]? = some u → w5.cell? (Qa.add j) = some u)) := fun v5 w5 h5 k5 => cut_one w12 OWa.out t Qa HQa.out (by rw [RLa.out]; omega) v5 w5 h5 k5
                      refine wp_region_any (by kernel_rfl) ?_
                      change wpAny _ _ _ _ _ _ _ (World.drew _)
                      refine wpAny_take (i := 1) (v := .slice (some ⟨B7, 0, none⟩) n2 C7) rfl (by kernel_rfl) (by kernel_rfl) (by kernel_rfl) (fun _ _ _ h => h) (Or.inl ⟨by rfl, ?_⟩) ?_
                      · intro w'; go_simp
                      (try simp only [Act.put, List.getElem_toArray, List.getElem_cons_succ, List.getElem_cons_zero, List.setIfInBounds_toArray, List.set_cons_zero, List.set_cons_succ])
                      refine wpAny_take (i := 2) (v := .int .i64 (t : Int)) rfl (by kernel_rfl) (by kernel_rfl) (by kernel_rfl) (fun _ _ _ h => h) (Or.inl ⟨by rfl, ?_⟩) ?_
                      · intro w'; go_simp
                      (try simp only [Act.put, List.getElem_toArray, List.getElem_cons_succ, List.getElem_cons_zero, List.setIfInBounds_toArray, List.set_cons_zero, List.set_cons_succ])
                      refine wpAny_take (i := 3) (v := .slice (some ⟨B7, 0, none⟩) t C7) rfl (by kernel_rfl) (by kernel_rfl) (by kernel_rfl) (fun _ _ _ h => h) (Or.inl ⟨by rfl, ?_⟩) ?_
                      · intro w'; go_simp; intro h; exfalso; omega
                      (try simp only [Act.put, List.getElem_toArray, List.getElem_cons_succ, List.getElem_cons_zero, List.setIfInBounds_toArray, List.set_cons_zero, List.set_cons_succ])
                      refine wpAny_take (i := 5) (v := .slice (some ⟨B7, 0, none⟩) n2 C7) rfl (by kernel_rfl) (by kernel_rfl) (by kernel_rfl) (fun _ _ _ h => h) (Or.inl ⟨by rfl, ?_⟩) ?_
                      · intro w'; go_simp
                      (try simp only [Act.put, List.getElem_toArray, List.getElem_cons_succ, List.getElem_cons_zero, List.setIfInBounds_toArray, List.set_cons_zero, List.set_cons_succ])
                      refine wpAny_take (i := 6) (v := .int .i64 (t : Int)) rfl (by kernel_rfl) (by kernel_rfl) (by kernel_rfl) (fun _ _ _ h => h) (Or.inl ⟨by rfl, ?_⟩) ?_
                      · intro w'; go_simp
                      (try simp only [Act.put, List.getElem_toArray, List.getElem_cons_succ, List.getElem_cons_zero, List.setIfInBounds_toArray, List.set_cons_zero, List.set_cons_succ])
                      refine wpAny_take (i := 7) (v := .int .i64 ((t : Int) + 1)) rfl (by kernel_rfl) (by kernel_rfl) (by kernel_rfl) (fun _ _ _ h => h) (Or.inl ⟨by rfl, ?_⟩) ?_
                      · intro w'; go_simp; exact wrap_in _ ⟨by omega, by omega⟩
                      (try simp only [Act.put, List.getElem_toArray, List.getElem_cons_succ, List.getElem_cons_zero, List.setIfInBounds_toArray, List.set_cons_zero, List.set_cons_succ])
                      refine wpAny_take (i := 8) (v := .slice (some Qa) (n2 - (t + 1)) (C7 - (t + 1))) rfl (by kernel_rfl) (by kernel_rfl) (by kernel_rfl) (fun _ _ _ h => h) (Or.inl ⟨by rfl, ?_⟩) ?_
                      · intro w'; go_simp; rw [if_pos (by omega), HQa.out]
                      (try simp only [Act.put, List.getElem_toArray, List.getElem_cons_succ, List.getElem_cons_zero, List.setIfInBounds_toArray, List.set_cons_zero, List.set_cons_succ])
                      refine wpAny_ready (rs := [0]) (by kernel_rfl) (by simp) ?_
                      refine AllReady.cons rfl (fun K hK => ?_) AllReady.nil
                      go_simp
                      refine hK _ _ ?_; clear hK K
                      (try simp only [Act.put, List.getElem_toArray, List.getElem_cons_succ, List.getElem_cons_zero, List.setIfInBounds_toArray, List.set_cons_zero, List.set_cons_succ])
                      have EAa : Hid (OwnB 3 1 iL w12.heap.size [] (.slice (some ⟨w12.heap.size, 0, none⟩) 0 0) (w12.drew.alloc (.cells #[] 3))) := OwnB.fresh (At.newS _ _ _ rfl) (Nat.le_refl _)
                      refine wpAny_ready (rs := [4]) (by kernel_rfl) (by simp) ?_
                      refine AllReady.cons rfl (fun K hK => ?_) AllReady.nil
                      rw [if_pos (by rfl)]
                      refine OwnB.append 30 3 iL _ 1 8 info3 Tryd.underlying30 rfl (by decide) (by decide) iL_len iL_one _ _ _ rfl _ rfl w12.heap.size [] ((nb.map adA1).take t) EAa.out ⟨B7, 0, none⟩ C7 (by rw [TLa.out]; rfl) T1a.out (by rw [TLa.out]; simp; omega) ?_
                      intro v5a w5a h5 k5
                      obtain ⟨A5a, C5a, rfl, _⟩ := h5.done iL_len
                      have F5a : Hid (Below w12.heap.size w12 w5a ∧ OwnB 3 1 iL w12.heap.size ((nb.map adA1).take t) (.slice A5a ([] ++ (nb.map adA1).take t).length C5a) w5a ∧ (∀ j u, (((nb.map adA1).drop (t + 1)).flatMap iL)[j]? = some u → w5a.cell? (Qa.add j) = some u)) := F5Fa.out _ _ h5 k5
                      clear h5 k5
                      generalize ([] ++ (nb.map adA1).take t).length = LNa at F5a ⊢
                      refine hK _ _ ?_; clear hK K
                      (try simp only [Act.put, List.getElem_toArray, List.getElem_cons_succ, List.getElem_cons_zero, List.setIfInBounds_toArray, List.set_cons_zero, List.set_cons_succ])
                      refine wpAny_ready (rs := [9]) (by kernel_rfl) (by simp) ?_
                      refine AllReady.cons rfl (fun K hK => ?_) AllReady.nil
                      rw [if_pos (by rfl)]
                      refine OwnB.append 30 3 iL _ 1 8 info3 Tryd.underlying30 rfl (by decide) (by decide) iL_len iL_one _ _ _ rfl _ rfl w12.heap.size ((nb.map adA1).take t) ((nb.map adA1).drop (t + 1)) F5a.out.2.1 Qa (C7 - (t + 1)) (by rw [DLa.out]; rfl) F5a.out.2.2 (by rw [TLa.out, DLa.out]; omega) ?_
                      intro v6a w6a h6 k6
                      obtain ⟨A6a, C6a, rfl, _⟩ := h6.done iL_len
                      have F6a : Hid (OwnB 3 1 iL w12.heap.size ((nb.map adA1).take t ++ (nb.map adA1).drop (t + 1)) (.slice A6a ((nb.map adA1).take t ++ (nb.map adA1).drop (t + 1)).length C6a) w6a ∧ Below w12.heap.size w12 w6a) := ⟨h6, F5a.out.1.trans k6⟩
                      clear h6 k6
                      generalize ((nb.map adA1).take t ++ (nb.map adA1).drop (t + 1)).length = LMa at F6a ⊢
                      refine hK _ _ ?_; clear hK K
                      (try simp only [Act.put, List.getElem_toArray, List.getElem_cons_succ, List.getElem_cons_zero, List.setIfInBounds_toArray, List.set_cons_zero, List.set_cons_succ])
                      refine wpAny_take (i := 10) (v := .slice A6a LMa C6a) rfl (by kernel_rfl) (by kernel_rfl) (by kernel_rfl) (fun _ _ _ h => h) (Or.inl ⟨by rfl, ?_⟩) ?_
                      · intro w'; go_simp
                      (try simp only [Act.put, List.getElem_toArray, List.getElem_cons_succ, List.getElem_cons_zero, List.setIfInBounds_toArray, List.set_cons_zero, List.set_cons_succ])
                      refine wpAny_done (by kernel_rfl) ?_ _
                      have PK : Hid (AM w w.heap.size g w1.heap.size (upd (upd us c k0 true) nb[t].1 nb[t].2 false) (((nb.map adA1).take t ++ (nb.map adA1).drop (t + 1))) (.slice A6a LMa C6a) (nb.map szA) (.slice (some ⟨B8, 0, none⟩) n2 C8) (nb.map clA) (.slice (some ⟨B9, 0, none⟩) n2 C9) w6a) := PF3.out.byN F6a.out.1 F6a.out.2
                      clear F6a
                      go_wp2
                      obtain ⟨Ql, hQl⟩ : ∃ q, (if C8 = t + 1 then some (⟨B8, 0, none⟩ : Addr) else some ⟨B8, t + 1, none⟩) = some q := by split <;> exact ⟨_, rfl⟩
                      have HQl : Hid ((if C8 = t + 1 then some (⟨B8, 0, none⟩ : Addr) else some ⟨B8, t + 1, none⟩) = some Ql) := hQl
                      clear hQl
                      have RLl : Hid ((nb.map szA).length = n2) := (by rw [List.length_map]; exact hnl : (nb.map szA).length = n2)
                      have OWl : Hid (OwnB 3 1 iL w1.heap.size (nb.map szA) (.slice (some ⟨B8, 0, none⟩) (nb.map szA).length C8) w6a) := (by rw [RLl.out]; exact PK.out.l : OwnB 3 1 iL w1.heap.size (nb.map szA) (.slice (some ⟨B8, 0, none⟩) (nb.map szA).length C8) w6a)
                      have TLl : Hid (((nb.map szA).take t).length = t) := (by rw [List.length_take, RLl.out]; omega : ((nb.map szA).take t).length = t)
                      have DLl : Hid (((nb.map szA).drop (t + 1)).length = n2 - (t + 1)) := (by rw [List.length_drop, RLl.out] : ((nb.map szA).drop (t + 1)).length = n2 - (t + 1))
                      have T1l : Hid (∀ j u, (((nb.map szA).take t).flatMap iL)[j]? = some u → (w6a.drew.alloc (.cells #[] 3)).cell? ((⟨B8, 0, none⟩ : Addr).add j) = some u) := cut_take w6a OWl.out t
                      have F5Fl : Hid (∀ v5 w5, OwnB 3 1 iL w6a.heap.size ([] ++ (nb.map szA).take t) v5 w5 → Below w6a.heap.size (w6a.drew.alloc (.cells #[] 3)) w5 → Below w6a.heap.size w6a w5 ∧ OwnB 3 1 iL w6a.heap.size ((nb.map szA).take t) v5 w5 ∧ (∀ j u, (((nb.map szA).drop (t + 1)).flatMap iL)[j]? = some u → w5.cell? (Ql.add j) = some u)) := fun v5 w5 h5 k5 => cut_one w6a OWl.out t Ql HQl.out (by rw [RLl.out]; omega) v5 w5 h5 k5
                      refine wp_region_any (by kernel_rfl) ?_
                      change wpAny _ _ _ _ _ _ _ (World.drew _)
                      refine wpAny_take (i := 1) (v := .slice (some ⟨B8, 0, none⟩) n2 C8) rfl (by kernel_rfl) (by kernel_rfl) (by kernel_rfl) (fun _ _ _ h => h) (Or.inl ⟨by rfl, ?_⟩) ?_
                      · intro w'; go_simp
                      (try simp only [Act.put, List.getElem_toArray, List.getElem_cons_succ, List.getElem_cons_zero, List.setIfInBounds_toArray, List.set_cons_zero, List.set_cons_succ])
                      refine wpAny_take (i := 2) (v := .int .i64 (t : Int)) rfl (by kernel_rfl) (by kernel_rfl) (by kernel_rfl) (fun _ _ _ h => h) (Or.inl ⟨by rfl, ?_⟩) ?_
                      · intro w'; go_simp
                      (try simp only [Act.put, List.getElem_toArray, List.getElem_cons_succ, List.getElem_cons_zero, List.setIfInBounds_toArray, List.set_cons_zero, List.set_cons_succ])
                      refine wpAny_take (i := 3) (v := .slice (some ⟨B8, 0, none⟩) t C8) rfl (by kernel_rfl) (by kernel_rfl) (by kernel_rfl) (fun _ _ _ h => h) (Or.inl ⟨by rfl, ?_⟩) ?_
                      · intro w'; go_simp; intro h; exfalso; omega
                      (try simp only [Act.put, List.getElem_toArray, List.getElem_cons_succ, List.getElem_cons_zero, List.setIfInBounds_toArray, List.set_cons_zero, List.set_cons_succ])
                      refine wpAny_take (i := 5) (v := .slice (some ⟨B8, 0, none⟩) n2 C8) rfl (by kernel_rfl) (by kernel_rfl) (by kernel_rfl) (fun _ _ _ h => h) (Or.inl ⟨by rfl, ?_⟩) ?_
                      · intro w'; go_simp
                      (try simp only [Act.put, List.getElem_toArray, List.getElem_cons_succ, List.getElem_cons_zero, List.setIfInBounds_toArray, List.set_cons_zero, List.set_cons_succ])
                      refine wpAny_take (i := 6) (v := .int .i64 (t : Int)) rfl (by kernel_rfl) (by kernel_rfl) (by kernel_rfl) (fun _ _ _ h => h) (Or.inl ⟨by rfl, ?_⟩) ?_
                      · intro w'; go_simp
                      (try simp only [Act.put, List.getElem_toArray, List.getElem_cons_succ, List.getElem_cons_zero, List.setIfInBounds_toArray, List.set_cons_zero, List.set_cons_succ])
                      refine wpAny_take (i := 7) (v := .int .i64 ((t : Int) + 1)) rfl (by kernel_rfl) (by kernel_rfl) (by kernel_rfl) (fun _ _ _ h => h) (Or.inl ⟨by rfl, ?_⟩) ?_
                      · intro w'; go_simp; exact wrap_in _ ⟨by omega, by omega⟩
                      (try simp only [Act.put, List.getElem_toArray, List.getElem_cons_succ, List.getElem_cons_zero, List.setIfInBounds_toArray, List.set_cons_zero, List.set_cons_succ])
                      refine wpAny_take (i := 8) (v := .slice (some Ql) (n2 - (t + 1)) (C8 - (t + 1))) rfl (by kernel_rfl) (by kernel_rfl) (by kernel_rfl) (fun _ _ _ h => h) (Or.inl ⟨by rfl, ?_⟩) ?_
                      · intro w'; go_simp; rw [if_pos (by omega), HQl.out]
                      (try simp only [Act.put, List.getElem_toArray, List.getElem_cons_succ, List.getElem_cons_zero, List.setIfInBounds_toArray, List.set_cons_zero, List.set_cons_succ])
                      refine wpAny_ready (rs := [0]) (by kernel_rfl) (by simp) ?_
                      refine AllReady.cons rfl (fun K hK => ?_) AllReady.nil
                      go_simp
                      refine hK _ _ ?_; clear hK K
                      (try simp only [Act.put, List.getElem_toArray, List.getElem_cons_succ, List.getElem_cons_zero, List.setIfInBounds_toArray, List.set_cons_zero, List.set_cons_succ])
                      have EAl : Hid (OwnB 3 1 iL w6a.heap.size [] (.slice (some ⟨w6a.heap.size, 0, none⟩) 0 0) (w6a.drew.alloc (.cells #[] 3))) := OwnB.fresh (At.newS _ _ _ rfl) (Nat.le_refl _)
                      refine wpAny_ready (rs := [4]) (by kernel_rfl) (by simp) ?_
                      refine AllReady.cons rfl (fun K hK => ?_) AllReady.nil
                      rw [if_pos (by rfl)]
                      refine OwnB.append 30 3 iL _ 1 8 info3 Tryd.underlying30 rfl (by decide) (by decide) iL_len iL_one _ _ _ rfl _ rfl w6a.heap.size [] ((nb.map szA).take t) EAl.out ⟨B8, 0, none⟩ C8 (by rw [TLl.out]; rfl) T1l.out (by rw [TLl.out]; simp; omega) ?_
                      intro v5l w5l h5 k5
                      obtain ⟨A5l, C5l, rfl, _⟩ := h5.done iL_len
                      have F5l : Hid (Below w6a.heap.size w6a w5l ∧ OwnB 3 1 iL w6a.heap.size ((nb.map szA).take t) (.slice A5l ([] ++ (nb.map szA).take t).length C5l) w5l ∧ (∀ j u, (((nb.map szA).drop (t + 1)).flatMap iL)[j]? = some u → w5l.cell? (Ql.add j) = some u)) := F5Fl.out _ _ h5 k5
                      clear h5 k5
                      generalize ([] ++ (nb.map szA).take t).length = LNl at F5l ⊢
                      refine hK _ _ ?_; clear hK K
                      (try simp only [Act.put, List.getElem_toArray, List.getElem_cons_succ, List.getElem_cons_zero, List.setIfInBounds_toArray, List.set_cons_zero, List.set_cons_succ])
                      refine wpAny_ready (rs := [9]) (by kernel_rfl) (by simp) ?_
                      refine AllReady.cons rfl (fun K hK => ?_) AllReady.nil
                      rw [if_pos (by rfl)]
                      refine OwnB.append 30 3 iL _ 1 8 info3 Tryd.underlying30 rfl (by decide) (by decide) iL_len iL_one _ _ _ rfl _ rfl w6a.heap.size ((nb.map szA).take t) ((nb.map szA).drop (t + 1)) F5l.out.2.1 Ql (C8 - (t + 1)) (by rw [DLl.out]; rfl) F5l.out.2.2 (by rw [TLl.out, DLl.out]; omega) ?_
                      intro v6l w6l h6 k6
                      obtain ⟨A6l, C6l, rfl, _⟩ := h6.done iL_len
                      have F6l : Hid (OwnB 3 1 iL w6a.heap.size ((nb.map szA).take t ++ (nb.map szA).drop (t + 1)) (.slice A6l ((nb.map szA).take t ++ (nb.map szA).drop (t + 1)).length C6l) w6l ∧ Below w6a.heap.size w6a w6l) := ⟨h6, F5l.out.1.trans k6⟩
                      clear h6 k6
                      generalize ((nb.map szA).take t ++ (nb.map szA).drop (t + 1)).length = LMl at F6l ⊢
                      refine hK _ _ ?_; clear hK K
                      (try simp only [Act.put, List.getElem_toArray, List.getElem_cons_succ, List.getElem_cons_zero, List.setIfInBounds_toArray, List.set_cons_zero, List.set_cons_succ])
                      refine wpAny_take (i := 10) (v := .slice A6l LMl C6l) rfl (by kernel_rfl) (by kernel_rfl) (by kernel_rfl) (fun _ _ _ h => h) (Or.inl ⟨by rfl, ?_⟩) ?_
                      · intro w'; go_simp
                      (try simp only [Act.put, List.getElem_toArray, List.getElem_cons_succ, List.getElem_cons_zero, List.setIfInBounds_toArray, List.set_cons_zero, List.set_cons_succ])
                      refine wpAny_done (by kernel_rfl) ?_ _
                      have PL : Hid (AM w w.heap.size g w1.heap.size (upd (upd us c k0 true) nb[t].1 nb[t].2 false) (((nb.map adA1).take t ++ (nb.map adA1).drop (t + 1))) (.slice A6a LMa C6a) (((nb.map szA).take t ++ (nb.map szA).drop (t + 1))) (.slice A6l LMl C6l) (nb.map clA) (.slice (some ⟨B9, 0, none⟩) n2 C9) w6l) := (PK.out.rot.byN F6l.out.1 F6l.out.2).rot.rot
                      clear F6l
                      go_wp2
                      obtain ⟨Qc, hQc⟩ : ∃ q, (if C9 = t + 1 then some (⟨B9, 0, none⟩ : Addr) else some ⟨B9, t + 1, none⟩) = some q := by split <;> exact ⟨_, rfl⟩
                      have HQc : Hid ((if C9 = t + 1 then some (⟨B9, 0, none⟩ : Addr) else some ⟨B9, t + 1, none⟩) = some Qc) := hQc
                      clear hQc
                      have RLc : Hid ((nb.map clA).length = n2) := (by rw [List.length_map]; exact hnl : (nb.map clA).length = n2)
                      have OWc : Hid (OwnB 3 1 iL w1.heap.size (nb.map clA) (.slice (some ⟨B9, 0, none⟩) (nb.map clA).length C9) w6l) := (by rw [RLc.out]; exact PL.out.c : OwnB 3 1 iL w1.heap.size (nb.map clA) (.slice (some ⟨B9, 0, none⟩) (nb.map clA).length C9) w6l)
                      have TLc : Hid (((nb.map clA).take t).length = t) := (by rw [List.length_take, RLc.out]; omega : ((nb.map clA).take t).length = t)
                      have DLc : Hid (((nb.map clA).drop (t + 1)).length = n2 - (t + 1)) := (by rw [List.length_drop, RLc.out] : ((nb.map clA).drop (t + 1)).length = n2 - (t + 1))
                      have T1c : Hid (∀ j u, (((nb.map clA).take t).flatMap iL)[j]? = some u → (w6l.drew.alloc (.cells #[] 3)).cell? ((⟨B9, 0, none⟩ : Addr).add j) = some u) := cut_take w6l OWc.out t
                      have F5Fc : Hid (∀ v5 w5, OwnB 3 1 iL w6l.heap.size ([] ++ (nb.map clA).take t) v5 w5 → Below w6l.heap.size (w6l.drew.alloc (.cells #[] 3)) w5 → Below w6l.heap.size w6l w5 ∧ OwnB 3 1 iL w6l.heap.size ((nb.map clA).take t) v5 w5 ∧ (∀ j u, (((nb.map clA).drop (t + 1)).flatMap iL)[j]? = some u → w5.cell? (Qc.add j) = some u)) := fun v5 w5 h5 k5 => cut_one w6l OWc.out t Qc HQc.out (by rw [RLc.out]; omega) v5 w5 h5 k5
                      refine wp_region_any (by kernel_rfl) ?_
                      change wpAny _ _ _ _ _ _ _ (World.drew _)
                      refine wpAny_take (i := 1) (v := .slice (some ⟨B9, 0, none⟩) n2 C9) rfl (by kernel_rfl) (by kernel_rfl) (by kernel_rfl) (fun _ _ _ h => h) (Or.inl ⟨by rfl, ?_⟩) ?_
                      · intro w'; go_simp
                      (try simp only [Act.put, List.getElem_toArray, List.getElem_cons_succ, List.getElem_cons_zero, List.setIfInBounds_toArray, List.set_cons_zero, List.set_cons_succ])
                      refine wpAny_take (i := 2) (v := .int .i64 (t : Int)) rfl (by kernel_rfl) (by kernel_rfl) (by kernel_rfl) (fun _ _ _ h => h) (Or.inl ⟨by rfl, ?_⟩) ?_
                      · intro w'; go_simp
                      (try simp only [Act.put, List.getElem_toArray, List.getElem_cons_succ, List.getElem_cons_zero, List.setIfInBounds_toArray, List.set_cons_zero, List.set_cons_succ])
                      refine wpAny_take (i := 3) (v := .slice (some ⟨B9, 0, none⟩) t C9) rfl (by kernel_rfl) (by kernel_rfl) (by kernel_rfl) (fun _ _ _ h => h) (Or.inl ⟨by rfl, ?_⟩) ?_
                      · intro w'; go_simp; intro h; exfalso; omega
                      (try simp only [Act.put, List.getElem_toArray, List.getElem_cons_succ, List.getElem_cons_zero, List.setIfInBounds_toArray, List.set_cons_zero, List.set_cons_succ])
                      refine wpAny_take (i := 5) (v := .slice (some ⟨B9, 0, none⟩) n2 C9) rfl (by kernel_rfl) (by kernel_rfl) (by kernel_rfl) (fun _ _ _ h => h) (Or.inl ⟨by rfl, ?_⟩) ?_
                      · intro w'; go_simp
                      (try simp only [Act.put, List.getElem_toArray, List.getElem_cons_succ, List.getElem_cons_zero, List.setIfInBounds_toArray, List.set_cons_zero, List.set_cons_succ])
                      refine wpAny_take (i := 6) (v := .int .i64 (t : Int)) rfl (by kernel_rfl) (by kernel_rfl) (by kernel_rfl) (fun _ _ _ h => h) (Or.inl ⟨by rfl, ?_⟩) ?_
                      · intro w'; go_simp
                      (try simp only [Act.put, List.getElem_toArray, List.getElem_cons_succ, List.getElem_cons_zero, List.setIfInBounds_toArray, List.set_cons_zero, List.set_cons_succ])
                      refine wpAny_take (i := 7) (v := .int .i64 ((t : Int) + 1)) rfl (by kernel_rfl) (by kernel_rfl) (by kernel_rfl) (fun _ _ _ h => h) (Or.inl ⟨by rfl, ?_⟩) ?_
                      · intro w'; go_simp; exact wrap_in _ ⟨by omega, by omega⟩
                      (try simp only [Act.put, List.getElem_toArray, List.getElem_cons_succ, List.getElem_cons_zero, List.setIfInBounds_toArray, List.set_cons_zero, List.set_cons_succ])
                      refine wpAny_take (i := 8) (v := .slice (some Qc) (n2 - (t + 1)) (C9 - (t + 1))) rfl (by kernel_rfl) (by kernel_rfl) (by kernel_rfl) (fun _ _ _ h => h) (Or.inl ⟨by rfl, ?_⟩) ?_
                      · intro w'; go_simp; rw [if_pos (by omega), HQc.out]
                      (try simp only [Act.put, List.getElem_toArray, List.getElem_cons_succ, List.getElem_cons_zero, List.setIfInBounds_toArray, List.set_cons_zero, List.set_cons_succ])
                      refine wpAny_ready (rs := [0]) (by kernel_rfl) (by simp) ?_
                      refine AllReady.cons rfl (fun K hK => ?_) AllReady.nil
                      go_simp
                      refine hK _ _ ?_; clear hK K
                      (try simp only [Act.put, List.getElem_toArray, List.getElem_cons_succ, List.getElem_cons_zero, List.setIfInBounds_toArray, List.set_cons_zero, List.set_cons_succ])
                      have EAc : Hid (OwnB 3 1 iL w6l.heap.size [] (.slice (some ⟨w6l.heap.size, 0, none⟩) 0 0) (w6l.drew.alloc (.cells #[] 3))) := OwnB.fresh (At.newS _ _ _ rfl) (Nat.le_refl _)
                      refine wpAny_ready (rs := [4]) (by kernel_rfl) (by simp) ?_
                      refine AllReady.cons rfl (fun K hK => ?_) AllReady.nil
                      rw [if_pos (by rfl)]
                      refine OwnB.append 30 3 iL _ 1 8 info3 Tryd.underlying30 rfl (by decide) (by decide) iL_len iL_one _ _ _ rfl _ rfl w6l.heap.size [] ((nb.map clA).take t) EAc.out ⟨B9, 0, none⟩ C9 (by rw [TLc.out]; rfl) T1c.out (by rw [TLc.out]; simp; omega) ?_
                      intro v5c w5c h5 k5
                      obtain ⟨A5c, C5c, rfl, _⟩ := h5.done iL_len
                      have F5c : Hid (Below w6l.heap.size w6l w5c ∧ OwnB 3 1 iL w6l.heap.size ((nb.map clA).take t) (.slice A5c ([] ++ (nb.map clA).take t).length C5c) w5c ∧ (∀ j u, (((nb.map clA).drop (t + 1)).flatMap iL)[j]? = some u → w5c.cell? (Qc.add j) = some u)) := F5Fc.out _ _ h5 k5
                      clear h5 k5
                      generalize ([] ++ (nb.map clA).take t).length = LNc at F5c ⊢
                      refine hK _ _ ?_; clear hK K
                      (try simp only [Act.put, List.getElem_toArray, List.getElem_cons_succ, List.getElem_cons_zero, List.setIfInBounds_toArray, List.set_cons_zero, List.set_cons_succ])
                      refine wpAny_ready (rs := [9]) (by kernel_rfl) (by simp) ?_
                      refine AllReady.cons rfl (fun K hK => ?_) AllReady.nil
                      rw [if_pos (by rfl)]
                      refine OwnB.append 30 3 iL _ 1 8 info3 Tryd.underlying30 rfl (by decide) (by decide) iL_len iL_one _ _ _ rfl _ rfl w6l.heap.size ((nb.map clA).take t) ((nb.map clA).drop (t + 1)) F5c.out.2.1 Qc (C9 - (t + 1)) (by rw [DLc.out]; rfl) F5c.out.2.2 (by rw [TLc.out, DLc.out]; omega) ?_
                      intro v6c w6c h6 k6
                      obtain ⟨A6c, C6c, rfl, _⟩ := h6.done iL_len
                      have F6c : Hid (OwnB 3 1 iL w6l.heap.size ((nb.map clA).take t ++ (nb.map clA).drop (t + 1)) (.slice A6c ((nb.map clA).take t ++ (nb.map clA).drop (t + 1)).length C6c) w6c ∧ Below w6l.heap.size w6l w6c) := ⟨h6, F5c.out.1.trans k6⟩
                      clear h6 k6
                      generalize ((nb.map clA).take t ++ (nb.map clA).drop (t + 1)).length = LMc at F6c ⊢
                      refine hK _ _ ?_; clear hK K
                      (try simp only [Act.put, List.getElem_toArray, List.getElem_cons_succ, List.getElem_cons_zero, List.setIfInBounds_toArray, List.set_cons_zero, List.set_cons_succ])
                      refine wpAny_take (i := 10) (v := .slice A6c LMc C6c) rfl (by kernel_rfl) (by kernel_rfl) (by kernel_rfl) (fun _ _ _ h => h) (Or.inl ⟨by rfl, ?_⟩) ?_
                      · intro w'; go_simp
                      (try simp only [Act.put, List.getElem_toArray, List.getElem_cons_succ, List.getElem_cons_zero, List.setIfInBounds_toArray, List.set_cons_zero, List.set_cons_succ])
                      refine wpAny_done (by kernel_rfl) ?_ _
                      have ZZ : Hid (AM w w.heap.size g w1.heap.size (upd (upd us c k0 true) nb[t].1 nb[t].2 false) (((nb.map adA1).take t ++ (nb.map adA1).drop (t + 1))) (.slice A6a LMa C6a) (((nb.map szA).take t ++ (nb.map szA).drop (t + 1))) (.slice A6l LMl C6l) (((nb.map clA).take t ++ (nb.map clA).drop (t + 1))) (.slice A6c LMc C6c) w6c) := (PL.out.rot.rot.byN F6c.out.1 F6c.out.2).rot
                      go_wp2
                      go_roundw
                      case rel => exact ⟨k + 1, (upd (upd us c k0 true) nb[t].1 nb[t].2 false), nb.take t ++ nb.drop (t + 1), by omega, by omega, by go_num, (by have := ZZ.out; simpa only [List.map_append, List.map_take, List.map_drop] using this), RC2.out, (by simp; omega)⟩
                      case measure => simp [intOf]; omega
              · have hf3 : ((fk % 4) == 0) = false := by simpa using hf2
                as_aux_lemma =>
                  obtain ⟨hk0, hu0⟩ := fr_some hfr
                  have hct := cnt_take (us := us) (c := c) (n := bl c) k0 hk0 hu0
                  have hcl := cnt_le (upd us c k0 true) c (bl c)
                  have hlu : liA us (c : Int) = cnt us c (bl c) := by unfold liA; rw [if_neg (by omega)]; rfl
                  have hlv : liA (upd us c k0 true) (c : Int) = cnt us c (bl c) + 1 := by unfold liA; rw [if_neg (by omega)]; exact hct
                  have hL : cb bs (c : Int) bs.length = cnt us c (bl c) := by rw [← RR.out.live]; exact hlu
                  have RN : Hid (Rel (upd us c k0 true) (bs ++ [(c, k0)])) := by
                    have := RR.out.alloc c hc
                    rw [hfr] at this
                    exact this
                  have hnot : (c, k0) ∉ bs := fun hp => by
                    have := (RR.out.mem c k0 hc hk0).2 hp
                    rw [hu0] at this
                    cases this
                  rw [hL]
                  obtain ⟨X, hX⟩ : ∃ X, X = adr c k0 := ⟨_, rfl⟩
                  have hw := within_all (us := upd us c k0 true) c k0 hc hk0 (upd_self _ _ _ _)
                  have hX0 := adr_in c k0 hk0
                  have hXe := st_end c hc
                  have hX3 : X.tmod 4 = 0 := by rw [hX]; exact adr_tmod c k0 hc
                  rw [← hX] at hw hX0
                  have hX1 : (262144 : Int) ≤ X := by omega
                  have hX2 : X + 4 * (sz c : Int) ≤ 273408 := by omega
                  have APT : Hid (∀ (i : Nat) (h : i < bs.length), ¬ (X < adA1 bs[i] + 4 * szA bs[i] ∧ adA1 bs[i] < X + 4 * (sz c : Int))) := fun i h => by
                    have ho := RR.out.ok _ (List.getElem_mem h)
                    have := apart_blocks c k0 bs[i].1 bs[i].2 hc ho.1 hk0 ho.2 (fun e => hnot (by rw [e]; exact List.getElem_mem h))
                    rw [← hX] at this
                    exact this
                  have BND : Hid (∀ (i : Nat) (h : i < bs.length), 262144 ≤ adA1 bs[i] ∧ adA1 bs[i] ≤ 273408 ∧ 4 ≤ szA bs[i] ∧ szA bs[i] ≤ 128) := fun i h => by
                    have ho := RR.out.ok _ (List.getElem_mem h)
                    have q1 := adr_in _ _ ho.2
                    have q2 := st_end _ ho.1
                    have q3 := span_le bs[i].1
                    unfold adA1 szA
                    omega
                  have KA : Hid (Calls Tryd.prog 10 #[.pointer (some ⟨w.heap.size, 0, none⟩), .int .i64 (m : Int)] w2 fun e w' => e = .returned (.tuple #[.int .i64 X, .int .i64 0]) ∧ HIn w' w.heap.size g (upd us c k0 true) ∧ Kp (Gs g) w2 w') := by
                    have := alloc_c P2.out.h (m : Int) P2.out.tab
                    rw [CO.out, show alA us (some c) = (X, 0, upd us c k0 true) by show alR us c (fr us c) = _; rw [hfr, hX]; rfl] at this
                    exact this
                  generalize cnt us c (bl c) = L at *
                  have KL : Hid (∀ W, HIn W w.heap.size g (upd us c k0 true) → Calls Tryd.prog 16 #[.pointer (some ⟨w.heap.size, 0, none⟩), .int .i64 (c : Int)] W fun e w' => e = .returned (.int .i64 ((L : Int) + 1)) ∧ Below W.heap.size W w') := fun W h => by
                    have := live_c h (c : Int)
                    rw [hlv] at this
                    exact this
                  have KX : Hid (∀ W, HIn W w.heap.size g (upd us c k0 true) → Tab W → Calls Tryd.prog 18 #[.pointer (some ⟨w.heap.size, 0, none⟩), .int .i64 X, .int .i64 (sz c : Int)] W fun e w' => e = .returned (.bool true) ∧ Below W.heap.size W w') := fun W h1 h2 => by
                    have := within_c h1 X (sz c : Int) h2
                    rw [hw] at this
                    exact this
                  have hLb : ((L : Int) == (bl c : Int)) = false := by rw [beq_eq_false_iff_ne]; omega
                  have hLs : (L : Int) + 1 - (L : Int) = 1 := by omega
                  have hLz : (L : Int) ≤ 64 := by omega
                  obtain ⟨nb, hnb⟩ : ∃ nb, nb = bs ++ [(c, k0)] := ⟨_, rfl⟩
                  obtain ⟨n2, hn2⟩ : ∃ n2, n2 = bs.length + 1 := ⟨_, rfl⟩
                  have hnl : nb.length = n2 := by rw [hnb, hn2]; simp
                  have ma : Hid (bs.map adA1 ++ [X] = nb.map adA1) := (by rw [hnb, hX]; simp [adA1] : bs.map adA1 ++ [X] = nb.map adA1)
                  have ml : Hid (bs.map szA ++ [(sz c : Int)] = nb.map szA) := (by rw [hnb]; simp [szA] : bs.map szA ++ [(sz c : Int)] = nb.map szA)
                  have mc : Hid (bs.map clA ++ [(c : Int)] = nb.map clA) := (by rw [hnb]; simp [clA] : bs.map clA ++ [(c : Int)] = nb.map clA)
                  rw [← hnb] at RN
                  have LA1 : Hid ((bs.map adA1).length ≤ 1000) := (by simp; omega : (bs.map adA1).length ≤ 1000)
                  have LL1 : Hid ((bs.map szA).length ≤ 1000) := (by simp; omega : (bs.map szA).length ≤ 1000)
                  have LC1 : Hid ((bs.map clA).length ≤ 1000) := (by simp; omega : (bs.map clA).length ≤ 1000)
                  have NA : Hid ((nb.map adA1).length = n2) := (by simpa using hnl : (nb.map adA1).length = n2)
                  have NL : Hid ((nb.map szA).length = n2) := (by simpa using hnl : (nb.map szA).length = n2)
                  have NC : Hid ((nb.map clA).length = n2) := (by simpa using hnl : (nb.map clA).length = n2)
                  have hn2p : 0 < n2 := by omega
                  have hn2l : n2 ≤ 151 := by omega
                  have hn2k : n2 ≤ k + 1 := by omega
                  clear hct hcl hlu hlv hL hfr hw hX0 hXe CL hnot hu0 hX hnb hn2
                  go_wp2_with (first
                  | (go_at_call 10; refine KA.out.mono ?_; rintro e w3 ⟨rfl, h3, k3⟩; have P3 : Hid (AM w w.heap.size g w1.heap.size (upd us c k0 true) (bs.map adA1) (.slice AA bs.length AC) (bs.map szA) (.slice LA bs.length LC) (bs.map clA) (.slice CA bs.length CC) w3) := P2.out.byH h3 k3; clear h3 k3)
                  | (go_at_call 16; refine (KL.out _ P3.out.h).mono ?_; rintro e w4 ⟨rfl, h4⟩; have P4 : Hid (AM w w.heap.size g w1.heap.size (upd us c k0 true) (bs.map adA1) (.slice AA bs.length AC) (bs.map szA) (.slice LA bs.length LC) (bs.map clA) (.slice CA bs.length CC) w4) := P3.out.below h4; clear h4)
                  | (go_at_call 18; refine (KX.out _ P4.out.h P4.out.tab).mono ?_; rintro e w5 ⟨rfl, h5⟩; have P5 : Hid (AM w w.heap.size g w1.heap.size (upd us c k0 true) (bs.map adA1) (.slice AA bs.length AC) (bs.map szA) (.slice LA bs.length LC) (bs.map clA) (.slice CA bs.length CC) w5) := P4.out.below h5; clear h5))
                  go_loopw [19] (fun j wr => ∃ i : Nat, i ≤ bs.length ∧ j = .int .i64 (i : Int) ∧ AM w w.heap.size g w1.heap.size (upd us c k0 true) (bs.map adA1) (.slice AA bs.length AC) (bs.map szA) (.slice LA bs.length LC) (bs.map clA) (.slice CA bs.length CC) wr) (fun j _ => bs.length - (intOf j).toNat)
                  case atStart => exact ⟨0, by omega, rfl, P5.out⟩
                  case round =>
                    obtain ⟨i, hi, rfl, hPi⟩ := hrel
                    have P6 : Hid (AM w w.heap.size g w1.heap.size (upd us c k0 true) (bs.map adA1) (.slice AA bs.length AC) (bs.map szA) (.slice LA bs.length LC) (bs.map clA) (.slice CA bs.length CC) wr) := hPi
                    clear hPi
                    rcases Nat.lt_or_ge i bs.length with hi' | hi'
                    · have hiz : (i : Int) < bs.length := by omega
                      obtain ⟨AB, rfl, _, _, _⟩ := hsha (by omega)
                      obtain ⟨LB, rfl, _, _, _⟩ := hshl (by omega)
                      have h0 := P6.out.a.icell i (by rw [List.length_map]; exact hi')
                      have h1 := P6.out.l.icell i (by rw [List.length_map]; exact hi')
                      rw [List.getElem_map] at h0 h1
                      have hap := APT.out i hi'
                      obtain ⟨y1, y2, y3, y4⟩ := BND.out i hi'
                      generalize adA1 bs[i] = y at *
                      generalize szA bs[i] = z at *
                      by_cases q1 : X < y + 4 * z
                      · have q2 : ¬ y < X + 4 * (sz c : Int) := fun h => hap ⟨q1, h⟩
                        clear hap
                        go_wp2
                        go_quiet (fail)
                        go_wp2
                        go_roundw
                        case rel => exact ⟨i + 1, by omega, by go_num, P6.out.below (below_drewN _ _)⟩
                        case measure => simp [intOf]; omega
                      · clear hap
                        have q1' : decide (X < y + 4 * z) = false := decide_eq_false q1
                        go_wp2
                        go_quiet (fail)
                        go_wp2
                        go_roundw
                        case rel => exact ⟨i + 1, by omega, by go_num, P6.out.below (below_drewN _ _)⟩
                        case measure => simp [intOf]; omega
                    · have hiz : ¬ (i : Int) < bs.length := by omega
                      clear hsha hshl hshc APT BND
                      have hfz : (k : Int) < frees.length := by omega
                      go_wp2_with (first
                      | (have M' := P8; refine OwnB.appendNL _ rfl _ _ rfl _ rfl (c : Int) (P8.out.below (below_alloc _ _)).c ⟨w8.heap.size, 0, none⟩ 1 rfl (fun j u hj => cells_new _ (iL (c : Int)) 3 j u hj) LC1.out ?_; intro v9 w9 h9 k9 m9 n9; rw [mc.out] at h9; obtain ⟨A9, C9, hv9, s9⟩ := h9.shape; rw [NC.out] at hv9 s9; obtain ⟨B9, rfl, _, _, hC9⟩ := s9 hn2p; subst hv9; have P9 : Hid (AM w w.heap.size g w1.heap.size (upd us c k0 true) (nb.map adA1) (.slice (some ⟨B7, 0, none⟩) n2 C7) (nb.map szA) (.slice (some ⟨B8, 0, none⟩) n2 C8) (nb.map clA) (.slice (some ⟨B9, 0, none⟩) n2 C9) w9) := ((P8.out.below (below_alloc _ _)).rot.rot.byA h9 k9 m9 n9).rot; have cf := CF.out _ P9.out.b; clear h9 k9 m9 n9 s9 M' P8)
                      | (have M' := P7; refine OwnB.appendNL _ rfl _ _ rfl _ rfl (sz c : Int) (P7.out.below (below_alloc _ _)).l ⟨w7.heap.size, 0, none⟩ 1 rfl (fun j u hj => cells_new _ (iL (sz c : Int)) 3 j u hj) LL1.out ?_; intro v8 w8 h8 k8 m8 n8; rw [ml.out] at h8; obtain ⟨A8, C8, hv8, s8⟩ := h8.shape; rw [NL.out] at hv8 s8; obtain ⟨B8, rfl, _, _, hC8⟩ := s8 hn2p; subst hv8; have P8 : Hid (AM w w.heap.size g w1.heap.size (upd us c k0 true) (nb.map adA1) (.slice (some ⟨B7, 0, none⟩) n2 C7) (nb.map szA) (.slice (some ⟨B8, 0, none⟩) n2 C8) (bs.map clA) (.slice CA bs.length CC) w8) := ((P7.out.below (below_alloc _ _)).rot.byA h8 k8 m8 n8).rot.rot; clear h8 k8 m8 n8 s8 M' P7)
                      | (refine OwnB.appendNL _ rfl _ _ rfl _ rfl X (P6.out.below (below_alloc _ _)).a ⟨wr.heap.size, 0, none⟩ 1 rfl (fun j u hj => cells_new _ (iL X) 3 j u hj) LA1.out ?_; intro v7 w7 h7 k7 m7 n7; rw [ma.out] at h7; obtain ⟨A7, C7, hv7, s7⟩ := h7.shape; rw [NA.out] at hv7 s7; obtain ⟨B7, rfl, _, _, hC7⟩ := s7 hn2p; subst hv7; have P7 : Hid (AM w w.heap.size g w1.heap.size (upd us c k0 true) (nb.map adA1) (.slice (some ⟨B7, 0, none⟩) n2 C7) (bs.map szA) (.slice LA bs.length LC) (bs.map clA) (.slice CA bs.length CC) w7) := (P6.out.below (below_alloc _ _)).byA h7 k7 m7 n7; clear h7 k7 m7 n7 s7))
                      go_roundw
                      case rel => exact ⟨k + 1, (upd us c k0 true), nb, by omega, by omega, by go_num, P9.out, RN.out, by omega⟩
                      case measure => simp [intOf]; omega
            · clear CF0
              as_aux_lemma =>
                obtain ⟨hk0, hu0⟩ := fr_some hfr
                have hct := cnt_take (us := us) (c := c) (n := bl c) k0 hk0 hu0
                have hcl := cnt_le (upd us c k0 true) c (bl c)
                have hlu : liA us (c : Int) = cnt us c (bl c) := by unfold liA; rw [if_neg (by omega)]; rfl
                have hlv : liA (upd us c k0 true) (c : Int) = cnt us c (bl c) + 1 := by unfold liA; rw [if_neg (by omega)]; exact hct
                have hL : cb bs (c : Int) bs.length = cnt us c (bl c) := by rw [← RR.out.live]; exact hlu
                have RN : Hid (Rel (upd us c k0 true) (bs ++ [(c, k0)])) := by
                  have := RR.out.alloc c hc
                  rw [hfr] at this
                  exact this
                have hnot : (c, k0) ∉ bs := fun hp => by
                  have := (RR.out.mem c k0 hc hk0).2 hp
                  rw [hu0] at this
                  cases this
                rw [hL]
                obtain ⟨X, hX⟩ : ∃ X, X = adr c k0 := ⟨_, rfl⟩
                have hw := within_all (us := upd us c k0 true) c k0 hc hk0 (upd_self _ _ _ _)
                have hX0 := adr_in c k0 hk0
                have hXe := st_end c hc
                have hX3 : X.tmod 4 = 0 := by rw [hX]; exact adr_tmod c k0 hc
                rw [← hX] at hw hX0
                have hX1 : (262144 : Int) ≤ X := by omega
                have hX2 : X + 4 * (sz c : Int) ≤ 273408 := by omega
                have APT : Hid (∀ (i : Nat) (h : i < bs.length), ¬ (X < adA1 bs[i] + 4 * szA bs[i] ∧ adA1 bs[i] < X + 4 * (sz c : Int))) := fun i h => by
                  have ho := RR.out.ok _ (List.getElem_mem h)
                  have := apart_blocks c k0 bs[i].1 bs[i].2 hc ho.1 hk0 ho.2 (fun e => hnot (by rw [e]; exact List.getElem_mem h))
                  rw [← hX] at this
                  exact this
                have BND : Hid (∀ (i : Nat) (h : i < bs.length), 262144 ≤ adA1 bs[i] ∧ adA1 bs[i] ≤ 273408 ∧ 4 ≤ szA bs[i] ∧ szA bs[i] ≤ 128) := fun i h => by
                  have ho := RR.out.ok _ (List.getElem_mem h)
                  have q1 := adr_in _ _ ho.2
                  have q2 := st_end _ ho.1
                  have q3 := span_le bs[i].1
                  unfold adA1 szA
                  omega
                have KA : Hid (Calls Tryd.prog 10 #[.pointer (some ⟨w.heap.size, 0, none⟩), .int .i64 (m : Int)] w2 fun e w' => e = .returned (.tuple #[.int .i64 X, .int .i64 0]) ∧ HIn w' w.heap.size g (upd us c k0 true) ∧ Kp (Gs g) w2 w') := by
                  have := alloc_c P2.out.h (m : Int) P2.out.tab
                  rw [CO.out, show alA us (some c) = (X, 0, upd us c k0 true) by show alR us c (fr us c) = _; rw [hfr, hX]; rfl] at this
                  exact this
                generalize cnt us c (bl c) = L at *
                have KL : Hid (∀ W, HIn W w.heap.size g (upd us c k0 true) → Calls Tryd.prog 16 #[.pointer (some ⟨w.heap.size, 0, none⟩), .int .i64 (c : Int)] W fun e w' => e = .returned (.int .i64 ((L : Int) + 1)) ∧ Below W.heap.size W w') := fun W h => by
                  have := live_c h (c : Int)
                  rw [hlv] at this
                  exact this
                have KX : Hid (∀ W, HIn W w.heap.size g (upd us c k0 true) → Tab W → Calls Tryd.prog 18 #[.pointer (some ⟨w.heap.size, 0, none⟩), .int .i64 X, .int .i64 (sz c : Int)] W fun e w' => e = .returned (.bool true) ∧ Below W.heap.size W w') := fun W h1 h2 => by
                  have := within_c h1 X (sz c : Int) h2
                  rw [hw] at this
                  exact this
                have hLb : ((L : Int) == (bl c : Int)) = false := by rw [beq_eq_false_iff_ne]; omega
                have hLs : (L : Int) + 1 - (L : Int) = 1 := by omega
                have hLz : (L : Int) ≤ 64 := by omega
                obtain ⟨nb, hnb⟩ : ∃ nb, nb = bs ++ [(c, k0)] := ⟨_, rfl⟩
                obtain ⟨n2, hn2⟩ : ∃ n2, n2 = bs.length + 1 := ⟨_, rfl⟩
                have hnl : nb.length = n2 := by rw [hnb, hn2]; simp
                have ma : Hid (bs.map adA1 ++ [X] = nb.map adA1) := (by rw [hnb, hX]; simp [adA1] : bs.map adA1 ++ [X] = nb.map adA1)
                have ml : Hid (bs.map szA ++ [(sz c : Int)] = nb.map szA) := (by rw [hnb]; simp [szA] : bs.map szA ++ [(sz c : Int)] = nb.map szA)
                have mc : Hid (bs.map clA ++ [(c : Int)] = nb.map clA) := (by rw [hnb]; simp [clA] : bs.map clA ++ [(c : Int)] = nb.map clA)
                rw [← hnb] at RN
                have LA1 : Hid ((bs.map adA1).length ≤ 1000) := (by simp; omega : (bs.map adA1).length ≤ 1000)
                have LL1 : Hid ((bs.map szA).length ≤ 1000) := (by simp; omega : (bs.map szA).length ≤ 1000)
                have LC1 : Hid ((bs.map clA).length ≤ 1000) := (by simp; omega : (bs.map clA).length ≤ 1000)
                have NA : Hid ((nb.map adA1).length = n2) := (by simpa using hnl : (nb.map adA1).length = n2)
                have NL : Hid ((nb.map szA).length = n2) := (by simpa using hnl : (nb.map szA).length = n2)
                have NC : Hid ((nb.map clA).length = n2) := (by simpa using hnl : (nb.map clA).length = n2)
                have hn2p : 0 < n2 := by omega
                have hn2l : n2 ≤ 151 := by omega
                have hn2k : n2 ≤ k + 1 := by omega
                clear hct hcl hlu hlv hL hfr hw hX0 hXe CL hnot hu0 hX hnb hn2
                go_wp2_with (first
                | (go_at_call 10; refine KA.out.mono ?_; rintro e w3 ⟨rfl, h3, k3⟩; have P3 : Hid (AM w w.heap.size g w1.heap.size (upd us c k0 true) (bs.map adA1) (.slice AA bs.length AC) (bs.map szA) (.slice LA bs.length LC) (bs.map clA) (.slice CA bs.length CC) w3) := P2.out.byH h3 k3; clear h3 k3)
                | (go_at_call 16; refine (KL.out _ P3.out.h).mono ?_; rintro e w4 ⟨rfl, h4⟩; have P4 : Hid (AM w w.heap.size g w1.heap.size (upd us c k0 true) (bs.map adA1) (.slice AA bs.length AC) (bs.map szA) (.slice LA bs.length LC) (bs.map clA) (.slice CA bs.length CC) w4) := P3.out.below h4; clear h4)
                | (go_at_call 18; refine (KX.out _ P4.out.h P4.out.tab).mono ?_; rintro e w5 ⟨rfl, h5⟩; have P5 : Hid (AM w w.heap.size g w1.heap.size (upd us c k0 true) (bs.map adA1) (.slice AA bs.length AC) (bs.map szA) (.slice LA bs.length LC) (bs.map clA) (.slice CA bs.length CC) w5) := P4.out.below h5; clear h5))
                go_loopw [19] (fun j wr => ∃ i : Nat, i ≤ bs.length ∧ j = .int .i64 (i : Int) ∧ AM w w.heap.size g w1.heap.size (upd us c k0 true) (bs.map adA1) (.slice AA bs.length AC) (bs.map szA) (.slice LA bs.length LC) (bs.map clA) (.slice CA bs.length CC) wr) (fun j _ => bs.length - (intOf j).toNat)
                case atStart => exact ⟨0, by omega, rfl, P5.out⟩
                case round =>
                  obtain ⟨i, hi, rfl, hPi⟩ := hrel
                  have P6 : Hid (AM w w.heap.size g w1.heap.size (upd us c k0 true) (bs.map adA1) (.slice AA bs.length AC) (bs.map szA) (.slice LA bs.length LC) (bs.map clA) (.slice CA bs.length CC) wr) := hPi
                  clear hPi
                  rcases Nat.lt_or_ge i bs.length with hi' | hi'
                  · have hiz : (i : Int) < bs.length := by omega
                    obtain ⟨AB, rfl, _, _, _⟩ := hsha (by omega)
                    obtain ⟨LB, rfl, _, _, _⟩ := hshl (by omega)
                    have h0 := P6.out.a.icell i (by rw [List.length_map]; exact hi')
                    have h1 := P6.out.l.icell i (by rw [List.length_map]; exact hi')
                    rw [List.getElem_map] at h0 h1
                    have hap := APT.out i hi'
                    obtain ⟨y1, y2, y3, y4⟩ := BND.out i hi'
                    generalize adA1 bs[i] = y at *
                    generalize szA bs[i] = z at *
                    by_cases q1 : X < y + 4 * z
                    · have q2 : ¬ y < X + 4 * (sz c : Int) := fun h => hap ⟨q1, h⟩
                      clear hap
                      go_wp2
                      go_quiet (fail)
                      go_wp2
                      go_roundw
                      case rel => exact ⟨i + 1, by omega, by go_num, P6.out.below (below_drewN _ _)⟩
                      case measure => simp [intOf]; omega
                    · clear hap
                      have q1' : decide (X < y + 4 * z) = false := decide_eq_false q1
                      go_wp2
                      go_quiet (fail)
                      go_wp2
                      go_roundw
                      case rel => exact ⟨i + 1, by omega, by go_num, P6.out.below (below_drewN _ _)⟩
                      case measure => simp [intOf]; omega
                  · have hiz : ¬ (i : Int) < bs.length := by omega
                    clear hsha hshl hshc APT BND
                    have hfz : ¬ (k : Int) < frees.length := by omega
                    go_wp2_with (first
                    | (have M' := P8; refine OwnB.appendNL _ rfl _ _ rfl _ rfl (c : Int) (P8.out.below (below_alloc _ _)).c ⟨w8.heap.size, 0, none⟩ 1 rfl (fun j u hj => cells_new _ (iL (c : Int)) 3 j u hj) LC1.out ?_; intro v9 w9 h9 k9 m9 n9; rw [mc.out] at h9; obtain ⟨A9, C9, hv9, s9⟩ := h9.shape; rw [NC.out] at hv9 s9; obtain ⟨B9, rfl, _, _, hC9⟩ := s9 hn2p; subst hv9; have P9 : Hid (AM w w.heap.size g w1.heap.size (upd us c k0 true) (nb.map adA1) (.slice (some ⟨B7, 0, none⟩) n2 C7) (nb.map szA) (.slice (some ⟨B8, 0, none⟩) n2 C8) (nb.map clA) (.slice (some ⟨B9, 0, none⟩) n2 C9) w9) := ((P8.out.below (below_alloc _ _)).rot.rot.byA h9 k9 m9 n9).rot; clear h9 k9 m9 n9 s9 M' P8)
                    | (have M' := P7; refine OwnB.appendNL _ rfl _ _ rfl _ rfl (sz c : Int) (P7.out.below (below_alloc _ _)).l ⟨w7.heap.size, 0, none⟩ 1 rfl (fun j u hj => cells_new _ (iL (sz c : Int)) 3 j u hj) LL1.out ?_; intro v8 w8 h8 k8 m8 n8; rw [ml.out] at h8; obtain ⟨A8, C8, hv8, s8⟩ := h8.shape; rw [NL.out] at hv8 s8; obtain ⟨B8, rfl, _, _, hC8⟩ := s8 hn2p; subst hv8; have P8 : Hid (AM w w.heap.size g w1.heap.size (upd us c k0 true) (nb.map adA1) (.slice (some ⟨B7, 0, none⟩) n2 C7) (nb.map szA) (.slice (some ⟨B8, 0, none⟩) n2 C8) (bs.map clA) (.slice CA bs.length CC) w8) := ((P7.out.below (below_alloc _ _)).rot.byA h8 k8 m8 n8).rot.rot; clear h8 k8 m8 n8 s8 M' P7)
                    | (refine OwnB.appendNL _ rfl _ _ rfl _ rfl X (P6.out.below (below_alloc _ _)).a ⟨wr.heap.size, 0, none⟩ 1 rfl (fun j u hj => cells_new _ (iL X) 3 j u hj) LA1.out ?_; intro v7 w7 h7 k7 m7 n7; rw [ma.out] at h7; obtain ⟨A7, C7, hv7, s7⟩ := h7.shape; rw [NA.out] at hv7 s7; obtain ⟨B7, rfl, _, _, hC7⟩ := s7 hn2p; subst hv7; have P7 : Hid (AM w w.heap.size g w1.heap.size (upd us c k0 true) (nb.map adA1) (.slice (some ⟨B7, 0, none⟩) n2 C7) (bs.map szA) (.slice LA bs.length LC) (bs.map clA) (.slice CA bs.length CC) w7) := (P6.out.below (below_alloc _ _)).byA h7 k7 m7 n7; clear h7 k7 m7 n7 s7))
                    go_roundw
                    case rel => exact ⟨k + 1, (upd us c k0 true), nb, by omega, by omega, by go_num, P9.out, RN.out, by omega⟩
                    case measure => simp [intOf]; omega
    · have hkz : (k : Int) < sizes.length → ¬ (k : Int) < 150 := by omega
      go_wp2
      all_goals (go_ret; exact ⟨rfl, P.out.b⟩)
end Go.Proofs.YtffcfohbnbldhaaDoor
