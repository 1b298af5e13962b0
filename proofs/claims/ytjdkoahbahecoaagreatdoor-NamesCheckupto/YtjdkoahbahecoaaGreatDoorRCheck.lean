/-
  Proved: the document's own Check tells the first error of a program.
-/
import Derived.Test.YtjdkoahbahecoaaGreatDoorRItem
import Derived.Test.YtjdkoahbahecoaaGreatDoorCheckd
namespace Go.Proofs.YtjdkoahbahecoaaGreatDoor
open Go.RowKit

attribute [local go_sem ↓] fold38 foldS

theorem isIn_append (s : ByteArray) (a b : List ByteArray) : isIn s (a ++ b) = (isIn s a || isIn s b) := by
  rw [isIn, isIn, isIn, List.any_append]

theorem IsIn.take {w : World} {is : List It} {A : Option Addr} (h : IsIn w is A) (i : Nat) : IsIn w (is.take i) A :=
  ⟨Nat.le_trans (by rw [List.length_take]; omega) h.1, fun k hk => by
    have hk' : k < is.length := by rw [List.length_take] at hk; omega
    rw [List.getElem_take]
    exact h.2 k hk'⟩

theorem ick_ne {is : List It} {j : Jt} {a e : Int} (h : ick is j = some (a, e)) : ¬ e = 0 := by
  have s1 : ∀ {a e}, slf is j = some (a, e) → ¬ e = 0 := fun {a e} h => by
    unfold slf at h
    split at h
    · cases h
    · cases h; decide
  unfold ick at h
  split at h
  · exact or_ne (or_ne pck_ne nz_ne) (fun h => by
      unfold psd at h
      split at h
      · cases h; decide
      · cases h) h
  split at h
  · exact or_ne pck_ne s1 h
  split at h
  · exact or_ne vck_ne s1 h
  split at h
  · exact nz_ne h
  · cases h; decide

set_option maxRecDepth 100000 in
set_option maxHeartbeats 800000 in
theorem rCheck_c (A : Option Addr) (js : List Jt) (hfew : Few (its js)) (h300 : ∀ j ∈ js, j.ps.length ≤ 300) (hd : ∀ j ∈ js, ∀ p ∈ j.ps, dep p.t ≤ 9223372036854775807) (C : Nat) (hC : js.length ≤ C) (w : World) (hi : JsIn w js A) :
    Calls Tryz.prog 6 #[.slice A js.length C] w fun e w' => e = .returned (chkV (chk js)) ∧ Below w.heap.size w w' := by
  have hl := hi.1
  have HI : Hid (JsIn w js A) := hi
  have RI : Hid (∀ q (hq : q < js.length) cs, JIn w (js[q]'hq) cs → ∀ w', Below w.heap.size w w' → Calls Tryz.prog 15 #[.slice A js.length C, .agg cs.toArray] w' fun e w'' => e = .returned (chkV (ick (its js) (js[q]'hq))) ∧ Below w'.heap.size w' w'') := fun q hq cs hj w' hw => by
    have := ritem_all A (its js) hfew C (js[q]'hq) cs w' (hi.is.below hw) (hj.stays hw) (h300 _ (List.getElem_mem hq)) (hd _ (List.getElem_mem hq))
    rw [its_len] at this
    exact this
  have F0 : Hid (∀ q (hq : q < js.length) s w', Below w.heap.size w w' → Calls Tryz.prog 14 #[.slice A q C, .int .i64 0, .string s] w' fun e w'' => e = .returned (fstV (fan s ((its js).take q) 0)) ∧ w'' = w') := fun q hq s w' hw => by
    have := rFind0_c ((its js).take q) s A C w' ((hi.is.below hw).take q)
    rw [List.length_take, its_len, Nat.min_eq_left (by omega)] at this
    exact this
  have F1 : Hid (∀ w', Below w.heap.size w w' → Calls Tryz.prog 14 #[.slice A js.length C, .int .i64 1, .string ⟨#[109, 97, 105, 110]⟩] w' fun e w'' => e = .returned (fstV (fnd 1 mainS (its js) 0)) ∧ w'' = w') := fun w' hw => by
    have := rFind1_c (its js) mainS A C w' (hi.is.below hw)
    rw [its_len] at this
    exact this
  generalize hX : chk js = X
  have HX0 : Hid (((fo (dckAt js) 0 (js.length - 0)).or (ckI js)).or (mnc js) = X) := hX
  clear hX hfew h300 hd hi
  go_enter Tryz.func6, Tryz.ntmps6
  go_wp2
  go_loopw [4] (fun iv wr => ∃ i : Nat, i ≤ js.length ∧ iv = .int .i64 (i : Int) ∧ Hid (((fo (dckAt js) i (js.length - i)).or (ckI js)).or (mnc js) = X) ∧ Hid (Below w.heap.size w wr)) (fun iv _ => js.length - (intOf iv).toNat)
  case atStart => exact ⟨0, Nat.zero_le _, rfl, HX0.out, Below.refl _ _⟩
  case round =>
    rename World => wi
    obtain ⟨i, hil, rfl, HF, HB⟩ := hrel
    by_cases hlt : i < js.length
    · have hlt' : (i : Int) < (js.length : Int) := by omega
      obtain ⟨b, o, cs, hA, hrow, hj⟩ := HI.out.2 i hlt
      subst hA
      have hst := fo_step (R := dckAt js) hlt
      have hdk : dckAt js i = if isIn (js[i]'hlt).s (ownL ++ (js.take i).map (·.s)) = true then some ((js[i]'hlt).a, 40) else none := by
        unfold dckAt
        rw [List.getElem?_eq_getElem hlt]
      rw [hdk, isIn_append] at hst
      have hfn := F0.out i hlt (js[i]'hlt).s
      have hfs := fan_some (js[i]'hlt).s ((its js).take i) 0
      have hmp : ((its js).take i).map (·.s) = (js.take i).map (·.s) := by
        rw [its, ← List.map_take, List.map_map]
        rfl
      rw [hmp] at hfs
      rw [← hfs] at hst
      have htk := rTaken_c (js[i]'hlt).s
      obtain ⟨P, PC, V, VC, r, rfl, ea, _⟩ := hj
      have CL : Hid (∀ w', Below w.heap.size w w' → w'.cell? ⟨b, o + i * 20 + 1, none⟩ = some (.string (js[i]'hlt).s) ∧ w'.cell? ⟨b, o + i * 20 + 2, none⟩ = some (.int .i64 (js[i]'hlt).a)) := fun w' hw => ⟨(hrow.below hw).2 1 _ rfl, by rw [← ea]; exact (hrow.below hw).2 2 _ rfl⟩
      generalize (js[i]'hlt).s = nm at CL hst hfn htk
      generalize (js[i]'hlt).a = aa at CL hst
      generalize isIn nm ownL = TB at hst htk
      generalize fan nm ((its js).take i) 0 = FV at hst hfn
      have TK : Hid (∀ w', Calls Tryz.prog 10 #[.string nm] w' fun e w'' => e = .returned (.bool TB) ∧ Below w'.heap.size w' w'') := htk
      have FN : Hid (∀ w', Below w.heap.size w w' → Calls Tryz.prog 14 #[.slice (some ⟨b, o, none⟩) i C, .int .i64 0, .string nm] w' fun e w'' => e = .returned (fstV FV) ∧ w'' = w') := hfn
      have HST : Hid (fo (dckAt js) i (js.length - i) = (if (TB || FV.isSome) = true then some (aa, 40) else none).or (fo (dckAt js) (i + 1) (js.length - (i + 1)))) := hst
      obtain ⟨c1, c2⟩ := CL.out wi HB.out
      have hiC : (i : Int) ≤ (C : Int) := by omega
      clear hst hfn htk hdk hfs hmp hrow ea
      have CLS : Hid (∀ w', Below w.heap.size w w' → w'.cell? ⟨b, o + i * 20 + 1, none⟩ = some (.string nm) ∧ Hid (Below w.heap.size w w')) := fun w' hw => ⟨(CL.out w' hw).1, hw⟩
      cases TB with
      | true =>
        have HA : Hid (X = some (aa, 40)) := (show X = _ by rw [← HF.out, HST.out]; rfl)
        clear HST
        go_wp2
        refine wp_region_held_drew (S := fun w' => w'.cell? ⟨b, o + i * 20 + 1, none⟩ = some (.string nm) ∧ Hid (Below w.heap.size w w')) (by kernel_rfl) (CLS.out _ (HB.out.drew)) fun hS0 => ?_
        refine wpAnyH_take (i := 0) (v := .slice (some ⟨b, o, none⟩) js.length C) rfl (by kernel_rfl) (by kernel_rfl) (by kernel_rfl) (fun _ _ _ h => h) (Or.inl ⟨by rfl, ?_⟩) (by assumption) ?_
        · intro w' hSw; (try dsimp only at hSw); obtain ⟨hc1, _⟩ := hSw; go_simp
        simp only [Act.put, List.getElem_toArray, List.getElem_cons_zero, List.setIfInBounds_toArray, List.set_cons_zero, List.set_cons_succ]
        refine wpAnyH_take (i := 1) (v := .int .i64 (i : Int)) rfl (by kernel_rfl) (by kernel_rfl) (by kernel_rfl) (fun _ _ _ h => h) (Or.inl ⟨by rfl, ?_⟩) (by assumption) ?_
        · intro w' hSw; (try dsimp only at hSw); obtain ⟨hc1, _⟩ := hSw; go_simp
        simp only [Act.put, List.getElem_toArray, List.getElem_cons_succ, List.getElem_cons_zero, List.setIfInBounds_toArray, List.set_cons_zero, List.set_cons_succ]
        refine wpAnyH_take (i := 2) (v := .pointer (some ⟨b, o + i * 20, none⟩)) rfl (by kernel_rfl) (by kernel_rfl) (by kernel_rfl) (fun _ _ _ h => h) (Or.inl ⟨by rfl, ?_⟩) (by assumption) ?_
        · intro w' hSw; (try dsimp only at hSw); obtain ⟨hc1, _⟩ := hSw; go_simp
        simp only [Act.put, List.getElem_toArray, List.getElem_cons_succ, List.getElem_cons_zero, List.setIfInBounds_toArray, List.set_cons_zero, List.set_cons_succ]
        refine wpAnyH_take (i := 3) (v := .pointer (some ⟨b, o + i * 20 + 1, none⟩)) rfl (by kernel_rfl) (by kernel_rfl) (by kernel_rfl) (fun _ _ _ h => h) (Or.inl ⟨by rfl, ?_⟩) (by assumption) ?_
        · intro w' hSw; (try dsimp only at hSw); obtain ⟨hc1, _⟩ := hSw; go_simp
        simp only [Act.put, List.getElem_toArray, List.getElem_cons_succ, List.getElem_cons_zero, List.setIfInBounds_toArray, List.set_cons_zero, List.set_cons_succ]
        refine wpAnyH_take (i := 4) (v := .string nm) rfl (by kernel_rfl) (by kernel_rfl) (by kernel_rfl) (fun _ _ _ h => h) (Or.inl ⟨by rfl, ?_⟩) (by assumption) ?_
        · intro w' hSw; (try dsimp only at hSw); obtain ⟨hc1, _⟩ := hSw; go_simp
        simp only [Act.put, List.getElem_toArray, List.getElem_cons_succ, List.getElem_cons_zero, List.setIfInBounds_toArray, List.set_cons_zero, List.set_cons_succ]
        refine wpAnyH_ready (rs := [5]) (by kernel_rfl) (by simp) ?_
        refine AllReadyH.cons rfl (fun K hK => ?_) AllReadyH.nil
        go_simp
        (go_at_call 10; refine (TK.out _).mono ?_; rintro e' w1 ⟨rfl, hb1⟩; have OO : Hid (Below w.heap.size w w1) := below_next (HB.out.drew) hb1; clear hb1)
        go_wp2_with fail
        refine hK.out _ _ (CLS.out _ OO.out) (fun hHeld => ?_)
        refine wpAnyH_take (i := 6) (v := .bool true) rfl (by kernel_rfl) (by kernel_rfl) (by kernel_rfl) (fun _ _ _ h => h) (Or.inl ⟨by rfl, ?_⟩) (by assumption) ?_
        · intro w' hSw; (try dsimp only at hSw); obtain ⟨hc1, _⟩ := hSw; go_simp
        simp only [Act.put, List.getElem_toArray, List.getElem_cons_succ, List.getElem_cons_zero, List.setIfInBounds_toArray, List.set_cons_zero, List.set_cons_succ]
        refine wpAnyH_take (i := 7) (v := undef) rfl (by kernel_rfl) (by kernel_rfl) (by kernel_rfl) (fun _ _ _ h => h) (Or.inr ⟨by rfl, rfl⟩) (by assumption) ?_
        simp only [Act.put, List.getElem_toArray, List.getElem_cons_succ, List.getElem_cons_zero, List.setIfInBounds_toArray, List.set_cons_zero, List.set_cons_succ]
        refine wpAnyH_take (i := 8) (v := undef) rfl (by kernel_rfl) (by kernel_rfl) (by kernel_rfl) (fun _ _ _ h => h) (Or.inr ⟨by rfl, rfl⟩) (by assumption) ?_
        simp only [Act.put, List.getElem_toArray, List.getElem_cons_succ, List.getElem_cons_zero, List.setIfInBounds_toArray, List.set_cons_zero, List.set_cons_succ]
        refine wpAnyH_take (i := 9) (v := undef) rfl (by kernel_rfl) (by kernel_rfl) (by kernel_rfl) (fun _ _ _ h => h) (Or.inr ⟨by rfl, rfl⟩) (by assumption) ?_
        simp only [Act.put, List.getElem_toArray, List.getElem_cons_succ, List.getElem_cons_zero, List.setIfInBounds_toArray, List.set_cons_zero, List.set_cons_succ]
        refine wpAnyH_take (i := 10) (v := undef) rfl (by kernel_rfl) (by kernel_rfl) (by kernel_rfl) (fun _ _ _ h => h) (Or.inr ⟨by rfl, rfl⟩) (by assumption) ?_
        simp only [Act.put, List.getElem_toArray, List.getElem_cons_succ, List.getElem_cons_zero, List.setIfInBounds_toArray, List.set_cons_zero, List.set_cons_succ]
        refine wpAnyH_take (i := 11) (v := undef) rfl (by kernel_rfl) (by kernel_rfl) (by kernel_rfl) (fun _ _ _ h => h) (Or.inr ⟨by rfl, rfl⟩) (by assumption) ?_
        simp only [Act.put, List.getElem_toArray, List.getElem_cons_succ, List.getElem_cons_zero, List.setIfInBounds_toArray, List.set_cons_zero, List.set_cons_succ]
        refine wpAnyH_take (i := 12) (v := undef) rfl (by kernel_rfl) (by kernel_rfl) (by kernel_rfl) (fun _ _ _ h => h) (Or.inr ⟨by rfl, rfl⟩) (by assumption) ?_
        simp only [Act.put, List.getElem_toArray, List.getElem_cons_succ, List.getElem_cons_zero, List.setIfInBounds_toArray, List.set_cons_zero, List.set_cons_succ]
        refine wpAnyH_take (i := 13) (v := undef) rfl (by kernel_rfl) (by kernel_rfl) (by kernel_rfl) (fun _ _ _ h => h) (Or.inr ⟨by rfl, rfl⟩) (by assumption) ?_
        simp only [Act.put, List.getElem_toArray, List.getElem_cons_succ, List.getElem_cons_zero, List.setIfInBounds_toArray, List.set_cons_zero, List.set_cons_succ]
        refine wpAnyH_take (i := 14) (v := undef) rfl (by kernel_rfl) (by kernel_rfl) (by kernel_rfl) (fun _ _ _ h => h) (Or.inr ⟨by rfl, rfl⟩) (by assumption) ?_
        simp only [Act.put, List.getElem_toArray, List.getElem_cons_succ, List.getElem_cons_zero, List.setIfInBounds_toArray, List.set_cons_zero, List.set_cons_succ]
        refine wpAnyH_take (i := 15) (v := undef) rfl (by kernel_rfl) (by kernel_rfl) (by kernel_rfl) (fun _ _ _ h => h) (Or.inr ⟨by rfl, rfl⟩) (by assumption) ?_
        simp only [Act.put, List.getElem_toArray, List.getElem_cons_succ, List.getElem_cons_zero, List.setIfInBounds_toArray, List.set_cons_zero, List.set_cons_succ]
        refine wpAnyH_take (i := 16) (v := undef) rfl (by kernel_rfl) (by kernel_rfl) (by kernel_rfl) (fun _ _ _ h => h) (Or.inr ⟨by rfl, rfl⟩) (by assumption) ?_
        simp only [Act.put, List.getElem_toArray, List.getElem_cons_succ, List.getElem_cons_zero, List.setIfInBounds_toArray, List.set_cons_zero, List.set_cons_succ]
        refine wpAnyH_take (i := 17) (v := .bool true) rfl (by kernel_rfl) (by kernel_rfl) (by kernel_rfl) (fun _ _ _ h => h) (Or.inl ⟨by rfl, ?_⟩) (by assumption) ?_
        · intro w' hSw; (try dsimp only at hSw); obtain ⟨hc1, _⟩ := hSw; go_simp
        simp only [Act.put, List.getElem_toArray, List.getElem_cons_succ, List.getElem_cons_zero, List.setIfInBounds_toArray, List.set_cons_zero, List.set_cons_succ]
        refine wpAnyH_done (by kernel_rfl) ?_ _
        all_goals (
          obtain ⟨m1, m2⟩ := CL.out _ OO.out
          go_wp2_with fail
          exact bodyPost_ret (v := .tuple #[.int .i64 aa, .int .i64 40]) (by simp [results, Tryz.results6, go_sem]) rfl ⟨by rw [HA.out]; rfl, OO.out⟩)
      | false =>
        cases FV with
        | some v =>
          have HA : Hid (X = some (aa, 40)) := (show X = _ by rw [← HF.out, HST.out]; rfl)
          have hv0 : (0 : Int) ≤ (v : Int) := by omega
          simp only [fstV] at FN
          clear HST
          go_wp2
          go_region_held3 (fun w' => w'.cell? ⟨b, o + i * 20 + 1, none⟩ = some (.string nm) ∧ Hid (Below w.heap.size w w'))
            (first
              | exact CLS.out _ (HB.out.drew)
              | exact CLS.out _ OO.out)
            (first
              | (go_at_call 10; refine (TK.out _).mono ?_; rintro e' w1 ⟨rfl, hb1⟩; have OO : Hid (Below w.heap.size w w1) := below_next (Hid.out (And.right (by assumption))) hb1; clear hb1)
              | (go_at_call 14; refine (FN.out _ (Hid.out (And.right (by assumption)))).mono ?_; rintro e' w2 ⟨rfl, rfl⟩))
          all_goals (
            obtain ⟨m1, m2⟩ := CL.out _ OO.out
            go_wp2_with fail
            exact bodyPost_ret (v := .tuple #[.int .i64 aa, .int .i64 40]) (by simp [results, Tryz.results6, go_sem]) rfl ⟨by rw [HA.out]; rfl, OO.out⟩)
        | none =>
          have HN : Hid (((fo (dckAt js) (i + 1) (js.length - (i + 1))).or (ckI js)).or (mnc js) = X) := (show _ = X by rw [← HF.out, HST.out]; rfl)
          simp only [fstV] at FN
          clear HST
          go_wp2
          go_region_held3 (fun w' => w'.cell? ⟨b, o + i * 20 + 1, none⟩ = some (.string nm) ∧ Hid (Below w.heap.size w w'))
            (first
              | exact CLS.out _ (HB.out.drew)
              | exact CLS.out _ OO.out)
            (first
              | (go_at_call 10; refine (TK.out _).mono ?_; rintro e' w1 ⟨rfl, hb1⟩; have OO : Hid (Below w.heap.size w w1) := below_next (Hid.out (And.right (by assumption))) hb1; clear hb1)
              | (go_at_call 14; refine (FN.out _ (Hid.out (And.right (by assumption)))).mono ?_; rintro e' w2 ⟨rfl, rfl⟩))
          all_goals (
            go_wp2_with fail
            go_roundw
            case rel => exact ⟨i + 1, by omega, by go_num, HN.out, OO.out⟩
            case measure => simp [intOf]; omega)
    · obtain rfl : i = js.length := by omega
      have HX2 : Hid ((fo (ickAt js) 0 (js.length - 0)).or (mnc js) = X) := (show _ = X by rw [← HF.out, Nat.sub_self]; rfl)
      clear HF
      go_wp2
      go_loopw [5] (fun iv wr => ∃ i : Nat, i ≤ js.length ∧ iv = .int .i64 (i : Int) ∧ Hid ((fo (ickAt js) i (js.length - i)).or (mnc js) = X) ∧ Hid (Below w.heap.size w wr)) (fun iv _ => js.length - (intOf iv).toNat)
      case atStart => exact ⟨0, Nat.zero_le _, rfl, HX2.out, HB.out⟩
      case round =>
        rename World => wk
        obtain ⟨i, hil, rfl, HF, HZ⟩ := hrel
        by_cases hlt : i < js.length
        · have hlt' : (i : Int) < (js.length : Int) := by omega
          obtain ⟨b, o, cs, hA, hrow, hj⟩ := HI.out.2 i hlt
          subst hA
          have hst := fo_step (R := ickAt js) hlt
          have hdk : ickAt js i = ick (its js) (js[i]'hlt) := by
            unfold ickAt
            rw [List.getElem?_eq_getElem hlt]
          rw [hdk] at hst
          have ld := load20 hj.twenty (hrow.below HZ.out)
          have key := RI.out i hlt cs hj wk HZ.out
          have hne : ∀ a e, ick (its js) (js[i]'hlt) = some (a, e) → ¬ e = 0 := fun a e h => ick_ne h
          generalize ick (its js) (js[i]'hlt) = Y at hst key hne
          generalize cs.toArray = ca at ld key
          have K : Hid (Calls Tryz.prog 15 #[.slice (some ⟨b, o, none⟩) js.length C, .agg ca] wk fun e w'' => e = .returned (chkV Y) ∧ Below wk.heap.size wk w'') := key
          have HST : Hid (fo (ickAt js) i (js.length - i) = Y.or (fo (ickAt js) (i + 1) (js.length - (i + 1)))) := hst
          clear hst key hdk hrow hj
          cases Y with
          | none =>
            have HN : Hid ((fo (ickAt js) (i + 1) (js.length - (i + 1))).or (mnc js) = X) := (show _ = X by rw [← HF.out, HST.out]; rfl)
            simp only [chkV] at K
            clear HST hne HF
            go_wp2_with (go_at_call 15; refine K.out.mono ?_; rintro e w5 ⟨rfl, hb5⟩; have H5 : Hid (Below w.heap.size w w5) := below_next HZ.out hb5; clear hb5)
            go_roundw
            case rel => exact ⟨i + 1, by omega, by go_num, HN.out, H5.out⟩
            case measure => simp [intOf]; omega
          | some ae =>
            obtain ⟨a, e⟩ := ae
            have he := hne a e rfl
            have he1 : (e == 0) = false := by simpa using he
            have he2 : (e != 0) = true := by simpa using he
            have HA : Hid (X = some (a, e)) := (show X = _ by rw [← HF.out, HST.out]; rfl)
            simp only [chkV] at K
            clear HST hne HF
            go_wp2_with (go_at_call 15; refine K.out.mono ?_; rintro e w5 ⟨rfl, hb5⟩; have H5 : Hid (Below w.heap.size w w5) := below_next HZ.out hb5; clear hb5)
            exact bodyPost_ret (v := .tuple #[.int .i64 a, .int .i64 e]) (by simp [results, Tryz.results6, go_sem]) rfl ⟨by rw [HA.out]; rfl, H5.out⟩
        · obtain rfl : i = js.length := by omega
          have HX3 : Hid (mnc js = X) := (show _ = X by rw [← HF.out, Nat.sub_self]; rfl)
          have FD : Hid (Calls Tryz.prog 14 #[.slice A js.length C, .int .i64 1, .string ⟨#[109, 97, 105, 110]⟩] wk fun e w'' => e = .returned (fstV (fnd 1 mainS (its js) 0)) ∧ w'' = wk) := F1.out wk HZ.out
          clear HF
          cases hf : fnd 1 mainS (its js) 0 with
          | none =>
            rw [hf] at FD
            simp only [fstV] at FD
            have HA : Hid (X = some (0, 42)) := (show X = _ by rw [← HX3.out]; unfold mnc; rw [hf])
            clear hf
            go_wp2_with (go_at_call 14; refine FD.out.mono ?_; rintro e w5 ⟨rfl, rfl⟩)
            exact bodyPost_ret (v := .tuple #[.int .i64 0, .int .i64 42]) (by simp [results, Tryz.results6, go_sem]) rfl ⟨by rw [HA.out]; rfl, HZ.out⟩
          | some i =>
            rw [hf] at FD
            simp only [fstV] at FD
            obtain ⟨_, h2, _⟩ := fnd_some hf
            rw [Nat.sub_zero, its_len] at h2
            have HX4 : Hid (X = if 0 < (js[i]'h2).ps.length ∨ ¬ (js[i]'h2).t.k = 1 then some (0, 42) else none) := (show X = _ by rw [← HX3.out]; unfold mnc; rw [hf]; dsimp only; rw [List.getElem?_eq_getElem h2])
            obtain ⟨b, o, cs, rfl, hrow, hj⟩ := HI.out.2 i h2
            generalize js[i] = j at hj HX4
            obtain ⟨P, PC, V, VC, r, rfl, _, _, h4, _⟩ := hj
            have htk : j.t.k = r.p := by
              generalize j.t = t at h4
              obtain ⟨k, s, n, es⟩ := t
              obtain ⟨_, _, e, _⟩ := h4.inv
              simp at e
              exact e.1.symm
            have d3 := (hrow.below HZ.out).2 3 _ rfl
            have d5 := (hrow.below HZ.out).2 5 _ rfl
            rw [htk] at HX4
            generalize r.p = tk at d5 HX4
            generalize j.ps.length = pl at d3 HX4
            have hlt3 : (i : Int) < (js.length : Int) := by omega
            have hge : ¬ (i : Int) < 0 := by omega
            clear hf hrow h4 htk HX3
            by_cases hp : 0 < pl
            · have hp' : (pl : Int) > 0 := by omega
              have HA : Hid (X = some (0, 42)) := (show X = _ by rw [HX4.out, if_pos (.inl hp)])
              go_wp2_with (go_at_call 14; refine FD.out.mono ?_; rintro e w5 ⟨rfl, rfl⟩)
              exact bodyPost_ret (v := .tuple #[.int .i64 0, .int .i64 42]) (by simp [results, Tryz.results6, go_sem]) rfl ⟨by rw [HA.out]; rfl, HZ.out⟩
            · obtain rfl : pl = 0 := by omega
              by_cases ht : tk = 1
              · subst ht
                have HA : Hid (X = none) := (show X = _ by rw [HX4.out, if_neg (by simp)])
                go_wp2_with (go_at_call 14; refine FD.out.mono ?_; rintro e w5 ⟨rfl, rfl⟩)
                exact bodyPost_ret (v := .tuple #[.int .i64 0, .int .i64 0]) (by simp [results, Tryz.results6, go_sem]) rfl ⟨by rw [HA.out]; rfl, HZ.out⟩
              · have ht' : (tk == 1) = false := by simpa using ht
                have ht2 : (tk != 1) = true := by simpa using ht
                have HA : Hid (X = some (0, 42)) := (show X = _ by rw [HX4.out, if_pos (.inr ht)])
                go_wp2_with (go_at_call 14; refine FD.out.mono ?_; rintro e w5 ⟨rfl, rfl⟩)
                exact bodyPost_ret (v := .tuple #[.int .i64 0, .int .i64 42]) (by simp [results, Tryz.results6, go_sem]) rfl ⟨by rw [HA.out]; rfl, HZ.out⟩

end Go.Proofs.YtjdkoahbahecoaaGreatDoor
