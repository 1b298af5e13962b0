/-
  Proved: how many bytes of blanks the document's own function blank finds.
-/
import Derived.Test.YtbfelkcaakpdiaaDoorLexC
namespace Go.Proofs.YtbfelkcaakpdiaaDoor
open Go.RowKit
theorem byte_str (l : Bs) (k : Nat) : ∃ c : UInt8, (∀ h : k < (ofL l).size, (ofL l)[k].toNat = c.toNat) ∧ ∀ h : k < l.length, l[k] = c := by
  by_cases h : k < l.length
  · exact ⟨l[k], fun _ => by rw [ofL_get], fun _ => rfl⟩
  · exact ⟨0, fun h' => absurd (by rw [ofL_size] at h'; exact h') h, fun h' => absurd h' h⟩

set_option maxHeartbeats 1000000 in
theorem rblank_c (l : Bs) (w : World) (hm : l.length < 4611686018427387904) : Calls Tryd.prog 19 #[.string (ofL l)] w fun e w' => e = .returned (.int .i64 (skip false l : Int)) ∧ w' = w := by
  have hz := ofL_size l
  generalize hR : skip false l = R
  go_enter Tryd.func19, Tryd.ntmps19
  go_wp2
  go_loop [3] (fun i => ∃ k : Nat, k ≤ l.length ∧ i = .int .i64 (k : Int) ∧ k + skip false (l.drop k) = R) (fun i => l.length - (intOf i).toNat)
  case atStart => exact ⟨0, Nat.zero_le _, rfl, by simpa using hR⟩
  case round =>
    obtain ⟨k, hk, rfl, hr⟩ := hrel
    have HR : Hid (k + skip false (l.drop k) = R) := hr
    obtain ⟨c, hc, hcl⟩ := byte_str l k
    obtain ⟨d, hd, hdl⟩ := byte_str l (k + 1)
    have CL : Hid (∀ h : k < l.length, l[k] = c) := hcl
    have DL : Hid (∀ h : k + 1 < l.length, l[k + 1] = d) := hdl
    clear hcl hdl hr hR
    by_cases hkl : k < l.length
    · by_cases hb : isBl c = true
      · have HB : Hid (isBl c = true) := hb
        have hv : c.toNat = 32 ∨ c.toNat = 9 ∨ c.toNat = 10 ∨ c.toNat = 13 := by
          simp [isBl] at hb
          omega
        clear hb
        generalize c.toNat = cn at hc hv
        rcases hv with rfl | rfl | rfl | rfl
        all_goals go_wp2
        all_goals go_round
        all_goals first
          | (case rel =>
              refine ⟨k + 1, by omega, by go_num, ?_⟩
              have h1 := HR.out
              rw [skip_blank hkl (CL.out hkl) HB.out] at h1
              omega)
          | skip
        all_goals (simp [intOf]; omega)
      · have b1 : ¬ (c.toNat : Int) = 32 ∧ ¬ (c.toNat : Int) = 9 ∧ ¬ (c.toNat : Int) = 10 ∧ ¬ (c.toNat : Int) = 13 := by
          simp [isBl] at hb
          omega
        obtain ⟨b1, b2, b3, b4⟩ := b1
        have q1 : ((c.toNat : Int) == 32) = false := by simpa using b1
        have q2 : ((c.toNat : Int) == 9) = false := by simpa using b2
        have q3 : ((c.toNat : Int) == 10) = false := by simpa using b3
        have q4 : ((c.toNat : Int) == 13) = false := by simpa using b4
        have HB : Hid (¬ isBl c = true) := hb
        clear hb
        go_wp2
        · have k1 : (k : Int) + 1 < (l.length : Int) := by assumption
          have c47 : (c.toNat : Int) = 47 := by assumption
          have d47 : ((d.toNat : Int) == 47) = true := by assumption
          have hp : ([47, 47] : Bs).isPrefixOf (l.drop k) = true := by
            rw [List.drop_eq_getElem_cons hkl, List.drop_eq_getElem_cons (show k + 1 < l.length by omega), CL.out hkl, DL.out (by omega)]
            have e1 : c = 47 := UInt8.toNat_inj.1 (by have : (47 : UInt8).toNat = 47 := rfl; omega)
            have e2 : d = 47 := UInt8.toNat_inj.1 (by have : (47 : UInt8).toNat = 47 := rfl; have := eq_of_beq d47; omega)
            simp [List.isPrefixOf, e1, e2]
          have PP : Hid (([47, 47] : Bs).isPrefixOf (l.drop k) = true) := hp
          clear hp
          generalize hE : k + run isLn (l.drop k) = E
          have HE : Hid (k + run isLn (l.drop k) = E) := hE
          clear hE
          go_loop [3] (fun i => ∃ j : Nat, k ≤ j ∧ j ≤ l.length ∧ i = .int .i64 (j : Int) ∧ j + run isLn (l.drop j) = E) (fun i => l.length - (intOf i).toNat)
          case atStart => exact ⟨k, Nat.le_refl _, hk, rfl, HE.out⟩
          case round =>
            obtain ⟨j, hkj, hj, rfl, hr⟩ := hrel
            have HJ : Hid (j + run isLn (l.drop j) = E) := hr
            obtain ⟨x, hx, hxl⟩ := byte_str l j
            have XL : Hid (∀ h : j < l.length, l[j] = x) := hxl
            clear hr hxl hc hd
            have fin : ∀ (_ : E = j), k < j ∧ j + skip false (l.drop j) = R := by
              intro e
              have h1 := HR.out
              have h2 := run_pos_slash PP.out
              have h3 := HE.out
              rw [skip_slash PP.out, List.drop_drop, ← Nat.add_assoc, h3, e] at h1
              exact ⟨by omega, h1⟩
            have FIN : Hid (∀ (_ : E = j), k < j ∧ j + skip false (l.drop j) = R) := fin
            clear fin
            go_wp2
            · have hjl : j < l.length := by assumption
              have hx2 : isLn x = true := by unfold isLn; assumption
              go_round
              case rel =>
                refine ⟨j + 1, by omega, by omega, by go_num, ?_⟩
                have h1 := HJ.out
                rw [run_drop _ _ _ hjl, XL.out hjl, if_pos hx2] at h1
                omega
              case measure => simp [intOf]; omega
            · have hjl : j < l.length := by assumption
              have hx2 : isLn x = false := by unfold isLn; assumption
              have h1 := HJ.out
              rw [run_drop _ _ _ hjl, XL.out hjl, hx2] at h1
              simp at h1
              obtain ⟨f1, f2⟩ := FIN.out h1.symm
              go_round
              case rel => exact ⟨j, hj, by go_num, f2⟩
              case measure => simp [intOf]; omega
            · have hjl : ¬ j < l.length := by assumption
              have h1 := HJ.out
              rw [run_end _ _ _ (by omega)] at h1
              simp at h1
              obtain ⟨f1, f2⟩ := FIN.out h1.symm
              go_round
              case rel => exact ⟨j, hj, by go_num, f2⟩
              case measure => simp [intOf]; omega
        all_goals (
          have h1 := HR.out
          have hp : ([47, 47] : Bs).isPrefixOf (l.drop k) = false := by
            rw [List.drop_eq_getElem_cons hkl, CL.out hkl]
            by_cases e1 : c = 47
            · subst e1
              by_cases k1 : k + 1 < l.length
              · first
                  | (exfalso; omega)
                  | (rw [List.drop_eq_getElem_cons k1, DL.out k1]
                     have e2 : ¬ (47 : UInt8) = d := by
                       intro e
                       subst e
                       simp_all
                     simp [List.isPrefixOf, e2])
              · rw [List.drop_eq_nil_of_le (by omega)]
                rfl
            · have e2 : ¬ (47 : UInt8) = c := fun e => e1 e.symm
              simp [List.isPrefixOf, e2]
          rw [skip_none hkl (CL.out hkl) (eq_false_of_ne_true HB.out) hp] at h1
          simp at h1
          subst h1
          go_ret
          exact ⟨rfl, rfl⟩)
    · go_wp2
      have h1 := HR.out
      rw [skip_end (by omega)] at h1
      simp at h1
      subst h1
      go_ret
      exact ⟨rfl, rfl⟩
end Go.Proofs.YtbfelkcaakpdiaaDoor
