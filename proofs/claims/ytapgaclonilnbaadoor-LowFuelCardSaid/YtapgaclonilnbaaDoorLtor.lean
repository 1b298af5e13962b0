/-
  Proved: main's beginning and a round of a run.
-/
import Derived.Test.YtapgaclonilnbaaDoorLtow
namespace Go.Proofs.YtapgaclonilnbaaDoor
open Go.RowKit
set_option linter.unusedVariables false
set_option linter.unusedSimpArgs false

section
variable {X : Cx} {z : Mh} {nv : Value} {st : Int} {L : Ly} {m m0 : Mc} {w w' : World} {ip : List Int}

/-- A run that is under way, or at main's end. -/
def RS (X : Cx) (fu : Nat) (m0 : Mc) (w : World) (n : Nat) : Prop :=
  ∃ (z : Mh) (nv : Value) (d : Nat) (L : Ly), MX X z nv (d : Int) L w ∧
    ((∃ m, z = hOf m ∧ nv = .pointer (some ⟨L.pb m.bl.length, 0, none⟩) ∧ WF X.l m ∧ d ≤ fu ∧ n = fu - d + 1 ∧ m.out.length ≤ d ∧ goS X.l fu m0 = ((goS X.l (fu - d) m).1, (goS X.l (fu - d) m).2.1, (goS X.l (fu - d) m).2.2 + d))
     ∨ (z.cs = [] ∧ n = 0 ∧ goS X.l fu m0 = ((1, 0), z.out, d)))

theorem enter_main (hc : chk X.l = true) (h : MX X ⟨[], fun _ _ => false, fun _ => 0, ip, [], 0⟩ (.pointer none) 0 L w) (k : Nat) (hk : k < X.l.length) (hp : X.l[k].pa.length = 0) (fu : Nat) :
    Calls Tryd.prog 18 #[.pointer (some ⟨X.R, 0, none⟩), fpV X k, .slice none 0 0] w fun e w' => e = .returned (.tuple #[]) ∧ RS X fu (beginM X.l k ip) w' (fu + 1) := by
  obtain ⟨f1, f2⟩ := ck_fn hc hk
  obtain ⟨p1, p2, p3, p4, p5⟩ := form_parts f1
  have ef : fnO X.l k = X.l[k] := fnO_get X.l k hk
  have hwf := begin_ok hc k hk ip
  have hpa : X.l[k].pa = [] := List.eq_nil_of_length_eq_zero hp
  rw [ef] at p2 p3
  have ec : newC X.l k 1234567892 [] = setsR ⟨k, List.replicate X.l[k].rg.toNat 0, List.replicate X.l[k].fr.toNat 0, 1234567892, 0, 0⟩ X.l[k].pa [] := by unfold newC; rw [ef]
  have FIN : ∀ (L' : Ly) (w' : World), MX X (hOf (beginM X.l k ip)) (.pointer (some ⟨L'.pb 0, 0, none⟩)) 0 L' w' → RS X fu (beginM X.l k ip) w' (fu + 1) := fun L' w' hm =>
    ⟨_, _, 0, L', hm, Or.inl ⟨beginM X.l k ip, rfl, rfl, hwf, Nat.zero_le _, by omega, Nat.le_refl _, by simp⟩⟩
  have AI : AIn X w [] (.slice none 0 0) := ⟨none, 0, rfl, fun i hi => absurd hi (by simp)⟩
  cases hq : X.l[k].qu with
  | true =>
    refine (enter_true h k hk X.l[k].rg.toNat X.l[k].fr.toNat (by omega) (by omega) (by omega) (by omega) 1234567892 (fun w' hb => room0_c (h.below hb) rfl) [] (.slice none 0 0) AI (by rw [hpa]) (by simp) (by rw [hpa]; simp) hq (by simp) (by simp)).mono ?_
    rintro e w' ⟨rfl, L', p, hp2, hm⟩
    refine ⟨rfl, FIN L' w' ?_⟩
    have hp2 : L'.pb 0 = p := hp2
    rw [hp2]
    have e1 : hOf (beginM X.l k ip) = ⟨[] ++ [setsR ⟨k, List.replicate X.l[k].rg.toNat 0, List.replicate X.l[k].fr.toNat 0, 1234567892, 0, 0⟩ X.l[k].pa []], fun _ _ => false, fun _ => 0, ip, [], 0⟩ := by
      unfold hOf beginM
      rw [ec, ef, hq]
      rfl
    rw [e1]
    exact hm
  | false =>
    refine (enter_false h k hk X.l[k].rg.toNat X.l[k].fr.toNat (by omega) (by omega) (by omega) (by omega) 1234567892 (fun w' hb => room0_c (h.below hb) rfl) [] (.slice none 0 0) AI (by rw [hpa]) (by simp) (by rw [hpa]; simp) hq (by simp) (by simp) (by simp)).mono ?_
    rintro e w' ⟨rfl, L', p, hp2, hm⟩
    refine ⟨rfl, FIN L' w' ?_⟩
    have hp2 : L'.pb 0 = p := hp2
    rw [hp2]
    have e1 : hOf (beginM X.l k ip) = ⟨[] ++ [setsR ⟨k, List.replicate X.l[k].rg.toNat 0, List.replicate X.l[k].fr.toNat 0, 1234567892, 0, 0⟩ X.l[k].pa []], fun _ _ => false, fun _ => 0, ip, [], 0 + 1⟩ := by
      unfold hOf beginM
      rw [ec, ef, hq]
      rfl
    rw [e1]
    exact hm

theorem goS_inl {l : List Lf} {n : Nat} {m m' : Mc} (hr : stepS l m = .inl m') : goS l (n + 1) m = ((goS l n m').1, (goS l n m').2.1, (goS l n m').2.2 + 1) := by
  rw [goS]
  rw [hr]
theorem goS_inr {l : List Lf} {n : Nat} {m : Mc} {k : Int × Int} (hr : stepS l m = .inr k) : goS l (n + 1) m = (k, m.out, 1) := by
  rw [goS]
  rw [hr]
theorem goS_zero {l : List Lf} {m : Mc} : goS l 0 m = ((0, 0), m.out, 0) := by rw [goS]

/-- A round: the run goes on, or it ends by a panic. -/
theorem round_split (hc : chk X.l = true) (fu : Nat) (hfu : X.fu = fu) (hf6 : fu ≤ 1000000) {d : Nat} (hs : MX X (hOf m) (.pointer (some ⟨L.pb m.bl.length, 0, none⟩)) d L w) (hwf : WF X.l m) (hd : d ≤ fu) (ho : m.out.length ≤ d) (hg : goS X.l fu m0 = ((goS X.l (fu - d) m).1, (goS X.l (fu - d) m).2.1, (goS X.l (fu - d) m).2.2 + d)) :
    (Calls Tryd.prog 19 #[.pointer (some ⟨X.R, 0, none⟩)] w fun e w' => e = .returned (.tuple #[]) ∧ ∃ n, n < fu - d + 1 ∧ RS X fu m0 w' n)
    ∨ Calls Tryd.prog 19 #[.pointer (some ⟨X.R, 0, none⟩)] w fun e w' => e = .panicked [{ v := endV (goS X.l fu m0).1.1 (goS X.l fu m0).1.2, recovered := false }] ∧ ∃ z nv L, z.out = (goS X.l fu m0).2.1 ∧ MX X z nv ((goS X.l fu m0).2.2 : Int) L w' := by
  rcases Nat.lt_or_ge d fu with hlt | hge
  · have hG := go_c hc hwf hs.toS (by omega) (by omega) (by omega) (by omega)
    have e1 : fu - d = (fu - (d + 1)) + 1 := by omega
    rw [e1] at hg
    cases hr : stepS X.l m with
    | inl m' =>
      rw [hr] at hG
      refine Or.inl (hG.mono ?_)
      rintro e w' ⟨rfl, L', hm⟩
      refine ⟨rfl, fu - (d + 1) + 1, by omega, hOf m', _, d + 1, L', hm.toX, Or.inl ⟨m', rfl, rfl, step_ok hc hwf hr, by omega, rfl, by have := step_out hr; omega, ?_⟩⟩
      rw [hg, goS_inl hr]
      simp only [Nat.add_assoc, Nat.add_comm 1 d]
    | inr k =>
      rw [hr] at hG
      have eg : goS X.l fu m0 = (k, m.out, d + 1) := by
        rw [hg, goS_inr hr]
        simp only [Nat.add_comm 1 d]
      by_cases hk : k = (1, 0)
      · refine Or.inl (hG.mono ?_)
        rintro e w' (⟨-, rfl, z, nv, L', q1, q2, q3⟩ | ⟨q, -⟩)
        · exact ⟨rfl, 0, by omega, z, nv, d + 1, L', q3, Or.inr ⟨q1, rfl, by rw [eg, hk, q2]⟩⟩
        · exact absurd hk q
      · refine Or.inr (hG.mono ?_)
        rintro e w' (⟨q, -⟩ | ⟨-, rfl, z, nv, L', q2, q3⟩)
        · exact absurd q hk
        · rw [eg]
          exact ⟨rfl, z, nv, L', q2, q3⟩
  · obtain rfl : d = fu := by omega
    have eg : goS X.l d m0 = ((0, 0), m.out, d) := by
      rw [hg, Nat.sub_self, goS_zero]
      simp
    refine Or.inr ((goOn_fuel hs.toS (by omega)).mono ?_)
    rintro e w' ⟨rfl, hm⟩
    rw [eg]
    exact ⟨rfl, hOf m, _, L, rfl, hm.toX⟩
end
end Go.Proofs.YtapgaclonilnbaaDoor
