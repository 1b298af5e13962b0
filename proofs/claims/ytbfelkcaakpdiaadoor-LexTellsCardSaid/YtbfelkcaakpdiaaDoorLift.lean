/-
  Proved: wherever the listed table lex.signs reads as the given datum, its block in memory holds those signs; and the heap that the program's own initialisers leave is such a one.
-/
import Derived.Test.YtbfelkcaakpdiaaDoorRows
import Derived.Test.YtbfelkcaakpdiaaDoorSign
import Derived.ProofKit
import Derived.LaidMore
import Derived.OpenShut
import Derived.Stop.Joined
namespace Go.Proofs.YtbfelkcaakpdiaaDoor
open Go.ChangeShapes Go.WideShapes Go.ChangeAt Go.RowKit

theorem own : ownKnob Tryd.prog.godebug = none := by kernel_rfl
theorem gSigns : Tryd.prog.globalNamed "ferrule/lex.signs" = some 0 := by kernel_rfl
theorem tSigns : (Tryd.prog.globals[0]?).map (·.type) = some 64 := by kernel_rfl
theorem cells9 : Tryd.prog.cellsOf 9 = 1 := by kernel_rfl

def laid1 : List (String × DataW Unit) := [("ferrule/lex.signs", Rows.laid_ferrule_lex_signs)]

theorem door_met (os : Os) (args : Array Value) : laidMetH Tryd.prog laid1 ((World.doorLaid Tryd.prog 400 os).forCall (fun _ _ => 0) ⟨#[], args, []⟩).memory :=
  laidMetH_of_parts3 (fuel := 8) (laidMet_of_run' 8 (by kernel_rfl) (by kernel_rfl)) (by kernel_rfl) (by kernel_rfl)

theorem of_laid {W : World} (h : laidMetH Tryd.prog laid1 W) : Tab W := by
  rw [MakeChecks.laidMetH_plain _ _ _ (by kernel_rfl)] at h
  obtain ⟨ps, ⟨g0, t0, cs0, f0, p0, q0, hg0, ht0, hv0, hd0, _⟩, _⟩ := h
  obtain rfl := Option.some.inj (gSigns.symm.trans hg0)
  obtain rfl := Option.some.inj (tSigns.symm.trans ht0)
  obtain ⟨xs, m1, rfl, hx1, hlen, hn, hel⟩ := DataW.trod_array Tryd.underlying64 hd0
  simp only [Prod.mk.injEq] at hx1
  have hl : xs.map (fun x : DataW Unit × List MemPlace => x.1) = signsL.map (fun s => (.lit (.string s) : DataW Unit)) := by
    have := hx1.1
    injection this with h1
    exact h1.symm
  have key : ∀ i, i < 33 → cs0[i]? = some (.string (ofL (signsL.getD i []))) := by
    intro i hi
    have h1 := hel i hi
    rw [cells9, Nat.mul_one] at h1
    have h2 : (xs[i]?).map (fun x : DataW Unit × List MemPlace => x.1) = some (.lit (.string (signsL.getD i []))) := by
      rw [← List.getElem?_map, hl, List.getElem?_map, List.getElem?_eq_getElem (show i < signsL.length from hi), List.getD_eq_getElem?_getD, List.getElem?_eq_getElem (show i < signsL.length from hi)]
      rfl
    obtain ⟨⟨d, q⟩, e1, e2⟩ := Option.map_eq_some_iff.1 h2
    simp only at e2
    rw [e1] at h1
    obtain ⟨b, e3, e4, _⟩ := DataW.trod_string Tryd.underlying9 h1
    simp only [Prod.mk.injEq] at e4
    rw [e2] at e4
    have e5 : signsL.getD i [] = b.data.toList := by
      have := e4.1
      injection this with h
      injection h
    have e6 : ofL (signsL.getD i []) = b := by rw [e5]; simp [ofL]
    rw [e6]
    have e7 : (List.take 1 (List.drop i cs0.toList))[0]? = some (.string b) := by rw [e3]; rfl
    simpa using e7
  have hc : cs0 = signsC := by
    apply Array.ext_getElem?
    intro i
    by_cases hi : i < 33
    · rw [key i hi]
      have : signsC[i]? = (signsL.map fun s => Value.string (ofL s))[i]? := by simp [signsC]
      rw [this, List.getElem?_map, List.getElem?_eq_getElem (show i < signsL.length from hi), List.getD_eq_getElem?_getD, List.getElem?_eq_getElem (show i < signsL.length from hi)]
      rfl
    · have h1 : cs0.size = 33 := by
        have : Tryd.prog.cellsOf 64 = 33 := by kernel_rfl
        rw [this] at hlen
        simpa using hlen
      have h2 : signsC.size = 33 := rfl
      rw [Array.getElem?_eq_none (by omega), Array.getElem?_eq_none (by omega)]
  subst hc
  unfold World.var? at hv0
  rw [hg0] at hv0
  simp only [Option.bind_some] at hv0
  split at hv0
  · rename_i cs t fr hh
    cases hv0
    exact ⟨t, fr, hh⟩
  · cases hv0
end Go.Proofs.YtbfelkcaakpdiaaDoor
