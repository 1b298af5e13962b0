/-
  Proved: wherever the listed variable fold.used reads as the given datum, its cells in memory are those truths; and the heap that the program's own initialisers leave is such a one.
-/
import Derived.Test.YtligjglleomeeaaDoorFparts
import Derived.ProofKit
import Derived.LaidMore
import Derived.OpenShut
import Derived.Stop.Joined
namespace Go.Proofs.YtligjglleomeeaaDoor
open Go.ChangeShapes Go.WideShapes Go.ChangeAt Go.RowKit

theorem own : ownKnob Tryd.prog.godebug = none := by kernel_rfl
theorem gUsed : Tryd.prog.globalNamed "ferrule/fold.used" = some 0 := by kernel_rfl
theorem tUsed : (Tryd.prog.globals[0]?).map (·.type) = some 64 := by kernel_rfl

def laid1 : List (String × DataW Unit) := [("ferrule/fold.used", Rows.laid_ferrule_fold_used)]

theorem door_met (os : Os) (args : Array Value) : laidMetH Tryd.prog laid1 ((World.doorLaid Tryd.prog 400 os).forCall (fun _ _ => 0) ⟨#[], args, []⟩).memory :=
  laidMetH_of_parts3 (fuel := 8) (laidMet_of_run' 8 (by kernel_rfl) (by kernel_rfl)) (by kernel_rfl) (by kernel_rfl)

theorem cB : Tryd.prog.cellsOf 4 = 1 := by kernel_rfl
theorem cP : Tryd.prog.cellsOf 60 = 10 := by kernel_rfl
theorem cU : Tryd.prog.cellsOf 64 = 160 := by kernel_rfl

theorem laid_is : (Rows.laid_ferrule_fold_used : DataW Unit) = .agg (ptL.map fun l => .agg (l.map fun b => .lit (.bool b))) := rfl

theorem one_cell {W : World} {n j : Nat} {cs : List Value} {xs : List (DataW Unit × List MemPlace)} {l : List Bool}
    (hm : xs.map (·.1) = l.map fun b => DataW.lit (.bool b)) (h : DataW.trod (fun _ => ()) Tryd.prog W 0 (fun _ => true) false n 4 ((cs.drop j).take (Tryd.prog.cellsOf 4)) = xs[j]?) (hx : j < xs.length) : cs[j]? = (l.map Value.bool)[j]? := by
  rw [cB, List.getElem?_eq_getElem hx] at h
  obtain ⟨b, h1, h2⟩ := DataW.trod_bool Tryd.underlying4 h
  have h3 : cs[j]? = some (.bool b) := by
    have := congrArg (fun l => l[0]?) h1
    simpa [List.getElem?_take, List.getElem?_drop] using this
  have h4 : (xs.map (·.1))[j]? = some (.lit (.bool b)) := by
    rw [List.getElem?_map, List.getElem?_eq_getElem hx, h2]
    rfl
  rw [hm, List.getElem?_map] at h4
  rw [h3, List.getElem?_map]
  cases e : l[j]? with
  | none => rw [e] at h4; cases h4
  | some b' =>
    rw [e] at h4
    simp at h4
    rw [h4]
    rfl

theorem row_cells {W : World} {m : Nat} {cs : List Value} {x : DataW Unit × List MemPlace} (l : List Bool)
    (h : DataW.trod (fun _ => ()) Tryd.prog W 0 (fun _ => true) false m 60 cs = some x) (hx : x.1 = .agg (l.map fun b => .lit (.bool b))) : cs = l.map Value.bool := by
  obtain ⟨xs, n, rfl, hx1, hl, hlen, hf⟩ := DataW.trod_struct Tryd.underlying60 h
  subst hx1
  have hlen : xs.length = 10 := hlen
  rw [cP] at hl
  simp only [DataW.agg.injEq] at hx
  have hll : l.length = 10 := by
    have := congrArg List.length hx
    simpa [hlen] using this.symm
  apply List.ext_getElem?
  intro j
  rcases Nat.lt_or_ge j 10 with hj | hj
  · have hc : j = 0 ∨ j = 1 ∨ j = 2 ∨ j = 3 ∨ j = 4 ∨ j = 5 ∨ j = 6 ∨ j = 7 ∨ j = 8 ∨ j = 9 := by omega
    rcases hc with rfl | rfl | rfl | rfl | rfl | rfl | rfl | rfl | rfl | rfl
    · exact one_cell hx (hf 0 _ rfl) (by omega)
    · exact one_cell hx (hf 1 _ rfl) (by omega)
    · exact one_cell hx (hf 2 _ rfl) (by omega)
    · exact one_cell hx (hf 3 _ rfl) (by omega)
    · exact one_cell hx (hf 4 _ rfl) (by omega)
    · exact one_cell hx (hf 5 _ rfl) (by omega)
    · exact one_cell hx (hf 6 _ rfl) (by omega)
    · exact one_cell hx (hf 7 _ rfl) (by omega)
    · exact one_cell hx (hf 8 _ rfl) (by omega)
    · exact one_cell hx (hf 9 _ rfl) (by omega)
  · rw [List.getElem?_eq_none (by omega), List.getElem?_eq_none (by rw [List.length_map]; omega)]

theorem of_laid {W : World} (h : laidMetH Tryd.prog laid1 W) : Tab W := by
  rw [MakeChecks.laidMetH_plain _ _ _ (by kernel_rfl)] at h
  obtain ⟨ps, ⟨g0, t0, cs0, f0, p0, q0, hg0, ht0, hv0, hd0, _⟩, _⟩ := h
  obtain rfl := Option.some.inj (gUsed.symm.trans hg0)
  obtain rfl := Option.some.inj (tUsed.symm.trans ht0)
  obtain ⟨xs, m1, rfl, hx1, hlen, hn, hel⟩ := DataW.trod_array Tryd.underlying64 hd0
  simp only [Prod.mk.injEq] at hx1
  rw [cU] at hlen
  rw [cP] at hel
  have e := hx1.1
  rw [laid_is] at e
  simp only [DataW.agg.injEq] at e
  have key : ∀ i, i < 16 → (cs0.toList.drop (i * 10)).take 10 = (ptR i).map Value.bool := by
    intro i hi
    have hxi : i < xs.length := by omega
    have h1 := hel i hi
    rw [List.getElem?_eq_getElem hxi] at h1
    refine row_cells (ptR i) h1 ?_
    have hp : i < ptL.length := hi
    have h2 := congrArg (fun l => l[i]?) e
    simp only [List.getElem?_map] at h2
    rw [List.getElem?_eq_getElem hxi, List.getElem?_eq_getElem hp] at h2
    simp only [Option.map_some, Option.some.injEq] at h2
    rw [← h2, ptR, List.getD_eq_getElem?_getD, List.getElem?_eq_getElem hp]
    rfl
  unfold World.var? at hv0
  rw [hg0] at hv0
  simp only [Option.bind_some] at hv0
  split at hv0
  · rename_i cs t fr hh
    cases hv0
    intro i hi
    have hs : 0 < W.heap.size := (Array.getElem?_eq_some_iff.1 hh).1
    refine ⟨hs, fun j v hj => ?_⟩
    rw [← key i hi] at hj
    have hj10 : j < 10 := by
      rcases Nat.lt_or_ge j 10 with h | h
      · exact h
      · rw [List.getElem?_take, if_neg (by omega)] at hj
        cases hj
    rw [List.getElem?_take, if_pos hj10, List.getElem?_drop] at hj
    unfold World.cell?
    rw [hh]
    simpa using hj
  · cases hv0
end Go.Proofs.YtligjglleomeeaaDoor
