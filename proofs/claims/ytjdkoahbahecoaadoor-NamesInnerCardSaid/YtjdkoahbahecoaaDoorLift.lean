/-
  Proved: wherever the listed variable types.tooMuch reads as the given datum, its cells in memory are those numbers; and the heap that the program's own initialisers leave is such a one.
-/
import Derived.Test.YtjdkoahbahecoaaDoorTrees
import Derived.ProofKit
import Derived.LaidMore
import Derived.OpenShut
import Derived.Stop.Joined
namespace Go.Proofs.YtjdkoahbahecoaaDoor
open Go.ChangeShapes Go.WideShapes Go.ChangeAt Go.RowKit

theorem own : ownKnob Tryd.prog.godebug = none := by kernel_rfl
theorem gMuch : Tryd.prog.globalNamed "ferrule/types.tooMuch" = some 0 := by kernel_rfl
theorem tMuch : (Tryd.prog.globals[0]?).map (·.type) = some 55 := by kernel_rfl

def laid1 : List (String × DataW Unit) := [("ferrule/types.tooMuch", Rows.laid_ferrule_types_tooMuch)]

theorem door_met (os : Os) (args : Array Value) : laidMetH Tryd.prog laid1 ((World.doorLaid Tryd.prog 400 os).forCall (fun _ _ => 0) ⟨#[], args, []⟩).memory :=
  laidMetH_of_parts3 (fuel := 8) (laidMet_of_run' 8 (by kernel_rfl) (by kernel_rfl)) (by kernel_rfl) (by kernel_rfl)

theorem c3 : Tryd.prog.cellsOf 3 = 1 := by kernel_rfl
theorem c53 : Tryd.prog.cellsOf 55 = 3 := by kernel_rfl

set_option maxRecDepth 100000 in
theorem of_laid {W : World} (h : laidMetH Tryd.prog laid1 W) : Tab W := by
  rw [MakeChecks.laidMetH_plain _ _ _ (by kernel_rfl)] at h
  obtain ⟨ps, ⟨g0, t0, cs0, f0, p0, q0, hg0, ht0, hv0, hd0, _⟩, _⟩ := h
  obtain rfl := Option.some.inj (gMuch.symm.trans hg0)
  obtain rfl := Option.some.inj (tMuch.symm.trans ht0)
  obtain ⟨xs, n, rfl, hx1, hl, hlen, hf⟩ := DataW.trod_struct Tryd.underlying55 hd0
  simp only [Prod.mk.injEq] at hx1
  have hlen : xs.length = 3 := hlen
  rw [c53] at hl
  match xs, hlen with
  | [y0, y1, y2], _ =>
  have e := hx1.1
  simp only [Rows.laid_ferrule_types_tooMuch, DataW.agg.injEq, List.map_cons, List.map_nil, List.cons.injEq, and_true] at e
  obtain ⟨e0, e1, e2⟩ := e
  have f0 : DataW.trod _ Tryd.prog W 0 _ _ n 3 ((cs0.toList.drop 0).take (Tryd.prog.cellsOf 3)) = some y0 := hf 0 _ rfl
  have f1 : DataW.trod _ Tryd.prog W 0 _ _ n 3 ((cs0.toList.drop 1).take (Tryd.prog.cellsOf 3)) = some y1 := hf 1 _ rfl
  have f2 : DataW.trod _ Tryd.prog W 0 _ _ n 3 ((cs0.toList.drop 2).take (Tryd.prog.cellsOf 3)) = some y2 := hf 2 _ rfl
  rw [c3] at f0 f1 f2
  obtain ⟨a0, g0, g0', _⟩ := DataW.trod_int Tryd.underlying3 f0
  obtain ⟨a1, g1, g1', _⟩ := DataW.trod_int Tryd.underlying3 f1
  obtain ⟨a2, g2, g2', _⟩ := DataW.trod_int Tryd.underlying3 f2
  rw [g0'] at e0
  rw [g1'] at e1
  rw [g2'] at e2
  simp at e0 e1 e2
  subst e0 e1 e2
  have k0 : W.cell? ⟨0, 0, none⟩ = some (.int .i64 513) := by
    rw [World.var?_cell hg0 hv0]
    match cs0, hl, g0 with
    | ⟨[a, b, c]⟩, _, g0 => simp at g0; subst g0; rfl
  have k1 : W.cell? ⟨0, 1, none⟩ = some (.int .i64 0) := by
    rw [World.var?_cell hg0 hv0]
    match cs0, hl, g1 with
    | ⟨[a, b, c]⟩, _, g1 => simp at g1; subst g1; rfl
  have k2 : W.cell? ⟨0, 2, none⟩ = some (.int .i64 0) := by
    rw [World.var?_cell hg0 hv0]
    match cs0, hl, g2 with
    | ⟨[a, b, c]⟩, _, g2 => simp at g2; subst g2; rfl
  exact ⟨World.block_lt_of_cell? (w := W) (a := ⟨0, 0, none⟩) (h := k0), k0, k1, k2⟩
end Go.Proofs.YtjdkoahbahecoaaDoor
