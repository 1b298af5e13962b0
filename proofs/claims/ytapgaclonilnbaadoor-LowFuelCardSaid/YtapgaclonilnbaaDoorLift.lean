/-
  Proved: wherever the listed variable heap.spans reads as the given datum, its cells in memory are those numbers; and the heap that the program's own initialisers leave is such a one.
-/
import Derived.Test.YtapgaclonilnbaaDoorHsmall
import Derived.ProofKit
import Derived.LaidMore
import Derived.OpenShut
import Derived.Stop.Joined
set_option maxRecDepth 20000
namespace Go.Proofs.YtapgaclonilnbaaDoor
open Go.ChangeShapes Go.WideShapes Go.ChangeAt Go.RowKit

theorem own : ownKnob Tryd.prog.godebug = none := by kernel_rfl
theorem gSpans : Tryd.prog.globalNamed "ferrule/heap.spans" = some 0 := by kernel_rfl
theorem tSpans : (Tryd.prog.globals[0]?).map (·.type) = some 80 := by kernel_rfl

def laid1 : List (String × DataW Unit) := [("ferrule/heap.spans", Rows.laid_ferrule_heap_spans)]

theorem door_met (os : Os) (args : Array Value) : laidMetH Tryd.prog laid1 ((World.doorLaid Tryd.prog 400 os).forCall (fun _ _ => 0) ⟨#[], args, []⟩).memory :=
  laidMetH_of_parts3 (fuel := 8) (laidMet_of_run' 8 (by kernel_rfl) (by kernel_rfl)) (by kernel_rfl) (by kernel_rfl)

theorem c3 : Tryd.prog.cellsOf 3 = 1 := by kernel_rfl
theorem c54 : Tryd.prog.cellsOf 79 = 3 := by kernel_rfl
theorem c55 : Tryd.prog.cellsOf 80 = 12 := by kernel_rfl

theorem span_cells {W : World} {m : Nat} {cs : List Value} {x : DataW Unit × List MemPlace} (a b c : Int)
    (h : DataW.trod (fun _ => ()) Tryd.prog W 0 (fun _ => true) false m 79 cs = some x) (hx : x.1 = .agg [.lit (.int .i64 a), .lit (.int .i64 b), .lit (.int .i64 c)]) : cs = [.int .i64 a, .int .i64 b, .int .i64 c] := by
  obtain ⟨xs, n, rfl, hx1, hl, hlen, hf⟩ := DataW.trod_struct Tryd.underlying79 h
  subst hx1
  have hlen : xs.length = 3 := hlen
  rw [c54] at hl
  match xs, hlen with
  | [y0, y1, y2], _ =>
  simp only [DataW.agg.injEq, List.map_cons, List.map_nil, List.cons.injEq, and_true] at hx
  obtain ⟨e0, e1, e2⟩ := hx
  have f0 : DataW.trod _ Tryd.prog W 0 _ _ n 3 ((cs.drop 0).take (Tryd.prog.cellsOf 3)) = some y0 := hf 0 _ rfl
  have f1 : DataW.trod _ Tryd.prog W 0 _ _ n 3 ((cs.drop 1).take (Tryd.prog.cellsOf 3)) = some y1 := hf 1 _ rfl
  have f2 : DataW.trod _ Tryd.prog W 0 _ _ n 3 ((cs.drop 2).take (Tryd.prog.cellsOf 3)) = some y2 := hf 2 _ rfl
  rw [c3] at f0 f1 f2
  obtain ⟨a0, g0, g0', _⟩ := DataW.trod_int Tryd.underlying3 f0
  obtain ⟨a1, g1, g1', _⟩ := DataW.trod_int Tryd.underlying3 f1
  obtain ⟨a2, g2, g2', _⟩ := DataW.trod_int Tryd.underlying3 f2
  rw [g0'] at e0
  rw [g1'] at e1
  rw [g2'] at e2
  simp at e0 e1 e2
  subst e0 e1 e2
  match cs, hl, g0, g1, g2 with
  | [v0, v1, v2], _, g0, g1, g2 =>
    simp at g0 g1 g2
    subst g0 g1 g2
    rfl

theorem of_laid {W : World} (h : laidMetH Tryd.prog laid1 W) : Tab W := by
  rw [MakeChecks.laidMetH_plain _ _ _ (by kernel_rfl)] at h
  obtain ⟨ps, ⟨g0, t0, cs0, f0, p0, q0, hg0, ht0, hv0, hd0, _⟩, _⟩ := h
  obtain rfl := Option.some.inj (gSpans.symm.trans hg0)
  obtain rfl := Option.some.inj (tSpans.symm.trans ht0)
  obtain ⟨xs, m1, rfl, hx1, hlen, hn, hel⟩ := DataW.trod_array Tryd.underlying80 hd0
  simp only [Prod.mk.injEq] at hx1
  rw [c55] at hlen
  rw [c54] at hel
  match xs, hn with
  | [y0, y1, y2, y3], _ =>
  have e := hx1.1
  simp only [Rows.laid_ferrule_heap_spans, DataW.agg.injEq, List.map_cons, List.map_nil, List.cons.injEq, and_true] at e
  obtain ⟨e0, e1, e2, e3⟩ := e
  have k0 := span_cells _ _ _ ((hel 0 (by omega)).trans rfl) e0.symm
  have k1 := span_cells _ _ _ ((hel 1 (by omega)).trans rfl) e1.symm
  have k2 := span_cells _ _ _ ((hel 2 (by omega)).trans rfl) e2.symm
  have k3 := span_cells _ _ _ ((hel 3 (by omega)).trans rfl) e3.symm
  obtain ⟨l⟩ := cs0
  match l, hlen, k0, k1, k2, k3 with
  | [v0, v1, v2, v3, v4, v5, v6, v7, v8, v9, v10, v11], _, k0, k1, k2, k3 =>
  simp at k0 k1 k2 k3
  obtain ⟨rfl, rfl, rfl⟩ := k0
  obtain ⟨rfl, rfl, rfl⟩ := k1
  obtain ⟨rfl, rfl, rfl⟩ := k2
  obtain ⟨rfl, rfl, rfl⟩ := k3
  unfold World.var? at hv0
  rw [hg0] at hv0
  simp only [Option.bind_some] at hv0
  split at hv0
  · rename_i cs t fr hh
    cases hv0
    exact ⟨t, fr, hh⟩
  · cases hv0
end Go.Proofs.YtapgaclonilnbaaDoor
