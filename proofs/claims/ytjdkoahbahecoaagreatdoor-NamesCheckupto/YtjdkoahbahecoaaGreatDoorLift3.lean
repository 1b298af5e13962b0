/-
  Proved: wherever the listed variables errors.errorType, num.shapes and types.tooMuch read as the given data, their cells in memory are those; and the heap that the program's own initialisers leave is such a one.
-/
import Derived.Test.YtjdkoahbahecoaaGreatDoorAs
import Derived.ProofKit
import Derived.LaidMore
import Derived.LaidHandle
import Derived.LaidLaws
import Derived.OpenShut
import Derived.Stop.Joined
namespace Go.Proofs.YtjdkoahbahecoaaGreatDoor
open Go.ChangeShapes Go.WideShapes Go.ChangeAt Go.RowKit

def laid3 : List (String × DataW Unit) := [("errors.errorType", Rows.laid_errors_errorType), ("ferrule/num.shapes", Rows.laid_ferrule_num_shapes), ("ferrule/types.tooMuch", Rows.laid_ferrule_types_tooMuch)]

theorem split3 (W : World) : laidMetH Tryz.prog laid3 W = (laidMet Tryz.prog [("ferrule/num.shapes", Rows.laid_ferrule_num_shapes), ("ferrule/types.tooMuch", Rows.laid_ferrule_types_tooMuch)] W ∧ handlesMet Tryz.prog [("errors.errorType", Rows.laid_errors_errorType)] W) := by kernel_rfl

theorem door_met3 (os : Os) (args : Array Value) : laidMetH Tryz.prog laid3 ((World.doorLaid Tryz.prog 400 os).forCall (fun _ _ => 0) ⟨#[], args, []⟩).memory :=
  laidMetH_of_parts3 (fuel := 8) (laidMet_of_run' 8 (by kernel_rfl) (by kernel_rfl)) (by kernel_rfl) (by kernel_rfl)

theorem own3 : ownKnob Tryz.prog.godebug = none := by kernel_rfl
theorem gS : Tryz.prog.globalNamed "ferrule/num.shapes" = some 2 := by kernel_rfl
theorem tS : (Tryz.prog.globals[2]?).map (·.type) = some 137 := by kernel_rfl
theorem gM : Tryz.prog.globalNamed "ferrule/types.tooMuch" = some 1 := by kernel_rfl
theorem tM : (Tryz.prog.globals[1]?).map (·.type) = some 113 := by kernel_rfl
theorem gE : Tryz.prog.globalNamed "errors.errorType" = some 0 := by kernel_rfl
theorem cI : Tryz.prog.cellsOf 3 = 1 := by kernel_rfl
theorem cB : Tryz.prog.cellsOf 4 = 1 := by kernel_rfl
theorem cM : Tryz.prog.cellsOf 113 = 3 := by kernel_rfl
theorem cS : Tryz.prog.cellsOf 133 = 2 := by kernel_rfl
theorem rtE : (Tryz.prog.cutTypes.find? (·.1 == "internal/reflectlite.rtype")).map (·.2) = some 95 := by kernel_rfl
theorem oneE : ((List.range 176).filter fun t => Tryz.prog.rowNamed t [101, 114, 114, 111, 114]) = [50] := by kernel_rfl
theorem szE : Tryz.prog.types.size = 176 := by kernel_rfl

set_option maxRecDepth 100000 in
theorem elemS {H : Type} {enc : TypeId × Value → H} {w : World} {sp : Nat → Bool} {held : Bool} {m : Nat} {l : List Value} {n : Int} {s : Bool} {p : List MemPlace}
    (h : DataW.trod enc Tryz.prog w 0 sp held m 133 l = some (.agg [.lit (.int .i64 n), .lit (.bool s)], p)) : l[0]? = some (.int .i64 n) ∧ l[1]? = some (.bool s) := by
  obtain ⟨y0, y1, m', hx, hl, h0, h1⟩ := trod_struct2 Tryz.underlying133 h
  simp only [Prod.mk.injEq, DataW.agg.injEq, List.cons.injEq] at hx
  obtain ⟨n', e0, e0', _⟩ := DataW.trod_int Tryz.underlying3 h0
  obtain ⟨s', e1, e1'⟩ := DataW.trod_bool Tryz.underlying4 h1
  rw [cI] at e0
  rw [cB] at e1
  rw [cS] at hl
  rw [e0', e1'] at hx
  simp at hx
  obtain ⟨⟨rfl, rfl⟩, _⟩ := hx
  match l, hl, e0, e1 with
  | [a, b], _, e0, e1 =>
    simp at e0 e1
    subst e0; subst e1
    exact ⟨rfl, rfl⟩

set_option maxRecDepth 100000 in
theorem of_laid3 {W : World} (h : laidMetH Tryz.prog laid3 W) : Tab W ∧ Shp W ∧ Eht W := by
  rw [split3] at h
  obtain ⟨h, hh⟩ := h
  obtain ⟨ps, ⟨g0, t0, cs0, f0, p0, q0, hg0, ht0, hv0, hd0, ⟨g1, t1, cs1, f1, p1, q1, hg1, ht1, hv1, hd1, _⟩, _⟩, _⟩ := h
  refine ⟨?_, ?_, ?_⟩
  · clear hg0 ht0 hv0 hd0
    obtain rfl := Option.some.inj (gM.symm.trans hg1)
    obtain rfl := Option.some.inj (tM.symm.trans ht1)
    obtain ⟨xs, n, rfl, hx1, hl, hlen, hf⟩ := DataW.trod_struct Tryz.underlying113 hd1
    simp only [Prod.mk.injEq] at hx1
    have hlen : xs.length = 3 := hlen
    rw [cM] at hl
    match xs, hlen with
    | [y0, y1, y2], _ =>
    have e := hx1.1
    simp only [Rows.laid_ferrule_types_tooMuch, DataW.agg.injEq, List.map_cons, List.map_nil, List.cons.injEq, and_true] at e
    obtain ⟨e0, e1, e2⟩ := e
    have f0 : DataW.trod _ Tryz.prog W 0 _ _ n 3 ((cs1.toList.drop 0).take (Tryz.prog.cellsOf 3)) = some y0 := hf 0 _ rfl
    have f1 : DataW.trod _ Tryz.prog W 0 _ _ n 3 ((cs1.toList.drop 1).take (Tryz.prog.cellsOf 3)) = some y1 := hf 1 _ rfl
    have f2 : DataW.trod _ Tryz.prog W 0 _ _ n 3 ((cs1.toList.drop 2).take (Tryz.prog.cellsOf 3)) = some y2 := hf 2 _ rfl
    rw [cI] at f0 f1 f2
    obtain ⟨a0, g0, g0', _⟩ := DataW.trod_int Tryz.underlying3 f0
    obtain ⟨a1, g1, g1', _⟩ := DataW.trod_int Tryz.underlying3 f1
    obtain ⟨a2, g2, g2', _⟩ := DataW.trod_int Tryz.underlying3 f2
    rw [g0'] at e0
    rw [g1'] at e1
    rw [g2'] at e2
    simp at e0 e1 e2
    subst e0 e1 e2
    have k0 : W.cell? ⟨1, 0, none⟩ = some (.int .i64 513) := by
      rw [World.var?_cell hg1 hv1]
      match cs1, hl, g0 with
      | ⟨[a, b, c]⟩, _, g0 => simp at g0; subst g0; rfl
    have k1 : W.cell? ⟨1, 1, none⟩ = some (.int .i64 0) := by
      rw [World.var?_cell hg1 hv1]
      match cs1, hl, g1 with
      | ⟨[a, b, c]⟩, _, g1 => simp at g1; subst g1; rfl
    have k2 : W.cell? ⟨1, 2, none⟩ = some (.int .i64 0) := by
      rw [World.var?_cell hg1 hv1]
      match cs1, hl, g2 with
      | ⟨[a, b, c]⟩, _, g2 => simp at g2; subst g2; rfl
    exact ⟨World.block_lt_of_cell? (w := W) (a := ⟨1, 0, none⟩) (h := k0), k0, k1, k2⟩
  · clear hg1 ht1 hv1 hd1
    obtain rfl := Option.some.inj (gS.symm.trans hg0)
    obtain rfl := Option.some.inj (tS.symm.trans ht0)
    obtain ⟨xs, m1, rfl, hx1, hlen, hn, hel⟩ := DataW.trod_array Tryz.underlying137 hd0
    simp only [Prod.mk.injEq] at hx1
    have key : ∀ (i : Nat) (n : Int) (s : Bool), i < 9 → (xs[i]?).map (·.1) = some (.agg [.lit (.int .i64 n), .lit (.bool s)]) → W.cell? ⟨2, 2 * i, none⟩ = some (.int .i64 n) ∧ W.cell? ⟨2, 2 * i + 1, none⟩ = some (.bool s) := by
      intro i n s hi hxi
      have h1 := hel i hi
      rw [cS] at h1
      obtain ⟨⟨d, p⟩, e1, e2⟩ := Option.map_eq_some_iff.1 hxi
      simp only at e2
      subst e2
      rw [e1] at h1
      obtain ⟨ea, eb⟩ := elemS h1
      rw [World.var?_cell hg0 hv0, World.var?_cell hg0 hv0]
      simp only [List.getElem?_take, List.getElem?_drop] at ea eb
      refine ⟨?_, ?_⟩
      · rw [Nat.mul_comm]; simpa using ea
      · rw [Nat.mul_comm]; simpa using eb
    have hl : xs.map (·.1) = [.agg [.lit (.int .i64 0), .lit (.bool false)], .agg [.lit (.int .i64 0), .lit (.bool false)], .agg [.lit (.int .i64 0), .lit (.bool false)], .agg [.lit (.int .i64 8), .lit (.bool true)], .agg [.lit (.int .i64 16), .lit (.bool true)], .agg [.lit (.int .i64 32), .lit (.bool true)], .agg [.lit (.int .i64 8), .lit (.bool false)], .agg [.lit (.int .i64 16), .lit (.bool false)], .agg [.lit (.int .i64 32), .lit (.bool false)]] := (DataW.agg.inj hx1.1).symm
    have at_ : ∀ i : Nat, (xs[i]?).map (fun x : DataW Unit × List MemPlace => x.1) = (xs.map (fun x : DataW Unit × List MemPlace => x.1))[i]? := fun i => by rw [List.getElem?_map]
    rw [hl] at at_
    have k0 := key 0 0 false (by decide) (at_ 0)
    have k1 := key 1 0 false (by decide) (at_ 1)
    have k2 := key 2 0 false (by decide) (at_ 2)
    have k3 := key 3 8 true (by decide) (at_ 3)
    have k4 := key 4 16 true (by decide) (at_ 4)
    have k5 := key 5 32 true (by decide) (at_ 5)
    have k6 := key 6 8 false (by decide) (at_ 6)
    have k7 := key 7 16 false (by decide) (at_ 7)
    have k8 := key 8 32 false (by decide) (at_ 8)
    exact ⟨World.block_lt_of_cell? (w := W) (a := ⟨2, 0, none⟩) (h := k0.1), k0.1, k0.2, k1.1, k1.2, k2.1, k2.2, k3.1, k3.2, k4.1, k4.2, k5.1, k5.2, k6.1, k6.2, k7.1, k7.2, k8.1, k8.2⟩
  · obtain ⟨name, u, ty, e1, e2, e3, e4, e5⟩ := hh _ (List.mem_singleton.2 rfl)
    have en : name = [101, 114, 114, 111, 114] := (Option.some.inj e1).symm
    subst en
    obtain rfl := Option.some.inj (rtE.symm.trans e2)
    have hm : ty ∈ (List.range 176).filter fun t => Tryz.prog.rowNamed t [101, 114, 114, 111, 114] := List.mem_filter.2 ⟨List.mem_range.2 (by rw [← szE]; exact e3), e4⟩
    rw [oneE] at hm
    obtain rfl := List.mem_singleton.1 hm
    have hh : typeHandle Tryz.prog 50 = .pointer (some ⟨3, 50, none⟩) := by kernel_rfl
    rw [hh] at e5
    show W.cell? _ = _
    simpa using World.var?_cell gE e5 0

end Go.Proofs.YtjdkoahbahecoaaGreatDoor
