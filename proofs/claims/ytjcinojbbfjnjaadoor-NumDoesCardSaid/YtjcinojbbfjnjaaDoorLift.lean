/-
  Proved: wherever the listed table num.shapes reads as the given datum, its cells in memory are those numbers and signs; and the heap that the program's own initialisers leave is such a one.
-/
import Derived.Test.YtjcinojbbfjnjaaDoorRows
import Derived.Test.YtjcinojbbfjnjaaDoorBase
import Derived.ProofKit
import Derived.LaidMore
import Derived.OpenShut
import Derived.Stop.Joined
namespace Go.Proofs.YtjcinojbbfjnjaaDoor
open Go.ChangeShapes Go.WideShapes Go.ChangeAt Go.RowKit

theorem own : ownKnob Tryd.prog.godebug = none := by kernel_rfl
theorem gShapes : Tryd.prog.globalNamed "ferrule/num.shapes" = some 0 := by kernel_rfl
theorem tShapes : (Tryd.prog.globals[0]?).map (·.type) = some 45 := by kernel_rfl

def laid1 : List (String × DataW Unit) := [("ferrule/num.shapes", Rows.laid_ferrule_num_shapes)]

theorem door_met (os : Os) (args : Array Value) : laidMetH Tryd.prog laid1 ((World.doorLaid Tryd.prog 400 os).forCall (fun _ _ => 0) ⟨#[], args, []⟩).memory :=
  laidMetH_of_parts3 (fuel := 8) (laidMet_of_run' 8 (by kernel_rfl) (by kernel_rfl)) (by kernel_rfl) (by kernel_rfl)

theorem cells3 : Tryd.prog.cellsOf 3 = 1 := by kernel_rfl
theorem cells4 : Tryd.prog.cellsOf 4 = 1 := by kernel_rfl
theorem cells40 : Tryd.prog.cellsOf 40 = 2 := by kernel_rfl

theorem elem {H : Type} {enc : TypeId × Value → H} {w : World} {sp : Nat → Bool} {held : Bool} {m : Nat} {l : List Value} {n : Int} {s : Bool} {p : List MemPlace}
    (h : DataW.trod enc Tryd.prog w 0 sp held m 40 l = some (.agg [.lit (.int .i64 n), .lit (.bool s)], p)) : l[0]? = some (.int .i64 n) ∧ l[1]? = some (.bool s) := by
  obtain ⟨y0, y1, m', hx, hl, h0, h1⟩ := trod_struct2 Tryd.underlying40 h
  simp only [Prod.mk.injEq, DataW.agg.injEq, List.cons.injEq] at hx
  obtain ⟨n', e0, e0', _⟩ := DataW.trod_int Tryd.underlying3 h0
  obtain ⟨s', e1, e1'⟩ := DataW.trod_bool Tryd.underlying4 h1
  rw [cells3] at e0
  rw [cells4] at e1
  rw [cells40] at hl
  rw [e0', e1'] at hx
  simp at hx
  obtain ⟨⟨rfl, rfl⟩, _⟩ := hx
  match l, hl, e0, e1 with
  | [a, b], _, e0, e1 =>
    simp at e0 e1
    subst e0; subst e1
    exact ⟨rfl, rfl⟩

theorem of_laid {W : World} (h : laidMetH Tryd.prog laid1 W) : Tab W := by
  rw [MakeChecks.laidMetH_plain _ _ _ (by kernel_rfl)] at h
  obtain ⟨ps, ⟨g0, t0, cs0, f0, p0, q0, hg0, ht0, hv0, hd0, _⟩, _⟩ := h
  obtain rfl := Option.some.inj (gShapes.symm.trans hg0)
  obtain rfl := Option.some.inj (tShapes.symm.trans ht0)
  obtain ⟨xs, m1, rfl, hx1, hlen, hn, hel⟩ := DataW.trod_array Tryd.underlying45 hd0
  simp only [Prod.mk.injEq] at hx1
  have key : ∀ (i : Nat) (n : Int) (s : Bool), i < 9 → (xs[i]?).map (·.1) = some (.agg [.lit (.int .i64 n), .lit (.bool s)]) → W.cell? ⟨0, 2 * i, none⟩ = some (.int .i64 n) ∧ W.cell? ⟨0, 2 * i + 1, none⟩ = some (.bool s) := by
    intro i n s hi hxi
    have h1 := hel i hi
    rw [cells40] at h1
    obtain ⟨⟨d, p⟩, e1, e2⟩ := Option.map_eq_some_iff.1 hxi
    simp only at e2
    subst e2
    rw [e1] at h1
    obtain ⟨ea, eb⟩ := elem h1
    rw [World.var?_cell hg0 hv0, World.var?_cell hg0 hv0]
    simp only [List.getElem?_take, List.getElem?_drop] at ea eb
    refine ⟨?_, ?_⟩
    · rw [Nat.mul_comm]; simpa using ea
    · rw [Nat.mul_comm]; simpa using eb
  have hl : xs.map (·.1) = [.agg [.lit (.int .i64 0), .lit (.bool false)], .agg [.lit (.int .i64 0), .lit (.bool false)], .agg [.lit (.int .i64 0), .lit (.bool false)], .agg [.lit (.int .i64 8), .lit (.bool true)], .agg [.lit (.int .i64 16), .lit (.bool true)], .agg [.lit (.int .i64 32), .lit (.bool true)], .agg [.lit (.int .i64 8), .lit (.bool false)], .agg [.lit (.int .i64 16), .lit (.bool false)], .agg [.lit (.int .i64 32), .lit (.bool false)]] := (DataW.agg.inj hx1.1).symm
  have at_ : ∀ i : Nat, (xs[i]?).map (fun x : DataW Unit × List MemPlace => x.1) = (xs.map (fun x : DataW Unit × List MemPlace => x.1))[i]? := fun i => by rw [List.getElem?_map]
  rw [hl] at at_
  have k0 := key 0 0 false (by decide) (at_ 0)
  have k1 := key 1 0 false (by decide) (at_ 1)
  have k2 := key 2 0 false (by decide) (at_ 2)
  have k3 := key 3 8 true (by decide) (at_ 3)
  have k4 := key 4 16 true (by decide) (at_ 4)
  have k5 := key 5 32 true (by decide) (at_ 5)
  have k6 := key 6 8 false (by decide) (at_ 6)
  have k7 := key 7 16 false (by decide) (at_ 7)
  have k8 := key 8 32 false (by decide) (at_ 8)
  exact ⟨World.block_lt_of_cell? (w := W) (a := ⟨0, 0, none⟩) (h := k0.1), k0.1, k0.2, k1.1, k1.2, k2.1, k2.2, k3.1, k3.2, k4.1, k4.2, k5.1, k5.2, k6.1, k6.2, k7.1, k7.2, k8.1, k8.2⟩
end Go.Proofs.YtjcinojbbfjnjaaDoor
