/-
  Proved: LowFuel's walk over what was handed in; two numbers in a row as an argument.
-/
import Derived.Test.YtapgaclonilnbaaDoorLlow
import Derived.Test.YtapgaclonilnbaaDoorLopen
namespace Go.Proofs.YtapgaclonilnbaaDoor
open Go.RowKit Go.ChangeShapes Go.WideShapes Go.Deep
set_option linter.unusedVariables false
set_option maxRecDepth 20000

theorem lowFuel_walk2 (l : List Lf) (v : Value) (ip : List Int) (iv : Value) (x y : Int) (w : World) (ht : Tab w) (hl : LfsIn w l v) (hi : InpIn w ip iv) :
    Calls Tryd.prog 3 #[v, iv, .agg #[.int .i64 x, .int .i64 y]] w fun e w' => e = .returned (.bool true) ∧ Below w.heap.size w w' := by
  obtain ⟨-, A, C, rfl, -⟩ := id hl
  exact lowFuel_walk l A C ip iv x y w ht hl hi

theorem okWide_two {P : Program} {w : World} {r : Reach} {base : Nat} {t e : TypeId} {n : Nat} {v : Value} (ht : P.underlying t = some (.array n e)) (h : Value.okWide P w r base t v) : ∃ cs, v = .agg cs ∧ cs.size = P.cellsOf t := by
  simp only [Value.okWide, ht] at h
  obtain ⟨cs, h1, h2, _⟩ := h
  exact ⟨cs, h1, h2⟩

theorem cellsTwo : Tryd.prog.cellsOf 24 = 2 := by kernel_rfl

theorem open_two {H : Type} {enc : TypeId × Value → H} {w : World} {spare : Nat → Bool} {held : Bool} {fuel : Nat} {cs : List Value} {x : DataW H × List MemPlace} (h : DataW.trod enc Tryd.prog w 0 spare held fuel 24 cs = some x) :
    ∃ a b : Int, cs = [.int .i64 a, .int .i64 b] := by
  obtain ⟨xs, m, rfl, hx, hl, hn, hel⟩ := DataW.trod_array Tryd.underlying24 h
  rw [cellsTwo] at hl
  rw [cellsInt] at hel
  match cs, hl with
  | [c0, c1], _ =>
  match xs, hn with
  | [y0, y1], _ =>
  have f0 : DataW.trod enc Tryd.prog w 0 spare held m 3 (([c0, c1].drop (0 * 1)).take 1) = some y0 := hel 0 (by omega)
  have f1 : DataW.trod enc Tryd.prog w 0 spare held m 3 (([c0, c1].drop (1 * 1)).take 1) = some y1 := hel 1 (by omega)
  obtain ⟨a0, e0, _, _⟩ := DataW.trod_int Tryd.underlying3 f0
  obtain ⟨a1, e1, _, _⟩ := DataW.trod_int Tryd.underlying3 f1
  simp at e0 e1
  exact ⟨a0, a1, by rw [e0, e1]⟩
end Go.Proofs.YtapgaclonilnbaaDoor
