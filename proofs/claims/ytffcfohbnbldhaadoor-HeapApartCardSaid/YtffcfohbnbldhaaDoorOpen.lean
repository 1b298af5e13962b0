/-
  Proved: a list of calls, and a list of numbers, that can be read as data lie in memory as plain data do.
-/
import Derived.Test.YtffcfohbnbldhaaDoorBoth2
import Derived.Deep.Slices
import Derived.ProofKit
import Derived.LaidMore
import Derived.OpenShut
import Derived.Stop.Joined
namespace Go.Proofs.YtffcfohbnbldhaaDoor
open Go.RowKit Go.ChangeShapes Go.WideShapes Go.Deep

theorem cells3 : Tryd.prog.cellsOf 3 = 1 := by kernel_rfl
theorem cells32 : Tryd.prog.cellsOf 32 = 4 := by kernel_rfl

theorem add_none (b o m : Nat) : (⟨b, o, none⟩ : Addr).add m = ⟨b, o + m, none⟩ := by unfold Addr.add; split <;> simp_all

theorem cell_spot {w : World} {a : Addr} {v : Value} (h : w.cell? a = some v) : a.spot = none ∧ a.block < w.heap.size := by
  unfold World.cell? at h
  split at h
  · rename_i hh
    refine ⟨?_, (Array.getElem?_eq_some_iff.1 hh).1⟩
    cases hs : a.spot with
    | none => rfl
    | some _ => simp [hs] at h
  · cases h

section
variable {H : Type} {enc : TypeId × Value → H} {w : World} {spare : Nat → Bool} {held : Bool}

/-- The elements of a slice, each by itself: of whatever kind. -/
theorem open_rows {α : Type} (hα : Nonempty α) (good : α → List Value → Prop) {t e : TypeId} {size : Nat} (ht : Tryd.prog.underlying t = some (.slice e)) (hc : Tryd.prog.cellsOf e = size) (hs : 0 < size) {fuel : Nat}
    (ih : ∀ m, m < fuel → ∀ cs x, DataW.trod enc Tryd.prog w 0 spare held m e cs = some x → ∃ y, good y cs) {cs : List Value} {x : DataW H × List MemPlace} (h : DataW.trod enc Tryd.prog w 0 spare held fuel t cs = some x) :
    ∃ (A : Option Addr) (C : Nat) (es : List α), cs = [.slice A es.length C] ∧ es.length ≤ 9223372036854775807 ∧ (A = none → es.length = 0 ∧ C = 0) ∧
      (∀ i (h : i < es.length), ∃ b o cs', A = some ⟨b, o, none⟩ ∧ RowAt w b (o + i * size) cs' ∧ good (es[i]'h) cs') ∧ ((x.1 = .nil ∧ es.length = 0) ∨ ∃ el sp, x.1 = .slice el sp ∧ el.length = es.length) := by
  rcases DataW.trod_slice ht h with ⟨rfl, rfl⟩ | ⟨a, len, cap, elems, rest, n, rfl, rfl, rfl, hb, hl, hm, hlen, hel, _, _⟩
  · exact ⟨none, 0, [], rfl, by simp, fun _ => ⟨rfl, rfl⟩, fun i hi => absurd hi (Nat.not_lt_zero _), Or.inl ⟨rfl, rfl⟩⟩
  · have each : ∀ i, i < len → ∃ z : List Value × α, w.cells? 0 (a.add (i * size)) size = some z.1 ∧ good z.2 z.1 := fun i hi => by
      have h1 := hel i hi
      rw [List.getElem?_eq_getElem (by omega), hc] at h1
      obtain ⟨cs', h2, h3⟩ := Option.bind_eq_some_iff.1 h1
      obtain ⟨y, hy⟩ := ih n (by omega) cs' _ h3
      exact ⟨(cs', y), h2, hy⟩
    haveI : Inhabited α := ⟨Classical.choice hα⟩
    obtain ⟨f, hf⟩ := choose_lt each
    refine ⟨some a, cap, (List.range len).map fun i => (f i).2, by simp, ?_, (fun hh => by cases hh), fun i hi => ?_, Or.inr ⟨_, _, rfl, by simp [hlen]⟩⟩
    · simp only [maxLen] at hm
      simp
      omega
    · have hi' : i < len := by simpa using hi
      have sp : a.spot = none := by
        obtain ⟨_, h2, h3⟩ := World.cells?_some (hf 0 (by omega)).1
        have h4 := h3 0 hs
        rw [List.getElem?_eq_getElem (by omega)] at h4
        have h5 := (cell_spot h4).1
        rw [Nat.zero_mul] at h5
        simpa [Addr.add] using h5
      obtain ⟨b, o, sp'⟩ := a
      cases sp
      obtain ⟨h1, h2⟩ := hf i hi'
      obtain ⟨_, h3, h4⟩ := World.cells?_some h1
      refine ⟨b, o, (f i).1, rfl, ⟨?_, fun j v hj => ?_⟩, by simpa using h2⟩
      · have h5 := h4 0 hs
        rw [List.getElem?_eq_getElem (by omega), add_none, add_none] at h5
        exact (cell_spot h5).2
      · have hj' : j < size := by
          have := (List.getElem?_eq_some_iff.1 hj).1
          omega
        have h5 := h4 j hj'
        rw [hj, add_none, add_none] at h5
        exact h5

/-- A call that can be read. -/
theorem open_act {fuel : Nat} {cs : List Value} {x : DataW H × List MemPlace} (h : DataW.trod enc Tryd.prog w 0 spare held fuel 32 cs = some x) : ∃ y : Int × Int × Int × Int, cs = [.int .i64 y.1, .int .i64 y.2.1, .int .i64 y.2.2.1, .int .i64 y.2.2.2] := by
  obtain ⟨xs, n, rfl, _, hl, hlen, hf⟩ := DataW.trod_struct Tryd.underlying32 h
  rw [cells32] at hl
  have hlen : xs.length = 4 := hlen
  match cs, hl with
  | [c0, c1, c2, c3], _ =>
  match xs, hlen with
  | [y0, y1, y2, y3], _ =>
  have f0 : DataW.trod enc Tryd.prog w 0 spare held n 3 (([c0, c1, c2, c3].drop 0).take (Tryd.prog.cellsOf 3)) = some y0 := hf 0 _ rfl
  have f1 : DataW.trod enc Tryd.prog w 0 spare held n 3 (([c0, c1, c2, c3].drop 1).take (Tryd.prog.cellsOf 3)) = some y1 := hf 1 _ rfl
  have f2 : DataW.trod enc Tryd.prog w 0 spare held n 3 (([c0, c1, c2, c3].drop 2).take (Tryd.prog.cellsOf 3)) = some y2 := hf 2 _ rfl
  have f3 : DataW.trod enc Tryd.prog w 0 spare held n 3 (([c0, c1, c2, c3].drop 3).take (Tryd.prog.cellsOf 3)) = some y3 := hf 3 _ rfl
  rw [cells3] at f0 f1 f2 f3
  obtain ⟨a0, e0, _, _⟩ := DataW.trod_int Tryd.underlying3 f0
  obtain ⟨a1, e1, _, _⟩ := DataW.trod_int Tryd.underlying3 f1
  obtain ⟨a2, e2, _, _⟩ := DataW.trod_int Tryd.underlying3 f2
  obtain ⟨a3, e3, _, _⟩ := DataW.trod_int Tryd.underlying3 f3
  simp at e0 e1 e2 e3
  exact ⟨(a0, a1, a2, a3), by simp [e0, e1, e2, e3]⟩

theorem open_acts {fuel : Nat} {cs : List Value} {x : DataW H × List MemPlace} (h : DataW.trod enc Tryd.prog w 0 spare held fuel 22 cs = some x) :
    ∃ (A : Option Addr) (C : Nat) (es : List (Int × Int × Int × Int)), cs = [.slice A es.length C] ∧ es.length ≤ 9223372036854775807 ∧ ∀ i (h : i < es.length), ∃ b o, A = some ⟨b, o, none⟩ ∧ RowAt w b (o + i * 4) [.int .i64 (es[i]'h).1, .int .i64 (es[i]'h).2.1, .int .i64 (es[i]'h).2.2.1, .int .i64 (es[i]'h).2.2.2] := by
  obtain ⟨A, C, es, e1, e2, _, e3, _⟩ := open_rows ⟨(0, 0, 0, 0)⟩ (fun (y : Int × Int × Int × Int) cs => cs = [.int .i64 y.1, .int .i64 y.2.1, .int .i64 y.2.2.1, .int .i64 y.2.2.2]) Tryd.underlying22 cells32 (by decide) (fun m _ cs x hx => open_act hx) h
  refine ⟨A, C, es, e1, e2, fun i hi => ?_⟩
  obtain ⟨b, o, cs', q1, q2, q3⟩ := e3 i hi
  subst q3
  exact ⟨b, o, q1, q2⟩

theorem open_nums {fuel : Nat} {cs : List Value} {x : DataW H × List MemPlace} (h : DataW.trod enc Tryd.prog w 0 spare held fuel 30 cs = some x) :
    ∃ (A : Option Addr) (C : Nat) (es : List Int), cs = [.slice A es.length C] ∧ es.length ≤ 9223372036854775807 ∧ ∀ i (h : i < es.length), ∃ b o, A = some ⟨b, o, none⟩ ∧ RowAt w b (o + i * 1) [.int .i64 (es[i]'h)] := by
  obtain ⟨A, C, es, e1, e2, _, e3, _⟩ := open_rows ⟨0⟩ (fun (y : Int) cs => cs = [.int .i64 y]) Tryd.underlying30 cells3 (by decide) (fun m _ cs x hx => by
    obtain ⟨a, q1, _, _⟩ := DataW.trod_int Tryd.underlying3 hx
    exact ⟨a, q1⟩) h
  refine ⟨A, C, es, e1, e2, fun i hi => ?_⟩
  obtain ⟨b, o, cs', q1, q2, q3⟩ := e3 i hi
  subst q3
  exact ⟨b, o, q1, q2⟩
end
end Go.Proofs.YtffcfohbnbldhaaDoor
