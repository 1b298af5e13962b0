/-
  Proved: a type, and a tree, that can be read as data lie in memory as plain data do.
-/
import Derived.Test.YtjbglolcnhmkcaaTrees
import Derived.Deep.Slices
namespace Go.Proofs.Ytjbglolcnhmkcaa
open Go.RowKit Go.ChangeShapes Go.WideShapes Go.Deep

theorem cells25 : Try.prog.cellsOf 25 = 4 := by kernel_rfl
theorem cells27 : Try.prog.cellsOf 27 = 10 := by kernel_rfl
theorem cells3 : Try.prog.cellsOf 3 = 1 := by kernel_rfl
theorem cells9 : Try.prog.cellsOf 9 = 1 := by kernel_rfl
theorem cells22 : Try.prog.cellsOf 22 = 1 := by kernel_rfl
theorem cells23 : Try.prog.cellsOf 23 = 1 := by kernel_rfl

theorem add_none (b o m : Nat) : (⟨b, o, none⟩ : Addr).add m = ⟨b, o + m, none⟩ := by unfold Addr.add; split <;> simp_all

theorem cell_spot {w : World} {a : Addr} {v : Value} (h : w.cell? a = some v) : a.spot = none ∧ a.block < w.heap.size := by
  unfold World.cell? at h
  split at h
  · rename_i hh
    refine ⟨?_, (Array.getElem?_eq_some_iff.1 hh).1⟩
    cases hs : a.spot with
    | none => rfl
    | some _ => simp [hs] at h
  · cases h

section
variable {H : Type} {enc : TypeId × Value → H} {w : World} {spare : Nat → Bool} {held : Bool}

/-- The elements of a slice, each by itself: of whatever kind. -/
theorem open_rows {α : Type} (hα : Nonempty α) (good : α → List Value → Prop) {t e : TypeId} {size : Nat} (ht : Try.prog.underlying t = some (.slice e)) (hc : Try.prog.cellsOf e = size) (hs : 0 < size) {fuel : Nat}
    (ih : ∀ m, m < fuel → ∀ cs x, DataW.trod enc Try.prog w 0 spare held m e cs = some x → ∃ y, good y cs) {cs : List Value} {x : DataW H × List MemPlace} (h : DataW.trod enc Try.prog w 0 spare held fuel t cs = some x) :
    ∃ (A : Option Addr) (C : Nat) (es : List α), cs = [.slice A es.length C] ∧ es.length ≤ 9223372036854775807 ∧ (A = none → es.length = 0 ∧ C = 0) ∧
      (∀ i (h : i < es.length), ∃ b o cs', A = some ⟨b, o, none⟩ ∧ RowAt w b (o + i * size) cs' ∧ good (es[i]'h) cs') ∧ ((x.1 = .nil ∧ es.length = 0) ∨ ∃ el sp, x.1 = .slice el sp ∧ el.length = es.length) := by
  rcases DataW.trod_slice ht h with ⟨rfl, rfl⟩ | ⟨a, len, cap, elems, rest, n, rfl, rfl, rfl, hb, hl, hm, hlen, hel, _, _⟩
  · exact ⟨none, 0, [], rfl, by simp, fun _ => ⟨rfl, rfl⟩, fun i hi => absurd hi (Nat.not_lt_zero _), Or.inl ⟨rfl, rfl⟩⟩
  · have each : ∀ i, i < len → ∃ z : List Value × α, w.cells? 0 (a.add (i * size)) size = some z.1 ∧ good z.2 z.1 := fun i hi => by
      have h1 := hel i hi
      rw [List.getElem?_eq_getElem (by omega), hc] at h1
      obtain ⟨cs', h2, h3⟩ := Option.bind_eq_some_iff.1 h1
      obtain ⟨y, hy⟩ := ih n (by omega) cs' _ h3
      exact ⟨(cs', y), h2, hy⟩
    haveI : Inhabited α := ⟨Classical.choice hα⟩
    obtain ⟨f, hf⟩ := choose_lt each
    refine ⟨some a, cap, (List.range len).map fun i => (f i).2, by simp, ?_, (fun hh => by cases hh), fun i hi => ?_, Or.inr ⟨_, _, rfl, by simp [hlen]⟩⟩
    · simp only [maxLen] at hm
      simp
      omega
    · have hi' : i < len := by simpa using hi
      have sp : a.spot = none := by
        obtain ⟨_, h2, h3⟩ := World.cells?_some (hf 0 (by omega)).1
        have h4 := h3 0 hs
        rw [List.getElem?_eq_getElem (by omega)] at h4
        have h5 := (cell_spot h4).1
        rw [Nat.zero_mul] at h5
        simpa [Addr.add] using h5
      obtain ⟨b, o, sp'⟩ := a
      cases sp
      obtain ⟨h1, h2⟩ := hf i hi'
      obtain ⟨_, h3, h4⟩ := World.cells?_some h1
      refine ⟨b, o, (f i).1, rfl, ⟨?_, fun j v hj => ?_⟩, by simpa using h2⟩
      · have h5 := h4 0 hs
        rw [List.getElem?_eq_getElem (by omega), add_none, add_none] at h5
        exact (cell_spot h5).2
      · have hj' : j < size := by
          have := (List.getElem?_eq_some_iff.1 hj).1
          omega
        have h5 := h4 j hj'
        rw [hj, add_none, add_none] at h5
        exact h5

theorem open_T : ∀ (fuel : Nat) (cs : List Value) (x : DataW H × List MemPlace), DataW.trod enc Try.prog w 0 spare held fuel 25 cs = some x → ∃ t, TIn w t cs := by
  intro fuel
  induction fuel using Nat.strongRecOn with
  | _ fuel ih =>
    intro cs x h
    obtain ⟨xs, n, rfl, _, hl, hlen, hf⟩ := DataW.trod_struct Try.underlying25 h
    rw [cells25] at hl
    have hlen : xs.length = 4 := hlen
    match cs, hl with
    | [c0, c1, c2, c3], _ =>
    match xs, hlen with
    | [y0, y1, y2, y3], _ =>
    have f0 : DataW.trod enc Try.prog w 0 spare held n 3 (([c0, c1, c2, c3].drop 0).take (Try.prog.cellsOf 3)) = some y0 := hf 0 _ rfl
    have f1 : DataW.trod enc Try.prog w 0 spare held n 9 (([c0, c1, c2, c3].drop 1).take (Try.prog.cellsOf 9)) = some y1 := hf 1 _ rfl
    have f2 : DataW.trod enc Try.prog w 0 spare held n 3 (([c0, c1, c2, c3].drop 2).take (Try.prog.cellsOf 3)) = some y2 := hf 2 _ rfl
    have f3 : DataW.trod enc Try.prog w 0 spare held n 23 (([c0, c1, c2, c3].drop 3).take (Try.prog.cellsOf 23)) = some y3 := hf 3 _ rfl
    rw [cells3] at f0 f2
    rw [cells9] at f1
    rw [cells23] at f3
    obtain ⟨k, e0, _, _⟩ := DataW.trod_int Try.underlying3 f0
    obtain ⟨s, e1, _, _⟩ := DataW.trod_string Try.underlying9 f1
    obtain ⟨m, e2, _, _⟩ := DataW.trod_int Try.underlying3 f2
    obtain ⟨A, C, es, e3, h1, _, h3, _⟩ := open_rows ⟨.mk 0 ⟨#[]⟩ 0 []⟩ (TIn w) Try.underlying23 cells25 (by decide) (fun m hm cs x hx => ih m (by omega) cs x hx) f3
    simp at e0 e1 e2 e3
    subst e0 e1 e2 e3
    exact ⟨.mk k s m es, TIn.of ⟨h1, h3⟩⟩

theorem open_Ts {fuel : Nat} {cs : List Value} {x : DataW H × List MemPlace} (h : DataW.trod enc Try.prog w 0 spare held fuel 23 cs = some x) : ∃ A C es, cs = [.slice A es.length C] ∧ TsIn w es A := by
  obtain ⟨A, C, es, h1, h2, _, h3, _⟩ := open_rows ⟨.mk 0 ⟨#[]⟩ 0 []⟩ (TIn w) Try.underlying23 cells25 (by decide) (fun m _ cs x hx => open_T m cs x hx) h
  exact ⟨A, C, es, h1, h2, h3⟩

/-- A tree's cells, and what of its datum the sizes hang on. -/
theorem open_X' : ∀ (fuel : Nat) (cs : List Value) (x : DataW H × List MemPlace), DataW.trod enc Try.prog w 0 spare held fuel 27 cs = some x →
    ∃ (k at' n : Int) (s : ByteArray) (ks : List X) (ts : List T) (A : Option Addr) (C : Nat) (B : Option Addr) (D : Nat) (p : Int) (q : ByteArray) (r : Int) (Z : Option Addr) (zl zc : Nat) (d0 d1 d2 d3 d4 d5 d6 : DataW H),
      cs = [.int .i64 k, .int .i64 at', .int .i64 n, .string s, .slice A ks.length C, .slice B ts.length D, .int .i64 p, .string q, .int .i64 r, .slice Z zl zc] ∧ XIn w (.mk k n s ks ts) cs ∧
      (A = none → ks.length = 0 ∧ C = 0) ∧ d3 = .lit (.string s.data.toList) ∧ x.1 = .agg [d0, d1, d2, d3, d4, d5, d6] ∧ ((d4 = .nil ∧ ks.length = 0) ∨ ∃ el sp, d4 = .slice el sp ∧ el.length = ks.length) := by
  intro fuel
  induction fuel using Nat.strongRecOn with
  | _ fuel ih =>
    intro cs x h
    obtain ⟨xs, n, rfl, rfl, hl, hlen, hf⟩ := DataW.trod_struct Try.underlying27 h
    rw [cells27] at hl
    have hlen : xs.length = 7 := hlen
    match cs, hl with
    | [c0, c1, c2, c3, c4, c5, c6, c7, c8, c9], _ =>
    match xs, hlen with
    | [y0, y1, y2, y3, y4, y5, y6], _ =>
    have f0 : DataW.trod enc Try.prog w 0 spare held n 3 (([c0, c1, c2, c3, c4, c5, c6, c7, c8, c9].drop 0).take (Try.prog.cellsOf 3)) = some y0 := hf 0 _ rfl
    have f1 : DataW.trod enc Try.prog w 0 spare held n 3 (([c0, c1, c2, c3, c4, c5, c6, c7, c8, c9].drop 1).take (Try.prog.cellsOf 3)) = some y1 := hf 1 _ rfl
    have f2 : DataW.trod enc Try.prog w 0 spare held n 3 (([c0, c1, c2, c3, c4, c5, c6, c7, c8, c9].drop 2).take (Try.prog.cellsOf 3)) = some y2 := hf 2 _ rfl
    have f3 : DataW.trod enc Try.prog w 0 spare held n 9 (([c0, c1, c2, c3, c4, c5, c6, c7, c8, c9].drop 3).take (Try.prog.cellsOf 9)) = some y3 := hf 3 _ rfl
    have f4 : DataW.trod enc Try.prog w 0 spare held n 22 (([c0, c1, c2, c3, c4, c5, c6, c7, c8, c9].drop 4).take (Try.prog.cellsOf 22)) = some y4 := hf 4 _ rfl
    have f5 : DataW.trod enc Try.prog w 0 spare held n 23 (([c0, c1, c2, c3, c4, c5, c6, c7, c8, c9].drop 5).take (Try.prog.cellsOf 23)) = some y5 := hf 5 _ rfl
    have f6 : DataW.trod enc Try.prog w 0 spare held n 25 (([c0, c1, c2, c3, c4, c5, c6, c7, c8, c9].drop 6).take (Try.prog.cellsOf 25)) = some y6 := hf 6 _ rfl
    rw [cells3] at f0 f1 f2
    rw [cells9] at f3
    rw [cells22] at f4
    rw [cells23] at f5
    rw [cells25] at f6
    obtain ⟨k, e0, _, _⟩ := DataW.trod_int Try.underlying3 f0
    obtain ⟨at', e1, _, _⟩ := DataW.trod_int Try.underlying3 f1
    obtain ⟨m, e2, _, _⟩ := DataW.trod_int Try.underlying3 f2
    obtain ⟨s, e3, hs, _⟩ := DataW.trod_string Try.underlying9 f3
    obtain ⟨A, C, ks, e4, h1, h2, h3, h4⟩ := open_rows ⟨.mk 0 0 ⟨#[]⟩ [] []⟩ (XIn w) Try.underlying22 cells27 (by decide) (fun m hm cs x hx => by
      obtain ⟨k, at', n, s, ks, ts, A, C, B, D, p, q, r, Z, zl, zc, d0, d1, d2, d3, d4, d5, d6, e, hin, _⟩ := ih m (by omega) cs x hx
      exact ⟨.mk k n s ks ts, hin⟩) f4
    obtain ⟨B, D, ts, e5, h5⟩ := open_Ts f5
    obtain ⟨t6, h6⟩ := open_T n _ _ f6
    obtain ⟨p, q, r, es⟩ := t6
    obtain ⟨Z, zc, e6, _⟩ := h6.inv
    simp at e0 e1 e2 e3 e4 e5 e6
    obtain ⟨e6, e7, e8, e9⟩ := e6
    subst e0 e1 e2 e3 e4 e5 e6 e7 e8 e9
    exact ⟨k, at', m, s, ks, ts, A, C, B, D, p, q, r, Z, es.length, zc, y0.1, y1.1, y2.1, y3.1, y4.1, y5.1, y6.1, rfl, XIn.of ⟨h1, h3⟩ h5, h2, by rw [hs], rfl, h4⟩
end
end Go.Proofs.Ytjbglolcnhmkcaa
