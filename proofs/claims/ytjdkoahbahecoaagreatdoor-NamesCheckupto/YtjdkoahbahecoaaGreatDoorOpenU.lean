/-
  Proved: a program's items and a type that can be read as data, of a bulk within the bound, lie in memory as plain data do, their lists no longer and their types no deeper than that.
-/
import Derived.Test.YtjdkoahbahecoaaGreatDoorOpen
import Derived.Test.YtjdkoahbahecoaaGreatDoorRCheck
import Derived.Test.YtjdkoahbahecoaaGreatDoorCards
namespace Go.Proofs.YtjdkoahbahecoaaGreatDoor
open Go.RowKit Go.ChangeShapes Go.WideShapes Go.Deep

theorem bulk_pos {H : Type} (d : DataW H) : 1 ≤ Rows.uptoBulk d := by
  cases d with
  | lit l => cases l <;> simp [Rows.uptoBulk]
  | _ => simp [Rows.uptoBulk]

theorem bulk_len {H : Type} : ∀ l : List (DataW H), l.length ≤ Rows.uptoBulkAll l
  | [] => Nat.zero_le _
  | d :: l => by
    have := bulk_len l
    have := bulk_pos d
    simp only [Rows.uptoBulkAll, List.length_cons]
    omega

theorem bulk_part {H : Type} {d : DataW H} : ∀ {l : List (DataW H)} {i : Nat}, l[i]? = some d → Rows.uptoBulk d ≤ Rows.uptoBulkAll l
  | [], _, h => by simp at h
  | x :: l, 0, h => by
    simp at h
    subst h
    simp only [Rows.uptoBulkAll]
    omega
  | x :: l, i + 1, h => by
    have := bulk_part (l := l) (i := i) (by simpa using h)
    simp only [Rows.uptoBulkAll]
    omega

theorem bulk_agg {H : Type} {d : DataW H} {l : List (DataW H)} {i : Nat} (h : l[i]? = some d) : Rows.uptoBulk d ≤ Rows.uptoBulk (DataW.agg l) := by
  have := bulk_part h
  simp only [Rows.uptoBulk]
  omega

section
variable {H : Type} {enc : TypeId × Value → H} {w : World} {spare : Nat → Bool} {held : Bool}

theorem open_rowsU {α : Type} (hα : Nonempty α) (good : α → List Value → DataW H → Prop) {t e : TypeId} {size : Nat} (ht : Tryz.prog.underlying t = some (.slice e)) (hc : Tryz.prog.cellsOf e = size) (hs : 0 < size) {fuel : Nat}
    (ih : ∀ m, m < fuel → ∀ cs x, DataW.trod enc Tryz.prog w 0 spare held m e cs = some x → ∃ y, good y cs x.1) {cs : List Value} {x : DataW H × List MemPlace} (h : DataW.trod enc Tryz.prog w 0 spare held fuel t cs = some x) :
    ∃ (A : Option Addr) (C : Nat) (es : List α), cs = [.slice A es.length C] ∧ es.length ≤ C ∧ es.length ≤ 9223372036854775807 ∧ es.length ≤ Rows.uptoBulk x.1 ∧
      (∀ i (h : i < es.length), ∃ b o cs' d, A = some ⟨b, o, none⟩ ∧ RowAt w b (o + i * size) cs' ∧ good (es[i]'h) cs' d ∧ Rows.uptoBulk d + 1 ≤ Rows.uptoBulk x.1) := by
  rcases DataW.trod_slice ht h with ⟨rfl, rfl⟩ | ⟨a, len, cap, elems, rest, n, rfl, rfl, rfl, hb, hl, hm, hlen, hel, _, _⟩
  · exact ⟨none, 0, [], rfl, Nat.le_refl _, by simp, by simp, fun i hi => absurd hi (Nat.not_lt_zero _)⟩
  · have each : ∀ i, i < len → ∃ z : List Value × α × DataW H, w.cells? 0 (a.add (i * size)) size = some z.1 ∧ good z.2.1 z.1 z.2.2 ∧ (elems.map (·.1))[i]? = some z.2.2 := fun i hi => by
      have h1 := hel i hi
      rw [List.getElem?_eq_getElem (by omega), hc] at h1
      obtain ⟨cs', h2, h3⟩ := Option.bind_eq_some_iff.1 h1
      obtain ⟨y, hy⟩ := ih n (by omega) cs' _ h3
      exact ⟨(cs', y, _), h2, hy, by simp [List.getElem?_eq_getElem (show i < elems.length by omega)]⟩
    haveI : Inhabited (DataW H) := ⟨.nil⟩
    haveI : Inhabited α := ⟨Classical.choice hα⟩
    obtain ⟨f, hf⟩ := choose_lt each
    refine ⟨some a, cap, (List.range len).map fun i => (f i).2.1, by simp, ?_, ?_, ?_, fun i hi => ?_⟩
    · simp
      omega
    · simp only [maxLen] at hm
      simp
      omega
    · have := bulk_len (elems.map (·.1))
      simp only [List.length_map] at this
      simp only [List.length_map, List.length_range, Rows.uptoBulk]
      omega
    · have hi' : i < len := by simpa using hi
      have sp : a.spot = none := by
        obtain ⟨_, h2, h3⟩ := World.cells?_some (hf 0 (by omega)).1
        have h4 := h3 0 hs
        rw [List.getElem?_eq_getElem (by omega)] at h4
        have h5 := (cell_at h4).1
        rw [Nat.zero_mul] at h5
        simpa [Addr.add] using h5
      obtain ⟨b, o, sp'⟩ := a
      cases sp
      obtain ⟨h1, h2, h2'⟩ := hf i hi'
      obtain ⟨_, h3, h4⟩ := World.cells?_some h1
      refine ⟨b, o, (f i).1, (f i).2.2, rfl, ⟨?_, fun j v hj => ?_⟩, by simpa using h2, ?_⟩
      · have h5 := h4 0 hs
        rw [List.getElem?_eq_getElem (by omega), addr_add, addr_add] at h5
        exact (cell_at h5).2
      · have hj' : j < size := by
          have := (List.getElem?_eq_some_iff.1 hj).1
          omega
        have h5 := h4 j hj'
        rw [hj, addr_add, addr_add] at h5
        exact h5
      · have := bulk_part h2'
        simp only [Rows.uptoBulk]
        omega

set_option maxRecDepth 100000 in
theorem open_TU : ∀ (fuel : Nat) (cs : List Value) (x : DataW H × List MemPlace), DataW.trod enc Tryz.prog w 0 spare held fuel 25 cs = some x → ∃ t, TIn w t cs ∧ dep t ≤ Rows.uptoBulk x.1 := by
  intro fuel
  induction fuel using Nat.strongRecOn with
  | _ fuel ih =>
    intro cs x h
    obtain ⟨xs, n, rfl, hx, hl, hlen, hf⟩ := DataW.trod_struct Tryz.underlying25 h
    rw [nT] at hl
    have hlen : xs.length = 4 := hlen
    match cs, hl with
    | [c0, c1, c2, c3], _ =>
    match xs, hlen with
    | [y0, y1, y2, y3], _ =>
    have f0 : DataW.trod enc Tryz.prog w 0 spare held n 3 (([c0, c1, c2, c3].drop 0).take (Tryz.prog.cellsOf 3)) = some y0 := hf 0 _ rfl
    have f1 : DataW.trod enc Tryz.prog w 0 spare held n 9 (([c0, c1, c2, c3].drop 1).take (Tryz.prog.cellsOf 9)) = some y1 := hf 1 _ rfl
    have f2 : DataW.trod enc Tryz.prog w 0 spare held n 3 (([c0, c1, c2, c3].drop 2).take (Tryz.prog.cellsOf 3)) = some y2 := hf 2 _ rfl
    have f3 : DataW.trod enc Tryz.prog w 0 spare held n 23 (([c0, c1, c2, c3].drop 3).take (Tryz.prog.cellsOf 23)) = some y3 := hf 3 _ rfl
    rw [nInt] at f0 f2
    rw [nS] at f1
    rw [nsT] at f3
    obtain ⟨k, e0, _, _⟩ := DataW.trod_int Tryz.underlying3 f0
    obtain ⟨s, e1, _, _⟩ := DataW.trod_string Tryz.underlying9 f1
    obtain ⟨m, e2, _, _⟩ := DataW.trod_int Tryz.underlying3 f2
    obtain ⟨A, C, es, e3, _, h1, h2, h3⟩ := open_rowsU ⟨.mk 0 ⟨#[]⟩ 0 []⟩ (fun t cs d => TIn w t cs ∧ dep t ≤ Rows.uptoBulk d) Tryz.underlying23 nT (by decide) (fun m hm cs x hx => ih m (by omega) cs x hx) f3
    simp at e0 e1 e2 e3
    subst e0 e1 e2 e3
    refine ⟨.mk k s m es, TIn.of ⟨h1, fun i hi => by
      obtain ⟨b, o, cs', d, a1, a2, a3, _⟩ := h3 i hi
      exact ⟨b, o, cs', a1, a2, a3.1⟩⟩, ?_⟩
    have hb : Rows.uptoBulk y3.1 ≤ Rows.uptoBulk x.1 := by rw [hx]; exact bulk_agg (i := 3) rfl
    have hp := bulk_pos y3.1
    cases es with
    | nil => simp only [dep]; omega
    | cons e es =>
      obtain ⟨b, o, cs', d, a1, a2, a3, a4⟩ := h3 0 (by simp)
      have h5 : dep e ≤ Rows.uptoBulk d := a3.2
      simp only [dep]
      omega

theorem open_TsU {fuel : Nat} {cs : List Value} {x : DataW H × List MemPlace} (h : DataW.trod enc Tryz.prog w 0 spare held fuel 23 cs = some x) : ∃ A C es, cs = [.slice A es.length C] ∧ TsIn w es A ∧ es.length ≤ Rows.uptoBulk x.1 := by
  obtain ⟨A, C, es, h1, _, h2, h4, h3⟩ := open_rowsU ⟨.mk 0 ⟨#[]⟩ 0 []⟩ (fun t cs _ => TIn w t cs) Tryz.underlying23 nT (by decide) (fun m _ cs x hx => (open_TU m cs x hx).imp fun _ h => h.1) h
  exact ⟨A, C, es, h1, ⟨h2, fun i hi => by
    obtain ⟨b, o, cs', _, a1, a2, a3, _⟩ := h3 i hi
    exact ⟨b, o, cs', a1, a2, a3⟩⟩, h4⟩

set_option maxRecDepth 100000 in
theorem open_PU (fuel : Nat) (cs : List Value) (x : DataW H × List MemPlace) (h : DataW.trod enc Tryz.prog w 0 spare held fuel 88 cs = some x) : ∃ p, PIn w p cs ∧ dep p.t ≤ Rows.uptoBulk x.1 := by
  obtain ⟨xs, n, rfl, hx, hl, hlen, hf⟩ := DataW.trod_struct Tryz.underlying88 h
  rw [nP] at hl
  have hlen : xs.length = 4 := hlen
  match cs, hl with
  | [c0, c1, c2, c3, c4, c5, c6], _ =>
  match xs, hlen with
  | [y0, y1, y2, y3], _ =>
  have f0 : DataW.trod enc Tryz.prog w 0 spare held n 9 (([c0, c1, c2, c3, c4, c5, c6].drop 0).take (Tryz.prog.cellsOf 9)) = some y0 := hf 0 _ rfl
  have f1 : DataW.trod enc Tryz.prog w 0 spare held n 4 (([c0, c1, c2, c3, c4, c5, c6].drop 1).take (Tryz.prog.cellsOf 4)) = some y1 := hf 1 _ rfl
  have f2 : DataW.trod enc Tryz.prog w 0 spare held n 25 (([c0, c1, c2, c3, c4, c5, c6].drop 2).take (Tryz.prog.cellsOf 25)) = some y2 := hf 2 _ rfl
  have f3 : DataW.trod enc Tryz.prog w 0 spare held n 3 (([c0, c1, c2, c3, c4, c5, c6].drop 6).take (Tryz.prog.cellsOf 3)) = some y3 := hf 3 _ rfl
  rw [nS] at f0
  rw [nB] at f1
  rw [nT] at f2
  rw [nInt] at f3
  obtain ⟨s, e0, _, _⟩ := DataW.trod_string Tryz.underlying9 f0
  obtain ⟨mu, e1, _⟩ := DataW.trod_bool Tryz.underlying4 f1
  obtain ⟨t, h2, h2d⟩ := open_TU n _ _ f2
  have hb : Rows.uptoBulk y2.1 ≤ Rows.uptoBulk x.1 := by rw [hx]; exact bulk_agg (i := 2) rfl
  obtain ⟨m, e3, _, _⟩ := DataW.trod_int Tryz.underlying3 f3
  simp at e0 e1 e3 h2
  subst e0 e1 e3
  exact ⟨⟨s, t, m⟩, ⟨mu, _, rfl, h2⟩, Nat.le_trans h2d hb⟩

set_option maxRecDepth 100000 in
theorem open_VU (fuel : Nat) (cs : List Value) (x : DataW H × List MemPlace) (h : DataW.trod enc Tryz.prog w 0 spare held fuel 45 cs = some x) : ∃ v, VIn w v cs ∧ v.ts.length ≤ Rows.uptoBulk x.1 := by
  obtain ⟨xs, n, rfl, hx, hl, hlen, hf⟩ := DataW.trod_struct Tryz.underlying45 h
  rw [nV] at hl
  have hlen : xs.length = 3 := hlen
  match cs, hl with
  | [c0, c1, c2], _ =>
  match xs, hlen with
  | [y0, y1, y2], _ =>
  have f0 : DataW.trod enc Tryz.prog w 0 spare held n 9 (([c0, c1, c2].drop 0).take (Tryz.prog.cellsOf 9)) = some y0 := hf 0 _ rfl
  have f1 : DataW.trod enc Tryz.prog w 0 spare held n 23 (([c0, c1, c2].drop 1).take (Tryz.prog.cellsOf 23)) = some y1 := hf 1 _ rfl
  have f2 : DataW.trod enc Tryz.prog w 0 spare held n 3 (([c0, c1, c2].drop 2).take (Tryz.prog.cellsOf 3)) = some y2 := hf 2 _ rfl
  rw [nS] at f0
  rw [nsT] at f1
  rw [nInt] at f2
  obtain ⟨s, e0, _, _⟩ := DataW.trod_string Tryz.underlying9 f0
  obtain ⟨B, C, es, e1, h1, h2⟩ := open_TsU f1
  have hb : Rows.uptoBulk y1.1 ≤ Rows.uptoBulk x.1 := by rw [hx]; exact bulk_agg (i := 1) rfl
  obtain ⟨m, e2, _, _⟩ := DataW.trod_int Tryz.underlying3 f2
  simp at e0 e1 e2
  subst e0 e1 e2
  exact ⟨⟨s, es, m⟩, ⟨B, C, rfl, h1⟩, Nat.le_trans h2 hb⟩

/-- An item, its lists no longer and its params' types no deeper than its bulk. -/
def goodIU (w : World) (j : Jt) (cs : List Value) (d : DataW H) : Prop := JIn w j cs ∧ j.ps.length ≤ Rows.uptoBulk d ∧ j.vs.length ≤ Rows.uptoBulk d ∧ (∀ k (h' : k < j.vs.length), (j.vs[k]'h').ts.length ≤ Rows.uptoBulk d) ∧ ∀ k (h' : k < j.ps.length), dep (j.ps[k]'h').t ≤ Rows.uptoBulk d

set_option maxRecDepth 100000 in
theorem open_IU (fuel : Nat) (cs : List Value) (x : DataW H × List MemPlace) (h : DataW.trod enc Tryz.prog w 0 spare held fuel 43 cs = some x) : ∃ j, goodIU w j cs x.1 := by
  obtain ⟨xs, n, rfl, hx, hl, hlen, hf⟩ := DataW.trod_struct Tryz.underlying43 h
  rw [nI] at hl
  have hlen : xs.length = 8 := hlen
  match cs, hl with
  | [c0, c1, c2, c3, c4, c5, c6, c7, c8, c9, c10, c11, c12, c13, c14, c15, c16, c17, c18, c19], _ =>
  match xs, hlen with
  | [y0, y1, y2, y3, y4, y5, y6, y7], _ =>
  have f0 : DataW.trod enc Tryz.prog w 0 spare held n 3 (([c0, c1, c2, c3, c4, c5, c6, c7, c8, c9, c10, c11, c12, c13, c14, c15, c16, c17, c18, c19].drop 0).take (Tryz.prog.cellsOf 3)) = some y0 := hf 0 _ rfl
  have f1 : DataW.trod enc Tryz.prog w 0 spare held n 9 (([c0, c1, c2, c3, c4, c5, c6, c7, c8, c9, c10, c11, c12, c13, c14, c15, c16, c17, c18, c19].drop 1).take (Tryz.prog.cellsOf 9)) = some y1 := hf 1 _ rfl
  have f2 : DataW.trod enc Tryz.prog w 0 spare held n 3 (([c0, c1, c2, c3, c4, c5, c6, c7, c8, c9, c10, c11, c12, c13, c14, c15, c16, c17, c18, c19].drop 2).take (Tryz.prog.cellsOf 3)) = some y2 := hf 2 _ rfl
  have f3 : DataW.trod enc Tryz.prog w 0 spare held n 37 (([c0, c1, c2, c3, c4, c5, c6, c7, c8, c9, c10, c11, c12, c13, c14, c15, c16, c17, c18, c19].drop 3).take (Tryz.prog.cellsOf 37)) = some y3 := hf 3 _ rfl
  have f4 : DataW.trod enc Tryz.prog w 0 spare held n 38 (([c0, c1, c2, c3, c4, c5, c6, c7, c8, c9, c10, c11, c12, c13, c14, c15, c16, c17, c18, c19].drop 4).take (Tryz.prog.cellsOf 38)) = some y4 := hf 4 _ rfl
  have f5 : DataW.trod enc Tryz.prog w 0 spare held n 25 (([c0, c1, c2, c3, c4, c5, c6, c7, c8, c9, c10, c11, c12, c13, c14, c15, c16, c17, c18, c19].drop 5).take (Tryz.prog.cellsOf 25)) = some y5 := hf 5 _ rfl
  have f6 : DataW.trod enc Tryz.prog w 0 spare held n 3 (([c0, c1, c2, c3, c4, c5, c6, c7, c8, c9, c10, c11, c12, c13, c14, c15, c16, c17, c18, c19].drop 9).take (Tryz.prog.cellsOf 3)) = some y6 := hf 6 _ rfl
  have f7 : DataW.trod enc Tryz.prog w 0 spare held n 41 (([c0, c1, c2, c3, c4, c5, c6, c7, c8, c9, c10, c11, c12, c13, c14, c15, c16, c17, c18, c19].drop 10).take (Tryz.prog.cellsOf 41)) = some y7 := hf 7 _ rfl
  rw [nInt] at f0 f2 f6
  rw [nS] at f1
  rw [nsP] at f3
  rw [nsV] at f4
  rw [nT] at f5
  rw [nX] at f7
  obtain ⟨k, e0, _, _⟩ := DataW.trod_int Tryz.underlying3 f0
  obtain ⟨s, e1, _, _⟩ := DataW.trod_string Tryz.underlying9 f1
  obtain ⟨m, e2, _, _⟩ := DataW.trod_int Tryz.underlying3 f2
  obtain ⟨P, C, ps, e3, _, p1, p2, p3⟩ := open_rowsU ⟨⟨⟨#[]⟩, .mk 0 ⟨#[]⟩ 0 [], 0⟩⟩ (fun p cs d => PIn w p cs ∧ dep p.t ≤ Rows.uptoBulk d) Tryz.underlying37 nP (by decide) (fun m _ cs x hx => open_PU m cs x hx) f3
  have hb3 : Rows.uptoBulk y3.1 ≤ Rows.uptoBulk x.1 := by rw [hx]; exact bulk_agg (i := 3) rfl
  have hb4 : Rows.uptoBulk y4.1 ≤ Rows.uptoBulk x.1 := by rw [hx]; exact bulk_agg (i := 4) rfl
  obtain ⟨V, D, vs, e4, _, v1, v2, v3⟩ := open_rowsU ⟨⟨⟨#[]⟩, [], 0⟩⟩ (fun v cs d => VIn w v cs ∧ v.ts.length ≤ Rows.uptoBulk d) Tryz.underlying38 nV (by decide) (fun m _ cs x hx => open_VU m cs x hx) f4
  obtain ⟨tt, ht5, _⟩ := open_TU n _ _ f5
  obtain ⟨q0, q1, q2, Z, zl, zc, e5⟩ := open_T4 f5
  rw [e5] at ht5
  obtain ⟨num, e6, _, _⟩ := DataW.trod_int Tryz.underlying3 f6
  obtain ⟨g0, g1, g2, g3, Y, yl, yc, X, xl, xc, g6, g7, g8, U, ul, uc, e7⟩ := open_X10 f7
  simp at e0 e1 e2 e3 e4 e5 e6 e7
  obtain ⟨e5, e5b, e5c, e5d⟩ := e5
  obtain ⟨e7, e7b, e7c, e7d, e7e, e7f, e7g, e7h, e7i, e7j⟩ := e7
  subst e0 e1 e2 e3 e4 e5 e5b e5c e5d e6 e7 e7b e7c e7d e7e e7f e7g e7h e7i e7j
  refine ⟨⟨k, s, m, ps, vs, tt, num⟩, ⟨P, C, V, D, ⟨m, q0, q1, q2, Z, zl, zc, num, g0, g1, g2, g3, Y, yl, yc, X, xl, xc, g6, g7, g8, U, ul, uc⟩, rfl, rfl, rfl, ht5, ⟨p1, fun i hi => ?_⟩, ⟨v1, fun i hi => ?_⟩⟩, Nat.le_trans p2 hb3, Nat.le_trans v2 hb4, fun i hi => ?_, fun i hi => ?_⟩
  · obtain ⟨b, o, cs', _, a1, a2, a3, _⟩ := p3 i hi
    exact ⟨b, o, cs', a1, a2, a3.1⟩
  · obtain ⟨b, o, cs', _, a1, a2, a3, _⟩ := v3 i hi
    exact ⟨b, o, cs', a1, a2, a3.1⟩
  · obtain ⟨b, o, cs', d, _, _, a3, a4⟩ := v3 i hi
    have h5 := a3.2
    have h6 : (vs[i]'hi).ts.length ≤ Rows.uptoBulk x.1 := by omega
    exact h6
  · obtain ⟨b, o, cs', d, _, _, a3, a4⟩ := p3 i hi
    have h5 := a3.2
    have h6 : dep (ps[i]'hi).t ≤ Rows.uptoBulk x.1 := by omega
    exact h6

theorem open_JsU {fuel : Nat} {cs : List Value} {x : DataW H × List MemPlace} (h : DataW.trod enc Tryz.prog w 0 spare held fuel 22 cs = some x) (hB : Rows.uptoBulk x.1 ≤ 1048576) :
    ∃ A C js, cs = [.slice A (js : List Jt).length C] ∧ JsIn w js A ∧ SizJ js ∧ js.length ≤ C ∧ ∀ j ∈ js, ∀ p ∈ j.ps, dep p.t ≤ 9223372036854775807 := by
  obtain ⟨A, C, js, e, hC, h1, h2, h3⟩ := open_rowsU ⟨⟨0, ⟨#[]⟩, 0, [], [], .mk 0 ⟨#[]⟩ 0 [], 0⟩⟩ (goodIU w) Tryz.underlying22 nI (by decide) (fun m _ cs x hx => open_IU m cs x hx) h
  refine ⟨A, C, js, e, ⟨h1, fun i hi => ?_⟩, ⟨by omega, fun i hi => ?_⟩, hC, fun j hj p hp => ?_⟩
  · obtain ⟨b, o, cs', _, a1, a2, a3, _⟩ := h3 i hi
    exact ⟨b, o, cs', a1, a2, a3.1⟩
  · obtain ⟨b, o, cs', d, _, _, ⟨_, a5, a6, a7, _⟩, a8⟩ := h3 i hi
    refine ⟨by omega, by omega, fun k hk => ?_⟩
    have := a7 k hk
    omega
  · obtain ⟨i, hi, rfl⟩ := List.getElem_of_mem hj
    obtain ⟨k, hk, rfl⟩ := List.getElem_of_mem hp
    obtain ⟨b, o, cs', d, _, _, ⟨_, _, _, _, a7⟩, a8⟩ := h3 i hi
    have := a7 k hk
    omega
end
end Go.Proofs.YtjdkoahbahecoaaGreatDoor
