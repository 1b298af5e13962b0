/-
  Proved: how the cells of a program's items lie in memory, with all that names asks of; that they stay while nothing old is written.
-/
import Derived.Test.YtjdkoahbahecoaaGreatDoorOnce
namespace Go.Proofs.YtjdkoahbahecoaaGreatDoor
open Go.RowKit

/-- A param, or a field: its name, its type, where it stands. -/
structure Pj where
  mk ::
  s : ByteArray
  t : T
  a : Int

/-- A variant: its name, its types, where it stands. -/
structure Vj where
  mk ::
  s : ByteArray
  ts : List T
  a : Int

/-- An item: its kind, name, place, params, variants, type and number. -/
structure Jt where
  mk ::
  k : Int
  s : ByteArray
  a : Int
  ps : List Pj
  vs : List Vj
  t : T
  n : Int

/-- What types asks of it. -/
def Jt.it (j : Jt) : It := ⟨j.k, j.s, j.ps.map fun p => (p.s, p.t), j.vs.map fun v => (v.s, v.ts)⟩

/-- All of them. -/
def its (js : List Jt) : List It := js.map Jt.it

theorem its_len (js : List Jt) : (its js).length = js.length := by simp [its]

/-- The cells of a param. -/
def PIn (w : World) (p : Pj) (cs : List Value) : Prop := ∃ mu ct, cs = [.string p.s, .bool mu] ++ ct ++ [.int .i64 p.a] ∧ TIn w p.t ct

/-- The cells of a variant. -/
def VIn (w : World) (v : Vj) (cs : List Value) : Prop := ∃ B C, cs = [.string v.s, .slice B v.ts.length C, .int .i64 v.a] ∧ TsIn w v.ts B

def PjIn (w : World) (ps : List Pj) (A : Option Addr) : Prop :=
  ps.length ≤ 9223372036854775807 ∧ ∀ i (h : i < ps.length), ∃ b o cs, A = some ⟨b, o, none⟩ ∧ RowAt w b (o + i * 7) cs ∧ PIn w (ps[i]'h) cs

def VjIn (w : World) (vs : List Vj) (A : Option Addr) : Prop :=
  vs.length ≤ 9223372036854775807 ∧ ∀ i (h : i < vs.length), ∃ b o cs, A = some ⟨b, o, none⟩ ∧ RowAt w b (o + i * 3) cs ∧ VIn w (vs[i]'h) cs

/-- The cells of an item. -/
def JIn (w : World) (j : Jt) (cs : List Value) : Prop :=
  ∃ P C V D r, cs = icells j.k j.s P j.ps.length C V j.vs.length D r ∧ r.at' = j.a ∧ r.num = j.n ∧ TIn w j.t [.int .i64 r.p, .string r.q, .int .i64 r.r, .slice r.Z r.zl r.zc] ∧ PjIn w j.ps P ∧ VjIn w j.vs V

def JsIn (w : World) (js : List Jt) (A : Option Addr) : Prop :=
  js.length ≤ 9223372036854775807 ∧ ∀ i (h : i < js.length), ∃ b o cs, A = some ⟨b, o, none⟩ ∧ RowAt w b (o + i * 20) cs ∧ JIn w (js[i]'h) cs

theorem PIn.stays {w w' : World} (k : Below w.heap.size w w') {p : Pj} {cs : List Value} (h : PIn w p cs) : PIn w' p cs := by
  obtain ⟨mu, ct, h1, h2⟩ := h
  exact ⟨mu, ct, h1, h2.stays k⟩

theorem VIn.stays {w w' : World} (k : Below w.heap.size w w') {p : Vj} {cs : List Value} (h : VIn w p cs) : VIn w' p cs := by
  obtain ⟨B, C, h1, h2⟩ := h
  exact ⟨B, C, h1, h2.below k⟩

theorem PjIn.below {w w' : World} (k : Below w.heap.size w w') {ps : List Pj} {A : Option Addr} (h : PjIn w ps A) : PjIn w' ps A :=
  ⟨h.1, fun i hi => by
    obtain ⟨b, o, cs, h1, h2, h3⟩ := h.2 i hi
    exact ⟨b, o, cs, h1, h2.below k, h3.stays k⟩⟩

theorem VjIn.below {w w' : World} (k : Below w.heap.size w w') {vs : List Vj} {A : Option Addr} (h : VjIn w vs A) : VjIn w' vs A :=
  ⟨h.1, fun i hi => by
    obtain ⟨b, o, cs, h1, h2, h3⟩ := h.2 i hi
    exact ⟨b, o, cs, h1, h2.below k, h3.stays k⟩⟩

theorem JIn.stays {w w' : World} (k : Below w.heap.size w w') {j : Jt} {cs : List Value} (h : JIn w j cs) : JIn w' j cs := by
  obtain ⟨P, C, V, D, r, h1, h2, h3, h4, h5, h6⟩ := h
  exact ⟨P, C, V, D, r, h1, h2, h3, h4.stays k, h5.below k, h6.below k⟩

theorem JsIn.below {w w' : World} (k : Below w.heap.size w w') {js : List Jt} {A : Option Addr} (h : JsIn w js A) : JsIn w' js A :=
  ⟨h.1, fun i hi => by
    obtain ⟨b, o, cs, h1, h2, h3⟩ := h.2 i hi
    exact ⟨b, o, cs, h1, h2.below k, h3.stays k⟩⟩

theorem JIn.twenty {w : World} {j : Jt} {cs : List Value} (h : JIn w j cs) : Cells20 cs := by
  obtain ⟨P, C, V, D, r, rfl, _⟩ := h
  exact icells_20 _ _ _ _ _ _ _ _ _

theorem PjIn.ps {w : World} {ps : List Pj} {A : Option Addr} (h : PjIn w ps A) : PsIn w (ps.map fun p => (p.s, p.t)) A :=
  ⟨by rw [List.length_map]; exact h.1, fun i hi => by
    obtain ⟨b, o, cs, h1, h2, mu, ct, rfl, h4⟩ := h.2 i (by simpa using hi)
    refine ⟨b, o, mu, (ps[i]'(by simpa using hi)).a, ct, h1, ?_, ?_⟩
    · simpa using h2
    · simpa using h4⟩

theorem VjIn.vs {w : World} {vs : List Vj} {A : Option Addr} (h : VjIn w vs A) : VsIn w (vs.map fun v => (v.s, v.ts)) A :=
  ⟨by rw [List.length_map]; exact h.1, fun i hi => by
    obtain ⟨b, o, cs, h1, h2, B, C, rfl, h4⟩ := h.2 i (by simpa using hi)
    refine ⟨b, o, B, C, (vs[i]'(by simpa using hi)).a, h1, ?_, ?_⟩
    · simpa using h2
    · simpa using h4⟩

theorem JsIn.is {w : World} {js : List Jt} {A : Option Addr} (h : JsIn w js A) : IsIn w (its js) A :=
  ⟨by rw [its_len]; exact h.1, fun i hi => by
    have hi' : i < js.length := by rw [its_len] at hi; exact hi
    obtain ⟨b, o, cs, h1, h2, P, C, V, D, r, rfl, _, _, _, h5, h6⟩ := h.2 i hi'
    have e : (its js)[i]'hi = (js[i]'hi').it := by simp [its]
    refine ⟨b, o, P, C, V, D, r, h1, ?_, ?_, ?_⟩
    · rw [e]
      simpa [Jt.it] using h2
    · rw [e]
      exact h5.ps
    · rw [e]
      exact h6.vs⟩

/-- Something is wrong at a place, if something is. -/
def nz (a e : Int) : Option (Int × Int) := if e = 0 then none else some (a, e)

theorem nz_none {a e : Int} : nz a e = none ↔ e = 0 := by
  unfold nz
  split <;> simp_all

end Go.Proofs.YtjdkoahbahecoaaGreatDoor
