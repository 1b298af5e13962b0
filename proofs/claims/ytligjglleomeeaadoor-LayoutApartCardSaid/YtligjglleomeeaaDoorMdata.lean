/-
  Proved: how the cells of functions in the middle form lie in memory, as plain data; that they stay while nothing old is written.
-/
import Derived.Test.YtligjglleomeeaaDoorKit
import Derived.WalkKit
import Derived.ProofKit
namespace Go.Proofs.YtligjglleomeeaaDoor
open Go.RowKit

/-- A type, as plain data. -/
structure T where
  mk ::
  k : Int
  s : ByteArray
  n : Int
  es : List T

theorem T.lt_mk (k : Int) (s : ByteArray) (n : Int) (es : List T) (i : Nat) (h : i < es.length) : SizeOf.sizeOf (es[i]'h) < SizeOf.sizeOf (T.mk k s n es) := by
  have := List.sizeOf_lt_of_mem (List.getElem_mem h)
  simp
  omega

theorem T.size_pos (t : T) : 0 < SizeOf.sizeOf t := by cases t; simp; omega
/-- The cells of a type, so many levels deep. -/
def TInF (w : World) : Nat → T → List Value → Prop
  | 0, _, _ => False
  | N + 1, .mk k s n es, cs => ∃ (A : Option Addr) (C : Nat), cs = [.int .i64 k, .string s, .int .i64 n, .slice A es.length C] ∧ es.length ≤ 9223372036854775807 ∧
      ∀ i (h : i < es.length), ∃ b o cs', A = some ⟨b, o, none⟩ ∧ RowAt w b (o + i * 4) cs' ∧ TInF w N (es[i]'h) cs'

theorem TInF.to {w : World} : ∀ {N M : Nat} {t : T} {cs : List Value}, SizeOf.sizeOf t ≤ N → SizeOf.sizeOf t ≤ M → TInF w N t cs → TInF w M t cs := by
  intro N
  induction N with
  | zero => intro M t cs h1 _ _; have := T.size_pos t; omega
  | succ N ih =>
    intro M t cs h1 h2 h
    cases M with
    | zero => have := T.size_pos t; omega
    | succ M =>
      obtain ⟨k, s, n, es⟩ := t
      obtain ⟨A, C, e, hl, hx⟩ := h
      refine ⟨A, C, e, hl, fun i hi => ?_⟩
      obtain ⟨b, o, cs', a1, a2, a3⟩ := hx i hi
      have := T.lt_mk k s n es i hi
      exact ⟨b, o, cs', a1, a2, ih (by omega) (by omega) a3⟩

/-- The cells of a type. -/
def TIn (w : World) (t : T) (cs : List Value) : Prop := TInF w (SizeOf.sizeOf t) t cs

/-- The elements of a slice of types. -/
def TsIn (w : World) (es : List T) (A : Option Addr) : Prop :=
  es.length ≤ 9223372036854775807 ∧ ∀ i (h : i < es.length), ∃ b o cs, A = some ⟨b, o, none⟩ ∧ RowAt w b (o + i * 4) cs ∧ TIn w (es[i]'h) cs

theorem TIn.inv {w : World} {k : Int} {s : ByteArray} {n : Int} {es : List T} {cs : List Value} (h : TIn w (.mk k s n es) cs) :
    ∃ A C, cs = [.int .i64 k, .string s, .int .i64 n, .slice A es.length C] ∧ TsIn w es A := by
  have h := TInF.to (M := SizeOf.sizeOf (T.mk k s n es) + 1) (Nat.le_refl _) (Nat.le_succ _) h
  obtain ⟨A, C, h1, h2, h3⟩ := h
  refine ⟨A, C, h1, h2, fun i hi => ?_⟩
  obtain ⟨b, o, cs', a1, a2, a3⟩ := h3 i hi
  exact ⟨b, o, cs', a1, a2, a3.to (Nat.le_of_lt (T.lt_mk k s n es i hi)) (Nat.le_refl _)⟩

theorem TIn.of {w : World} {k : Int} {s : ByteArray} {n : Int} {es : List T} {A : Option Addr} {C : Nat} (h : TsIn w es A) : TIn w (.mk k s n es) [.int .i64 k, .string s, .int .i64 n, .slice A es.length C] := by
  refine TInF.to (N := SizeOf.sizeOf (T.mk k s n es) + 1) (Nat.le_succ _) (Nat.le_refl _) ⟨A, C, rfl, h.1, fun i hi => ?_⟩
  obtain ⟨b, o, cs', a1, a2, a3⟩ := h.2 i hi
  exact ⟨b, o, cs', a1, a2, TInF.to (Nat.le_refl _) (Nat.le_of_lt (T.lt_mk k s n es i hi)) a3⟩

theorem TIn.stays {w w' : World} (k : Below w.heap.size w w') {t : T} {cs : List Value} (h : TIn w t cs) : TIn w' t cs := by
  have key : ∀ (N : Nat) (t : T) (cs : List Value), SizeOf.sizeOf t < N → TIn w t cs → TIn w' t cs := by
    intro N
    induction N with
    | zero => intro t cs hN _; omega
    | succ N ih =>
      intro t cs hN ht
      obtain ⟨k', s, n, es⟩ := t
      obtain ⟨A, C, rfl, h1, h2⟩ := ht.inv
      refine TIn.of ⟨h1, fun i hi => ?_⟩
      obtain ⟨b, o, cs', e, hr, hx⟩ := h2 i hi
      exact ⟨b, o, cs', e, hr.below k, ih _ _ (by have := T.lt_mk k' s n es i hi; omega) hx⟩
  exact key _ t cs (Nat.lt_succ_self _) h

theorem TsIn.below {w w' : World} (k : Below w.heap.size w w') {es : List T} {A : Option Addr} (h : TsIn w es A) : TsIn w' es A :=
  ⟨h.1, fun i hi => by
    obtain ⟨b, o, cs, h1, h2, h3⟩ := h.2 i hi
    exact ⟨b, o, cs, h1, h2.below k, h3.stays k⟩⟩


/-- The elements of a slice, each by itself, by a relation. -/
def Rel {α : Type} (w : World) (size : Nat) (good : World → α → List Value → Prop) (l : List α) (A : Option Addr) : Prop :=
  ∀ i (h : i < l.length), ∃ b o cs, A = some ⟨b, o, none⟩ ∧ RowAt w b (o + i * size) cs ∧ good w (l[i]'h) cs

/-- A slice that came in. -/
def SlIn {α : Type} (w : World) (size : Nat) (good : World → α → List Value → Prop) (l : List α) (v : Value) : Prop :=
  l.length ≤ 281474976710656 ∧ ∃ A C, v = .slice A l.length C ∧ Rel w size good l A

theorem Rel.below {α : Type} {w w' : World} {size : Nat} {good : World → α → List Value → Prop} {l : List α} {A : Option Addr} (h : Rel w size good l A) (k : Below w.heap.size w w') (hg : ∀ x cs, good w x cs → good w' x cs) : Rel w' size good l A := fun i hi => by
  obtain ⟨b, o, cs, e1, e2, e3⟩ := h i hi
  exact ⟨b, o, cs, e1, e2.below k, hg _ _ e3⟩

theorem SlIn.below {α : Type} {w w' : World} {size : Nat} {good : World → α → List Value → Prop} {l : List α} {v : Value} (h : SlIn w size good l v) (k : Below w.heap.size w w') (hg : ∀ x cs, good w x cs → good w' x cs) : SlIn w' size good l v := by
  obtain ⟨h0, A, C, e, h1⟩ := h
  exact ⟨h0, A, C, e, h1.below k hg⟩

/-- An operand. -/
structure Od where
  mk ::
  c : Bool
  n : Int
/-- A step of a place. -/
structure Sp where
  mk ::
  k : Int
  n : Int
  s : Int
/-- A place. -/
structure Pl where
  mk ::
  l : Int
  st : List Sp
/-- An instruction. -/
structure Ins where
  mk ::
  op : Int
  dst : Int
  a : Od
  b : Od
  p : Pl
  q : Pl
  n : Int
  tx : ByteArray
  ty : T
  args : List Od
  dsts : List Int
/-- A block's end. -/
structure Tm where
  mk ::
  k : Int
  a : Od
  to : Int
  el : Int
  args : List Od
/-- A block. -/
structure Bk where
  mk ::
  li : List Ins
  tm : Tm
/-- A function. -/
structure Fm where
  mk ::
  nm : ByteArray
  lo : List Int
  pa : Int
  an : Int
  qu : Bool
  bs : List Bk

def GI (_ : World) (x : Int) (cs : List Value) : Prop := cs = [.int .i64 x]
def GO (_ : World) (x : Od) (cs : List Value) : Prop := cs = [.bool x.c, .int .i64 x.n]
def GS (_ : World) (x : Sp) (cs : List Value) : Prop := cs = [.int .i64 x.k, .int .i64 x.n, .int .i64 x.s]

/-- The steps, operands, numbers, types of an instruction or an end, as slices. -/
def StsIn (w : World) (l : List Sp) (v : Value) : Prop := SlIn w 3 GS l v
def OdsIn (w : World) (l : List Od) (v : Value) : Prop := SlIn w 2 GO l v
def NosIn (w : World) (l : List Int) (v : Value) : Prop := SlIn w 1 GI l v
def TysIn (w : World) (l : List T) (v : Value) : Prop := ∃ A C, v = .slice A l.length C ∧ TsIn w l A

theorem StsIn.below {w w' : World} {l : List Sp} {v : Value} (h : StsIn w l v) (k : Below w.heap.size w w') : StsIn w' l v := SlIn.below h k fun _ _ => id
theorem OdsIn.below {w w' : World} {l : List Od} {v : Value} (h : OdsIn w l v) (k : Below w.heap.size w w') : OdsIn w' l v := SlIn.below h k fun _ _ => id
theorem NosIn.below {w w' : World} {l : List Int} {v : Value} (h : NosIn w l v) (k : Below w.heap.size w w') : NosIn w' l v := SlIn.below h k fun _ _ => id
theorem TysIn.below {w w' : World} {l : List T} {v : Value} (h : TysIn w l v) (k : Below w.heap.size w w') : TysIn w' l v := by
  obtain ⟨A, C, e, h⟩ := h
  exact ⟨A, C, e, h.below k⟩

/-- The cells of an instruction, given its slices. -/
def insC (x : Ins) (pv qv tv av dv : Value) : List Value :=
  [.int .i64 x.op, .int .i64 x.dst, .bool x.a.c, .int .i64 x.a.n, .bool x.b.c, .int .i64 x.b.n, .int .i64 x.p.l, pv, .int .i64 x.q.l, qv, .int .i64 x.n, .string x.tx, .int .i64 x.ty.k, .string x.ty.s, .int .i64 x.ty.n, tv, av, dv]
def InsIn (w : World) (x : Ins) (cs : List Value) : Prop := ∃ pv qv tv av dv, cs = insC x pv qv tv av dv ∧ StsIn w x.p.st pv ∧ StsIn w x.q.st qv ∧ TysIn w x.ty.es tv ∧ OdsIn w x.args av ∧ NosIn w x.dsts dv
theorem InsIn.below {w w' : World} {x : Ins} {cs : List Value} (h : InsIn w x cs) (k : Below w.heap.size w w') : InsIn w' x cs := by
  obtain ⟨pv, qv, tv, av, dv, e, h1, h2, h3, h4, h5⟩ := h
  exact ⟨pv, qv, tv, av, dv, e, h1.below k, h2.below k, h3.below k, h4.below k, h5.below k⟩

/-- The cells of a block's end, given its slice. -/
def tmC (x : Tm) (av : Value) : List Value := [.int .i64 x.k, .bool x.a.c, .int .i64 x.a.n, .int .i64 x.to, .int .i64 x.el, av]
def TmIn (w : World) (x : Tm) (cs : List Value) : Prop := ∃ av, cs = tmC x av ∧ OdsIn w x.args av
theorem TmIn.below {w w' : World} {x : Tm} {cs : List Value} (h : TmIn w x cs) (k : Below w.heap.size w w') : TmIn w' x cs := by
  obtain ⟨av, e, h1⟩ := h
  exact ⟨av, e, h1.below k⟩

/-- The instructions of a block, as a slice. -/
def LiIn (w : World) (l : List Ins) (v : Value) : Prop := SlIn w 18 InsIn l v
theorem LiIn.below {w w' : World} {l : List Ins} {v : Value} (h : LiIn w l v) (k : Below w.heap.size w w') : LiIn w' l v := SlIn.below h k fun _ _ h => InsIn.below h k

/-- The cells of a block. -/
def BkIn (w : World) (x : Bk) (cs : List Value) : Prop := ∃ lv av, cs = lv :: tmC x.tm av ∧ LiIn w x.li lv ∧ OdsIn w x.tm.args av
theorem BkIn.below {w w' : World} {x : Bk} {cs : List Value} (h : BkIn w x cs) (k : Below w.heap.size w w') : BkIn w' x cs := by
  obtain ⟨lv, av, e, h1, h2⟩ := h
  exact ⟨lv, av, e, h1.below k, h2.below k⟩

def BksIn (w : World) (l : List Bk) (v : Value) : Prop := SlIn w 7 BkIn l v
theorem BksIn.below {w w' : World} {l : List Bk} {v : Value} (h : BksIn w l v) (k : Below w.heap.size w w') : BksIn w' l v := SlIn.below h k fun _ _ h => BkIn.below h k

/-- The cells of a function, given its slices. -/
def fmC (x : Fm) (lv bv : Value) : List Value := [.string x.nm, lv, .int .i64 x.pa, .int .i64 x.an, .bool x.qu, bv]
def FmIn (w : World) (x : Fm) (cs : List Value) : Prop := ∃ lv bv, cs = fmC x lv bv ∧ NosIn w x.lo lv ∧ BksIn w x.bs bv
theorem FmIn.below {w w' : World} {x : Fm} {cs : List Value} (h : FmIn w x cs) (k : Below w.heap.size w w') : FmIn w' x cs := by
  obtain ⟨lv, bv, e, h1, h2⟩ := h
  exact ⟨lv, bv, e, h1.below k, h2.below k⟩

def FmsIn (w : World) (l : List Fm) (v : Value) : Prop := SlIn w 6 FmIn l v
theorem FmsIn.below {w w' : World} {l : List Fm} {v : Value} (h : FmsIn w l v) (k : Below w.heap.size w w') : FmsIn w' l v := SlIn.below h k fun _ _ h => FmIn.below h k

end Go.Proofs.YtligjglleomeeaaDoor
