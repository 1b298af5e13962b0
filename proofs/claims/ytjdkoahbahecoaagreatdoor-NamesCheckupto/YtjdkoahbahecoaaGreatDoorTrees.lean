/-
  Proved: how the cells of a type and of a program's items lie in memory, as plain data; that they stay while nothing old is written.
-/
import Derived.Test.YtjdkoahbahecoaaGreatDoorRows
import Derived.WalkKit
import Derived.ProofKit
namespace Go.Proofs.YtjdkoahbahecoaaGreatDoor
open Go.RowKit

/-- A type, as plain data. -/
structure T where
  mk ::
  k : Int
  s : ByteArray
  n : Int
  es : List T

theorem T.lt_mk (k : Int) (s : ByteArray) (n : Int) (es : List T) (i : Nat) (h : i < es.length) : SizeOf.sizeOf (es[i]'h) < SizeOf.sizeOf (T.mk k s n es) := by
  have := List.sizeOf_lt_of_mem (List.getElem_mem h)
  simp
  omega

/-- What holds of two types, if it holds of their elements, holds of all. -/
theorem T.both {p : T → T → Prop} (h : ∀ (k : Int) (s : ByteArray) (n : Int) (es : List T) (k' : Int) (s' : ByteArray) (n' : Int) (es' : List T), (∀ (i : Nat) (h1 : i < es.length) (h2 : i < es'.length), p (es[i]'h1) (es'[i]'h2)) → p (.mk k s n es) (.mk k' s' n' es')) (a b : T) : p a b := by
  have key : ∀ (N : Nat) (a b : T), SizeOf.sizeOf a < N → p a b := by
    intro N
    induction N with
    | zero => intro a b hN; omega
    | succ N ih =>
      intro a b hN
      obtain ⟨k, s, n, es⟩ := a
      obtain ⟨k', s', n', es'⟩ := b
      exact h _ _ _ _ _ _ _ _ fun i h1 h2 => ih _ _ (by have := T.lt_mk k s n es i h1; omega)
  exact key _ a b (Nat.lt_succ_self _)

/-- Are two types wholly alike? -/
def T.same : T → T → Bool
  | .mk k s n [], .mk k' s' n' [] => decide (k = k') && decide (s = s') && decide (n = n')
  | .mk k s n (e :: es), .mk k' s' n' (e' :: es') => T.same e e' && T.same (.mk k s n es) (.mk k' s' n' es')
  | .mk _ _ _ [], .mk _ _ _ (_ :: _) => false
  | .mk _ _ _ (_ :: _), .mk _ _ _ [] => false

/-- .. two lists of types? -/
def T.sames (a b : List T) : Bool := T.same (.mk 0 ⟨#[]⟩ 0 a) (.mk 0 ⟨#[]⟩ 0 b)

theorem T.sames_nil : T.sames [] [] = true := by simp [T.sames, T.same]
theorem T.sames_cons (e e' : T) (a b : List T) : T.sames (e :: a) (e' :: b) = (T.same e e' && T.sames a b) := by simp [T.sames, T.same]

theorem T.same_mk (k : Int) (s : ByteArray) (n : Int) (k' : Int) (s' : ByteArray) (n' : Int) : ∀ (a b : List T), T.same (.mk k s n a) (.mk k' s' n' b) = (decide (k = k') && decide (s = s') && decide (n = n') && T.sames a b)
  | [], [] => by rw [T.sames_nil]; simp [T.same]
  | e :: a, e' :: b => by
    rw [T.same, T.same_mk k s n k' s' n' a b, T.sames_cons]
    cases T.same e e' <;> cases T.sames a b <;> simp
  | [], _ :: _ => by simp [T.same, T.sames]
  | _ :: _, [] => by simp [T.same, T.sames]

theorem T.same_self : ∀ t : T, T.same t t = true
  | .mk k s n [] => by simp [T.same]
  | .mk k s n (e :: es) => by rw [T.same, T.same_self e, T.same_self (.mk k s n es)]; rfl
theorem T.sames_self (l : List T) : T.sames l l = true := T.same_self _

theorem T.sames_len : ∀ {a b : List T}, a.length ≠ b.length → T.sames a b = false
  | [], [], h => absurd rfl h
  | [], _ :: _, _ => by simp [T.sames, T.same]
  | _ :: _, [], _ => by simp [T.sames, T.same]
  | x :: a, y :: b, h => by rw [T.sames_cons, T.sames_len (a := a) (b := b) (by simpa using h), Bool.and_false]

theorem T.sames_drop (a b : List T) (i : Nat) (h1 : i < a.length) (h2 : i < b.length) : T.sames (a.drop i) (b.drop i) = (T.same a[i] b[i] && T.sames (a.drop (i + 1)) (b.drop (i + 1))) := by
  rw [List.drop_eq_getElem_cons h1, List.drop_eq_getElem_cons h2, T.sames_cons]

/-- Cells lie in a row. -/
def RowAt (w : World) (b o : Nat) (cs : List Value) : Prop := b < w.heap.size ∧ ∀ j v, cs[j]? = some v → w.cell? ⟨b, o + j, none⟩ = some v

theorem RowAt.below {w w' : World} {b o : Nat} {cs : List Value} (h : RowAt w b o cs) (k : Below w.heap.size w w') : RowAt w' b o cs :=
  ⟨Nat.lt_of_lt_of_le h.1 k.size, fun j v hj => (k.cell (p := ⟨b, o + j, none⟩) h.1).trans (h.2 j v hj)⟩

theorem T.size_pos (t : T) : 0 < SizeOf.sizeOf t := by cases t; simp; omega
/-- The cells of a type, so many levels deep. -/
def TInF (w : World) : Nat → T → List Value → Prop
  | 0, _, _ => False
  | N + 1, .mk k s n es, cs => ∃ (A : Option Addr) (C : Nat), cs = [.int .i64 k, .string s, .int .i64 n, .slice A es.length C] ∧ es.length ≤ 9223372036854775807 ∧
      ∀ i (h : i < es.length), ∃ b o cs', A = some ⟨b, o, none⟩ ∧ RowAt w b (o + i * 4) cs' ∧ TInF w N (es[i]'h) cs'

theorem TInF.to {w : World} : ∀ {N M : Nat} {t : T} {cs : List Value}, SizeOf.sizeOf t ≤ N → SizeOf.sizeOf t ≤ M → TInF w N t cs → TInF w M t cs := by
  intro N
  induction N with
  | zero => intro M t cs h1 _ _; have := T.size_pos t; omega
  | succ N ih =>
    intro M t cs h1 h2 h
    cases M with
    | zero => have := T.size_pos t; omega
    | succ M =>
      obtain ⟨k, s, n, es⟩ := t
      obtain ⟨A, C, e, hl, hx⟩ := h
      refine ⟨A, C, e, hl, fun i hi => ?_⟩
      obtain ⟨b, o, cs', a1, a2, a3⟩ := hx i hi
      have := T.lt_mk k s n es i hi
      exact ⟨b, o, cs', a1, a2, ih (by omega) (by omega) a3⟩

/-- The cells of a type. -/
def TIn (w : World) (t : T) (cs : List Value) : Prop := TInF w (SizeOf.sizeOf t) t cs

/-- The elements of a slice of types. -/
def TsIn (w : World) (es : List T) (A : Option Addr) : Prop :=
  es.length ≤ 9223372036854775807 ∧ ∀ i (h : i < es.length), ∃ b o cs, A = some ⟨b, o, none⟩ ∧ RowAt w b (o + i * 4) cs ∧ TIn w (es[i]'h) cs

theorem TIn.inv {w : World} {k : Int} {s : ByteArray} {n : Int} {es : List T} {cs : List Value} (h : TIn w (.mk k s n es) cs) :
    ∃ A C, cs = [.int .i64 k, .string s, .int .i64 n, .slice A es.length C] ∧ TsIn w es A := by
  have h := TInF.to (M := SizeOf.sizeOf (T.mk k s n es) + 1) (Nat.le_refl _) (Nat.le_succ _) h
  obtain ⟨A, C, h1, h2, h3⟩ := h
  refine ⟨A, C, h1, h2, fun i hi => ?_⟩
  obtain ⟨b, o, cs', a1, a2, a3⟩ := h3 i hi
  exact ⟨b, o, cs', a1, a2, a3.to (Nat.le_of_lt (T.lt_mk k s n es i hi)) (Nat.le_refl _)⟩

theorem TIn.of {w : World} {k : Int} {s : ByteArray} {n : Int} {es : List T} {A : Option Addr} {C : Nat} (h : TsIn w es A) : TIn w (.mk k s n es) [.int .i64 k, .string s, .int .i64 n, .slice A es.length C] := by
  refine TInF.to (N := SizeOf.sizeOf (T.mk k s n es) + 1) (Nat.le_succ _) (Nat.le_refl _) ⟨A, C, rfl, h.1, fun i hi => ?_⟩
  obtain ⟨b, o, cs', a1, a2, a3⟩ := h.2 i hi
  exact ⟨b, o, cs', a1, a2, TInF.to (Nat.le_refl _) (Nat.le_of_lt (T.lt_mk k s n es i hi)) a3⟩

theorem TIn.stays {w w' : World} (k : Below w.heap.size w w') {t : T} {cs : List Value} (h : TIn w t cs) : TIn w' t cs := by
  have key : ∀ (N : Nat) (t : T) (cs : List Value), SizeOf.sizeOf t < N → TIn w t cs → TIn w' t cs := by
    intro N
    induction N with
    | zero => intro t cs hN _; omega
    | succ N ih =>
      intro t cs hN ht
      obtain ⟨k', s, n, es⟩ := t
      obtain ⟨A, C, rfl, h1, h2⟩ := ht.inv
      refine TIn.of ⟨h1, fun i hi => ?_⟩
      obtain ⟨b, o, cs', e, hr, hx⟩ := h2 i hi
      exact ⟨b, o, cs', e, hr.below k, ih _ _ (by have := T.lt_mk k' s n es i hi; omega) hx⟩
  exact key _ t cs (Nat.lt_succ_self _) h

theorem TsIn.below {w w' : World} (k : Below w.heap.size w w') {es : List T} {A : Option Addr} (h : TsIn w es A) : TsIn w' es A :=
  ⟨h.1, fun i hi => by
    obtain ⟨b, o, cs, h1, h2, h3⟩ := h.2 i hi
    exact ⟨b, o, cs, h1, h2.below k, h3.stays k⟩⟩

theorem str_ne {a b : ByteArray} (h : ¬ a = b) : (¬ a.toList = b.toList) ∧ (a.toList == b.toList) = false := by
  have e : ¬ a.toList = b.toList := fun e => h (WideShapes.bytes_inj (by rw [← ByteArray.toList_eq, ← ByteArray.toList_eq]; exact e))
  exact ⟨e, by simpa using e⟩

theorem below_next {a b c : World} (h : Below a.heap.size a b) (k : Below b.heap.size b c) : Below a.heap.size a c := h.trans (k.mono h.size)

theorem bcell {W w1 : World} (hb : Below W.heap.size W w1) : (∀ b o, b < W.heap.size → w1.cell? ⟨b, o, none⟩ = W.cell? ⟨b, o, none⟩) ∧ (∀ b o, b < W.heap.size → w1.frozen? ⟨b, o, none⟩ = W.frozen? ⟨b, o, none⟩) :=
  ⟨fun b o h => hb.cell (p := ⟨b, o, none⟩) h, fun b o h => hb.frozen (p := ⟨b, o, none⟩) h⟩

theorem below_alloc (w : World) (o : Obj) : Below w.heap.size w (w.alloc o) := (Below.refl _ _).alloc (Nat.le_refl _) o

theorem alloc_at (w : World) (o : Obj) : (w.alloc o).heap[w.heap.size]? = some o := by
  show (w.heap.push o)[w.heap.size]? = _
  simp


/-- An item, as plain data: kind, name, fields, variants. -/
structure It where
  mk ::
  k : Int
  s : ByteArray
  ps : List (ByteArray × T)
  vs : List (ByteArray × List T)

/-- What else an item holds. -/
structure Rst where
  mk ::
  at' : Int
  p : Int
  q : ByteArray
  r : Int
  Z : Option Addr
  zl : Nat
  zc : Nat
  num : Int
  e0 : Int
  e1 : Int
  e2 : Int
  e3 : ByteArray
  Y : Option Addr
  yl : Nat
  yc : Nat
  X : Option Addr
  xl : Nat
  xc : Nat
  e6 : Int
  e7 : ByteArray
  e8 : Int
  V : Option Addr
  vl : Nat
  vc : Nat

/-- The cells of an item. -/
def icells (k : Int) (s : ByteArray) (P : Option Addr) (pl pc : Nat) (V : Option Addr) (vl vc : Nat) (r : Rst) : List Value :=
  [.int .i64 k, .string s, .int .i64 r.at', .slice P pl pc, .slice V vl vc, .int .i64 r.p, .string r.q, .int .i64 r.r, .slice r.Z r.zl r.zc, .int .i64 r.num,
   .int .i64 r.e0, .int .i64 r.e1, .int .i64 r.e2, .string r.e3, .slice r.Y r.yl r.yc, .slice r.X r.xl r.xc, .int .i64 r.e6, .string r.e7, .int .i64 r.e8, .slice r.V r.vl r.vc]

/-- The fields of a struct. -/
def PsIn (w : World) (ps : List (ByteArray × T)) (A : Option Addr) : Prop :=
  ps.length ≤ 9223372036854775807 ∧ ∀ i (h : i < ps.length), ∃ b o mu at' cs, A = some ⟨b, o, none⟩ ∧ RowAt w b (o + i * 7) ([.string (ps[i]'h).1, .bool mu] ++ cs ++ [.int .i64 at']) ∧ TIn w (ps[i]'h).2 cs

/-- The variants of an enum. -/
def VsIn (w : World) (vs : List (ByteArray × List T)) (A : Option Addr) : Prop :=
  vs.length ≤ 9223372036854775807 ∧ ∀ i (h : i < vs.length), ∃ b o B C at', A = some ⟨b, o, none⟩ ∧ RowAt w b (o + i * 3) [.string (vs[i]'h).1, .slice B (vs[i]'h).2.length C, .int .i64 at'] ∧ TsIn w (vs[i]'h).2 B

/-- The items of a program. -/
def IsIn (w : World) (is : List It) (A : Option Addr) : Prop :=
  is.length ≤ 9223372036854775807 ∧ ∀ i (h : i < is.length), ∃ b o P C V D r, A = some ⟨b, o, none⟩ ∧ RowAt w b (o + i * 20) (icells (is[i]'h).k (is[i]'h).s P (is[i]'h).ps.length C V (is[i]'h).vs.length D r) ∧ PsIn w (is[i]'h).ps P ∧ VsIn w (is[i]'h).vs V

theorem PsIn.below {w w' : World} (k : Below w.heap.size w w') {ps : List (ByteArray × T)} {A : Option Addr} (h : PsIn w ps A) : PsIn w' ps A :=
  ⟨h.1, fun i hi => by
    obtain ⟨b, o, m, a, cs, h1, h2, h3⟩ := h.2 i hi
    exact ⟨b, o, m, a, cs, h1, h2.below k, h3.stays k⟩⟩

theorem VsIn.below {w w' : World} (k : Below w.heap.size w w') {vs : List (ByteArray × List T)} {A : Option Addr} (h : VsIn w vs A) : VsIn w' vs A :=
  ⟨h.1, fun i hi => by
    obtain ⟨b, o, B, C, a, h1, h2, h3⟩ := h.2 i hi
    exact ⟨b, o, B, C, a, h1, h2.below k, h3.below k⟩⟩

theorem IsIn.below {w w' : World} (k : Below w.heap.size w w') {is : List It} {A : Option Addr} (h : IsIn w is A) : IsIn w' is A :=
  ⟨h.1, fun i hi => by
    obtain ⟨b, o, P, C, V, D, r, h1, h2, h3, h4⟩ := h.2 i hi
    exact ⟨b, o, P, C, V, D, r, h1, h2.below k, h3.below k, h4.below k⟩⟩

/-- The variable types.tooMuch. -/
structure Tab (w : World) : Prop where
  z : 1 < w.heap.size
  c0 : w.cell? ⟨1, 0, none⟩ = some (.int .i64 513)
  c1 : w.cell? ⟨1, 1, none⟩ = some (.int .i64 0)
  c2 : w.cell? ⟨1, 2, none⟩ = some (.int .i64 0)

theorem Tab.below {w w' : World} (t : Tab w) (h : Below w.heap.size w w') : Tab w' := by
  have k : ∀ o, w'.cell? ⟨1, o, none⟩ = w.cell? ⟨1, o, none⟩ := fun o => h.cell (p := ⟨1, o, none⟩) t.z
  exact ⟨by have := h.size; have := t.z; omega, (k _).trans t.c0, (k _).trans t.c1, (k _).trans t.c2⟩

/-- How much a type has: parts, words, and parts that are moved. -/
structure Am where
  mk ::
  p : Nat
  w : Nat
  m : Nat

/-- .. as the program has it. -/
def amV : Option Am → Value
  | none => .agg #[.int .i64 513, .int .i64 0, .int .i64 0]
  | some a => .agg #[.int .i64 (a.p : Int), .int .i64 (a.w : Int), .int .i64 (a.m : Int)]

/-- Where the first struct or enum of a name stands. -/
def fst (s : ByteArray) : List It → Nat → Option Nat
  | [], _ => none
  | it :: is, k => if it.s = s ∧ (it.k = 2 ∨ it.k = 3) then some k else fst s is (k + 1)

/-- What several types have together, in the room that is left. -/
def tog (f : T → Nat → Option Am) (room : Nat) : Am → List T → Option Am
  | a, [] => some a
  | a, t :: ts => match f t (room - a.p) with
    | none => none
    | some o => tog f room ⟨a.p + o.p, a.w + o.w, a.m + o.m⟩ ts

/-- What variants have: all parts, the most words. -/
def vars (f : T → Nat → Option Am) (room : Nat) : Am → List (List T) → Option Am
  | a, [] => some a
  | a, ts :: l => match tog f room ⟨a.p, 0, a.m⟩ ts with
    | none => none
    | some o => vars f room ⟨o.p, max a.w o.w, o.m⟩ l

/-- How much a type has, if it is no more parts than room. -/
def am (is : List It) : Nat → T → Nat → Option Am
  | 0, _, _ => none
  | N + 1, .mk k s n es, room =>
    if room < 1 then none
    else if k = 1 then some ⟨1, 0, 0⟩
    else if 2 ≤ k ∧ k ≤ 8 then some ⟨1, 1, 0⟩
    else if k = 9 then
      match fst s is 0 with
      | none => none
      | some j => match is[j]? with
        | none => none
        | some it => if it.k = 2 then tog (am is N) room ⟨1, 0, 0⟩ (it.ps.map (·.2))
          else (vars (am is N) room ⟨1, 0, 0⟩ (it.vs.map (·.2))).map fun a => ⟨a.p, 1 + a.w, a.m⟩
    else match es with
      | [] => none
      | e :: _ =>
        if k = 10 then (if n < 1 then some ⟨1, 0, 0⟩ else (am is N e ((room - 1) / n.toNat)).map fun o => ⟨1 + o.p * n.toNat, o.w * n.toNat, o.m * n.toNat⟩)
        else if k = 12 then some ⟨1, 1, 0⟩
        else if k = 11 ∨ k = 13 then some ⟨1, 1, 1⟩
        else none

end Go.Proofs.YtjdkoahbahecoaaGreatDoor
