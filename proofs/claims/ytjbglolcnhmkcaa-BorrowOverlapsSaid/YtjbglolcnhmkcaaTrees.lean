/-
  Proved: how the cells of a type and of a tree lie in memory, as plain data; that they stay while nothing old is written.
-/
import Derived.Test.YtjbglolcnhmkcaaRows
import Derived.WalkKit
import Derived.ProofKit
namespace Go.Proofs.Ytjbglolcnhmkcaa
open Go.RowKit

/-- A type, as plain data. -/
structure T where
  mk ::
  k : Int
  s : ByteArray
  n : Int
  es : List T

/-- A tree, as plain data: kind, number, text, kids, types. -/
structure X where
  mk ::
  k : Int
  n : Int
  s : ByteArray
  kids : List X
  tys : List T

theorem T.lt_mk (k : Int) (s : ByteArray) (n : Int) (es : List T) (i : Nat) (h : i < es.length) : SizeOf.sizeOf (es[i]'h) < SizeOf.sizeOf (T.mk k s n es) := by
  have := List.sizeOf_lt_of_mem (List.getElem_mem h)
  simp
  omega

theorem X.lt_mk (k n : Int) (s : ByteArray) (ks : List X) (ts : List T) (i : Nat) (h : i < ks.length) : SizeOf.sizeOf (ks[i]'h) < SizeOf.sizeOf (X.mk k n s ks ts) := by
  have := List.sizeOf_lt_of_mem (List.getElem_mem h)
  simp
  omega

/-- What holds of two types, if it holds of their elements, holds of all. -/
theorem T.both {p : T → T → Prop} (h : ∀ (k : Int) (s : ByteArray) (n : Int) (es : List T) (k' : Int) (s' : ByteArray) (n' : Int) (es' : List T), (∀ (i : Nat) (h1 : i < es.length) (h2 : i < es'.length), p (es[i]'h1) (es'[i]'h2)) → p (.mk k s n es) (.mk k' s' n' es')) (a b : T) : p a b := by
  have key : ∀ (N : Nat) (a b : T), SizeOf.sizeOf a < N → p a b := by
    intro N
    induction N with
    | zero => intro a b hN; omega
    | succ N ih =>
      intro a b hN
      obtain ⟨k, s, n, es⟩ := a
      obtain ⟨k', s', n', es'⟩ := b
      exact h _ _ _ _ _ _ _ _ fun i h1 h2 => ih _ _ (by have := T.lt_mk k s n es i h1; omega)
  exact key _ a b (Nat.lt_succ_self _)

theorem X.both {p : X → X → Prop} (h : ∀ (k n : Int) (s : ByteArray) (ks : List X) (ts : List T) (k' n' : Int) (s' : ByteArray) (ks' : List X) (ts' : List T), (∀ (i : Nat) (h1 : i < ks.length) (h2 : i < ks'.length), p (ks[i]'h1) (ks'[i]'h2)) → p (.mk k n s ks ts) (.mk k' n' s' ks' ts')) (a b : X) : p a b := by
  have key : ∀ (N : Nat) (a b : X), SizeOf.sizeOf a < N → p a b := by
    intro N
    induction N with
    | zero => intro a b hN; omega
    | succ N ih =>
      intro a b hN
      obtain ⟨k, n, s, ks, ts⟩ := a
      obtain ⟨k', n', s', ks', ts'⟩ := b
      exact h _ _ _ _ _ _ _ _ _ _ fun i h1 h2 => ih _ _ (by have := X.lt_mk k n s ks ts i h1; omega)
  exact key _ a b (Nat.lt_succ_self _)

theorem X.one {p : X → Prop} (h : ∀ (k n : Int) (s : ByteArray) (ks : List X) (ts : List T), (∀ (i : Nat) (h1 : i < ks.length), p (ks[i]'h1)) → p (.mk k n s ks ts)) (a : X) : p a := by
  have key : ∀ (N : Nat) (a : X), SizeOf.sizeOf a < N → p a := by
    intro N
    induction N with
    | zero => intro a hN; omega
    | succ N ih =>
      intro a hN
      obtain ⟨k, n, s, ks, ts⟩ := a
      exact h _ _ _ _ _ fun i h1 => ih _ (by have := X.lt_mk k n s ks ts i h1; omega)
  exact key _ a (Nat.lt_succ_self _)

/-- Are two types wholly alike? -/
def T.same : T → T → Bool
  | .mk k s n [], .mk k' s' n' [] => decide (k = k') && decide (s = s') && decide (n = n')
  | .mk k s n (e :: es), .mk k' s' n' (e' :: es') => T.same e e' && T.same (.mk k s n es) (.mk k' s' n' es')
  | .mk _ _ _ [], .mk _ _ _ (_ :: _) => false
  | .mk _ _ _ (_ :: _), .mk _ _ _ [] => false

/-- .. two lists of types? -/
def T.sames (a b : List T) : Bool := T.same (.mk 0 ⟨#[]⟩ 0 a) (.mk 0 ⟨#[]⟩ 0 b)

theorem T.sames_nil : T.sames [] [] = true := by simp [T.sames, T.same]
theorem T.sames_cons (e e' : T) (a b : List T) : T.sames (e :: a) (e' :: b) = (T.same e e' && T.sames a b) := by simp [T.sames, T.same]

theorem T.same_mk (k : Int) (s : ByteArray) (n : Int) (k' : Int) (s' : ByteArray) (n' : Int) : ∀ (a b : List T), T.same (.mk k s n a) (.mk k' s' n' b) = (decide (k = k') && decide (s = s') && decide (n = n') && T.sames a b)
  | [], [] => by rw [T.sames_nil]; simp [T.same]
  | e :: a, e' :: b => by
    rw [T.same, T.same_mk k s n k' s' n' a b, T.sames_cons]
    cases T.same e e' <;> cases T.sames a b <;> simp
  | [], _ :: _ => by simp [T.same, T.sames]
  | _ :: _, [] => by simp [T.same, T.sames]

theorem T.same_self : ∀ t : T, T.same t t = true
  | .mk k s n [] => by simp [T.same]
  | .mk k s n (e :: es) => by rw [T.same, T.same_self e, T.same_self (.mk k s n es)]; rfl
theorem T.sames_self (l : List T) : T.sames l l = true := T.same_self _

/-- Are two trees alike? -/
def X.alike : X → X → Bool
  | .mk k n s [] ts, .mk k' n' s' [] ts' => decide (k = k') && decide (n = n') && decide (s = s') && T.sames ts ts'
  | .mk k n s (e :: ks) ts, .mk k' n' s' (e' :: ks') ts' => X.alike e e' && X.alike (.mk k n s ks ts) (.mk k' n' s' ks' ts')
  | .mk _ _ _ [] _, .mk _ _ _ (_ :: _) _ => false
  | .mk _ _ _ (_ :: _) _, .mk _ _ _ [] _ => false

/-- .. two lists of trees? -/
def X.alikes (a b : List X) : Bool := X.alike (.mk 0 0 ⟨#[]⟩ a []) (.mk 0 0 ⟨#[]⟩ b [])

theorem X.alikes_nil : X.alikes [] [] = true := by simp [X.alikes, X.alike, T.sames_nil]
theorem X.alikes_cons (e e' : X) (a b : List X) : X.alikes (e :: a) (e' :: b) = (X.alike e e' && X.alikes a b) := by simp [X.alikes, X.alike]

theorem X.alike_mk (k n : Int) (s : ByteArray) (ts : List T) (k' n' : Int) (s' : ByteArray) (ts' : List T) : ∀ (a b : List X), X.alike (.mk k n s a ts) (.mk k' n' s' b ts') = (decide (k = k') && decide (n = n') && decide (s = s') && T.sames ts ts' && X.alikes a b)
  | [], [] => by rw [X.alikes_nil]; simp [X.alike]
  | e :: a, e' :: b => by
    rw [X.alike, X.alike_mk k n s ts k' n' s' ts' a b, X.alikes_cons]
    cases X.alike e e' <;> cases X.alikes a b <;> simp
  | [], _ :: _ => by simp [X.alike, X.alikes]
  | _ :: _, [] => by simp [X.alike, X.alikes]

theorem X.alike_self : ∀ t : X, X.alike t t = true
  | .mk k n s [] ts => by simp [X.alike, T.sames_self]
  | .mk k n s (e :: ks) ts => by rw [X.alike, X.alike_self e, X.alike_self (.mk k n s ks ts)]; rfl
theorem X.alikes_self (l : List X) : X.alikes l l = true := X.alike_self _

theorem T.sames_len : ∀ {a b : List T}, a.length ≠ b.length → T.sames a b = false
  | [], [], h => absurd rfl h
  | [], _ :: _, _ => by simp [T.sames, T.same]
  | _ :: _, [], _ => by simp [T.sames, T.same]
  | x :: a, y :: b, h => by rw [T.sames_cons, T.sames_len (a := a) (b := b) (by simpa using h), Bool.and_false]

theorem X.alikes_len : ∀ {a b : List X}, a.length ≠ b.length → X.alikes a b = false
  | [], [], h => absurd rfl h
  | [], _ :: _, _ => by simp [X.alikes, X.alike]
  | _ :: _, [], _ => by simp [X.alikes, X.alike]
  | x :: a, y :: b, h => by rw [X.alikes_cons, X.alikes_len (a := a) (b := b) (by simpa using h), Bool.and_false]

theorem T.sames_drop (a b : List T) (i : Nat) (h1 : i < a.length) (h2 : i < b.length) : T.sames (a.drop i) (b.drop i) = (T.same a[i] b[i] && T.sames (a.drop (i + 1)) (b.drop (i + 1))) := by
  rw [List.drop_eq_getElem_cons h1, List.drop_eq_getElem_cons h2, T.sames_cons]

theorem X.alikes_drop (a b : List X) (i : Nat) (h1 : i < a.length) (h2 : i < b.length) : X.alikes (a.drop i) (b.drop i) = (X.alike a[i] b[i] && X.alikes (a.drop (i + 1)) (b.drop (i + 1))) := by
  rw [List.drop_eq_getElem_cons h1, List.drop_eq_getElem_cons h2, X.alikes_cons]

/-- Cells lie in a row. -/
def RowAt (w : World) (b o : Nat) (cs : List Value) : Prop := b < w.heap.size ∧ ∀ j v, cs[j]? = some v → w.cell? ⟨b, o + j, none⟩ = some v

theorem RowAt.below {w w' : World} {b o : Nat} {cs : List Value} (h : RowAt w b o cs) (k : Below w.heap.size w w') : RowAt w' b o cs :=
  ⟨Nat.lt_of_lt_of_le h.1 k.size, fun j v hj => (k.cell (p := ⟨b, o + j, none⟩) h.1).trans (h.2 j v hj)⟩

theorem T.size_pos (t : T) : 0 < SizeOf.sizeOf t := by cases t; simp; omega
theorem X.size_pos (t : X) : 0 < SizeOf.sizeOf t := by cases t; simp; omega

/-- The cells of a type, so many levels deep. -/
def TInF (w : World) : Nat → T → List Value → Prop
  | 0, _, _ => False
  | N + 1, .mk k s n es, cs => ∃ (A : Option Addr) (C : Nat), cs = [.int .i64 k, .string s, .int .i64 n, .slice A es.length C] ∧ es.length ≤ 9223372036854775807 ∧
      ∀ i (h : i < es.length), ∃ b o cs', A = some ⟨b, o, none⟩ ∧ RowAt w b (o + i * 4) cs' ∧ TInF w N (es[i]'h) cs'

theorem TInF.to {w : World} : ∀ {N M : Nat} {t : T} {cs : List Value}, SizeOf.sizeOf t ≤ N → SizeOf.sizeOf t ≤ M → TInF w N t cs → TInF w M t cs := by
  intro N
  induction N with
  | zero => intro M t cs h1 _ _; have := T.size_pos t; omega
  | succ N ih =>
    intro M t cs h1 h2 h
    cases M with
    | zero => have := T.size_pos t; omega
    | succ M =>
      obtain ⟨k, s, n, es⟩ := t
      obtain ⟨A, C, e, hl, hx⟩ := h
      refine ⟨A, C, e, hl, fun i hi => ?_⟩
      obtain ⟨b, o, cs', a1, a2, a3⟩ := hx i hi
      have := T.lt_mk k s n es i hi
      exact ⟨b, o, cs', a1, a2, ih (by omega) (by omega) a3⟩

/-- The cells of a type. -/
def TIn (w : World) (t : T) (cs : List Value) : Prop := TInF w (SizeOf.sizeOf t) t cs

/-- The elements of a slice of types. -/
def TsIn (w : World) (es : List T) (A : Option Addr) : Prop :=
  es.length ≤ 9223372036854775807 ∧ ∀ i (h : i < es.length), ∃ b o cs, A = some ⟨b, o, none⟩ ∧ RowAt w b (o + i * 4) cs ∧ TIn w (es[i]'h) cs

theorem TIn.inv {w : World} {k : Int} {s : ByteArray} {n : Int} {es : List T} {cs : List Value} (h : TIn w (.mk k s n es) cs) :
    ∃ A C, cs = [.int .i64 k, .string s, .int .i64 n, .slice A es.length C] ∧ TsIn w es A := by
  have h := TInF.to (M := SizeOf.sizeOf (T.mk k s n es) + 1) (Nat.le_refl _) (Nat.le_succ _) h
  obtain ⟨A, C, h1, h2, h3⟩ := h
  refine ⟨A, C, h1, h2, fun i hi => ?_⟩
  obtain ⟨b, o, cs', a1, a2, a3⟩ := h3 i hi
  exact ⟨b, o, cs', a1, a2, a3.to (Nat.le_of_lt (T.lt_mk k s n es i hi)) (Nat.le_refl _)⟩

theorem TIn.of {w : World} {k : Int} {s : ByteArray} {n : Int} {es : List T} {A : Option Addr} {C : Nat} (h : TsIn w es A) : TIn w (.mk k s n es) [.int .i64 k, .string s, .int .i64 n, .slice A es.length C] := by
  refine TInF.to (N := SizeOf.sizeOf (T.mk k s n es) + 1) (Nat.le_succ _) (Nat.le_refl _) ⟨A, C, rfl, h.1, fun i hi => ?_⟩
  obtain ⟨b, o, cs', a1, a2, a3⟩ := h.2 i hi
  exact ⟨b, o, cs', a1, a2, TInF.to (Nat.le_refl _) (Nat.le_of_lt (T.lt_mk k s n es i hi)) a3⟩

theorem TIn.stays {w w' : World} (k : Below w.heap.size w w') {t : T} {cs : List Value} (h : TIn w t cs) : TIn w' t cs := by
  have key : ∀ (N : Nat) (t : T) (cs : List Value), SizeOf.sizeOf t < N → TIn w t cs → TIn w' t cs := by
    intro N
    induction N with
    | zero => intro t cs hN _; omega
    | succ N ih =>
      intro t cs hN ht
      obtain ⟨k', s, n, es⟩ := t
      obtain ⟨A, C, rfl, h1, h2⟩ := ht.inv
      refine TIn.of ⟨h1, fun i hi => ?_⟩
      obtain ⟨b, o, cs', e, hr, hx⟩ := h2 i hi
      exact ⟨b, o, cs', e, hr.below k, ih _ _ (by have := T.lt_mk k' s n es i hi; omega) hx⟩
  exact key _ t cs (Nat.lt_succ_self _) h

theorem TsIn.below {w w' : World} (k : Below w.heap.size w w') {es : List T} {A : Option Addr} (h : TsIn w es A) : TsIn w' es A :=
  ⟨h.1, fun i hi => by
    obtain ⟨b, o, cs, h1, h2, h3⟩ := h.2 i hi
    exact ⟨b, o, cs, h1, h2.below k, h3.stays k⟩⟩

/-- The cells of a tree, so many levels deep. -/
def XInF (w : World) : Nat → X → List Value → Prop
  | 0, _, _ => False
  | N + 1, .mk k n s ks ts, cs => ∃ (at' : Int) (A : Option Addr) (C : Nat) (B : Option Addr) (D : Nat) (p : Int) (q : ByteArray) (r : Int) (Z : Option Addr) (zl zc : Nat),
      cs = [.int .i64 k, .int .i64 at', .int .i64 n, .string s, .slice A ks.length C, .slice B ts.length D, .int .i64 p, .string q, .int .i64 r, .slice Z zl zc] ∧ TsIn w ts B ∧ ks.length ≤ 9223372036854775807 ∧
      ∀ i (h : i < ks.length), ∃ b o cs', A = some ⟨b, o, none⟩ ∧ RowAt w b (o + i * 10) cs' ∧ XInF w N (ks[i]'h) cs'

theorem XInF.to {w : World} : ∀ {N M : Nat} {t : X} {cs : List Value}, SizeOf.sizeOf t ≤ N → SizeOf.sizeOf t ≤ M → XInF w N t cs → XInF w M t cs := by
  intro N
  induction N with
  | zero => intro M t cs h1 _ _; have := X.size_pos t; omega
  | succ N ih =>
    intro M t cs h1 h2 h
    cases M with
    | zero => have := X.size_pos t; omega
    | succ M =>
      obtain ⟨k, n, s, ks, ts⟩ := t
      obtain ⟨at', A, C, B, D, p, q, r, Z, zl, zc, e, ht, hl, hx⟩ := h
      refine ⟨at', A, C, B, D, p, q, r, Z, zl, zc, e, ht, hl, fun i hi => ?_⟩
      obtain ⟨b, o, cs', a1, a2, a3⟩ := hx i hi
      have := X.lt_mk k n s ks ts i hi
      exact ⟨b, o, cs', a1, a2, ih (by omega) (by omega) a3⟩

/-- The cells of a tree. -/
def XIn (w : World) (t : X) (cs : List Value) : Prop := XInF w (SizeOf.sizeOf t) t cs

/-- The elements of a slice of trees. -/
def XsIn (w : World) (ks : List X) (A : Option Addr) : Prop :=
  ks.length ≤ 9223372036854775807 ∧ ∀ i (h : i < ks.length), ∃ b o cs, A = some ⟨b, o, none⟩ ∧ RowAt w b (o + i * 10) cs ∧ XIn w (ks[i]'h) cs

theorem XIn.inv {w : World} {k n : Int} {s : ByteArray} {ks : List X} {ts : List T} {cs : List Value} (h : XIn w (.mk k n s ks ts) cs) :
    ∃ at' A C B D p q r Z zl zc, cs = [.int .i64 k, .int .i64 at', .int .i64 n, .string s, .slice A ks.length C, .slice B ts.length D, .int .i64 p, .string q, .int .i64 r, .slice Z zl zc] ∧ XsIn w ks A ∧ TsIn w ts B := by
  have h := XInF.to (M := SizeOf.sizeOf (X.mk k n s ks ts) + 1) (Nat.le_refl _) (Nat.le_succ _) h
  obtain ⟨at', A, C, B, D, p, q, r, Z, zl, zc, h1, h2, h3, h4⟩ := h
  refine ⟨at', A, C, B, D, p, q, r, Z, zl, zc, h1, ⟨h3, fun i hi => ?_⟩, h2⟩
  obtain ⟨b, o, cs', a1, a2, a3⟩ := h4 i hi
  exact ⟨b, o, cs', a1, a2, a3.to (Nat.le_of_lt (X.lt_mk k n s ks ts i hi)) (Nat.le_refl _)⟩

theorem XIn.of {w : World} {k at' n : Int} {s : ByteArray} {ks : List X} {ts : List T} {A : Option Addr} {C : Nat} {B : Option Addr} {D : Nat} {p : Int} {q : ByteArray} {r : Int} {Z : Option Addr} {zl zc : Nat} (h1 : XsIn w ks A) (h2 : TsIn w ts B) :
    XIn w (.mk k n s ks ts) [.int .i64 k, .int .i64 at', .int .i64 n, .string s, .slice A ks.length C, .slice B ts.length D, .int .i64 p, .string q, .int .i64 r, .slice Z zl zc] := by
  refine XInF.to (N := SizeOf.sizeOf (X.mk k n s ks ts) + 1) (Nat.le_succ _) (Nat.le_refl _) ⟨at', A, C, B, D, p, q, r, Z, zl, zc, rfl, h2, h1.1, fun i hi => ?_⟩
  obtain ⟨b, o, cs', a1, a2, a3⟩ := h1.2 i hi
  exact ⟨b, o, cs', a1, a2, XInF.to (Nat.le_refl _) (Nat.le_of_lt (X.lt_mk k n s ks ts i hi)) a3⟩

theorem XIn.stays {w w' : World} (k : Below w.heap.size w w') {t : X} {cs : List Value} (h : XIn w t cs) : XIn w' t cs := by
  have key : ∀ (N : Nat) (t : X) (cs : List Value), SizeOf.sizeOf t < N → XIn w t cs → XIn w' t cs := by
    intro N
    induction N with
    | zero => intro t cs hN _; omega
    | succ N ih =>
      intro t cs hN ht
      obtain ⟨k', n, s, ks, ts⟩ := t
      obtain ⟨at', A, C, B, D, p, q, r, Z, zl, zc, rfl, ⟨h1, h2⟩, h3⟩ := ht.inv
      refine XIn.of ⟨h1, fun i hi => ?_⟩ (h3.below k)
      obtain ⟨b, o, cs', e, hr, hx⟩ := h2 i hi
      exact ⟨b, o, cs', e, hr.below k, ih _ _ (by have := X.lt_mk k' n s ks ts i hi; omega) hx⟩
  exact key _ t cs (Nat.lt_succ_self _) h

theorem XsIn.below {w w' : World} (k : Below w.heap.size w w') {es : List X} {A : Option Addr} (h : XsIn w es A) : XsIn w' es A :=
  ⟨h.1, fun i hi => by
    obtain ⟨b, o, cs, h1, h2, h3⟩ := h.2 i hi
    exact ⟨b, o, cs, h1, h2.below k, h3.stays k⟩⟩

theorem str_ne {a b : ByteArray} (h : ¬ a = b) : (¬ a.toList = b.toList) ∧ (a.toList == b.toList) = false := by
  have e : ¬ a.toList = b.toList := fun e => h (WideShapes.bytes_inj (by rw [← ByteArray.toList_eq, ← ByteArray.toList_eq]; exact e))
  exact ⟨e, by simpa using e⟩

theorem below_next {a b c : World} (h : Below a.heap.size a b) (k : Below b.heap.size b c) : Below a.heap.size a c := h.trans (k.mono h.size)

theorem bcell {W w1 : World} (hb : Below W.heap.size W w1) : (∀ b o, b < W.heap.size → w1.cell? ⟨b, o, none⟩ = W.cell? ⟨b, o, none⟩) ∧ (∀ b o, b < W.heap.size → w1.frozen? ⟨b, o, none⟩ = W.frozen? ⟨b, o, none⟩) :=
  ⟨fun b o h => hb.cell (p := ⟨b, o, none⟩) h, fun b o h => hb.frozen (p := ⟨b, o, none⟩) h⟩

theorem below_alloc (w : World) (o : Obj) : Below w.heap.size w (w.alloc o) := (Below.refl _ _).alloc (Nat.le_refl _) o

theorem alloc_at (w : World) (o : Obj) : (w.alloc o).heap[w.heap.size]? = some o := by
  show (w.heap.push o)[w.heap.size]? = _
  simp

end Go.Proofs.Ytjbglolcnhmkcaa
