/-
  Proved: how the cells of a type and of a tree lie in memory, as plain data; that they stay while nothing old is written.
-/
import Derived.Test.YtdpmdonneoadbaaDoorRows
import Derived.WalkKit
import Derived.ProofKit
namespace Go.Proofs.YtdpmdonneoadbaaDoor
open Go.RowKit

/-- A type, as plain data. -/
inductive T where
  | mk (k : Int) (s : ByteArray) (n : Int) (es : List T)

/-- A tree, as plain data: kind, number, text, kids, types. -/
inductive X where
  | mk (k n : Int) (s : ByteArray) (kids : List X) (tys : List T)

mutual
def T.same : T → T → Bool
  | .mk k s n es, .mk k' s' n' es' => decide (k = k') && decide (s = s') && decide (n = n') && T.sames es es'
def T.sames : List T → List T → Bool
  | [], [] => true
  | e :: es, e' :: es' => T.same e e' && T.sames es es'
  | _, _ => false
end

mutual
def X.alike : X → X → Bool
  | .mk k n s ks ts, .mk k' n' s' ks' ts' => decide (k = k') && decide (n = n') && decide (s = s') && T.sames ts ts' && X.alikes ks ks'
def X.alikes : List X → List X → Bool
  | [], [] => true
  | e :: es, e' :: es' => X.alike e e' && X.alikes es es'
  | _, _ => false
end

mutual
theorem T.same_self : ∀ t : T, T.same t t = true
  | .mk k s n es => by simp [T.same, T.sames_self es]
theorem T.sames_self : ∀ l : List T, T.sames l l = true
  | [] => rfl
  | e :: es => by simp [T.sames, T.same_self e, T.sames_self es]
end

mutual
theorem X.alike_self : ∀ t : X, X.alike t t = true
  | .mk k n s ks ts => by simp [X.alike, X.alikes_self ks, T.sames_self ts]
theorem X.alikes_self : ∀ l : List X, X.alikes l l = true
  | [] => rfl
  | e :: es => by simp [X.alikes, X.alike_self e, X.alikes_self es]
end

theorem T.sames_len : ∀ {a b : List T}, a.length ≠ b.length → T.sames a b = false
  | [], [], h => absurd rfl h
  | [], _ :: _, _ => rfl
  | _ :: _, [], _ => rfl
  | x :: a, y :: b, h => by simp [T.sames, T.sames_len (a := a) (b := b) (by simpa using h)]

theorem X.alikes_len : ∀ {a b : List X}, a.length ≠ b.length → X.alikes a b = false
  | [], [], h => absurd rfl h
  | [], _ :: _, _ => rfl
  | _ :: _, [], _ => rfl
  | x :: a, y :: b, h => by simp [X.alikes, X.alikes_len (a := a) (b := b) (by simpa using h)]

theorem T.sames_drop (a b : List T) (i : Nat) (h1 : i < a.length) (h2 : i < b.length) : T.sames (a.drop i) (b.drop i) = (T.same a[i] b[i] && T.sames (a.drop (i + 1)) (b.drop (i + 1))) := by
  rw [List.drop_eq_getElem_cons h1, List.drop_eq_getElem_cons h2]
  rfl

theorem X.alikes_drop (a b : List X) (i : Nat) (h1 : i < a.length) (h2 : i < b.length) : X.alikes (a.drop i) (b.drop i) = (X.alike a[i] b[i] && X.alikes (a.drop (i + 1)) (b.drop (i + 1))) := by
  rw [List.drop_eq_getElem_cons h1, List.drop_eq_getElem_cons h2]
  rfl

/-- Cells lie in a row. -/
def RowAt (w : World) (b o : Nat) (cs : List Value) : Prop := b < w.heap.size ∧ ∀ j v, cs[j]? = some v → w.cell? ⟨b, o + j, none⟩ = some v

theorem RowAt.below {w w' : World} {b o : Nat} {cs : List Value} (h : RowAt w b o cs) (k : Below w.heap.size w w') : RowAt w' b o cs :=
  ⟨Nat.lt_of_lt_of_le h.1 k.size, fun j v hj => (k.cell (p := ⟨b, o + j, none⟩) h.1).trans (h.2 j v hj)⟩

/-- The cells of a type. -/
inductive TIn (w : World) : T → List Value → Prop
  | mk (k : Int) (s : ByteArray) (n : Int) (es : List T) (A : Option Addr) (C : Nat) (cells : Nat → List Value) (hl : es.length ≤ 9223372036854775807)
      (ad : ∀ i, i < es.length → ∃ b o, A = some ⟨b, o, none⟩ ∧ RowAt w b (o + i * 4) (cells i)) (el : ∀ i (h : i < es.length), TIn w (es[i]'h) (cells i)) :
      TIn w (.mk k s n es) [.int .i64 k, .string s, .int .i64 n, .slice A es.length C]

/-- The elements of a slice of types. -/
def TsIn (w : World) (es : List T) (A : Option Addr) : Prop :=
  es.length ≤ 9223372036854775807 ∧ ∀ i (h : i < es.length), ∃ b o cs, A = some ⟨b, o, none⟩ ∧ RowAt w b (o + i * 4) cs ∧ TIn w (es[i]'h) cs

theorem TIn.inv {w : World} {k : Int} {s : ByteArray} {n : Int} {es : List T} {cs : List Value} (h : TIn w (.mk k s n es) cs) :
    ∃ A C, cs = [.int .i64 k, .string s, .int .i64 n, .slice A es.length C] ∧ TsIn w es A := by
  cases h with
  | mk _ _ _ _ A C cells hl ad el =>
    exact ⟨A, C, rfl, hl, fun i hi => by
      obtain ⟨b, o, h1, h2⟩ := ad i hi
      exact ⟨b, o, cells i, h1, h2, el i hi⟩⟩

theorem TIn.stays {w w' : World} (k : Below w.heap.size w w') {t : T} {cs : List Value} (h : TIn w t cs) : TIn w' t cs := by
  induction h with
  | mk k' s n es A C cells hl ad el ih =>
    exact TIn.mk k' s n es A C cells hl (fun i hi => by
      obtain ⟨b, o, h1, h2⟩ := ad i hi
      exact ⟨b, o, h1, h2.below k⟩) ih

theorem TsIn.below {w w' : World} (k : Below w.heap.size w w') {es : List T} {A : Option Addr} (h : TsIn w es A) : TsIn w' es A :=
  ⟨h.1, fun i hi => by
    obtain ⟨b, o, cs, h1, h2, h3⟩ := h.2 i hi
    exact ⟨b, o, cs, h1, h2.below k, h3.stays k⟩⟩

/-- The cells of a tree. -/
inductive XIn (w : World) : X → List Value → Prop
  | mk (k at' n : Int) (s : ByteArray) (ks : List X) (ts : List T) (A : Option Addr) (C : Nat) (B : Option Addr) (D : Nat) (p : Int) (q : ByteArray) (r : Int) (Z : Option Addr) (zl zc : Nat) (cells : Nat → List Value) (hl : ks.length ≤ 9223372036854775807)
      (ad : ∀ i, i < ks.length → ∃ b o, A = some ⟨b, o, none⟩ ∧ RowAt w b (o + i * 10) (cells i)) (el : ∀ i (h : i < ks.length), XIn w (ks[i]'h) (cells i)) (tl : TsIn w ts B) :
      XIn w (.mk k n s ks ts) [.int .i64 k, .int .i64 at', .int .i64 n, .string s, .slice A ks.length C, .slice B ts.length D, .int .i64 p, .string q, .int .i64 r, .slice Z zl zc]

/-- The elements of a slice of trees. -/
def XsIn (w : World) (ks : List X) (A : Option Addr) : Prop :=
  ks.length ≤ 9223372036854775807 ∧ ∀ i (h : i < ks.length), ∃ b o cs, A = some ⟨b, o, none⟩ ∧ RowAt w b (o + i * 10) cs ∧ XIn w (ks[i]'h) cs

theorem XIn.inv {w : World} {k n : Int} {s : ByteArray} {ks : List X} {ts : List T} {cs : List Value} (h : XIn w (.mk k n s ks ts) cs) :
    ∃ at' A C B D p q r Z zl zc, cs = [.int .i64 k, .int .i64 at', .int .i64 n, .string s, .slice A ks.length C, .slice B ts.length D, .int .i64 p, .string q, .int .i64 r, .slice Z zl zc] ∧ XsIn w ks A ∧ TsIn w ts B := by
  cases h with
  | mk _ at' _ _ _ _ A C B D p q r Z zl zc cells hl ad el tl =>
    exact ⟨at', A, C, B, D, p, q, r, Z, zl, zc, rfl, ⟨hl, fun i hi => by
      obtain ⟨b, o, h1, h2⟩ := ad i hi
      exact ⟨b, o, cells i, h1, h2, el i hi⟩⟩, tl⟩

theorem XIn.stays {w w' : World} (k : Below w.heap.size w w') {t : X} {cs : List Value} (h : XIn w t cs) : XIn w' t cs := by
  induction h with
  | mk k' at' n s ks ts A C B D p q r Z zl zc cells hl ad el tl ih =>
    exact XIn.mk k' at' n s ks ts A C B D p q r Z zl zc cells hl (fun i hi => by
      obtain ⟨b, o, h1, h2⟩ := ad i hi
      exact ⟨b, o, h1, h2.below k⟩) ih (tl.below k)

theorem XsIn.below {w w' : World} (k : Below w.heap.size w w') {es : List X} {A : Option Addr} (h : XsIn w es A) : XsIn w' es A :=
  ⟨h.1, fun i hi => by
    obtain ⟨b, o, cs, h1, h2, h3⟩ := h.2 i hi
    exact ⟨b, o, cs, h1, h2.below k, h3.stays k⟩⟩

theorem str_ne {a b : ByteArray} (h : ¬ a = b) : (¬ a.toList = b.toList) ∧ (a.toList == b.toList) = false := by
  have e : ¬ a.toList = b.toList := fun e => h (WideShapes.bytes_inj (by rw [← ByteArray.toList_eq, ← ByteArray.toList_eq]; exact e))
  exact ⟨e, by simpa using e⟩

theorem below_next {a b c : World} (h : Below a.heap.size a b) (k : Below b.heap.size b c) : Below a.heap.size a c := h.trans (k.mono h.size)

theorem bcell {W w1 : World} (hb : Below W.heap.size W w1) : (∀ b o, b < W.heap.size → w1.cell? ⟨b, o, none⟩ = W.cell? ⟨b, o, none⟩) ∧ (∀ b o, b < W.heap.size → w1.frozen? ⟨b, o, none⟩ = W.frozen? ⟨b, o, none⟩) :=
  ⟨fun b o h => hb.cell (p := ⟨b, o, none⟩) h, fun b o h => hb.frozen (p := ⟨b, o, none⟩) h⟩

theorem below_alloc (w : World) (o : Obj) : Below w.heap.size w (w.alloc o) := (Below.refl _ _).alloc (Nat.le_refl _) o

theorem alloc_at (w : World) (o : Obj) : (w.alloc o).heap[w.heap.size]? = some o := by
  show (w.heap.push o)[w.heap.size]? = _
  simp

end Go.Proofs.YtdpmdonneoadbaaDoor
