/-
  Proved: how the cells of functions in the low form lie in memory, as plain data; that they stay while nothing old is written.
-/
import Derived.Test.YtapgaclonilnbaaDoorKit
import Derived.WalkKit
import Derived.ProofKit
namespace Go.Proofs.YtapgaclonilnbaaDoor
open Go.RowKit

/-- The elements of a slice, each by itself, by a relation. -/
def Rel {α : Type} (w : World) (size : Nat) (good : World → α → List Value → Prop) (l : List α) (A : Option Addr) : Prop :=
  ∀ i (h : i < l.length), ∃ b o cs, A = some ⟨b, o, none⟩ ∧ RowAt w b (o + i * size) cs ∧ good w (l[i]'h) cs

/-- A slice that came in. -/
def SlIn {α : Type} (w : World) (size : Nat) (good : World → α → List Value → Prop) (l : List α) (v : Value) : Prop :=
  l.length ≤ 281474976710656 ∧ ∃ A C, v = .slice A l.length C ∧ Rel w size good l A

theorem Rel.below {α : Type} {w w' : World} {size : Nat} {good : World → α → List Value → Prop} {l : List α} {A : Option Addr} (h : Rel w size good l A) (k : Below w.heap.size w w') (hg : ∀ x cs, good w x cs → good w' x cs) : Rel w' size good l A := fun i hi => by
  obtain ⟨b, o, cs, e1, e2, e3⟩ := h i hi
  exact ⟨b, o, cs, e1, e2.below k, hg _ _ e3⟩

theorem SlIn.below {α : Type} {w w' : World} {size : Nat} {good : World → α → List Value → Prop} {l : List α} {v : Value} (h : SlIn w size good l v) (k : Below w.heap.size w w') (hg : ∀ x cs, good w x cs → good w' x cs) : SlIn w' size good l v := by
  obtain ⟨h0, A, C, e, h1⟩ := h
  exact ⟨h0, A, C, e, h1.below k hg⟩

/-- An instruction. -/
structure Lo where
  mk ::
  op : Int
  d : Int
  a : Int
  b : Int
  n : Int
  tx : ByteArray
  args : List Int
  dsts : List Int
/-- A block's end. -/
structure Le where
  mk ::
  k : Int
  a : Int
  b : Int
  to : Int
  el : Int
  tx : ByteArray
  args : List Int
/-- A block. -/
structure Lb where
  mk ::
  li : List Lo
  tm : Le
/-- A function. -/
structure Lf where
  mk ::
  nm : ByteArray
  rg : Int
  pa : List Int
  an : Int
  fr : Int
  qu : Bool
  bs : List Lb

def GI (_ : World) (x : Int) (cs : List Value) : Prop := cs = [.int .i64 x]
def NosIn (w : World) (l : List Int) (v : Value) : Prop := SlIn w 1 GI l v
theorem NosIn.below {w w' : World} {l : List Int} {v : Value} (h : NosIn w l v) (k : Below w.heap.size w w') : NosIn w' l v := SlIn.below h k fun _ _ => id

/-- Numbers in memory, cell by cell. -/
theorem NosIn.cells {w : World} {l : List Int} {v : Value} (h : NosIn w l v) : l.length ≤ 281474976710656 ∧ ∃ A C, v = .slice A l.length C ∧ ∀ i (h : i < l.length), ∃ b o, A = some ⟨b, o, none⟩ ∧ b < w.heap.size ∧ w.cell? ⟨b, o + i, none⟩ = some (.int .i64 (l[i]'h)) := by
  obtain ⟨h0, A, C, e, h1⟩ := h
  refine ⟨h0, A, C, e, fun i hi => ?_⟩
  obtain ⟨b, o, cs, e1, e2, e3⟩ := h1 i hi
  cases e3
  refine ⟨b, o, e1, e2.1, ?_⟩
  have := e2.2 0 _ rfl
  simpa using this

/-- The cells of an instruction, given its slices. -/
def loC (x : Lo) (av dv : Value) : List Value := [.int .i64 x.op, .int .i64 x.d, .int .i64 x.a, .int .i64 x.b, .int .i64 x.n, .string x.tx, av, dv]
def LoIn (w : World) (x : Lo) (cs : List Value) : Prop := ∃ av dv, cs = loC x av dv ∧ x.tx.size ≤ maxLen ∧ NosIn w x.args av ∧ NosIn w x.dsts dv
theorem LoIn.below {w w' : World} {x : Lo} {cs : List Value} (h : LoIn w x cs) (k : Below w.heap.size w w') : LoIn w' x cs := by
  obtain ⟨av, dv, e, h0, h1, h2⟩ := h
  exact ⟨av, dv, e, h0, h1.below k, h2.below k⟩

/-- The cells of a block's end, given its slice. -/
def leC (x : Le) (av : Value) : List Value := [.int .i64 x.k, .int .i64 x.a, .int .i64 x.b, .int .i64 x.to, .int .i64 x.el, .string x.tx, av]
def LeIn (w : World) (x : Le) (cs : List Value) : Prop := ∃ av, cs = leC x av ∧ NosIn w x.args av
theorem LeIn.below {w w' : World} {x : Le} {cs : List Value} (h : LeIn w x cs) (k : Below w.heap.size w w') : LeIn w' x cs := by
  obtain ⟨av, e, h1⟩ := h
  exact ⟨av, e, h1.below k⟩

/-- The instructions of a block, as a slice. -/
def LiIn (w : World) (l : List Lo) (v : Value) : Prop := SlIn w 8 LoIn l v
theorem LiIn.below {w w' : World} {l : List Lo} {v : Value} (h : LiIn w l v) (k : Below w.heap.size w w') : LiIn w' l v := SlIn.below h k fun _ _ h => LoIn.below h k

/-- The cells of a block. -/
def LbIn (w : World) (x : Lb) (cs : List Value) : Prop := ∃ lv av, cs = lv :: leC x.tm av ∧ LiIn w x.li lv ∧ NosIn w x.tm.args av
theorem LbIn.below {w w' : World} {x : Lb} {cs : List Value} (h : LbIn w x cs) (k : Below w.heap.size w w') : LbIn w' x cs := by
  obtain ⟨lv, av, e, h1, h2⟩ := h
  exact ⟨lv, av, e, h1.below k, h2.below k⟩

def LbsIn (w : World) (l : List Lb) (v : Value) : Prop := SlIn w 8 LbIn l v
theorem LbsIn.below {w w' : World} {l : List Lb} {v : Value} (h : LbsIn w l v) (k : Below w.heap.size w w') : LbsIn w' l v := SlIn.below h k fun _ _ h => LbIn.below h k

/-- The cells of a function, given its slices. -/
def lfC (x : Lf) (pv bv : Value) : List Value := [.string x.nm, .int .i64 x.rg, pv, .int .i64 x.an, .int .i64 x.fr, .bool x.qu, bv]
def LfIn (w : World) (x : Lf) (cs : List Value) : Prop := ∃ pv bv, cs = lfC x pv bv ∧ x.nm.size ≤ maxLen ∧ NosIn w x.pa pv ∧ LbsIn w x.bs bv
theorem LfIn.below {w w' : World} {x : Lf} {cs : List Value} (h : LfIn w x cs) (k : Below w.heap.size w w') : LfIn w' x cs := by
  obtain ⟨pv, bv, e, h0, h1, h2⟩ := h
  exact ⟨pv, bv, e, h0, h1.below k, h2.below k⟩

theorem RowAt.at {w : World} {b o : Nat} {cs : List Value} (h : RowAt w b o cs) (j : Nat) {v : Value} (e : cs[j]? = some v) : w.cell? ⟨b, o + j, none⟩ = some v := h.2 j v e

def LfsIn (w : World) (l : List Lf) (v : Value) : Prop := SlIn w 7 LfIn l v
theorem LfsIn.below {w w' : World} {l : List Lf} {v : Value} (h : LfsIn w l v) (k : Below w.heap.size w w') : LfsIn w' l v := SlIn.below h k fun _ _ h => LfIn.below h k

end Go.Proofs.YtapgaclonilnbaaDoor
