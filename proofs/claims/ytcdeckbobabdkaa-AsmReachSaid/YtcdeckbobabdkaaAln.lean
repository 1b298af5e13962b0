/-
  Proved: lines of assembly as plain data; how they lie in memory; what the document tells of their sizes, labels and forms, as functions.
-/
import Derived.Test.YtcdeckbobabdkaaIspec
namespace Go.Proofs.Ytcdeckbobabdkaa
open Go.RowKit
set_option linter.unusedVariables false

abbrev Tx := List UInt8

/-- A line. -/
structure Ln where
  k : Int
  s : ByteArray
  i : Ins
  lb : ByteArray
  n : Int

def lnC (y : Ln) : List Value := [.int .i64 y.k, .string y.s, .int .i64 y.i.rd, .int .i64 y.i.r1, .int .i64 y.i.r2, .int .i64 y.i.im, .string y.lb, .int .i64 y.n]
/-- Its texts fit. -/
def LOk (y : Ln) : Prop := y.s.size ≤ maxLen ∧ y.lb.size ≤ maxLen
/-- Lines in memory. -/
def LsIn (w : World) (l : List Ln) (v : Value) : Prop := ∃ A C, v = .slice A l.length C ∧ RowsIn w 8 lnC l A
theorem LsIn.below {w w' : World} {l : List Ln} {v : Value} (h : LsIn w l v) (k : Below w.heap.size w w') : LsIn w' l v := by
  obtain ⟨A, C, e, h⟩ := h
  exact ⟨A, C, e, h.below k⟩

theorem ln_cells {w w' : World} {l : List Ln} {A : Option Addr} (h : RowsIn w 8 lnC l A) (k : Below w.heap.size w w') (i : Nat) (y : Ln) (hy : l[i]? = some y) : ∃ b o, A = some ⟨b, o, none⟩ ∧ b < w.heap.size ∧
    w'.cell? ⟨b, o + i * 8, none⟩ = some (.int .i64 y.k) ∧ w'.cell? ⟨b, o + i * 8 + 1, none⟩ = some (.string y.s) ∧ w'.cell? ⟨b, o + i * 8 + 2, none⟩ = some (.int .i64 y.i.rd) ∧ w'.cell? ⟨b, o + i * 8 + 3, none⟩ = some (.int .i64 y.i.r1) ∧
    w'.cell? ⟨b, o + i * 8 + 4, none⟩ = some (.int .i64 y.i.r2) ∧ w'.cell? ⟨b, o + i * 8 + 5, none⟩ = some (.int .i64 y.i.im) ∧ w'.cell? ⟨b, o + i * 8 + 6, none⟩ = some (.string y.lb) ∧ w'.cell? ⟨b, o + i * 8 + 7, none⟩ = some (.int .i64 y.n) := by
  obtain ⟨hi, rfl⟩ := List.getElem?_eq_some_iff.1 hy
  obtain ⟨b, o, e, h1, h2⟩ := h i hi
  have q : ∀ j v, (lnC l[i])[j]? = some v → w'.cell? ⟨b, o + i * 8 + j, none⟩ = some v := fun j v hv => (k.cell (p := ⟨b, o + i * 8 + j, none⟩) h1).trans (h2 j v hv)
  exact ⟨b, o, e, h1, q 0 _ rfl, q 1 _ rfl, q 2 _ rfl, q 3 _ rfl, q 4 _ rfl, q 5 _ rfl, q 6 _ rfl, q 7 _ rfl⟩

/-- Lines are formed, with so much room for pads. -/
def frm : Int → List Ln → Bool
  | _, [] => true
  | r, y :: t => if y.k < 1 ∨ 5 < y.k then false else if y.k ≠ 5 ∨ y.n ≤ 0 then frm r t else if r < y.n then false else frm (r - y.n) t
def frmB (l : List Ln) : Bool := frm 1048576 l

/-- A line is a label of this name. -/
def isL (s : Tx) (y : Ln) : Bool := decide (y.k = 2) && decide (y.lb.data.toList = s)
/-- Which line has a label first. -/
def lbOf (l : List Ln) (s : Tx) : Option Nat := l.findIdx? (isL s)
def lbF (l : List Ln) (s : Tx) : Option Int := (lbOf l s).map Int.ofNat
/-- A line goes to a label. -/
def goes (y : Ln) : Bool := decide (y.k = 3) || decide (y.k = 4)
/-- No two labels have one name. -/
def once (l : List Ln) : Prop := ∀ (i : Nat) (y : Ln), l[i]? = some y → y.k = 2 → lbOf (l.take i) y.lb.data.toList = none
/-- What is gone to is there. -/
def wants (l : List Ln) : Prop := ∀ y ∈ l, goes y = true → (lbOf l y.lb.data.toList).isSome = true

theorem lbOf_snoc (l : List Ln) (y : Ln) (s : Tx) : lbOf (l ++ [y]) s = (lbOf l s).or (if isL s y then some l.length else none) := by
  unfold lbOf
  rw [List.findIdx?_append]
  congr 1
  cases h : isL s y <;> simp [List.findIdx?_cons, h]

def updT (f : Tx → Option Int) (x : Tx) (v : Option Int) : Tx → Option Int := fun y => if y = x then v else f y
theorem lbF_put (l : List Ln) (y : Ln) (hk : y.k = 2) (hn : lbOf l y.lb.data.toList = none) : lbF (l ++ [y]) = updT (lbF l) y.lb.data.toList (some (l.length : Int)) := by
  funext s
  unfold lbF updT
  rw [lbOf_snoc]
  by_cases e : s = y.lb.data.toList
  · subst e
    rw [hn]
    simp [isL, hk]
  · have e' : ¬ y.lb.data.toList = s := fun h => e h.symm
    have : isL s y = false := by simp [isL, hk, e']
    rw [this, if_neg e]
    simp
theorem lbF_skip (l : List Ln) (y : Ln) (hk : y.k ≠ 2) : lbF (l ++ [y]) = lbF l := by
  funext s
  unfold lbF
  rw [lbOf_snoc]
  have : isL s y = false := by simp [isL, hk]
  rw [this]
  simp
theorem lbOf_lt {l : List Ln} {s : Tx} {g : Nat} (h : lbOf l s = some g) : ∃ y, l[g]? = some y ∧ y.k = 2 ∧ y.lb.data.toList = s := by
  unfold lbOf at h
  rw [List.findIdx?_eq_some_iff_getElem] at h
  obtain ⟨h1, h2, _⟩ := h
  simp only [isL, Bool.and_eq_true, decide_eq_true_eq] at h2
  exact ⟨l[g], by simp [h1], h2.1, h2.2⟩
/-- A label whose name no other has is found. -/
theorem lbOf_at {l : List Ln} (ho : once l) {g : Nat} {y : Ln} (hy : l[g]? = some y) (hk : y.k = 2) : lbOf l y.lb.data.toList = some g := by
  have h1 := ho g y hy hk
  obtain ⟨hg, rfl⟩ := List.getElem?_eq_some_iff.1 hy
  unfold lbOf at h1 ⊢
  rw [List.findIdx?_eq_some_iff_getElem]
  refine ⟨hg, by simp [isL, hk], fun j hj => ?_⟩
  rw [List.findIdx?_eq_none_iff] at h1
  have := h1 (l[j]'(by omega)) (by rw [List.mem_take_iff_getElem]; exact ⟨j, by omega, rfl⟩)
  simpa using this

/-- Which branch goes where one does not. -/
def oppT : List (Tx × Tx) := [([98, 101, 113], [98, 110, 101]), ([98, 108, 116], [98, 103, 101]), ([98, 108, 116, 117], [98, 103, 101, 117])]
def opp (s : Tx) : Tx :=
  if s = [98, 101, 113] then [98, 110, 101] else if s = [98, 110, 101] then [98, 101, 113]
  else if s = [98, 108, 116] then [98, 103, 101] else if s = [98, 103, 101] then [98, 108, 116]
  else if s = [98, 108, 116, 117] then [98, 103, 101, 117] else if s = [98, 103, 101, 117] then [98, 108, 116, 117] else []
def jalT : Tx := [106, 97, 108]
def w0 (i : Ins) (n : Int) : Ins := ⟨i.rd, i.r1, i.r2, n⟩
/-- A line's instruction is one that its kind takes. -/
def leg (y : Ln) : Bool :=
  if y.k = 1 then (encF y.s.data.toList y.i).isSome
  else if y.k = 3 then decide (opp y.s.data.toList ≠ []) && (encF y.s.data.toList (w0 y.i 0)).isSome
  else if y.k = 4 then decide (y.s.data.toList = jalT) && (encF y.s.data.toList (w0 y.i 0)).isSome
  else true

/-- Bytes of a line that is no long branch. -/
def shB (y : Ln) : Int := if y.k = 2 then 0 else if y.k = 5 then 4 * max y.n 0 else 4
def shA (l : List Ln) (j : Nat) : Int := ((l[j]?).map shB).getD 0
/-- Where a line stands, if these are long. -/
def atP (l : List Ln) (L : Nat → Bool) : Nat → Int
  | 0 => 0
  | p + 1 => atP l L p + (shA l p + if L p then 4 else 0)
def isB (l : List Ln) (j : Nat) : Bool := ((l[j]?).map fun y => decide (y.k = 3)).getD false
/-- Where a line goes. -/
def goal (l : List Ln) (j : Nat) : Nat := ((l[j]?).bind fun y => lbOf l y.lb.data.toList).getD 0
def cn (q : Nat → Bool) : Nat → Nat
  | 0 => 0
  | p + 1 => cn q p + if q p then 1 else 0
end Go.Proofs.Ytcdeckbobabdkaa
