/-
  Proved: nothing yet: low's machine as a pure function: a call, the machine, one step, a run.
-/
import Derived.Test.YtapgaclonilnbaaDoorLchk
import Derived.Test.YtapgaclonilnbaaDoorHwithin
import Derived.Test.YtapgaclonilnbaaDoorPlow
namespace Go.Proofs.YtapgaclonilnbaaDoor
set_option linter.unusedVariables false

/-- A call that is under way. -/
structure Cl where
  mk ::
  fn : Nat
  rg : List Int
  fr : List Int
  ba : Int
  bk : Nat
  nx : Nat

/-- The machine: the calls below the last one, the last one, which blocks of the heap are in use, their words, what is left of the input, what was printed, how many calls are loud. -/
structure Mc where
  mk ::
  bl : List Cl
  nw : Cl
  us : Nat → Nat → Bool
  wo : Nat → Int
  ip : List Int
  out : List Int
  ld : Int

def Mc.cs (m : Mc) : List Cl := m.bl ++ [m.nw]

/-- What is read of a register. -/
def cw (c : Cl) (r : Int) : Int := if r = -1 then 0 else if r = -2 then wd c.ba else c.rg.getD r.toNat 0
def setR (c : Cl) (r v : Int) : Cl := { c with rg := c.rg.set r.toNat v }
/-- Words one behind the other into registers. -/
def setsR : Cl → List Int → List Int → Cl
  | c, r :: rs, v :: vs => setsR (setR c r v) rs vs
  | c, _, _ => c
def farA (c : Cl) (r n : Int) : Int := wh (wh (cw c r) + wh n)

/-- Where the frame of one more call lies. -/
def roomB (m : Mc) : Int := wh (m.nw.ba + 4 * ((m.nw.fr.length : Int) + 64))

/-- A function of those that are run. -/
def fnO (l : List Lf) (k : Nat) : Lf := l.getD k noF

/-- The call that begins. -/
def newC (l : List Lf) (k : Nat) (ba : Int) (vs : List Int) : Cl :=
  setsR ⟨k, List.replicate (fnO l k).rg.toNat 0, List.replicate (fnO l k).fr.toNat 0, ba, 0, 0⟩ (fnO l k).pa vs

/-- How many calls' frames do not begin behind an address. -/
def nAr (cs : List Cl) (a : Int) : Nat := cs.findIdx fun c => decide (a < c.ba)

/-- One of the calls. -/
def callAt (m : Mc) (i : Nat) : Cl := m.bl.getD i m.nw

/-- The word at an address: of a block of the heap, or of a frame. -/
def atL (m : Mc) (a : Int) : Option (Option Nat × Nat) :=
  if a % 4 = 0 ∧ wiA m.us a 1 (atOf a) = true then some (none, ((a - 262144) / 4).toNat)
  else if nAr m.cs a = 0 then none
  else if a % 4 = 0 ∧ (a - (callAt m (nAr m.cs a - 1)).ba) / 4 < (callAt m (nAr m.cs a - 1)).fr.length then some (some (nAr m.cs a - 1), ((a - (callAt m (nAr m.cs a - 1)).ba) / 4).toNat)
  else none

def ldL (m : Mc) : Option Nat × Nat → Int
  | (none, k) => m.wo k
  | (some i, k) => (callAt m i).fr.getD k 0

def setF (c : Cl) (k : Nat) (v : Int) : Cl := { c with fr := c.fr.set k v }
def stL (m : Mc) (v : Int) : Option Nat × Nat → Mc
  | (none, k) => { m with wo := fun j => if j = k then v else m.wo j }
  | (some i, k) => if i < m.bl.length then { m with bl := m.bl.set i (setF (callAt m i) k v) } else { m with nw := setF m.nw k v }

def setN (m : Mc) (r v : Int) : Mc := { m with nw := setR m.nw r v }

/-- How a run ends, or how it goes on. -/
abbrev Sx := Mc ⊕ (Int × Int)

def trapS : Sx := .inr (4, 0)

/-- A call. -/
def enterS (l : List Lf) (m : Mc) (k : Nat) (vs : List Int) : Sx :=
  if ((fnO l k).qu = false ∧ 48 ≤ m.ld) ∨ 392 ≤ m.cs.length then .inr (2, 0)
  else .inl { m with bl := m.cs, nw := newC l k (roomB m) vs, ld := if (fnO l k).qu then m.ld else m.ld + 1 }

/-- The block of a call, and its instructions. -/
def blkO (l : List Lf) (c : Cl) : Lb := ((fnO l c.fn).bs.getD c.bk ⟨[], ⟨0, 0, 0, 0, 0, ⟨#[]⟩, []⟩⟩)

def noLo : Lo := ⟨0, 0, 0, 0, 0, ⟨#[]⟩, [], []⟩

/-- What is answered at a call's end; none: main has ended. -/
def leaveS (l : List Lf) (m : Mc) (vs : List Int) : Option Mc :=
  let ld := if (fnO l m.nw.fn).qu then m.ld else m.ld - 1
  match m.bl.getLast? with
  | none => none
  | some c => some { m with bl := m.bl.dropLast, nw := setsR c ((blkO l c).li.getD (c.nx - 1) noLo).dsts vs, ld := ld }

/-- An instruction. -/
def instrS (l : List Lf) (m : Mc) (x : Lo) : Sx :=
  if x.op = 1 then .inl (setN m x.d (wd x.n))
  else if x.op = 2 then .inl (setN m x.d (cw m.nw x.a))
  else if x.op = 3 then .inl (setN m x.d (dov x.tx (cw m.nw x.a) (cw m.nw x.b)))
  else if x.op = 4 then .inl (setN m x.d (dov x.tx (cw m.nw x.a) (wd x.n)))
  else if x.op = 5 then (match atL m (farA m.nw x.a x.n) with | none => trapS | some p => .inl (setN m x.d (ldL m p)))
  else if x.op = 6 then (match atL m (farA m.nw x.a x.n) with | none => trapS | some p => .inl (stL m (cw m.nw x.b) p))
  else if x.op = 7 then enterS l m ((byN l x.tx.data.toList).getD 0).toNat (x.args.map (cw m.nw))
  else if x.op = 8 then .inl { m with out := m.out ++ [if x.n = 1 then wh (cw m.nw x.a) else cw m.nw x.a] }
  else if x.op = 9 then .inl (setN { m with ip := m.ip.drop 1 } x.d (wd (m.ip.getD 0 0)))
  else if x.op = 10 then (match alA m.us (clsOf x.n) with | (v, e, us) => if e = 0 then .inl (setN { m with us := us } x.d (wd v)) else .inr (3, 0))
  else if x.op = 11 then (match frA m.us (wh (cw m.nw x.a)) (atOf (wh (cw m.nw x.a))) with | (e, us) => if e = 0 then .inl { m with us := us } else trapS)
  else .inl m

def goC (c : Cl) (b : Int) : Cl := { c with bk := b.toNat, nx := 0 }

/-- A block's end; a run of main's end is OutExit. -/
def termS (l : List Lf) (m : Mc) (t : Le) : Sx :=
  if t.k = 1 then .inl { m with nw := goC m.nw t.to }
  else if t.k = 2 then .inl { m with nw := goC m.nw (if cmpv t.tx (cw m.nw t.a) (cw m.nw t.b) then t.to else t.el) }
  else if t.k = 3 then (match leaveS l m (t.args.map (cw m.nw)) with | none => .inr (1, 0) | some m' => .inl m')
  else .inr (1, 101)

/-- One step. -/
def stepS (l : List Lf) (m : Mc) : Sx :=
  if (blkO l m.nw).li.length ≤ m.nw.nx then termS l m (blkO l m.nw).tm
  else instrS l { m with nw := { m.nw with nx := m.nw.nx + 1 } } ((blkO l m.nw).li.getD m.nw.nx noLo)

/-- A run: how it ended, what was printed, how many steps were run of those there are. -/
def goS (l : List Lf) : Nat → Mc → (Int × Int) × List Int × Nat
  | 0, m => ((0, 0), m.out, 0)
  | n + 1, m => match stepS l m with
    | .inr e => (e, m.out, 1)
    | .inl m' => ((goS l n m').1, (goS l n m').2.1, (goS l n m').2.2 + 1)

/-- The machine at main's beginning. -/
def beginM (l : List Lf) (k : Nat) (ip : List Int) : Mc :=
  ⟨[], newC l k 1234567892 [], fun _ _ => false, fun _ => 0, ip, [], if (fnO l k).qu then 0 else 1⟩

/-- Functions that are run. -/
def runS (l : List Lf) (ip : List Int) (fuel : Nat) : (Int × Int) × List Int × Nat :=
  match byN l [109, 97, 105, 110] with
  | none => ((5, 0), [], 0)
  | some k => if (fnO l k.toNat).pa.length ≠ 0 ∨ (fnO l k.toNat).an ≠ 0 then ((5, 0), [], 0) else goS l fuel (beginM l k.toNat ip)

end Go.Proofs.YtapgaclonilnbaaDoor
