/-
  Proved: nothing yet: low's machine as a pure function: a call, the machine, one step, a run.
-/
import Derived.Test.YtapgaclonilnbaaDoorGa
import Derived.Test.YtapgaclonilnbaaDoorGb
import Derived.Test.YtapgaclonilnbaaDoorGc
import Derived.Deep.OwnRows
namespace Go.Proofs.YtapgaclonilnbaaDoor
set_option linter.unusedVariables false

/-- A call that is under way. -/
structure Cl where
  mk ::
  fn : Nat
  rg : List Int
  fr : List Int
  ba : Int
  bk : Nat
  nx : Nat

/-- The machine: the calls below the last one, the last one, which blocks of the heap are in use, their words, what is left of the input, what was printed, how many calls are loud. -/
structure Mc where
  mk ::
  bl : List Cl
  nw : Cl
  us : Nat → Nat → Bool
  wo : Nat → Int
  ip : List Int
  out : List Int
  ld : Int

def Mc.cs (m : Mc) : List Cl := m.bl ++ [m.nw]

/-- What is read of a register. -/
def cw (c : Cl) (r : Int) : Int := if r = -1 then 0 else if r = -2 then wd c.ba else c.rg.getD r.toNat 0
def setR (c : Cl) (r v : Int) : Cl := { c with rg := c.rg.set r.toNat v }
/-- Words one behind the other into registers. -/
def setsR : Cl → List Int → List Int → Cl
  | c, r :: rs, v :: vs => setsR (setR c r v) rs vs
  | c, _, _ => c
def farA (c : Cl) (r n : Int) : Int := wh (wh (cw c r) + wh n)

/-- Where the frame of one more call lies. -/
def roomB (m : Mc) : Int := wh (m.nw.ba + 4 * ((m.nw.fr.length : Int) + 64))

/-- A function of those that are run. -/
def fnO (l : List Lf) (k : Nat) : Lf := l.getD k noF

/-- The call that begins. -/
def newC (l : List Lf) (k : Nat) (ba : Int) (vs : List Int) : Cl :=
  setsR ⟨k, List.replicate (fnO l k).rg.toNat 0, List.replicate (fnO l k).fr.toNat 0, ba, 0, 0⟩ (fnO l k).pa vs

/-- How many calls' frames do not begin behind an address. -/
def nAr (cs : List Cl) (a : Int) : Nat := cs.findIdx fun c => decide (a < c.ba)

/-- One of the calls. -/
def callAt (m : Mc) (i : Nat) : Cl := m.bl.getD i m.nw

/-- The word at an address: of a block of the heap, or of a frame. -/
def atL (m : Mc) (a : Int) : Option (Option Nat × Nat) :=
  if a % 4 = 0 ∧ wiA m.us a 1 (atOf a) = true then some (none, ((a - 262144) / 4).toNat)
  else if nAr m.cs a = 0 then none
  else if a % 4 = 0 ∧ (a - (callAt m (nAr m.cs a - 1)).ba) / 4 < (callAt m (nAr m.cs a - 1)).fr.length then some (some (nAr m.cs a - 1), ((a - (callAt m (nAr m.cs a - 1)).ba) / 4).toNat)
  else none

def ldL (m : Mc) : Option Nat × Nat → Int
  | (none, k) => m.wo k
  | (some i, k) => (callAt m i).fr.getD k 0

def setF (c : Cl) (k : Nat) (v : Int) : Cl := { c with fr := c.fr.set k v }
def stL (m : Mc) (v : Int) : Option Nat × Nat → Mc
  | (none, k) => { m with wo := fun j => if j = k then v else m.wo j }
  | (some i, k) => if i < m.bl.length then { m with bl := m.bl.set i (setF (callAt m i) k v) } else { m with nw := setF m.nw k v }

def setN (m : Mc) (r v : Int) : Mc := { m with nw := setR m.nw r v }

/-- How a run ends, or how it goes on. -/
abbrev Sx := Mc ⊕ (Int × Int)

def trapS : Sx := .inr (4, 0)

/-- A call. -/
def enterS (l : List Lf) (m : Mc) (k : Nat) (vs : List Int) : Sx :=
  if ((fnO l k).qu = false ∧ 48 ≤ m.ld) ∨ 392 ≤ m.cs.length then .inr (2, 0)
  else .inl { m with bl := m.cs, nw := newC l k (roomB m) vs, ld := if (fnO l k).qu then m.ld else m.ld + 1 }

/-- The block of a call, and its instructions. -/
def blkO (l : List Lf) (c : Cl) : Lb := ((fnO l c.fn).bs.getD c.bk ⟨[], ⟨0, 0, 0, 0, 0, ⟨#[]⟩, []⟩⟩)

def noLo : Lo := ⟨0, 0, 0, 0, 0, ⟨#[]⟩, [], []⟩

/-- What is answered at a call's end; none: main has ended. -/
def leaveS (l : List Lf) (m : Mc) (vs : List Int) : Option Mc :=
  let ld := if (fnO l m.nw.fn).qu then m.ld else m.ld - 1
  match m.bl.getLast? with
  | none => none
  | some c => some { m with bl := m.bl.dropLast, nw := setsR c ((blkO l c).li.getD (c.nx - 1) noLo).dsts vs, ld := ld }

/-- An instruction. -/
def instrS (l : List Lf) (m : Mc) (x : Lo) : Sx :=
  if x.op = 1 then .inl (setN m x.d (wd x.n))
  else if x.op = 2 then .inl (setN m x.d (cw m.nw x.a))
  else if x.op = 3 then .inl (setN m x.d (dov x.tx (cw m.nw x.a) (cw m.nw x.b)))
  else if x.op = 4 then .inl (setN m x.d (dov x.tx (cw m.nw x.a) (wd x.n)))
  else if x.op = 5 then (match atL m (farA m.nw x.a x.n) with | none => trapS | some p => .inl (setN m x.d (ldL m p)))
  else if x.op = 6 then (match atL m (farA m.nw x.a x.n) with | none => trapS | some p => .inl (stL m (cw m.nw x.b) p))
  else if x.op = 7 then enterS l m ((byN l x.tx.data.toList).getD 0).toNat (x.args.map (cw m.nw))
  else if x.op = 8 then .inl { m with out := m.out ++ [if x.n = 1 then wh (cw m.nw x.a) else cw m.nw x.a] }
  else if x.op = 9 then .inl (setN { m with ip := m.ip.drop 1 } x.d (wd (m.ip.getD 0 0)))
  else if x.op = 10 then (match alA m.us (clsOf x.n) with | (v, e, us) => if e = 0 then .inl (setN { m with us := us } x.d (wd v)) else .inr (3, 0))
  else if x.op = 11 then (match frA m.us (wh (cw m.nw x.a)) (atOf (wh (cw m.nw x.a))) with | (e, us) => if e = 0 then .inl { m with us := us } else trapS)
  else .inl m

def goC (c : Cl) (b : Int) : Cl := { c with bk := b.toNat, nx := 0 }

/-- A block's end; a run of main's end is OutExit. -/
def termS (l : List Lf) (m : Mc) (t : Le) : Sx :=
  if t.k = 1 then .inl { m with nw := goC m.nw t.to }
  else if t.k = 2 then .inl { m with nw := goC m.nw (if cmpv t.tx (cw m.nw t.a) (cw m.nw t.b) then t.to else t.el) }
  else if t.k = 3 then (match leaveS l m (t.args.map (cw m.nw)) with | none => .inr (1, 0) | some m' => .inl m')
  else .inr (1, 101)

/-- One step. -/
def stepS (l : List Lf) (m : Mc) : Sx :=
  if (blkO l m.nw).li.length ≤ m.nw.nx then termS l m (blkO l m.nw).tm
  else instrS l { m with nw := { m.nw with nx := m.nw.nx + 1 } } ((blkO l m.nw).li.getD m.nw.nx noLo)

/-- A run: how it ended, what was printed, how many steps were run of those there are. -/
def goS (l : List Lf) : Nat → Mc → (Int × Int) × List Int × Nat
  | 0, m => ((0, 0), m.out, 0)
  | n + 1, m => match stepS l m with
    | .inr e => (e, m.out, 1)
    | .inl m' => ((goS l n m').1, (goS l n m').2.1, (goS l n m').2.2 + 1)

/-- The machine at main's beginning. -/
def beginM (l : List Lf) (k : Nat) (ip : List Int) : Mc :=
  ⟨[], newC l k 1234567892 [], fun _ _ => false, fun _ => 0, ip, [], if (fnO l k).qu then 0 else 1⟩

/-- Functions that are run. -/
def runS (l : List Lf) (ip : List Int) (fuel : Nat) : (Int × Int) × List Int × Nat :=
  match byN l [109, 97, 105, 110] with
  | none => ((5, 0), [], 0)
  | some k => if (fnO l k.toNat).pa.length ≠ 0 ∨ (fnO l k.toNat).an ≠ 0 then ((5, 0), [], 0) else goS l fuel (beginM l k.toNat ip)

end Go.Proofs.YtapgaclonilnbaaDoor

/-
  Proved: how low's machine lies in memory: blocks cell by cell, a call, the whole; that it stays where other blocks turn.
-/
namespace Go.Proofs.YtapgaclonilnbaaDoor
open Go.RowKit
set_option linter.unusedVariables false
set_option linter.unusedSimpArgs false

/-! rows -/

/-- A block of m cells, and spare room. -/
def GZ (t : TypeId) (w : World) (B m : Nat) (f : Nat → Value) : Prop := ∃ cs, At w B cs t ∧ ∀ i, i < m → cs[i]? = some (f i)
def pu {α : Type} (f : Nat → α) (i : Nat) (x : α) : Nat → α := fun j => if j = i then x else f j

theorem GZ.lt {t : TypeId} {w : World} {B m : Nat} {f : Nat → Value} (h : GZ t w B m f) : B < w.heap.size := by
  obtain ⟨cs, h1, _⟩ := h
  exact h1.lt
theorem GZ.cell {t : TypeId} {w : World} {B m : Nat} {f : Nat → Value} (h : GZ t w B m f) (i : Nat) (hi : i < m) : w.cell? ⟨B, i, none⟩ = some (f i) := by
  obtain ⟨cs, h1, h2⟩ := h
  rw [h1.cell, h2 i hi]
theorem GZ.frozen {t : TypeId} {w : World} {B m : Nat} {f : Nat → Value} (h : GZ t w B m f) (i : Nat) : w.frozen? ⟨B, i, none⟩ = false := by
  obtain ⟨cs, h1, _⟩ := h
  exact h1.frozen i
theorem GZ.kp {t : TypeId} {G : Nat → Prop} {w w' : World} {B m : Nat} {f : Nat → Value} (h : GZ t w B m f) (k : Kp G w w') (hG : ¬ G B) : GZ t w' B m f := by
  obtain ⟨cs, h1, h2⟩ := h
  exact ⟨cs, k.at h1 hG, h2⟩
theorem GZ.below {t : TypeId} {n : Nat} {w w' : World} {B m : Nat} {f : Nat → Value} (h : GZ t w B m f) (k : Below n w w') (hn : B < n) : GZ t w' B m f := by
  obtain ⟨cs, h1, h2⟩ := h
  exact ⟨cs, h1.below k hn, h2⟩
theorem GZ.set {t : TypeId} {w : World} {B m : Nat} {f : Nat → Value} (h : GZ t w B m f) (i : Nat) (hi : i < m) (x : Value) : GZ t (w.setCell ⟨B, i, none⟩ x) B m (pu f i x) := by
  obtain ⟨cs, h1, h2⟩ := h
  refine ⟨_, h1.set (j := i) _, fun j hj => ?_⟩
  have hs : i < cs.size := (Array.getElem?_eq_some_iff.1 (h2 i hi)).1
  rw [Array.getElem?_setIfInBounds]
  unfold pu
  by_cases e : i = j
  · subst e
    simp [hs]
  · have e' : ¬ j = i := fun h => e h.symm
    rw [if_neg e, if_neg e']
    exact h2 j hj
theorem GZ.ext {t : TypeId} {w : World} {B m : Nat} {f g : Nat → Value} (h : GZ t w B m f) (e : ∀ i, i < m → f i = g i) : GZ t w B m g := by
  obtain ⟨cs, h1, h2⟩ := h
  exact ⟨cs, h1, fun i hi => by rw [← e i hi]; exact h2 i hi⟩
theorem made_get (z : Value) (n i : Nat) (hi : i < n) : (madeCells #[z] n)[i]? = some z := by
  rw [Array.getElem?_eq_getElem (by rw [size_madeCells]; exact hi)]
  simp [madeCells, Nat.mod_one]

theorem info32 : (Tryd.prog.info? 21).map (fun i => (i.zero, i.size, i.bytes)) = some (some (.int .i32 0), 1, 4) := by kernel_rfl
theorem make_w (n : Nat) (hn : n ≤ 100000) (w : World) : (Instr.makeSlice 81 (.int .i64 (n : Int)) (.int .i64 (n : Int))).run Tryd.prog w = .ok (.slice (some ⟨w.heap.size, 0, none⟩) n n) (w.alloc (.cells (madeCells #[.int .i32 0] n) 21)) :=
  run_make_row' (P := Tryd.prog) 81 21 (.int .i32 0) 4 Tryd.underlying81 info32 rfl .i64 .i64 n (by omega) (by omega) w

/-- A block of words. -/
def WZ (w : World) (B m : Nat) (f : Nat → Int) : Prop := GZ 21 w B m fun i => .int .i32 (f i)
theorem WZ.made (w : World) (n : Nat) : WZ (w.alloc (.cells (madeCells #[.int .i32 0] n) 21)) w.heap.size n (fun _ => 0) :=
  ⟨_, At.new w _ _, fun i hi => made_get _ _ _ hi⟩
theorem WZ.set {w : World} {B m : Nat} {f : Nat → Int} (h : WZ w B m f) (i : Nat) (hi : i < m) (x : Int) : WZ (w.setCell ⟨B, i, none⟩ (.int .i32 x)) B m (pu f i x) :=
  (GZ.set h i hi _).ext fun j _ => by unfold pu; split <;> rfl
theorem WZ.ext {w : World} {B m : Nat} {f g : Nat → Int} (h : WZ w B m f) (e : ∀ i, i < m → f i = g i) : WZ w B m g := GZ.ext h fun i hi => by rw [e i hi]

/-- What stays the same while functions are run: the functions, where they lie, the map of names, the machine's block, the heap's, the fuel, the world at the beginning. -/
structure Cx where
  mk ::
  l : List Lf
  lA : Option Addr
  lC : Nat
  mb : Nat
  mn : Nat
  R : Nat
  hb : Nat
  g : Nat → Nat
  fu : Int
  wz : World
  xb : Nat
  xo : Option Obj

/-- The map of names, and a block that is none of the machine's. -/
def MpS (X : Cx) (w : World) : Prop := MapS w X.mb X.mn (byN X.l) ∧ w.heap[X.xb]? = X.xo ∧ X.xb < w.heap.size
theorem MpS.lt {X : Cx} {w : World} (h : MpS X w) : X.mb < w.heap.size := MapS.lt h.1
theorem MpS.lx {X : Cx} {w : World} (h : MpS X w) : X.xb < w.heap.size := h.2.2
theorem MpS.stay {X : Cx} {w w' : World} (h : MpS X w) (e1 : w'.heap[X.mb]? = w.heap[X.mb]?) (e2 : w'.heap[X.xb]? = w.heap[X.xb]?) (e3 : w.heap.size ≤ w'.heap.size) : MpS X w' := ⟨MapS.stay h.1 e1, e2.trans h.2.1, Nat.lt_of_lt_of_le h.2.2 e3⟩
theorem MpS.below {X : Cx} {w w' : World} (h : MpS X w) (k : Below w.heap.size w w') : MpS X w' := h.stay (k.block _ h.lt) (k.block _ h.lx) k.size

/-- Where a function lies. -/
def fpV (X : Cx) (k : Nat) : Value := .pointer (X.lA.map fun a => ⟨a.block, a.off + k * 7, none⟩)

/-- The cells of a call. -/
def clF (X : Cx) (c : Cl) (rb fb : Nat) : Nat → Value
  | 0 => fpV X c.fn
  | 1 => .slice (some ⟨rb, 0, none⟩) c.rg.length c.rg.length
  | 2 => .slice (some ⟨fb, 0, none⟩) c.fr.length c.fr.length
  | 3 => .int .u32 c.ba
  | 4 => .int .i64 (c.bk : Int)
  | 5 => .int .i64 (c.nx : Int)
  | _ => undef

/-- A call in memory. -/
structure CallIn (X : Cx) (c : Cl) (pb rb fb : Nat) (w : World) : Prop where
  s : GZ 85 w pb 6 (clF X c rb fb)
  r : WZ w rb c.rg.length fun i => c.rg.getD i 0
  f : WZ w fb c.fr.length fun i => c.fr.getD i 0

/-- The cells of the machine. -/
def rnF (X : Cx) (m : Mc) (st : Int) (cv pv iv : Value) (pn : Nat) : Nat → Value
  | 0 => .slice X.lA X.l.length X.lC
  | 1 => .map (some X.mb)
  | 2 => iv
  | 3 => .int .i64 X.fu
  | 4 => .int .i64 st
  | 5 => pv
  | 6 => cv
  | 7 => .pointer (some ⟨pn, 0, none⟩)
  | 8 => .int .i64 m.ld
  | 9 => .pointer (some ⟨X.hb, 0, none⟩)
  | k + 10 => .int .i32 (m.wo k)

/-- The input that is left. -/
def InpIn (w : World) (l : List Int) (v : Value) : Prop := ∃ A C, v = .slice A l.length C ∧ l.length ≤ C ∧ C ≤ 281474976710656 ∧ Rel w 1 GI l A

def ptC (p : Nat) : List Value := [.pointer (some ⟨p, 0, none⟩)]
def noC (n : Int) : List Value := [.int .i64 n]

/-- Where the machine lies: the calls' structs, registers, frames; the list of calls, what was printed, the input; each block's part. -/
structure Ly where
  mk ::
  pb : Nat → Nat
  rb : Nat → Nat
  fb : Nat → Nat
  cv : Value
  pv : Value
  iv : Value
  ro : Nat → Nat

/-- Which block has which part. -/
structure Ros (X : Cx) (L : Ly) (n : Nat) : Prop where
  r : L.ro X.R = 0
  h : L.ro X.hb = 1
  g : ∀ c, c < 4 → L.ro (X.g c) = 2 + c
  c : ∀ b, L.cv.ownBlock = some b → L.ro b = 6
  p : ∀ b, L.pv.ownBlock = some b → L.ro b = 7
  m : L.ro X.mb = 8 ∧ L.ro X.xb = 8
  s : ∀ i, i < n → L.ro (L.pb i) = 10 + 3 * i ∧ L.ro (L.rb i) = 11 + 3 * i ∧ L.ro (L.fb i) = 12 + 3 * i

/-- The machine in memory; pn: the last call. -/
structure MS (X : Cx) (m : Mc) (st : Int) (L : Ly) (w : World) : Prop where
  tb : Tab X.wz
  bz : Below X.wz.heap.size X.wz w
  hl : LfsIn X.wz X.l (.slice X.lA X.l.length X.lC)
  mp : MpS X w
  rr : GZ 56 w X.R 2826 (rnF X m st L.cv L.pv L.iv (L.pb m.bl.length))
  hh : HIn w X.hb X.g m.us
  cc : OwnB 52 1 ptC X.wz.heap.size ((List.range (m.bl.length + 1)).map L.pb) L.cv w
  pp : OwnB 3 1 noC X.wz.heap.size m.out L.pv w
  ii : InpIn X.wz m.ip L.iv
  kb : ∀ i (h : i < m.bl.length), CallIn X (m.bl[i]'h) (L.pb i) (L.rb i) (L.fb i) w
  now : CallIn X m.nw (L.pb m.bl.length) (L.rb m.bl.length) (L.fb m.bl.length) w
  ro : Ros X L (m.bl.length + 1)
  zz : ∀ b, b < X.wz.heap.size → L.ro b = 9

section
variable {X : Cx} {c : Cl} {pb rb fb : Nat} {w w' : World}
theorem CallIn.kp {G : Nat → Prop} (h : CallIn X c pb rb fb w) (k : Kp G w w') (h1 : ¬ G pb) (h2 : ¬ G rb) (h3 : ¬ G fb) : CallIn X c pb rb fb w' := ⟨h.s.kp k h1, GZ.kp h.r k h2, GZ.kp h.f k h3⟩
theorem CallIn.below (h : CallIn X c pb rb fb w) (k : Below w.heap.size w w') : CallIn X c pb rb fb w' := h.kp (G := fun _ => False) (Kp.of_below k) id id id
theorem GZ.beW {t : TypeId} {B m : Nat} {f : Nat → Value} (h : GZ t w B m f) (k : Below w.heap.size w w') : GZ t w' B m f := h.below k h.lt
end

section
variable {X : Cx} {m : Mc} {st : Int} {L : Ly} {w w' : World}
theorem MS.tab (h : MS X m st L w) : Tab w := h.tb.below h.bz h.tb.lt
theorem MS.lfs (h : MS X m st L w) : LfsIn w X.l (.slice X.lA X.l.length X.lC) := h.hl.below h.bz
/-- A machine's block is not an old one. -/
theorem MS.new (h : MS X m st L w) {b k : Nat} (hr : L.ro b = k) (hk : k ≠ 9) : X.wz.heap.size ≤ b := by
  rcases Nat.lt_or_ge b X.wz.heap.size with e | e
  · have := h.zz b e
    omega
  · exact e
theorem MS.below (h : MS X m st L w) (k : Below w.heap.size w w') : MS X m st L w' :=
  ⟨h.tb, h.bz.trans (k.mono h.bz.size), h.hl, h.mp.below k, h.rr.beW k, h.hh.below k, h.cc.below k, h.pp.below k, h.ii, fun i hi => (h.kb i hi).below k, h.now.below k, h.ro, h.zz⟩

theorem MS.at (h : MS X m st L w) (i : Nat) (hi : i ≤ m.bl.length) : CallIn X (callAt m i) (L.pb i) (L.rb i) (L.fb i) w := by
  unfold callAt
  rw [List.getD_eq_getElem?_getD]
  rcases Nat.lt_or_ge i m.bl.length with e | e
  · rw [List.getElem?_eq_getElem e]; exact h.kb i e
  · obtain rfl : i = m.bl.length := by omega
    rw [List.getElem?_eq_none e]; exact h.now

/-- What stays where only blocks of some parts turn. -/
structure Sty (X : Cx) (m : Mc) (st : Int) (L : Ly) (P : Nat → Prop) (w' : World) : Prop where
  bz : ¬ P 9 → Below X.wz.heap.size X.wz w'
  mp : ¬ P 8 → MpS X w'
  rr : ¬ P 0 → GZ 56 w' X.R 2826 (rnF X m st L.cv L.pv L.iv (L.pb m.bl.length))
  hh : (∀ c, c < 5 → ¬ P (1 + c)) → HIn w' X.hb X.g m.us
  cc : ¬ P 6 → OwnB 52 1 ptC X.wz.heap.size ((List.range (m.bl.length + 1)).map L.pb) L.cv w'
  pp : ¬ P 7 → OwnB 3 1 noC X.wz.heap.size m.out L.pv w'
  kb : ∀ i (h : i < m.bl.length), ¬ P (10 + 3 * i) → ¬ P (11 + 3 * i) → ¬ P (12 + 3 * i) → CallIn X (m.bl[i]'h) (L.pb i) (L.rb i) (L.fb i) w'
  ns : ¬ P (10 + 3 * m.bl.length) → GZ 85 w' (L.pb m.bl.length) 6 (clF X m.nw (L.rb m.bl.length) (L.fb m.bl.length))
  nr : ¬ P (11 + 3 * m.bl.length) → WZ w' (L.rb m.bl.length) m.nw.rg.length fun i => m.nw.rg.getD i 0
  nf : ¬ P (12 + 3 * m.bl.length) → WZ w' (L.fb m.bl.length) m.nw.fr.length fun i => m.nw.fr.getD i 0

theorem MS.stay (h : MS X m st L w) {P : Nat → Prop} (k : Kp (fun b => P (L.ro b)) w w') : Sty X m st L P w' := by
  have n1 : ∀ b q, L.ro b = q → ¬ P q → ¬ P (L.ro b) := fun b q e hn => by rw [e]; exact hn
  refine ⟨fun hn => ?_, fun hn => h.mp.stay (k.2 _ h.mp.lt (n1 _ _ h.ro.m.1 hn)) (k.2 _ h.mp.lx (n1 _ _ h.ro.m.2 hn)) k.1.size, fun hn => h.rr.kp k (n1 _ _ h.ro.r hn), fun hn => h.hh.keep fun b hb => ?_, fun hn => h.cc.but k fun b hb => n1 _ _ (h.ro.c b hb) hn, fun hn => h.pp.but k fun b hb => n1 _ _ (h.ro.p b hb) hn, fun i hi h1 h2 h3 => ?_, fun hn => ?_, fun hn => ?_, fun hn => ?_⟩
  · refine h.bz.trans (k.below h.bz.size fun b hb => ?_)
    rcases Nat.lt_or_ge b X.wz.heap.size with e | e
    · rw [h.zz b e] at hb; exact absurd hb hn
    · exact e
  · rcases hb with rfl | ⟨c, hc, rfl⟩
    · exact k.2 _ h.hh.head.lt (n1 _ _ h.ro.h (hn 0 (by omega)))
    · refine k.2 _ ?_ (n1 _ _ (h.ro.g c hc) (by have := hn (c + 1) (by omega); rwa [show 1 + (c + 1) = 2 + c by omega] at this))
      exact World.block_lt_of_cell? _ _ (h.hh.bit hc (show 0 < bl c by have := span_le c; omega))
  · have := h.ro.s i (by omega)
    exact (h.kb i hi).kp k (n1 _ _ this.1 h1) (n1 _ _ this.2.1 h2) (n1 _ _ this.2.2 h3)
  · exact h.now.s.kp k (n1 _ _ (h.ro.s _ (Nat.lt_succ_self _)).1 hn)
  · exact GZ.kp h.now.r k (n1 _ _ (h.ro.s _ (Nat.lt_succ_self _)).2.1 hn)
  · exact GZ.kp h.now.f k (n1 _ _ (h.ro.s _ (Nat.lt_succ_self _)).2.2 hn)

/-- One cell turns. -/
theorem MS.turn (h : MS X m st L w) {b q : Nat} (hb : L.ro b = q) (j : Nat) (v : Value) : Sty X m st L (fun x => x = q) (w.setCell ⟨b, j, none⟩ v) := h.stay (P := fun x => x = q) (Kp.set w j v hb)

/-- A word of the last call's registers. -/
theorem MS.reg (h : MS X m st L w) (r : Nat) (hr : r < m.nw.rg.length) (v : Int) : MS X (setN m (r : Int) v) st L (w.setCell ⟨L.rb m.bl.length, r, none⟩ (.int .i32 v)) := by
  have q := h.turn (h.ro.s _ (Nat.lt_succ_self m.bl.length)).2.1 r (.int .i32 v)
  have e : (setN m (r : Int) v).nw.rg = m.nw.rg.set r v := by simp [setN, setR]
  have el : (setN m (r : Int) v).nw.rg.length = m.nw.rg.length := by rw [e]; simp
  refine ⟨h.tb, q.bz (by show ¬ _ = _; omega), h.hl, q.mp (by show ¬ _ = _; omega), q.rr (by show ¬ _ = _; omega), q.hh (fun c hc => by show ¬ _ = _; omega), q.cc (by show ¬ _ = _; omega), q.pp (by show ¬ _ = _; omega), h.ii, fun i hi => ?_, ⟨(q.ns (by show ¬ _ = _; omega)).ext fun i hi => ?_, ?_, q.nf (by show ¬ _ = _; omega)⟩, h.ro, h.zz⟩
  · have hi : i < m.bl.length := hi
    exact q.kb i hi (by show ¬ _ = _; omega) (by show ¬ _ = _; omega) (by show ¬ _ = _; omega)
  · rcases i with _ | _ | _ | _ | _ | _ | i <;> first | rfl | (show Value.slice _ m.nw.rg.length m.nw.rg.length = Value.slice _ (setN m (r : Int) v).nw.rg.length (setN m (r : Int) v).nw.rg.length; rw [el]; rfl) | omega
  · refine WZ.ext (f := pu (fun i => m.nw.rg.getD i 0) r v) ?_ fun i hi => ?_
    · show WZ _ _ (setN m (r : Int) v).nw.rg.length _
      rw [el]
      exact h.now.r.set r hr v
    · show _ = (setN m (r : Int) v).nw.rg.getD i 0
      rw [e]
      unfold pu
      by_cases e2 : i = r
      · subst e2; simp [hr]
      · rw [if_neg e2]
        have e3 : ¬ r = i := fun h => e2 h.symm
        simp [List.getD_eq_getElem?_getD, List.getElem?_set, e3]
end

end Go.Proofs.YtapgaclonilnbaaDoor

/-
  Proved: what the machine's small functions answer: a register's word, a word set, an address, a block gone to, an end.
-/
namespace Go.Proofs.YtapgaclonilnbaaDoor
open Go.RowKit
set_option linter.unusedVariables false
set_option linter.unusedSimpArgs false

/-- Words. -/
def I32 (n : Int) : Prop := -2147483648 ≤ n ∧ n ≤ 2147483647

theorem conv_i32 (n : Int) : IntKind.i32.wrap n = wd n := by rw [IntKind.wrap_i32]; rfl
theorem conv_u32 (n : Int) : IntKind.u32.wrap n = wh n := by rw [IntKind.wrap_u32]; rfl

set_option maxHeartbeats 1000000 in
theorem cword_c {X : Cx} {c : Cl} {pb rb fb : Nat} {w : World} (h : CallIn X c pb rb fb w) (r : Int) (hr : bgB c.rg.length r = true) : Calls Tryd.prog 38 #[.pointer (some ⟨pb, 0, none⟩), .int .i64 r] w fun e w' => e = .returned (.int .i32 (cw c r)) ∧ w' = w := by
  have c1 := h.s.cell 1 (by omega)
  have c3 := h.s.cell 3 (by omega)
  simp only [clF] at c1 c3
  by_cases h1 : r = -1
  · subst h1
    rw [show cw c (-1) = 0 from rfl]
    clear hr
    go_enter Tryd.func38, Tryd.ntmps38
    go_wp2
    go_ret
    exact ⟨rfl, rfl⟩
  · by_cases h2 : r = -2
    · subst h2
      rw [show cw c (-2) = wd c.ba from rfl, ← wrap_wd]
      clear hr
      go_enter Tryd.func38, Tryd.ntmps38
      go_wp2
      go_ret
      exact ⟨rfl, rfl⟩
    · have hr2 : 0 ≤ r ∧ r < c.rg.length := by
        unfold bgB rdB rgB at hr
        simp only [Bool.or_eq_true, Bool.and_eq_true, decide_eq_true_eq] at hr
        omega
      obtain ⟨k, rfl⟩ : ∃ k : Nat, r = k := ⟨r.toNat, by omega⟩
      have hk : k < c.rg.length := by omega
      have c4 : w.cell? ⟨rb, k, none⟩ = some (.int .i32 (c.rg.getD k 0)) := h.r.cell k hk
      have e : cw c (k : Int) = c.rg.getD k 0 := by unfold cw; rw [if_neg h1, if_neg h2]; rfl
      rw [e]
      clear hr e
      generalize c.rg.getD k 0 = v at *
      go_enter Tryd.func38, Tryd.ntmps38
      go_wp2
      go_ret
      exact ⟨rfl, rfl⟩

set_option maxHeartbeats 1000000 in
theorem set_c {X : Cx} {c : Cl} {pb rb fb : Nat} {w : World} (h : CallIn X c pb rb fb w) (r v : Int) (h0 : 0 ≤ r) (h1 : r < c.rg.length) : Calls Tryd.prog 25 #[.pointer (some ⟨pb, 0, none⟩), .int .i64 r, .int .i32 v] w fun e w' => e = .returned (.tuple #[]) ∧ w' = w.setCell ⟨rb, r.toNat, none⟩ (.int .i32 v) := by
  obtain ⟨k, rfl⟩ : ∃ k : Nat, r = k := ⟨r.toNat, by omega⟩
  have c1 := h.s.cell 1 (by omega)
  simp only [clF] at c1
  have hk : k < c.rg.length := by omega
  have c4 := h.r.cell k hk
  have f4 := GZ.frozen h.r k
  rw [Int.toNat_natCast]
  generalize c.rg.getD k 0 = v at *
  go_enter Tryd.func25, Tryd.ntmps25
  go_wp2
  go_end0
  exact ⟨rfl, rfl⟩

set_option maxHeartbeats 1000000 in
theorem far_c {X : Cx} {c : Cl} {pb rb fb : Nat} {w : World} (h : CallIn X c pb rb fb w) (r n : Int) (hr : bgB c.rg.length r = true) : Calls Tryd.prog 43 #[.pointer (some ⟨pb, 0, none⟩), .int .i64 r, .int .i64 n] w fun e w' => e = .returned (.int .u32 (farA c r n)) ∧ w' = w := by
  have W := fun w (h : CallIn X c pb rb fb w) => cword_c h r hr
  have HW : Hid (Calls Tryd.prog 38 #[.pointer (some ⟨pb, 0, none⟩), .int .i64 r] w fun e w' => e = .returned (.int .i32 (cw c r)) ∧ w' = w) := W w h
  unfold farA
  rw [← conv_u32 (_ + _), ← conv_u32 (cw c r), ← conv_u32 n]
  clear W hr h
  generalize cw c r = x at *
  go_enter Tryd.func43, Tryd.ntmps43
  go_wp2_with (go_at_call 38; refine (HW.out).mono ?_; rintro e w1 ⟨rfl, hw⟩; rw [hw]; clear hw w1)
  go_ret
  exact ⟨rfl, rfl⟩

set_option maxHeartbeats 1000000 in
theorem goTo_c {X : Cx} {c : Cl} {pb rb fb : Nat} {w : World} (h : CallIn X c pb rb fb w) (b : Int) : Calls Tryd.prog 36 #[.pointer (some ⟨pb, 0, none⟩), .int .i64 b] w fun e w' => e = .returned (.tuple #[]) ∧ w' = (w.setCell ⟨pb, 4, none⟩ (.int .i64 b)).setCell ⟨pb, 5, none⟩ (.int .i64 0) := by
  have c4 := h.s.cell 4 (by omega)
  have c5 := h.s.cell 5 (by omega)
  simp only [clF] at c4 c5
  have f4 := h.s.frozen 4
  have f5 := h.s.frozen 5
  clear h
  go_enter Tryd.func36, Tryd.ntmps36
  go_wp2
  go_end0
  exact ⟨rfl, rfl⟩

set_option maxHeartbeats 1000000 in
theorem done_c (s : ByteArray) (a b : Int) (w : World) (ha : I32 a) : Calls Tryd.prog 41 #[.string s, .int .i32 a, .int .i64 b] w fun e w' => e = .returned (.int .i32 (dov s a (wd b))) ∧ Below w.heap.size w w' := by
  obtain ⟨f, D⟩ := dop_all s
  have hl := D.low a (wd b) ha.1 ha.2 (wd_in b).1 (wd_in b).2
  have HD : Hid (∀ w : World, Calls Tryd.prog 29 #[.string s, .int .i64 a, .int .i64 b] w fun e w' => e = .returned (.tuple #[.int .i64 (dov s a (wd b)), .bool f]) ∧ Below w.heap.size w w') := fun w => by
    have := pDo_c D a b w
    rwa [wd_of a ha] at this
  obtain ⟨a1, a2⟩ := ha
  generalize dov s a (wd b) = v at *
  obtain ⟨l1, l2⟩ := hl
  clear D
  go_enter Tryd.func41, Tryd.ntmps41
  go_wp2_with (go_at_call 29; refine (HD.out _).mono ?_; rintro e w1 ⟨rfl, hb⟩)
  go_ret
  exact ⟨rfl, hb⟩

/-- How a run ends in the midst of something. -/
def endV (k c : Int) : Value := .iface 48 (.agg #[.int .i64 k, .int .i64 c])
set_option maxHeartbeats 1000000 in
theorem stop_c (k c : Int) (w : World) : Calls Tryd.prog 17 #[.int .i64 k, .int .i64 c] w fun e w' => e = .panicked [{ v := endV k c, recovered := false }] ∧ w' = w := by
  have hp : (Instr.panic (.iface 48 (.agg #[.int .i64 k, .int .i64 c]))).run Tryd.prog w = .halt (.panic (.iface 48 (.agg #[.int .i64 k, .int .i64 c]))) w := rfl
  go_enter Tryd.func17, Tryd.ntmps17
  go_wp2
  exact ⟨rfl, rfl, rfl⟩

set_option maxHeartbeats 1000000 in
theorem trap_c (w : World) : Calls Tryd.prog 54 #[] w fun e w' => e = .panicked [{ v := endV 4 0, recovered := false }] ∧ w' = w := by
  have HE := fun w => stop_c 4 0 w
  go_enter Tryd.func54, Tryd.ntmps54
  go_wp2_with (go_at_call 17; refine (HE _).mono ?_; rintro e w1 ⟨rfl, hw⟩; rw [hw]; clear hw w1)
  exact ⟨rfl, rfl, rfl⟩
end Go.Proofs.YtapgaclonilnbaaDoor

/-
  Proved: what the machine's functions answer that read, or make memory alone: where the next frame lies, the words of several registers.
-/
namespace Go.Proofs.YtapgaclonilnbaaDoor
open Go.RowKit
set_option linter.unusedVariables false
set_option linter.unusedSimpArgs false

theorem drw {B m : Nat} {w w' : World} (h : Below B w w') : Below B w (w'.drewN m) := ⟨h.os, h.tape, h.output, h.size, h.block⟩

theorem ptC_len (a : Nat) : (ptC a).length = 1 := rfl
theorem noC_len (a : Int) : (noC a).length = 1 := rfl

set_option maxHeartbeats 1000000 in
theorem room_c {X : Cx} {m : Mc} {st : Int} {L : Ly} {w : World} (h : MS X m st L w) (hf : m.nw.fr.length ≤ 65536) : Calls Tryd.prog 24 #[.pointer (some ⟨X.R, 0, none⟩)] w fun e w' => e = .returned (.int .u32 (roomB m)) ∧ Below w.heap.size w w' := by
  have c6 := h.rr.cell 6 (by omega)
  have c7 := h.rr.cell 7 (by omega)
  simp only [rnF] at c6 c7
  have c3 := h.now.s.cell 3 (by omega)
  have c2 := h.now.s.cell 2 (by omega)
  simp only [clF] at c3 c2
  obtain ⟨A, C, ev, -⟩ := OwnB.shape ptC_len h.cc
  rw [ev] at c6
  simp only [List.length_map, List.length_range] at c6
  unfold roomB
  clear h ev
  generalize m.nw.ba = ba at *
  generalize m.nw.fr.length = n at *
  generalize m.bl.length = k at *
  generalize L.pb k = pb at *
  generalize L.fb k = fb at *
  have hz : ¬ ((k : Int) + 1 = 0) := by omega
  have hn : IntKind.i64.wrap ((n : Int) + 64) = (n : Int) + 64 := by rw [IntKind.wrap_i64]; omega
  go_enter Tryd.func24, Tryd.ntmps24
  go_wp2
  go_quiet (fail)
  go_wp2
  go_ret
  exact ⟨rfl, drw (Below.refl _ _)⟩

theorem getD_map_cw (c : Cl) (l : List Int) (k : Nat) (h : k < l.length) : (l.map (cw c)).getD k 0 = cw c l[k] := by
  rw [List.getD_eq_getElem?_getD, List.getElem?_map, List.getElem?_eq_getElem h]; rfl

set_option maxHeartbeats 2000000 in
theorem all_c {X : Cx} {c : Cl} {pb rb fb : Nat} {w : World} (h : CallIn X c pb rb fb w) (l : List Int) (v : Value) (hl : NosIn w l v) (h8 : l.length ≤ 100000) (hr : ∀ r ∈ l, rdB c.rg.length r = true) :
    Calls Tryd.prog 40 #[.pointer (some ⟨pb, 0, none⟩), v] w fun e w' => e = .returned (.slice (some ⟨w.heap.size, 0, none⟩) l.length l.length) ∧ Below w.heap.size w w' ∧ WZ w' w.heap.size l.length fun i => (l.map (cw c)).getD i 0 := by
  obtain ⟨hl0, A, C, rfl, hn⟩ := hl.cells
  have HN : Hid (∀ i (h : i < l.length), ∃ b o, A = some ⟨b, o, none⟩ ∧ b < w.heap.size ∧ w.cell? ⟨b, o + i, none⟩ = some (.int .i64 l[i])) := hn
  have HC : Hid (CallIn X c pb rb fb w) := h
  have HR : Hid (∀ r ∈ l, rdB c.rg.length r = true) := hr
  have HM : Hid (∀ i (h : i < l.length), (l.map (cw c)).getD i 0 = cw c l[i]) := fun i h => getD_map_cw c l i h
  have hmk := make_w l.length h8 w
  have HW : Hid (WZ (w.alloc (.cells (madeCells #[.int .i32 0] l.length) 21)) w.heap.size l.length fun _ => 0) := WZ.made w l.length
  have HB : Hid (Below w.heap.size w (w.alloc (.cells (madeCells #[.int .i32 0] l.length) 21))) := below_alloc _ _
  clear hn hl h hr
  generalize w.alloc (.cells (madeCells #[.int .i32 0] l.length) 21) = w1 at *
  go_enter Tryd.func40, Tryd.ntmps40
  go_wp2
  clear hmk
  go_loopw [13] (fun i wr => ∃ k : Nat, k ≤ l.length ∧ i = .int .i64 (k : Int) ∧ Below w.heap.size w wr ∧ WZ wr w.heap.size l.length fun j => if j < k then (l.map (cw c)).getD j 0 else 0) (fun i _ => l.length - (intOf i).toNat)
  case atStart => exact ⟨0, by omega, rfl, HB.out, HW.out.ext fun j _ => by simp⟩
  case round =>
    obtain ⟨k, hk, rfl, hB, hZ⟩ := hrel
    have BB : Hid (Below w.heap.size w wr) := hB
    have ZZ : Hid (WZ wr w.heap.size l.length fun j => if j < k then (l.map (cw c)).getD j 0 else 0) := hZ
    clear hB hZ
    rcases Nat.lt_or_ge k l.length with hk' | hk'
    · have hkz : (k : Int) < l.length := by omega
      obtain ⟨b, o, rfl, hb, h0⟩ := HN.out k hk'
      have c0 : wr.cell? ⟨b, o + k, none⟩ = some (.int .i64 l[k]) := (BB.out.cell (p := ⟨b, o + k, none⟩) hb).trans h0
      have WD : Hid (Calls Tryd.prog 38 #[.pointer (some ⟨pb, 0, none⟩), .int .i64 l[k]] wr fun e w' => e = .returned (.int .i32 (cw c l[k])) ∧ w' = wr) :=
        cword_c (HC.out.below BB.out) l[k] (by have := HR.out l[k] (List.getElem_mem _); unfold bgB; rw [this]; simp)
      have ez := GZ.cell ZZ.out k hk'
      have fz := GZ.frozen ZZ.out k
      have hM := HM.out k hk'
      have Z2 : Hid (WZ (wr.setCell ⟨w.heap.size, k, none⟩ (.int .i32 (cw c l[k]))) w.heap.size l.length fun j => if j < k + 1 then (l.map (cw c)).getD j 0 else 0) := (ZZ.out.set k hk' _).ext fun j hj => by
        unfold pu
        by_cases e : j = k
        · subst e; simp only [if_true, Nat.lt_succ_self, hM]
        · rw [if_neg e]
          show (if j < k then (l.map (cw c)).getD j 0 else 0) = _
          by_cases e2 : j < k
          · rw [if_pos e2, if_pos (by omega)]
          · rw [if_neg e2, if_neg (by omega)]
      have B2 : Hid (Below w.heap.size w (wr.setCell ⟨w.heap.size, k, none⟩ (.int .i32 (cw c l[k])))) := BB.out.setCell (Nat.le_refl _) _
      clear h0 hM
      simp only [Nat.lt_irrefl, if_false] at ez
      generalize cw c l[k] = y at *
      generalize l[k] = x at *
      go_wp2_with (go_at_call 38; refine (WD.out).mono ?_; rintro e w1 ⟨rfl, hw⟩; rw [hw]; clear hw w1)
      go_roundw
      case rel => exact ⟨k + 1, by omega, by go_num, B2.out, Z2.out⟩
      case measure => simp [intOf]; omega
    · have hkz : ¬ (k : Int) < l.length := by omega
      obtain rfl : k = l.length := by omega
      go_wp2
      go_ret
      exact ⟨rfl, BB.out, ZZ.out.ext fun j hj => (show (if j < l.length then (l.map (cw c)).getD j 0 else 0) = _ from by rw [if_pos hj]; simp)⟩
end Go.Proofs.YtapgaclonilnbaaDoor

/-
  Proved: what is left of the machine in memory when one of its cells turns: steps, input, loud calls, words of the heap's blocks and of frames, where a call stands.
-/
namespace Go.Proofs.YtapgaclonilnbaaDoor
open Go.RowKit
set_option linter.unusedVariables false
set_option linter.unusedSimpArgs false

section
variable {X : Cx} {m : Mc} {st : Int} {L : Ly} {w w' : World}
/-- The steps. -/
theorem MS.steps (h : MS X m st L w) (n : Int) : MS X m n L (w.setCell ⟨X.R, 4, none⟩ (.int .i64 n)) := by
  have q := h.turn h.ro.r 4 (.int .i64 n)
  refine ⟨h.tb, q.bz (by show ¬ _ = _; omega), h.hl, q.mp (by show ¬ _ = _; omega), ?_, q.hh (fun c hc => by show ¬ _ = _; omega), q.cc (by show ¬ _ = _; omega), q.pp (by show ¬ _ = _; omega), h.ii, fun i hi => q.kb i hi (by show ¬ _ = _; omega) (by show ¬ _ = _; omega) (by show ¬ _ = _; omega), ⟨q.ns (by show ¬ _ = _; omega), q.nr (by show ¬ _ = _; omega), q.nf (by show ¬ _ = _; omega)⟩, h.ro, h.zz⟩
  refine (GZ.set h.rr 4 (by omega) _).ext fun i hi => ?_
  unfold pu
  by_cases e : i = 4
  · subst e; rfl
  · rw [if_neg e]
    rcases i with _ | _ | _ | _ | _ | _ | _ | _ | _ | _ | i <;> first | rfl | omega

/-- The input. -/
theorem MS.inp (h : MS X m st L w) (l : List Int) (v : Value) (hv : InpIn X.wz l v) : MS X { m with ip := l } st { L with iv := v } (w.setCell ⟨X.R, 2, none⟩ v) := by
  have q := h.turn h.ro.r 2 v
  refine ⟨h.tb, q.bz (by show ¬ _ = _; omega), h.hl, q.mp (by show ¬ _ = _; omega), ?_, q.hh (fun c hc => by show ¬ _ = _; omega), q.cc (by show ¬ _ = _; omega), q.pp (by show ¬ _ = _; omega), hv, fun i hi => q.kb i hi (by show ¬ _ = _; omega) (by show ¬ _ = _; omega) (by show ¬ _ = _; omega), ⟨q.ns (by show ¬ _ = _; omega), q.nr (by show ¬ _ = _; omega), q.nf (by show ¬ _ = _; omega)⟩, ⟨h.ro.r, h.ro.h, h.ro.g, h.ro.c, h.ro.p, h.ro.m, h.ro.s⟩, h.zz⟩
  refine (GZ.set h.rr 2 (by omega) _).ext fun i hi => ?_
  unfold pu
  by_cases e : i = 2
  · subst e; rfl
  · rw [if_neg e]
    rcases i with _ | _ | _ | _ | _ | _ | _ | _ | _ | _ | i <;> first | rfl | omega

/-- Loud calls. -/
theorem MS.loud (h : MS X m st L w) (n : Int) : MS X { m with ld := n } st L (w.setCell ⟨X.R, 8, none⟩ (.int .i64 n)) := by
  have q := h.turn h.ro.r 8 (.int .i64 n)
  refine ⟨h.tb, q.bz (by show ¬ _ = _; omega), h.hl, q.mp (by show ¬ _ = _; omega), ?_, q.hh (fun c hc => by show ¬ _ = _; omega), q.cc (by show ¬ _ = _; omega), q.pp (by show ¬ _ = _; omega), h.ii, fun i hi => q.kb i hi (by show ¬ _ = _; omega) (by show ¬ _ = _; omega) (by show ¬ _ = _; omega), ⟨q.ns (by show ¬ _ = _; omega), q.nr (by show ¬ _ = _; omega), q.nf (by show ¬ _ = _; omega)⟩, h.ro, h.zz⟩
  refine (GZ.set h.rr 8 (by omega) _).ext fun i hi => ?_
  unfold pu
  by_cases e : i = 8
  · subst e; rfl
  · rw [if_neg e]
    rcases i with _ | _ | _ | _ | _ | _ | _ | _ | _ | _ | i <;> first | rfl | omega

/-- A word of the heap's blocks. -/
theorem MS.word (h : MS X m st L w) (k : Nat) (hk : k < 2816) (v : Int) : MS X (stL m v (none, k)) st L (w.setCell ⟨X.R, 10 + k, none⟩ (.int .i32 v)) := by
  have q := h.turn h.ro.r (10 + k) (.int .i32 v)
  refine ⟨h.tb, q.bz (by show ¬ _ = _; omega), h.hl, q.mp (by show ¬ _ = _; omega), ?_, q.hh (fun c hc => by show ¬ _ = _; omega), q.cc (by show ¬ _ = _; omega), q.pp (by show ¬ _ = _; omega), h.ii, fun i hi => q.kb i hi (by show ¬ _ = _; omega) (by show ¬ _ = _; omega) (by show ¬ _ = _; omega), ⟨q.ns (by show ¬ _ = _; omega), q.nr (by show ¬ _ = _; omega), q.nf (by show ¬ _ = _; omega)⟩, h.ro, h.zz⟩
  refine (GZ.set h.rr (10 + k) (by omega) _).ext fun i hi => ?_
  unfold pu
  rcases i with _ | _ | _ | _ | _ | _ | _ | _ | _ | _ | i
  iterate 10 (rw [if_neg (by omega)]; rfl)
  show (if i + 10 = 10 + k then _ else Value.int .i32 (m.wo i)) = Value.int .i32 (if i = k then v else m.wo i)
  by_cases e : i = k
  · subst e; rw [if_pos (by omega), if_pos rfl]
  · rw [if_neg (by omega), if_neg e]

theorem getD_set (l : List Int) (k i : Nat) (v : Int) (hk : k < l.length) : (l.set k v).getD i 0 = pu (fun i => l.getD i 0) k v i := by
  unfold pu
  by_cases e : i = k
  · subst e; simp [hk]
  · rw [if_neg e]
    have e3 : ¬ k = i := fun h => e h.symm
    simp [List.getD_eq_getElem?_getD, List.getElem?_set, e3]

/-- A frame's word. -/
theorem CallIn.fset {c : Cl} {pb rb fb : Nat} (s : GZ 85 w' pb 6 (clF X c rb fb)) (r : WZ w' rb c.rg.length fun i => c.rg.getD i 0) (f : WZ w fb c.fr.length fun i => c.fr.getD i 0) (k : Nat) (hk : k < c.fr.length) (v : Int) (e : w' = w.setCell ⟨fb, k, none⟩ (.int .i32 v)) : CallIn X (setF c k v) pb rb fb w' := by
  have el : (setF c k v).fr.length = c.fr.length := by simp [setF]
  refine ⟨s.ext fun i hi => ?_, r, ?_⟩
  · rcases i with _ | _ | _ | _ | _ | _ | i <;> first | rfl | (show Value.slice _ c.fr.length c.fr.length = Value.slice _ (setF c k v).fr.length (setF c k v).fr.length; rw [el]; done) | omega
  · subst e
    refine WZ.ext (f := pu (fun i => c.fr.getD i 0) k v) ?_ fun i hi => ?_
    · rw [el]
      exact f.set k hk v
    · exact (getD_set _ _ _ _ hk).symm

/-- A word of a frame. -/
theorem MS.frame (h : MS X m st L w) (i : Nat) (hi : i ≤ m.bl.length) (k : Nat) (hk : k < (callAt m i).fr.length) (v : Int) : MS X (stL m v (some i, k)) st L (w.setCell ⟨L.fb i, k, none⟩ (.int .i32 v)) := by
  have q := h.turn (h.ro.s i (by omega)).2.2 k (.int .i32 v)
  by_cases e : i < m.bl.length
  · have ec : callAt m i = m.bl[i] := by unfold callAt; rw [List.getD_eq_getElem?_getD, List.getElem?_eq_getElem e]; rfl
    have em : stL m v (some i, k) = { m with bl := m.bl.set i (setF (callAt m i) k v) } := if_pos e
    rw [em]
    have el : (m.bl.set i (setF (callAt m i) k v)).length = m.bl.length := by simp
    refine ⟨h.tb, q.bz (by show ¬ _ = _; omega), h.hl, q.mp (by show ¬ _ = _; omega), ?_, q.hh (fun c hc => by show ¬ _ = _; omega), ?_, q.pp (by show ¬ _ = _; omega), h.ii, fun j hj => ?_, ?_, ?_, h.zz⟩
    · show GZ _ _ _ _ (rnF X _ st L.cv L.pv L.iv (L.pb (m.bl.set i (setF (callAt m i) k v)).length))
      rw [el]
      exact q.rr (by show ¬ _ = _; omega)
    · show OwnB _ _ _ _ ((List.range ((m.bl.set i (setF (callAt m i) k v)).length + 1)).map L.pb) _ _
      rw [el]
      exact q.cc (by show ¬ _ = _; omega)
    · have hj2 : j < m.bl.length := by simpa using hj
      show CallIn X ((m.bl.set i (setF (callAt m i) k v))[j]'hj) _ _ _ _
      rw [List.getElem_set]
      by_cases e2 : i = j
      · subst e2
        rw [if_pos rfl, ec]
        have hc := h.kb i e
        have k2 := q
        have kk := h.kb i e
        refine CallIn.fset (w := w) ?_ ?_ kk.f k (by rw [← ec]; exact hk) v rfl
        · exact kk.s.kp (Kp.set (F := fun b => b = L.fb i) w k _ rfl) fun e3 => by
            have r := h.ro.s i (by omega)
            rw [e3] at r
            omega
        · exact GZ.kp kk.r (Kp.set (F := fun b => b = L.fb i) w k _ rfl) fun e3 => by
            have r := h.ro.s i (by omega)
            rw [e3] at r
            omega
      · rw [if_neg e2]
        exact q.kb j hj2 (by show ¬ _ = _; omega) (by show ¬ _ = _; omega) (by show ¬ _ = _; omega)
    · show CallIn X m.nw (L.pb (m.bl.set i (setF (callAt m i) k v)).length) (L.rb (m.bl.set i (setF (callAt m i) k v)).length) (L.fb (m.bl.set i (setF (callAt m i) k v)).length) _
      rw [el]
      exact ⟨q.ns (by show ¬ _ = _; omega), q.nr (by show ¬ _ = _; omega), q.nf (by show ¬ _ = _; omega)⟩
    · show Ros X L ((m.bl.set i (setF (callAt m i) k v)).length + 1)
      rw [el]
      exact h.ro
  · obtain rfl : i = m.bl.length := by omega
    have ec : callAt m m.bl.length = m.nw := by unfold callAt; rw [List.getD_eq_getElem?_getD, List.getElem?_eq_none (Nat.le_refl _)]; rfl
    have em : stL m v (some m.bl.length, k) = { m with nw := setF m.nw k v } := if_neg e
    rw [em]
    rw [ec] at hk
    exact ⟨h.tb, q.bz (by show ¬ _ = _; omega), h.hl, q.mp (by show ¬ _ = _; omega), q.rr (by show ¬ _ = _; omega), q.hh (fun c hc => by show ¬ _ = _; omega), q.cc (by show ¬ _ = _; omega), q.pp (by show ¬ _ = _; omega), h.ii, fun i hi => q.kb i hi (by have hi : i < m.bl.length := hi; show ¬ _ = _; omega) (by have hi : i < m.bl.length := hi; show ¬ _ = _; omega) (by have hi : i < m.bl.length := hi; show ¬ _ = _; omega), CallIn.fset (w := w) (q.ns (by show ¬ _ = _; omega)) (q.nr (by show ¬ _ = _; omega)) h.now.f k hk v rfl, h.ro, h.zz⟩

/-- Where the last call stands. -/
theorem MS.stand (h : MS X m st L w) (bk nx : Nat) (k : Kp (fun b => L.ro b = 10 + 3 * m.bl.length) w w') (g : GZ 85 w' (L.pb m.bl.length) 6 (clF X { m.nw with bk := bk, nx := nx } (L.rb m.bl.length) (L.fb m.bl.length))) : MS X { m with nw := { m.nw with bk := bk, nx := nx } } st L w' := by
  have q := h.stay (P := fun x => x = 10 + 3 * m.bl.length) k
  exact ⟨h.tb, q.bz (by show ¬ _ = _; omega), h.hl, q.mp (by show ¬ _ = _; omega), q.rr (by show ¬ _ = _; omega), q.hh (fun c hc => by show ¬ _ = _; omega), q.cc (by show ¬ _ = _; omega), q.pp (by show ¬ _ = _; omega), h.ii, fun i hi => q.kb i hi (by have hi : i < m.bl.length := hi; show ¬ _ = _; omega) (by have hi : i < m.bl.length := hi; show ¬ _ = _; omega) (by have hi : i < m.bl.length := hi; show ¬ _ = _; omega), ⟨g, q.nr (by show ¬ _ = _; omega), q.nf (by show ¬ _ = _; omega)⟩, h.ro, h.zz⟩

/-- The heap. -/
theorem MS.heap (h : MS X m st L w) (us : Nat → Nat → Bool) (hu : HIn w' X.hb X.g us) (k : Kp (Gs X.g) w w') : MS X { m with us := us } st L w' := by
  have q := h.stay (P := fun x => 2 ≤ x ∧ x ≤ 5) (k.mono fun b hb => by
    obtain ⟨c, hc, rfl⟩ := hb
    show 2 ≤ L.ro (X.g c) ∧ L.ro (X.g c) ≤ 5
    rw [h.ro.g c hc]; omega)
  exact ⟨h.tb, q.bz (by show ¬ (_ ∧ _); omega), h.hl, q.mp (by show ¬ (_ ∧ _); omega), q.rr (by show ¬ (_ ∧ _); omega), hu, q.cc (by show ¬ (_ ∧ _); omega), q.pp (by show ¬ (_ ∧ _); omega), h.ii, fun i hi => q.kb i hi (by show ¬ (_ ∧ _); omega) (by show ¬ (_ ∧ _); omega) (by show ¬ (_ ∧ _); omega), ⟨q.ns (by show ¬ (_ ∧ _); omega), q.nr (by show ¬ (_ ∧ _); omega), q.nf (by show ¬ (_ ∧ _); omega)⟩, h.ro, h.zz⟩
end
end Go.Proofs.YtapgaclonilnbaaDoor

/-
  Proved: which call's frame an address may be in: the binary search of the last one that does not begin behind it.
-/
namespace Go.Proofs.YtapgaclonilnbaaDoor
open Go.RowKit
set_option linter.unusedVariables false
set_option linter.unusedSimpArgs false

set_option maxHeartbeats 1000000 in
theorem search_c (f : FuncId) (cu : Array Value) (n : Nat) (p : Nat → Bool) (hn : n ≤ 100000) (w : World)
    (hcf : ∀ (args : Array Value) (w : World), (callFunc f args).run Tryd.prog w = .ok (.enter f args) w)
    (CL : ∀ k, k < n → ∀ w', Below w.heap.size w w' → Calls Tryd.prog f (#[.int .i64 (k : Int)] ++ cu) w' fun e w2 => e = .returned (.bool (p k)) ∧ Below w'.heap.size w' w2)
    (hm : ∀ i j, i ≤ j → j < n → p i = true → p j = true) :
    Calls Tryd.prog 63 #[.int .i64 (n : Int), .func (.func f) #[] cu] w fun e w' => ∃ k : Nat, k ≤ n ∧ (∀ i, i < k → p i = false) ∧ (∀ i, k ≤ i → i < n → p i = true) ∧ e = .returned (.int .i64 (k : Int)) ∧ Below w.heap.size w w' := by
  have HC : Hid (∀ k, k < n → ∀ w', Below w.heap.size w w' → Calls Tryd.prog f (#[.int .i64 (k : Int)] ++ cu) w' fun e w2 => e = .returned (.bool (p k)) ∧ Below w'.heap.size w' w2) := CL
  have HM : Hid (∀ i j, i ≤ j → j < n → p i = true → p j = true) := hm
  clear CL hm
  go_enter Tryd.func63, Tryd.ntmps63
  go_wp2
  go_loopw [5, 6] (fun iv jv wr => ∃ i j : Nat, i ≤ j ∧ j ≤ n ∧ iv = .int .i64 (i : Int) ∧ jv = .int .i64 (j : Int) ∧ (∀ k, k < i → p k = false) ∧ (∀ k, j ≤ k → k < n → p k = true) ∧ Below w.heap.size w wr) (fun iv jv _ => (intOf jv - intOf iv).toNat)
  case atStart => exact ⟨0, n, by omega, by omega, rfl, rfl, by omega, by omega, Below.refl _ _⟩
  case round =>
    obtain ⟨i, j, hij, hj, rfl, rfl, h1, h2, hB⟩ := hrel
    have BB : Hid (Below w.heap.size w wr) := hB
    have H1 : Hid (∀ k, k < i → p k = false) := h1
    have H2 : Hid (∀ k, j ≤ k → k < n → p k = true) := h2
    clear hB h1 h2
    rcases Nat.lt_or_ge i j with e | e
    · have hz : (i : Int) < j := by omega
      obtain ⟨k, hk⟩ : ∃ k : Nat, k = (i + j) / 2 := ⟨_, rfl⟩
      have hk1 : ((i : Int) + j) / 2 = k := by omega
      have K1 : Hid (i ≤ k ∧ k < j) := ⟨by omega, by omega⟩
      have CK : Hid (Calls Tryd.prog f (#[.int .i64 (k : Int)] ++ cu) wr fun e w2 => e = .returned (.bool (p k)) ∧ Below wr.heap.size wr w2) := HC.out k (by omega) wr BB.out
      have PK : Hid (∀ q, p k = q → (q = true → ∀ z, k ≤ z → z < n → p z = true) ∧ (q = false → ∀ z, z < k + 1 → p z = false)) := fun q hq => ⟨fun h z h1 h2 => HM.out k z h1 h2 (hq.trans h), fun h z h1 => by
        by_cases e : p z = true
        · have := HM.out z k (by omega) (by omega) e
          rw [hq, h] at this
          cases this
        · simpa using e⟩
      cases hq : p k with
      | true =>
        have P2 := (PK.out true hq).1 rfl
        rw [hq] at CK
        have HP2 : Hid (∀ z, k ≤ z → z < n → p z = true) := P2
        clear P2 PK hk hq
        go_wp2_with (show Calls Tryd.prog f _ _ _; refine (CK.out).mono ?_; rintro e w1 ⟨rfl, hw⟩; have B2 : Hid (Below w.heap.size w w1) := below_next BB.out hw; clear hw)
        go_roundw
        case rel => exact ⟨i, k, K1.out.1, by have := K1.out; omega, rfl, by go_num, H1.out, HP2.out, B2.out⟩
        case measure => have := K1.out; simp [intOf]; omega
      | false =>
        have P2 := (PK.out false hq).2 rfl
        rw [hq] at CK
        have HP2 : Hid (∀ z, z < k + 1 → p z = false) := P2
        clear P2 PK hk hq
        go_wp2_with (show Calls Tryd.prog f _ _ _; refine (CK.out).mono ?_; rintro e w1 ⟨rfl, hw⟩; have B2 : Hid (Below w.heap.size w w1) := below_next BB.out hw; clear hw)
        go_roundw
        case rel => exact ⟨k + 1, j, by have := K1.out; omega, hj, by go_num, rfl, HP2.out, H2.out, B2.out⟩
        case measure => have := K1.out; simp [intOf]; omega
    · have hz : ¬ (i : Int) < j := by omega
      obtain rfl : i = j := by omega
      go_wp2
      go_ret
      exact ⟨i, hj, H1.out, H2.out, rfl, BB.out⟩

theorem idx_of {α : Type} (q : α → Bool) : ∀ (l : List α) (k : Nat), k ≤ l.length → (∀ i (h : i < l.length), i < k → q l[i] = false) → (∀ h : k < l.length, q (l[k]'h) = true) → l.findIdx q = k
  | [], k, hk, _, _ => by simp at hk; simp [hk]
  | x :: l, 0, _, _, h => by simp [List.findIdx_cons, show q x = true from h (by simp)]
  | x :: l, k + 1, hk, h1, h2 => by
    rw [List.findIdx_cons, show q x = false from h1 0 (by simp) (by omega)]
    simp only [cond_false]
    rw [idx_of q l k (by simpa using hk) (fun i hi hik => h1 (i + 1) (by simpa using hi) (by omega)) (fun h => h2 (by simpa using h))]

theorem cs_at (m : Mc) (i : Nat) (h : i < m.cs.length) : m.cs[i]'h = callAt m i := by
  have h2 : i < m.bl.length + 1 := by simpa [Mc.cs] using h
  have e : m.cs[i]? = some (callAt m i) := by
    unfold Mc.cs callAt
    rw [List.getElem?_append, List.getD_eq_getElem?_getD]
    split
    · rename_i e; rw [List.getElem?_eq_getElem e]; rfl
    · rename_i e; rw [show i - m.bl.length = 0 by omega, List.getElem?_eq_none (show m.bl.length ≤ i by omega)]; rfl
  rw [List.getElem?_eq_getElem h] at e
  exact Option.some.inj e
theorem cs_len (m : Mc) : m.cs.length = m.bl.length + 1 := by simp [Mc.cs]

section
variable {X : Cx} {m : Mc} {st : Int} {L : Ly} {w w' : World}

/-- The calls in their list. -/
theorem MS.calls (h : MS X m st L w) : ∃ B C, L.cv = .slice (some ⟨B, 0, none⟩) (m.bl.length + 1) C ∧ m.bl.length + 1 ≤ C ∧ ∀ i, i < m.bl.length + 1 → w.cell? ⟨B, i, none⟩ = some (.pointer (some ⟨L.pb i, 0, none⟩)) := by
  obtain ⟨A, C, e, h1⟩ := OwnB.shape ptC_len h.cc
  obtain ⟨B, rfl, _, _, hc, hr⟩ := h1 (by simp)
  simp only [List.length_map, List.length_range] at e hc
  refine ⟨B, C, e, hc, fun i hi => ?_⟩
  have := hr.cell (j := 0) (u := .pointer (some ⟨L.pb i, 0, none⟩)) i (by simpa using hi) (by simp [ptC])
  simpa using this

set_option maxHeartbeats 1000000 in
theorem asks_c (h : MS X m st L w) (b2 b3 : Nat) (a : Int) (k : Nat) (hk : k < m.bl.length + 1) (h2 : w.cell? ⟨b2, 0, none⟩ = some (.pointer (some ⟨X.R, 0, none⟩))) (h3 : w.cell? ⟨b3, 0, none⟩ = some (.int .u32 a)) :
    Calls Tryd.prog 64 (#[.int .i64 (k : Int)] ++ #[.pointer (some ⟨b2, 0, none⟩), .pointer (some ⟨b3, 0, none⟩)]) w fun e w' => e = .returned (.bool (decide (a < (callAt m k).ba))) ∧ Below w.heap.size w w' := by
  have c6 := h.rr.cell 6 (by omega)
  simp only [rnF] at c6
  obtain ⟨B, C, e, _, hc⟩ := h.calls
  rw [e] at c6
  have c1 := hc k hk
  have c3 := (h.at k (by omega)).s.cell 3 (by omega)
  simp only [clF] at c3
  have hkz : (k : Int) < (m.bl.length : Int) + 1 := by omega
  have hkz2 : k < m.bl.length + 1 := hk
  clear h e hc hk
  generalize (callAt m k).ba = ba at *
  generalize L.pb k = pb at *
  generalize m.bl.length = n at *
  go_enter Tryd.func64, Tryd.ntmps64
  go_wp2
  go_quiet (fail)
  go_wp2
  go_ret
  exact ⟨rfl, drw (Below.refl _ _)⟩

set_option maxHeartbeats 1000000 in
theorem around_c (h : MS X m st L w) (a : Int) (hn : m.bl.length ≤ 1000) (hs : ∀ i j, i ≤ j → j ≤ m.bl.length → (callAt m i).ba ≤ (callAt m j).ba) :
    Calls Tryd.prog 53 #[.pointer (some ⟨X.R, 0, none⟩), .int .u32 a] w fun e w' => e = .returned (.pointer (if nAr m.cs a = 0 then none else some ⟨L.pb (nAr m.cs a - 1), 0, none⟩)) ∧ nAr m.cs a ≤ m.bl.length + 1 ∧ Below w.heap.size w w' := by
  have c6 := h.rr.cell 6 (by omega)
  simp only [rnF] at c6
  obtain ⟨B, C, e, _, hc⟩ := h.calls
  have HC : Hid (∀ i, i < m.bl.length + 1 → w.cell? ⟨B, i, none⟩ = some (.pointer (some ⟨L.pb i, 0, none⟩))) := hc
  rw [e] at c6
  have hB : B < w.heap.size := World.block_lt_of_cell? _ _ (hc 0 (by omega))
  have hR := h.rr.lt
  have HK : Hid (∀ k : Nat, k ≤ m.bl.length + 1 → (∀ i, i < k → decide (a < (callAt m i).ba) = false) → (∀ i, k ≤ i → i < m.bl.length + 1 → decide (a < (callAt m i).ba) = true) → nAr m.cs a = k) := fun k hk h1 h2 => by
    unfold nAr
    refine idx_of _ _ k (by rw [cs_len]; exact hk) (fun i hi hik => ?_) fun hh => ?_
    · rw [cs_at]; exact h1 i hik
    · rw [cs_at]; exact h2 k (Nat.le_refl _) (by rw [cs_len] at hh; exact hh)
  have SS : Hid (∀ w2, w2 = (w.alloc (.cells #[.pointer (some ⟨X.R, 0, none⟩)] 45)).alloc (.cells #[.int .u32 a] 82) → Calls Tryd.prog 63 #[.int .i64 ((m.bl.length + 1 : Nat) : Int), .func (.func 64) #[] #[.pointer (some ⟨w.heap.size, 0, none⟩), .pointer (some ⟨w.heap.size + 1, 0, none⟩)]] w2 fun e w' => ∃ k : Nat, k ≤ m.bl.length + 1 ∧ nAr m.cs a = k ∧ e = .returned (.int .i64 (k : Int)) ∧ Below w2.heap.size w2 w') := fun w2 hw2 => by
    have b2 : Below w.heap.size w w2 := by rw [hw2]; exact below_two w _ _
    have d2 : w2.cell? ⟨w.heap.size, 0, none⟩ = some (.pointer (some ⟨X.R, 0, none⟩)) := by
      rw [hw2]
      exact cell_new _ (by rw [(At.new w _ _).cell]; rfl)
    have d3 : w2.cell? ⟨w.heap.size + 1, 0, none⟩ = some (.int .u32 a) := by
      rw [hw2]
      have := (At.new (w.alloc (.cells #[.pointer (some ⟨X.R, 0, none⟩)] 45)) #[.int .u32 a] 82).cell 0
      rw [show (w.alloc (.cells #[.pointer (some ⟨X.R, 0, none⟩)] 45)).heap.size = w.heap.size + 1 from Array.size_push _] at this
      rw [this]; rfl
    refine (search_c 64 _ (m.bl.length + 1) (fun k => decide (a < (callAt m k).ba)) (by omega) w2 (fun _ _ => by kernel_rfl) (fun k hk w3 hb => ?_) (fun i j hij hj hp => ?_)).mono ?_
    · have hc2 : w3.cell? ⟨w.heap.size, 0, none⟩ = some (.pointer (some ⟨X.R, 0, none⟩)) := (hb.cell (p := ⟨w.heap.size, 0, none⟩) (World.block_lt_of_cell? _ _ d2)).trans d2
      have hc3 : w3.cell? ⟨w.heap.size + 1, 0, none⟩ = some (.int .u32 a) := (hb.cell (p := ⟨w.heap.size + 1, 0, none⟩) (World.block_lt_of_cell? _ _ d3)).trans d3
      exact asks_c (h.below (below_next b2 hb)) _ _ a k hk hc2 hc3
    · have := hs i j hij (by omega)
      simp only [decide_eq_true_eq] at hp ⊢
      omega
    · rintro e w' ⟨k, h1, h2, h3, rfl, h5⟩
      exact ⟨k, h1, HK.out k h1 h2 h3, rfl, h5⟩
  have hmf : ∀ (fn : Fn) (first cap : Array Value) (w : World), (Instr.makeFunc fn first cap).run Tryd.prog w = .ok (.func fn first cap) w := fun _ _ _ _ => rfl
  have hlen : ((m.bl.length + 1 : Nat) : Int) = (m.bl.length : Int) + 1 := by omega
  have HB : Hid (∀ o1 o2, Below w.heap.size w ((w.alloc o1).alloc o2)) := fun _ _ => below_two w _ _
  have SX : Hid (∀ w5, Below ((w.alloc (.cells #[.pointer (some ⟨X.R, 0, none⟩)] 45)).alloc (.cells #[.int .u32 a] 82)).heap.size ((w.alloc (.cells #[.pointer (some ⟨X.R, 0, none⟩)] 45)).alloc (.cells #[.int .u32 a] 82)) w5 → w5.cell? ⟨w.heap.size, 0, none⟩ = some (.pointer (some ⟨X.R, 0, none⟩))) := fun w5 hb => by
    have d2 : ((w.alloc (.cells #[.pointer (some ⟨X.R, 0, none⟩)] 45)).alloc (.cells #[.int .u32 a] 82)).cell? ⟨w.heap.size, 0, none⟩ = some (.pointer (some ⟨X.R, 0, none⟩)) := cell_new _ (by rw [(At.new w _ _).cell]; rfl)
    exact (hb.cell (p := ⟨w.heap.size, 0, none⟩) (World.block_lt_of_cell? _ _ d2)).trans d2
  rw [hlen] at SS
  clear h e hc HK hs hlen
  generalize m.bl.length = n at *
  generalize nAr m.cs a = N at *
  rcases N with _ | N
  · show Calls _ _ _ _ fun e w' => e = .returned (.pointer none) ∧ 0 ≤ n + 1 ∧ Below w.heap.size w w'
    go_enter Tryd.func53, Tryd.ntmps53
    go_wp2_with (go_at_call 63; refine (SS.out _ rfl).mono ?_; rintro e w5 ⟨k, k1, k2, rfl, hb5⟩; subst k2; have B5 : Hid (Below w.heap.size w w5) := below_next (HB.out _ _) hb5; have e6 : w5.cell? ⟨X.R, 6, none⟩ = some (.slice (some ⟨B, 0, none⟩) (n + 1) C) := (B5.out.cell (p := ⟨X.R, 6, none⟩) hR).trans c6; have e2 : w5.cell? ⟨w.heap.size, 0, none⟩ = some (.pointer (some ⟨X.R, 0, none⟩)) := SX.out w5 hb5; have e8 : w5.cell? ⟨B, 0, none⟩ = some (.pointer (some ⟨L.pb 0, 0, none⟩)) := (B5.out.cell (p := ⟨B, 0, none⟩) hB).trans (HC.out 0 (by omega)); clear hb5)
    go_ret
    exact ⟨rfl, Nat.zero_le _, B5.out⟩
  · show Calls _ _ _ _ fun e w' => e = .returned (.pointer (some ⟨L.pb N, 0, none⟩)) ∧ N + 1 ≤ n + 1 ∧ Below w.heap.size w w'
    have hz : ¬ ((N : Int) + 1 = 0) := by omega
    go_enter Tryd.func53, Tryd.ntmps53
    go_wp2_with (go_at_call 63; refine (SS.out _ rfl).mono ?_; rintro e w5 ⟨k, k1, k2, rfl, hb5⟩; subst k2; have B5 : Hid (Below w.heap.size w w5) := below_next (HB.out _ _) hb5; have e6 : w5.cell? ⟨X.R, 6, none⟩ = some (.slice (some ⟨B, 0, none⟩) (n + 1) C) := (B5.out.cell (p := ⟨X.R, 6, none⟩) hR).trans c6; have e2 : w5.cell? ⟨w.heap.size, 0, none⟩ = some (.pointer (some ⟨X.R, 0, none⟩)) := SX.out w5 hb5; have e8 : w5.cell? ⟨B, N, none⟩ = some (.pointer (some ⟨L.pb N, 0, none⟩)) := (B5.out.cell (p := ⟨B, N, none⟩) hB).trans (HC.out N (by omega)); clear hb5)

    go_ret
    exact ⟨rfl, by omega, B5.out⟩
end
end Go.Proofs.YtapgaclonilnbaaDoor

/-
  Proved: where the word at an address lies: in a block of the heap that is in use, in a frame; else the run ends.
-/
namespace Go.Proofs.YtapgaclonilnbaaDoor
open Go.RowKit
set_option linter.unusedVariables false
set_option linter.unusedSimpArgs false

theorem nAr_le (m : Mc) (a : Int) (i : Nat) (h : i < nAr m.cs a) (hi : i ≤ m.bl.length) : (callAt m i).ba ≤ a := by
  have h2 : i < m.cs.length := by rw [cs_len]; omega
  have := List.not_of_lt_findIdx (p := fun c : Cl => decide (a < c.ba)) (xs := m.cs) h
  rw [cs_at] at this
  simpa using this

theorem at_in {a : Int} {us : Nat → Nat → Bool} (h : wiA us a 1 (atOf a) = true) : 262144 ≤ a ∧ a < 273408 := by
  cases e : atOf a with
  | none => rw [e] at h; cases h
  | some c =>
    have h1 := ff_lt (atP a) 4 0 c e
    obtain ⟨_, hc, h3⟩ := h1
    unfold atP at h3
    simp only [Bool.and_eq_true, decide_eq_true_eq] at h3
    have : c = 0 ∨ c = 1 ∨ c = 2 ∨ c = 3 := by omega
    rcases this with rfl | rfl | rfl | rfl <;> simp [st, bl, sz] at h3 <;> omega

/-- Where a word lies. -/
def locV (X : Cx) (L : Ly) : Option Nat × Nat → Value
  | (none, k) => .pointer (some ⟨X.R, 10 + k, none⟩)
  | (some i, k) => .pointer (some ⟨L.fb i, k, none⟩)

section
variable {X : Cx} {m : Mc} {st : Int} {L : Ly} {w w' : World}

set_option maxHeartbeats 2000000 in
theorem at_c (h : MS X m st L w) (a : Int) (h0 : 0 ≤ a) (h1 : a ≤ 4294967295) (hn : m.bl.length ≤ 1000) (hs : ∀ i j, i ≤ j → j ≤ m.bl.length → (callAt m i).ba ≤ (callAt m j).ba) (hb : ∀ i, i ≤ m.bl.length → 0 ≤ (callAt m i).ba) :
    Calls Tryd.prog 42 #[.pointer (some ⟨X.R, 0, none⟩), .int .u32 a] w fun e w' => e = (match atL m a with | none => .panicked [{ v := endV 4 0, recovered := false }] | some p => .returned (locV X L p)) ∧ Below w.heap.size w w' := by
  have c9 := h.rr.cell 9 (by omega)
  simp only [rnF] at c9
  have WI := within_c h.hh a 1 h.tab
  have HT := fun w => trap_c w
  have hx : IntKind.i64.wrap a = a := wrap_in a ⟨by omega, by omega⟩
  by_cases q1 : a % 4 = 0 ∧ wiA m.us a 1 (atOf a) = true
  · have e1 : atL m a = some (none, ((a - 262144) / 4).toNat) := by unfold atL; rw [if_pos q1]
    rw [e1]
    obtain ⟨i1, i2⟩ := at_in q1.2
    rw [if_neg (by rw [Int.tmod_eq_emod_of_nonneg h0]; omega), q1.2] at WI
    have HW : Hid (Calls Tryd.prog 52 #[.pointer (some ⟨X.hb, 0, none⟩), .int .i64 a, .int .i64 1] w fun e w' => e = .returned (.bool true) ∧ Below w.heap.size w w') := WI
    obtain ⟨k, hk⟩ : ∃ k : Nat, (a - 262144) / 4 = (k : Int) := ⟨((a - 262144) / 4).toNat, by omega⟩
    have hk2 : (k : Int) < 2816 := by omega
    have hk3 : k < 2816 := by omega
    rw [hk, Int.toNat_natCast]
    show Calls _ _ _ _ fun e w' => e = .returned (.pointer (some ⟨X.R, 10 + k, none⟩)) ∧ Below w.heap.size w w'
    clear WI h e1 hs hb hn q1
    go_enter Tryd.func42, Tryd.ntmps42
    go_wp2_with (go_at_call 52; refine (HW.out).mono ?_; rintro e w1 ⟨rfl, hb⟩)
    go_ret
    exact ⟨rfl, hb⟩
  · have q2 : (if a.tmod 4 ≠ 0 ∨ (1 : Int) < 1 then false else wiA m.us a 1 (atOf a)) = false := by
      rw [Int.tmod_eq_emod_of_nonneg h0]
      by_cases e : a % 4 = 0
      · rw [if_neg (by omega)]
        by_cases e2 : wiA m.us a 1 (atOf a) = true
        · exact absurd ⟨e, e2⟩ q1
        · simpa using e2
      · rw [if_pos (Or.inl e)]
    rw [q2] at WI
    have HW : Hid (Calls Tryd.prog 52 #[.pointer (some ⟨X.hb, 0, none⟩), .int .i64 a, .int .i64 1] w fun e w' => e = .returned (.bool false) ∧ Below w.heap.size w w') := WI
    have HA : Hid (∀ w1, Below w.heap.size w w1 → Calls Tryd.prog 53 #[.pointer (some ⟨X.R, 0, none⟩), .int .u32 a] w1 fun e w' => e = .returned (.pointer (if nAr m.cs a = 0 then none else some ⟨L.pb (nAr m.cs a - 1), 0, none⟩)) ∧ nAr m.cs a ≤ m.bl.length + 1 ∧ Below w1.heap.size w1 w') := fun w1 hw => around_c (h.below hw) a hn hs
    by_cases q3 : nAr m.cs a = 0
    · have e1 : atL m a = none := by unfold atL; rw [if_neg q1, if_pos q3]
      rw [e1]
      rw [q3] at HA
      simp only [if_true] at HA
      show Calls _ _ _ _ fun e w' => e = .panicked [{ v := endV 4 0, recovered := false }] ∧ Below w.heap.size w w'
      clear WI h e1 hs hb hn q1 q2 q3
      go_enter Tryd.func42, Tryd.ntmps42
      go_wp2_with (first
        | (go_at_call 52; refine (HW.out).mono ?_; rintro e w1 ⟨rfl, hb⟩; have B1 : Hid (Below w.heap.size w w1) := hb; clear hb)
        | (go_at_call 53; refine (HA.out _ (B1.out)).mono ?_; rintro e w2 ⟨rfl, _, hb⟩; have B2 : Hid (Below w.heap.size w w2) := below_next B1.out hb; clear hb)
        | (go_at_call 54; refine (HT _).mono ?_; rintro e w3 ⟨rfl, hw⟩; rw [hw]; clear hw w3))
      exact ⟨rfl, rfl, B2.out⟩
    · obtain ⟨i, hi⟩ : ∃ i, nAr m.cs a = i + 1 := ⟨nAr m.cs a - 1, by omega⟩
      simp only [hi, if_false, Nat.add_sub_cancel, Nat.succ_ne_zero] at HA
      have hil : i ≤ m.bl.length ∨ m.bl.length < i := by omega
      rcases hil with hil | hil
      rotate_left
      · exfalso
        have : nAr m.cs a ≤ m.cs.length := List.findIdx_le_length
        rw [cs_len] at this
        omega
      have hle := nAr_le m a i (by omega) hil
      have hbi := hb i hil
      have hcl := h.at i hil
      have c3 := hcl.s.cell 3 (by omega)
      have c2 := hcl.s.cell 2 (by omega)
      simp only [clF] at c3 c2
      have HCL : Hid (∀ w2, Below w.heap.size w w2 → w2.cell? ⟨L.pb i, 3, none⟩ = some (.int .u32 (callAt m i).ba) ∧ w2.cell? ⟨L.pb i, 2, none⟩ = some (.slice (some ⟨L.fb i, 0, none⟩) (callAt m i).fr.length (callAt m i).fr.length)) := fun w2 hw => ⟨(hw.cell (p := ⟨L.pb i, 3, none⟩) hcl.s.lt).trans c3, (hw.cell (p := ⟨L.pb i, 2, none⟩) hcl.s.lt).trans c2⟩
      have e1 : atL m a = if a % 4 = 0 ∧ (a - (callAt m i).ba) / 4 < (callAt m i).fr.length then some (some i, ((a - (callAt m i).ba) / 4).toNat) else none := by unfold atL; rw [if_neg q1, if_neg q3, hi]; rfl
      rw [e1]
      clear WI h e1 hs hb hn q1 q2 q3 hcl c3 c2 hi
      generalize (callAt m i).ba = ba at *
      generalize (callAt m i).fr.length = n at *
      by_cases q4 : a % 4 = 0
      · obtain ⟨k, hk⟩ : ∃ k : Nat, (a - ba) / 4 = (k : Int) := ⟨((a - ba) / 4).toNat, by omega⟩
        have hd : (a - ba).tdiv 4 = (k : Int) := by rw [Int.tdiv_eq_ediv_of_nonneg (by omega)]; exact hk
        rw [hk, Int.toNat_natCast]
        by_cases q5 : k < n
        · have q6 : (k : Int) < n := by omega
          rw [if_pos ⟨q4, q6⟩]
          show Calls _ _ _ _ fun e w' => e = .returned (.pointer (some ⟨L.fb i, k, none⟩)) ∧ Below w.heap.size w w'
          go_enter Tryd.func42, Tryd.ntmps42
          go_wp2_with (first
            | (go_at_call 52; refine (HW.out).mono ?_; rintro e w1 ⟨rfl, hb⟩; have B1 : Hid (Below w.heap.size w w1) := hb; clear hb)
            | (go_at_call 53; refine (HA.out _ (B1.out)).mono ?_; rintro e w2 ⟨rfl, _, hb⟩; have B2 : Hid (Below w.heap.size w w2) := below_next B1.out hb; obtain ⟨d3, d2⟩ := HCL.out w2 B2.out; clear hb))
          go_ret
          exact ⟨rfl, B2.out⟩
        · have q6 : ¬ (k : Int) < n := by omega
          rw [if_neg fun h => q6 h.2]
          show Calls _ _ _ _ fun e w' => e = .panicked [{ v := endV 4 0, recovered := false }] ∧ Below w.heap.size w w'
          go_enter Tryd.func42, Tryd.ntmps42
          go_wp2_with (first
            | (go_at_call 52; refine (HW.out).mono ?_; rintro e w1 ⟨rfl, hb⟩; have B1 : Hid (Below w.heap.size w w1) := hb; clear hb)
            | (go_at_call 53; refine (HA.out _ (B1.out)).mono ?_; rintro e w2 ⟨rfl, _, hb⟩; have B2 : Hid (Below w.heap.size w w2) := below_next B1.out hb; obtain ⟨d3, d2⟩ := HCL.out w2 B2.out; clear hb)
            | (go_at_call 54; refine (HT _).mono ?_; rintro e w3 ⟨rfl, hw⟩; rw [hw]; clear hw w3))
          exact ⟨rfl, rfl, B2.out⟩
      · rw [if_neg fun h => q4 h.1]
        show Calls _ _ _ _ fun e w' => e = .panicked [{ v := endV 4 0, recovered := false }] ∧ Below w.heap.size w w'
        go_enter Tryd.func42, Tryd.ntmps42
        go_wp2_with (first
          | (go_at_call 52; refine (HW.out).mono ?_; rintro e w1 ⟨rfl, hb⟩; have B1 : Hid (Below w.heap.size w w1) := hb; clear hb)
          | (go_at_call 53; refine (HA.out _ (B1.out)).mono ?_; rintro e w2 ⟨rfl, _, hb⟩; have B2 : Hid (Below w.heap.size w w2) := below_next B1.out hb; obtain ⟨d3, d2⟩ := HCL.out w2 B2.out; clear hb)
          | (go_at_call 54; refine (HT _).mono ?_; rintro e w3 ⟨rfl, hw⟩; rw [hw]; clear hw w3))
        exact ⟨rfl, rfl, B2.out⟩
end
end Go.Proofs.YtapgaclonilnbaaDoor

/-
  Proved: what print, read, alloc and free do to the machine.
-/
namespace Go.Proofs.YtapgaclonilnbaaDoor
open Go.RowKit
set_option linter.unusedVariables false
set_option linter.unusedSimpArgs false

theorem infoInt : (Tryd.prog.info? 3).map (fun i => (i.zero, i.size, i.bytes)) = some (some (.int .i64 0), 1, 8) := by kernel_rfl
theorem noC_one (a : Int) : ∀ u ∈ noC a, u.oneCell' = true := by intro u hu; simp [noC] at hu; subst hu; rfl

/-- One number more is printed. -/
theorem PP.app {base : Nat} {l : List Int} (w : World) {ops : Array Oper} {rest : List Oper} {o : Oper} {a : Act} {Q : Exit → Act → World → Prop} (hgd : o.guard = none) (s x : Operand)
    (ho : o.op = .call { callee := .builtin .append, args := #[s, x], argTypes := #[23, 23] })
    (v : Value) (hs : a.eval s = v) (y : Int) (hown : OwnB 3 1 noC base l v w) (ad : Addr) (C : Nat) (hx : a.eval x = .slice (some ad) 1 C)
    (hc : ∀ j u, (noC y)[j]? = some u → w.cell? (ad.add j) = some u) (hl : l.length ≤ 10000000)
    (h : ∀ v' w', OwnB 3 1 noC base (l ++ [y]) v' w' → Below base w w' → (∀ k, k < w.heap.size → v.ownBlock ≠ some k → w'.heap[k]? = w.heap[k]?) → (∀ b, v'.ownBlock = some b → v.ownBlock = some b ∨ w.heap.size ≤ b) → wpList Tryd.prog ops Q rest (a.put o.dst v') w') : wpList Tryd.prog ops Q (o :: rest) a w :=
  OwnB.appendNL 23 3 noC _ 1 8 infoInt Tryd.underlying23 rfl (by decide) (by decide) noC_len noC_one w hgd s x ho v hs y hown ad C hx hc hl h

section
variable {X : Cx} {m : Mc} {st : Int} {L : Ly} {w w' : World}

theorem MS.lts (h : MS X m st L w) : X.R < w.heap.size ∧ X.mb < w.heap.size ∧ X.hb < w.heap.size ∧ (∀ c, c < 4 → X.g c < w.heap.size) ∧ ∀ i, i < m.bl.length + 1 → L.pb i < w.heap.size ∧ L.rb i < w.heap.size ∧ L.fb i < w.heap.size := by
  refine ⟨h.rr.lt, h.mp.lt, h.hh.head.lt, fun c hc => World.block_lt_of_cell? _ _ (h.hh.bit hc (show 0 < bl c by have := span_le c; omega)), fun i hi => ?_⟩
  have := h.at i (by omega)
  exact ⟨this.s.lt, GZ.lt this.r, GZ.lt this.f⟩

/-- New blocks have a part of their own. -/
theorem MS.ros (h : MS X m st L w) (p : Nat) (pv cv : Value) (h1 : ∀ b, pv.ownBlock = some b → L.pv.ownBlock = some b ∨ (w.heap.size ≤ b ∧ p = 7)) : Ros X { L with pv := pv, ro := fun b => if w.heap.size ≤ b then p else L.ro b } (m.bl.length + 1) := by
  obtain ⟨l1, l2, l3, l4, l5⟩ := h.lts
  have e : ∀ b, b < w.heap.size → (if w.heap.size ≤ b then p else L.ro b) = L.ro b := fun b hb => if_neg (by omega)
  refine ⟨(e _ l1).trans h.ro.r, (e _ l3).trans h.ro.h, fun c hc => (e _ (l4 c hc)).trans (h.ro.g c hc), fun b hb => ?_, fun b hb => ?_, ⟨(e _ l2).trans h.ro.m.1, (e _ h.mp.lx).trans h.ro.m.2⟩, fun i hi => ?_⟩
  · exact (e _ (by obtain ⟨_, cs, ha⟩ := h.cc.at hb; exact ha.lt)).trans (h.ro.c b hb)
  · rcases h1 b hb with h2 | ⟨h2, h3⟩
    · exact (e _ (by obtain ⟨_, cs, ha⟩ := h.pp.at h2; exact ha.lt)).trans (h.ro.p b h2)
    · show (if w.heap.size ≤ b then p else L.ro b) = 7
      rw [if_pos h2, h3]
  · obtain ⟨a1, a2, a3⟩ := l5 i hi
    obtain ⟨b1, b2, b3⟩ := h.ro.s i hi
    exact ⟨(e _ a1).trans b1, (e _ a2).trans b2, (e _ a3).trans b3⟩

theorem MS.prn (h : MS X m st L w) (o : Obj) (y : Int) {v5 : Value} {w5 : World} (ho : OwnB 3 1 noC X.wz.heap.size (m.out ++ [y]) v5 w5) (hb : Below X.wz.heap.size (w.alloc o) w5)
    (hk : ∀ k, k < (w.alloc o).heap.size → L.pv.ownBlock ≠ some k → w5.heap[k]? = (w.alloc o).heap[k]?) (hv : ∀ b, v5.ownBlock = some b → L.pv.ownBlock = some b ∨ (w.alloc o).heap.size ≤ b) :
    GZ 56 w5 X.R 2826 (rnF X m st L.cv L.pv L.iv (L.pb m.bl.length)) ∧ MS X { m with out := m.out ++ [y] } st { L with pv := v5, ro := fun b => if w.heap.size ≤ b then 7 else L.ro b } (w5.setCell ⟨X.R, 5, none⟩ v5) := by
  obtain ⟨l1, l2, l3, l4, l5⟩ := h.lts
  have b0 := below_alloc w o
  have k5 : Kp (fun b => L.ro b = 7) w w5 := ⟨(b0.mono (Nat.zero_le _)).trans (hb.mono (Nat.zero_le _)), fun b hb2 hn => (hk b (Nat.lt_of_lt_of_le hb2 b0.size) fun e => hn (h.ro.p b e)).trans (b0.block b hb2)⟩
  have q5 := h.stay (P := fun x => x = 7) k5
  have k6 : Kp (fun b => L.ro b = 7 ∨ L.ro b = 0) w (w5.setCell ⟨X.R, 5, none⟩ v5) := (k5.mono fun b hb => Or.inl hb).trans (Kp.set w5 5 v5 (Or.inr h.ro.r))
  have q6 := h.stay (P := fun x => x = 7 ∨ x = 0) k6
  have r5 := q5.rr (by show ¬ _ = _; omega)
  refine ⟨r5, h.tb, q6.bz (by show ¬ (_ ∨ _); omega), h.hl, q6.mp (by show ¬ (_ ∨ _); omega), ?_, q6.hh (fun c hc => by show ¬ (_ ∨ _); omega), q6.cc (by show ¬ (_ ∨ _); omega), ?_, h.ii, fun i hi => q6.kb i hi (by show ¬ (_ ∨ _); omega) (by show ¬ (_ ∨ _); omega) (by show ¬ (_ ∨ _); omega), ⟨q6.ns (by show ¬ (_ ∨ _); omega), q6.nr (by show ¬ (_ ∨ _); omega), q6.nf (by show ¬ (_ ∨ _); omega)⟩, h.ros 7 v5 L.cv fun b hb => ?_, fun b hb => ?_⟩
  · refine (GZ.set r5 5 (by omega) _).ext fun i hi => ?_
    unfold pu
    by_cases e : i = 5
    · subst e; rfl
    · rw [if_neg e]
      rcases i with _ | _ | _ | _ | _ | _ | _ | _ | _ | _ | i <;> first | rfl | omega
  · refine OwnB.but ho (Kp.set (F := fun b => b = X.R) w5 5 v5 rfl) fun b hb e => ?_
    subst e
    rcases hv _ hb with e2 | e2
    · have := h.ro.p _ e2
      have := h.ro.r
      omega
    · have := b0.size
      omega
  · rcases hv b hb with e2 | e2
    · exact Or.inl e2
    · exact Or.inr ⟨Nat.le_trans b0.size e2, rfl⟩
  · show (if w.heap.size ≤ b then 7 else L.ro b) = 9
    rw [if_neg (by have := h.bz.size; omega)]
    exact h.zz b hb

set_option maxHeartbeats 1000000 in
theorem print_c (h : MS X m st L w) (v : Int) (u : Bool) (hv : I32 v) (hl : m.out.length ≤ 10000000) : Calls Tryd.prog 44 #[.pointer (some ⟨X.R, 0, none⟩), .int .i32 v, .bool u] w fun e w' => e = .returned (.tuple #[]) ∧ ∃ L', L'.pb = L.pb ∧ MS X { m with out := m.out ++ [if u then wh v else v] } st L' w' := by
  obtain ⟨v1, v2⟩ := hv
  have c5 := h.rr.cell 5 (by omega)
  simp only [rnF] at c5
  have HH : Hid (MS X m st L w) := h
  have HL : Hid (m.out.length ≤ 10000000) := hl
  have HO : Hid (∀ o, OwnB 3 1 noC X.wz.heap.size m.out L.pv (w.alloc o)) := fun o => h.pp.below (below_alloc _ _)
  clear h hl
  obtain ⟨pv, hpv⟩ : ∃ pv, pv = L.pv := ⟨_, rfl⟩
  have HP : Hid (pv = L.pv) := hpv
  rw [← hpv] at c5 HO
  clear hpv
  cases u with
  | true =>
    show Calls _ _ _ _ fun e w' => e = .returned (.tuple #[]) ∧ ∃ L', L'.pb = L.pb ∧ MS X { m with out := m.out ++ [wh v] } st L' w'
    go_enter Tryd.func44, Tryd.ntmps44
    go_wp2_with (at_builtin; refine PP.app _ rfl _ _ rfl _ rfl (wh v) (HO.out _) ⟨w.heap.size, 0, none⟩ 1 rfl (fun j u hj => cells_new _ (noC (wh v)) 3 j u hj) HL.out ?_; intro v5 w5 ho hb hk hv; obtain ⟨A5, n5, C5, rfl⟩ : ∃ A n C, v5 = .slice A n C := (by obtain ⟨A, C, e, -⟩ := OwnB.shape noC_len ho; exact ⟨A, _, C, e⟩); have M5 := MS.prn HH.out _ (wh v) ho hb (by rw [← HP.out]; exact hk) (by rw [← HP.out]; exact hv); have c55 := M5.1.cell 5 (by omega); have f55 := M5.1.frozen 5; simp only [rnF] at c55; have N5 : Hid (_ ∧ _) := M5; clear ho hb hk hv M5)
    go_end0
    exact ⟨rfl, _, (by rfl), N5.out.2⟩
  | false =>
    show Calls _ _ _ _ fun e w' => e = .returned (.tuple #[]) ∧ ∃ L', L'.pb = L.pb ∧ MS X { m with out := m.out ++ [v] } st L' w'
    go_enter Tryd.func44, Tryd.ntmps44
    go_wp2_with (at_builtin; refine PP.app _ rfl _ _ rfl _ rfl v (HO.out _) ⟨w.heap.size, 0, none⟩ 1 rfl (fun j u hj => cells_new _ (noC v) 3 j u hj) HL.out ?_; intro v5 w5 ho hb hk hv; obtain ⟨A5, n5, C5, rfl⟩ : ∃ A n C, v5 = .slice A n C := (by obtain ⟨A, C, e, -⟩ := OwnB.shape noC_len ho; exact ⟨A, _, C, e⟩); have M5 := MS.prn HH.out _ v ho hb (by rw [← HP.out]; exact hk) (by rw [← HP.out]; exact hv); have c55 := M5.1.cell 5 (by omega); have f55 := M5.1.frozen 5; simp only [rnF] at c55; have N5 : Hid (_ ∧ _) := M5; clear ho hb hk hv M5)
    go_end0
    exact ⟨rfl, _, (by rfl), N5.out.2⟩

theorem Inp.drop {w : World} {x : Int} {l : List Int} {C b o : Nat} (hC : (x :: l).length ≤ C) (hC2 : C ≤ 281474976710656) (hR : Rel w 1 GI (x :: l) (some ⟨b, o, none⟩)) : InpIn w l (.slice (if C = 1 then some ⟨b, o, none⟩ else some ⟨b, o + 1, none⟩) l.length (C - 1)) := by
  refine ⟨_, _, rfl, by simp at hC; omega, by omega, fun i hi => ?_⟩
  simp at hC
  rw [if_neg (by omega)]
  obtain ⟨b2, o2, cs, e1, e2, e3⟩ := hR (i + 1) (by simp; omega)
  cases e1
  refine ⟨b, o + 1, cs, rfl, ?_, by simpa using e3⟩
  rwa [show o + 1 + i * 1 = o + (i + 1) * 1 by omega]

set_option maxHeartbeats 1000000 in
theorem read_c (h : MS X m st L w) : Calls Tryd.prog 45 #[.pointer (some ⟨X.R, 0, none⟩)] w fun e w' => e = .returned (.int .i32 (wd (m.ip.getD 0 0))) ∧ ∃ L', L'.pb = L.pb ∧ L'.rb = L.rb ∧ MS X { m with ip := m.ip.drop 1 } st L' w' := by
  have c2 := h.rr.cell 2 (by omega)
  have f2 := h.rr.frozen 2
  simp only [rnF] at c2
  obtain ⟨A, C, ev, hC, hC2, hR⟩ := h.ii
  have HH : Hid (MS X m st L w) := h
  rw [ev] at c2
  cases hip : m.ip with
  | nil =>
    rw [hip] at c2 hC
    simp only [List.length_nil] at c2
    show Calls _ _ _ _ fun e w' => e = .returned (.int .i32 0) ∧ ∃ L', L'.pb = L.pb ∧ L'.rb = L.rb ∧ MS X { m with ip := [] } st L' w'
    have HM : Hid (MS X { m with ip := [] } st L w) := by have := h; rw [← hip]; exact this
    clear h ev hip hR
    go_enter Tryd.func45, Tryd.ntmps45
    go_wp2
    go_ret
    exact ⟨rfl, L, rfl, rfl, HM.out⟩
  | cons x l =>
    rw [hip] at c2 hC hR
    obtain ⟨b, o, cs, rfl, hrow, hg⟩ := hR 0 (by simp)
    have hD := Inp.drop hC hC2 hR
    have c0 : w.cell? ⟨b, o, none⟩ = some (.int .i64 x) := by
      have hg : cs = [.int .i64 x] := hg
      subst hg
      have := hrow.2 0 _ rfl
      have e2 := h.bz.cell (p := ⟨b, o, none⟩) hrow.1
      rw [e2]
      simpa using this
    simp only [List.length_cons] at c2 hC
    have hz : ¬ ((l.length : Int) + 1 = 0) := by omega
    show Calls _ _ _ _ fun e w' => e = .returned (.int .i32 (wd x)) ∧ ∃ L', L'.pb = L.pb ∧ L'.rb = L.rb ∧ MS X { m with ip := l } st L' w'
    have HM : Hid (∀ v, InpIn X.wz l v → MS X { m with ip := l } st { L with iv := v } (w.setCell ⟨X.R, 2, none⟩ v)) := fun v hv => h.inp l v hv
    have HD : Hid (InpIn X.wz l (.slice (if C = 1 then some ⟨b, o, none⟩ else some ⟨b, o + 1, none⟩) l.length (C - 1))) := hD
    rw [← wrap_wd]
    clear h ev hip hR hrow hg hD HH
    by_cases e1 : C = 1
    · subst e1
      have hl : l.length = 0 := by omega
      rw [if_pos rfl] at HD
      have HE : Hid (InpIn X.wz l (.slice (some ⟨b, o, none⟩) 0 0)) := (by have := HD.out; rwa [hl] at this : InpIn X.wz l (.slice (some ⟨b, o, none⟩) 0 0))
      go_enter Tryd.func45, Tryd.ntmps45
      go_wp2
      go_ret
      exact ⟨rfl, _, (by rfl), (by rfl), HM.out _ HE.out⟩
    · rw [if_neg e1] at HD
      go_enter Tryd.func45, Tryd.ntmps45
      go_wp2
      go_ret
      exact ⟨rfl, _, (by rfl), (by rfl), HM.out _ HD.out⟩

set_option maxHeartbeats 1000000 in
theorem free2_c (h : MS X m st L w) (x : Int) (h0 : 0 ≤ x) (h1 : x ≤ 4294967295) : Calls Tryd.prog 47 #[.pointer (some ⟨X.R, 0, none⟩), .int .u32 x] w fun e w' =>
    ((frA m.us x (atOf x)).1 = 0 → e = .returned (.tuple #[]) ∧ MS X { m with us := (frA m.us x (atOf x)).2 } st L w') ∧ ((frA m.us x (atOf x)).1 ≠ 0 → e = .panicked [{ v := endV 4 0, recovered := false }] ∧ MS X { m with us := (frA m.us x (atOf x)).2 } st L w') := by
  have c9 := h.rr.cell 9 (by omega)
  simp only [rnF] at c9
  have HF := free_c h.hh x h.tab
  have HM : Hid (∀ w', HIn w' X.hb X.g (frA m.us x (atOf x)).2 → Kp (Gs X.g) w w' → MS X { m with us := (frA m.us x (atOf x)).2 } st L w') := fun w' a b => h.heap _ a b
  have HF2 : Hid (Calls Tryd.prog 56 #[.pointer (some ⟨X.hb, 0, none⟩), .int .i64 x] w fun e w' => e = .returned (.int .i64 (frA m.us x (atOf x)).1) ∧ HIn w' X.hb X.g (frA m.us x (atOf x)).2 ∧ Kp (Gs X.g) w w') := HF
  clear h HF
  generalize (frA m.us x (atOf x)).1 = e at *
  generalize (frA m.us x (atOf x)).2 = us at *
  have HT := fun w => trap_c w
  have hx : IntKind.i64.wrap x = x := wrap_in x ⟨by omega, by omega⟩
  by_cases he : e = 0
  · subst he
    go_enter Tryd.func47, Tryd.ntmps47
    go_wp2_with (go_at_call 56; refine (HF2.out).mono ?_; rintro e w1 ⟨rfl, h1, h2⟩; have M1 := HM.out w1 h1 h2; clear h1 h2)
    go_end0
    exact ⟨fun _ => ⟨rfl, M1⟩, fun h => absurd rfl h⟩
  · go_enter Tryd.func47, Tryd.ntmps47
    go_wp2_with (first
      | (go_at_call 56; refine (HF2.out).mono ?_; rintro e w1 ⟨rfl, h1, h2⟩; have M1 := HM.out w1 h1 h2; clear h1 h2)
      | (go_at_call 54; refine (HT _).mono ?_; rintro e w1 ⟨rfl, hw⟩; rw [hw]; clear hw w1))
    exact ⟨rfl, fun h => absurd h he, fun _ => ⟨rfl, M1⟩⟩

set_option maxHeartbeats 1000000 in
theorem alloc2_c (h : MS X m st L w) (x : Int) : Calls Tryd.prog 46 #[.pointer (some ⟨X.R, 0, none⟩), .int .i64 x] w fun e w' =>
    ((alA m.us (clsOf x)).2.1 = 0 → e = .returned (.int .i32 (wd (alA m.us (clsOf x)).1)) ∧ MS X { m with us := (alA m.us (clsOf x)).2.2 } st L w') ∧ ((alA m.us (clsOf x)).2.1 ≠ 0 → e = .panicked [{ v := endV 3 0, recovered := false }] ∧ MS X { m with us := (alA m.us (clsOf x)).2.2 } st L w') := by
  have c9 := h.rr.cell 9 (by omega)
  simp only [rnF] at c9
  have HF := alloc_c h.hh x h.tab
  have HM : Hid (∀ w', HIn w' X.hb X.g (alA m.us (clsOf x)).2.2 → Kp (Gs X.g) w w' → MS X { m with us := (alA m.us (clsOf x)).2.2 } st L w') := fun w' a b => h.heap _ a b
  have HF2 : Hid (Calls Tryd.prog 55 #[.pointer (some ⟨X.hb, 0, none⟩), .int .i64 x] w fun e w' => e = .returned (.tuple #[.int .i64 (alA m.us (clsOf x)).1, .int .i64 (alA m.us (clsOf x)).2.1]) ∧ HIn w' X.hb X.g (alA m.us (clsOf x)).2.2 ∧ Kp (Gs X.g) w w') := HF
  clear h HF
  generalize (alA m.us (clsOf x)).1 = v at *
  generalize (alA m.us (clsOf x)).2.1 = e at *
  generalize (alA m.us (clsOf x)).2.2 = us at *
  have HT := fun w => stop_c 3 0 w
  rw [← wrap_wd]
  by_cases he : e = 0
  · subst he
    go_enter Tryd.func46, Tryd.ntmps46
    go_wp2_with (go_at_call 55; refine (HF2.out).mono ?_; rintro e w1 ⟨rfl, h1, h2⟩; have M1 := HM.out w1 h1 h2; clear h1 h2)
    go_ret
    exact ⟨fun _ => ⟨rfl, M1⟩, fun h => absurd rfl h⟩
  · go_enter Tryd.func46, Tryd.ntmps46
    go_wp2_with (first
      | (go_at_call 55; refine (HF2.out).mono ?_; rintro e w1 ⟨rfl, h1, h2⟩; have M1 := HM.out w1 h1 h2; clear h1 h2)
      | (go_at_call 17; refine (HT _).mono ?_; rintro e w1 ⟨rfl, hw⟩; rw [hw]; clear hw w1))
    exact ⟨rfl, fun h => absurd h he, fun _ => ⟨rfl, M1⟩⟩
end
end Go.Proofs.YtapgaclonilnbaaDoor

/-
  Proved: the machine in memory with any number of calls, none among them; one call more.
-/
namespace Go.Proofs.YtapgaclonilnbaaDoor
open Go.RowKit
set_option linter.unusedVariables false
set_option linter.unusedSimpArgs false

/-- The machine, between calls. -/
structure Mh where
  mk ::
  cs : List Cl
  us : Nat → Nat → Bool
  wo : Nat → Int
  ip : List Int
  out : List Int
  ld : Int

abbrev hOf (m : Mc) : Mh := ⟨m.bl ++ [m.nw], m.us, m.wo, m.ip, m.out, m.ld⟩

/-- The cells of the machine. -/
def rnG (X : Cx) (z : Mh) (st : Int) (cv pv iv nv : Value) : Nat → Value
  | 0 => .slice X.lA X.l.length X.lC
  | 1 => .map (some X.mb)
  | 2 => iv
  | 3 => .int .i64 X.fu
  | 4 => .int .i64 st
  | 5 => pv
  | 6 => cv
  | 7 => nv
  | 8 => .int .i64 z.ld
  | 9 => .pointer (some ⟨X.hb, 0, none⟩)
  | k + 10 => .int .i32 (z.wo k)

structure MX (X : Cx) (z : Mh) (nv : Value) (st : Int) (L : Ly) (w : World) : Prop where
  tb : Tab X.wz
  bz : Below X.wz.heap.size X.wz w
  hl : LfsIn X.wz X.l (.slice X.lA X.l.length X.lC)
  mp : MpS X w
  rr : GZ 56 w X.R 2826 (rnG X z st L.cv L.pv L.iv nv)
  hh : HIn w X.hb X.g z.us
  cc : OwnB 52 1 ptC X.wz.heap.size ((List.range z.cs.length).map L.pb) L.cv w
  pp : OwnB 3 1 noC X.wz.heap.size z.out L.pv w
  ii : InpIn X.wz z.ip L.iv
  kk : ∀ i (h : i < z.cs.length), CallIn X (z.cs[i]'h) (L.pb i) (L.rb i) (L.fb i) w
  ro : Ros X L z.cs.length
  zz : ∀ b, b < X.wz.heap.size → L.ro b = 9

section
variable {X : Cx} {z : Mh} {m : Mc} {nv : Value} {st : Int} {L : Ly} {w w' : World}

theorem MS.toX (h : MS X m st L w) : MX X (hOf m) (.pointer (some ⟨L.pb m.bl.length, 0, none⟩)) st L w := by
  have e : (hOf m).cs.length = m.bl.length + 1 := by simp [hOf]
  refine ⟨h.tb, h.bz, h.hl, h.mp, h.rr.ext fun i hi => ?_, h.hh, by rw [e]; exact h.cc, h.pp, h.ii, fun i hi => ?_, by rw [e]; exact h.ro, h.zz⟩
  · rcases i with _ | _ | _ | _ | _ | _ | _ | _ | _ | _ | i <;> rfl
  · show CallIn X ((m.bl ++ [m.nw])[i]'hi) _ _ _ w
    rw [e] at hi
    rw [List.getElem_append]
    split
    · exact h.kb i _
    · obtain rfl : i = m.bl.length := by omega
      simp only [Nat.sub_self, List.getElem_singleton]
      exact h.now

theorem MX.toS (h : MX X (hOf m) (.pointer (some ⟨L.pb m.bl.length, 0, none⟩)) st L w) : MS X m st L w := by
  have e : (hOf m).cs.length = m.bl.length + 1 := by simp [hOf]
  have hcc := h.cc
  have hro := h.ro
  rw [e] at hcc hro
  refine ⟨h.tb, h.bz, h.hl, h.mp, h.rr.ext fun i hi => ?_, h.hh, hcc, h.pp, h.ii, fun i hi => ?_, ?_, hro, h.zz⟩
  · rcases i with _ | _ | _ | _ | _ | _ | _ | _ | _ | _ | i <;> rfl
  · have := h.kk i (by rw [e]; omega)
    have e2 : (hOf m).cs[i]'(by rw [e]; omega) = m.bl[i] := by
      show (m.bl ++ [m.nw])[i]'_ = _
      rw [List.getElem_append_left hi]
    rwa [e2] at this
  · have := h.kk m.bl.length (by rw [e]; omega)
    have e2 : (hOf m).cs[m.bl.length]'(by rw [e]; omega) = m.nw := by
      show (m.bl ++ [m.nw])[m.bl.length]'_ = _
      simp
    rwa [e2] at this

theorem MX.tab (h : MX X z nv st L w) : Tab w := h.tb.below h.bz h.tb.lt
theorem MX.below (h : MX X z nv st L w) (k : Below w.heap.size w w') : MX X z nv st L w' :=
  ⟨h.tb, h.bz.trans (k.mono h.bz.size), h.hl, h.mp.below k, h.rr.beW k, h.hh.below k, h.cc.below k, h.pp.below k, h.ii, fun i hi => (h.kk i hi).below k, h.ro, h.zz⟩
theorem MX.lts (h : MX X z nv st L w) : X.R < w.heap.size ∧ X.mb < w.heap.size ∧ X.hb < w.heap.size ∧ (∀ c, c < 4 → X.g c < w.heap.size) ∧ ∀ i, i < z.cs.length → L.pb i < w.heap.size ∧ L.rb i < w.heap.size ∧ L.fb i < w.heap.size :=
  ⟨h.rr.lt, h.mp.lt, h.hh.head.lt, fun c hc => World.block_lt_of_cell? _ _ (h.hh.bit hc (show 0 < bl c by have := span_le c; omega)), fun i hi => ⟨(h.kk i hi).s.lt, GZ.lt (h.kk i hi).r, GZ.lt (h.kk i hi).f⟩⟩

/-- What stays where only blocks of some parts turn. -/
structure StX (X : Cx) (z : Mh) (nv : Value) (st : Int) (L : Ly) (P : Nat → Prop) (w' : World) : Prop where
  bz : ¬ P 9 → Below X.wz.heap.size X.wz w'
  mp : ¬ P 8 → MpS X w'
  rr : ¬ P 0 → GZ 56 w' X.R 2826 (rnG X z st L.cv L.pv L.iv nv)
  hh : (∀ c, c < 5 → ¬ P (1 + c)) → HIn w' X.hb X.g z.us
  cc : ¬ P 6 → OwnB 52 1 ptC X.wz.heap.size ((List.range z.cs.length).map L.pb) L.cv w'
  pp : ¬ P 7 → OwnB 3 1 noC X.wz.heap.size z.out L.pv w'
  kk : ∀ i (h : i < z.cs.length), ¬ P (10 + 3 * i) → ¬ P (11 + 3 * i) → ¬ P (12 + 3 * i) → CallIn X (z.cs[i]'h) (L.pb i) (L.rb i) (L.fb i) w'

theorem MX.stay (h : MX X z nv st L w) {P : Nat → Prop} (k : Kp (fun b => P (L.ro b)) w w') : StX X z nv st L P w' := by
  have n1 : ∀ b q, L.ro b = q → ¬ P q → ¬ P (L.ro b) := fun b q e hn => by rw [e]; exact hn
  obtain ⟨l1, l2, l3, l4, l5⟩ := h.lts
  refine ⟨fun hn => ?_, fun hn => h.mp.stay (k.2 _ h.mp.lt (n1 _ _ h.ro.m.1 hn)) (k.2 _ h.mp.lx (n1 _ _ h.ro.m.2 hn)) k.1.size, fun hn => h.rr.kp k (n1 _ _ h.ro.r hn), fun hn => h.hh.keep fun b hb => ?_, fun hn => h.cc.but k fun b hb => n1 _ _ (h.ro.c b hb) hn, fun hn => h.pp.but k fun b hb => n1 _ _ (h.ro.p b hb) hn, fun i hi h1 h2 h3 => ?_⟩
  · refine h.bz.trans (k.below h.bz.size fun b hb => ?_)
    rcases Nat.lt_or_ge b X.wz.heap.size with e | e
    · rw [h.zz b e] at hb; exact absurd hb hn
    · exact e
  · rcases hb with rfl | ⟨c, hc, rfl⟩
    · exact k.2 _ l3 (n1 _ _ h.ro.h (hn 0 (by omega)))
    · exact k.2 _ (l4 c hc) (n1 _ _ (h.ro.g c hc) (by have := hn (c + 1) (by omega); rwa [show 1 + (c + 1) = 2 + c by omega] at this))
  · have := h.ro.s i hi
    exact (h.kk i hi).kp k (n1 _ _ this.1 h1) (n1 _ _ this.2.1 h2) (n1 _ _ this.2.2 h3)

/-- Where it lies with one call more. -/
def Ly.push (L : Ly) (n s : Nat) (v : Value) (p r f : Nat) : Ly :=
  ⟨fun i => if i = n then p else L.pb i, fun i => if i = n then r else L.rb i, fun i => if i = n then f else L.fb i, v, L.pv, L.iv,
   fun b => if b = p then 10 + 3 * n else if b = r then 11 + 3 * n else if b = f then 12 + 3 * n else if s ≤ b then 6 else L.ro b⟩

theorem MX.push (h : MX X z nv st L w) {w9 : World} (k : Kp (fun b => L.ro b = 0 ∨ L.ro b = 6) w w9) {c : Cl} {p r f : Nat} {v5 : Value} {ld : Int} (np : w.heap.size ≤ p ∧ w.heap.size ≤ r ∧ w.heap.size ≤ f ∧ p ≠ r ∧ p ≠ f ∧ r ≠ f)
    (hc : CallIn X c p r f w9) (ho : OwnB 52 1 ptC X.wz.heap.size ((List.range z.cs.length).map L.pb ++ [p]) v5 w9) (hv : ∀ b, v5.ownBlock = some b → L.cv.ownBlock = some b ∨ (w.heap.size ≤ b ∧ b ≠ p ∧ b ≠ r ∧ b ≠ f))
    (hr : GZ 56 w9 X.R 2826 (rnG X { z with ld := ld } st v5 L.pv L.iv (.pointer (some ⟨p, 0, none⟩)))) :
    MX X { z with cs := z.cs ++ [c], ld := ld } (.pointer (some ⟨p, 0, none⟩)) st (L.push z.cs.length w.heap.size v5 p r f) w9 := by
  obtain ⟨l1, l2, l3, l4, l5⟩ := h.lts
  have q := h.stay (P := fun x => x = 0 ∨ x = 6) k
  have el : (z.cs ++ [c]).length = z.cs.length + 1 := by simp
  have old : ∀ b, b < w.heap.size → (L.push z.cs.length w.heap.size v5 p r f).ro b = L.ro b := fun b hb => by
    show (if b = p then _ else if b = r then _ else if b = f then _ else if w.heap.size ≤ b then _ else _) = _
    rw [if_neg (by omega), if_neg (by omega), if_neg (by omega), if_neg (by omega)]
  have ep : ∀ i, i < z.cs.length → (L.push z.cs.length w.heap.size v5 p r f).pb i = L.pb i := fun i hi => if_neg (by omega)
  have er : ∀ i, i < z.cs.length → (L.push z.cs.length w.heap.size v5 p r f).rb i = L.rb i := fun i hi => if_neg (by omega)
  have ef : ∀ i, i < z.cs.length → (L.push z.cs.length w.heap.size v5 p r f).fb i = L.fb i := fun i hi => if_neg (by omega)
  have ep' : (L.push z.cs.length w.heap.size v5 p r f).pb z.cs.length = p := if_pos rfl
  have er' : (L.push z.cs.length w.heap.size v5 p r f).rb z.cs.length = r := if_pos rfl
  have ef' : (L.push z.cs.length w.heap.size v5 p r f).fb z.cs.length = f := if_pos rfl
  refine ⟨h.tb, q.bz (by show ¬ (_ ∨ _); omega), h.hl, q.mp (by show ¬ (_ ∨ _); omega), hr.ext fun i hi => ?_, q.hh (fun c hc => by show ¬ (_ ∨ _); omega), ?_, q.pp (by show ¬ (_ ∨ _); omega), h.ii, fun i hi => ?_, ?_, fun b hb => (old b (by have := h.bz.size; omega)).trans (h.zz b hb)⟩
  · rcases i with _ | _ | _ | _ | _ | _ | _ | _ | _ | _ | i <;> rfl
  · show OwnB _ _ _ _ ((List.range (z.cs ++ [c]).length).map _) v5 w9
    rw [el, List.range_succ, List.map_append, List.map_cons, List.map_nil, ep']
    rw [show (List.range z.cs.length).map (L.push z.cs.length w.heap.size v5 p r f).pb = (List.range z.cs.length).map L.pb from List.map_congr_left fun i hi => ep i (List.mem_range.1 hi)]
    exact ho
  · have hi : i < (z.cs ++ [c]).length := hi
    show CallIn X ((z.cs ++ [c])[i]'hi) _ _ _ w9
    rw [el] at hi
    rcases Nat.lt_or_ge i z.cs.length with e | e
    · rw [List.getElem_append_left e, ep i e, er i e, ef i e]
      exact q.kk i e (by show ¬ (_ ∨ _); omega) (by show ¬ (_ ∨ _); omega) (by show ¬ (_ ∨ _); omega)
    · obtain rfl : i = z.cs.length := by omega
      rw [ep', er', ef']
      simp only [List.getElem_append_right (Nat.le_refl _), Nat.sub_self, List.getElem_singleton]
      exact hc
  · refine ⟨(old _ l1).trans h.ro.r, (old _ l3).trans h.ro.h, fun c hc => (old _ (l4 c hc)).trans (h.ro.g c hc), fun b hb => ?_, fun b hb => (old b (by obtain ⟨_, cs, ha⟩ := h.pp.at hb; exact ha.lt)).trans (h.ro.p b hb), ⟨(old _ l2).trans h.ro.m.1, (old _ h.mp.lx).trans h.ro.m.2⟩, fun i hi => ?_⟩
    · rcases hv b hb with e | ⟨e1, e2, e3, e4⟩
      · exact (old b (by obtain ⟨_, cs, ha⟩ := h.cc.at e; exact ha.lt)).trans (h.ro.c b e)
      · show (if b = p then _ else if b = r then _ else if b = f then _ else if w.heap.size ≤ b then _ else _) = _
        rw [if_neg e2, if_neg e3, if_neg e4, if_pos e1]
    · have hi : i < (z.cs ++ [c]).length := hi
      rw [el] at hi
      rcases Nat.lt_or_ge i z.cs.length with e | e
      · obtain ⟨a1, a2, a3⟩ := l5 i e
        obtain ⟨b1, b2, b3⟩ := h.ro.s i e
        rw [ep i e, er i e, ef i e]
        exact ⟨(old _ a1).trans b1, (old _ a2).trans b2, (old _ a3).trans b3⟩
      · obtain rfl : i = z.cs.length := by omega
        obtain ⟨n1, n2, n3, n4, n5, n6⟩ := np
        rw [ep', er', ef']
        refine ⟨if_pos rfl, ?_, ?_⟩
        · show (if r = p then _ else if r = r then _ else _) = _
          rw [if_neg (fun e => n4 e.symm), if_pos rfl]
        · show (if f = p then _ else if f = r then _ else if f = f then _ else _) = _
          rw [if_neg (fun e => n5 e.symm), if_neg (fun e => n6 e.symm), if_pos rfl]
end
end Go.Proofs.YtapgaclonilnbaaDoor

/-
  Proved: what holds of low's machine at each step, as plain mathematics.
-/
namespace Go.Proofs.YtapgaclonilnbaaDoor
set_option linter.unusedVariables false
set_option linter.unusedSimpArgs false

/-- A call that is as it must be. -/
structure CW (l : List Lf) (c : Cl) : Prop where
  fn : c.fn < l.length
  bk : c.bk < (fnO l c.fn).bs.length
  rg : c.rg.length = (fnO l c.fn).rg.toNat
  fr : c.fr.length = (fnO l c.fn).fr.toNat
  nx : c.nx ≤ (blkO l c).li.length
  rI : ∀ i, I32 (c.rg.getD i 0)
  fI : ∀ i, I32 (c.fr.getD i 0)

/-- A call that was called by another one. -/
def Lk (l : List Lf) (c c' : Cl) : Prop := ∃ j, c.nx = j + 1 ∧ j < (blkO l c).li.length ∧ ((blkO l c).li.getD j noLo).op = 7 ∧ byN l ((blkO l c).li.getD j noLo).tx.data.toList = some (c'.fn : Int)

def ldC (l : List Lf) (c : Cl) : Int := if (fnO l c.fn).qu then 0 else 1
def ldS (l : List Lf) : List Cl → Int
  | [] => 0
  | c :: cs => ldC l c + ldS l cs

structure WF (l : List Lf) (m : Mc) : Prop where
  c : ∀ i, i ≤ m.bl.length → CW l (callAt m i)
  k : ∀ i, i < m.bl.length → Lk l (callAt m i) (callAt m (i + 1))
  b0 : (callAt m 0).ba = 1234567892
  bs : ∀ i, i < m.bl.length → (callAt m (i + 1)).ba = (callAt m i).ba + 4 * (((callAt m i).fr.length : Int) + 64)
  n : m.bl.length ≤ 391
  ld : m.ld = ldS l (m.bl ++ [m.nw])
  wo : ∀ k, I32 (m.wo k)

theorem at_nw (m : Mc) : callAt m m.bl.length = m.nw := by unfold callAt; rw [List.getD_eq_getElem?_getD, List.getElem?_eq_none (Nat.le_refl _)]; rfl
theorem at_lt (m : Mc) (i : Nat) (h : i < m.bl.length) : callAt m i = m.bl[i] := by unfold callAt; rw [List.getD_eq_getElem?_getD, List.getElem?_eq_getElem h]; rfl
theorem at_eq {m m' : Mc} (e : m'.bl = m.bl) (i : Nat) (h : i < m.bl.length) : callAt m' i = callAt m i := by
  rw [at_lt m i h, at_lt m' i (by rw [e]; exact h)]
  simp only [e]
theorem at_same {m m' : Mc} (e : m'.bl = m.bl) (e2 : m'.nw = m.nw) (i : Nat) : callAt m' i = callAt m i := by
  unfold callAt
  rw [e, e2]

theorem ldS_app (l : List Lf) : ∀ (a b : List Cl), ldS l (a ++ b) = ldS l a + ldS l b
  | [], b => by simp [ldS]
  | c :: a, b => by simp only [List.cons_append, ldS, ldS_app l a b]; omega
theorem ldS_in (l : List Lf) : ∀ (a : List Cl), 0 ≤ ldS l a ∧ ldS l a ≤ a.length
  | [] => by simp [ldS]
  | c :: a => by
    have := ldS_in l a
    simp only [ldS, List.length_cons]
    unfold ldC
    split <;> omega

section
variable {l : List Lf} {m : Mc}

theorem WF.ldb (h : WF l m) : 0 ≤ m.ld ∧ m.ld ≤ 392 := by
  have := ldS_in l (m.bl ++ [m.nw])
  have hn := h.n
  rw [h.ld]
  simp at this
  omega

theorem WF.cw (h : WF l m) : CW l m.nw := by have := h.c m.bl.length (Nat.le_refl _); rwa [at_nw] at this

theorem WF.ba (h : WF l m) (hf : ∀ i, i ≤ m.bl.length → (callAt m i).fr.length ≤ 65536) : ∀ i, i ≤ m.bl.length → 1234567892 ≤ (callAt m i).ba ∧ (callAt m i).ba ≤ 1234567892 + 262400 * (i : Int)
  | 0, _ => by rw [h.b0]; omega
  | i + 1, hi => by
    have := WF.ba h hf i (by omega)
    have e := h.bs i (by omega)
    have := hf i (by omega)
    rw [e]
    omega
theorem WF.up (h : WF l m) : ∀ i j, i ≤ j → j ≤ m.bl.length → (callAt m i).ba ≤ (callAt m j).ba := by
  intro i j hij
  obtain ⟨d, rfl⟩ : ∃ d, j = i + d := ⟨j - i, by omega⟩
  clear hij
  induction d with
  | zero => intro _; exact Int.le_refl _
  | succ d ih =>
    intro hj
    have e := h.bs (i + d) (by omega)
    have := ih (by omega)
    rw [show i + (d + 1) = i + d + 1 by omega, e]
    omega

/-- The last call turns, but for its function and its frame's place. -/
theorem WF.nw (h : WF l m) {c : Cl} (hc : CW l c) (e1 : c.fn = m.nw.fn) (e2 : c.ba = m.nw.ba) : WF l { m with nw := c } := by
  have ea : ∀ i, i < m.bl.length → callAt { m with nw := c } i = callAt m i := fun i hi => at_eq (m := m) (m' := { m with nw := c }) rfl i hi
  have en : callAt { m with nw := c } m.bl.length = c := at_nw { m with nw := c }
  refine ⟨fun i hi => ?_, fun i hi => ?_, ?_, fun i hi => ?_, h.n, ?_, h.wo⟩
  · have hi : i ≤ m.bl.length := hi
    rcases Nat.lt_or_ge i m.bl.length with e | e
    · rw [ea i e]; exact h.c i hi
    · obtain rfl : i = m.bl.length := by omega
      rw [en]; exact hc
  · have hi : i < m.bl.length := hi
    rw [ea i hi]
    rcases Nat.lt_or_ge (i + 1) m.bl.length with e | e
    · rw [ea _ e]; exact h.k i hi
    · have e3 : i + 1 = m.bl.length := by omega
      have := h.k i hi
      rw [e3, at_nw] at this
      rw [e3, en]
      obtain ⟨j, h1, h2, h3, h4⟩ := this
      exact ⟨j, h1, h2, h3, by rw [e1]; exact h4⟩
  · rcases Nat.lt_or_ge 0 m.bl.length with e | e
    · rw [ea 0 e]; exact h.b0
    · have e3 : m.bl.length = 0 := by omega
      have h0 := h.b0
      rw [← e3, at_nw] at h0
      rw [← e3, en, e2]
      exact h0
  · have hi : i < m.bl.length := hi
    rw [ea i hi]
    rcases Nat.lt_or_ge (i + 1) m.bl.length with e | e
    · rw [ea _ e]; exact h.bs i hi
    · have e3 : i + 1 = m.bl.length := by omega
      have := h.bs i hi
      rw [e3, at_nw] at this
      rw [e3, en, e2]
      exact this
  · have := h.ld
    rw [ldS_app] at this ⊢
    rw [this]
    simp only [ldS, ldC, e1]

/-- What hangs on no call turns. -/
theorem WF.rest (h : WF l m) (us : Nat → Nat → Bool) (wo : Nat → Int) (ip out : List Int) (hw : ∀ k, I32 (wo k)) : WF l { m with us := us, wo := wo, ip := ip, out := out } :=
  ⟨fun i hi => h.c i hi, fun i hi => h.k i hi, h.b0, fun i hi => h.bs i hi, h.n, h.ld, hw⟩

/-- One call more. -/
theorem WF.push (h : WF l m) {c : Cl} (hc : CW l c) (hk : Lk l m.nw c) (hb : c.ba = m.nw.ba + 4 * ((m.nw.fr.length : Int) + 64)) (hn : m.bl.length + 1 ≤ 391) : WF l { m with bl := m.bl ++ [m.nw], nw := c, ld := m.ld + ldC l c } := by
  have el : (m.bl ++ [m.nw]).length = m.bl.length + 1 := by simp
  have ea : ∀ i, i ≤ m.bl.length → callAt { m with bl := m.bl ++ [m.nw], nw := c, ld := m.ld + ldC l c } i = callAt m i := fun i hi => by
    have hi2 : i < (m.bl ++ [m.nw]).length := by rw [el]; omega
    rw [at_lt _ i hi2]
    show (m.bl ++ [m.nw])[i] = _
    rcases Nat.lt_or_ge i m.bl.length with e | e
    · rw [at_lt m i e, List.getElem_append_left e]
    · obtain rfl : i = m.bl.length := by omega
      rw [at_nw]; simp
  have en : callAt { m with bl := m.bl ++ [m.nw], nw := c, ld := m.ld + ldC l c } (m.bl.length + 1) = c := by
    have := at_nw { m with bl := m.bl ++ [m.nw], nw := c, ld := m.ld + ldC l c }
    rwa [show ({ m with bl := m.bl ++ [m.nw], nw := c, ld := m.ld + ldC l c } : Mc).bl.length = m.bl.length + 1 from el] at this
  refine ⟨fun i hi => ?_, fun i hi => ?_, by rw [ea 0 (by omega)]; exact h.b0, fun i hi => ?_, by show (m.bl ++ [m.nw]).length ≤ 391; omega, ?_, h.wo⟩
  · have hi : i ≤ (m.bl ++ [m.nw]).length := hi
    rcases Nat.lt_or_ge i (m.bl.length + 1) with e | e
    · rw [ea i (by omega)]; exact h.c i (by omega)
    · obtain rfl : i = m.bl.length + 1 := by omega
      rw [en]; exact hc
  · have hi : i < (m.bl ++ [m.nw]).length := hi
    rw [ea i (by omega)]
    rcases Nat.lt_or_ge i m.bl.length with e | e
    · rw [ea _ (by omega)]; exact h.k i e
    · obtain rfl : i = m.bl.length := by omega
      rw [en, at_nw]; exact hk
  · have hi : i < (m.bl ++ [m.nw]).length := hi
    rw [ea i (by omega)]
    rcases Nat.lt_or_ge i m.bl.length with e | e
    · rw [ea _ (by omega)]; exact h.bs i e
    · obtain rfl : i = m.bl.length := by omega
      rw [en, at_nw]; exact hb
  · show m.ld + ldC l c = ldS l ((m.bl ++ [m.nw]) ++ [c])
    rw [ldS_app, ← h.ld]
    simp [ldS]

/-- One call less; the one that called it has turned, but for its function and its frame's place. -/
theorem WF.pop (h : WF l m) {bl : List Cl} {c c' : Cl} (hbl : m.bl = bl ++ [c]) (hc : CW l c') (e1 : c'.fn = c.fn) (e2 : c'.ba = c.ba) : WF l { m with bl := bl, nw := c', ld := m.ld - ldC l m.nw } := by
  have el : m.bl.length = bl.length + 1 := by rw [hbl]; simp
  have ec : callAt m bl.length = c := by rw [at_lt m _ (by omega)]; simp only [hbl]; simp
  have ea : ∀ i, i < bl.length → callAt { m with bl := bl, nw := c', ld := m.ld - ldC l m.nw } i = callAt m i := fun i hi => by
    rw [at_lt m i (by omega), at_lt _ i hi]
    simp only [hbl]
    rw [List.getElem_append_left hi]
  have en : callAt { m with bl := bl, nw := c', ld := m.ld - ldC l m.nw } bl.length = c' := at_nw _
  have hn := h.n
  refine ⟨fun i hi => ?_, fun i hi => ?_, ?_, fun i hi => ?_, by show bl.length ≤ 391; omega, ?_, h.wo⟩
  · have hi : i ≤ bl.length := hi
    rcases Nat.lt_or_ge i bl.length with e | e
    · rw [ea i e]; exact h.c i (by omega)
    · obtain rfl : i = bl.length := by omega
      rw [en]; exact hc
  · have hi : i < bl.length := hi
    have hk := h.k i (by omega)
    rw [ea i hi]
    rcases Nat.lt_or_ge (i + 1) bl.length with e | e
    · rw [ea _ e]; exact hk
    · have e3 : i + 1 = bl.length := by omega
      rw [e3, ec] at hk
      rw [e3, en]
      obtain ⟨j, h1, h2, h3, h4⟩ := hk
      exact ⟨j, h1, h2, h3, by rw [e1]; exact h4⟩
  · rcases Nat.lt_or_ge 0 bl.length with e | e
    · rw [ea 0 e]; exact h.b0
    · have e3 : bl.length = 0 := by omega
      have h0 := h.b0
      rw [← e3, ec] at h0
      rw [← e3, en, e2]; exact h0
  · have hi : i < bl.length := hi
    have hk := h.bs i (by omega)
    rw [ea i hi]
    rcases Nat.lt_or_ge (i + 1) bl.length with e | e
    · rw [ea _ e]; exact hk
    · have e3 : i + 1 = bl.length := by omega
      rw [e3, ec] at hk
      rw [e3, en, e2]; exact hk
  · show m.ld - ldC l m.nw = ldS l (bl ++ [c'])
    have := h.ld
    rw [hbl, ldS_app, ldS_app] at this
    rw [ldS_app, this]
    simp only [ldS, ldC, e1]
    omega
end
end Go.Proofs.YtapgaclonilnbaaDoor

/-
  Proved: in a region of which Go leaves the order open a load may be taken first, if all that could come ahead of it leave its cell as it is: what waits for it, through others too, may turn it.
-/
namespace Go.Proofs.YtapgaclonilnbaaDoor
set_option linter.unusedVariables false
set_option linter.unusedSimpArgs false

section
variable {P : Program} {ops : Array Oper} {Q : Exit → Act → World → Prop} {md : Region.Mode}

/-- j waits for i, through others too. -/
def reach (md : Region.Mode) (ops : Array Oper) : Nat → Nat → Nat → Bool
  | 0, _, _ => false
  | f + 1, j, i => ((ops[j]?).map (·.after.any fun e => Region.binds md e && (e.on == i || reach md ops f e.on i))).getD false

/-- All that the listed ones wait for is listed. -/
def closedB (md : Region.Mode) (ops : Array Oper) (l : Array Bool) : Bool := (List.range ops.size).all fun j => !(l.getD j true) || ((ops[j]?).map (·.after.all fun e => !(Region.binds md e) || l.getD e.on true)).getD true

def Closed (md : Region.Mode) (ops : Array Oper) (l : Array Bool) : Prop := ∀ j oj, ops[j]? = some oj → l.getD j true = true → ∀ e ∈ oj.after, Region.binds md e = true → l.getD e.on true = true

theorem closed_of {l : Array Bool} (h : closedB md ops l = true) : Closed md ops l := by
  intro j oj hj hl e he hb
  have hlt : j < ops.size := (Array.getElem?_eq_some_iff.1 hj).1
  have h1 := List.all_eq_true.1 h j (by simpa using hlt)
  rw [hj, hl] at h1
  simp only [Bool.not_true, Bool.false_or, Option.map_some, Option.getD_some] at h1
  have := Array.all_eq_true'.1 h1 e he
  rw [hb] at this
  simpa using this

theorem reach_listed {l : Array Bool} (hc : Closed md ops l) (i : Nat) : ∀ f j oj, ops[j]? = some oj → (∀ e ∈ oj.after, Region.binds md e = true → l.getD e.on true = true) → reach md ops f j i = true → l.getD i true = true := by
  intro f
  induction f with
  | zero => intro j oj _ _ h; cases h
  | succ f ih =>
    intro j oj hj hp h
    unfold reach at h
    rw [hj] at h
    simp only [Option.map_some, Option.getD_some] at h
    obtain ⟨e, he, h2⟩ := Array.any_eq_true'.1 h
    simp only [Bool.and_eq_true, Bool.or_eq_true, beq_iff_eq] at h2
    obtain ⟨hb, h3⟩ := h2
    have hl := hp e he hb
    rcases h3 with h3 | h3
    · rwa [h3] at hl
    · cases ho : ops[e.on]? with
      | none =>
        cases f with
        | zero => cases h3
        | succ f => unfold reach at h3; rw [ho] at h3; cases h3
      | some ok => exact ih e.on ok ho (hc e.on ok ho hl) h3

theorem getD_up {l : Array Bool} {k : Nat} (h : l.getD k false = true) : l.getD k true = true := by
  by_cases hs : k < l.size
  · simpa [hs] using h
  · simp [hs] at h

theorem Closed.next {l : Array Bool} (hc : Closed md ops l) {j : Nat} (hj : j ∈ Region.ready md ops l) : Closed md ops (l.setIfInBounds j true) := by
  obtain ⟨_, oj, ho, hp⟩ := mem_ready.1 hj
  have mono : ∀ k, l.getD k true = true → (l.setIfInBounds j true).getD k true = true := fun k hk => by
    by_cases e : j = k
    · subst e
      by_cases hs : j < l.size
      · simp [hs]
      · simp [Array.getElem?_eq_none (Nat.le_of_not_lt hs)]
    · rw [getD_set_ne true e]; exact hk
  intro k ok hk hl e he hb
  by_cases e2 : j = k
  · subst e2
    rw [ho] at hk
    cases hk
    exact mono _ (getD_up (hp e he hb))
  · rw [getD_set_ne true e2] at hl
    exact mono _ (hc k ok hk hl e he hb)

variable {R : Nat → World → Prop}

theorem anyR.firstT {S : World → Prop} {i : Nat} {oi : Oper} {v : Value} (N : Nat) (hi : ops[i]? = some oi) (hsel : ∀ (j : Nat) (o : Oper) cs b, ops[j]? = some o → o.op ≠ .select cs b)
    (hQ : ∀ c a w, Q (.panic c) (a.put oi.dst v) w → Q (.panic c) a w) (hRi : ∀ w, S w → R i w) (hR : ∀ j oj, ops[j]? = some oj → reach md ops N j i = false → ∀ w, R j w → S w) (f : Nat) :
    ∀ (l : Array Bool) (a : Act) (w : World), Closed md ops l → Away md ops i oi l → i ∈ Region.ready md ops l → YieldsIf P ops S oi v a → S w → anyR P md ops Q R f (l.setIfInBounds i true) (a.put oi.dst v) w → anyR P md ops Q R (f + 1) l a w := by
  induction f using Nat.strongRecOn with
  | _ f ih =>
    intro l a w hC hA hr hy hS H
    refine ⟨fun h => (by rw [h] at hr; cases hr), fun j hj => ?_⟩
    by_cases e : j = i
    · subst e
      exact hy.wpOp hi hS ⟨hRi w hS, H⟩
    · obtain ⟨g, rfl, h1⟩ := H.next (ready_mono hj e)
      obtain ⟨hun, oj, ho, hp⟩ := mem_ready.1 hj
      have hno := not_on hr hj ho
      have hnr : reach md ops N j i = false := by
        cases h : reach md ops N j i with
        | false => rfl
        | true =>
          have h3 := reach_listed hC i N j oj ho (fun e he hb => getD_up (hp e he hb)) h
          have h4 := (mem_ready.1 hr).1
          by_cases hs : i < l.size
          · simp [hs] at h3 h4
            rw [h4] at h3
            cases h3
          · simp [Array.getElem?_eq_none (Nat.le_of_not_lt hs)] at h4
      have h2 := wpOp_putIf ho (hA j oj ho e hun hno) (fun cs b => hsel i oi cs b hi) (fun cs b => hsel j oj cs b ho) hQ hy h1
      refine wpOp_mono (fun a' w' k => ⟨k.2.1, ?_⟩) h2
      refine ih g (Nat.lt_succ_self g) _ a' w' (hC.next hj) hA.more (ready_mono hr fun h => e h.symm) k.1 (hR j oj ho hnr w' k.2.1) ?_
      have hc : (l.setIfInBounds j true).setIfInBounds i true = (l.setIfInBounds i true).setIfInBounds j true := Array.setIfInBounds_comm _ _ e
      rw [hc]
      exact k.2.2

variable {S : World → Prop} {need : Nat → Bool}

/-- Who does not need it waits, through others too. -/
def waitsT (md : Region.Mode) (ops : Array Oper) (need : Nat → Bool) (i : Nat) : Bool := (List.range ops.size).all fun j => need j || reach md ops 6 j i

theorem wpAnyN_takeT {i : Nat} {oi : Oper} {v : Value} {fuel : Nat} {listed : Array Bool} {a : Act} {w : World} (hi : ops[i]? = some oi)
    (hs : Region.noSelect ops = true) (hf : Region.free md ops listed i = true) (hr : (Region.ready md ops listed).contains i = true) (hn : waitsT md ops need i = true) (hc : closedB md ops listed = true)
    (hQ : ∀ c a w, Q (.panic c) (a.put oi.dst v) w → Q (.panic c) a w) (hy : YieldsIf P ops S oi v a) (hS : S w)
    (h : wpAnyN P md ops Q S need fuel (listed.setIfInBounds i true) (a.put oi.dst v) w) : wpAnyN P md ops Q S need (fuel + 1) listed a w :=
  anyR.firstT 6 hi (Region.noSelect_spec hs) hQ (fun _ hS _ => hS) (fun j oj ho hno w' hR => hR (by
    cases e : need j with
    | true => rfl
    | false =>
      have hlt : j < ops.size := (Array.getElem?_eq_some_iff.1 ho).1
      have h1 := List.all_eq_true.1 hn j (by simpa using hlt)
      rw [e, hno] at h1
      cases h1)) fuel listed a w (closed_of hc) (Region.free_spec hi hf) (by simpa using hr) hy hS h

theorem tkT {i : Nat} {oi : Oper} {v : Value} {fuel : Nat} {listed : Array Bool} {a : Act} {w : World} (hi : ops[i]? = some oi)
    (hy : YieldsIf P ops S oi v a) (hS : S w) (h : wpAnyN P md ops Q S need fuel (listed.setIfInBounds i true) (a.put oi.dst v) w)
    (hs : Region.noSelect ops = true := by kernel_rfl) (hf : Region.free md ops listed i = true := by kernel_rfl) (hr : (Region.ready md ops listed).contains i = true := by kernel_rfl) (hn : waitsT md ops need i = true := by kernel_rfl)
    (hc : closedB md ops listed = true := by kernel_rfl) (hQ : ∀ c a w, Q (.panic c) (a.put oi.dst v) w → Q (.panic c) a w := by exact fun _ _ _ h => h) : wpAnyN P md ops Q S need (fuel + 1) listed a w :=
  wpAnyN_takeT hi hs hf hr hn hc hQ hy hS h


end
end Go.Proofs.YtapgaclonilnbaaDoor
