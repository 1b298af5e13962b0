/-
  Proved: how low's machine lies in memory: blocks cell by cell, a call, the whole; that it stays where other blocks turn.
-/
import Derived.Test.YtapgaclonilnbaaDoorLmac
import Derived.Test.YtapgaclonilnbaaDoorSmaps
import Derived.Deep.OwnRows
namespace Go.Proofs.YtapgaclonilnbaaDoor
open Go.RowKit
set_option linter.unusedVariables false
set_option linter.unusedSimpArgs false

/-! rows -/

/-- A block of m cells, and spare room. -/
def GZ (t : TypeId) (w : World) (B m : Nat) (f : Nat → Value) : Prop := ∃ cs, At w B cs t ∧ ∀ i, i < m → cs[i]? = some (f i)
def pu {α : Type} (f : Nat → α) (i : Nat) (x : α) : Nat → α := fun j => if j = i then x else f j

theorem GZ.lt {t : TypeId} {w : World} {B m : Nat} {f : Nat → Value} (h : GZ t w B m f) : B < w.heap.size := by
  obtain ⟨cs, h1, _⟩ := h
  exact h1.lt
theorem GZ.cell {t : TypeId} {w : World} {B m : Nat} {f : Nat → Value} (h : GZ t w B m f) (i : Nat) (hi : i < m) : w.cell? ⟨B, i, none⟩ = some (f i) := by
  obtain ⟨cs, h1, h2⟩ := h
  rw [h1.cell, h2 i hi]
theorem GZ.frozen {t : TypeId} {w : World} {B m : Nat} {f : Nat → Value} (h : GZ t w B m f) (i : Nat) : w.frozen? ⟨B, i, none⟩ = false := by
  obtain ⟨cs, h1, _⟩ := h
  exact h1.frozen i
theorem GZ.kp {t : TypeId} {G : Nat → Prop} {w w' : World} {B m : Nat} {f : Nat → Value} (h : GZ t w B m f) (k : Kp G w w') (hG : ¬ G B) : GZ t w' B m f := by
  obtain ⟨cs, h1, h2⟩ := h
  exact ⟨cs, k.at h1 hG, h2⟩
theorem GZ.below {t : TypeId} {n : Nat} {w w' : World} {B m : Nat} {f : Nat → Value} (h : GZ t w B m f) (k : Below n w w') (hn : B < n) : GZ t w' B m f := by
  obtain ⟨cs, h1, h2⟩ := h
  exact ⟨cs, h1.below k hn, h2⟩
theorem GZ.set {t : TypeId} {w : World} {B m : Nat} {f : Nat → Value} (h : GZ t w B m f) (i : Nat) (hi : i < m) (x : Value) : GZ t (w.setCell ⟨B, i, none⟩ x) B m (pu f i x) := by
  obtain ⟨cs, h1, h2⟩ := h
  refine ⟨_, h1.set (j := i) _, fun j hj => ?_⟩
  have hs : i < cs.size := (Array.getElem?_eq_some_iff.1 (h2 i hi)).1
  rw [Array.getElem?_setIfInBounds]
  unfold pu
  by_cases e : i = j
  · subst e
    simp [hs]
  · have e' : ¬ j = i := fun h => e h.symm
    rw [if_neg e, if_neg e']
    exact h2 j hj
theorem GZ.ext {t : TypeId} {w : World} {B m : Nat} {f g : Nat → Value} (h : GZ t w B m f) (e : ∀ i, i < m → f i = g i) : GZ t w B m g := by
  obtain ⟨cs, h1, h2⟩ := h
  exact ⟨cs, h1, fun i hi => by rw [← e i hi]; exact h2 i hi⟩
theorem made_get (z : Value) (n i : Nat) (hi : i < n) : (madeCells #[z] n)[i]? = some z := by
  rw [Array.getElem?_eq_getElem (by rw [size_madeCells]; exact hi)]
  simp [madeCells, Nat.mod_one]

theorem info32 : (Tryd.prog.info? 21).map (fun i => (i.zero, i.size, i.bytes)) = some (some (.int .i32 0), 1, 4) := by kernel_rfl
theorem make_w (n : Nat) (hn : n ≤ 100000) (w : World) : (Instr.makeSlice 81 (.int .i64 (n : Int)) (.int .i64 (n : Int))).run Tryd.prog w = .ok (.slice (some ⟨w.heap.size, 0, none⟩) n n) (w.alloc (.cells (madeCells #[.int .i32 0] n) 21)) :=
  run_make_row' (P := Tryd.prog) 81 21 (.int .i32 0) 4 Tryd.underlying81 info32 rfl .i64 .i64 n (by omega) (by omega) w

/-- A block of words. -/
def WZ (w : World) (B m : Nat) (f : Nat → Int) : Prop := GZ 21 w B m fun i => .int .i32 (f i)
theorem WZ.made (w : World) (n : Nat) : WZ (w.alloc (.cells (madeCells #[.int .i32 0] n) 21)) w.heap.size n (fun _ => 0) :=
  ⟨_, At.new w _ _, fun i hi => made_get _ _ _ hi⟩
theorem WZ.set {w : World} {B m : Nat} {f : Nat → Int} (h : WZ w B m f) (i : Nat) (hi : i < m) (x : Int) : WZ (w.setCell ⟨B, i, none⟩ (.int .i32 x)) B m (pu f i x) :=
  (GZ.set h i hi _).ext fun j _ => by unfold pu; split <;> rfl
theorem WZ.ext {w : World} {B m : Nat} {f g : Nat → Int} (h : WZ w B m f) (e : ∀ i, i < m → f i = g i) : WZ w B m g := GZ.ext h fun i hi => by rw [e i hi]

/-- What stays the same while functions are run: the functions, where they lie, the map of names, the machine's block, the heap's, the fuel, the world at the beginning. -/
structure Cx where
  mk ::
  l : List Lf
  lA : Option Addr
  lC : Nat
  mb : Nat
  mn : Nat
  R : Nat
  hb : Nat
  g : Nat → Nat
  fu : Int
  wz : World
  xb : Nat
  xo : Option Obj

/-- The map of names, and a block that is none of the machine's. -/
def MpS (X : Cx) (w : World) : Prop := MapS w X.mb X.mn (byN X.l) ∧ w.heap[X.xb]? = X.xo ∧ X.xb < w.heap.size
theorem MpS.lt {X : Cx} {w : World} (h : MpS X w) : X.mb < w.heap.size := MapS.lt h.1
theorem MpS.lx {X : Cx} {w : World} (h : MpS X w) : X.xb < w.heap.size := h.2.2
theorem MpS.stay {X : Cx} {w w' : World} (h : MpS X w) (e1 : w'.heap[X.mb]? = w.heap[X.mb]?) (e2 : w'.heap[X.xb]? = w.heap[X.xb]?) (e3 : w.heap.size ≤ w'.heap.size) : MpS X w' := ⟨MapS.stay h.1 e1, e2.trans h.2.1, Nat.lt_of_lt_of_le h.2.2 e3⟩
theorem MpS.below {X : Cx} {w w' : World} (h : MpS X w) (k : Below w.heap.size w w') : MpS X w' := h.stay (k.block _ h.lt) (k.block _ h.lx) k.size

/-- Where a function lies. -/
def fpV (X : Cx) (k : Nat) : Value := .pointer (X.lA.map fun a => ⟨a.block, a.off + k * 7, none⟩)

/-- The cells of a call. -/
def clF (X : Cx) (c : Cl) (rb fb : Nat) : Nat → Value
  | 0 => fpV X c.fn
  | 1 => .slice (some ⟨rb, 0, none⟩) c.rg.length c.rg.length
  | 2 => .slice (some ⟨fb, 0, none⟩) c.fr.length c.fr.length
  | 3 => .int .u32 c.ba
  | 4 => .int .i64 (c.bk : Int)
  | 5 => .int .i64 (c.nx : Int)
  | _ => undef

/-- A call in memory. -/
structure CallIn (X : Cx) (c : Cl) (pb rb fb : Nat) (w : World) : Prop where
  s : GZ 85 w pb 6 (clF X c rb fb)
  r : WZ w rb c.rg.length fun i => c.rg.getD i 0
  f : WZ w fb c.fr.length fun i => c.fr.getD i 0

/-- The cells of the machine. -/
def rnF (X : Cx) (m : Mc) (st : Int) (cv pv iv : Value) (pn : Nat) : Nat → Value
  | 0 => .slice X.lA X.l.length X.lC
  | 1 => .map (some X.mb)
  | 2 => iv
  | 3 => .int .i64 X.fu
  | 4 => .int .i64 st
  | 5 => pv
  | 6 => cv
  | 7 => .pointer (some ⟨pn, 0, none⟩)
  | 8 => .int .i64 m.ld
  | 9 => .pointer (some ⟨X.hb, 0, none⟩)
  | k + 10 => .int .i32 (m.wo k)

/-- The input that is left. -/
def InpIn (w : World) (l : List Int) (v : Value) : Prop := ∃ A C, v = .slice A l.length C ∧ l.length ≤ C ∧ C ≤ 281474976710656 ∧ Rel w 1 GI l A

def ptC (p : Nat) : List Value := [.pointer (some ⟨p, 0, none⟩)]
def noC (n : Int) : List Value := [.int .i64 n]

/-- Where the machine lies: the calls' structs, registers, frames; the list of calls, what was printed, the input; each block's part. -/
structure Ly where
  mk ::
  pb : Nat → Nat
  rb : Nat → Nat
  fb : Nat → Nat
  cv : Value
  pv : Value
  iv : Value
  ro : Nat → Nat

/-- Which block has which part. -/
structure Ros (X : Cx) (L : Ly) (n : Nat) : Prop where
  r : L.ro X.R = 0
  h : L.ro X.hb = 1
  g : ∀ c, c < 4 → L.ro (X.g c) = 2 + c
  c : ∀ b, L.cv.ownBlock = some b → L.ro b = 6
  p : ∀ b, L.pv.ownBlock = some b → L.ro b = 7
  m : L.ro X.mb = 8 ∧ L.ro X.xb = 8
  s : ∀ i, i < n → L.ro (L.pb i) = 10 + 3 * i ∧ L.ro (L.rb i) = 11 + 3 * i ∧ L.ro (L.fb i) = 12 + 3 * i

/-- The machine in memory; pn: the last call. -/
structure MS (X : Cx) (m : Mc) (st : Int) (L : Ly) (w : World) : Prop where
  tb : Tab X.wz
  bz : Below X.wz.heap.size X.wz w
  hl : LfsIn X.wz X.l (.slice X.lA X.l.length X.lC)
  mp : MpS X w
  rr : GZ 56 w X.R 2826 (rnF X m st L.cv L.pv L.iv (L.pb m.bl.length))
  hh : HIn w X.hb X.g m.us
  cc : OwnB 52 1 ptC X.wz.heap.size ((List.range (m.bl.length + 1)).map L.pb) L.cv w
  pp : OwnB 3 1 noC X.wz.heap.size m.out L.pv w
  ii : InpIn X.wz m.ip L.iv
  kb : ∀ i (h : i < m.bl.length), CallIn X (m.bl[i]'h) (L.pb i) (L.rb i) (L.fb i) w
  now : CallIn X m.nw (L.pb m.bl.length) (L.rb m.bl.length) (L.fb m.bl.length) w
  ro : Ros X L (m.bl.length + 1)
  zz : ∀ b, b < X.wz.heap.size → L.ro b = 9

section
variable {X : Cx} {c : Cl} {pb rb fb : Nat} {w w' : World}
theorem CallIn.kp {G : Nat → Prop} (h : CallIn X c pb rb fb w) (k : Kp G w w') (h1 : ¬ G pb) (h2 : ¬ G rb) (h3 : ¬ G fb) : CallIn X c pb rb fb w' := ⟨h.s.kp k h1, GZ.kp h.r k h2, GZ.kp h.f k h3⟩
theorem CallIn.below (h : CallIn X c pb rb fb w) (k : Below w.heap.size w w') : CallIn X c pb rb fb w' := h.kp (G := fun _ => False) (Kp.of_below k) id id id
theorem GZ.beW {t : TypeId} {B m : Nat} {f : Nat → Value} (h : GZ t w B m f) (k : Below w.heap.size w w') : GZ t w' B m f := h.below k h.lt
end

section
variable {X : Cx} {m : Mc} {st : Int} {L : Ly} {w w' : World}
theorem MS.tab (h : MS X m st L w) : Tab w := h.tb.below h.bz h.tb.lt
theorem MS.lfs (h : MS X m st L w) : LfsIn w X.l (.slice X.lA X.l.length X.lC) := h.hl.below h.bz
/-- A machine's block is not an old one. -/
theorem MS.new (h : MS X m st L w) {b k : Nat} (hr : L.ro b = k) (hk : k ≠ 9) : X.wz.heap.size ≤ b := by
  rcases Nat.lt_or_ge b X.wz.heap.size with e | e
  · have := h.zz b e
    omega
  · exact e
theorem MS.below (h : MS X m st L w) (k : Below w.heap.size w w') : MS X m st L w' :=
  ⟨h.tb, h.bz.trans (k.mono h.bz.size), h.hl, h.mp.below k, h.rr.beW k, h.hh.below k, h.cc.below k, h.pp.below k, h.ii, fun i hi => (h.kb i hi).below k, h.now.below k, h.ro, h.zz⟩

theorem MS.at (h : MS X m st L w) (i : Nat) (hi : i ≤ m.bl.length) : CallIn X (callAt m i) (L.pb i) (L.rb i) (L.fb i) w := by
  unfold callAt
  rw [List.getD_eq_getElem?_getD]
  rcases Nat.lt_or_ge i m.bl.length with e | e
  · rw [List.getElem?_eq_getElem e]; exact h.kb i e
  · obtain rfl : i = m.bl.length := by omega
    rw [List.getElem?_eq_none e]; exact h.now

/-- What stays where only blocks of some parts turn. -/
structure Sty (X : Cx) (m : Mc) (st : Int) (L : Ly) (P : Nat → Prop) (w' : World) : Prop where
  bz : ¬ P 9 → Below X.wz.heap.size X.wz w'
  mp : ¬ P 8 → MpS X w'
  rr : ¬ P 0 → GZ 56 w' X.R 2826 (rnF X m st L.cv L.pv L.iv (L.pb m.bl.length))
  hh : (∀ c, c < 5 → ¬ P (1 + c)) → HIn w' X.hb X.g m.us
  cc : ¬ P 6 → OwnB 52 1 ptC X.wz.heap.size ((List.range (m.bl.length + 1)).map L.pb) L.cv w'
  pp : ¬ P 7 → OwnB 3 1 noC X.wz.heap.size m.out L.pv w'
  kb : ∀ i (h : i < m.bl.length), ¬ P (10 + 3 * i) → ¬ P (11 + 3 * i) → ¬ P (12 + 3 * i) → CallIn X (m.bl[i]'h) (L.pb i) (L.rb i) (L.fb i) w'
  ns : ¬ P (10 + 3 * m.bl.length) → GZ 85 w' (L.pb m.bl.length) 6 (clF X m.nw (L.rb m.bl.length) (L.fb m.bl.length))
  nr : ¬ P (11 + 3 * m.bl.length) → WZ w' (L.rb m.bl.length) m.nw.rg.length fun i => m.nw.rg.getD i 0
  nf : ¬ P (12 + 3 * m.bl.length) → WZ w' (L.fb m.bl.length) m.nw.fr.length fun i => m.nw.fr.getD i 0

theorem MS.stay (h : MS X m st L w) {P : Nat → Prop} (k : Kp (fun b => P (L.ro b)) w w') : Sty X m st L P w' := by
  have n1 : ∀ b q, L.ro b = q → ¬ P q → ¬ P (L.ro b) := fun b q e hn => by rw [e]; exact hn
  refine ⟨fun hn => ?_, fun hn => h.mp.stay (k.2 _ h.mp.lt (n1 _ _ h.ro.m.1 hn)) (k.2 _ h.mp.lx (n1 _ _ h.ro.m.2 hn)) k.1.size, fun hn => h.rr.kp k (n1 _ _ h.ro.r hn), fun hn => h.hh.keep fun b hb => ?_, fun hn => h.cc.but k fun b hb => n1 _ _ (h.ro.c b hb) hn, fun hn => h.pp.but k fun b hb => n1 _ _ (h.ro.p b hb) hn, fun i hi h1 h2 h3 => ?_, fun hn => ?_, fun hn => ?_, fun hn => ?_⟩
  · refine h.bz.trans (k.below h.bz.size fun b hb => ?_)
    rcases Nat.lt_or_ge b X.wz.heap.size with e | e
    · rw [h.zz b e] at hb; exact absurd hb hn
    · exact e
  · rcases hb with rfl | ⟨c, hc, rfl⟩
    · exact k.2 _ h.hh.head.lt (n1 _ _ h.ro.h (hn 0 (by omega)))
    · refine k.2 _ ?_ (n1 _ _ (h.ro.g c hc) (by have := hn (c + 1) (by omega); rwa [show 1 + (c + 1) = 2 + c by omega] at this))
      exact World.block_lt_of_cell? _ _ (h.hh.bit hc (show 0 < bl c by have := span_le c; omega))
  · have := h.ro.s i (by omega)
    exact (h.kb i hi).kp k (n1 _ _ this.1 h1) (n1 _ _ this.2.1 h2) (n1 _ _ this.2.2 h3)
  · exact h.now.s.kp k (n1 _ _ (h.ro.s _ (Nat.lt_succ_self _)).1 hn)
  · exact GZ.kp h.now.r k (n1 _ _ (h.ro.s _ (Nat.lt_succ_self _)).2.1 hn)
  · exact GZ.kp h.now.f k (n1 _ _ (h.ro.s _ (Nat.lt_succ_self _)).2.2 hn)

/-- One cell turns. -/
theorem MS.turn (h : MS X m st L w) {b q : Nat} (hb : L.ro b = q) (j : Nat) (v : Value) : Sty X m st L (fun x => x = q) (w.setCell ⟨b, j, none⟩ v) := h.stay (P := fun x => x = q) (Kp.set w j v hb)

/-- A word of the last call's registers. -/
theorem MS.reg (h : MS X m st L w) (r : Nat) (hr : r < m.nw.rg.length) (v : Int) : MS X (setN m (r : Int) v) st L (w.setCell ⟨L.rb m.bl.length, r, none⟩ (.int .i32 v)) := by
  have q := h.turn (h.ro.s _ (Nat.lt_succ_self m.bl.length)).2.1 r (.int .i32 v)
  have e : (setN m (r : Int) v).nw.rg = m.nw.rg.set r v := by simp [setN, setR]
  have el : (setN m (r : Int) v).nw.rg.length = m.nw.rg.length := by rw [e]; simp
  refine ⟨h.tb, q.bz (by show ¬ _ = _; omega), h.hl, q.mp (by show ¬ _ = _; omega), q.rr (by show ¬ _ = _; omega), q.hh (fun c hc => by show ¬ _ = _; omega), q.cc (by show ¬ _ = _; omega), q.pp (by show ¬ _ = _; omega), h.ii, fun i hi => ?_, ⟨(q.ns (by show ¬ _ = _; omega)).ext fun i hi => ?_, ?_, q.nf (by show ¬ _ = _; omega)⟩, h.ro, h.zz⟩
  · have hi : i < m.bl.length := hi
    exact q.kb i hi (by show ¬ _ = _; omega) (by show ¬ _ = _; omega) (by show ¬ _ = _; omega)
  · rcases i with _ | _ | _ | _ | _ | _ | i <;> first | rfl | (show Value.slice _ m.nw.rg.length m.nw.rg.length = Value.slice _ (setN m (r : Int) v).nw.rg.length (setN m (r : Int) v).nw.rg.length; rw [el]; rfl) | omega
  · refine WZ.ext (f := pu (fun i => m.nw.rg.getD i 0) r v) ?_ fun i hi => ?_
    · show WZ _ _ (setN m (r : Int) v).nw.rg.length _
      rw [el]
      exact h.now.r.set r hr v
    · show _ = (setN m (r : Int) v).nw.rg.getD i 0
      rw [e]
      unfold pu
      by_cases e2 : i = r
      · subst e2; simp [hr]
      · rw [if_neg e2]
        have e3 : ¬ r = i := fun h => e2 h.symm
        simp [List.getD_eq_getElem?_getD, List.getElem?_set, e3]
end

end Go.Proofs.YtapgaclonilnbaaDoor
