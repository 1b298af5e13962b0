/-
  Proved: the machine in memory with any number of calls, none among them; one call more.
-/
import Derived.Test.YtapgaclonilnbaaDoorLw3
namespace Go.Proofs.YtapgaclonilnbaaDoor
open Go.RowKit
set_option linter.unusedVariables false
set_option linter.unusedSimpArgs false

/-- The machine, between calls. -/
structure Mh where
  mk ::
  cs : List Cl
  us : Nat → Nat → Bool
  wo : Nat → Int
  ip : List Int
  out : List Int
  ld : Int

abbrev hOf (m : Mc) : Mh := ⟨m.bl ++ [m.nw], m.us, m.wo, m.ip, m.out, m.ld⟩

/-- The cells of the machine. -/
def rnG (X : Cx) (z : Mh) (st : Int) (cv pv iv nv : Value) : Nat → Value
  | 0 => .slice X.lA X.l.length X.lC
  | 1 => .map (some X.mb)
  | 2 => iv
  | 3 => .int .i64 X.fu
  | 4 => .int .i64 st
  | 5 => pv
  | 6 => cv
  | 7 => nv
  | 8 => .int .i64 z.ld
  | 9 => .pointer (some ⟨X.hb, 0, none⟩)
  | k + 10 => .int .i32 (z.wo k)

structure MX (X : Cx) (z : Mh) (nv : Value) (st : Int) (L : Ly) (w : World) : Prop where
  tb : Tab X.wz
  bz : Below X.wz.heap.size X.wz w
  hl : LfsIn X.wz X.l (.slice X.lA X.l.length X.lC)
  mp : MpS X w
  rr : GZ 56 w X.R 2826 (rnG X z st L.cv L.pv L.iv nv)
  hh : HIn w X.hb X.g z.us
  cc : OwnB 52 1 ptC X.wz.heap.size ((List.range z.cs.length).map L.pb) L.cv w
  pp : OwnB 3 1 noC X.wz.heap.size z.out L.pv w
  ii : InpIn X.wz z.ip L.iv
  kk : ∀ i (h : i < z.cs.length), CallIn X (z.cs[i]'h) (L.pb i) (L.rb i) (L.fb i) w
  ro : Ros X L z.cs.length
  zz : ∀ b, b < X.wz.heap.size → L.ro b = 9

section
variable {X : Cx} {z : Mh} {m : Mc} {nv : Value} {st : Int} {L : Ly} {w w' : World}

theorem MS.toX (h : MS X m st L w) : MX X (hOf m) (.pointer (some ⟨L.pb m.bl.length, 0, none⟩)) st L w := by
  have e : (hOf m).cs.length = m.bl.length + 1 := by simp [hOf]
  refine ⟨h.tb, h.bz, h.hl, h.mp, h.rr.ext fun i hi => ?_, h.hh, by rw [e]; exact h.cc, h.pp, h.ii, fun i hi => ?_, by rw [e]; exact h.ro, h.zz⟩
  · rcases i with _ | _ | _ | _ | _ | _ | _ | _ | _ | _ | i <;> rfl
  · show CallIn X ((m.bl ++ [m.nw])[i]'hi) _ _ _ w
    rw [e] at hi
    rw [List.getElem_append]
    split
    · exact h.kb i _
    · obtain rfl : i = m.bl.length := by omega
      simp only [Nat.sub_self, List.getElem_singleton]
      exact h.now

theorem MX.toS (h : MX X (hOf m) (.pointer (some ⟨L.pb m.bl.length, 0, none⟩)) st L w) : MS X m st L w := by
  have e : (hOf m).cs.length = m.bl.length + 1 := by simp [hOf]
  have hcc := h.cc
  have hro := h.ro
  rw [e] at hcc hro
  refine ⟨h.tb, h.bz, h.hl, h.mp, h.rr.ext fun i hi => ?_, h.hh, hcc, h.pp, h.ii, fun i hi => ?_, ?_, hro, h.zz⟩
  · rcases i with _ | _ | _ | _ | _ | _ | _ | _ | _ | _ | i <;> rfl
  · have := h.kk i (by rw [e]; omega)
    have e2 : (hOf m).cs[i]'(by rw [e]; omega) = m.bl[i] := by
      show (m.bl ++ [m.nw])[i]'_ = _
      rw [List.getElem_append_left hi]
    rwa [e2] at this
  · have := h.kk m.bl.length (by rw [e]; omega)
    have e2 : (hOf m).cs[m.bl.length]'(by rw [e]; omega) = m.nw := by
      show (m.bl ++ [m.nw])[m.bl.length]'_ = _
      simp
    rwa [e2] at this

theorem MX.tab (h : MX X z nv st L w) : Tab w := h.tb.below h.bz h.tb.lt
theorem MX.below (h : MX X z nv st L w) (k : Below w.heap.size w w') : MX X z nv st L w' :=
  ⟨h.tb, h.bz.trans (k.mono h.bz.size), h.hl, h.mp.below k, h.rr.beW k, h.hh.below k, h.cc.below k, h.pp.below k, h.ii, fun i hi => (h.kk i hi).below k, h.ro, h.zz⟩
theorem MX.lts (h : MX X z nv st L w) : X.R < w.heap.size ∧ X.mb < w.heap.size ∧ X.hb < w.heap.size ∧ (∀ c, c < 4 → X.g c < w.heap.size) ∧ ∀ i, i < z.cs.length → L.pb i < w.heap.size ∧ L.rb i < w.heap.size ∧ L.fb i < w.heap.size :=
  ⟨h.rr.lt, h.mp.lt, h.hh.head.lt, fun c hc => World.block_lt_of_cell? _ _ (h.hh.bit hc (show 0 < bl c by have := span_le c; omega)), fun i hi => ⟨(h.kk i hi).s.lt, GZ.lt (h.kk i hi).r, GZ.lt (h.kk i hi).f⟩⟩

/-- What stays where only blocks of some parts turn. -/
structure StX (X : Cx) (z : Mh) (nv : Value) (st : Int) (L : Ly) (P : Nat → Prop) (w' : World) : Prop where
  bz : ¬ P 9 → Below X.wz.heap.size X.wz w'
  mp : ¬ P 8 → MpS X w'
  rr : ¬ P 0 → GZ 56 w' X.R 2826 (rnG X z st L.cv L.pv L.iv nv)
  hh : (∀ c, c < 5 → ¬ P (1 + c)) → HIn w' X.hb X.g z.us
  cc : ¬ P 6 → OwnB 52 1 ptC X.wz.heap.size ((List.range z.cs.length).map L.pb) L.cv w'
  pp : ¬ P 7 → OwnB 3 1 noC X.wz.heap.size z.out L.pv w'
  kk : ∀ i (h : i < z.cs.length), ¬ P (10 + 3 * i) → ¬ P (11 + 3 * i) → ¬ P (12 + 3 * i) → CallIn X (z.cs[i]'h) (L.pb i) (L.rb i) (L.fb i) w'

theorem MX.stay (h : MX X z nv st L w) {P : Nat → Prop} (k : Kp (fun b => P (L.ro b)) w w') : StX X z nv st L P w' := by
  have n1 : ∀ b q, L.ro b = q → ¬ P q → ¬ P (L.ro b) := fun b q e hn => by rw [e]; exact hn
  obtain ⟨l1, l2, l3, l4, l5⟩ := h.lts
  refine ⟨fun hn => ?_, fun hn => h.mp.stay (k.2 _ h.mp.lt (n1 _ _ h.ro.m.1 hn)) (k.2 _ h.mp.lx (n1 _ _ h.ro.m.2 hn)) k.1.size, fun hn => h.rr.kp k (n1 _ _ h.ro.r hn), fun hn => h.hh.keep fun b hb => ?_, fun hn => h.cc.but k fun b hb => n1 _ _ (h.ro.c b hb) hn, fun hn => h.pp.but k fun b hb => n1 _ _ (h.ro.p b hb) hn, fun i hi h1 h2 h3 => ?_⟩
  · refine h.bz.trans (k.below h.bz.size fun b hb => ?_)
    rcases Nat.lt_or_ge b X.wz.heap.size with e | e
    · rw [h.zz b e] at hb; exact absurd hb hn
    · exact e
  · rcases hb with rfl | ⟨c, hc, rfl⟩
    · exact k.2 _ l3 (n1 _ _ h.ro.h (hn 0 (by omega)))
    · exact k.2 _ (l4 c hc) (n1 _ _ (h.ro.g c hc) (by have := hn (c + 1) (by omega); rwa [show 1 + (c + 1) = 2 + c by omega] at this))
  · have := h.ro.s i hi
    exact (h.kk i hi).kp k (n1 _ _ this.1 h1) (n1 _ _ this.2.1 h2) (n1 _ _ this.2.2 h3)

/-- Where it lies with one call more. -/
def Ly.push (L : Ly) (n s : Nat) (v : Value) (p r f : Nat) : Ly :=
  ⟨fun i => if i = n then p else L.pb i, fun i => if i = n then r else L.rb i, fun i => if i = n then f else L.fb i, v, L.pv, L.iv,
   fun b => if b = p then 10 + 3 * n else if b = r then 11 + 3 * n else if b = f then 12 + 3 * n else if s ≤ b then 6 else L.ro b⟩

theorem MX.push (h : MX X z nv st L w) {w9 : World} (k : Kp (fun b => L.ro b = 0 ∨ L.ro b = 6) w w9) {c : Cl} {p r f : Nat} {v5 : Value} {ld : Int} (np : w.heap.size ≤ p ∧ w.heap.size ≤ r ∧ w.heap.size ≤ f ∧ p ≠ r ∧ p ≠ f ∧ r ≠ f)
    (hc : CallIn X c p r f w9) (ho : OwnB 52 1 ptC X.wz.heap.size ((List.range z.cs.length).map L.pb ++ [p]) v5 w9) (hv : ∀ b, v5.ownBlock = some b → L.cv.ownBlock = some b ∨ (w.heap.size ≤ b ∧ b ≠ p ∧ b ≠ r ∧ b ≠ f))
    (hr : GZ 56 w9 X.R 2826 (rnG X { z with ld := ld } st v5 L.pv L.iv (.pointer (some ⟨p, 0, none⟩)))) :
    MX X { z with cs := z.cs ++ [c], ld := ld } (.pointer (some ⟨p, 0, none⟩)) st (L.push z.cs.length w.heap.size v5 p r f) w9 := by
  obtain ⟨l1, l2, l3, l4, l5⟩ := h.lts
  have q := h.stay (P := fun x => x = 0 ∨ x = 6) k
  have el : (z.cs ++ [c]).length = z.cs.length + 1 := by simp
  have old : ∀ b, b < w.heap.size → (L.push z.cs.length w.heap.size v5 p r f).ro b = L.ro b := fun b hb => by
    show (if b = p then _ else if b = r then _ else if b = f then _ else if w.heap.size ≤ b then _ else _) = _
    rw [if_neg (by omega), if_neg (by omega), if_neg (by omega), if_neg (by omega)]
  have ep : ∀ i, i < z.cs.length → (L.push z.cs.length w.heap.size v5 p r f).pb i = L.pb i := fun i hi => if_neg (by omega)
  have er : ∀ i, i < z.cs.length → (L.push z.cs.length w.heap.size v5 p r f).rb i = L.rb i := fun i hi => if_neg (by omega)
  have ef : ∀ i, i < z.cs.length → (L.push z.cs.length w.heap.size v5 p r f).fb i = L.fb i := fun i hi => if_neg (by omega)
  have ep' : (L.push z.cs.length w.heap.size v5 p r f).pb z.cs.length = p := if_pos rfl
  have er' : (L.push z.cs.length w.heap.size v5 p r f).rb z.cs.length = r := if_pos rfl
  have ef' : (L.push z.cs.length w.heap.size v5 p r f).fb z.cs.length = f := if_pos rfl
  refine ⟨h.tb, q.bz (by show ¬ (_ ∨ _); omega), h.hl, q.mp (by show ¬ (_ ∨ _); omega), hr.ext fun i hi => ?_, q.hh (fun c hc => by show ¬ (_ ∨ _); omega), ?_, q.pp (by show ¬ (_ ∨ _); omega), h.ii, fun i hi => ?_, ?_, fun b hb => (old b (by have := h.bz.size; omega)).trans (h.zz b hb)⟩
  · rcases i with _ | _ | _ | _ | _ | _ | _ | _ | _ | _ | i <;> rfl
  · show OwnB _ _ _ _ ((List.range (z.cs ++ [c]).length).map _) v5 w9
    rw [el, List.range_succ, List.map_append, List.map_cons, List.map_nil, ep']
    rw [show (List.range z.cs.length).map (L.push z.cs.length w.heap.size v5 p r f).pb = (List.range z.cs.length).map L.pb from List.map_congr_left fun i hi => ep i (List.mem_range.1 hi)]
    exact ho
  · have hi : i < (z.cs ++ [c]).length := hi
    show CallIn X ((z.cs ++ [c])[i]'hi) _ _ _ w9
    rw [el] at hi
    rcases Nat.lt_or_ge i z.cs.length with e | e
    · rw [List.getElem_append_left e, ep i e, er i e, ef i e]
      exact q.kk i e (by show ¬ (_ ∨ _); omega) (by show ¬ (_ ∨ _); omega) (by show ¬ (_ ∨ _); omega)
    · obtain rfl : i = z.cs.length := by omega
      rw [ep', er', ef']
      simp only [List.getElem_append_right (Nat.le_refl _), Nat.sub_self, List.getElem_singleton]
      exact hc
  · refine ⟨(old _ l1).trans h.ro.r, (old _ l3).trans h.ro.h, fun c hc => (old _ (l4 c hc)).trans (h.ro.g c hc), fun b hb => ?_, fun b hb => (old b (by obtain ⟨_, cs, ha⟩ := h.pp.at hb; exact ha.lt)).trans (h.ro.p b hb), ⟨(old _ l2).trans h.ro.m.1, (old _ h.mp.lx).trans h.ro.m.2⟩, fun i hi => ?_⟩
    · rcases hv b hb with e | ⟨e1, e2, e3, e4⟩
      · exact (old b (by obtain ⟨_, cs, ha⟩ := h.cc.at e; exact ha.lt)).trans (h.ro.c b e)
      · show (if b = p then _ else if b = r then _ else if b = f then _ else if w.heap.size ≤ b then _ else _) = _
        rw [if_neg e2, if_neg e3, if_neg e4, if_pos e1]
    · have hi : i < (z.cs ++ [c]).length := hi
      rw [el] at hi
      rcases Nat.lt_or_ge i z.cs.length with e | e
      · obtain ⟨a1, a2, a3⟩ := l5 i e
        obtain ⟨b1, b2, b3⟩ := h.ro.s i e
        rw [ep i e, er i e, ef i e]
        exact ⟨(old _ a1).trans b1, (old _ a2).trans b2, (old _ a3).trans b3⟩
      · obtain rfl : i = z.cs.length := by omega
        obtain ⟨n1, n2, n3, n4, n5, n6⟩ := np
        rw [ep', er', ef']
        refine ⟨if_pos rfl, ?_, ?_⟩
        · show (if r = p then _ else if r = r then _ else _) = _
          rw [if_neg (fun e => n4 e.symm), if_pos rfl]
        · show (if f = p then _ else if f = r then _ else if f = f then _ else _) = _
          rw [if_neg (fun e => n5 e.symm), if_neg (fun e => n6 e.symm), if_pos rfl]
end
end Go.Proofs.YtapgaclonilnbaaDoor
