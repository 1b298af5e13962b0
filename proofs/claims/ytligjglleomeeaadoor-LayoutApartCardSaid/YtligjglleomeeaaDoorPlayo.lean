/-
  Proved: what layout.Layout answers of any function: where each local lies, and how many words the frame has.
-/
import Derived.Test.YtligjglleomeeaaDoorPlay
namespace Go.Proofs.YtligjglleomeeaaDoor
open Go.RowKit

/-- How many words the first k locals have in the frame. -/
def fwP (pl : Nat → Bool) (lo : List Int) : Nat → Int
  | 0 => 0
  | k + 1 => if pl k then fwP pl lo k else tgh (fwP pl lo k) (lo.getD k 0)
/-- Where a local lies. -/
def latP (pl : Nat → Bool) (lo : List Int) (k : Nat) : Int := if pl k then -1 else fwP pl lo k

theorem fwP_in (pl : Nat → Bool) (lo : List Int) : ∀ k, 0 ≤ fwP pl lo k ∧ fwP pl lo k ≤ 9223372036854775807
  | 0 => by simp [fwP]
  | k + 1 => by
    have h := fwP_in pl lo k
    unfold fwP
    split
    · exact h
    · have := tgh_in (fwP pl lo k) (lo.getD k 0) h.1 h.2
      omega

theorem infoInt : (Tryd.prog.info? 3).map (fun i => (i.zero, i.size, i.bytes)) = some (some (.int .i64 0), 1, 8) := by kernel_rfl
theorem make_i (n : Nat) (hn : n ≤ 1000) (w : World) : (Instr.makeSlice 22 (.int .i64 (n : Int)) (.int .i64 (n : Int))).run Tryd.prog w = .ok (.slice (some ⟨w.heap.size, 0, none⟩) n n) (w.alloc (.cells (madeCells #[.int .i64 0] n) 3)) :=
  run_make_row' (P := Tryd.prog) 22 3 (.int .i64 0) 8 Tryd.underlying22 infoInt rfl .i64 .i64 n (by omega) (by omega) w

/-- A row of numbers in a block. -/
def iC (p : Nat → Int) (n : Nat) : Array Value := ((List.range n).map fun j => Value.int .i64 (p j)).toArray
def IR (w : World) (b n : Nat) (p : Nat → Int) : Prop := At w b (iC p n) 3
def pi (p : Nat → Int) (i : Nat) (x : Int) : Nat → Int := fun j => if j = i then x else p j
theorem iC_get (p : Nat → Int) (n i : Nat) : (iC p n)[i]? = if i < n then some (.int .i64 (p i)) else none := by
  unfold iC
  split
  · next h => simp [h]
  · next h => simp; omega
theorem iC_size (p : Nat → Int) (n : Nat) : (iC p n).size = n := by simp [iC]
theorem iC_set (p : Nat → Int) (n j : Nat) (h : j < n) (x : Int) : (iC p n).setIfInBounds j (.int .i64 x) = iC (pi p j x) n := by
  apply Array.ext_getElem?
  intro i
  rw [iC_get, Array.getElem?_setIfInBounds, iC_get, iC_size]
  unfold pi
  by_cases e : j = i
  · subst e; simp [h]
  · rw [if_neg e]
    have : ¬ i = j := fun x => e x.symm
    simp [this]
theorem iC_made (n : Nat) : madeCells #[.int .i64 0] n = iC (fun _ => 0) n := by
  apply Array.ext_getElem?
  intro i
  rw [iC_get]
  split
  · rename_i h
    rw [Array.getElem?_eq_getElem (by rw [size_madeCells]; exact h)]
    simp [madeCells, Nat.mod_one]
  · rename_i h
    rw [Array.getElem?_eq_none (by rw [size_madeCells]; omega)]
theorem iC_ext {p q : Nat → Int} {n : Nat} (h : ∀ k, k < n → p k = q k) : iC p n = iC q n := by
  apply Array.ext_getElem?
  intro i
  rw [iC_get, iC_get]
  split
  · next h2 => rw [h i h2]
  · rfl
theorem IR.lt {w : World} {b n : Nat} {p : Nat → Int} (h : IR w b n p) : b < w.heap.size := At.lt h
theorem IR.cell {w : World} {b n : Nat} {p : Nat → Int} (h : IR w b n p) (j : Nat) (hj : j < n) : w.cell? ⟨b, j, none⟩ = some (.int .i64 (p j)) := by
  rw [At.cell h, iC_get, if_pos hj]
theorem IR.set {w : World} {b n : Nat} {p : Nat → Int} (h : IR w b n p) (j : Nat) (hj : j < n) (x : Int) : IR (w.setCell ⟨b, j, none⟩ (.int .i64 x)) b n (pi p j x) := by
  have := At.set (j := j) h (.int .i64 x)
  rw [iC_set p n j hj] at this
  exact this
theorem IR.frozen {w : World} {b n : Nat} {p : Nat → Int} (h : IR w b n p) (j : Nat) : w.frozen? ⟨b, j, none⟩ = false := At.frozen h j
theorem IR.ext {w : World} {b n : Nat} {p q : Nat → Int} (h : IR w b n p) (e : ∀ k, k < n → p k = q k) : IR w b n q := by
  unfold IR
  rw [← iC_ext e]
  exact h

/-- What Layout has laid: its function's cells, the words so far, the truths and their variable, the places. -/
def LW (w : World) (fc : Array Value) (px rb ab n : Nat) (pl : Nat → Bool) (x : Int) (g : Nat → Int) (wr : World) : Prop :=
  At wr w.heap.size fc 25 ∧ At wr (w.heap.size + 1) #[.int .i64 x] 3 ∧ PB wr px rb n pl ∧ IR wr ab n g ∧ w.heap.size + 1 < ab ∧ Below w.heap.size w wr
theorem LW.ext {w wr : World} {fc : Array Value} {px rb ab n : Nat} {pl : Nat → Bool} {x y : Int} {g h : Nat → Int} (H : LW w fc px rb ab n pl x g wr) (e1 : x = y) (e : ∀ k, k < n → g k = h k) : LW w fc px rb ab n pl y h wr :=
  ⟨H.1, e1 ▸ H.2.1, H.2.2.1, H.2.2.2.1.ext e, H.2.2.2.2⟩
theorem LW.call {w wr w' : World} {fc : Array Value} {px rb ab n : Nat} {pl : Nat → Bool} {x y : Int} {g : Nat → Int} (H : LW w fc px rb ab n pl x g wr) (h : At w' (w.heap.size + 1) #[.int .i64 y] 3) (k : Kp (fun c => c = w.heap.size + 1) wr w') : LW w fc px rb ab n pl y g w' := by
  obtain ⟨h1, h2, h3, h4, h5, h6⟩ := H
  exact ⟨k.at h1 (by omega), h, ⟨k.at h3.1 (At.type h3.1 h2 (by decide)), k.at h3.2 (At.type h3.2 h2 (by decide))⟩, k.at h4 (by omega), h5, h6.trans (k.below h6.size fun b hb => by omega)⟩
theorem LW.set {w wr : World} {fc : Array Value} {px rb ab n : Nat} {pl : Nat → Bool} {x : Int} {g : Nat → Int} (H : LW w fc px rb ab n pl x g wr) (j : Nat) (hj : j < n) (y : Int) : LW w fc px rb ab n pl x (pi g j y) (wr.setCell ⟨ab, j, none⟩ (.int .i64 y)) := by
  obtain ⟨h1, h2, h3, h4, h5, h6⟩ := H
  have k := Kp.set (F := fun c => c = ab) wr (b := ab) j (.int .i64 y) rfl
  exact ⟨k.at h1 (by omega), k.at h2 (by omega), ⟨k.at h3.1 (At.type h3.1 h4 (by decide)), k.at h3.2 (At.type h3.2 h4 (by decide))⟩, h4.set j hj y, h5, h6.trans (k.below h6.size fun b hb => by omega)⟩
theorem LW.drewN {w wr : World} {fc : Array Value} {px rb ab n : Nat} {pl : Nat → Bool} {x : Int} {g : Nat → Int} (H : LW w fc px rb ab n pl x g wr) (m : Nat) : LW w fc px rb ab n pl x g (wr.drewN m) := by
  obtain ⟨h1, h2, h3, h4, h5, h6⟩ := H
  have k := below_drewN wr m
  exact ⟨h1.below k h1.lt, h2.below k h2.lt, h3.below k, At.below h4 k h4.lt, h5, below_next h6 k⟩
theorem LW.start {w : World} {fc : Array Value} {rb n : Nat} {pl : Nat → Bool} {w1 : World} (hb : Below ((w.alloc (.cells fc 25)).alloc (.cells #[.int .i64 0] 3)).heap.size ((w.alloc (.cells fc 25)).alloc (.cells #[.int .i64 0] 3)) w1) (hp : BR w1 rb n pl) :
    LW w fc w1.heap.size rb (w1.heap.size + 1) n pl 0 (fun _ => 0) ((w1.alloc (.cells #[.slice (some ⟨rb, 0, none⟩) n n] 34)).alloc (.cells (madeCells #[.int .i64 0] n) 3)) := by
  have s1 : (w.alloc (.cells fc 25)).heap.size = w.heap.size + 1 := by simp
  have s2 : ((w.alloc (.cells fc 25)).alloc (.cells #[.int .i64 0] 3)).heap.size = w.heap.size + 1 + 1 := by simp
  have s3 := hb.size
  have b1 := below_alloc w (.cells fc 25)
  have b2 := below_alloc (w.alloc (.cells fc 25)) (.cells #[.int .i64 0] 3)
  have b3 := below_alloc w1 (.cells #[.slice (some ⟨rb, 0, none⟩) n n] 34)
  have b4 := below_alloc (w1.alloc (.cells #[.slice (some ⟨rb, 0, none⟩) n n] 34)) (.cells (madeCells #[.int .i64 0] n) 3)
  have s4 : (w1.alloc (.cells #[.slice (some ⟨rb, 0, none⟩) n n] 34)).heap.size = w1.heap.size + 1 := by simp
  have q1 : At (w.alloc (.cells fc 25)) w.heap.size fc 25 := At.new _ _ _
  have q2 : At ((w.alloc (.cells fc 25)).alloc (.cells #[.int .i64 0] 3)) (w.heap.size + 1) #[.int .i64 0] 3 := At.newS _ _ _ s1
  have c34 : ∀ {B : Nat} {cs : Array Value} {t : TypeId}, At w1 B cs t → At ((w1.alloc (.cells #[.slice (some ⟨rb, 0, none⟩) n n] 34)).alloc (.cells (madeCells #[.int .i64 0] n) 3)) B cs t := fun h => At.below (At.below h b3 h.lt) b4 (by have := h.lt; omega)
  refine ⟨c34 (At.below (At.below q1 b2 (by omega)) hb (by omega)), c34 (At.below q2 hb (by omega)), ⟨At.below (At.new _ _ _) b4 (by omega), c34 hp⟩, ?_, by omega, below_next (below_next (below_next (below_next b1 b2) hb) b3) b4⟩
  have := At.newS (w1.alloc (.cells #[.slice (some ⟨rb, 0, none⟩) n n] 34)) (madeCells #[.int .i64 0] n) 3 s4
  rw [iC_made] at this ⊢
  exact this

theorem start_f {w : World} {fc : Array Value} {w1 : World} (hb : Below ((w.alloc (.cells fc 25)).alloc (.cells #[.int .i64 0] 3)).heap.size ((w.alloc (.cells fc 25)).alloc (.cells #[.int .i64 0] 3)) w1) :
    (∀ j, w1.cell? ⟨w.heap.size, j, none⟩ = fc[j]?) ∧ w.heap.size < w1.heap.size ∧ w.heap.size + 1 < w1.heap.size := by
  have s2 : ((w.alloc (.cells fc 25)).alloc (.cells #[.int .i64 0] 3)).heap.size = w.heap.size + 1 + 1 := by simp
  have s1 : (w.alloc (.cells fc 25)).heap.size = w.heap.size + 1 := by simp
  have s3 := hb.size
  have b2 := below_alloc (w.alloc (.cells fc 25)) (.cells #[.int .i64 0] 3)
  exact ⟨fun j => (At.below (At.below (At.new w fc 25) b2 (by omega)) hb (by omega)).cell j, by omega, by omega⟩

set_option maxRecDepth 20000 in
set_option maxHeartbeats 1000000 in
theorem playout_c (f : Fm) (cs : List Value) (w : World) (h : FmIn w f cs) (T : Tab w) (hn : f.lo.length ≤ 1000) :
    Calls Tryd.prog 4 #[.agg cs.toArray] w fun e w' => ∃ rb, e = .returned (.tuple #[.slice (some ⟨rb, 0, none⟩) f.lo.length f.lo.length, .int .i64 (fwP (pln f) f.lo f.lo.length)]) ∧ w.heap.size ≤ rb ∧ IR w' rb f.lo.length (latP (pln f) f.lo) ∧ Below w.heap.size w w' := by
  have FC : Hid (∀ w', Below w.heap.size w w' → Calls Tryd.prog 7 #[.agg cs.toArray] w' _) := fun w' hw => fplain_c f cs w' (h.below hw) (T.next hw) hn
  obtain ⟨lv, bv, rfl, hlo, hbs⟩ := h
  obtain ⟨_, LA, LC, rfl, -⟩ := id hlo
  obtain ⟨hbl, BA, BC, rfl, -⟩ := id hbs
  have LO : Hid (NosIn w f.lo (.slice LA f.lo.length LC)) := hlo
  clear hlo hbs T
  generalize pln f = pl at *
  obtain ⟨nm, lo, pa, an, qu, bs⟩ := f
  simp only [fmC] at *
  have hmk := make_i lo.length hn
  have B1 : Hid (∀ x y, Below w.heap.size w ((w.alloc x).alloc y)) := fun x y => below_next (below_alloc _ _) (below_alloc _ _)
  go_enter Tryd.func4, Tryd.ntmps4
  go_wp2_with (go_at_call 7; refine (FC.out _ (B1.out _ _)).mono ?_; rintro e w1 ⟨rb, rfl, -, hp1, hb1⟩; have L1 : Hid (LW w #[.string nm, .slice LA lo.length LC, .int .i64 pa, .int .i64 an, .bool qu, .slice BA bs.length BC] w1.heap.size rb (w1.heap.size + 1) lo.length pl 0 (fun _ => 0) _) := LW.start hb1 hp1; obtain ⟨f0, z1, z2⟩ := start_f hb1; have f1 : w1.cell? ⟨w.heap.size, 1, none⟩ = some (.slice LA lo.length LC) := f0 1; clear hb1 hp1 f0)
  have NR : Hid (w.heap.size ≤ w1.heap.size + 1) := (show _ ≤ _ by omega)
  clear FC B1 hmk f1
  generalize (w1.alloc (.cells #[.slice (some ⟨rb, 0, none⟩) lo.length lo.length] 34)).alloc (.cells (madeCells #[.int .i64 0] lo.length) 3) = W0 at *
  generalize hab : w1.heap.size + 1 = ab at *
  generalize w1.heap.size = px at *
  clear hab z1 z2
  have hcf := cf_lies
  go_loopw [17] (fun iv wr => ∃ k : Nat, k ≤ lo.length ∧ iv = .int .i64 (k : Int) ∧ LW w #[.string nm, .slice LA lo.length LC, .int .i64 pa, .int .i64 an, .bool qu, .slice BA bs.length BC] px rb ab lo.length pl (fwP pl lo k) (fun j => if j < k then latP pl lo j else 0) wr) (fun iv _ => lo.length - (intOf iv).toNat)
  case atStart => exact ⟨0, by omega, rfl, L1.out.ext rfl fun k hk => by simp⟩
  case round =>
    obtain ⟨k, hk, rfl, hF⟩ := hrel
    have L2 : Hid (LW w #[.string nm, .slice LA lo.length LC, .int .i64 pa, .int .i64 an, .bool qu, .slice BA bs.length BC] px rb ab lo.length pl (fwP pl lo k) (fun j => if j < k then latP pl lo j else 0) wr) := hF
    have z1 : w.heap.size < wr.heap.size := hF.1.lt
    have z2 : w.heap.size + 1 < wr.heap.size := hF.2.1.lt
    have cw : wr.cell? ⟨w.heap.size + 1, 0, none⟩ = some (.int .i64 (fwP pl lo k)) := hF.2.1.cell 0
    rcases Nat.lt_or_ge k lo.length with hk' | hk'
    · have hkz : (k : Int) < lo.length := by omega
      obtain ⟨_, A', C', e', hr⟩ := LO.out.below hF.2.2.2.2.2
      obtain ⟨b, o, cs, e2, hrow, e3⟩ := hr k hk'
      cases e'
      cases e2
      cases e3
      have ck := hrow.2 0 _ rfl
      have hb := hrow.1
      simp only [Nat.mul_one, Nat.add_zero] at ck
      clear hr hrow
      have FI := fwP_in pl lo k
      have LC1 : Hid (Calls Tryd.prog 8 #[.int .i64 (k : Int), .pointer (some ⟨px, 0, none⟩), .pointer (some ⟨w.heap.size + 1, 0, none⟩), .pointer (some ⟨w.heap.size, 0, none⟩)] wr _) := lies_c k lo.length hk' px rb (w.heap.size + 1) w.heap.size b o LC pl (fwP pl lo k) lo[k] FI.1 FI.2 wr hF.2.2.1 hF.2.1 hF.1.lt (hF.1.cell 1) hb ck
      have LL : Hid (∀ w5, LW w #[.string nm, .slice (some ⟨b, o, none⟩) lo.length LC, .int .i64 pa, .int .i64 an, .bool qu, .slice BA bs.length BC] px rb ab lo.length pl (if pl k then fwP pl lo k else tgh (fwP pl lo k) lo[k]) (pi (fun j => if j < k then latP pl lo j else 0) k (if pl k then -1 else fwP pl lo k)) w5 → LW w #[.string nm, .slice (some ⟨b, o, none⟩) lo.length LC, .int .i64 pa, .int .i64 an, .bool qu, .slice BA bs.length BC] px rb ab lo.length pl (fwP pl lo (k + 1)) (fun j => if j < k + 1 then latP pl lo j else 0) w5) := fun w5 h5 => h5.ext (by simp only [fwP]; rw [List.getD_eq_getElem?_getD, List.getElem?_eq_getElem hk', Option.getD_some]) (fun j hj => by
        unfold pi
        by_cases e : j = k
        · subst e
          rw [if_pos rfl]
          simp [latP]
        · rw [if_neg e]
          have : (j < k) = (j < k + 1) := by rw [eq_iff_iff]; omega
          simp only [this])
      clear hF FI cw
      generalize lo[k] = lk at *
      generalize (fwP pl lo k) = fk at *
      go_wp2_with (go_at_call 8; refine LC1.out.mono ?_; rintro e w5 ⟨rfl, hp5, hk5⟩; have L5 := L2.out.call hp5 hk5; have L6 : Hid (LW w #[.string nm, .slice (some ⟨b, o, none⟩) lo.length LC, .int .i64 pa, .int .i64 an, .bool qu, .slice BA bs.length BC] px rb ab lo.length pl (fwP pl lo (k + 1)) (fun j => if j < k + 1 then latP pl lo j else 0) (w5.setCell ⟨ab, k, none⟩ (.int .i64 (if pl k then -1 else fk)))) := LL.out _ (L5.set k hk' (if pl k then -1 else fk)); have fz : w5.frozen? ⟨ab, k, none⟩ = false := L5.2.2.2.1.frozen k; have z5 := L5.2.2.2.1.lt; have c5 := L5.2.2.2.1.cell k hk'; clear hp5 hk5 L5)
      go_roundw
      case rel => exact ⟨k + 1, by omega, by go_num, L6.out⟩
      case measure => simp [intOf]; omega
    · have hkz : ¬ (k : Int) < lo.length := by omega
      obtain rfl : k = lo.length := by omega
      have k7 := (Kp.set (F := fun c => c = w.heap.size + 1) wr (b := w.heap.size + 1) 0 (.int .i64 (fwP pl lo lo.length)) rfl).drew
      have q7 : At (wr.setCell ⟨w.heap.size + 1, 0, none⟩ (.int .i64 (fwP pl lo lo.length))).drew (w.heap.size + 1) #[.int .i64 (fwP pl lo lo.length)] 3 := At.set (j := 0) hF.2.1 (.int .i64 (fwP pl lo lo.length))
      have L7 := hF.call (w' := (wr.setCell ⟨w.heap.size + 1, 0, none⟩ (.int .i64 (fwP pl lo lo.length))).drew) q7 k7
      have L6 : Hid (IR (wr.setCell ⟨w.heap.size + 1, 0, none⟩ (.int .i64 (fwP pl lo lo.length))).drew ab lo.length (latP pl lo)) := L7.2.2.2.1.ext fun j hj => by simp [hj]
      have N6 : Hid (Below w.heap.size w (wr.setCell ⟨w.heap.size + 1, 0, none⟩ (.int .i64 (fwP pl lo lo.length))).drew) := L7.2.2.2.2.2
      clear k7 L7 q7
      have fz := hF.2.1.frozen 0
      clear hF
      go_wp2
      go_region
      go_wp2
      refine bodyPost_ret (v := .tuple #[.slice (some ⟨ab, 0, none⟩) lo.length lo.length, .int .i64 (fwP pl lo lo.length)]) ?_ rfl ?_
      · simp only [results, show Tryd.f4.results = #[.tmp 2, .cell 3 3] from rfl]
        go_simp
      · exact ⟨_, rfl, NR.out, L6.out, N6.out⟩
end Go.Proofs.YtligjglleomeeaaDoor
