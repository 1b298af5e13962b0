/-
  Proved: the instructions as rows: no word has the fixed bits of two of them, so that what is encoded is decoded as it was.
-/
import Derived.Test.YtcdeckbobabdkaaImath
namespace Go.Proofs.Ytcdeckbobabdkaa

/-- The instructions: their names, as bytes, and rows. -/
def insT : List (List UInt8 × Rw) := [
  ([108, 117, 105], ⟨0, 55, 0, 0⟩),
  ([97, 117, 105, 112, 99], ⟨0, 23, 0, 0⟩),
  ([106, 97, 108], ⟨1, 111, 0, 0⟩),
  ([106, 97, 108, 114], ⟨2, 103, 0, 0⟩),
  ([108, 98], ⟨2, 3, 0, 0⟩),
  ([108, 104], ⟨2, 3, 1, 0⟩),
  ([108, 119], ⟨2, 3, 2, 0⟩),
  ([108, 98, 117], ⟨2, 3, 4, 0⟩),
  ([108, 104, 117], ⟨2, 3, 5, 0⟩),
  ([97, 100, 100, 105], ⟨2, 19, 0, 0⟩),
  ([115, 108, 116, 105], ⟨2, 19, 2, 0⟩),
  ([115, 108, 116, 105, 117], ⟨2, 19, 3, 0⟩),
  ([120, 111, 114, 105], ⟨2, 19, 4, 0⟩),
  ([111, 114, 105], ⟨2, 19, 6, 0⟩),
  ([97, 110, 100, 105], ⟨2, 19, 7, 0⟩),
  ([115, 108, 108, 105], ⟨3, 19, 1, 0⟩),
  ([115, 114, 108, 105], ⟨3, 19, 5, 0⟩),
  ([115, 114, 97, 105], ⟨3, 19, 5, 32⟩),
  ([98, 101, 113], ⟨4, 99, 0, 0⟩),
  ([98, 110, 101], ⟨4, 99, 1, 0⟩),
  ([98, 108, 116], ⟨4, 99, 4, 0⟩),
  ([98, 103, 101], ⟨4, 99, 5, 0⟩),
  ([98, 108, 116, 117], ⟨4, 99, 6, 0⟩),
  ([98, 103, 101, 117], ⟨4, 99, 7, 0⟩),
  ([115, 98], ⟨5, 35, 0, 0⟩),
  ([115, 104], ⟨5, 35, 1, 0⟩),
  ([115, 119], ⟨5, 35, 2, 0⟩),
  ([97, 100, 100], ⟨6, 51, 0, 0⟩),
  ([115, 108, 108], ⟨6, 51, 1, 0⟩),
  ([115, 108, 116], ⟨6, 51, 2, 0⟩),
  ([115, 108, 116, 117], ⟨6, 51, 3, 0⟩),
  ([120, 111, 114], ⟨6, 51, 4, 0⟩),
  ([115, 114, 108], ⟨6, 51, 5, 0⟩),
  ([111, 114], ⟨6, 51, 6, 0⟩),
  ([97, 110, 100], ⟨6, 51, 7, 0⟩),
  ([115, 117, 98], ⟨6, 51, 0, 32⟩),
  ([115, 114, 97], ⟨6, 51, 5, 32⟩),
  ([109, 117, 108], ⟨6, 51, 0, 1⟩),
  ([109, 117, 108, 104], ⟨6, 51, 1, 1⟩),
  ([109, 117, 108, 104, 115, 117], ⟨6, 51, 2, 1⟩),
  ([109, 117, 108, 104, 117], ⟨6, 51, 3, 1⟩),
  ([100, 105, 118], ⟨6, 51, 4, 1⟩),
  ([100, 105, 118, 117], ⟨6, 51, 5, 1⟩),
  ([114, 101, 109], ⟨6, 51, 6, 1⟩),
  ([114, 101, 109, 117], ⟨6, 51, 7, 1⟩),
  ([101, 99, 97, 108, 108], ⟨7, 115, 0, 0⟩),
  ([101, 98, 114, 101, 97, 107], ⟨8, 115, 0, 0⟩)]

/-- No word has the fixed bits of both. -/
def apart (r s : Rw) : Bool :=
  r.op != s.op || (decide (2 ≤ r.fm) && decide (2 ≤ s.fm) && decide (r.fm ≤ 6) && decide (s.fm ≤ 6) && r.f3 != s.f3) ||
  ((r.fm == 3 || r.fm == 6) && (s.fm == 3 || s.fm == 6) && r.f7 != s.f7) || (r.fm == 7 && s.fm == 8) || (r.fm == 8 && s.fm == 7)

/-- A row's numbers fit; the two without fields are of op 115. -/
def fitB (r : Rw) : Bool := decide (0 ≤ r.op) && decide (r.op < 128) && decide (0 ≤ r.f3) && decide (r.f3 < 8) && decide (0 ≤ r.f7) && decide (r.f7 < 128) && (decide (2 ≤ r.fm) || r.f3 == 0) && decide (r.fm ≤ 8) && (decide (r.fm ≤ 6) || r.op == 115)

theorem fitB_fit {r : Rw} (h : fitB r = true) : Fit r ∧ (7 ≤ r.fm → r.op = 115) := by
  simp only [fitB, Bool.and_eq_true, Bool.or_eq_true, decide_eq_true_eq, beq_iff_eq] at h
  unfold Fit
  refine ⟨⟨?_, ?_, ?_, ?_, ?_⟩, ?_⟩ <;> omega

theorem fx_op {r : Rw} {w : Int} (hf : Fit r) (h : 7 ≤ r.fm → r.op = 115) (hx : fx r w) : w % 128 = r.op := by
  obtain ⟨fm, op, f3, f7⟩ := r
  have h5 : fm = 0 ∨ fm = 1 ∨ fm = 2 ∨ fm = 3 ∨ fm = 4 ∨ fm = 5 ∨ fm = 6 ∨ fm = 7 ∨ fm = 8 := by have := hf.2.2.2.2; simp only at this; omega
  rcases h5 with rfl | rfl | rfl | rfl | rfl | rfl | rfl | rfl | rfl <;> simp only [fx] at hx <;> simp only at h ⊢ <;> omega

theorem fx_f3 {r : Rw} {w : Int} (h2 : 2 ≤ r.fm) (h6 : r.fm ≤ 6) (hx : fx r w) : w / 4096 % 8 = r.f3 := by
  obtain ⟨fm, op, f3, f7⟩ := r
  have h5 : fm = 2 ∨ fm = 3 ∨ fm = 4 ∨ fm = 5 ∨ fm = 6 := by simp only at h2 h6; omega
  rcases h5 with rfl | rfl | rfl | rfl | rfl <;> simp only [fx] at hx ⊢ <;> omega

theorem fx_f7 {r : Rw} {w : Int} (h : r.fm = 3 ∨ r.fm = 6) (hx : fx r w) : w / 33554432 % 128 = r.f7 := by
  obtain ⟨fm, op, f3, f7⟩ := r
  simp only at h
  rcases h with rfl | rfl <;> simp only [fx] at hx ⊢ <;> omega

theorem apart_fx {r s : Rw} {w : Int} (hr : fitB r = true) (hs : fitB s = true) (ha : apart r s = true) (h1 : fx r w) (h2 : fx s w) : False := by
  have a := fitB_fit hr
  have b := fitB_fit hs
  have c := fx_op a.1 a.2 h1
  have d := fx_op b.1 b.2 h2
  simp only [apart, Bool.or_eq_true, Bool.and_eq_true, decide_eq_true_eq, beq_iff_eq, bne_iff_ne, ne_eq] at ha
  rcases ha with (((ha | ha) | ha) | ha) | ha
  · exact ha (c.symm.trans d)
  · exact ha.2 ((fx_f3 ha.1.1.1.1 ha.1.1.2 h1).symm.trans (fx_f3 ha.1.1.1.2 ha.1.2 h2))
  · exact ha.2 ((fx_f7 ha.1.1 h1).symm.trans (fx_f7 ha.1.2 h2))
  · obtain ⟨fm, op, f3, f7⟩ := r; obtain ⟨gm, oq, g3, g7⟩ := s
    simp only at ha; obtain ⟨rfl, rfl⟩ := ha; simp only [fx] at h1 h2; omega
  · obtain ⟨fm, op, f3, f7⟩ := r; obtain ⟨gm, oq, g3, g7⟩ := s
    simp only at ha; obtain ⟨rfl, rfl⟩ := ha; simp only [fx] at h1 h2; omega

theorem insT_fit : insT.all (fun x => fitB x.2) = true := by decide +kernel
theorem insT_apart : (List.range insT.length).all (fun a => (List.range insT.length).all fun b => a == b || ((insT[a]?).any fun x => (insT[b]?).any fun y => apart x.2 y.2 && x.1 != y.1)) = true := by decide +kernel

theorem insT_fits {a : Nat} {x : List UInt8 × Rw} (h : insT[a]? = some x) : fitB x.2 = true :=
  List.all_eq_true.1 insT_fit x (List.mem_of_getElem? h)

theorem insT_two {a b : Nat} {x y : List UInt8 × Rw} (ha : insT[a]? = some x) (hb : insT[b]? = some y) (hn : a ≠ b) : apart x.2 y.2 = true ∧ x.1 ≠ y.1 := by
  have la : a < insT.length := by rcases Nat.lt_or_ge a insT.length with h | h; exact h; rw [List.getElem?_eq_none h] at ha; cases ha
  have lb : b < insT.length := by rcases Nat.lt_or_ge b insT.length with h | h; exact h; rw [List.getElem?_eq_none h] at hb; cases hb
  have h := List.all_eq_true.1 (List.all_eq_true.1 insT_apart a (List.mem_range.2 la)) b (List.mem_range.2 lb)
  rw [ha, hb] at h
  simp only [Option.any_some, Bool.or_eq_true, beq_iff_eq, Bool.and_eq_true, bne_iff_ne] at h
  rcases h with h | h
  · exact (hn h).elim
  · exact h

/-- What is encoded by a row has its fixed bits, and those of no other row. -/
theorem ins_one {a b : Nat} {x y : List UInt8 × Rw} {i : Ins} (ha : insT[a]? = some x) (hb : insT[b]? = some y) (ht : tk x.2 i) (hx : fx y.2 (wo x.2 i)) : a = b := by
  rcases Nat.decEq a b with h | h
  · exact (apart_fx (insT_fits ha) (insT_fits hb) (insT_two ha hb h).1 (fx_wo (fitB_fit (insT_fits ha)).1 ht) hx).elim
  · exact h

/-- Two instructions of one word are one. -/
theorem ins_same {a b : Nat} {x y : List UInt8 × Rw} {i j : Ins} (ha : insT[a]? = some x) (hb : insT[b]? = some y) (hi : tk x.2 i) (hj : tk y.2 j) (hw : wo x.2 i = wo y.2 j) : a = b ∧ i = j := by
  have h := ins_one ha hb hi (hw ▸ fx_wo (fitB_fit (insT_fits hb)).1 hj)
  subst h
  have hxy : x = y := Option.some.inj (ha.symm.trans hb)
  subst hxy
  exact ⟨rfl, by rw [← fo_wo (fitB_fit (insT_fits ha)).1 hi, hw, fo_wo (fitB_fit (insT_fits ha)).1 hj]⟩
end Go.Proofs.Ytcdeckbobabdkaa
