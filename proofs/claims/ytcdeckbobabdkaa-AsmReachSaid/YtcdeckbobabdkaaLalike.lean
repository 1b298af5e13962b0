/-
  Proved: lines that are alike but for their labels' names have the same error and the same words. Plain mathematics.
-/
import Derived.Test.YtcdeckbobabdkaaLedgep
namespace Go.Proofs.Ytcdeckbobabdkaa
open Go.RowKit
set_option linter.unusedVariables false
set_option linter.unusedSimpArgs false
set_option maxRecDepth 20000

/-- Alike, but for the labels' names; where they go is the same. -/
structure Ali (l k : List Ln) : Prop where
  len : k.length = l.length
  one : ∀ (j : Nat) (y z : Ln), l[j]? = some y → k[j]? = some z → z.k = y.k ∧ z.s = y.s ∧ z.i = y.i ∧ z.n = y.n
  go : ∀ (j : Nat) (y : Ln), l[j]? = some y → goes y = true → goal k j = goal l j

theorem Ali.at' {l k : List Ln} (h : Ali l k) (j : Nat) : (l[j]? = none ∧ k[j]? = none) ∨ ∃ y z, l[j]? = some y ∧ k[j]? = some z ∧ z.k = y.k ∧ z.s = y.s ∧ z.i = y.i ∧ z.n = y.n := by
  rcases Nat.lt_or_ge j l.length with hj | hj
  · have hj2 : j < k.length := by rw [h.len]; exact hj
    have e1 : l[j]? = some l[j] := List.getElem?_eq_getElem hj
    have e2 : k[j]? = some k[j] := List.getElem?_eq_getElem hj2
    exact Or.inr ⟨_, _, e1, e2, h.one j _ _ e1 e2⟩
  · exact Or.inl ⟨List.getElem?_eq_none hj, List.getElem?_eq_none (by rw [h.len]; exact hj)⟩
theorem Ali.sh {l k : List Ln} (h : Ali l k) (j : Nat) : shA k j = shA l j := by
  unfold shA
  rcases h.at' j with ⟨e1, e2⟩ | ⟨y, z, e1, e2, a, b, c, d⟩
  · rw [e1, e2]
  · rw [e1, e2]
    simp only [Option.map_some, Option.getD_some]
    unfold shB
    rw [a, d]
theorem Ali.br {l k : List Ln} (h : Ali l k) (j : Nat) : isB k j = isB l j := by
  unfold isB
  rcases h.at' j with ⟨e1, e2⟩ | ⟨y, z, e1, e2, a, b, c, d⟩
  · rw [e1, e2]
  · rw [e1, e2]
    simp only [Option.map_some, Option.getD_some, a]
theorem Ali.at {l k : List Ln} (h : Ali l k) (L : Nat → Bool) (p : Nat) : atP k L p = atP l L p := by
  induction p with
  | zero => rfl
  | succ p ih => show atP k L p + (shA k p + if L p then 4 else 0) = atP l L p + (shA l p + if L p then 4 else 0); rw [ih, h.sh]
theorem Ali.wayE {l k : List Ln} (h : Ali l k) (L : Nat → Bool) {j : Nat} {y : Ln} (hy : l[j]? = some y) (hg : goes y = true) : way k L j = way l L j := by
  unfold way
  rw [h.at, h.at, h.go j y hy hg]
theorem isB_goes {l : List Ln} {j : Nat} (h : isB l j = true) : ∃ y, l[j]? = some y ∧ goes y = true := by
  unfold isB at h
  cases e : l[j]? with
  | none => rw [e] at h; cases h
  | some y =>
    rw [e] at h
    simp only [Option.map_some, Option.getD_some, decide_eq_true_eq] at h
    exact ⟨y, rfl, by simp [goes, h]⟩
theorem Ali.clo {l k : List Ln} (h : Ali l k) (L : Nat → Bool) : Clo k L ↔ Clo l L := by
  constructor
  · intro H j hb hL
    obtain ⟨y, hy, hg⟩ := isB_goes hb
    have := H j (by rw [h.br]; exact hb) hL
    rw [h.wayE L hy hg] at this
    exact this
  · intro H j hb hL
    rw [h.br] at hb
    obtain ⟨y, hy, hg⟩ := isB_goes hb
    rw [h.wayE L hy hg]
    exact H j hb hL
theorem Ali.lst {l k : List Ln} (h : Ali l k) (L : Nat → Bool) : Lst k L ↔ Lst l L := by
  unfold Lst Low
  simp only [h.clo, h.br]
theorem Ali.wds {l k : List Ln} (h : Ali l k) (L : Nat → Bool) (j : Nat) : wdsP k L j = wdsP l L j := by
  unfold wdsP
  rcases h.at' j with ⟨e1, e2⟩ | ⟨y, z, e1, e2, a, b, c, d⟩
  · rw [e1, e2]
  · rw [e1, e2]
    simp only [a, b, c, d]
    by_cases e : goes y = true
    · rw [h.wayE L e1 e]
    · have e4 : ¬ y.k = 4 := fun x => e (by simp [goes, x])
      have e3 : ¬ y.k = 3 := fun x => e (by simp [goes, x])
      simp [e3, e4]
theorem Ali.asm {l k : List Ln} (h : Ali l k) (L : Nat → Bool) (n : Nat) : asmW k L n = asmW l L n := by
  unfold asmW
  have : wdsP k L = wdsP l L := funext (h.wds L)
  rw [this]
theorem Ali.fits {l k : List Ln} (h : Ali l k) : fitsP k ↔ fitsP l := by
  unfold fitsP
  simp only [h.lst, h.at, h.len]
theorem frm_ali : ∀ (l k : List Ln) (r : Int), k.length = l.length → (∀ (j : Nat) (y z : Ln), l[j]? = some y → k[j]? = some z → z.k = y.k ∧ z.n = y.n) → frm r k = frm r l
  | [], [], _, _, _ => rfl
  | [], _ :: _, _, h, _ => by simp at h
  | _ :: _, [], _, h, _ => by simp at h
  | y :: l, z :: k, r, h, H => by
    obtain ⟨a, b⟩ := H 0 y z rfl rfl
    have ih := fun r => frm_ali l k r (by simpa using h) (fun j p q hp hq => H (j + 1) p q hp hq)
    simp only [frm, a, b, ih]
theorem Ali.frmE {l k : List Ln} (h : Ali l k) : frmB k = frmB l := frm_ali l k _ h.len fun j y z e1 e2 => ⟨(h.one j y z e1 e2).1, (h.one j y z e1 e2).2.2.2⟩
theorem leg_ali : ∀ (l k : List Ln), k.length = l.length → (∀ (j : Nat) (y z : Ln), l[j]? = some y → k[j]? = some z → leg z = leg y) → k.all leg = l.all leg
  | [], [], _, _ => rfl
  | [], _ :: _, h, _ => by simp at h
  | _ :: _, [], h, _ => by simp at h
  | y :: l, z :: k, h, H => by
    rw [List.all_cons, List.all_cons, H 0 y z rfl rfl, leg_ali l k (by simpa using h) fun j p q hp hq => H (j + 1) p q hp hq]
theorem Ali.legE {l k : List Ln} (h : Ali l k) : k.all leg = l.all leg := leg_ali l k h.len fun j y z e1 e2 => by
  obtain ⟨a, b, c, d⟩ := h.one j y z e1 e2
  unfold leg
  rw [a, b, c]
theorem Ali.err {l k : List Ln} (h : Ali l k) (hl : labOk k ↔ labOk l) : errP k = errP l := by
  have e1 : labOk k = labOk l := propext hl
  have e2 : fitsP k = fitsP l := propext h.fits
  unfold errP
  rw [h.frmE, h.legE, e1, e2]

/-! other names -/
def ofS : ByteArray := ⟨#[111, 102, 32]⟩
def ren (y : Ln) : Ln := if 2 ≤ y.k ∧ y.k ≤ 4 then ⟨y.k, y.s, y.i, ofS ++ y.lb, y.n⟩ else y
theorem of_data (a : ByteArray) : (ofS ++ a).data.toList = [111, 102, 32] ++ a.data.toList := by
  rw [ByteArray.data_append, Array.toList_append]
  rfl
theorem isL_ren (s : Tx) (y : Ln) : isL ([111, 102, 32] ++ s) (ren y) = isL s y := by
  unfold isL ren
  by_cases e : 2 ≤ y.k ∧ y.k ≤ 4
  · rw [if_pos e]
    simp only [of_data]
    congr 1
    simp
  · rw [if_neg e]
    have : ¬ y.k = 2 := by omega
    simp [this]
theorem lbOf_ren (l : List Ln) (s : Tx) : lbOf (l.map ren) ([111, 102, 32] ++ s) = lbOf l s := by
  unfold lbOf
  rw [List.findIdx?_map]
  congr 1
  funext y
  exact isL_ren s y
theorem ren_lb {y : Ln} (h : 2 ≤ y.k ∧ y.k ≤ 4) : (ren y).lb.data.toList = [111, 102, 32] ++ y.lb.data.toList := by
  unfold ren
  rw [if_pos h]
  exact of_data _
theorem ren_f (y : Ln) : (ren y).k = y.k ∧ (ren y).s = y.s ∧ (ren y).i = y.i ∧ (ren y).n = y.n := by
  unfold ren
  split <;> exact ⟨rfl, rfl, rfl, rfl⟩
theorem goes_k {y : Ln} (h : goes y = true) : 2 ≤ y.k ∧ y.k ≤ 4 := by
  simp only [goes, Bool.or_eq_true, decide_eq_true_eq] at h
  omega
theorem ren_ali (l : List Ln) : Ali l (l.map ren) where
  len := by simp
  one := fun j y z e1 e2 => by
    rw [List.getElem?_map, e1] at e2
    simp at e2
    subst e2
    exact ren_f y
  go := fun j y e1 hg => by
    unfold goal
    rw [List.getElem?_map, e1]
    simp only [Option.map_some, Option.bind_some]
    rw [ren_lb (goes_k hg), lbOf_ren]
theorem ren_lab (l : List Ln) : labOk (l.map ren) ↔ labOk l := by
  unfold labOk
  refine and_congr ⟨fun H j y hy hk => ?_, fun H j z hz hk => ?_⟩ ⟨fun H y hy hg => ?_, fun H z hz hg => ?_⟩
  · have h1 := H j (ren y) (by rw [List.getElem?_map, hy]; rfl) (by rw [(ren_f y).1]; exact hk)
    rw [ren_lb ⟨by omega, by omega⟩, ← List.map_take, lbOf_ren] at h1
    exact h1
  · rw [List.getElem?_map] at hz
    obtain ⟨y, hy, rfl⟩ := Option.map_eq_some_iff.1 hz
    rw [(ren_f y).1] at hk
    rw [ren_lb ⟨by omega, by omega⟩, ← List.map_take, lbOf_ren]
    exact H j y hy hk
  · have hg2 : goes (ren y) = true := by unfold goes at hg ⊢; rw [(ren_f y).1]; exact hg
    have h1 := H (ren y) (List.mem_map.2 ⟨y, hy, rfl⟩) hg2
    rw [ren_lb (goes_k hg), lbOf_ren] at h1
    exact h1
  · obtain ⟨y, hy, rfl⟩ := List.mem_map.1 hz
    have hg2 : goes y = true := by unfold goes at hg ⊢; rw [(ren_f y).1] at hg; exact hg
    rw [ren_lb (goes_k hg2), lbOf_ren]
    exact H y hy hg2
/-- Names do not matter. -/
theorem ren_same (l : List Ln) : errP (l.map ren) = errP l ∧ ∀ L n, asmW (l.map ren) L n = asmW l L n := ⟨(ren_ali l).err (ren_lab l), (ren_ali l).asm⟩
end Go.Proofs.Ytcdeckbobabdkaa
