/-
  Proved: a label that nobody goes to changes no word; words that do nothing behind all others change none ahead. Plain mathematics.
-/
import Derived.Test.YtcdeckbobabdkaaLedgep
namespace Go.Proofs.Ytcdeckbobabdkaa
open Go.RowKit
set_option linter.unusedVariables false
set_option linter.unusedSimpArgs false
set_option maxRecDepth 20000

theorem isB_lt {l : List Ln} {j : Nat} (h : isB l j = true) : j < l.length := by
  unfold isB at h
  rcases Nat.lt_or_ge j l.length with h1 | h1
  · exact h1
  · rw [List.getElem?_eq_none h1] at h; cases h

/-! behind all others -/
theorem app_at (l : List Ln) (y : Ln) {j : Nat} (h : j < l.length) : (l ++ [y])[j]? = l[j]? := by rw [List.getElem?_append_left h]
theorem app_end (l : List Ln) (y : Ln) : (l ++ [y])[l.length]? = some y := by simp
theorem lbOf_pad (l : List Ln) (n : Int) (s : Tx) : lbOf (l ++ [pdE n]) s = lbOf l s := by
  rw [lbOf_snoc]
  have : isL s (pdE n) = false := by simp [isL, pdE]
  rw [this]
  simp
theorem atP_app (l : List Ln) (y : Ln) (L : Nat → Bool) : ∀ p, p ≤ l.length → atP (l ++ [y]) L p = atP l L p
  | 0, _ => rfl
  | p + 1, h => by
    show atP (l ++ [y]) L p + (shA (l ++ [y]) p + if L p then 4 else 0) = atP l L p + (shA l p + if L p then 4 else 0)
    rw [atP_app l y L p (by omega)]
    unfold shA
    rw [app_at l y (by omega)]
theorem isB_pad (l : List Ln) (n : Int) (j : Nat) : isB (l ++ [pdE n]) j = isB l j := by
  unfold isB
  rcases Nat.lt_trichotomy j l.length with h | h | h
  · rw [app_at l _ h]
  · subst h
    rw [app_end, List.getElem?_eq_none (Nat.le_refl _)]
    rfl
  · rw [List.getElem?_eq_none (by simp; omega), List.getElem?_eq_none (by omega)]
theorem goal_pad (l : List Ln) (n : Int) {j : Nat} (h : j < l.length) : goal (l ++ [pdE n]) j = goal l j := by
  unfold goal
  rw [app_at l _ h]
  simp only [lbOf_pad]
theorem way_pad (l : List Ln) (n : Int) (L : Nat → Bool) {j : Nat} (h : j < l.length) : way (l ++ [pdE n]) L j = way l L j := by
  unfold way
  rw [goal_pad l n h, atP_app _ _ _ _ (Nat.le_of_lt (goal_in l j h)), atP_app _ _ _ _ (by omega)]
theorem clo_pad (l : List Ln) (n : Int) (L : Nat → Bool) : Clo (l ++ [pdE n]) L ↔ Clo l L := by
  unfold Clo
  simp only [isB_pad]
  constructor
  · intro H j hb hL
    have := H j hb hL
    rw [way_pad l n L (isB_lt hb)] at this
    exact this
  · intro H j hb hL
    rw [way_pad l n L (isB_lt hb)]
    exact H j hb hL
theorem lst_pad (l : List Ln) (n : Int) (L : Nat → Bool) : Lst (l ++ [pdE n]) L ↔ Lst l L := by
  unfold Lst Low
  simp only [clo_pad, isB_pad]
theorem lab_pad (l : List Ln) (n : Int) (h : labOk l) : labOk (l ++ [pdE n]) := by
  refine ⟨fun i y hy hk => ?_, fun y hy hg => ?_⟩
  · rcases Nat.lt_trichotomy i l.length with h1 | h1 | h1
    · rw [app_at l _ h1] at hy
      rw [List.take_append_of_le_length (by omega)]
      exact h.1 i y hy hk
    · subst h1
      rw [app_end] at hy
      cases hy
      simp [pdE] at hk
    · rw [List.getElem?_eq_none (by simp; omega)] at hy
      cases hy
  · rw [lbOf_pad]
    rcases List.mem_append.1 hy with h1 | h1
    · exact h.2 y h1 hg
    · simp at h1
      subst h1
      simp [goes, pdE] at hg
theorem wds_pad (l : List Ln) (n : Int) (L : Nat → Bool) {j : Nat} (h : j < l.length) : wdsP (l ++ [pdE n]) L j = wdsP l L j := by
  unfold wdsP
  rw [app_at l _ h, way_pad l n L h]
theorem asm_pad (l : List Ln) (n : Int) (L : Nat → Bool) : ∀ p, p ≤ l.length → asmW (l ++ [pdE n]) L p = asmW l L p
  | 0, _ => rfl
  | p + 1, h => by rw [asmW_succ, asmW_succ, asm_pad l n L p (by omega), wds_pad l n L (by omega)]
/-- What words that do nothing change. -/
theorem more_pad {l : List Ln} {L : Nat → Bool} (hF : Fine l L) (n : Int) : errP (l ++ [pdE n]) = 10 ∨ errP (l ++ [pdE n]) = 72 ∨ (errP (l ++ [pdE n]) = 0 ∧ ∀ M, Lst (l ++ [pdE n]) M → asmW (l ++ [pdE n]) M (l.length + 1) = asmW l L l.length ++ List.replicate n.toNat 19) := by
  have hlab := lab_pad l n hF.b
  have hleg : (l ++ [pdE n]).all leg = true := by rw [List.all_append, hF.g]; simp [leg_pd]
  by_cases h1 : frmB (l ++ [pdE n]) = true
  · by_cases h4 : fitsP (l ++ [pdE n])
    · refine Or.inr (Or.inr ⟨errP_0 h1 hlab hleg h4, fun M hM => ?_⟩)
      obtain rfl := hF.s.one ((lst_pad l n M).1 hM)
      rw [asmW_succ, asm_pad l n L _ (Nat.le_refl _)]
      congr 1
      unfold wdsP
      rw [app_end]
      simp [pdE]
    · exact Or.inr (Or.inl (errP_72 h1 hlab hleg h4))
  · exact Or.inl (errP_10 h1)

/-! a label between -/
def moT : Tx := [109, 111, 114, 101]
def lbM : Ln := ⟨2, ⟨#[]⟩, zI, ⟨#[109, 111, 114, 101]⟩, 0⟩
def ins (l : List Ln) (a : Nat) : List Ln := l.take a ++ lbM :: l.drop a
def shf (a j : Nat) : Nat := if j < a then j else j + 1
theorem ins_len (l : List Ln) {a : Nat} (ha : a ≤ l.length) : (ins l a).length = l.length + 1 := by
  unfold ins
  simp
  omega
theorem ins_at (l : List Ln) {a : Nat} (ha : a ≤ l.length) (j : Nat) : (ins l a)[shf a j]? = l[j]? := by
  unfold ins shf
  split
  · rename_i h
    rw [List.getElem?_append_left (by simp; omega), List.getElem?_take_of_lt h]
  · rename_i h
    rw [List.getElem?_append_right (by simp; omega), List.length_take, Nat.min_eq_left ha, show j + 1 - a = (j - a) + 1 by omega, List.getElem?_cons_succ, List.getElem?_drop, show a + (j - a) = j by omega]
theorem ins_a (l : List Ln) {a : Nat} (ha : a ≤ l.length) : (ins l a)[a]? = some lbM := by
  unfold ins
  rw [List.getElem?_append_right (by rw [List.length_take]; omega), List.length_take, Nat.min_eq_left ha, Nat.sub_self]
  rfl
theorem ins_lt (l : List Ln) {a : Nat} (ha : a ≤ l.length) {j : Nat} (h : j < a) : (ins l a)[j]? = l[j]? := by
  have := ins_at l ha j
  unfold shf at this
  rw [if_pos h] at this
  exact this
theorem ins_ge (l : List Ln) {a : Nat} (ha : a ≤ l.length) {j : Nat} (h : a ≤ j) : (ins l a)[j + 1]? = l[j]? := by
  have := ins_at l ha j
  unfold shf at this
  rw [if_neg (by omega)] at this
  exact this
theorem frm_ins (l : List Ln) (k : List Ln) (r : Int) : frm r (l ++ lbM :: k) = frm r (l ++ k) := by
  induction l generalizing r with
  | nil =>
    show frm r (lbM :: k) = frm r k
    simp [frm, lbM]
  | cons y l ih =>
    show frm r (y :: (l ++ lbM :: k)) = frm r (y :: (l ++ k))
    simp only [frm, ih]
theorem atP_ins (l : List Ln) {a : Nat} (ha : a ≤ l.length) (M : Nat → Bool) (hM : M a = false) (p : Nat) : (p ≤ a → atP (ins l a) M p = atP l (fun j => M (shf a j)) p) ∧ (a ≤ p → atP (ins l a) M (p + 1) = atP l (fun j => M (shf a j)) p) := by
  have hlo : ∀ p, p ≤ a → atP (ins l a) M p = atP l (fun j => M (shf a j)) p := by
    intro p
    induction p with
    | zero => intro _; rfl
    | succ p ih =>
      intro h
      show atP (ins l a) M p + (shA (ins l a) p + if M p then 4 else 0) = atP l (fun j => M (shf a j)) p + (shA l p + if M (shf a p) then 4 else 0)
      rw [ih (by omega)]
      unfold shA
      rw [ins_lt l ha (by omega)]
      unfold shf
      rw [if_pos (show p < a by omega)]
  refine ⟨hlo p, ?_⟩
  induction p with
  | zero =>
    intro h
    have : a = 0 := by omega
    subst this
    show 0 + (shA (ins l 0) 0 + if M 0 then 4 else 0) = 0
    unfold shA
    rw [ins_a l ha, hM]
    rfl
  | succ p ih =>
    intro h
    rcases Nat.lt_or_ge p a with h1 | h1
    · have : a = p + 1 := by omega
      subst this
      show atP (ins l (p + 1)) M (p + 1) + (shA (ins l (p + 1)) (p + 1) + if M (p + 1) then 4 else 0) = _
      rw [hlo (p + 1) (Nat.le_refl _), hM]
      unfold shA
      rw [ins_a l ha]
      simp [shB, lbM]
    · show atP (ins l a) M (p + 1) + (shA (ins l a) (p + 1) + if M (p + 1) then 4 else 0) = atP l (fun j => M (shf a j)) p + (shA l p + if M (shf a p) then 4 else 0)
      rw [ih h1]
      unfold shA
      rw [ins_ge l ha h1]
      unfold shf
      rw [if_neg (show ¬ p < a by omega)]
theorem atP_shf (l : List Ln) {a : Nat} (ha : a ≤ l.length) (M : Nat → Bool) (hM : M a = false) (p : Nat) : atP (ins l a) M (shf a p) = atP l (fun j => M (shf a j)) p := by
  unfold shf
  split
  · rename_i h
    exact (atP_ins l ha M hM p).1 (by omega)
  · rename_i h
    exact (atP_ins l ha M hM p).2 (by omega)
theorem isB_shf (l : List Ln) {a : Nat} (ha : a ≤ l.length) (j : Nat) : isB (ins l a) (shf a j) = isB l j := by
  unfold isB
  rw [ins_at l ha]
theorem isB_a (l : List Ln) {a : Nat} (ha : a ≤ l.length) : isB (ins l a) a = false := by
  unfold isB
  rw [ins_a l ha]
  rfl
theorem shf_cases (a i : Nat) : i = a ∨ ∃ j, i = shf a j := by
  rcases Nat.lt_trichotomy i a with h | h | h
  · exact Or.inr ⟨i, by unfold shf; rw [if_pos h]⟩
  · exact Or.inl h
  · exact Or.inr ⟨i - 1, by unfold shf; rw [if_neg (by omega)]; omega⟩
theorem shf_inj {a i j : Nat} (h : shf a i = shf a j) : i = j := by
  unfold shf at h
  split at h <;> split at h <;> omega

theorem find_ins (l : List Ln) {a : Nat} (ha : a ≤ l.length) (s : Tx) (hs : s ≠ moT) : lbOf (ins l a) s = (lbOf l s).map (shf a) := by
  have hm : isL s lbM = false := by
    have : ¬ moT = s := fun h => hs h.symm
    have h2 : ¬ [109, 111, 114, 101] = s := this
    simp [isL, lbM, h2]
  cases e : lbOf l s with
  | none =>
    unfold lbOf at e ⊢
    rw [List.findIdx?_eq_none_iff] at e
    show List.findIdx? (isL s) (ins l a) = none
    rw [List.findIdx?_eq_none_iff]
    intro y hy
    unfold ins at hy
    rcases List.mem_append.1 hy with h | h
    · exact e y (List.mem_of_mem_take h)
    · rcases List.mem_cons.1 h with rfl | h
      · exact hm
      · exact e y (List.mem_of_mem_drop h)
  | some g =>
    unfold lbOf at e ⊢
    rw [List.findIdx?_eq_some_iff_getElem] at e
    obtain ⟨h1, h2, h3⟩ := e
    show List.findIdx? (isL s) (ins l a) = some (shf a g)
    rw [List.findIdx?_eq_some_iff_getElem]
    have hlen := ins_len l ha
    have hgl : shf a g < (ins l a).length := by rw [hlen]; unfold shf; split <;> omega
    have hget : ∀ j (hj : j < l.length) (hj2 : shf a j < (ins l a).length), (ins l a)[shf a j] = l[j] := fun j hj hj2 => by
      have := ins_at l ha j
      rw [List.getElem?_eq_getElem hj2, List.getElem?_eq_getElem hj] at this
      exact Option.some.inj this
    refine ⟨hgl, by rw [hget g h1 hgl]; exact h2, fun i hi => ?_⟩
    have hi2 : i < (ins l a).length := by omega
    rcases shf_cases a i with rfl | ⟨j, rfl⟩
    · have := ins_a l ha
      rw [List.getElem?_eq_getElem hi2] at this
      rw [Option.some.inj this, hm]
      decide
    · have hjg : j < g := by unfold shf at hi; split at hi <;> split at hi <;> omega
      rw [hget j (by omega) hi2]
      exact h3 j hjg

/-- No line has that name. -/
def noMo (l : List Ln) : Prop := ∀ y ∈ l, y.lb.data.toList ≠ moT

theorem goal_ins {l : List Ln} (hb : labOk l) (hn : noMo l) {a : Nat} (ha : a ≤ l.length) {j : Nat} {y : Ln} (hy : l[j]? = some y) (hg : goes y = true) : goal (ins l a) (shf a j) = shf a (goal l j) := by
  unfold goal
  rw [ins_at l ha, hy]
  simp only [Option.bind_some]
  have hm := List.mem_of_getElem? hy
  rw [find_ins l ha _ (hn y hm)]
  have := hb.2 y hm hg
  cases e : lbOf l y.lb.data.toList with
  | none => rw [e] at this; cases this
  | some g => rfl
theorem way_ins {l : List Ln} (hb : labOk l) (hn : noMo l) {a : Nat} (ha : a ≤ l.length) (M : Nat → Bool) (hM : M a = false) {j : Nat} {y : Ln} (hy : l[j]? = some y) (hg : goes y = true) : way (ins l a) M (shf a j) = way l (fun i => M (shf a i)) j := by
  unfold way
  rw [goal_ins hb hn ha hy hg, atP_shf l ha M hM, atP_shf l ha M hM]
theorem isB_goes' {l : List Ln} {j : Nat} (h : isB l j = true) : ∃ y, l[j]? = some y ∧ goes y = true := by
  unfold isB at h
  cases e : l[j]? with
  | none => rw [e] at h; cases h
  | some y =>
    rw [e] at h
    simp only [Option.map_some, Option.getD_some, decide_eq_true_eq] at h
    exact ⟨y, rfl, by simp [goes, h]⟩
theorem clo_ins {l : List Ln} (hb : labOk l) (hn : noMo l) {a : Nat} (ha : a ≤ l.length) (M : Nat → Bool) (hM : M a = false) : Clo (ins l a) M ↔ Clo l (fun i => M (shf a i)) := by
  constructor
  · intro H j hbj hL
    obtain ⟨y, hy, hg⟩ := isB_goes' hbj
    have := H (shf a j) (by rw [isB_shf l ha]; exact hbj) hL
    rw [way_ins hb hn ha M hM hy hg] at this
    exact this
  · intro H i hbi hL
    rcases shf_cases a i with rfl | ⟨j, rfl⟩
    · rw [isB_a l ha] at hbi; cases hbi
    · rw [isB_shf l ha] at hbi
      obtain ⟨y, hy, hg⟩ := isB_goes' hbi
      rw [way_ins hb hn ha M hM hy hg]
      exact H j hbi hL
/-- The long ones, with the label between. -/
def Lin (L : Nat → Bool) (a : Nat) : Nat → Bool := fun i => if i < a then L i else if i = a then false else L (i - 1)
theorem Lin_a (L : Nat → Bool) (a : Nat) : Lin L a a = false := by simp [Lin]
theorem Lin_shf (L : Nat → Bool) (a j : Nat) : Lin L a (shf a j) = L j := by
  unfold Lin shf
  by_cases h : j < a
  · simp [h]
  · have h1 : ¬ j + 1 < a := by omega
    have h2 : ¬ j + 1 = a := by omega
    simp [h, h1, h2]
theorem lst_ins {l : List Ln} {L : Nat → Bool} (hb : labOk l) (hn : noMo l) {a : Nat} (ha : a ≤ l.length) (h : Lst l L) : Lst (ins l a) (Lin L a) := by
  have hLs : (fun i => Lin L a (shf a i)) = L := funext (Lin_shf L a)
  refine ⟨⟨fun i hi => ?_, fun M hM i hi => ?_⟩, ?_⟩
  · rcases shf_cases a i with rfl | ⟨j, rfl⟩
    · rw [Lin_a] at hi; cases hi
    · rw [Lin_shf] at hi
      rw [isB_shf l ha]
      exact h.1.1 j hi
  · have hsub : ∀ j, (fun j => M j && isB (ins l a) j) j = true → M j = true := fun j hj => by
      simp only [Bool.and_eq_true] at hj
      exact hj.1
    have hc0 : Clo (ins l a) (fun j => M j && isB (ins l a) j) := fun j hbj hj hf => by
      have hMj : M j = false := by simpa [hbj] using hj
      exact hM j hbj hMj (way_mono _ hsub hf hMj)
    have hc1 := (clo_ins hb hn ha _ (by simp [isB_a l ha])).1 hc0
    rcases shf_cases a i with rfl | ⟨j, rfl⟩
    · rw [Lin_a] at hi; cases hi
    · rw [Lin_shf] at hi
      exact hsub _ (h.1.2 _ hc1 j hi)
  · rw [clo_ins hb hn ha _ (Lin_a L a), hLs]
    exact h.2
theorem wds_ins {l : List Ln} {L : Nat → Bool} (hb : labOk l) (hn : noMo l) {a : Nat} (ha : a ≤ l.length) (j : Nat) : wdsP (ins l a) (Lin L a) (shf a j) = wdsP l L j := by
  have hLs : (fun i => Lin L a (shf a i)) = L := funext (Lin_shf L a)
  unfold wdsP
  rw [ins_at l ha]
  cases e : l[j]? with
  | none => rfl
  | some y =>
    simp only
    rw [Lin_shf]
    by_cases hg : goes y = true
    · rw [way_ins hb hn ha _ (Lin_a L a) e hg, hLs]
    · have e4 : ¬ y.k = 4 := fun x => hg (by simp [goes, x])
      have e3 : ¬ y.k = 3 := fun x => hg (by simp [goes, x])
      simp [e3, e4]
theorem asm_ins {l : List Ln} {L : Nat → Bool} (hb : labOk l) (hn : noMo l) {a : Nat} (ha : a ≤ l.length) (p : Nat) : (p ≤ a → asmW (ins l a) (Lin L a) p = asmW l L p) ∧ (a ≤ p → asmW (ins l a) (Lin L a) (p + 1) = asmW l L p) := by
  have hwa : wdsP (ins l a) (Lin L a) a = [] := by
    unfold wdsP
    rw [ins_a l ha]
    simp [lbM]
  have hlo : ∀ p, p ≤ a → asmW (ins l a) (Lin L a) p = asmW l L p := by
    intro p
    induction p with
    | zero => intro _; rfl
    | succ p ih =>
      intro h
      have h2 := wds_ins (L := L) hb hn ha p
      unfold shf at h2
      rw [if_pos (by omega)] at h2
      rw [asmW_succ, asmW_succ, ih (by omega), h2]
  refine ⟨hlo p, ?_⟩
  induction p with
  | zero =>
    intro h
    have : a = 0 := by omega
    subst this
    rw [asmW_succ, hwa, hlo 0 (Nat.le_refl _), List.append_nil]
  | succ p ih =>
    intro h
    rcases Nat.lt_or_ge p a with h1 | h1
    · have : a = p + 1 := by omega
      subst this
      rw [asmW_succ, hwa, hlo (p + 1) (Nat.le_refl _), List.append_nil]
    · have h2 := wds_ins (L := L) hb hn ha p
      unfold shf at h2
      rw [if_neg (by omega)] at h2
      rw [asmW_succ, ih h1, h2, ← asmW_succ]
/-- A label that nobody goes to. -/
theorem more_label {l : List Ln} {L : Nat → Bool} (hF : Fine l L) (hn : noMo l) {a : Nat} (ha : a ≤ l.length) : Fine (ins l a) (Lin L a) ∧ asmW (ins l a) (Lin L a) (ins l a).length = asmW l L l.length := by
  have hLs : (fun i => Lin L a (shf a i)) = L := funext (Lin_shf L a)
  have hlen := ins_len l ha
  refine ⟨⟨?_, ⟨fun i y hy hk => ?_, fun y hy hg => ?_⟩, ?_, lst_ins hF.b hn ha hF.s, ?_⟩, ?_⟩
  · have := hF.f
    unfold frmB ins
    rw [frm_ins, List.take_append_drop]
    exact this
  · rcases shf_cases a i with rfl | ⟨j, rfl⟩
    · rw [ins_a l ha] at hy
      cases hy
      have ht : (ins l i).take i = l.take i := by
        unfold ins
        rw [List.take_append_of_le_length (by simp; omega), List.take_take, Nat.min_self]
      rw [ht]
      unfold lbOf
      rw [List.findIdx?_eq_none_iff]
      intro z hz
      have := hn z (List.mem_of_mem_take hz)
      have h2 : ¬ z.lb.data.toList = [109, 111, 114, 101] := this
      simp [isL, lbM, h2]
    · rw [ins_at l ha] at hy
      have hjl := (List.getElem?_eq_some_iff.1 hy).1
      have h1 := hF.b.1 j y hy hk
      have hs := hn y (List.mem_of_getElem? hy)
      unfold shf
      split
      · rename_i h
        have ht : (ins l a).take j = l.take j := by
          unfold ins
          rw [List.take_append_of_le_length (by simp; omega), List.take_take, Nat.min_eq_left (by omega)]
        rw [ht]
        exact h1
      · rename_i h
        have ht : (ins l a).take (j + 1) = ins (l.take j) a := by
          unfold ins
          rw [List.take_append, List.take_take, Nat.min_eq_right (by omega), List.length_take, Nat.min_eq_left ha, show j + 1 - a = (j - a) + 1 by omega, List.take_succ_cons, List.take_take, Nat.min_eq_left (by omega), List.drop_take]
        rw [ht, find_ins _ (by rw [List.length_take]; omega) _ hs, h1]
        rfl
  · have hyl : y ∈ l := by
      unfold ins at hy
      rcases List.mem_append.1 hy with h | h
      · exact List.mem_of_mem_take h
      · rcases List.mem_cons.1 h with rfl | h
        · simp [goes, lbM] at hg
        · exact List.mem_of_mem_drop h
    rw [find_ins l ha _ (hn y hyl)]
    have := hF.b.2 y hyl hg
    cases e : lbOf l y.lb.data.toList with
    | none => rw [e] at this; cases this
    | some g => rfl
  · have := hF.g
    rw [← List.take_append_drop a l, List.all_append] at this
    unfold ins
    rw [List.all_append, List.all_cons]
    simp only [Bool.and_eq_true] at this ⊢
    exact ⟨this.1, by decide +kernel, this.2⟩
  · rw [hlen, (atP_ins l ha _ (Lin_a L a) l.length).2 ha, hLs]
    exact hF.z
  · rw [hlen]
    exact (asm_ins hF.b hn ha l.length).2 ha
end Go.Proofs.Ytcdeckbobabdkaa
