/-
  Proved: how branches grow: the least lines that are closed under 'too far'. Plain mathematics.
-/
import Derived.Test.YtcdeckbobabdkaaAln
namespace Go.Proofs.Ytcdeckbobabdkaa
open Go.RowKit
set_option linter.unusedVariables false

theorem cn_mono (q : Nat → Bool) {a b : Nat} (h : a ≤ b) : cn q a ≤ cn q b := by
  induction b with
  | zero => have : a = 0 := by omega
            subst this; exact Nat.le_refl _
  | succ b ih =>
    rcases Nat.lt_or_ge b a with h1 | h1
    · have : a = b + 1 := by omega
      subst this; exact Nat.le_refl _
    · have := ih h1
      show cn q a ≤ cn q b + _
      omega
theorem cn_le (q : Nat → Bool) (p : Nat) : cn q p ≤ p := by
  induction p with
  | zero => exact Nat.le_refl _
  | succ p ih => show cn q p + (if q p then 1 else 0) ≤ p + 1; split <;> omega
theorem cn_ext {q r : Nat → Bool} {p : Nat} (h : ∀ i, i < p → q i = r i) : cn q p = cn r p := by
  induction p with
  | zero => rfl
  | succ p ih =>
    show cn q p + (if q p then 1 else 0) = cn r p + (if r p then 1 else 0)
    rw [ih (fun i hi => h i (by omega)), h p (by omega)]
/-- More that are counted: more in each stretch. -/
theorem cn_sub {q r : Nat → Bool} {a b : Nat} (hab : a ≤ b) (h : ∀ i, a ≤ i → i < b → q i = true → r i = true) : cn q b - cn q a ≤ cn r b - cn r a := by
  have H : (cn q b : Int) - cn q a ≤ (cn r b : Int) - cn r a := by
    induction b with
    | zero => have : a = 0 := by omega
              subst this; omega
    | succ b ih =>
      rcases Nat.lt_or_ge b a with h1 | h1
      · have : a = b + 1 := by omega
        subst this; omega
      · have := ih h1 (fun i h2 h3 => h i h2 (by omega))
        have hb := h b h1 (by omega)
        show ((cn q b + (if q b then 1 else 0) : Nat) : Int) - cn q a ≤ ((cn r b + (if r b then 1 else 0) : Nat) : Int) - cn r a
        cases e : q b with
        | false => simp only [Bool.false_eq_true, if_false]; split <;> omega
        | true => rw [hb e]; simp only [if_true]; omega
  omega

theorem shA_in (l : List Ln) (j : Nat) : 0 ≤ shA l j := by
  unfold shA
  cases l[j]? with
  | none => simp
  | some y =>
    simp only [Option.map_some, Option.getD_some]
    unfold shB
    split
    · omega
    · split <;> omega
theorem atP_cn (l : List Ln) (L : Nat → Bool) (p : Nat) : atP l L p = atP l (fun _ => false) p + 4 * (cn L p : Int) := by
  induction p with
  | zero => rfl
  | succ p ih =>
    show atP l L p + (shA l p + if L p then 4 else 0) = atP l (fun _ => false) p + (shA l p + if false = true then 4 else 0) + 4 * ((cn L p + if L p then 1 else 0 : Nat) : Int)
    rw [ih]
    simp only [Bool.false_eq_true, if_false]
    split <;> omega
theorem atP_ext (l : List Ln) {L M : Nat → Bool} {p : Nat} (h : ∀ i, i < p → L i = M i) : atP l L p = atP l M p := by
  rw [atP_cn, atP_cn l M, cn_ext h]
theorem atP_step (l : List Ln) (L : Nat → Bool) {a b : Nat} (h : a ≤ b) : atP l L a ≤ atP l L b := by
  induction b with
  | zero => have : a = 0 := by omega
            subst this; exact Int.le_refl _
  | succ b ih =>
    rcases Nat.lt_or_ge b a with h1 | h1
    · have : a = b + 1 := by omega
      subst this; exact Int.le_refl _
    · have := ih h1
      have := shA_in l b
      show atP l L a ≤ atP l L b + (shA l b + if L b then 4 else 0)
      split <;> omega

/-- How far it is from a line to its label. -/
def way (l : List Ln) (L : Nat → Bool) (j : Nat) : Int := atP l L (goal l j) - atP l L j
def far (d : Int) : Prop := d < -4096 ∨ 4094 < d
instance (d : Int) : Decidable (far d) := by unfold far; infer_instance
/-- No short branch is too far. -/
def Clo (l : List Ln) (L : Nat → Bool) : Prop := ∀ j, isB l j = true → L j = false → ¬ far (way l L j)
/-- They are branches, and in all that are closed. -/
def Low (l : List Ln) (L : Nat → Bool) : Prop := (∀ j, L j = true → isB l j = true) ∧ ∀ M, Clo l M → ∀ j, L j = true → M j = true

/-- More that are long take a short one no nearer. -/
theorem way_mono (l : List Ln) {L M : Nat → Bool} (h : ∀ j, L j = true → M j = true) {j : Nat} (hf : far (way l L j)) (hj : M j = false) : far (way l M j) := by
  unfold far way at *
  rw [atP_cn l L, atP_cn l L j] at hf
  rw [atP_cn l M, atP_cn l M j]
  have z0 : (0 : Int) ≤ atP l (fun _ => false) (goal l j) - atP l (fun _ => false) j ∨ atP l (fun _ => false) (goal l j) - atP l (fun _ => false) j ≤ 0 := by omega
  rcases Nat.le_total j (goal l j) with hd | hd
  · have h1 := cn_sub hd (fun i _ _ => h i)
    have h2 := cn_mono L hd
    have h3 := cn_mono M hd
    have h4 := atP_step l (fun _ => false) hd
    rcases hf with hf | hf
    · omega
    · right; omega
  · have h1 := cn_sub hd (fun i _ _ => h i)
    have h2 := cn_mono L hd
    have h3 := cn_mono M hd
    have h4 := atP_step l (fun _ => false) hd
    rcases hf with hf | hf
    · left; omega
    · omega

theorem Low.none (l : List Ln) : Low l (fun _ => false) := ⟨fun j h => (by cases h), fun M _ j h => (by cases h)⟩
/-- Some that are too far, beside them. -/
theorem Low.grow {l : List Ln} {L L' : Nat → Bool} (h : Low l L) (h' : ∀ j, L' j = true → L j = true ∨ (isB l j = true ∧ far (way l L j))) : Low l L' := by
  refine ⟨fun j hj => ?_, fun M hM j hj => ?_⟩
  · rcases h' j hj with h1 | h1
    · exact h.1 j h1
    · exact h1.1
  · rcases h' j hj with h1 | ⟨h1, h2⟩
    · exact h.2 M hM j h1
    · cases e : M j with
      | true => rfl
      | false => exact absurd (way_mono l (fun i => h.2 M hM i) h2 e) (hM j h1 e)

/-- The least lines that are closed. -/
def Lst (l : List Ln) (L : Nat → Bool) : Prop := Low l L ∧ Clo l L
theorem Lst.one {l : List Ln} {L M : Nat → Bool} (h : Lst l L) (k : Lst l M) : L = M := by
  funext j
  cases e : L j with
  | true => exact (h.1.2 M k.2 j e).symm
  | false =>
    cases e2 : M j with
    | false => rfl
    | true =>
      have := k.1.2 L h.2 j e2
      rw [e] at this
      cases this
/-- A long one is too far, were it short. -/
theorem Lst.need {l : List Ln} {L : Nat → Bool} (h : Lst l L) {j : Nat} (hj : L j = true) : far (way l (fun i => if i = j then false else L i) j) := by
  refine Classical.byContradiction fun hn => ?_
  have hs : ∀ i, (fun i => if i = j then false else L i) i = true → L i = true := fun i hi => by
    by_cases e : i = j
    · simp [e] at hi
    · simpa [e] using hi
  have hc : Clo l (fun i => if i = j then false else L i) := fun i hb hi hf => by
    by_cases e : i = j
    · subst e; exact hn hf
    · have hi' : L i = false := by simpa [e] using hi
      exact h.2 i hb hi' (way_mono l hs hf hi')
  have := h.1.2 _ hc j hj
  simp at this
/-- What is in all that are closed makes no more bytes than they. -/
theorem Low.size {l : List Ln} {L M : Nat → Bool} (h : Low l L) (hM : Clo l M) (p : Nat) : atP l L p ≤ atP l M p := by
  rw [atP_cn, atP_cn l M]
  have := cn_sub (Nat.zero_le p) (fun i _ _ => h.2 M hM i)
  simp only [cn, Nat.sub_zero] at this
  omega
/-- A stretch's lines that are counted, but for one. -/
theorem cn_but (L : Nat → Bool) (j p : Nat) : cn (fun i => if i = j then false else L i) p = cn L p - (if j < p ∧ L j = true then 1 else 0) ∧ (if j < p ∧ L j = true then 1 else 0) ≤ cn L p := by
  induction p with
  | zero => simp [cn]
  | succ p ih =>
    obtain ⟨h1, h2⟩ := ih
    show cn (fun i => if i = j then false else L i) p + (if (if p = j then false else L p) = true then 1 else 0) = cn L p + (if L p then 1 else 0) - _ ∧ _ ≤ cn L p + (if L p then 1 else 0)
    rw [h1]
    by_cases e : p = j
    · subst e
      have : ¬ p < p := by omega
      cases e2 : L p <;> simp
    · rw [if_neg e]
      by_cases c : j < p ∧ L j = true
      · have c' : j < p + 1 ∧ L j = true := ⟨by omega, c.2⟩
        rw [if_pos c] at h2
        rw [if_pos c, if_pos c']
        split <;> omega
      · have c' : ¬ (j < p + 1 ∧ L j = true) := fun h => c ⟨by omega, h.2⟩
        rw [if_neg c, if_neg c']
        split <;> omega
/-- Taken together: where a long branch's label stands, it could not come to it as a short one. -/
theorem Lst.long {l : List Ln} {L : Nat → Bool} (h : Lst l L) {j : Nat} (hj : L j = true) : way l L j < -4096 ∨ 4098 < way l L j := by
  have h1 := h.need hj
  unfold far way at *
  rw [atP_cn l L, atP_cn l L j]
  rw [atP_cn l _, atP_cn l _ j] at h1
  obtain ⟨a1, a2⟩ := cn_but L j (goal l j)
  obtain ⟨b1, b2⟩ := cn_but L j j
  have n1 : ¬ (j < j ∧ L j = true) := fun c => absurd c.1 (by omega)
  rw [if_neg n1] at b1 b2
  rcases Nat.lt_or_ge j (goal l j) with hd | hd
  · have n2 : j < goal l j ∧ L j = true := ⟨hd, hj⟩
    rw [if_pos n2] at a1 a2
    rw [a1, b1] at h1
    have h2 := cn_mono L (Nat.le_of_lt hd)
    have h4 := atP_step l (fun _ => false) (Nat.le_of_lt hd)
    have h5 : cn L (j + 1) = cn L j + 1 := by show cn L j + (if L j then 1 else 0) = _; rw [if_pos hj]
    have h6 : cn L (j + 1) ≤ cn L (goal l j) := cn_mono L hd
    rcases h1 with h1 | h1
    · omega
    · right; omega
  · have n2 : ¬ (j < goal l j ∧ L j = true) := fun c => absurd c.1 (by omega)
    rw [if_neg n2] at a1 a2
    rw [a1, b1] at h1
    have h2 := cn_mono L hd
    have h4 := atP_step l (fun _ => false) hd
    rcases h1 with h1 | h1
    · left; omega
    · omega

/-- Branches alone are counted, of those that are long. -/
theorem cn_br {l : List Ln} {L : Nat → Bool} (h : ∀ j, L j = true → isB l j = true) (p : Nat) : cn L p ≤ cn (isB l) p := by
  have := cn_sub (q := L) (r := isB l) (Nat.zero_le p) (fun i _ _ => h i)
  simp only [cn, Nat.sub_zero] at this
  omega
end Go.Proofs.Ytcdeckbobabdkaa
