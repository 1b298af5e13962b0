/-
  Proved: branches told in a row, and how many of those are long: the same as by lines. Plain mathematics.
-/
import Derived.Test.YtcdeckbobabdkaaAmath
namespace Go.Proofs.Ytcdeckbobabdkaa
open Go.RowKit
set_option linter.unusedVariables false

/-- The branches' lines. -/
def brs (l : List Ln) (n : Nat) : List Nat := (List.range n).filter (isB l)
theorem brs_len (l : List Ln) (n : Nat) : (brs l n).length = cn (isB l) n := by
  induction n with
  | zero => rfl
  | succ p ih =>
    unfold brs at *
    rw [List.range_succ, List.filter_append, List.length_append, ih]
    show cn (isB l) p + _ = cn (isB l) p + _
    congr 1
    cases h : isB l p <;> simp [h]
theorem brs_succ (l : List Ln) (n : Nat) : brs l (n + 1) = brs l n ++ if isB l n then [n] else [] := by
  unfold brs
  rw [List.range_succ, List.filter_append]
  congr 1
  cases h : isB l n <;> simp [h]
theorem brs_take (l : List Ln) {p n : Nat} (h : p ≤ n) : (brs l n).take (cn (isB l) p) = brs l p := by
  induction n with
  | zero => have : p = 0 := by omega
            subst this; rfl
  | succ n ih =>
    rcases Nat.lt_or_ge n p with h1 | h1
    · have : p = n + 1 := by omega
      subst this
      rw [← brs_len, List.take_length]
    · have h2 := ih h1
      rw [brs_succ, List.take_append_of_le_length (by rw [brs_len]; exact cn_mono _ h1), h2]
theorem brs_in {l : List Ln} {n k j : Nat} (h : (brs l n)[k]? = some j) : j < n ∧ isB l j = true := by
  have := List.mem_of_getElem? h
  unfold brs at this
  rw [List.mem_filter, List.mem_range] at this
  exact this
theorem brs_at {l : List Ln} {n j : Nat} (hj : j < n) (hb : isB l j = true) : (brs l n)[cn (isB l) j]? = some j := by
  have h1 := brs_take l (p := j + 1) (n := n) hj
  have h2 : cn (isB l) (j + 1) = cn (isB l) j + 1 := by show _ + (if _ then _ else _) = _; rw [if_pos hb]
  have h3 : (brs l (j + 1))[cn (isB l) j]? = some j := by
    rw [brs_succ, hb, ← brs_len]
    simp
  rw [← h1, List.getElem?_take_of_lt (by omega)] at h3
  exact h3
theorem brs_idx {l : List Ln} {n k j : Nat} (h : (brs l n)[k]? = some j) : cn (isB l) j = k := by
  obtain ⟨h1, h2⟩ := brs_in h
  have h3 := brs_at h1 h2
  have hn : (brs l n).Nodup := by unfold brs; exact List.Pairwise.filter _ List.nodup_range
  obtain ⟨a1, a2⟩ := List.getElem?_eq_some_iff.1 h
  obtain ⟨b1, b2⟩ := List.getElem?_eq_some_iff.1 h3
  exact (List.getElem_inj hn).1 (b2.trans a2.symm)

/-- How many of the first k branches are long. -/
def gc (l : List Ln) (n : Nat) (L : Nat → Bool) (k : Nat) : Nat := ((brs l n).take k).countP L
def gr (l : List Ln) (n : Nat) (L : Nat → Bool) (k : Nat) : Int := 4 * (gc l n L k : Int)
theorem gc_step (l : List Ln) (n : Nat) (L : Nat → Bool) {k j : Nat} (h : (brs l n)[k]? = some j) : gc l n L (k + 1) = gc l n L k + if L j then 1 else 0 := by
  unfold gc
  rw [List.take_add_one, h, List.countP_append]
  cases e : L j <;> simp [e]
theorem brs_count {l : List Ln} {L : Nat → Bool} (h : ∀ j, L j = true → isB l j = true) (p : Nat) : (brs l p).countP L = cn L p := by
  induction p with
  | zero => rfl
  | succ p ih =>
    rw [brs_succ, List.countP_append, ih]
    show _ = cn L p + _
    congr 1
    cases e : isB l p with
    | true => cases e2 : L p <;> simp [e2]
    | false =>
      have : L p = false := by
        cases e2 : L p with
        | false => rfl
        | true => rw [h p e2] at e; cases e
      simp [this]
/-- By lines. -/
theorem gc_cn {l : List Ln} {L : Nat → Bool} (h : ∀ j, L j = true → isB l j = true) {p n : Nat} (hp : p ≤ n) : gc l n L (cn (isB l) p) = cn L p := by
  unfold gc
  rw [brs_take l hp, brs_count h]
/-- How far it is, by the row. -/
theorem way_gr {l : List Ln} {L : Nat → Bool} (h : ∀ j, L j = true → isB l j = true) {n k j : Nat} (hk : (brs l n)[k]? = some j) (hg : goal l j ≤ n) :
    way l (fun _ => false) j + gr l n L (cn (isB l) (goal l j)) - gr l n L k = way l L j := by
  have h1 := brs_idx hk
  have h2 := (brs_in hk).1
  subst h1
  unfold gr
  rw [gc_cn h hg, gc_cn h (Nat.le_of_lt h2)]
  unfold way
  rw [atP_cn l L, atP_cn l L j]
  omega
theorem gc_le (l : List Ln) (n : Nat) (L : Nat → Bool) (k : Nat) : gc l n L k ≤ n := by
  unfold gc
  have h1 := List.countP_le_length (p := L) (l := (brs l n).take k)
  have h2 : ((brs l n).take k).length ≤ (brs l n).length := by rw [List.length_take]; omega
  rw [brs_len] at h2
  have h3 := cn_le (isB l) n
  omega
theorem gc_ext (l : List Ln) (n : Nat) {L M : Nat → Bool} (h : ∀ j, j < n → L j = M j) (k : Nat) : gc l n L k = gc l n M k := by
  unfold gc
  refine List.countP_congr fun j hj => ?_
  have := (List.take_subset _ _) hj
  unfold brs at this
  rw [List.mem_filter, List.mem_range] at this
  rw [h j this.1]
end Go.Proofs.Ytcdeckbobabdkaa
