/-
  Proved: more fuel changes nothing of a run that ended; of one that did not, what was printed is a beginning.
-/
import Derived.Test.YtapgaclonilnbaaDoorLru2
namespace Go.Proofs.YtapgaclonilnbaaDoor
open Go.RowKit
set_option linter.unusedVariables false
set_option linter.unusedSimpArgs false

section
variable {l : List Lf} {m m' : Mc} {k : Int × Int}

theorem instr_pre {x : Lo} (e : instrS l m x = .inl m') : ∃ t, m'.out = m.out ++ t := by
  by_cases h8 : x.op = 8
  · unfold instrS at e
    simp [h8] at e
    subst e
    exact ⟨_, rfl⟩
  · refine ⟨[], ?_⟩
    rw [List.append_nil]
    unfold instrS at e
    by_cases h1 : x.op = 1
    · simp [h1] at e; subst e; rfl
    by_cases h2 : x.op = 2
    · simp [h2] at e; subst e; rfl
    by_cases h3 : x.op = 3
    · simp [h3] at e; subst e; rfl
    by_cases h4 : x.op = 4
    · simp [h4] at e; subst e; rfl
    by_cases h5 : x.op = 5
    · simp [h5] at e
      split at e
      · cases e
      · have e := inl_inj e; subst e; rfl
    by_cases h6 : x.op = 6
    · simp [h6] at e
      split at e
      · cases e
      · have e := inl_inj e; subst e; exact stL_out _ _ _
    by_cases h7 : x.op = 7
    · simp [h7] at e
      exact enter_out e
    by_cases h9 : x.op = 9
    · simp [h9] at e; subst e; rfl
    by_cases h10 : x.op = 10
    · simp [h10] at e
      split at e
      · have e := inl_inj e; subst e; rfl
      · cases e
    by_cases h11 : x.op = 11
    · simp [h11] at e
      split at e
      · have e := inl_inj e; subst e; rfl
      · cases e
    simp [h1, h2, h3, h4, h5, h6, h7, h8, h9, h10, h11] at e
    subst e
    rfl

theorem step_pre (e : stepS l m = .inl m') : ∃ t, m'.out = m.out ++ t := by
  unfold stepS at e
  split at e
  · exact ⟨[], by rw [term_out e]; simp⟩
  · have := instr_pre e
    exact this

theorem inr_inj {a b : Int × Int} (e : (Sum.inr a : Sx) = .inr b) : a = b := by injection e

theorem enter_kind {k : Nat} {vs : List Int} {q : Int × Int} (e : enterS l m k vs = .inr q) : q.1 ≠ 0 := by
  unfold enterS at e
  split at e
  · have e := inr_inj e; subst e; decide
  · cases e

theorem instr_kind {x : Lo} (e : instrS l m x = .inr k) : k.1 ≠ 0 := by
  unfold instrS at e
  by_cases h1 : x.op = 1
  · simp [h1] at e
  by_cases h2 : x.op = 2
  · simp [h2] at e
  by_cases h3 : x.op = 3
  · simp [h3] at e
  by_cases h4 : x.op = 4
  · simp [h4] at e
  by_cases h5 : x.op = 5
  · simp [h5] at e
    split at e
    · unfold trapS at e; have e := inr_inj e; subst e; decide
    · cases e
  by_cases h6 : x.op = 6
  · simp [h6] at e
    split at e
    · unfold trapS at e; have e := inr_inj e; subst e; decide
    · cases e
  by_cases h7 : x.op = 7
  · simp [h7] at e
    exact enter_kind e
  by_cases h8 : x.op = 8
  · simp [h8] at e
  by_cases h9 : x.op = 9
  · simp [h9] at e
  by_cases h10 : x.op = 10
  · simp [h10] at e
    split at e
    · cases e
    · have e := inr_inj e; subst e; decide
  by_cases h11 : x.op = 11
  · simp [h11] at e
    split at e
    · cases e
    · unfold trapS at e; have e := inr_inj e; subst e; decide
  simp [h1, h2, h3, h4, h5, h6, h7, h8, h9, h10, h11] at e

theorem term_kind {t : Le} (e : termS l m t = .inr k) : k.1 ≠ 0 := by
  unfold termS at e
  by_cases h1 : t.k = 1
  · simp [h1] at e
  by_cases h2 : t.k = 2
  · simp [h2] at e
  by_cases h3 : t.k = 3
  · simp [h3] at e
    split at e
    · have e := inr_inj e; subst e; decide
    · cases e
  simp [h1, h2, h3] at e
  subst e
  decide

theorem step_kind (e : stepS l m = .inr k) : k.1 ≠ 0 := by
  unfold stepS at e
  split at e
  · exact term_kind e
  · exact instr_kind e

theorem goS_pre : ∀ (n : Nat) (m : Mc), ∃ t, (goS l n m).2.1 = m.out ++ t
  | 0, m => ⟨[], by rw [goS_zero]; exact (List.append_nil _).symm⟩
  | n + 1, m => by
    cases hr : stepS l m with
    | inl m' =>
      rw [goS_inl hr]
      obtain ⟨t, ht⟩ := goS_pre n m'
      obtain ⟨u, hu⟩ := step_pre hr
      exact ⟨u ++ t, by rw [← List.append_assoc, ← hu]; exact ht⟩
    | inr k =>
      rw [goS_inr hr]
      exact ⟨[], (List.append_nil _).symm⟩

theorem goS_le : ∀ (n : Nat) (m : Mc), (goS l n m).2.2 ≤ n
  | 0, m => by rw [goS_zero]; exact Nat.le_refl _
  | n + 1, m => by
    cases hr : stepS l m with
    | inl m' =>
      rw [goS_inl hr]
      have := goS_le n m'
      show _ + 1 ≤ n + 1
      omega
    | inr k =>
      rw [goS_inr hr]
      show 1 ≤ n + 1
      omega

theorem goS_more (b : Nat) : ∀ (n : Nat) (m : Mc), (goS l n m).1.1 ≠ 0 → goS l (n + b) m = goS l n m
  | 0, m, h => by rw [goS_zero] at h; exact absurd rfl h
  | n + 1, m, h => by
    rw [show n + 1 + b = (n + b) + 1 by omega]
    cases hr : stepS l m with
    | inl m' =>
      rw [goS_inl hr] at h ⊢
      rw [goS_inl hr, goS_more b n m' h]
    | inr k => rw [goS_inr hr, goS_inr hr]

theorem goS_less (b : Nat) : ∀ (n : Nat) (m : Mc), ∃ t, (goS l (n + b) m).2.1 = (goS l n m).2.1 ++ t
  | 0, m => by
    rw [goS_zero]
    exact goS_pre _ m
  | n + 1, m => by
    rw [show n + 1 + b = (n + b) + 1 by omega]
    cases hr : stepS l m with
    | inl m' =>
      rw [goS_inl hr, goS_inl hr]
      exact goS_less b n m'
    | inr k => rw [goS_inr hr, goS_inr hr]; exact ⟨[], (List.append_nil _).symm⟩

theorem runE_le (l : List Lf) (ip : List Int) (n : Nat) : (runE l ip n).2.2 ≤ n := by
  unfold runE runS
  split
  · split
    · exact Nat.zero_le _
    · split
      · exact Nat.zero_le _
      · exact goS_le _ _
  · exact Nat.zero_le _

theorem goS_out : ∀ (n : Nat) (m : Mc), (goS l n m).2.1.length ≤ m.out.length + n
  | 0, m => by rw [goS_zero]; exact Nat.le_refl _
  | n + 1, m => by
    cases hr : stepS l m with
    | inl m' =>
      rw [goS_inl hr]
      have := goS_out n m'
      have := step_out hr
      show (goS l n m').2.1.length ≤ _
      omega
    | inr k =>
      rw [goS_inr hr]
      show m.out.length ≤ _
      omega

theorem runE_out (l : List Lf) (ip : List Int) (n : Nat) : (runE l ip n).2.1.length ≤ n := by
  unfold runE runS
  split
  · split
    · exact Nat.zero_le _
    · split
      · exact Nat.zero_le _
      · refine Nat.le_trans (goS_out n _) ?_
        simp [beginM]
  · exact Nat.zero_le _

theorem runE_more (l : List Lf) (ip : List Int) (n b : Nat) (h : (runE l ip n).1.1 ≠ 0) : runE l ip (n + b) = runE l ip n := by
  unfold runE runS at *
  split
  · rename_i hc
    simp only [hc, if_true] at h
    split
    · rfl
    · rename_i k hk
      simp only [hk] at h
      split
      · rfl
      · rename_i hq
        simp only [hq, if_false] at h
        exact goS_more b n _ h
  · rfl

theorem runE_less (l : List Lf) (ip : List Int) (n b : Nat) : ∃ t, (runE l ip (n + b)).2.1 = (runE l ip n).2.1 ++ t := by
  unfold runE runS
  split
  · split
    · exact ⟨[], rfl⟩
    · split
      · exact ⟨[], rfl⟩
      · exact goS_less b n _
  · exact ⟨[], rfl⟩
end
end Go.Proofs.YtapgaclonilnbaaDoor
