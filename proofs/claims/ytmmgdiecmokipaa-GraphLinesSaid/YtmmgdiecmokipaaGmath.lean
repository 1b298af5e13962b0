/-
  Proved: of the blocks that stand on every way to a block one is the nearest; the reference's Doms tells it.
-/
import Derived.Test.YtmmgdiecmokipaaGdoms
namespace Go.Proofs.Ytmmgdiecmokipaa
open Go.RowKit

/-- d stands on every way to i. -/
def Dom (g : Nat → List Nat) (d i : Nat) : Prop := d ≠ i ∧ Rch g (-1) d ∧ ¬ Rch g (d : Int) i

theorem Rch.any {g : Nat → List Nat} {e : Int} {x : Nat} (h : Rch g e x) : Rch g (-1) x := ⟨by decide, fun S h0 hs => h.2 S h0 fun a b ha hb _ => hs a b ha hb (by omega)⟩

theorem dom_zero {g : Nat → List Nat} {d : Nat} (h : Dom g d 0) : False := by
  have h1 : (d : Int) ≠ 0 := by have := h.1; omega
  exact h.2.2 (Rch.zero h1)

/-- Of two that stand on every way to one, one stands on every way to the other. -/
theorem dom_chain {g : Nat → List Nat} {d e i : Nat} (hi : Rch g (-1) i) (hd : Dom g d i) (he : Dom g e i) (hn : e ≠ d) : Dom g e d ∨ Dom g d e := by
  by_cases h1 : Rch g (e : Int) d
  · by_cases h2 : Rch g (d : Int) e
    · exfalso
      have key : Rch g (e : Int) i ∨ Rch g (d : Int) i := hi.2 (fun x => Rch g (e : Int) x ∨ Rch g (d : Int) x) (Or.inl (Rch.zero h1.1)) fun a b ha hb _ => by
        rcases ha with ha | ha
        · by_cases e1 : b = e
          · subst e1; exact Or.inr h2
          · exact Or.inl (ha.step hb (by omega))
        · by_cases e1 : b = d
          · subst e1; exact Or.inl h1
          · exact Or.inr (ha.step hb (by omega))
      rcases key with h | h
      · exact he.2.2 h
      · exact hd.2.2 h
    · exact Or.inr ⟨fun h => hn h.symm, hd.2.1, h2⟩
  · exact Or.inl ⟨hn, he.2.1, h1⟩

theorem dom_anti {g : Nat → List Nat} {d e : Nat} (h1 : Dom g e d) (h2 : Dom g d e) : False := by
  have he : (e : Int) ≠ 0 := fun h => by have h0 : e = 0 := by omega
                                         subst h0; exact dom_zero h2
  have hd : (d : Int) ≠ 0 := fun h => by have h0 : d = 0 := by omega
                                         subst h0; exact dom_zero h1
  have key : Rch g (e : Int) d ∧ Rch g (d : Int) d := h2.2.1.2 (fun x => Rch g (e : Int) x ∧ Rch g (d : Int) x) ⟨Rch.zero he, Rch.zero hd⟩ fun a b ha hb _ => by
    by_cases e1 : b = d
    · subst e1
      exact absurd (ha.1.step hb (by have := h1.1; omega)) h1.2.2
    · by_cases e2 : b = e
      · subst e2
        exact absurd (ha.2.step hb (by have := h2.1; omega)) h2.2.2
      · exact ⟨ha.1.step hb (by omega), ha.2.step hb (by omega)⟩
  exact h1.2.2 key.1

theorem dom_trans {g : Nat → List Nat} {d e i : Nat} (h1 : Dom g e d) (h2 : Dom g d i) : Dom g e i := by
  refine ⟨fun h => by subst h; exact dom_anti h1 h2, h1.2.1, fun h => ?_⟩
  have hd : (d : Int) ≠ 0 := fun h => by have h0 : d = 0 := by omega
                                         subst h0; exact dom_zero h1
  have key : Rch g (e : Int) i ∧ Rch g (d : Int) i := h.2 (fun x => Rch g (e : Int) x ∧ Rch g (d : Int) x) ⟨Rch.zero h.1, Rch.zero hd⟩ fun a b ha hb hw => by
    have h3 := ha.1.step hb hw
    by_cases e1 : b = d
    · subst e1
      exact absurd h3 h1.2.2
    · exact ⟨h3, ha.2.step hb (by omega)⟩
  exact h2.2.2 key.2

/-- The nearest one. -/
def Near (g : Nat → List Nat) (i d : Nat) : Prop := Dom g d i ∧ ∀ e, Dom g e i → e ≠ d → Dom g e d

theorem near_one {g : Nat → List Nat} {i d e : Nat} (h1 : Near g i d) (h2 : Near g i e) : d = e := by
  by_cases h : d = e
  · exact h
  · exact (dom_anti (h2.2 d h1.1 h) (h1.2 e h2.1 (fun x => h x.symm))).elim

theorem isD_iff (n : Nat) (to : List (List Int)) (i d : Nat) : isD n to i d ↔ Dom (wy n to) d i := by
  unfold isD Dom
  rw [rb_iff]
  refine and_congr Iff.rfl (and_congr Iff.rfl ?_)
  rw [← rb_iff]
  cases rb n to (d : Int) i <;> simp

theorem cnT_eq (n : Nat) (to : List (List Int)) (d e : Nat) : cnT n to d (e + 1) = cnT n to d e + @ite _ (Dom (wy n to) e d) (Classical.propDecidable _) 1 0 := by
  show cnT n to d e + (if e ≠ d ∧ rb n to (-1) e = true ∧ rb n to (e : Int) d = false then 1 else 0) = _
  congr 1
  by_cases h : Dom (wy n to) e d
  · rw [if_pos h]
    exact if_pos ((isD_iff n to d e).2 h)
  · rw [if_neg h]
    exact if_neg (fun h2 => h ((isD_iff n to d e).1 h2))

theorem cnT_mono {n : Nat} {to : List (List Int)} {e d : Nat} (h : Dom (wy n to) e d) (k : Nat) : cnT n to e k + @ite _ (e < k) (Classical.propDecidable _) 1 0 ≤ cnT n to d k := by
  induction k with
  | zero => simp [cnT]
  | succ k ih =>
    rw [cnT_eq, cnT_eq]
    by_cases h1 : Dom (wy n to) k e
    · have h2 := dom_trans h1 h
      rw [if_pos h1, if_pos h2]
      have h3 : k ≠ e := h1.1
      by_cases h4 : e < k
      · rw [if_pos h4] at ih; rw [if_pos (show e < k + 1 by omega)]; omega
      · rw [if_neg h4] at ih; rw [if_neg (show ¬ e < k + 1 by omega)]; omega
    · rw [if_neg h1]
      by_cases h3 : k = e
      · subst h3
        rw [if_neg (Nat.lt_irrefl _)] at ih
        rw [if_pos h, if_pos (Nat.lt_succ_self _)]
        omega
      · by_cases h4 : e < k
        · rw [if_pos h4] at ih; rw [if_pos (show e < k + 1 by omega)]; omega
        · rw [if_neg h4] at ih; rw [if_neg (show ¬ e < k + 1 by omega)]; omega

theorem dmT_best (n : Nat) (to : List (List Int)) (i k : Nat) : (dmT n to i k = (-1, -1) ∧ ∀ d, d < k → ¬ Dom (wy n to) d i) ∨ ∃ d : Nat, d < k ∧ Dom (wy n to) d i ∧ dmT n to i k = ((d : Int), (cnT n to d n : Int)) ∧ ∀ e, e < k → Dom (wy n to) e i → cnT n to e n ≤ cnT n to d n := by
  induction k with
  | zero => exact Or.inl ⟨rfl, fun d h => by omega⟩
  | succ k ih =>
    by_cases h : isD n to i k ∧ (dmT n to i k).2 < (cnT n to k n : Int)
    · right
      refine ⟨k, Nat.lt_succ_self _, (isD_iff _ _ _ _).1 h.1, dmT_yes n to i k h.1 h.2, fun e he hd => ?_⟩
      rcases ih with ⟨h1, h2⟩ | ⟨d, h1, h2, h3, h4⟩
      · by_cases e1 : e = k
        · subst e1; exact Nat.le_refl _
        · exact absurd hd (h2 e (by omega))
      · have h5 := h.2
        rw [h3] at h5
        simp only at h5
        by_cases e1 : e = k
        · subst e1; exact Nat.le_refl _
        · have := h4 e (by omega) hd
          omega
    · rw [dmT_no n to i k h]
      rcases ih with ⟨h1, h2⟩ | ⟨d, h1, h2, h3, h4⟩
      · left
        refine ⟨h1, fun d hd hD => ?_⟩
        by_cases e1 : d = k
        · subst e1
          refine h ⟨(isD_iff _ _ _ _).2 hD, ?_⟩
          rw [h1]
          simp only
          omega
        · exact h2 d (by omega) hD
      · right
        refine ⟨d, by omega, h2, h3, fun e he hd => ?_⟩
        by_cases e1 : e = k
        · subst e1
          rcases Nat.lt_or_ge (cnT n to d n) (cnT n to e n) with h5 | h5
          · exfalso
            refine h ⟨(isD_iff _ _ _ _).2 hd, ?_⟩
            rw [h3]
            simp only
            omega
          · exact h5
        · exact h4 e (by omega) hd

/-- The reference's Doms tells the nearest one. -/
theorem dm_near (n : Nat) (to : List (List Int)) (i : Nat) (h0 : 0 < i) (hi : i < n) (hr : Rch (wy n to) (-1) i) : ∃ d : Nat, d < n ∧ dm n to i = (d : Int) ∧ Near (wy n to) i d := by
  have e1 : dm n to i = (dmT n to i n).1 := by rw [dm, if_pos ⟨h0, (rb_iff _ _ _ _).2 hr⟩]
  have hz : Dom (wy n to) 0 i := ⟨by omega, Rch.zero (by decide), fun h => h.1 rfl⟩
  rcases dmT_best n to i n with ⟨_, h2⟩ | ⟨d, h1, h2, h3, h4⟩
  · exact absurd hz (h2 0 (by omega))
  · refine ⟨d, h1, by rw [e1, h3], h2, fun e he hn => ?_⟩
    rcases dom_chain hr h2 he hn with h | h
    · exact h
    · exfalso
      have hlt : e < n := by
        have h5 : e < n ∨ e = 0 := he.2.1.2 (fun x => x < n ∨ x = 0) (Or.inr rfl) fun a b _ hb _ => Or.inl (wy_lt n to a b hb)
        omega
      have h6 := cnT_mono h n
      rw [if_pos h1] at h6
      have := h4 e hlt he
      omega

theorem dm_none (n : Nat) (to : List (List Int)) (i : Nat) (h : ¬ (0 < i ∧ Rch (wy n to) (-1) i)) : dm n to i = -1 := by
  rw [dm, if_neg (fun h2 => h ⟨h2.1, (rb_iff _ _ _ _).1 h2.2⟩)]
end Go.Proofs.Ytmmgdiecmokipaa
