/-
  Proved: how many moves Line tells, and when the spare place is used.
-/
import Derived.Test.YtoagebclnaggjaaSfew
import Derived.Test.YtoagebclnaggjaaLmoves
set_option linter.unusedVariables false
namespace Go.Proofs.Ytoagebclnaggjaa
open Go.RowKit Go.Maps

theorem chase_sub : ∀ (g : Nat) (p : List Mv) (x : Int), (chase g p x).1.Sublist p ∧ ∀ m ∈ (chase g p x).2, m ∈ p := by
  intro g
  induction g with
  | zero => intro p x; exact ⟨List.Sublist.refl _, fun m hm => by cases hm⟩
  | succ g ih =>
    intro p x
    cases hy : lk p x with
    | none => rw [chase_none hy]; exact ⟨List.Sublist.refl _, fun m hm => by cases hm⟩
    | some y =>
      by_cases hr : rd p x = 0
      · rw [chase_step hy hr]
        obtain ⟨h1, h2⟩ := ih (rem p x) y
        refine ⟨h1.trans List.filter_sublist, fun m hm => ?_⟩
        rcases List.mem_cons.1 hm with e | e
        · subst e; exact lk_mem hy
        · exact (mem_rem.1 (h2 m e)).1
      · rw [chase_read hr]; exact ⟨List.Sublist.refl _, fun m hm => by cases hm⟩

theorem ph1_sub : ∀ (k : List Mv) (s : List Mv × List Mv), (ph1 k s).1.Sublist s.1 ∧ ∀ m ∈ (ph1 k s).2, m ∈ s.2 ∨ m ∈ s.1 := by
  intro k
  induction k with
  | nil => intro s; exact ⟨List.Sublist.refl _, fun m hm => Or.inl hm⟩
  | cons a k ih =>
    intro s
    rw [ph1]
    obtain ⟨h1, h2⟩ := ih ((chase s.1.length s.1 a.1).1, s.2 ++ (chase s.1.length s.1 a.1).2)
    obtain ⟨h3, h4⟩ := chase_sub s.1.length s.1 a.1
    refine ⟨h1.trans h3, fun m hm => ?_⟩
    rcases h2 m hm with h5 | h5
    · rcases List.mem_append.1 h5 with h6 | h6
      · exact Or.inl h6
      · exact Or.inr (h4 m h6)
    · exact Or.inr (h3.subset h5)

theorem circ_len2 {spare first : Int} : ∀ (g : Nat) (p : List Mv) (x : Int) (r : List Mv × List Mv), circ spare first g p x = some r → r.2.length + r.1.length ≤ p.length := by
  intro g
  induction g with
  | zero => intro p x r h; cases h
  | succ g ih =>
    intro p x r h
    obtain ⟨k, y, hk, hy, h | ⟨_, s, hs, rfl⟩⟩ := circ_some h
    · rw [h.2]
      have := rem_len hy
      simp
      omega
    · obtain rfl : g = k := by omega
      have h1 := ih _ _ s hs
      have h2 := rem_len hy
      simp
      omega

/-- What a run of the second loop does to the numbers. -/
theorem ph2_few {l : List Mv} {spare : Int} (hl : ND l) : ∀ (k : List Mv) (s S : List Mv × List Mv), (∀ m ∈ s.1, m ∈ mvs l) → s.1.length ≤ l.length → ph2 spare k s = some S → S.2.length + S.1.length + cnt l S.1 ≤ s.2.length + s.1.length + cnt l s.1 ∧ (∀ m ∈ s.2, m ∈ S.2) ∧ ((∃ m ∈ S.2, m.1 = spare) → (∀ m ∈ s.2, m.1 ≠ spare) → 1 ≤ cnt l s.1) ∧ ∀ a ∈ tos k, lk s.1 a ≠ none → ∃ m ∈ S.2, m.1 = spare := by
  intro k
  induction k with
  | nil =>
    intro s S _ _ h
    cases h
    exact ⟨Nat.le_refl _, fun m hm => hm, fun ⟨m, h1, h2⟩ h3 => absurd h2 (h3 m h1), fun a ha => by cases ha⟩
  | cons a k ih =>
    intro s S hs hg h
    rw [ph2] at h
    cases hy : lk s.1 a.1 with
    | none =>
      rw [hy] at h
      obtain ⟨h1, h2, h3, h4⟩ := ih s S hs hg h
      refine ⟨h1, h2, h3, fun b hb hn => h4 b ?_ hn⟩
      unfold tos at *
      rw [List.map_cons, List.mem_cons] at hb
      rcases hb with e | e
      · rw [e] at hn; exact absurd hy hn
      · exact e
    | some y =>
      rw [hy] at h
      simp only at h
      cases hc : circ spare a.1 s.1.length s.1 a.1 with
      | none => rw [hc] at h; cases h
      | some r =>
        rw [hc] at h
        have c1 := circ_cnt hl hs hg hc
        have c2 := circ_len2 _ _ _ r hc
        obtain ⟨_, c3, _⟩ := circ_way hl _ _ _ r hs hc
        obtain ⟨h1, h2, h3, h4⟩ := ih (r.1, s.2 ++ (spare, a.1) :: r.2) S (fun m hm => hs m (c3.subset hm)) (Nat.le_trans c3.length_le hg) h
        refine ⟨?_, fun m hm => h2 m (by simp [hm]), fun _ _ => by omega, fun b hb hn => ⟨(spare, a.1), h2 _ (by simp), rfl⟩⟩
        simp at h1
        omega

theorem chase_keep {l : List Mv} (Z : Int → Prop) (hcl : ∀ z, Z z → ∃ u, Z u ∧ dst l u = z) : ∀ (g : Nat) (p : List Mv) (x : Int), (∀ z, Z z → lk p z = some (dst l z)) → ∀ z, Z z → lk (chase g p x).1 z = some (dst l z) := by
  intro g
  induction g with
  | zero => intro p x h; exact h
  | succ g ih =>
    intro p x h
    cases hy : lk p x with
    | none => rw [chase_none hy]; exact h
    | some y =>
      by_cases hr : rd p x = 0
      · rw [chase_step hy hr]
        refine ih (rem p x) y (fun z hz => ?_)
        rw [lk_rem]
        unfold upd
        rw [if_neg, h z hz]
        rintro rfl
        obtain ⟨u, hu1, hu2⟩ := hcl z hz
        have h1 := lk_mem (h u hu1)
        rw [hu2] at h1
        exact rd_zero hr _ h1 rfl
      · rw [chase_read hr]; exact h

theorem ph1_keep {l : List Mv} (Z : Int → Prop) (hcl : ∀ z, Z z → ∃ u, Z u ∧ dst l u = z) : ∀ (k : List Mv) (s : List Mv × List Mv), (∀ z, Z z → lk s.1 z = some (dst l z)) → ∀ z, Z z → lk (ph1 k s).1 z = some (dst l z) := by
  intro k
  induction k with
  | nil => intro s h; exact h
  | cons a k ih =>
    intro s h
    rw [ph1]
    exact ih _ (chase_keep Z hcl s.1.length s.1 a.1 h)

/-- All together. -/
theorem lineP_few {l out : List Mv} {spare : Int} (hok : OKf l spare) (h : lineP l spare = some out) : out.length ≤ (mvs l).length + cnt l (mvs l) ∧ ((∃ m ∈ out, m.1 = spare) ↔ 0 < cnt l (mvs l)) := by
  have hl := hok.1
  have hnm : ND (mvs l) := (Inv.start hok).nd
  unfold lineP at h
  cases e : ph2 spare l (ph1 l (mvs l, [])) with
  | none => rw [e] at h; cases h
  | some S =>
    rw [e] at h
    have h0 : S.2 = out := by simpa using h
    subst h0
    obtain ⟨s1, s2⟩ := ph1_sub l (mvs l, [])
    have s3 := ph1_len l (mvs l, [])
    have s4 : (mvs l).length ≤ l.length := List.length_filter_le _ _
    have s5 : cnt l (ph1 l (mvs l, [])).1 ≤ cnt l (mvs l) := s1.countP_le
    obtain ⟨f1, f2, f3, f4⟩ := ph2_few (spare := spare) hl l _ S (fun m hm => s1.subset hm) (Nat.le_trans s1.length_le s4) e
    have s3 : (ph1 l (mvs l, [])).2.length + (ph1 l (mvs l, [])).1.length ≤ 0 + (mvs l).length := s3
    refine ⟨by omega, fun hu => ?_, fun hu => ?_⟩
    · have := f3 hu (fun m hm => by
        rcases s2 m hm with h1 | h1
        · cases h1
        · exact (ok_to hok (fun m hm => hm) h1).1)
      omega
    · obtain ⟨m, hm, hc⟩ := List.countP_pos_iff.1 hu
      have hmd : dst l m.1 = m.2 := lk_dst hl (fun m hm => hm) (lk_of hnm (show (m.1, m.2) ∈ mvs l from hm))
      unfold cntd at hc
      rw [Bool.and_eq_true, beq_iff_eq] at hc
      obtain ⟨en, e1, e2⟩ := wk_from l m.1 _ _ _ hc.1
      have hkeep := ph1_keep (l := l) (fun z => ∃ i, i ≤ en ∧ z = itr l i m.2) (fun z hz => by
        obtain ⟨i, hi, rfl⟩ := hz
        cases i with
        | zero => exact ⟨m.1, ⟨en, Nat.le_refl _, e1.symm⟩, hmd⟩
        | succ i => exact ⟨itr l i m.2, ⟨i, by omega, rfl⟩, (itr_succ l i m.2).symm⟩) l (mvs l, []) (fun z hz => by
        obtain ⟨i, hi, rfl⟩ := hz
        show lk (mvs l) (itr l i m.2) = some (dst l (itr l i m.2))
        by_cases e : i = en
        · subst e
          rw [e1, hmd]
          exact lk_of hnm hm
        · have hne := e2 i (by omega)
          cases hk : lk l (itr l i m.2) with
          | none => exact absurd (show dst l (itr l i m.2) = itr l i m.2 by unfold dst; rw [hk]; rfl) hne
          | some u =>
            have hd : dst l (itr l i m.2) = u := by unfold dst; rw [hk]; rfl
            rw [hd] at hne ⊢
            refine lk_of hnm (List.mem_filter.2 ⟨lk_mem hk, ?_⟩)
            simp
            exact fun h => hne h.symm)
      have h5 := hkeep m.1 ⟨en, Nat.le_refl _, e1.symm⟩
      exact f4 m.1 (sub_to (fun m hm => hm) hm) (by rw [h5]; simp)
end Go.Proofs.Ytoagebclnaggjaa
