/-
  Proved: a row of numbers without one of them, and a block that is let go, twice.
-/
import Derived.Test.YtffcfohbnbldhaaDoorThree
namespace Go.Proofs.YtffcfohbnbldhaaDoor
open Go.RowKit

theorem rows_parti {w : World} {l : List Int} {B : Nat} (h : RowsIn w 1 iL l (some ⟨B, 0, none⟩)) (n m : Nat) : ∀ j u, (((l.drop n).take m).flatMap iL)[j]? = some u → w.cell? ((⟨B, n, none⟩ : Addr).add j) = some u := by
  by_cases e : ((l.drop n).take m).length = 0
  · intro j u hj
    rw [List.length_eq_zero_iff.1 e] at hj
    simp at hj
  · have h1 : RowsIn w 1 iL ((l.drop n).take m) (some ⟨B, n, none⟩) := by
      intro i hi
      have hi2 : n + i < l.length := by simp at hi; omega
      obtain ⟨b, o, e1, h2⟩ := h (n + i) hi2
      injection e1 with e1
      injection e1 with e1 e2
      subst e1 e2
      refine ⟨B, n, rfl, ?_⟩
      rw [show ((l.drop n).take m)[i] = l[n + i] by simp, show n + i * 1 = 0 + (n + i) * 1 by omega]
      exact h2
    obtain ⟨b, o, e1, h2⟩ := rows_all iL_len h1 (by omega)
    injection e1 with e1
    rw [e1]
    exact h2

theorem cut_take {base : Nat} {l : List Int} {B C : Nat} (W : World) (h : OwnB 3 1 iL base l (.slice (some ⟨B, 0, none⟩) l.length C) W) (t : Nat) : ∀ j u, ((l.take t).flatMap iL)[j]? = some u → (W.drew.alloc (.cells #[] 3)).cell? ((⟨B, 0, none⟩ : Addr).add j) = some u := by
  have h1 : OwnB 3 1 iL base l (.slice (some ⟨B, 0, none⟩) l.length C) (W.drew.alloc (.cells #[] 3)) := (h.below (below_drew _)).below (below_alloc _ _)
  have := rows_parti (OwnB.rows iL_len h1) 0 t
  simpa using this

theorem cut_one {base : Nat} {l : List Int} {B C : Nat} (W : World) (h : OwnB 3 1 iL base l (.slice (some ⟨B, 0, none⟩) l.length C) W) (t : Nat) (q : Addr) (hq : (if C = t + 1 then some (⟨B, 0, none⟩ : Addr) else some ⟨B, t + 1, none⟩) = some q) (hC : l.length ≤ C) (v5 : Value) (w5 : World) (h5 : OwnB 3 1 iL W.heap.size ([] ++ l.take t) v5 w5) (k5 : Below W.heap.size (W.drew.alloc (.cells #[] 3)) w5) :
    Below W.heap.size W w5 ∧ OwnB 3 1 iL W.heap.size (l.take t) v5 w5 ∧ (∀ j u, ((l.drop (t + 1)).flatMap iL)[j]? = some u → w5.cell? (q.add j) = some u) := by
  have hb : Below W.heap.size W w5 := (below_next (below_drew W) (below_alloc _ _)).trans k5
  have hR := h.below hb
  refine ⟨hb, by simpa using h5, ?_⟩
  by_cases e : C = t + 1
  · intro j u hj
    rw [List.drop_of_length_le (by omega)] at hj
    simp at hj
  · rw [if_neg e] at hq
    cases hq
    have := rows_parti (OwnB.rows iL_len hR) (t + 1) (l.length - (t + 1))
    rw [List.take_of_length_le (by simp)] at this
    exact this

theorem nodup_inj {l : List (Nat × Nat)} (h : l.Nodup) {i j : Nat} (hi : i < l.length) (hj : j < l.length) (e : l[i] = l[j]) : i = j := by
  have key := List.pairwise_iff_getElem.1 h
  rcases Nat.lt_trichotomy i j with h1 | h1 | h1
  · exact absurd e (key i j hi hj h1)
  · exact h1
  · exact absurd e.symm (key j i hj hi h1)

theorem fx_at {us : Nat → Nat → Bool} {bs : List (Nat × Nat)} (h : Rel us bs) (t : Nat) (ht : t < bs.length) : Proofs.YtffcfohbnbldhaaDoor.fx bs (adr bs[t].1 bs[t].2) = some t := by
  have hm := List.getElem_mem ht
  cases hf : Proofs.YtffcfohbnbldhaaDoor.fx bs (adr bs[t].1 bs[t].2) with
  | none => exact absurd rfl ((fx_none bs _).1 hf _ hm)
  | some i =>
    obtain ⟨hi, hx⟩ := fx_some bs _ i hf
    have ho := h.ok _ (List.getElem_mem hi)
    have hp := h.ok _ hm
    obtain ⟨e1, e2⟩ := adr_inj _ _ _ _ ho.1 hp.1 ho.2 hp.2 hx
    have e3 : bs[i] = bs[t] := Prod.ext e1 e2
    congr 1
    exact nodup_inj h.nd hi ht e3

theorem free_once {us : Nat → Nat → Bool} (c k : Nat) (hc : c < 4) (hk : k < bl c) (hu : us c k = true) : frA us (adr c k) (atOf (adr c k)) = (0, upd us c k false) := by
  have ha := at_adr0 c k hc hk
  rw [ha.1]
  show frR us c (kOf (adr c k) c) (rOf (adr c k) c) = _
  rw [ha.2.1, ha.2.2]
  unfold frR
  rw [if_pos ⟨rfl, hu⟩]

theorem free_twice {us : Nat → Nat → Bool} (c k : Nat) (hc : c < 4) (hk : k < bl c) (hu : us c k = false) : frA us (adr c k) (atOf (adr c k)) = (13, us) := by
  have ha := at_adr0 c k hc hk
  rw [ha.1]
  show frR us c (kOf (adr c k) c) (rOf (adr c k) c) = _
  rw [ha.2.1, ha.2.2]
  unfold frR
  rw [if_neg (fun h => by rw [hu] at h; cases h.2)]

theorem within_not {us : Nat → Nat → Bool} (c k : Nat) (n : Int) (hc : c < 4) (hk : k < bl c) (hu : us c k = false) : (if (adr c k).tmod 4 ≠ 0 ∨ n < 1 then false else wiA us (adr c k) n (atOf (adr c k))) = false := by
  have ha := at_adr0 c k hc hk
  split
  · rfl
  · rw [ha.1]
    show wiR us n c (kOf (adr c k) c) (rOf (adr c k) c) = _
    rw [ha.2.1, ha.2.2]
    simp [wiR, hu]

theorem adr_tmod (c k : Nat) (hc : c < 4) : (adr c k).tmod 4 = 0 := by
  have h1 := adr_four c k hc
  have h2 : 0 ≤ adr c k := by unfold adr; have := Int.mul_nonneg (show (0 : Int) ≤ (k : Int) by omega) (show (0 : Int) ≤ 4 * (sz c : Int) by omega); omega
  rw [Int.tmod_eq_emod_of_nonneg h2]
  exact h1

theorem within_all {us : Nat → Nat → Bool} (c k : Nat) (hc : c < 4) (hk : k < bl c) (hu : us c k = true) : (if (adr c k).tmod 4 ≠ 0 ∨ (sz c : Int) < 1 then false else wiA us (adr c k) (sz c : Int) (atOf (adr c k))) = true := by
  have ha := at_adr0 c k hc hk
  have hz := span_le c
  rw [if_neg (by rw [adr_tmod c k hc]; omega), ha.1]
  show wiR us _ c (kOf (adr c k) c) (rOf (adr c k) c) = _
  rw [ha.2.1, ha.2.2]
  simp [wiR, hu]

/-- A block let go, of those that are in use. -/
theorem Rel.cut {us : Nat → Nat → Bool} {bs : List (Nat × Nat)} (h : Rel us bs) (t : Nat) (ht : t < bs.length) : us bs[t].1 bs[t].2 = true ∧ Rel (upd us bs[t].1 bs[t].2 false) (bs.take t ++ bs.drop (t + 1)) := by
  have hp := h.ok _ (List.getElem_mem ht)
  have hu : us bs[t].1 bs[t].2 = true := (h.mem _ _ hp.1 hp.2).2 (List.getElem_mem ht)
  refine ⟨hu, ?_⟩
  have := (h.free (adr bs[t].1 bs[t].2)).2
  rw [fx_at h t ht, free_once _ _ hp.1 hp.2 hu] at this
  exact this

end Go.Proofs.YtffcfohbnbldhaaDoor
