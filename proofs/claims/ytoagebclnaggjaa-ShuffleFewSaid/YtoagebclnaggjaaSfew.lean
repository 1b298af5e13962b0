/-
  Proved: there are no more moves than those that move something, and one for each circle; the spare place is used just where there is a circle: of any moves that may be.
-/
import Derived.Test.YtoagebclnaggjaaSopen
set_option linter.unusedVariables false
namespace Go.Proofs.Ytoagebclnaggjaa
open Go.RowKit Go.Maps

/-- The law's walk, from a place on, for x: at most f steps. -/
def wk (l : List Mv) (x : Int) : Nat → Int → Bool → Int × Bool
  | 0, a, b => (a, b)
  | f + 1, a, b => if a = x then (a, b) else if dst l a = a then (a, b && decide (a > x)) else wk l x f (dst l a) (b && decide (a > x))

/-- A move is the least one of its circle. -/
def cntd (l : List Mv) (m : Mv) : Bool := (wk l m.1 l.length m.2 true).1 == m.1 && (wk l m.1 l.length m.2 true).2

def cnt (l p : List Mv) : Nat := p.countP (cntd l)

/-- So many steps on. -/
def itr (l : List Mv) : Nat → Int → Int
  | 0, a => a
  | n + 1, a => itr l n (dst l a)

theorem itr_add (l : List Mv) (m n : Nat) (a : Int) : itr l (m + n) a = itr l n (itr l m a) := by
  induction m generalizing a with
  | zero => rw [Nat.zero_add]; rfl
  | succ m ih => rw [show m + 1 + n = (m + n) + 1 by omega]; exact ih _

theorem itr_succ (l : List Mv) (n : Nat) (a : Int) : itr l (n + 1) a = dst l (itr l n a) := itr_add l n 1 a

/-- The walk comes to x, if its places on the way are above x and go on. -/
theorem wk_to (l : List Mv) (x : Int) : ∀ (e f : Nat) (a : Int) (b : Bool), e ≤ f → itr l e a = x → (∀ i, i < e → itr l i a > x ∧ dst l (itr l i a) ≠ itr l i a) → wk l x f a b = (x, b) := by
  intro e
  induction e with
  | zero =>
    intro f a b _ h _
    have h : a = x := h
    subst h
    cases f with
    | zero => rfl
    | succ f => rw [wk, if_pos rfl]
  | succ e ih =>
    intro f a b hf h hi
    obtain ⟨f, rfl⟩ : ∃ g, f = g + 1 := ⟨f - 1, by omega⟩
    have h0 := hi 0 (by omega)
    have h0 : a > x ∧ dst l a ≠ a := h0
    rw [wk, if_neg (by omega), if_neg h0.2, decide_eq_true h0.1, Bool.and_true]
    exact ih f (dst l a) b (by omega) h (fun i hi2 => hi (i + 1) (by omega))

/-- .. and if it comes to x it does so by steps. -/
theorem wk_from (l : List Mv) (x : Int) : ∀ (f : Nat) (a : Int) (b : Bool), (wk l x f a b).1 = x → ∃ e, itr l e a = x ∧ ∀ i, i < e → dst l (itr l i a) ≠ itr l i a := by
  intro f
  induction f with
  | zero => intro a b h; exact ⟨0, h, fun i hi => absurd hi (Nat.not_lt_zero _)⟩
  | succ f ih =>
    intro a b h
    rw [wk] at h
    by_cases e1 : a = x
    · exact ⟨0, e1, fun i hi => absurd hi (Nat.not_lt_zero _)⟩
    · rw [if_neg e1] at h
      by_cases e2 : dst l a = a
      · rw [if_pos e2] at h
        exact absurd h e1
      · rw [if_neg e2] at h
        obtain ⟨e, h1, h2⟩ := ih _ _ h
        refine ⟨e + 1, h1, fun i hi => ?_⟩
        cases i with
        | zero => exact e2
        | succ i => exact h2 i (by omega)

/-- The places of a circle that is told. -/
theorem circ_way {l : List Mv} {spare first : Int} (hl : ND l) : ∀ (g : Nat) (q : List Mv) (x : Int) (r : List Mv × List Mv), (∀ m ∈ q, m ∈ mvs l) → circ spare first g q x = some r → (∀ m ∈ r.1, m ∈ q ∧ m.1 ≠ x) ∧ r.1.Sublist q ∧ ∃ d, 1 ≤ d ∧ d ≤ g ∧ (∀ j, j < d → ∃ m ∈ q, m.1 = itr l j x ∧ m.2 = itr l (j + 1) x ∧ m ∉ r.1) ∧ itr l d x = first ∧ ∀ j, 0 < j → j < d → itr l j x ≠ first := by
  intro g
  induction g with
  | zero => intro q x r _ h; cases h
  | succ g ih =>
    intro q x r hs h
    obtain ⟨k, y, hk, hy, hc⟩ := circ_some h
    obtain rfl : g = k := by omega
    have hd := lk_dst hl hs hy
    have hm := lk_mem hy
    rcases hc with ⟨rfl, rfl⟩ | ⟨hne, s, hs2, rfl⟩
    · refine ⟨fun m hm => mem_rem.1 hm, List.filter_sublist, 1, by omega, by omega, fun j hj => ?_, hd, fun j h1 h2 => by omega⟩
      obtain rfl : j = 0 := by omega
      exact ⟨(x, y), hm, rfl, hd.symm, fun h2 => (mem_rem.1 h2).2 rfl⟩
    · obtain ⟨g1, g2, d, d1, d2, d3, d4, d5⟩ := ih (rem q x) y s (fun m hm => hs m (mem_rem.1 hm).1) hs2
      refine ⟨fun m hm => mem_rem.1 (g1 m hm).1, g2.trans List.filter_sublist, d + 1, by omega, by omega, fun j hj => ?_, ?_, fun j h1 h2 => ?_⟩
      · cases j with
        | zero => exact ⟨(x, y), hm, rfl, hd.symm, fun h2 => (mem_rem.1 (g1 _ h2).1).2 rfl⟩
        | succ j =>
          obtain ⟨m, m1, m2, m3, m4⟩ := d3 j (by omega)
          refine ⟨m, (mem_rem.1 m1).1, ?_, ?_, m4⟩
          · show m.1 = itr l j (dst l x)
            rw [hd]; exact m2
          · show m.2 = itr l (j + 1) (dst l x)
            rw [hd]; exact m3
      · show itr l d (dst l x) = first
        rw [hd]; exact d4
      · cases j with
        | zero => omega
        | succ j =>
          show itr l j (dst l x) ≠ first
          rw [hd]
          by_cases e : j = 0
          · subst e; exact hne
          · exact d5 j (by omega) (by omega)

/-- The least of so many numbers. -/
theorem least_of (f : Nat → Int) : ∀ d, 1 ≤ d → ∃ j, j < d ∧ ∀ i, i < d → f j ≤ f i := by
  intro d
  induction d with
  | zero => intro h; omega
  | succ d ih =>
    intro _
    by_cases e : d = 0
    · subst e
      exact ⟨0, by omega, fun i hi => by obtain rfl : i = 0 := by omega
                                         exact Int.le_refl _⟩
    · obtain ⟨j, h1, h2⟩ := ih (by omega)
      by_cases e2 : f j ≤ f d
      · exact ⟨j, by omega, fun i hi => by
          by_cases e3 : i = d
          · subst e3; exact e2
          · exact h2 i (by omega)⟩
      · exact ⟨d, by omega, fun i hi => by
          by_cases e3 : i = d
          · subst e3; exact Int.le_refl _
          · have := h2 i (by omega); omega⟩

/-- A circle that is told has one that is counted. -/
theorem circ_cnt {l : List Mv} {spare first : Int} (hl : ND l) {g : Nat} {q : List Mv} {r : List Mv × List Mv} (hs : ∀ m ∈ q, m ∈ mvs l) (hg : g ≤ l.length) (h : circ spare first g q first = some r) : cnt l r.1 + 1 ≤ cnt l q := by
  obtain ⟨_, hsub, d, d1, d2, d3, d4, d5⟩ := circ_way hl g q first r hs h
  obtain ⟨j, hj, hmin⟩ := least_of (fun i => itr l i first) d d1
  have hper : ∀ i, itr l (d + i) first = itr l i first := fun i => by rw [itr_add, d4]
  have hinj : ∀ a b, a < b → b < d → itr l a first ≠ itr l b first := fun a b hab hb e => by
    have h1 : itr l (a + (d - b)) first = first := by
      rw [itr_add, e, ← itr_add, show b + (d - b) = d by omega, d4]
    exact d5 (a + (d - b)) (by omega) (by omega) h1
  obtain ⟨m, m1, m2, m3, m4⟩ := d3 j hj
  have hgo : ∀ i, i < d → dst l (itr l i first) ≠ itr l i first := fun i hi => by
    obtain ⟨k, k1, k2, k3, _⟩ := d3 i hi
    have hk := (List.mem_filter.1 (hs k k1)).2
    rw [← itr_succ, ← k3, ← k2]
    intro e
    rw [e] at hk
    simp at hk
  -- the place so many steps behind j, as one of the first d
  have hback : ∀ i, 0 < i → i < d → ∃ k, k < d ∧ k ≠ j ∧ itr l (j + i) first = itr l k first := fun i h1 h2 => by
    by_cases e : j + i < d
    · exact ⟨j + i, e, by omega, rfl⟩
    · refine ⟨j + i - d, by omega, by omega, ?_⟩
      have := hper (j + i - d)
      rwa [show d + (j + i - d) = j + i by omega] at this
  have hc : cntd l m = true := by
    have hw : wk l m.1 l.length m.2 true = (m.1, true) := by
      refine wk_to l m.1 (d - 1) l.length m.2 true (by omega) ?_ (fun i hi => ?_)
      · rw [m3, m2, ← itr_add, show j + 1 + (d - 1) = d + j by omega, hper]
      · rw [m3, m2, ← itr_add, show j + 1 + i = j + (i + 1) by omega]
        obtain ⟨k, k1, k2, k3⟩ := hback (i + 1) (by omega) (by omega)
        rw [k3]
        refine ⟨?_, hgo k k1⟩
        have h1 := hmin k k1
        have h2 : itr l k first ≠ itr l j first := fun e => by
          rcases Nat.lt_or_gt_of_ne k2 with h3 | h3
          · exact hinj k j h3 hj e
          · exact hinj j k h3 k1 e.symm
        have h1 : itr l j first ≤ itr l k first := h1
        omega
    unfold cntd
    rw [hw]
    simp
  -- one less is counted
  have key : ∀ {a b : List Mv}, a.Sublist b → m ∈ b → m ∉ a → a.countP (cntd l) + 1 ≤ b.countP (cntd l) := by
    intro a b hab
    induction hab with
    | slnil => intro h1; cases h1
    | cons x hab ih =>
      intro h1 h2
      rw [List.countP_cons]
      rcases List.mem_cons.1 h1 with e | e
      · subst e
        rw [hc]
        have := hab.countP_le (p := cntd l)
        simp
        omega
      · have := ih e h2
        omega
    | cons_cons x hab ih =>
      intro h1 h2
      rw [List.countP_cons, List.countP_cons]
      rw [List.mem_cons, not_or] at h2
      have := ih ((List.mem_cons.1 h1).resolve_left h2.1) h2.2
      omega
  exact key hsub m1 m4
end Go.Proofs.Ytoagebclnaggjaa
