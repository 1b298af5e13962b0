/-
  Proved: the program's walk: what it calls, in which order, and what it leaves.
-/
import Derived.Test.YtmmgdiecmokipaaPcome
import Derived.Test.YtmmgdiecmokipaaPdfs
namespace Go.Proofs.Ytmmgdiecmokipaa
open Go.RowKit

theorem pop_row {base : Nat} {l : List (Nat × Nat)} {x : Nat × Nat} {A : Option Addr} {C : Nat} {w : World} (h : OP base (l ++ [x]) (.slice A (l.length + 1) C) w) : OP base l (.slice A l.length C) w := by
  obtain ⟨h1, h2, h3⟩ := h
  refine ⟨h1, by rw [flat_len encO_len], ?_⟩
  rcases h3 with ⟨h4, h5⟩ | ⟨g, cap, cur, e1, e2, e3, e4, e5, e6, e7⟩
  · simp at h5
  · injection e1 with e1 e8 e9
    subst e1
    subst e9
    rw [List.length_append] at e4 e7
    refine Or.inr ⟨g, C, cur, rfl, e2, e3, by simp at e4; omega, e5, e6, ?_⟩
    have t1 : ((l ++ [x]).flatMap encO).take (l.length * 2) = l.flatMap encO := by
      rw [List.flatMap_append, List.take_append_of_le_length (by rw [flat_len encO_len]; exact Nat.le_refl _), List.take_of_length_le (by rw [flat_len encO_len]; exact Nat.le_refl _)]
    rw [← t1, ← e7, List.take_take]
    congr 1
    simp only [List.length_cons, List.length_nil]
    omega

/-- The cells of the last one that is open. -/
theorem OP.last {base : Nat} {l : List (Nat × Nat)} {x : Nat × Nat} {v : Value} {w : World} (h : OP base (l ++ [x]) v w) : ∃ B C, v = .slice (some ⟨B, 0, none⟩) (l.length + 1) C ∧ base ≤ B ∧ w.cell? ⟨B, l.length * 2, none⟩ = some (.int .i64 (x.1 : Int)) ∧ w.cell? ⟨B, l.length * 2 + 1, none⟩ = some (.int .i64 (x.2 : Int)) ∧ (∀ j, w.frozen? ⟨B, j, none⟩ = false) ∧ l.length + 1 ≤ C ∧ B < w.heap.size := by
  obtain ⟨A, C, e, h1⟩ := OwnB.shape encO_len h
  obtain ⟨B, e1, e2, e3, e4, e5⟩ := h1 (by simp)
  subst e1
  rw [List.length_append] at e e4
  have hx : (l ++ [x])[l.length]'(by simp) = x := by simp
  have c0 := RowsIn.cell (j := 0) (u := .int .i64 (x.1 : Int)) e5 l.length (by simp) (by rw [hx]; rfl)
  have c1 := RowsIn.cell (j := 1) (u := .int .i64 (x.2 : Int)) e5 l.length (by simp) (by rw [hx]; rfl)
  obtain ⟨_, cs, hc⟩ := OwnB.at h (b := B) (by rw [e]; rfl)
  exact ⟨B, C, e, e2, by simpa using c0, c1, fun j => hc.frozen j, e4, e3⟩

/-- One more way of it was looked at. -/
theorem OP.bump {base : Nat} {l : List (Nat × Nat)} {b k B C : Nat} {w : World} (h : OP base (l ++ [(b, k)]) (.slice (some ⟨B, 0, none⟩) (l.length + 1) C) w) : OP base (l ++ [(b, k + 1)]) (.slice (some ⟨B, 0, none⟩) (l.length + 1) C) (w.setCell ⟨B, l.length * 2 + 1, none⟩ (.int .i64 ((k + 1 : Nat) : Int))) := by
  obtain ⟨h1, h2, h3⟩ := h
  refine ⟨by rw [set_size]; exact h1, by rw [flat_len encO_len], ?_⟩
  rcases h3 with ⟨h4, h5⟩ | ⟨g, cap, cur, e1, e2, e3, e4, e5, e6, e7⟩
  · simp at h5
  · injection e1 with e1 e8 e9
    subst e9
    injection e1 with e1
    injection e1 with e1 _ _
    subst e1
    rw [List.length_append] at e4 e7
    refine Or.inr ⟨B, C, cur.setIfInBounds (l.length * 2 + 1) (.int .i64 ((k + 1 : Nat) : Int)), by rw [List.length_append]; rfl, e2, At.set (j := l.length * 2 + 1) (show At w B cur 50 from e3) _, by rw [List.length_append]; exact e4, e5, by simpa using e6, ?_⟩
    have e8 : cur.toList.take ((l ++ [(b, k + 1)]).length * 2) = (l ++ [(b, k)]).flatMap encO := by
      rw [← e7]
      congr 1
      simp only [List.length_append, List.length_cons, List.length_nil]
    rw [Array.toList_setIfInBounds, List.take_set, e8]
    rw [List.flatMap_append, List.flatMap_append, List.set_append_right _ _ (by rw [flat_len encO_len]; omega), flat_len encO_len]
    congr 1
    rw [show l.length * 2 + 1 - l.length * 2 = 1 by omega]
    rfl
end Go.Proofs.Ytmmgdiecmokipaa
