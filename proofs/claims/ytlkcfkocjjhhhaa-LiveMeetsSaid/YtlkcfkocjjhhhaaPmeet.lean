/-
  Proved: what live.Meet answers of any two ranges.
-/
import Derived.Test.YtlkcfkocjjhhhaaKit
import Derived.OwnWalk
namespace Go.Proofs.Ytlkcfkocjjhhhaa
open Go.RowKit
set_option linter.unusedVariables false

/-- A range as data. -/
structure Rg where
  lo : Int
  hi : Int
  ca : Bool
/-- Its cells. -/
def rgC (r : Rg) : List Value := [.int .i64 r.lo, .int .i64 r.hi, .bool r.ca]
/-- Do two ranges meet? -/
def mt (a b : Rg) : Bool := if a.lo = -1 ∨ b.lo = -1 then false else decide (a.lo = b.lo ∨ a.lo < b.hi ∧ b.lo < a.hi)

theorem below_al (w : World) (o : Obj) : Below w.heap.size w (w.alloc o) := (Below.refl _ _).alloc (Nat.le_refl _) o
theorem below_al2 (w : World) (o p : Obj) : Below w.heap.size w ((w.alloc o).alloc p) := ((Below.refl _ _).alloc (Nat.le_refl _) o).alloc (by simp) p

theorem meet_c (a b : Rg) (w : World) : Calls Try.prog 4 #[.agg (rgC a).toArray, .agg (rgC b).toArray] w fun e w' => e = .returned (.bool (mt a b)) ∧ Below w.heap.size w w' := by
  obtain ⟨p, q, x⟩ := a
  obtain ⟨s, t, y⟩ := b
  simp only [rgC]
  by_cases h1 : p = -1
  · go_enter Try.func4, Try.ntmps4
    go_wp2
    go_ret
    exact ⟨by simp [mt, h1], below_al2 _ _ _⟩
  have e1 : (p == -1) = false := by simpa using h1
  by_cases h2 : s = -1
  · go_enter Try.func4, Try.ntmps4
    go_wp2
    go_ret
    exact ⟨by simp [mt, h2], below_al2 _ _ _⟩
  have e2 : (s == -1) = false := by simpa using h2
  by_cases h3 : p = s
  · subst h3
    go_enter Try.func4, Try.ntmps4
    go_wp2
    go_ret
    exact ⟨by simp [mt, h1], below_al2 _ _ _⟩
  have e3 : (p == s) = false := by simpa using h3
  by_cases h4 : p < t
  · by_cases h5 : s < q
    · go_enter Try.func4, Try.ntmps4
      go_wp2
      go_ret
      exact ⟨by simp [mt, h1, h2, h3, h4, h5], below_al2 _ _ _⟩
    · go_enter Try.func4, Try.ntmps4
      go_wp2
      go_ret
      exact ⟨by simp [mt, h1, h2, h3, h4, h5], below_al2 _ _ _⟩
  · go_enter Try.func4, Try.ntmps4
    go_wp2
    go_ret
    exact ⟨by simp [mt, h1, h2, h3]; omega, below_al2 _ _ _⟩
end Go.Proofs.Ytlkcfkocjjhhhaa
