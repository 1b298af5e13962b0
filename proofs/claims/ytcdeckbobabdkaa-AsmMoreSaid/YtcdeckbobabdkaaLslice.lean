/-
  Proved: what l[:t] and l[t:] are, whatever l; the lines in them.
-/
import Derived.Test.YtcdeckbobabdkaaAopen2
namespace Go.Proofs.Ytcdeckbobabdkaa
open Go.RowKit
set_option linter.unusedVariables false
set_option linter.unusedSimpArgs false
set_option maxRecDepth 20000

theorem slice_lo (A : Option Addr) (N C t : Nat) (h1 : t ≤ N) (h2 : N ≤ C) (w : World) : (Instr.sliceAt 22 (.slice A N C) none (some (.int .i64 (t : Int))) none).run Try.prog w = .ok (.slice A t C) w := by
  have a1 : (t : Int) ≤ C := by omega
  have a2 : (0 : Int) ≤ t := by omega
  go_simp
theorem slice_hi (A : Option Addr) (N C t : Nat) (h1 : t ≤ N) (h2 : N ≤ C) (w : World) : (Instr.sliceAt 22 (.slice A N C) (some (.int .i64 (t : Int))) none none).run Try.prog w = .ok (.slice (if C = t then A else A.map (·.add (t * 8))) (N - t) (C - t)) w := by
  have a1 : (t : Int) ≤ N := by omega
  have a2 : (0 : Int) ≤ t := by omega
  go_simp
theorem rows_hi {w : World} {l : List Ln} {A : Option Addr} (h : RowsIn w 8 lnC l A) {C : Nat} (hC : l.length ≤ C) (t : Nat) : RowsIn w 8 lnC (l.drop t) (if C = t then A else A.map (·.add (t * 8))) := fun i hi => by
  have hi2 := hi
  rw [List.length_drop] at hi2
  rw [if_neg (by omega)]
  obtain ⟨b, o, rfl, _⟩ := h 0 (by omega)
  have := rows_drop h t i hi
  simpa [add_none'] using this
end Go.Proofs.Ytcdeckbobabdkaa
