/-
  Proved: too many calls end the run.
-/
import Derived.Test.YtapgaclonilnbaaDoorLinh
namespace Go.Proofs.YtapgaclonilnbaaDoor
open Go.RowKit
set_option linter.unusedVariables false
set_option linter.unusedSimpArgs false

section
variable {X : Cx} {z : Mh} {nv : Value} {st : Int} {L : Ly} {w w' : World}

set_option maxRecDepth 20000 in
set_option maxHeartbeats 2000000 in
theorem enter_full (h : MX X z nv st L w) (k : Nat) (hk : k < X.l.length) (av : Value) (q : Bool) (hq : X.l[k].qu = q) (hc : (q = false ∧ 48 ≤ z.ld) ∨ 392 ≤ z.cs.length) :
    Calls Tryd.prog 18 #[.pointer (some ⟨X.R, 0, none⟩), fpV X k, av] w fun e w' => e = .panicked [{ v := endV 2 0, recovered := false }] ∧ w' = w := by
  obtain ⟨fb0, fo, pv, bv, hfp, hrow, -, -⟩ := h.fn k hk
  have c5 : w.cell? ⟨fb0, fo + 5, none⟩ = some (.bool q) := by
    have r5 := hrow.at 5 (v := .bool X.l[k].qu) rfl
    rw [hq] at r5
    exact (h.bz.cell (p := ⟨fb0, fo + 5, none⟩) hrow.1).trans r5
  have c8 : w.cell? ⟨X.R, 8, none⟩ = some (.int .i64 z.ld) := h.rr.cell 8 (by omega)
  obtain ⟨cA, cC, ecv, -⟩ := OwnB.shape ptC_len h.cc
  have el : ((List.range z.cs.length).map L.pb).length = z.cs.length := by simp
  rw [el] at ecv
  have c6 : w.cell? ⟨X.R, 6, none⟩ = some (.slice cA z.cs.length cC) := by have := h.rr.cell 6 (by omega); rw [← ecv]; exact this
  have HT := fun w => stop_c 2 0 w
  rw [hfp]
  clear h hrow hfp hk hq ecv el
  generalize z.cs.length = n at *
  generalize z.ld = ld at *
  by_cases h1 : q = false ∧ 48 ≤ ld
  · obtain ⟨rfl, h1⟩ := h1
    clear hc
    go_enter Tryd.func18, Tryd.ntmps18
    go_wp2_with (go_at_call 17; refine (HT _).mono ?_; rintro e w3 ⟨rfl, hw⟩; rw [hw]; clear hw w3)
    exact ⟨rfl, rfl, rfl⟩
  · have h2 : 392 ≤ n := hc.resolve_left h1
    have h3 : 392 ≤ (n : Int) := by omega
    clear hc
    cases q with
    | true =>
      go_enter Tryd.func18, Tryd.ntmps18
      go_wp2_with (go_at_call 17; refine (HT _).mono ?_; rintro e w3 ⟨rfl, hw⟩; rw [hw]; clear hw w3)
      exact ⟨rfl, rfl, rfl⟩
    | false =>
      have h4 : ¬ 48 ≤ ld := fun e => h1 ⟨rfl, e⟩
      clear h1
      go_enter Tryd.func18, Tryd.ntmps18
      go_wp2_with (go_at_call 17; refine (HT _).mono ?_; rintro e w3 ⟨rfl, hw⟩; rw [hw]; clear hw w3)
      exact ⟨rfl, rfl, rfl⟩
end
end Go.Proofs.YtapgaclonilnbaaDoor
