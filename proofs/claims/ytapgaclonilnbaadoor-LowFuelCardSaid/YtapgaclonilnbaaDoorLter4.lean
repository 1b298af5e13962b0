/-
  Proved: what a block's end of kind 4 does to the machine.
-/
import Derived.Test.YtapgaclonilnbaaDoorLterh
namespace Go.Proofs.YtapgaclonilnbaaDoor
open Go.RowKit
set_option linter.unusedVariables false
set_option linter.unusedSimpArgs false

section
variable {X : Cx} {m : Mc} {st : Int} {L : Ly} {w w' : World} {t : Le} {tb tq : Nat} {tv : Value}

set_option maxRecDepth 20000 in
set_option maxHeartbeats 4000000 in
theorem ter_4 (h : MS X m st L w) (hx : RowAt X.wz tb tq (leC t tv)) (hop : t.k = 4) :
    Calls Tryd.prog 26 #[.pointer (some ⟨X.R, 0, none⟩), .pointer (some ⟨tb, tq, none⟩)] w fun e w' => e = .panicked [{ v := endV 1 101, recovered := false }] ∧ ∃ z nv L, z.out = m.out ∧ MX X z nv st L w' := by
  have c0 : w.cell? ⟨tb, tq, none⟩ = some (.int .i64 4) := by
    have := (h.bz.cell (p := ⟨tb, tq + 0, none⟩) hx.1).trans (hx.at 0 (v := .int .i64 t.k) rfl)
    rwa [hop] at this
  obtain ⟨pn, hpn⟩ : ∃ pn, pn = L.pb m.bl.length := ⟨_, rfl⟩
  have PN : Hid (pn = L.pb m.bl.length) := hpn
  have HS : Hid (∀ w', Below w.heap.size w w' → TI X pn tb tq t tv w') := fun w' hb => (by rw [hpn]; exact (h.below hb).ti hx : TI X pn tb tq t tv w')
  have HM : Hid (∀ w', Below w.heap.size w w' → MS X m st L w') := fun w' hb => h.below hb
  have HX : Hid (RowAt X.wz tb tq (leC t tv)) := hx
  have HT := fun w => stop_c 1 101 w
  clear h hx hop hpn
  go_enter Tryd.func26, Tryd.ntmps26
  go_wp2_with (go_at_call 17; refine (HT _).mono ?_; rintro e w3 ⟨rfl, hw⟩; rw [hw]; clear hw w3)
  exact ⟨rfl, rfl, _, _, _, (by rfl), MS.toX (HM.out w (Below.refl _ _))⟩
end
end Go.Proofs.YtapgaclonilnbaaDoor
