/-
  Proved: what toTheEnd does where main takes or answers something.
-/
import Derived.Test.YtapgaclonilnbaaDoorLtoe
namespace Go.Proofs.YtapgaclonilnbaaDoor
open Go.RowKit
set_option linter.unusedVariables false
set_option linter.unusedSimpArgs false

section
variable {X : Cx} {z : Mh} {nv : Value} {st : Int} {L : Ly} {w w' : World} {ip : List Int}

set_option maxRecDepth 20000 in
set_option maxHeartbeats 4000000 in
theorem toe_wrong (h : MX X ⟨[], fun _ _ => false, fun _ => 0, ip, [], 0⟩ (.pointer none) 0 L w) (k : Nat) (hk : k < X.l.length) (hb : byN X.l [109, 97, 105, 110] = some (k : Int)) (hw : X.l[k].pa.length ≠ 0 ∨ X.l[k].an ≠ 0) :
    Calls Tryd.prog 11 #[.pointer (some ⟨X.R, 0, none⟩)] w fun e w' => e = .returned (.agg #[.int .i64 5, .int .i64 0]) ∧ EndR X [] 0 w' := by
  have hmf : ∀ (fn : Fn) (first cap : Array Value) (w : World), (Instr.makeFunc fn first cap).run Tryd.prog w = .ok (.func fn first cap) w := fun _ _ _ _ => rfl
  have HX := h.boxed rfl (.cells #[.int .i64 0, .int .i64 0] 48)
  have AB := HX.box rfl
  have c1 : (w.alloc (.cells #[.int .i64 0, .int .i64 0] 48)).cell? ⟨X.R, 1, none⟩ = some (.map (some X.mb)) := HX.rr.cell 1 (by omega)
  have c0 : (w.alloc (.cells #[.int .i64 0, .int .i64 0] 48)).cell? ⟨X.R, 0, none⟩ = some (.slice X.lA X.l.length X.lC) := HX.rr.cell 0 (by omega)
  obtain ⟨_, lAA, lCC, elA, hlr⟩ := h.hl
  obtain ⟨fb0, fo, csx, hlA, hrow, pv, bv, ecs, -, hpn, -⟩ := hlr k hk
  cases elA
  cases ecs
  obtain ⟨-, PA, PC, rfl, -⟩ := hpn
  rw [hlA] at c0
  have c2 : (w.alloc (.cells #[.int .i64 0, .int .i64 0] 48)).cell? ⟨fb0, fo + k * 7 + 2, none⟩ = some (.slice PA X.l[k].pa.length PC) := (HX.bz.cell (p := ⟨fb0, fo + k * 7 + 2, none⟩) hrow.1).trans (hrow.at 2 rfl)
  have c3 : (w.alloc (.cells #[.int .i64 0, .int .i64 0] 48)).cell? ⟨fb0, fo + k * 7 + 3, none⟩ = some (.int .i64 X.l[k].an) := (HX.bz.cell (p := ⟨fb0, fo + k * 7 + 3, none⟩) hrow.1).trans (hrow.at 3 rfl)
  have ML : ∀ {w' : World}, MapS w' X.mb X.mn (byN X.l) → (Instr.lookup 50 (.map (some X.mb)) (.string mainT) true).run Tryd.prog w' = .ok (.tuple #[.int .i64 (k : Int), .bool true]) w' := fun hm => by
    have := hm.look2 (x := mainT) (by decide)
    rw [this]
    have e : byN X.l mainT.data.toList = some (k : Int) := hb
    rw [e]
    rfl
  have HM := ML HX.mp.1
  unfold mainT at HM
  have hkz : (k : Int) < X.l.length := by omega
  have HT := fun w => stop_c 5 0 w
  have TC : Hid (CallsD Tryd.prog 16 #[.pointer (some ⟨w.heap.size, 0, none⟩)] (.panicking [{ v := endV 5 0, recovered := false }]) (w.alloc (.cells #[.int .i64 0, .int .i64 0] 48)) fun e u' w' =>
      e = .returned (.tuple #[]) ∧ u' = .panicking [{ v := endV 5 0, recovered := true }] ∧ w'.cell? ⟨w.heap.size, 0, none⟩ = some (.int .i64 5) ∧ w'.cell? ⟨w.heap.size, 1, none⟩ = some (.int .i64 0) ∧ EndR X [] 0 w') := toe_caught HX AB 5 0
  clear ML hlr hrow h HX AB hlA hb
  generalize X.l[k].pa.length = n at *
  generalize X.l[k].an = an at *
  by_cases hn : n = 0
  · subst hn
    have ha : ¬ an = 0 := by omega
    go_enter_defers Tryd.func11, Tryd.ntmps11
    go_wp2_with (go_at_call 17; refine (HT _).mono ?_; rintro e w3 ⟨rfl, hw⟩; rw [hw]; clear hw w3)
    refine leaves_cons (f := 16) (args := #[.pointer (some ⟨w.heap.size, 0, none⟩)]) (by simp) (by simp [go_sem]) ?_
    refine TC.out.mono ?_
    rintro e u' w'' ⟨rfl, rfl, d0, d1, EE⟩
    simp [Leaves, settle, results, Tryd.results11, go_sem, d0, d1]
    exact EE
  · have hnz : ¬ ((n : Int) = 0) := by omega
    go_enter_defers Tryd.func11, Tryd.ntmps11
    go_wp2_with (go_at_call 17; refine (HT _).mono ?_; rintro e w3 ⟨rfl, hw⟩; rw [hw]; clear hw w3)
    refine leaves_cons (f := 16) (args := #[.pointer (some ⟨w.heap.size, 0, none⟩)]) (by simp) (by simp [go_sem]) ?_
    refine TC.out.mono ?_
    rintro e u' w'' ⟨rfl, rfl, d0, d1, EE⟩
    simp [Leaves, settle, results, Tryd.results11, go_sem, d0, d1]
    exact EE
end
end Go.Proofs.YtapgaclonilnbaaDoor
