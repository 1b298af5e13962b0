/-
  Proved: what the deferred function of toTheEnd does: it takes what the run was ended by.
-/
import Derived.Test.YtapgaclonilnbaaDoorLgoi
import Derived.Tactics
import Derived.Tactics2
import Derived.Defers
import Derived.Recover
import Derived.Laws.Pointers
namespace Go.Proofs.YtapgaclonilnbaaDoor
open Go.RowKit
set_option linter.unusedVariables false
set_option linter.unusedSimpArgs false

set_option maxRecDepth 20000 in
set_option maxHeartbeats 2000000 in
theorem catch_on (pb : Nat) (k c x y : Int) (older : List PanicEntry) (w : World) (h0 : w.cell? ⟨pb, 0, none⟩ = some (.int .i64 x)) (h1 : w.cell? ⟨pb, 1, none⟩ = some (.int .i64 y)) (f0 : w.frozen? ⟨pb, 0, none⟩ = false) (f1 : w.frozen? ⟨pb, 1, none⟩ = false) :
    CallsD Tryd.prog 16 #[.pointer (some ⟨pb, 0, none⟩)] (.panicking ({ v := endV k c, recovered := false } :: older)) w fun e u' w' =>
      e = .returned (.tuple #[]) ∧ u' = .panicking ({ v := endV k c, recovered := true } :: older) ∧ w' = (w.setCell ⟨pb, 0, none⟩ (.int .i64 k)).setCell ⟨pb, 1, none⟩ (.int .i64 c) := by
  unfold endV
  have ha : ∀ w : World, (Instr.typeAssert (.iface 48 (.agg #[.int .i64 k, .int .i64 c])) 20 48 false).run Tryd.prog w = .ok (.agg #[.int .i64 k, .int .i64 c]) w := fun w => by kernel_rfl
  refine callsD_of_wpS Tryd.func16 rfl fun c₀ cs hu => ?_
  apply wpS_seq
  apply wpS_region
  simp [wpOpsS, go_sem, recoverD, hu, Tryd.ntmps16, Exit.thenS]
  refine wpS_of_wp ?_
  go_wp2
  simp [bodyPostS, results, Tryd.results16]

theorem catch_off (pb : Nat) (w : World) :
    CallsD Tryd.prog 16 #[.pointer (some ⟨pb, 0, none⟩)] .returning w fun e u' w' => e = .returned (.tuple #[]) ∧ u' = .returning ∧ w' = w := by
  refine callsD_of_wpS Tryd.func16 rfl fun c₀ cs hu => ?_
  apply wpS_seq
  apply wpS_region
  simp [wpOpsS, go_sem, recoverD, hu, Tryd.ntmps16, Exit.thenS]
  refine wpS_of_wp ?_
  go_wp2
  cases c₀
  simp_all [bodyPostS, results, Tryd.results16]
end Go.Proofs.YtapgaclonilnbaaDoor
