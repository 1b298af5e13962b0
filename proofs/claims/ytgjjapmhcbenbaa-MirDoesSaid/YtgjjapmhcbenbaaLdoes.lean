/-
  Proved: the law MirDoes answers true for every name and every two numbers.
-/
import Derived.Test.YtgjjapmhcbenbaaPall
namespace Go.Proofs.Ytgjjapmhcbenbaa
open Go.RowKit
set_option linter.unusedVariables false

set_option maxRecDepth 20000 in
set_option maxHeartbeats 1000000 in
theorem mirDoes_walk (op : ByteArray) (a b : Int) (w : World) : Calls Try.prog 3 #[.string op, .int .i64 a, .int .i64 b] w fun e w' => e = .returned (.bool true) ∧ Below w.heap.size w w' := by
  obtain ⟨mv, f, D⟩ := dop_all op
  have h2 : m_mulhu (wd (-1)) (wd (-1)) = -2 := by decide
  have hP : Hid (∀ w : World, _) := fun w => pDo_c D a b w
  have hR : Hid (∀ w : World, _) := fun w => D.doc a b w
  have hM : Hid (∀ w : World, _) := fun w => pDo_c dop_mulhu (-1) (-1) w
  rw [h2] at hM
  generalize mv (wd a) (wd b) = V at hP hR
  clear D h2
  go_enter Try.func3, Try.ntmps3
  go_wp2_with (first
    | (go_at_call 6; refine (hR.out _).mono ?_; rintro e w2 ⟨rfl, hw2⟩; have M2 := hw2)
    | (go_at_call 5; have M3 := M2; refine (hM.out _).mono ?_; rintro e w3 ⟨rfl, hw3⟩)
    | (go_at_call 5; refine (hP.out _).mono ?_; rintro e w1 ⟨rfl, hw1⟩))
  go_ret
  exact ⟨rfl, hw1.trans ((hw2.mono hw1.size).trans (hw3.mono (Nat.le_trans hw1.size hw2.size)))⟩
end Go.Proofs.Ytgjjapmhcbenbaa
