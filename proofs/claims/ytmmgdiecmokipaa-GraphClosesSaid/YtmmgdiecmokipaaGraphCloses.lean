/-
  Proved: GraphCloses answers true for every number and every ways, with no condition of its own; what was handed in reads behind the call as before.
-/
import Derived.Test.YtmmgdiecmokipaaLclose
import Derived.SizedLaws
import Derived.OpenShut
namespace Go.Proofs.Ytmmgdiecmokipaa
open Go.ChangeShapes Go.WideShapes Go.ChangeAt Go.RowKit

theorem graphCloses_own : ownKnob Try.prog.godebug = none := by kernel_rfl
theorem graphCloses_laidOut : laidOutB Try.prog = true := by kernel_rfl

set_option maxRecDepth 100000 in
theorem graphCloses_lifted (os : Os) (started : os.Started) (H : Type) (enc : TypeId × Value → H) :
    ReturnsInHanded {} Try.checked os 5 .any (Rows.graphClosesSpec.pre6 enc Try.prog Try.f5 Rows.graphClosesRow.domain false) (Rows.graphClosesSpec.post enc Try.prog Try.f5 false true false false) := by
  refine returnsInHanded_of_change_sized (C := Try.checked) graphCloses_own started (by kernel_rfl) Try.func5
    (ChangeSpec.witness6 (enc := enc) (C := Try.checked) false ⟨#[], #[.int .i64 0, .slice none 0 0], []⟩ 8 (by kernel_rfl) (by kernel_rfl) (by kernel_rfl) (by kernel_rfl)) ?_
  intro W base args ds gs before hval0 hW _ hsz _
  have hval : ∀ (j : Nat) t v, Try.f5.params[j]? = some t → args[j]? = some v → Value.okWide Try.prog W .any base t v := hval0
  have hW' := hW
  obtain ⟨p, q, hA0, hV, rfl, hfz, hnd⟩ := hW
  have hA : DataW.TrodAll enc Try.prog W 0 (fun _ => true) true Try.f5.params.toList args.toList ds p := hA0
  rw [Try.params5] at hA hval
  obtain ⟨v0, v1, d0, d1, p0, p1, rfl, rfl, rfl, h0, h1⟩ := trodAll_two hA
  obtain ⟨rfl, rfl⟩ := trodVars_none hV
  have h1k := h1
  obtain ⟨a0, rfl, rfl, rfl, w0⟩ := open_int Try.underlying3 (hval 0 3 v0 rfl rfl) h0
  have R1 : Wgt 22 d1 := fun n hn => of_decide_eq_true (List.all_eq_true.1 hsz n (DataW.weights_mem_each (j := 1) (t := 22) (by show (Try.f5.params.toList ++ _)[1]? = _; rw [Try.params5]; rfl) rfl n hn))
  obtain ⟨A1, l1, C1, rfl⟩ := okWide_slice Try.underlying22 (hval 1 22 v1 rfl rfl)
  clear hA0 hval0
  simp only [List.append_nil] at hW'
  obtain ⟨fuel, hf⟩ := h1
  obtain ⟨v, to, e1, q1, q2, q3⟩ := open_rws hf R1
  obtain rfl : v = .slice A1 l1 C1 := by
    have e2 : [Value.slice A1 l1 C1] = [v] := e1
    simp at e2
    exact e2.symm
  refine (graphCloses_walk a0 to _ W q3 q1 q2).mono fun e W' ⟨he, hg⟩ => ?_
  subst he
  have hlt1 : ∀ x ∈ p1, x.block < W.heap.size := fun x hx => hW'.lt x (by simp [hx])
  exact ⟨_, rfl, _, _, _, [], _, [], hW', (trodAll_mk1 (shut_bool Try.underlying4 _)), trodAll_mk2 (shut_int Try.underlying3 w0) (Below.trod graphCloses_laidOut (by kernel_rfl) (of_decide_eq_true (by kernel_rfl)) h1k hg hlt1), rfl, hg.frame _, fun h => by cases h⟩

theorem graphCloses_holds : Rows.GraphClosesSaid :=
  OpenClaim.holds_of_wide 5 Try.f5 rfl rfl rfl rfl rfl rfl rfl ⟨rfl, rfl, rfl, rfl, rfl⟩ rfl rfl rfl rfl rfl (by kernel_rfl) Try.func5 (by kernel_rfl)
    (of_decide_eq_true (by kernel_rfl)) (by unfold Func.isWrapper; first | (rw [if_pos (by decide +kernel)]; kernel_rfl) | (rw [if_neg (by decide +kernel)]; exact ⟨rfl, rfl⟩))
    (fun os started H enc _ => graphCloses_lifted os started H enc)

#print axioms graphCloses_holds
end Go.Proofs.Ytmmgdiecmokipaa
