/-
  Proved: ShowUnlike answers true for every tree and number, with no condition of its own; what was handed in reads behind the call as before.
-/
import Derived.Test.YtdpmdonneoadbaaOpen
import Derived.Test.YtdpmdonneoadbaaUnlike
import Derived.SizedLaws
import Derived.OpenShut
namespace Go.Proofs.Ytdpmdonneoadbaa
open Go.ChangeShapes Go.WideShapes Go.ChangeAt Go.RowKit

theorem own : ownKnob Try.prog.godebug = none := by kernel_rfl
theorem laidOut : laidOutB Try.prog = true := by kernel_rfl
theorem bytes27 : Try.checked.prog.bytesOf 27 = 144 := by kernel_rfl

set_option maxRecDepth 100000 in
theorem showUnlike_lifted (os : Os) (started : os.Started) (H : Type) (enc : TypeId × Value → H) :
    ReturnsInHanded {} Try.checked os 3 .any (Rows.showUnlikeSpec.pre6 enc Try.prog Try.f3 Rows.showUnlikeRow.domain false) (Rows.showUnlikeSpec.post enc Try.prog Try.f3 false true false false) := by
  refine returnsInHanded_of_change_sized (C := Try.checked) own started (by kernel_rfl) Try.func3
    (ChangeSpec.witness6 (enc := enc) (C := Try.checked) false ⟨#[], #[.agg #[.int .i64 0, .int .i64 0, .int .i64 0, .string ⟨#[]⟩, .slice none 0 0, .slice none 0 0, .int .i64 0, .string ⟨#[]⟩, .int .i64 0, .slice none 0 0], .int .i64 0], []⟩ 8 (by kernel_rfl) (by kernel_rfl) (by kernel_rfl) (by kernel_rfl)) ?_
  intro W base args ds gs before hval0 hW _ hsz _
  have hval : ∀ (j : Nat) t v, Try.f3.params[j]? = some t → args[j]? = some v → Value.okWide Try.prog W .any base t v := hval0
  have hW' := hW
  obtain ⟨p, q, hA0, hV, rfl, hfz, hnd⟩ := hW
  have hA : DataW.TrodAll enc Try.prog W 0 (fun _ => true) true Try.f3.params.toList args.toList ds p := hA0
  rw [Try.params3] at hA hval
  obtain ⟨v0, v1, d0, d1, p0, p1, rfl, rfl, rfl, h0, h1⟩ := trodAll_two hA
  obtain ⟨rfl, rfl⟩ := trodVars_none hV
  have h0k := h0
  obtain ⟨cs, rfl, hsize⟩ := okWide_struct Try.underlying27 (hval 0 27 v0 rfl rfl)
  obtain ⟨y, rfl, rfl, rfl, wy⟩ := open_int Try.underlying3 (hval 1 3 v1 rfl rfl) h1
  clear hA0 hval0
  simp only [List.append_nil] at hW' hsz
  obtain ⟨fuel, hf⟩ := h0
  obtain ⟨k, at', n, s, ks, ts, A, C, B, D, pp, qq, r, Z, zl, zc, e0, e1, e2, e3, e4, e5, e6, hcs, hin, hA1, he3, hx, he4⟩ := open_X' fuel _ _ hf
  have hcs' : cs = #[.int .i64 k, .int .i64 at', .int .i64 n, .string s, .slice A ks.length C, .slice B ts.length D, .int .i64 pp, .string qq, .int .i64 r, .slice Z zl zc] := by
    have : cs.toList = _ := hcs
    rw [← Array.toArray_toList (xs := cs), this]
  have hx : d0 = .agg [e0, e1, e2, e3, e4, e5, e6] := hx
  subst hx
  rw [hcs] at hin
  have hs : s.size < 4611686018427387904 := by
    subst he3
    have := List.all_eq_true.1 hsz _ (DataW.weights_mem_each (j := 0) (t := 27) rfl rfl s.data.toList.length (by
      show s.data.toList.length ∈ DataW.weights Try.prog 27 (.agg [e0, e1, e2, .lit (.string s.data.toList), e4, e5, e6])
      simp [DataW.weights, DataW.weightsEach, Try.underlying27]))
    have : s.data.toList.length ≤ reachBytes := of_decide_eq_true this
    have e : s.size = s.data.toList.length := Array.length_toList.symm
    rw [e]
    unfold reachBytes at this
    omega
  have hl : (ks.length + 1) * 144 ≤ 140737488355328 := by
    rcases he4 with ⟨_, h⟩ | ⟨el, sp, rfl, h⟩
    · rw [h]; decide
    · have := List.all_eq_true.1 hsz _ (DataW.weights_mem_each (j := 0) (t := 27) rfl rfl ((el.length + sp.length) * Try.checked.prog.bytesOf 27) (by
        show (el.length + sp.length) * Try.prog.bytesOf 27 ∈ DataW.weights Try.prog 27 (.agg [e0, e1, e2, e3, .slice el sp, e5, e6])
        simp [DataW.weights, DataW.weightsEach, Try.underlying27, Try.underlying22]))
      have : (el.length + sp.length) * Try.checked.prog.bytesOf 27 ≤ reachBytes := of_decide_eq_true this
      rw [bytes27, h] at this
      unfold reachBytes at this
      omega
  subst hcs'
  refine (unlike_walk k at' n s ks ts A C B D pp qq r Z zl zc y W hin hA1 hl hs).mono fun e W' ⟨he, hg⟩ => ?_
  subst he
  have hlt : ∀ x ∈ p0, x.block < W.heap.size := fun x hx => hW'.lt x (by simpa using hx)
  exact ⟨_, rfl, _, _, _, [], _, [], hW', (trodAll_mk1 (shut_bool Try.underlying4 _)), trodAll_mk2 (Below.trod laidOut (by kernel_rfl) (of_decide_eq_true (by kernel_rfl)) h0k hg hlt) (shut_int Try.underlying3 wy), rfl, hg.frame _, fun h => by cases h⟩

theorem showUnlike_holds : Rows.ShowUnlikeSaid :=
  OpenClaim.holds_of_wide 3 Try.f3 rfl rfl rfl rfl rfl rfl rfl ⟨rfl, rfl, rfl, rfl, rfl⟩ rfl rfl rfl rfl rfl (by kernel_rfl) Try.func3 (by kernel_rfl)
    (of_decide_eq_true (by kernel_rfl)) (by unfold Func.isWrapper; first | (rw [if_pos (by decide +kernel)]; kernel_rfl) | (rw [if_neg (by decide +kernel)]; exact ⟨rfl, rfl⟩))
    (fun os started H enc _ => showUnlike_lifted os started H enc)

#print axioms showUnlike_holds
end Go.Proofs.Ytdpmdonneoadbaa
