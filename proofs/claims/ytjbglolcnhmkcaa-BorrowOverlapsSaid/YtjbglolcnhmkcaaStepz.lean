/-
  Proved: the document's own Steps, of any tree.
-/
import Derived.Test.YtjbglolcnhmkcaaStepa
import Derived.Test.YtjbglolcnhmkcaaStepb
import Derived.Test.YtjbglolcnhmkcaaStepc
import Derived.Test.YtjbglolcnhmkcaaStepd
import Derived.Test.YtjbglolcnhmkcaaStepe
namespace Go.Proofs.Ytjbglolcnhmkcaa
open Go.RowKit

theorem steps_c (x : X) : StepsC x := by
  refine X.one (p := StepsC) (fun k n s ks ts ih => ?_) x
  by_cases h : 0 < ks.length ∧ isSt k = true
  · obtain ⟨h, hk⟩ := h
    have ih := ih 0 h
    simp only [isSt, Bool.or_eq_true, decide_eq_true_eq] at hk
    rcases hk with (rfl | rfl) | rfl
    · by_cases hz : (rsts (ks[0]'h)).length = 0
      · exact steps_12_nil n s ks ts h ih hz
      · exact steps_12_row n s ks ts h ih hz
    · by_cases h1 : 1 < ks.length
      · by_cases h2 : (ks[1]'h1).k = 1
        · by_cases hz : (rsts (ks[0]'h)).length = 0
          · exact steps_13c_nil n s ks ts h h1 h2 ih hz
          · exact steps_13c_row n s ks ts h h1 h2 ih hz
        · by_cases hz : (rsts (ks[0]'h)).length = 0
          · exact steps_13b_nil n s ks ts h h1 h2 ih hz
          · exact steps_13b_row n s ks ts h h1 h2 ih hz
      · by_cases hz : (rsts (ks[0]'h)).length = 0
        · exact steps_13a_nil n s ks ts h h1 ih hz
        · exact steps_13a_row n s ks ts h h1 ih hz
    · by_cases hz : (rsts (ks[0]'h)).length = 0
      · exact steps_7_nil n s ks ts h ih hz
      · exact steps_7_row n s ks ts h ih hz
  · exact steps_end k n s ks ts (by
      by_cases hk : isSt k = true
      · exact Or.inl fun h' => h ⟨h', hk⟩
      · exact Or.inr (by simpa using hk))

end Go.Proofs.Ytjbglolcnhmkcaa
