/-
  Proved: what low.Run answers.
-/
import Derived.Test.YtapgaclonilnbaaDoorLtom
namespace Go.Proofs.YtapgaclonilnbaaDoor
open Go.RowKit
set_option linter.unusedVariables false
set_option linter.unusedSimpArgs false

section
variable {X : Cx} {z : Mh} {nv : Value} {st : Int} {L : Ly} {w w' : World} {ip : List Int}

theorem toTheEnd_c (hc : chk X.l = true) (h : MX X ⟨[], fun _ _ => false, fun _ => 0, ip, [], 0⟩ (.pointer none) 0 L w) (fu : Nat) (hfu : X.fu = fu) (hf6 : fu ≤ 1000000) :
    Calls Tryd.prog 11 #[.pointer (some ⟨X.R, 0, none⟩)] w fun e w' => e = .returned (.agg #[.int .i64 (runS X.l ip fu).1.1, .int .i64 (runS X.l ip fu).1.2]) ∧ EndR X (runS X.l ip fu).2.1 ((runS X.l ip fu).2.2 : Int) w' := by
  unfold runS
  cases hb : byN X.l [109, 97, 105, 110] with
  | none => exact toe_none h hb
  | some zk =>
    obtain ⟨k, rfl, hk, -⟩ := byN_some hb
    have ef : fnO X.l k = X.l[k] := fnO_get X.l k hk
    simp only [Int.toNat_natCast, ef]
    by_cases hw : X.l[k].pa.length ≠ 0 ∨ X.l[k].an ≠ 0
    · rw [if_pos hw]
      exact toe_wrong h k hk hb hw
    · rw [if_neg hw]
      exact toe_main hc h k hk hb (by omega) (by omega) fu hfu hf6
end
end Go.Proofs.YtapgaclonilnbaaDoor
