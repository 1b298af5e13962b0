/-
  Proved: LowFuel answers true for every input; what was handed in reads behind the call as before; the listed variables are as the program's own text lays them.
-/
import Derived.Test.YtapgaclonilnbaaDoorGw
import Derived.Test.YtapgaclonilnbaaDoorGv
import Derived.Test.YtapgaclonilnbaaDoorCards
import Derived.Test.YtapgaclonilnbaaDoorTie
import Derived.SizedLaws
import Derived.OpenShut
import Derived.ChangeMaps5
import Derived.SevenTiedAt
namespace Go.Proofs.YtapgaclonilnbaaDoor
open Go.ChangeShapes Go.ChangeMaps Go.WideShapes Go.ChangeAt Go.RowKit

theorem lowFuel_laidOut : laidOutB Tryd.prog = true := by kernel_rfl

set_option maxRecDepth 100000 in
theorem lowFuel_lifted (os : Os) (started : os.Started) (H : Type) (enc : TypeId × Value → H) :
    ReturnsInHanded {} Tryd.checked os 3 .any (fun w args => (Rows.lowFuelSpec.pre enc Tryd.prog Tryd.f3 [] false w args ∧ laidMetH Tryd.prog laid1 w) ∧ sizedMet enc Tryd.prog Tryd.f3 (OpenSpec.ofChange Rows.lowFuelSpec) false w args)
      (Rows.lowFuelSpec.post enc Tryd.prog Tryd.f3 false true false false) := by
  refine returnsInHanded_of_change_and (C := Tryd.checked) (X := fun w _ => laidMetH Tryd.prog laid1 w) (fun _ _ _ hh h => h.of_heap hh) own started (by kernel_rfl) Tryd.func3
    (ChangeSpec.witness_shaped (enc := enc) (C := Tryd.checked) (os := os) (X := fun w _ => laidMetH Tryd.prog laid1 w) false (World.doorLaid Tryd.prog 400 os) #[.slice none 0 0, .slice none 0 0, .agg #[.int .i64 0, .int .i64 0]] 8 rfl (World.shaped_of_RefB (by kernel_rfl) (by kernel_rfl)) (by kernel_rfl) (by kernel_rfl) (by kernel_rfl) (door_met os _)) ?_
  intro W base args ds gs before hval0 hW _ hsz hL _
  have hval : ∀ (j : Nat) t v, Tryd.f3.params[j]? = some t → args[j]? = some v → Value.okWide Tryd.prog W .any base t v := hval0
  have hW' := hW
  obtain ⟨p, q, hA0, hV, rfl, hfz, hnd⟩ := hW
  have hA : DataW.TrodAll enc Tryd.prog W 0 (fun _ => true) true Tryd.f3.params.toList args.toList ds p := hA0
  rw [Tryd.params3] at hA hval
  obtain ⟨v0, vs0, d0, ds0, p0, q0, hargs, rfl, rfl, h0, r0⟩ := trodAll_cons hA
  obtain ⟨v1, vs1, d1, ds1, p1, q1, rfl, rfl, rfl, h1, r1⟩ := trodAll_cons r0
  obtain ⟨v2, vs2, d2, ds2, p2, q2, rfl, rfl, rfl, h2, r2⟩ := trodAll_cons r1
  obtain ⟨rfl, rfl, rfl⟩ := trodAll_nil r2
  obtain rfl : args = #[v0, v1, v2] := by cases args; simp_all
  obtain ⟨rfl, rfl⟩ := trodVars_none hV
  have k0 := h0
  have R0 : Wgt 22 d0 := fun n hn => of_decide_eq_true (List.all_eq_true.1 hsz n (DataW.weights_mem_each (j := 0) (t := 22) (by show (Tryd.f3.params.toList ++ _)[0]? = _; rw [Tryd.params3]; rfl) rfl n hn))
  obtain ⟨A0, L0, C0, rfl⟩ := okWide_slice Tryd.underlying22 (hval 0 22 v0 rfl rfl)
  have k1 := h1
  have R1 : Wgt 23 d1 := fun n hn => of_decide_eq_true (List.all_eq_true.1 hsz n (DataW.weights_mem_each (j := 1) (t := 23) (by show (Tryd.f3.params.toList ++ _)[1]? = _; rw [Tryd.params3]; rfl) rfl n hn))
  obtain ⟨A1, L1, C1, rfl⟩ := okWide_slice Tryd.underlying23 (hval 1 23 v1 rfl rfl)
  have k2 := h2
  obtain ⟨c2, rfl, z2⟩ := okWide_two Tryd.underlying24 (hval 2 24 v2 rfl rfl)
  clear hA0 hval0
  simp only [List.append_nil] at hW'
  obtain ⟨fuel0, g0⟩ := h0
  obtain ⟨u0, l0, e0, m0⟩ := open_Lfs g0 R0
  obtain rfl : u0 = .slice A0 L0 C0 := by
    have e2 : [Value.slice A0 L0 C0] = [u0] := e0
    simp at e2
    exact e2.symm
  obtain ⟨fuel1, g1⟩ := h1
  obtain ⟨u1, l1, e1, m1⟩ := open_Inp g1 R1
  obtain rfl : u1 = .slice A1 L1 C1 := by
    have e2 : [Value.slice A1 L1 C1] = [u1] := e1
    simp at e2
    exact e2.symm
  obtain ⟨fuel2, g2⟩ := h2
  obtain ⟨x2, y2, e2⟩ := open_two g2
  obtain rfl : c2 = #[.int .i64 x2, .int .i64 y2] := by
    obtain ⟨c⟩ := c2
    have e2 : c = _ := e2
    rw [e2]
  refine (lowFuel_walk2 l0 _ l1 _ x2 y2 W (of_laid hL) m0 m1).mono fun e W' ⟨he, hg⟩ => ?_
  subst he
  have t0 : ∀ x ∈ p0, x.block < W.heap.size := fun x hx => hW'.lt x (by simp [hx])
  have t1 : ∀ x ∈ p1, x.block < W.heap.size := fun x hx => hW'.lt x (by simp [hx])
  have t2 : ∀ x ∈ p2, x.block < W.heap.size := fun x hx => hW'.lt x (by simp [hx])
  exact ⟨_, rfl, _, _, _, [], _, [], hW', (trodAll_cons_mk (shut_bool Tryd.underlying4 _) trodAll_mk0), (trodAll_cons_mk (Below.trod lowFuel_laidOut (by kernel_rfl) (of_decide_eq_true (by kernel_rfl)) k0 hg t0) (trodAll_cons_mk (Below.trod lowFuel_laidOut (by kernel_rfl) (of_decide_eq_true (by kernel_rfl)) k1 hg t1) (trodAll_cons_mk (Below.trod lowFuel_laidOut (by kernel_rfl) (of_decide_eq_true (by kernel_rfl)) k2 hg t2) trodAll_mk0))), rfl, hg.frame _, fun h => by cases h⟩

theorem lowFuel_row : Rows.LowFuelSaid :=
  OpenClaim.holds_of_wide 3 Tryd.f3 rfl rfl rfl rfl rfl rfl rfl ⟨rfl, rfl, rfl, rfl, rfl⟩ rfl rfl rfl rfl rfl (by kernel_rfl) Tryd.func3 (by kernel_rfl)
    (of_decide_eq_true (by kernel_rfl)) (by unfold Func.isWrapper; first | (rw [if_pos (by decide +kernel)]; kernel_rfl) | (rw [if_neg (by decide +kernel)]; exact ⟨rfl, rfl⟩))
    (fun os started H enc _ => lowFuel_lifted os started H enc)

theorem lowFuel_holds : Rows.LowFuelCardSaid :=
  Claim7.holds_tied_plain_at .later [] [.wider] true (true, "2b6017a0ff0d5dd6b0eabc8625ca9db51c2d4e4457e555f72626ea52d29f44e6") true
    lowFuel_row (fun _ h => by cases h) (by kernel_rfl) (fun _ h => by cases h) lowFuel_row_tie rfl ⟨rfl, rfl⟩ (by kernel_rfl) rfl
    (fun f fn hf hfn => by
      obtain rfl : f = 3 := Option.some.inj ((show Tryd.prog.funcNamed "ferrule/ferrulelaw17.LowFuel" = some 3 by kernel_rfl).symm.trans hf) |>.symm
      obtain rfl : fn = Tryd.f3 := (Option.some.inj (Tryd.func3.symm.trans hfn)).symm
      exact ⟨by kernel_rfl, fun j t ht => by
        rw [Tryd.params3] at ht
        have hm : t ∈ [22, 23, 24] := by simpa using Array.mem_of_getElem? ht
        have hall : ([22, 23, 24].all fun u => !Tryd.prog.wantsStandIn u) = true := by kernel_rfl
        exact (show Tryd.prog.wantsStandIn t = false by simpa using List.all_eq_true.1 hall t (by simpa using hm))⟩)
    (by kernel_rfl)

#print axioms lowFuel_holds
end Go.Proofs.YtapgaclonilnbaaDoor
