/-
  Proved: the Go function NumWraps answers true for every three ints: wrapping a number into an integer type comes to itself, lies in the type's range, does not mind what is added of two to its bits, and differs from the number by a multiple of that; of other kinds it is 0. Its arguments read afterwards as they read before.
  Conditions: the table num.shapes reads, when the call begins, as the program's own text lays it (the card ties it to that text, over the pruned copy of the project that the seat holds); nothing else beyond the given row's own.
-/
import Derived.Test.YtjcinojbbfjnjaaDoorLift
import Derived.Test.YtjcinojbbfjnjaaDoorTie
import Derived.Test.YtjcinojbbfjnjaaDoorCards
import Derived.SevenTiedAt
import Derived.Deep.RegionWith
namespace Go.Proofs.YtjcinojbbfjnjaaDoor
open Go.ChangeShapes Go.WideShapes Go.ChangeAt Go.RowKit

set_option maxHeartbeats 1000000 in
theorem nw_3 (v k : Int) (w : World) (t : Tab w) :
    Calls Tryd.prog 6 #[.int .i64 3, .int .i64 v, .int .i64 k] w fun e w' => e = .returned (.bool true) ∧ Below w.heap.size w w' := by
  have hlo : -128 ≤ wr 3 v := by simp [wr]; omega
  have hhi : wr 3 v ≤ 127 := by simp [wr]; omega
  have hi : wr 3 (wr 3 v) = wr 3 v := by simp [wr]
  have hadd : wr 3 (wrap64 (v + wrap64 (k * 256))) = wr 3 v := by simp only [wr, wrap64]; simp; omega
  have hand : bits .and .i64 (wrap64 (wr 3 v - v)) 255 = 0 := by rw [and8]; simp only [wr, wrap64]; simp; omega
  have H : Hid (Sh 3 8 true) := by simp [Hid, Sh]
  have T : Hid (Tab w) := t
  have R : Hid (Below w.heap.size w w) := Below.refl _ _
  clear t
  go_enter Tryd.func6, Tryd.ntmps6
  go_wp2_with (first
    | (go_at_call 12; refine (int_yes H.out (by decide) _ (Hid.out (by assumption))).mono ?_; rintro e w1 ⟨rfl, hb⟩; have R : Hid (Below w.heap.size w w1) := Below.next R.out hb; have T : Hid (Tab w1) := T.out.below hb; clear hb)
    | (go_at_call 8; refine (bits_any H.out _ (Hid.out (by assumption))).mono ?_; rintro e w1 ⟨rfl, hb⟩; have R : Hid (Below w.heap.size w w1) := Below.next R.out hb; have T : Hid (Tab w1) := T.out.below hb; clear hb)
    | (go_at_call 10; refine (range_3 _ (Hid.out (by assumption))).mono ?_; rintro e w1 ⟨rfl, hb⟩; have R : Hid (Below w.heap.size w w1) := Below.next R.out hb; have T : Hid (Tab w1) := T.out.below hb; clear hb)
    | (go_at_call 14; refine (wrap_any _ (by decide) (by decide) _ (Hid.out (by assumption))).mono ?_; rintro e w1 ⟨rfl, hb⟩; have R : Hid (Below w.heap.size w w1) := Below.next R.out hb; have T : Hid (Tab w1) := T.out.below hb; clear hb))
  go_ret
  exact ⟨rfl, R.out⟩

set_option maxHeartbeats 1000000 in
theorem nw_4 (v k : Int) (w : World) (t : Tab w) :
    Calls Tryd.prog 6 #[.int .i64 4, .int .i64 v, .int .i64 k] w fun e w' => e = .returned (.bool true) ∧ Below w.heap.size w w' := by
  have hlo : -32768 ≤ wr 4 v := by simp [wr]; omega
  have hhi : wr 4 v ≤ 32767 := by simp [wr]; omega
  have hi : wr 4 (wr 4 v) = wr 4 v := by simp [wr]
  have hadd : wr 4 (wrap64 (v + wrap64 (k * 65536))) = wr 4 v := by simp only [wr, wrap64]; simp; omega
  have hand : bits .and .i64 (wrap64 (wr 4 v - v)) 65535 = 0 := by rw [and16]; simp only [wr, wrap64]; simp; omega
  have H : Hid (Sh 4 16 true) := by simp [Hid, Sh]
  have T : Hid (Tab w) := t
  have R : Hid (Below w.heap.size w w) := Below.refl _ _
  clear t
  go_enter Tryd.func6, Tryd.ntmps6
  go_wp2_with (first
    | (go_at_call 12; refine (int_yes H.out (by decide) _ (Hid.out (by assumption))).mono ?_; rintro e w1 ⟨rfl, hb⟩; have R : Hid (Below w.heap.size w w1) := Below.next R.out hb; have T : Hid (Tab w1) := T.out.below hb; clear hb)
    | (go_at_call 8; refine (bits_any H.out _ (Hid.out (by assumption))).mono ?_; rintro e w1 ⟨rfl, hb⟩; have R : Hid (Below w.heap.size w w1) := Below.next R.out hb; have T : Hid (Tab w1) := T.out.below hb; clear hb)
    | (go_at_call 10; refine (range_4 _ (Hid.out (by assumption))).mono ?_; rintro e w1 ⟨rfl, hb⟩; have R : Hid (Below w.heap.size w w1) := Below.next R.out hb; have T : Hid (Tab w1) := T.out.below hb; clear hb)
    | (go_at_call 14; refine (wrap_any _ (by decide) (by decide) _ (Hid.out (by assumption))).mono ?_; rintro e w1 ⟨rfl, hb⟩; have R : Hid (Below w.heap.size w w1) := Below.next R.out hb; have T : Hid (Tab w1) := T.out.below hb; clear hb))
  go_ret
  exact ⟨rfl, R.out⟩

set_option maxHeartbeats 1000000 in
theorem nw_5 (v k : Int) (w : World) (t : Tab w) :
    Calls Tryd.prog 6 #[.int .i64 5, .int .i64 v, .int .i64 k] w fun e w' => e = .returned (.bool true) ∧ Below w.heap.size w w' := by
  have hlo : -2147483648 ≤ wr 5 v := by simp [wr]; omega
  have hhi : wr 5 v ≤ 2147483647 := by simp [wr]; omega
  have hi : wr 5 (wr 5 v) = wr 5 v := by simp [wr]
  have hadd : wr 5 (wrap64 (v + wrap64 (k * 4294967296))) = wr 5 v := by simp only [wr, wrap64]; simp; omega
  have hand : bits .and .i64 (wrap64 (wr 5 v - v)) 4294967295 = 0 := by rw [and32]; simp only [wr, wrap64]; simp; omega
  have H : Hid (Sh 5 32 true) := by simp [Hid, Sh]
  have T : Hid (Tab w) := t
  have R : Hid (Below w.heap.size w w) := Below.refl _ _
  clear t
  go_enter Tryd.func6, Tryd.ntmps6
  go_wp2_with (first
    | (go_at_call 12; refine (int_yes H.out (by decide) _ (Hid.out (by assumption))).mono ?_; rintro e w1 ⟨rfl, hb⟩; have R : Hid (Below w.heap.size w w1) := Below.next R.out hb; have T : Hid (Tab w1) := T.out.below hb; clear hb)
    | (go_at_call 8; refine (bits_any H.out _ (Hid.out (by assumption))).mono ?_; rintro e w1 ⟨rfl, hb⟩; have R : Hid (Below w.heap.size w w1) := Below.next R.out hb; have T : Hid (Tab w1) := T.out.below hb; clear hb)
    | (go_at_call 10; refine (range_5 _ (Hid.out (by assumption))).mono ?_; rintro e w1 ⟨rfl, hb⟩; have R : Hid (Below w.heap.size w w1) := Below.next R.out hb; have T : Hid (Tab w1) := T.out.below hb; clear hb)
    | (go_at_call 14; refine (wrap_any _ (by decide) (by decide) _ (Hid.out (by assumption))).mono ?_; rintro e w1 ⟨rfl, hb⟩; have R : Hid (Below w.heap.size w w1) := Below.next R.out hb; have T : Hid (Tab w1) := T.out.below hb; clear hb))
  go_ret
  exact ⟨rfl, R.out⟩

set_option maxHeartbeats 1000000 in
theorem nw_6 (v k : Int) (w : World) (t : Tab w) :
    Calls Tryd.prog 6 #[.int .i64 6, .int .i64 v, .int .i64 k] w fun e w' => e = .returned (.bool true) ∧ Below w.heap.size w w' := by
  have hlo : 0 ≤ wr 6 v := by simp [wr]; omega
  have hhi : wr 6 v ≤ 255 := by simp [wr]; omega
  have hi : wr 6 (wr 6 v) = wr 6 v := by simp [wr]
  have hadd : wr 6 (wrap64 (v + wrap64 (k * 256))) = wr 6 v := by simp only [wr, wrap64]; simp; omega
  have hand : bits .and .i64 (wrap64 (wr 6 v - v)) 255 = 0 := by rw [and8]; simp only [wr, wrap64]; simp; omega
  have H : Hid (Sh 6 8 false) := by simp [Hid, Sh]
  have T : Hid (Tab w) := t
  have R : Hid (Below w.heap.size w w) := Below.refl _ _
  clear t
  go_enter Tryd.func6, Tryd.ntmps6
  go_wp2_with (first
    | (go_at_call 12; refine (int_yes H.out (by decide) _ (Hid.out (by assumption))).mono ?_; rintro e w1 ⟨rfl, hb⟩; have R : Hid (Below w.heap.size w w1) := Below.next R.out hb; have T : Hid (Tab w1) := T.out.below hb; clear hb)
    | (go_at_call 8; refine (bits_any H.out _ (Hid.out (by assumption))).mono ?_; rintro e w1 ⟨rfl, hb⟩; have R : Hid (Below w.heap.size w w1) := Below.next R.out hb; have T : Hid (Tab w1) := T.out.below hb; clear hb)
    | (go_at_call 10; refine (range_6 _ (Hid.out (by assumption))).mono ?_; rintro e w1 ⟨rfl, hb⟩; have R : Hid (Below w.heap.size w w1) := Below.next R.out hb; have T : Hid (Tab w1) := T.out.below hb; clear hb)
    | (go_at_call 14; refine (wrap_any _ (by decide) (by decide) _ (Hid.out (by assumption))).mono ?_; rintro e w1 ⟨rfl, hb⟩; have R : Hid (Below w.heap.size w w1) := Below.next R.out hb; have T : Hid (Tab w1) := T.out.below hb; clear hb))
  go_ret
  exact ⟨rfl, R.out⟩

set_option maxHeartbeats 1000000 in
theorem nw_7 (v k : Int) (w : World) (t : Tab w) :
    Calls Tryd.prog 6 #[.int .i64 7, .int .i64 v, .int .i64 k] w fun e w' => e = .returned (.bool true) ∧ Below w.heap.size w w' := by
  have hlo : 0 ≤ wr 7 v := by simp [wr]; omega
  have hhi : wr 7 v ≤ 65535 := by simp [wr]; omega
  have hi : wr 7 (wr 7 v) = wr 7 v := by simp [wr]
  have hadd : wr 7 (wrap64 (v + wrap64 (k * 65536))) = wr 7 v := by simp only [wr, wrap64]; simp; omega
  have hand : bits .and .i64 (wrap64 (wr 7 v - v)) 65535 = 0 := by rw [and16]; simp only [wr, wrap64]; simp; omega
  have H : Hid (Sh 7 16 false) := by simp [Hid, Sh]
  have T : Hid (Tab w) := t
  have R : Hid (Below w.heap.size w w) := Below.refl _ _
  clear t
  go_enter Tryd.func6, Tryd.ntmps6
  go_wp2_with (first
    | (go_at_call 12; refine (int_yes H.out (by decide) _ (Hid.out (by assumption))).mono ?_; rintro e w1 ⟨rfl, hb⟩; have R : Hid (Below w.heap.size w w1) := Below.next R.out hb; have T : Hid (Tab w1) := T.out.below hb; clear hb)
    | (go_at_call 8; refine (bits_any H.out _ (Hid.out (by assumption))).mono ?_; rintro e w1 ⟨rfl, hb⟩; have R : Hid (Below w.heap.size w w1) := Below.next R.out hb; have T : Hid (Tab w1) := T.out.below hb; clear hb)
    | (go_at_call 10; refine (range_7 _ (Hid.out (by assumption))).mono ?_; rintro e w1 ⟨rfl, hb⟩; have R : Hid (Below w.heap.size w w1) := Below.next R.out hb; have T : Hid (Tab w1) := T.out.below hb; clear hb)
    | (go_at_call 14; refine (wrap_any _ (by decide) (by decide) _ (Hid.out (by assumption))).mono ?_; rintro e w1 ⟨rfl, hb⟩; have R : Hid (Below w.heap.size w w1) := Below.next R.out hb; have T : Hid (Tab w1) := T.out.below hb; clear hb))
  go_ret
  exact ⟨rfl, R.out⟩

set_option maxHeartbeats 1000000 in
theorem nw_8 (v k : Int) (w : World) (t : Tab w) :
    Calls Tryd.prog 6 #[.int .i64 8, .int .i64 v, .int .i64 k] w fun e w' => e = .returned (.bool true) ∧ Below w.heap.size w w' := by
  have hlo : 0 ≤ wr 8 v := by simp [wr]; omega
  have hhi : wr 8 v ≤ 4294967295 := by simp [wr]; omega
  have hi : wr 8 (wr 8 v) = wr 8 v := by simp [wr]
  have hadd : wr 8 (wrap64 (v + wrap64 (k * 4294967296))) = wr 8 v := by simp only [wr, wrap64]; simp; omega
  have hand : bits .and .i64 (wrap64 (wr 8 v - v)) 4294967295 = 0 := by rw [and32]; simp only [wr, wrap64]; simp; omega
  have H : Hid (Sh 8 32 false) := by simp [Hid, Sh]
  have T : Hid (Tab w) := t
  have R : Hid (Below w.heap.size w w) := Below.refl _ _
  clear t
  go_enter Tryd.func6, Tryd.ntmps6
  go_wp2_with (first
    | (go_at_call 12; refine (int_yes H.out (by decide) _ (Hid.out (by assumption))).mono ?_; rintro e w1 ⟨rfl, hb⟩; have R : Hid (Below w.heap.size w w1) := Below.next R.out hb; have T : Hid (Tab w1) := T.out.below hb; clear hb)
    | (go_at_call 8; refine (bits_any H.out _ (Hid.out (by assumption))).mono ?_; rintro e w1 ⟨rfl, hb⟩; have R : Hid (Below w.heap.size w w1) := Below.next R.out hb; have T : Hid (Tab w1) := T.out.below hb; clear hb)
    | (go_at_call 10; refine (range_8 _ (Hid.out (by assumption))).mono ?_; rintro e w1 ⟨rfl, hb⟩; have R : Hid (Below w.heap.size w w1) := Below.next R.out hb; have T : Hid (Tab w1) := T.out.below hb; clear hb)
    | (go_at_call 14; refine (wrap_any _ (by decide) (by decide) _ (Hid.out (by assumption))).mono ?_; rintro e w1 ⟨rfl, hb⟩; have R : Hid (Below w.heap.size w w1) := Below.next R.out hb; have T : Hid (Tab w1) := T.out.below hb; clear hb))
  go_ret
  exact ⟨rfl, R.out⟩

set_option maxHeartbeats 1000000 in
theorem nw_no (k v j : Int) (h : Sh k 0 false) (hk : k < 3 ∨ 8 < k) (w : World) (t : Tab w) :
    Calls Tryd.prog 6 #[.int .i64 k, .int .i64 v, .int .i64 j] w fun e w' => e = .returned (.bool true) ∧ Below w.heap.size w w' := by
  have H : Hid (Sh k 0 false) := h
  have H3 : Hid (Sh 3 8 true) := by simp [Hid, Sh]
  have T : Hid (Tab w) := t
  have R : Hid (Below w.heap.size w w) := Below.refl _ _
  have K : Hid (k < 3 ∨ 8 < k) := hk
  clear t h hk
  go_enter Tryd.func6, Tryd.ntmps6
  go_wp2_with (first
    | (go_at_call_of 12 k; refine (int_no H.out _ (Hid.out (by assumption))).mono ?_; rintro e w1 ⟨rfl, hb⟩; have R : Hid (Below w.heap.size w w1) := Below.next R.out hb; have T : Hid (Tab w1) := T.out.below hb; clear hb)
    | (go_at_call 12; refine (int_yes H3.out (by decide) _ (Hid.out (by assumption))).mono ?_; rintro e w1 ⟨rfl, hb⟩; have R : Hid (Below w.heap.size w w1) := Below.next R.out hb; have T : Hid (Tab w1) := T.out.below hb; clear hb)
    | (go_at_call 8; refine (bits_any H.out _ (Hid.out (by assumption))).mono ?_; rintro e w1 ⟨rfl, hb⟩; have R : Hid (Below w.heap.size w w1) := Below.next R.out hb; have T : Hid (Tab w1) := T.out.below hb; clear hb)
    | (go_at_call 14; refine (wrap_no _ H.out _ (Hid.out (by assumption))).mono ?_; rintro e w1 ⟨rfl, hb⟩; have R : Hid (Below w.heap.size w w1) := Below.next R.out hb; have T : Hid (Tab w1) := T.out.below hb; clear hb))
  go_ret
  exact ⟨rfl, R.out⟩

theorem numWraps_walk (k v j : Int) (_ : (Lit.int .i64 k).wf = true) (_ : (Lit.int .i64 v).wf = true) (_ : (Lit.int .i64 j).wf = true) (w : World) (t : Tab w) :
    Calls Tryd.prog 6 #[.int .i64 k, .int .i64 v, .int .i64 j] w fun e w' => e = .returned (.bool true) ∧ Below w.heap.size w w' := by
  by_cases h : 3 ≤ k ∧ k ≤ 8
  · have hk : k = 3 ∨ k = 4 ∨ k = 5 ∨ k = 6 ∨ k = 7 ∨ k = 8 := by omega
    rcases hk with rfl | rfl | rfl | rfl | rfl | rfl
    · exact nw_3 v j w t
    · exact nw_4 v j w t
    · exact nw_5 v j w t
    · exact nw_6 v j w t
    · exact nw_7 v j w t
    · exact nw_8 v j w t
  · exact nw_no k v j (by simp [Sh]; omega) (by omega) w t

set_option maxRecDepth 100000 in
theorem numWraps_lifted (os : Os) (started : os.Started) (H : Type) (enc : TypeId × Value → H) :
    ReturnsInHanded {} Tryd.checked os 6 .any (fun w args => (Rows.numWrapsSpec.pre enc Tryd.prog Tryd.f6 [] false w args ∧ laidMetH Tryd.prog laid1 w) ∧ sizedMet enc Tryd.prog Tryd.f6 (OpenSpec.ofChange Rows.numWrapsSpec) false w args)
      (Rows.numWrapsSpec.post enc Tryd.prog Tryd.f6 false true false false) := by
  refine returnsInHanded_of_change_and (C := Tryd.checked) (X := fun w _ => laidMetH Tryd.prog laid1 w) (fun _ _ _ hh h => h.of_heap hh) own started (by kernel_rfl) Tryd.func6
    (ChangeSpec.witness_shaped (enc := enc) (C := Tryd.checked) (os := os) (X := fun w _ => laidMetH Tryd.prog laid1 w) false (World.doorLaid Tryd.prog 400 os) #[.int .i64 0, .int .i64 0, .int .i64 0] 8 rfl (World.shaped_of_RefB (by kernel_rfl) (by kernel_rfl)) (by kernel_rfl) (by kernel_rfl) (by kernel_rfl) (door_met os _)) ?_
  intro W base args ds gs before hval0 hW _ _ hL _
  have hval : ∀ (j : Nat) t v, Tryd.f6.params[j]? = some t → args[j]? = some v → Value.okWide Tryd.prog W .any base t v := hval0
  have hW' := hW
  obtain ⟨p, q, hA0, hV, rfl, hfz, hnd⟩ := hW
  have hA : DataW.TrodAll enc Tryd.prog W 0 (fun _ => true) true Tryd.f6.params.toList args.toList ds p := hA0
  rw [Tryd.params6] at hA hval
  obtain ⟨v0, vs0, d0, ds0, p0, q0, hargs, rfl, rfl, h0, r0⟩ := trodAll_cons hA
  obtain ⟨v1, vs1, d1, ds1, p1, q1, rfl, rfl, rfl, h1, r1⟩ := trodAll_cons r0
  obtain ⟨v2, vs2, d2, ds2, p2, q2, rfl, rfl, rfl, h2, r2⟩ := trodAll_cons r1
  obtain ⟨rfl, rfl, rfl⟩ := trodAll_nil r2
  obtain rfl : args = #[v0, v1, v2] := by cases args; simp_all
  obtain ⟨rfl, rfl⟩ := trodVars_none hV
  obtain ⟨a0, rfl, rfl, rfl, w0⟩ := open_int Tryd.underlying3 (hval 0 3 v0 rfl rfl) h0
  obtain ⟨a1, rfl, rfl, rfl, w1⟩ := open_int Tryd.underlying3 (hval 1 3 v1 rfl rfl) h1
  obtain ⟨a2, rfl, rfl, rfl, w2⟩ := open_int Tryd.underlying3 (hval 2 3 v2 rfl rfl) h2
  clear hA0 hval0
  simp only [List.append_nil] at hW'
  refine (numWraps_walk a0 a1 a2 w0 w1 w2 W (of_laid hL)).mono fun e W' ⟨he, hg⟩ => ?_
  subst he
  exact ⟨_, rfl, _, _, _, [], [], [], hW', (trodAll_cons_mk (shut_bool Tryd.underlying4 _) trodAll_mk0), (trodAll_cons_mk (shut_int Tryd.underlying3 w0) (trodAll_cons_mk (shut_int Tryd.underlying3 w1) (trodAll_cons_mk (shut_int Tryd.underlying3 w2) trodAll_mk0))), rfl, hg.frame _, fun h => by cases h⟩

theorem numWraps_row : Rows.NumWrapsSaid :=
  OpenClaim.holds_of_wide 6 Tryd.f6 rfl rfl rfl rfl rfl rfl rfl ⟨rfl, rfl, rfl, rfl, rfl⟩ rfl rfl rfl rfl rfl (by kernel_rfl) Tryd.func6 (by kernel_rfl)
    (of_decide_eq_true (by kernel_rfl)) (by unfold Func.isWrapper; first | (rw [if_pos (by decide +kernel)]; kernel_rfl) | (rw [if_neg (by decide +kernel)]; exact ⟨rfl, rfl⟩))
    (fun os started H enc _ => numWraps_lifted os started H enc)

theorem numWraps_holds : Rows.NumWrapsCardSaid :=
  Claim7.holds_tied_plain_at .later [] [.data] true (true, "302cc928f815ed1bdd036c7b84ed4e8f37c164cd36297476f1d171a20a166aa9") false
    numWraps_row (fun _ h => by cases h) (by kernel_rfl) (fun _ h => by cases h) numWraps_row_tie rfl ⟨rfl, rfl⟩ (by kernel_rfl) rfl
    (fun f fn hf hfn => by
      obtain rfl : f = 6 := Option.some.inj ((show Tryd.prog.funcNamed "ferrule/ferrulelaw01.NumWraps" = some 6 by kernel_rfl).symm.trans hf) |>.symm
      obtain rfl : fn = Tryd.f6 := (Option.some.inj (Tryd.func6.symm.trans hfn)).symm
      exact ⟨by kernel_rfl, fun j t ht => by
        rw [Tryd.params6] at ht
        have hm : t ∈ [3, 3, 3] := by simpa using Array.mem_of_getElem? ht
        have hall : ([3, 3, 3].all fun u => !Tryd.prog.wantsStandIn u) = true := by kernel_rfl
        exact (show Tryd.prog.wantsStandIn t = false by simpa using List.all_eq_true.1 hall t (by simpa using hm))⟩)
    (by kernel_rfl)
#print axioms numWraps_holds
end Go.Proofs.YtjcinojbbfjnjaaDoor
