/-
  Proved: TypesRound answers true for every number and both ways.
-/
import Derived.Test.YtdekgebpbopfpaaDoorRoundI
import Derived.Deep.Cut
namespace Go.Proofs.YtdekgebpbopfpaaDoor
open Go.RowKit

set_option maxRecDepth 100000 in
set_option maxHeartbeats 4000000 in
theorem round_walk (n : Int) (boxed : Bool) (w : World) (ht : Tab w) :
    Calls Tryd.prog 5 #[.int .i64 n, .bool boxed] w fun e w' => e = .returned (.bool true) ∧ Below w.heap.size w w' := by
  have h7 := and7 n
  obtain ⟨m, hm1, hm8, hm⟩ : ∃ m : Nat, 1 ≤ m ∧ m ≤ 8 ∧ 1 + n % 8 = (m : Int) := ⟨(1 + n % 8).toNat, by omega, by omega, by omega⟩
  have HT : Hid (Tab w) := ht
  clear ht
  go_enter Tryd.func5, Tryd.ntmps5
  go_wp2
  clear h7 hm
  have hm0 : ¬ m = 0 := by omega
  go_loopw [5, 6] (fun v i wr => ∃ k : Nat, k ≤ m ∧ i = .int .i64 (k : Int) ∧ Hid (RI m boxed w k v wr)) (fun _ i _ => m - (intOf i).toNat)
  case atStart => exact ⟨0, Nat.zero_le _, rfl, Below.refl _ _, fun _ => 0, fun _ => 0, ⟨rfl, Or.inl ⟨rfl, rfl⟩⟩, fun i hi => absurd hi (Nat.not_lt_zero _)⟩
  case round =>
    obtain ⟨k, hk, rfl, HR⟩ := hrel
    by_cases hlt : k < m
    · have hlt' : (k : Int) < (m : Int) := by omega
      obtain ⟨j, hj⟩ : ∃ j : Nat, (k + 1) % m = j := ⟨_, rfl⟩
      have hjm : j < m := by rw [← hj]; exact Nat.mod_lt _ (by omega)
      have hj8 : j < 8 := by omega
      have hji : ((k : Int) + 1) % (m : Int) = (j : Int) := by rw [← hj]; simp
      have hjt : ((k : Int) + 1).tmod (m : Int) = (j : Int) := by rw [Int.tmod_eq_emod_of_nonneg (by omega)]; exact hji
      have hc1 := fun (w' : World) => conv_new w' (65 + (j : Int)) j hj8 rfl
      have hc2 := fun (w' : World) (a b : Obj) => conv_two w' a b (65 + (k : Int)) k (by omega) rfl
      have hc3 := fun (w' : World) (a b c : Obj) => conv_three w' a b c (65 + (k : Int)) k (by omega) rfl
      have HJ : Hid ((k + 1) % m = j) := hj
      clear hj
      have RM : Hid (k + 1 ≤ maxLen ∧ (k + 1) * 288 ≤ 140737488355328) := room8 (by omega)
      obtain ⟨h1, rs, qs, h2, h3⟩ := HR.out
      have O1 : Hid (Below w.heap.size w wr) := h1
      have O2 : Hid (wr.ownsRow w.heap.size 38 20 u5 k (flt rs k)) := h2
      have O3 : Hid (∀ i, i < k → Has m boxed i (rs i) (qs i) wr) := h3
      clear h1 h2 h3 HR
      obtain ⟨i0, hi, hz0, hz1, hz2⟩ : ∃ i, Tryd.prog.info? 38 = some i ∧ i.zero = some (.agg (icells 0 ⟨#[]⟩ none 0 0 none 0 0 zr).toArray) ∧ i.size = 20 ∧ i.bytes = 288 := by
        have := info38
        cases hq : Tryd.prog.info? 38 with
        | none => rw [hq] at this; cases this
        | some i =>
          rw [hq] at this
          simp only [Option.map_some, Option.some.injEq, Prod.mk.injEq] at this
          exact ⟨i, rfl, this.1, this.2.1, this.2.2⟩
      have HI : Hid (Tryd.prog.info? 38 = some i0 ∧ i0.zero = some (.agg (icells 0 ⟨#[]⟩ none 0 0 none 0 0 zr).toArray) ∧ i0.size = 20 ∧ i0.bytes = 288) := ⟨hi, hz0, hz1, hz2⟩
      clear hi hz0 hz1 hz2
      cases boxed with
      | false =>
        by_cases hodd : k % 2 = 1
        · have he : (k : Int) % 2 = 1 := by omega
          have het : (k : Int).tmod 2 = 1 := by rw [Int.tmod_eq_emod_of_nonneg (by omega)]; exact he
          have PC : Hid (pcl m false k (wr.heap.size + 1 + 1) = [.string ⟨#[120]⟩, .bool false, .int .i64 6, .string ⟨#[]⟩, .int .i64 0, .slice none 0 0, .int .i64 0, .string ⟨#[121]⟩, .bool false, .int .i64 10, .string ⟨#[]⟩, .int .i64 2, .slice (some ⟨wr.heap.size + 1 + 1, 0, none⟩) 1 1, .int .i64 0]) := by
            show _ = _
            simp [pcl, ycl, hodd]
          go_wp2_with (at_builtin; go_loud (refine wpList_append_own _ rfl _ _ 22 rfl w.heap.size 38 i0 (.agg (icells 0 ⟨#[]⟩ none 0 0 none 0 0 zr).toArray) 20 288 Tryd.underlying22 HI.out.1 HI.out.2.1 HI.out.2.2.1 HI.out.2.2.2 rfl (by decide) _ _ _ rfl (owns_below O2.out (chain6 _ _ _ _ _ _ _)) ⟨wr.heap.size + 1 + 1 + 1 + 1 + 1, 0, none⟩ 1 1 (icl k (wr.heap.size + 1 + 1 + 1 + 1)) rfl rfl (news6 _ _ _ _ _ _ _ _) (icl_one _ _) RM.out.1 RM.out.2 (Nat.le_trans O1.out.size (chain6 _ _ _ _ _ _ _).size) ?_); intro v5 w5 ho5 hg5 _; have S5 : Hid (RI m false w (k + 1) v5 w5) := RI.step O1.out O2.out O3.out (chain6 _ _ _ _ _ _ _) (q := wr.heap.size + 1 + 1) (r := wr.heap.size + 1 + 1 + 1 + 1) ⟨by rw [PC.out]; exact (at6 _ _ _ _ _ _ _ _ _).2, by rw [HJ.out]; exact (at6 _ _ _ _ _ _ _ _ _).1⟩ ho5 hg5; clear ho5 hg5)
          go_roundw
          case rel => exact ⟨k + 1, by omega, by go_num, S5.out⟩
          case measure => simp [intOf]; omega
        · have he : (k : Int) % 2 = 0 := by omega
          have het : (k : Int).tmod 2 = 0 := by rw [Int.tmod_eq_emod_of_nonneg (by omega)]; exact he
          have PC : Hid (pcl m false k (wr.heap.size + 1) = [.string ⟨#[120]⟩, .bool false, .int .i64 6, .string ⟨#[]⟩, .int .i64 0, .slice none 0 0, .int .i64 0, .string ⟨#[121]⟩, .bool false, .int .i64 9, .string (nm j), .int .i64 0, .slice none 0 0, .int .i64 0]) := by
            show _ = _
            simp [pcl, ycl, hodd, HJ.out]
          go_wp2_with (at_builtin; go_loud (refine wpList_append_own _ rfl _ _ 22 rfl w.heap.size 38 i0 (.agg (icells 0 ⟨#[]⟩ none 0 0 none 0 0 zr).toArray) 20 288 Tryd.underlying22 HI.out.1 HI.out.2.1 HI.out.2.2.1 HI.out.2.2.2 rfl (by decide) _ _ _ rfl (owns_below O2.out (chain5 _ _ _ _ _ _)) ⟨wr.heap.size + 1 + 1 + 1 + 1, 0, none⟩ 1 1 (icl k (wr.heap.size + 1 + 1 + 1)) rfl rfl (news5 _ _ _ _ _ _ _) (icl_one _ _) RM.out.1 RM.out.2 (Nat.le_trans O1.out.size (chain5 _ _ _ _ _ _).size) ?_); intro v5 w5 ho5 hg5 _; have S5 : Hid (RI m false w (k + 1) v5 w5) := RI.step O1.out O2.out O3.out (chain5 _ _ _ _ _ _) (q := wr.heap.size + 1) (r := wr.heap.size + 1 + 1 + 1) ⟨by rw [PC.out]; exact (at5 _ _ _ _ _ _ _ _).2, by rw [HJ.out]; exact (at5 _ _ _ _ _ _ _ _).1⟩ ho5 hg5; clear ho5 hg5)
          go_roundw
          case rel => exact ⟨k + 1, by omega, by go_num, S5.out⟩
          case measure => simp [intOf]; omega
      | true =>
        by_cases hk0 : k = 0
        · have hkb : ((k : Int) == 0) = true := by simp; omega
          have hke : (k : Int) % 2 = 0 := by omega
          have het : (k : Int).tmod 2 = 0 := by rw [Int.tmod_eq_emod_of_nonneg (by omega)]; exact hke
          have HK0 : Hid (k = 0) := hk0
          clear hk0
          have PC : Hid (pcl m true k (wr.heap.size + 1 + 1) = [.string ⟨#[120]⟩, .bool false, .int .i64 6, .string ⟨#[]⟩, .int .i64 0, .slice none 0 0, .int .i64 0, .string ⟨#[121]⟩, .bool false, .int .i64 11, .string ⟨#[]⟩, .int .i64 0, .slice (some ⟨wr.heap.size + 1 + 1, 0, none⟩) 1 1, .int .i64 0]) := by
            show _ = _
            simp [pcl, ycl, HK0.out]
          go_wp2_with (at_builtin; go_loud (refine wpList_append_own _ rfl _ _ 22 rfl w.heap.size 38 i0 (.agg (icells 0 ⟨#[]⟩ none 0 0 none 0 0 zr).toArray) 20 288 Tryd.underlying22 HI.out.1 HI.out.2.1 HI.out.2.2.1 HI.out.2.2.2 rfl (by decide) _ _ _ rfl (owns_below O2.out (chain6 _ _ _ _ _ _ _)) ⟨wr.heap.size + 1 + 1 + 1 + 1 + 1, 0, none⟩ 1 1 (icl k (wr.heap.size + 1 + 1 + 1 + 1)) rfl rfl (news6 _ _ _ _ _ _ _ _) (icl_one _ _) RM.out.1 RM.out.2 (Nat.le_trans O1.out.size (chain6 _ _ _ _ _ _ _).size) ?_); intro v5 w5 ho5 hg5 _; have S5 : Hid (RI m true w (k + 1) v5 w5) := RI.step O1.out O2.out O3.out (chain6 _ _ _ _ _ _ _) (q := wr.heap.size + 1 + 1) (r := wr.heap.size + 1 + 1 + 1 + 1) ⟨by rw [PC.out]; exact (at6 _ _ _ _ _ _ _ _ _).2, by rw [HJ.out]; exact (at6 _ _ _ _ _ _ _ _ _).1⟩ ho5 hg5; clear ho5 hg5)
          go_roundw
          case rel => exact ⟨k + 1, by omega, by go_num, S5.out⟩
          case measure => simp [intOf]; omega
        · have hkb : ((k : Int) == 0) = false := by simp; omega
          have hkn : ¬ (k : Int) = 0 := by omega
          by_cases hodd : k % 2 = 1
          · have he : (k : Int) % 2 = 1 := by omega
            have het : (k : Int).tmod 2 = 1 := by rw [Int.tmod_eq_emod_of_nonneg (by omega)]; exact he
            have PC : Hid (pcl m true k (wr.heap.size + 1 + 1) = [.string ⟨#[120]⟩, .bool false, .int .i64 6, .string ⟨#[]⟩, .int .i64 0, .slice none 0 0, .int .i64 0, .string ⟨#[121]⟩, .bool false, .int .i64 10, .string ⟨#[]⟩, .int .i64 2, .slice (some ⟨wr.heap.size + 1 + 1, 0, none⟩) 1 1, .int .i64 0]) := by
              show _ = _
              simp [pcl, ycl, hodd, hk0]
            go_wp2_with (at_builtin; go_loud (refine wpList_append_own _ rfl _ _ 22 rfl w.heap.size 38 i0 (.agg (icells 0 ⟨#[]⟩ none 0 0 none 0 0 zr).toArray) 20 288 Tryd.underlying22 HI.out.1 HI.out.2.1 HI.out.2.2.1 HI.out.2.2.2 rfl (by decide) _ _ _ rfl (owns_below O2.out (chain6 _ _ _ _ _ _ _)) ⟨wr.heap.size + 1 + 1 + 1 + 1 + 1, 0, none⟩ 1 1 (icl k (wr.heap.size + 1 + 1 + 1 + 1)) rfl rfl (news6 _ _ _ _ _ _ _ _) (icl_one _ _) RM.out.1 RM.out.2 (Nat.le_trans O1.out.size (chain6 _ _ _ _ _ _ _).size) ?_); intro v5 w5 ho5 hg5 _; have S5 : Hid (RI m true w (k + 1) v5 w5) := RI.step O1.out O2.out O3.out (chain6 _ _ _ _ _ _ _) (q := wr.heap.size + 1 + 1) (r := wr.heap.size + 1 + 1 + 1 + 1) ⟨by rw [PC.out]; exact (at6 _ _ _ _ _ _ _ _ _).2, by rw [HJ.out]; exact (at6 _ _ _ _ _ _ _ _ _).1⟩ ho5 hg5; clear ho5 hg5)
            go_roundw
            case rel => exact ⟨k + 1, by omega, by go_num, S5.out⟩
            case measure => simp [intOf]; omega
          · have he : (k : Int) % 2 = 0 := by omega
            have het : (k : Int).tmod 2 = 0 := by rw [Int.tmod_eq_emod_of_nonneg (by omega)]; exact he
            have PC : Hid (pcl m true k (wr.heap.size + 1) = [.string ⟨#[120]⟩, .bool false, .int .i64 6, .string ⟨#[]⟩, .int .i64 0, .slice none 0 0, .int .i64 0, .string ⟨#[121]⟩, .bool false, .int .i64 9, .string (nm j), .int .i64 0, .slice none 0 0, .int .i64 0]) := by
              show _ = _
              simp [pcl, ycl, hodd, hk0, HJ.out]
            go_wp2_with (at_builtin; go_loud (refine wpList_append_own _ rfl _ _ 22 rfl w.heap.size 38 i0 (.agg (icells 0 ⟨#[]⟩ none 0 0 none 0 0 zr).toArray) 20 288 Tryd.underlying22 HI.out.1 HI.out.2.1 HI.out.2.2.1 HI.out.2.2.2 rfl (by decide) _ _ _ rfl (owns_below O2.out (chain5 _ _ _ _ _ _)) ⟨wr.heap.size + 1 + 1 + 1 + 1, 0, none⟩ 1 1 (icl k (wr.heap.size + 1 + 1 + 1)) rfl rfl (news5 _ _ _ _ _ _ _) (icl_one _ _) RM.out.1 RM.out.2 (Nat.le_trans O1.out.size (chain5 _ _ _ _ _ _).size) ?_); intro v5 w5 ho5 hg5 _; have S5 : Hid (RI m true w (k + 1) v5 w5) := RI.step O1.out O2.out O3.out (chain5 _ _ _ _ _ _) (q := wr.heap.size + 1) (r := wr.heap.size + 1 + 1 + 1) ⟨by rw [PC.out]; exact (at5 _ _ _ _ _ _ _ _).2, by rw [HJ.out]; exact (at5 _ _ _ _ _ _ _ _).1⟩ ho5 hg5; clear ho5 hg5)
            go_roundw
            case rel => exact ⟨k + 1, by omega, by go_num, S5.out⟩
            case measure => simp [intOf]; omega
    · have hkm : k = m := by omega
      subst hkm
      have HRR : Hid (RI k boxed w k u5 wr) := HR
      obtain ⟨g, cap, hv, hin⟩ := HR.out.isin hm1 hm8
      have hans := ans (k - 1) (by omega) boxed
      rw [show k - 1 + 1 = k by omega] at hans
      have HIN : Hid (IsIn wr (its k boxed) (some ⟨g, 0, none⟩)) := hin
      subst hv
      have WD : Hid (∀ w', Below wr.heap.size wr w' → Calls Tryd.prog 7 #[.slice (some ⟨g, 0, none⟩) (its k boxed).length cap, .agg #[.int .i64 9, .string ⟨#[65]⟩, .int .i64 0, .slice none 0 0]] w' fun e w'' => e = .returned (wrdV (wrd (its k boxed) (.mk 9 (nm 0) 0 []))) ∧ Below w'.heap.size w' w'') := fun w' hw =>
        words_c (its k boxed) (.mk 9 (nm 0) 0 []) [.int .i64 9, .string ⟨#[65]⟩, .int .i64 0, .slice none 0 0] (some ⟨g, 0, none⟩) cap w' (HT.out.below (HRR.out.1.trans (hw.mono HRR.out.1.size))) (HIN.out.below hw) (named_in w' _)
      generalize wrd (its k boxed) (.mk 9 (nm 0) 0 []) = X at hans WD
      generalize (its k boxed).length = ll at WD
      clear hin hlt HIN
      have BR : Hid (Below w.heap.size w wr) := HRR.out.1
      have hkk : ¬ (k : Int) < (k : Int) := by omega
      cases boxed with
      | false =>
        cases X with
        | none =>
          simp only [wrdV] at WD
          go_wp2_with (go_at_call 7; refine (WD.out _ (Below.refl _ _)).mono ?_; rintro e' w1 ⟨rfl, hb1⟩; have BB : Hid (Below w.heap.size w w1) := BR.out.trans (hb1.mono BR.out.size); clear hb1)
          go_ret
          exact ⟨rfl, BB.out⟩
        | some x => simp [ansB] at hans
      | true =>
        match X, hans with
        | some 2, _ =>
          simp only [wrdV] at WD
          go_wp2_with (go_at_call 7; refine (WD.out _ (Below.refl _ _)).mono ?_; rintro e' w1 ⟨rfl, hb1⟩; have BB : Hid (Below w.heap.size w w1) := BR.out.trans (hb1.mono BR.out.size); clear hb1)
          go_ret
          exact ⟨rfl, BB.out⟩
end Go.Proofs.YtdekgebpbopfpaaDoor
