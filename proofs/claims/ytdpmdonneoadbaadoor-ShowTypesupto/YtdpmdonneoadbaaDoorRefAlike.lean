/-
  Proved: the document's own comparison of two trees answers whether they are alike.
-/
import Derived.Test.YtdpmdonneoadbaaDoorRefSame
namespace Go.Proofs.YtdpmdonneoadbaaDoor
open Go.RowKit

theorem ralike_step (k1 n1 : Int) (s1 : ByteArray) (ks1 : List X) (ts1 : List T) (k2 n2 : Int) (s2 : ByteArray) (ks2 : List X) (ts2 : List T) (ih : ∀ (i : Nat) (h1 : i < ks1.length) (h2 : i < ks2.length), AlikeC 8 (ks1[i]'h1) (ks2[i]'h2)) :
    AlikeC 8 (.mk k1 n1 s1 ks1 ts1) (.mk k2 n2 s2 ks2 ts2) := by
  intro w cs ds ha hb
  obtain ⟨at1, A1, C1, B1, D1, p1, q1, r1, Z1, zl1, zc1, rfl, xa, ta⟩ := ha.inv
  obtain ⟨at2, A2, C2, B2, D2, p2, q2, r2, Z2, zl2, zc2, rfl, xb, tb⟩ := hb.inv
  clear ha hb
  show Calls Tryd.prog 8 #[.agg #[.int .i64 k1, .int .i64 at1, .int .i64 n1, .string s1, .slice A1 ks1.length C1, .slice B1 ts1.length D1, .int .i64 p1, .string q1, .int .i64 r1, .slice Z1 zl1 zc1], .agg #[.int .i64 k2, .int .i64 at2, .int .i64 n2, .string s2, .slice A2 ks2.length C2, .slice B2 ts2.length D2, .int .i64 p2, .string q2, .int .i64 r2, .slice Z2 zl2 zc2]] w _
  have W2 : ∀ o1 o2, Below w.heap.size w ((w.alloc o1).alloc o2) := fun _ _ => below_next (below_alloc _ _) (below_alloc _ _)
  rw [X.alike_mk]
  by_cases hk : k1 = k2
  · subst hk
    by_cases hn : n1 = n2
    · subst hn
      by_cases hs : s1 = s2
      · subst hs
        by_cases hlt : ts1.length = ts2.length
        · by_cases hlk : ks1.length = ks2.length
          · simp only [decide_true, Bool.true_and]
            generalize hR : T.sames ts1 ts2 = R
            generalize hS : X.alikes ks1 ks2 = S
            have hl := ta.1
            have hl' := xa.1
            have IH : Hid (∀ (i : Nat) (h1 : i < ks1.length) (h2 : i < ks2.length), AlikeC 8 (ks1[i]'h1) (ks2[i]'h2)) := ih
            have TA : Hid (TsIn w ts1 B1) := ta
            have TB : Hid (TsIn w ts2 B2) := tb
            have XA : Hid (XsIn w ks1 A1) := xa
            have XB : Hid (XsIn w ks2 A2) := xb
            have HLT : Hid (ts1.length = ts2.length) := hlt
            have HLK : Hid (ks1.length = ks2.length) := hlk
            have HR : Hid (T.sames ts1 ts2 = R) := hR
            have HS : Hid (X.alikes ks1 ks2 = S) := hS
            have W2' : Hid (∀ o1 o2, Below w.heap.size w ((w.alloc o1).alloc o2)) := W2
            clear ih ta tb xa xb hR hS W2
            rw [← hlt, ← hlk]
            clear hlt hlk
            go_enter Tryd.func8, Tryd.ntmps8
            go_wp2
            generalize hw2 : ((w.alloc (.cells #[.int .i64 k1, .int .i64 at1, .int .i64 n1, .string s1, .slice A1 ks1.length C1, .slice B1 ts1.length D1, .int .i64 p1, .string q1, .int .i64 r1, .slice Z1 zl1 zc1] 27)).alloc (.cells #[.int .i64 k1, .int .i64 at2, .int .i64 n1, .string s1, .slice A2 ks1.length C2, .slice B2 ts1.length D2, .int .i64 p2, .string q2, .int .i64 r2, .slice Z2 zl2 zc2] 27)) = w2
            have c0 : w2.cell? ⟨w.heap.size, 5, none⟩ = some (.slice B1 ts1.length D1) := by subst hw2; go_simp
            have c1 : w2.cell? ⟨w.heap.size + 1, 5, none⟩ = some (.slice B2 ts1.length D2) := by subst hw2; go_simp
            have c2 : w2.cell? ⟨w.heap.size, 4, none⟩ = some (.slice A1 ks1.length C1) := by subst hw2; go_simp
            have c3 : w2.cell? ⟨w.heap.size + 1, 4, none⟩ = some (.slice A2 ks1.length C2) := by subst hw2; go_simp
            have hz : w.heap.size + 1 < w2.heap.size := by subst hw2; simp
            have WW : Hid (Below w.heap.size w w2) := by subst hw2; exact W2'.out _ _
            have D0 : Hid ((w2.cell? ⟨w.heap.size, 5, none⟩ = some (.slice B1 ts1.length D1) ∧ w2.cell? ⟨w.heap.size + 1, 5, none⟩ = some (.slice B2 ts1.length D2)) ∧ (w2.cell? ⟨w.heap.size, 4, none⟩ = some (.slice A1 ks1.length C1) ∧ w2.cell? ⟨w.heap.size + 1, 4, none⟩ = some (.slice A2 ks1.length C2))) := ⟨⟨c0, c1⟩, ⟨c2, c3⟩⟩
            clear c0 c1 c2 c3 hw2
            go_loopw [5] (fun i wr => ∃ k : Nat, k ≤ ts1.length ∧ i = .int .i64 (k : Int) ∧ T.sames (ts1.drop k) (ts2.drop k) = R ∧ Below w2.heap.size w2 wr) (fun i _ => ts1.length - (intOf i).toNat)
            case atStart => exact ⟨0, Nat.zero_le _, rfl, HR.out, Below.refl _ _⟩
            case round =>
              obtain ⟨k, hk, rfl, hr, hw⟩ := hrel
              have HK : Hid (T.sames (ts1.drop k) (ts2.drop k) = R) := hr
              have HW : Hid (Below w2.heap.size w2 wr) := hw
              have HX : Hid (Below w.heap.size w wr) := below_next WW.out hw
              have d0 : wr.cell? ⟨w.heap.size, 5, none⟩ = some (.slice B1 ts1.length D1) := (hw.cell (p := ⟨w.heap.size, 5, none⟩) (show w.heap.size < w2.heap.size by omega)).trans D0.out.1.1
              have d1 : wr.cell? ⟨w.heap.size + 1, 5, none⟩ = some (.slice B2 ts1.length D2) := (hw.cell (p := ⟨w.heap.size + 1, 5, none⟩) hz).trans D0.out.1.2
              have d2 : wr.cell? ⟨w.heap.size, 4, none⟩ = some (.slice A1 ks1.length C1) := (hw.cell (p := ⟨w.heap.size, 4, none⟩) (show w.heap.size < w2.heap.size by omega)).trans D0.out.2.1
              have d3 : wr.cell? ⟨w.heap.size + 1, 4, none⟩ = some (.slice A2 ks1.length C2) := (hw.cell (p := ⟨w.heap.size + 1, 4, none⟩) hz).trans D0.out.2.2
              clear hr hw
              by_cases hlt : k < ts1.length
              · have hlt2 : k < ts2.length := by rw [← HLT.out]; exact hlt
                obtain ⟨b1, o1, cs1, rfl, hr1, ht1⟩ := (TA.out.below HX.out).2 k hlt
                obtain ⟨b2, o2, cs2, rfl, hr2, ht2⟩ := (TB.out.below HX.out).2 k hlt2
                have hdr := T.sames_drop ts1 ts2 k hlt hlt2
                have key := rsame_c (ts1[k]'hlt) (ts2[k]'hlt2)
                generalize ts1[k] = e1 at ht1 hdr key
                generalize ts2[k] = e2 at ht2 hdr key
                obtain ⟨kk1, ss1, nn1, ees1⟩ := e1
                obtain ⟨kk2, ss2, nn2, ees2⟩ := e2
                have key' : ∀ w', Below wr.heap.size wr w' → _ := fun w' hw' => key w' cs1 cs2 (ht1.stays hw') (ht2.stays hw')
                obtain ⟨AA1, CC1, rfl, _⟩ := ht1.inv
                obtain ⟨AA2, CC2, rfl, _⟩ := ht2.inv
                have c10 := hr1.2 0 _ rfl
                have c11 := hr1.2 1 _ rfl
                have c12 := hr1.2 2 _ rfl
                have c13 := hr1.2 3 _ rfl
                have c20 := hr2.2 0 _ rfl
                have c21 := hr2.2 1 _ rfl
                have c22 := hr2.2 2 _ rfl
                have c23 := hr2.2 3 _ rfl
                simp only [Nat.add_zero] at c10 c20
                have x10 := fun x : After wr => After.cell c10 x
                have x11 := fun x : After wr => After.cell c11 x
                have x12 := fun x : After wr => After.cell c12 x
                have x13 := fun x : After wr => After.cell c13 x
                have x20 := fun x : After wr => After.cell c20 x
                have x21 := fun x : After wr => After.cell c21 x
                have x22 := fun x : After wr => After.cell c22 x
                have x23 := fun x : After wr => After.cell c23 x
                have y0 := fun x : After wr => After.cell d0 x
                have y1 := fun x : After wr => After.cell d1 x
                generalize T.same (.mk kk1 ss1 nn1 ees1) (.mk kk2 ss2 nn2 ees2) = E at hdr key'
                have KEY : Hid (∀ x : After wr, Calls Tryd.prog 19 #[.agg #[.int .i64 kk1, .string ss1, .int .i64 nn1, .slice AA1 ees1.length CC1], .agg #[.int .i64 kk2, .string ss2, .int .i64 nn2, .slice AA2 ees2.length CC2]] x.w fun e w'' => e = .returned (.bool E) ∧ Below x.w.heap.size x.w w'') := fun x => key' x.w x.below
                have HD : Hid (T.sames (ts1.drop k) (ts2.drop k) = (E && T.sames (ts1.drop (k + 1)) (ts2.drop (k + 1)))) := hdr
                clear key key' hdr hr1 hr2 ht1 ht2 c10 c11 c12 c13 c20 c21 c22 c23
                go_wp2
                haveI := After.has wr
                refine wp_region_after (by kernel_rfl) (by kernel_rfl) ?_
                repeat (quiet_step (exact Calls.after (KEY.out _)))
                refine wpQuiet_nil ?_
                intro _ hw'
                obtain ⟨xq, hw''⟩ := hw'
                subst hw''
                have M : Hid (Below wr.heap.size wr xq.w) := xq.below
                cases E with
                | true =>
                  go_wp2
                  go_roundw
                  case rel => exact ⟨k + 1, by omega, by go_num, by have h1 := HK.out; rw [HD.out] at h1; simpa using h1, below_next HW.out M.out⟩
                  case measure => simp [intOf]; omega
                | false =>
                  go_wp2
                  go_ret
                  exact ⟨by have h1 := HK.out; rw [HD.out] at h1; simp at h1; subst h1; rfl, below_next HX.out M.out⟩
              · have hRt : Hid (R = true) := by
                  have h1 := HK.out
                  rw [List.drop_eq_nil_of_le (by omega), List.drop_eq_nil_of_le (by rw [← HLT.out]; omega), T.sames_nil] at h1
                  exact h1.symm
                go_wp2
                go_loopw [6] (fun i wr' => ∃ k : Nat, k ≤ ks1.length ∧ i = .int .i64 (k : Int) ∧ X.alikes (ks1.drop k) (ks2.drop k) = S ∧ Below w2.heap.size w2 wr') (fun i _ => ks1.length - (intOf i).toNat)
                case atStart => exact ⟨0, Nat.zero_le _, rfl, HS.out, HW.out⟩
                case round =>
                  obtain ⟨k, hk, rfl, hr, hw⟩ := hrel
                  have HK2 : Hid (X.alikes (ks1.drop k) (ks2.drop k) = S) := hr
                  have HW2 : Hid (Below w2.heap.size w2 wr) := hw
                  have HX2 : Hid (Below w.heap.size w wr) := below_next WW.out hw
                  have g2 : wr.cell? ⟨w.heap.size, 4, none⟩ = some (.slice A1 ks1.length C1) := (hw.cell (p := ⟨w.heap.size, 4, none⟩) (show w.heap.size < w2.heap.size by omega)).trans D0.out.2.1
                  have g3 : wr.cell? ⟨w.heap.size + 1, 4, none⟩ = some (.slice A2 ks1.length C2) := (hw.cell (p := ⟨w.heap.size + 1, 4, none⟩) hz).trans D0.out.2.2
                  clear hr hw d0 d1 d2 d3
                  by_cases hlt : k < ks1.length
                  · have hlt2 : k < ks2.length := by rw [← HLK.out]; exact hlt
                    obtain ⟨b1, o1, cs1, rfl, hr1, ht1⟩ := (XA.out.below HX2.out).2 k hlt
                    obtain ⟨b2, o2, cs2, rfl, hr2, ht2⟩ := (XB.out.below HX2.out).2 k hlt2
                    have hdr := X.alikes_drop ks1 ks2 k hlt hlt2
                    have key := IH.out k hlt hlt2
                    generalize ks1[k] = e1 at ht1 hdr key
                    generalize ks2[k] = e2 at ht2 hdr key
                    obtain ⟨kk1, nn1, ss1, kks1, tts1⟩ := e1
                    obtain ⟨kk2, nn2, ss2, kks2, tts2⟩ := e2
                    have key' : ∀ w', Below wr.heap.size wr w' → _ := fun w' hw' => key w' cs1 cs2 (ht1.stays hw') (ht2.stays hw')
                    obtain ⟨aat1, AA1, CC1, BB1, DD1, pp1, qq1, rr1, ZZ1, zzl1, zzc1, rfl, _, _⟩ := ht1.inv
                    obtain ⟨aat2, AA2, CC2, BB2, DD2, pp2, qq2, rr2, ZZ2, zzl2, zzc2, rfl, _, _⟩ := ht2.inv
                    have c10 := hr1.2 0 _ rfl
                    have c11 := hr1.2 1 _ rfl
                    have c12 := hr1.2 2 _ rfl
                    have c13 := hr1.2 3 _ rfl
                    have c14 := hr1.2 4 _ rfl
                    have c15 := hr1.2 5 _ rfl
                    have c16 := hr1.2 6 _ rfl
                    have c17 := hr1.2 7 _ rfl
                    have c18 := hr1.2 8 _ rfl
                    have c19 := hr1.2 9 _ rfl
                    have c20 := hr2.2 0 _ rfl
                    have c21 := hr2.2 1 _ rfl
                    have c22 := hr2.2 2 _ rfl
                    have c23 := hr2.2 3 _ rfl
                    have c24 := hr2.2 4 _ rfl
                    have c25 := hr2.2 5 _ rfl
                    have c26 := hr2.2 6 _ rfl
                    have c27 := hr2.2 7 _ rfl
                    have c28 := hr2.2 8 _ rfl
                    have c29 := hr2.2 9 _ rfl
                    simp only [Nat.add_zero] at c10 c20
                    have x10 := fun x : After wr => After.cell c10 x
                    have x11 := fun x : After wr => After.cell c11 x
                    have x12 := fun x : After wr => After.cell c12 x
                    have x13 := fun x : After wr => After.cell c13 x
                    have x14 := fun x : After wr => After.cell c14 x
                    have x15 := fun x : After wr => After.cell c15 x
                    have x16 := fun x : After wr => After.cell c16 x
                    have x17 := fun x : After wr => After.cell c17 x
                    have x18 := fun x : After wr => After.cell c18 x
                    have x19 := fun x : After wr => After.cell c19 x
                    have x20 := fun x : After wr => After.cell c20 x
                    have x21 := fun x : After wr => After.cell c21 x
                    have x22 := fun x : After wr => After.cell c22 x
                    have x23 := fun x : After wr => After.cell c23 x
                    have x24 := fun x : After wr => After.cell c24 x
                    have x25 := fun x : After wr => After.cell c25 x
                    have x26 := fun x : After wr => After.cell c26 x
                    have x27 := fun x : After wr => After.cell c27 x
                    have x28 := fun x : After wr => After.cell c28 x
                    have x29 := fun x : After wr => After.cell c29 x
                    have y0 := fun x : After wr => After.cell g2 x
                    have y1 := fun x : After wr => After.cell g3 x
                    generalize X.alike (.mk kk1 nn1 ss1 kks1 tts1) (.mk kk2 nn2 ss2 kks2 tts2) = E at hdr key'
                    have KEY : Hid (∀ x : After wr, Calls Tryd.prog 8 #[.agg #[.int .i64 kk1, .int .i64 aat1, .int .i64 nn1, .string ss1, .slice AA1 kks1.length CC1, .slice BB1 tts1.length DD1, .int .i64 pp1, .string qq1, .int .i64 rr1, .slice ZZ1 zzl1 zzc1], .agg #[.int .i64 kk2, .int .i64 aat2, .int .i64 nn2, .string ss2, .slice AA2 kks2.length CC2, .slice BB2 tts2.length DD2, .int .i64 pp2, .string qq2, .int .i64 rr2, .slice ZZ2 zzl2 zzc2]] x.w fun e w'' => e = .returned (.bool E) ∧ Below x.w.heap.size x.w w'') := fun x => key' x.w x.below
                    have HD : Hid (X.alikes (ks1.drop k) (ks2.drop k) = (E && X.alikes (ks1.drop (k + 1)) (ks2.drop (k + 1)))) := hdr
                    clear key key' hdr hr1 hr2 ht1 ht2 c10 c11 c12 c13 c14 c15 c16 c17 c18 c19 c20 c21 c22 c23 c24 c25 c26 c27 c28 c29
                    go_wp2
                    haveI := After.has wr
                    refine wp_region_after (by kernel_rfl) (by kernel_rfl) ?_
                    repeat (quiet_step (exact Calls.after (KEY.out _)))
                    refine wpQuiet_nil ?_
                    intro _ hw'
                    obtain ⟨xq, hw''⟩ := hw'
                    subst hw''
                    have M : Hid (Below wr.heap.size wr xq.w) := xq.below
                    cases E with
                    | true =>
                      go_wp2
                      go_roundw
                      case rel => exact ⟨k + 1, by omega, by go_num, by have h1 := HK2.out; rw [HD.out] at h1; simpa using h1, below_next HW2.out M.out⟩
                      case measure => simp [intOf]; omega
                    | false =>
                      go_wp2
                      go_ret
                      exact ⟨by have h1 := HK2.out; rw [HD.out] at h1; simp at h1; subst h1; simp, below_next HX2.out M.out⟩
                  · go_wp2
                    go_ret
                    exact ⟨by have h1 := HK2.out; rw [List.drop_eq_nil_of_le (by omega), List.drop_eq_nil_of_le (by rw [← HLK.out]; omega), X.alikes_nil] at h1; have h2 := hRt.out; subst h2; rw [← h1]; rfl, HX2.out⟩
          · rw [X.alikes_len hlk]
            simp only [Bool.and_false]
            have g1 : ¬ (ks1.length : Int) = (ks2.length : Int) := by omega
            have g2 : ((ks1.length : Int) == (ks2.length : Int)) = false := by simpa using g1
            have g4 : ((ks1.length : Int) != (ks2.length : Int)) = true := by simpa using g1
            rw [← hlt]
            clear ih ta tb xa xb
            go_enter Tryd.func8, Tryd.ntmps8
            go_wp2
            go_ret
            exact ⟨rfl, W2 _ _⟩
        · rw [T.sames_len hlt]
          simp only [Bool.and_false, Bool.false_and]
          have g1 : ¬ (ts1.length : Int) = (ts2.length : Int) := by omega
          have g2 : ((ts1.length : Int) == (ts2.length : Int)) = false := by simpa using g1
          have g4 : ((ts1.length : Int) != (ts2.length : Int)) = true := by simpa using g1
          clear ih ta tb xa xb
          go_enter Tryd.func8, Tryd.ntmps8
          go_wp2
          go_ret
          exact ⟨rfl, W2 _ _⟩
      · obtain ⟨h1, h2⟩ := str_ne hs
        have h3 : (s1.toList != s2.toList) = true := by simpa using h1
        simp only [hs, decide_false, Bool.and_false, Bool.false_and]
        clear ih ta tb xa xb
        go_enter Tryd.func8, Tryd.ntmps8
        go_wp2
        go_ret
        exact ⟨rfl, W2 _ _⟩
    · have h1 : (n1 == n2) = false := by simpa using hn
      have h2 : (n1 != n2) = true := by simpa using hn
      simp only [hn, decide_false, Bool.and_false, Bool.false_and]
      clear ih ta tb xa xb
      go_enter Tryd.func8, Tryd.ntmps8
      go_wp2
      go_ret
      exact ⟨rfl, W2 _ _⟩
  · have h1 : (k1 == k2) = false := by simpa using hk
    have h2 : (k1 != k2) = true := by simpa using hk
    simp only [hk, decide_false, Bool.false_and]
    clear ih ta tb xa xb
    go_enter Tryd.func8, Tryd.ntmps8
    go_wp2
    go_ret
    exact ⟨rfl, W2 _ _⟩

theorem ralike_c (a b : X) : AlikeC 8 a b := X.both (p := AlikeC 8) ralike_step a b

end Go.Proofs.YtdpmdonneoadbaaDoor
