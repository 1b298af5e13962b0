/-
  Proved: the document's own Overlap answers whether two places overlap.
-/
import Derived.Test.YtjbglolcnhmkcaaStepz
import Derived.Test.YtjbglolcnhmkcaaLap
namespace Go.Proofs.Ytjbglolcnhmkcaa
open Go.RowKit

theorem RowsIn.two {w : World} {l : List (Int × Int)} {A : Option Addr} (h : RowsIn w 2 rL l A) (i : Nat) (hi : i < l.length) : ∃ b o, A = some ⟨b, o, none⟩ ∧ b < w.heap.size ∧ w.cell? ⟨b, o + i * 2, none⟩ = some (.int .i64 (l[i]'hi).1) ∧ w.cell? ⟨b, o + i * 2 + 1, none⟩ = some (.int .i64 (l[i]'hi).2) := by
  obtain ⟨b, o, e, h1⟩ := h i hi
  exact ⟨b, o, e, h1.1, h1.2 0 _ rfl, h1.2 1 _ rfl⟩

theorem rsts_len (x : X) : (rsts x).length ≤ dpt x := by
  have := outX_len x
  simp [rsts]
  omega

set_option maxRecDepth 100000 in
set_option maxHeartbeats 4000000 in
theorem rOverlap_c (x y : X) (cs ds : List Value) (w : World) (hx : XIn w x cs) (hy : XIn w y ds) (dx : dpt x ≤ 1000) (dy : dpt y ≤ 1000) :
    Calls Try.prog 6 #[.agg cs.toArray, .agg ds.toArray] w fun e w' => e = .returned (.bool (ovl x y)) ∧ Below w.heap.size w w' := by
  have S1 : Hid (∀ W, Below w.heap.size w W → Calls Try.prog 9 #[.agg cs.toArray] W fun e w' => Told W x e w') := fun W hW => steps_c x W cs (hx.stays hW) dx
  have S2 : Hid (∀ W, Below w.heap.size w W → Calls Try.prog 9 #[.agg ds.toArray] W fun e w' => Told W y e w') := fun W hW => steps_c y W ds (hy.stays hW) dy
  have lx := Nat.le_trans (rsts_len x) dx
  have ly := Nat.le_trans (rsts_len y) dy
  have HOV : Hid (ovl x y = (isPl x && isPl y && (decide ((rootX x).n = (rootX y).n) && !anyOf rprt (rsts x) (rsts y)))) := by
    show ovl x y = _
    rw [ovl_ref, Bool.and_assoc (isPl x && isPl y)]
  have RX : isPl x = true → rootN x = (rootX x).n := fun h => by simp [rootN, h]
  have RY : isPl y = true → rootN y = (rootX y).n := fun h => by simp [rootN, h]
  obtain ⟨k1, n1, s1, ks1, ts1⟩ := x
  obtain ⟨k2, n2, s2, ks2, ts2⟩ := y
  obtain ⟨at1, A1, C1, B1, D1, p1, q1, rr1, Z1, zl1, zc1, rfl, _, _⟩ := hx.inv
  obtain ⟨at2, A2, C2, B2, D2, p2, q2, rr2, Z2, zl2, zc2, rfl, _, _⟩ := hy.inv
  clear hx hy dx dy
  generalize X.mk k1 n1 s1 ks1 ts1 = x at *
  generalize X.mk k2 n2 s2 ks2 ts2 = y at *
  cases hpx : isPl x with
  | false =>
    cases hpy : isPl y with
    | false =>
      have HPX : Hid (isPl x = false) := hpx
      have HPY : Hid (isPl y = false) := hpy
      rw [HOV.out, hpx, hpy]
      clear hpx hpy RX RY
      go_enter Try.func6, Try.ntmps6
      go_wp2_with (first
        | (go_at_call 9; have M' := HR1; refine (S2.out _ HB1.out).mono ?_; rintro e w2 ⟨AY, CY, he, hr2, _, hb2⟩; rw [HPY.out] at he; subst he; have HR2 : Hid (RowsIn w2 2 rL (rsts y) AY) := hr2; have HR3 : Hid (RowsIn w2 2 rL (rsts x) AX) := HR1.out.below hb2; have HB2 : Hid (Below w.heap.size w w2) := below_next HB1.out hb2; clear hr2 hb2)
        | (go_at_call 9; refine (S1.out _ (below_two _ _ _)).mono ?_; rintro e w1 ⟨AX, CX, he, hr1, _, hb1⟩; rw [HPX.out] at he; subst he; have HR1 : Hid (RowsIn w1 2 rL (rsts x) AX) := hr1; have HB1 : Hid (Below w.heap.size w w1) := below_next (below_two _ _ _) hb1; have hat : At w1 (w.heap.size + 1) #[.int .i64 k2, .int .i64 at2, .int .i64 n2, .string s2, .slice A2 ks2.length C2, .slice B2 ts2.length D2, .int .i64 p2, .string q2, .int .i64 rr2, .slice Z2 zl2 zc2] 27 := (At.newS (w.alloc (.cells #[.int .i64 k1, .int .i64 at1, .int .i64 n1, .string s1, .slice A1 ks1.length C1, .slice B1 ts1.length D1, .int .i64 p1, .string q1, .int .i64 rr1, .slice Z1 zl1 zc1] 27)) #[.int .i64 k2, .int .i64 at2, .int .i64 n2, .string s2, .slice A2 ks2.length C2, .slice B2 ts2.length D2, .int .i64 p2, .string q2, .int .i64 rr2, .slice Z2 zl2 zc2] 27 (by simp)).below hb1 (At.newS (w.alloc (.cells #[.int .i64 k1, .int .i64 at1, .int .i64 n1, .string s1, .slice A1 ks1.length C1, .slice B1 ts1.length D1, .int .i64 p1, .string q1, .int .i64 rr1, .slice Z1 zl1 zc1] 27)) #[.int .i64 k2, .int .i64 at2, .int .i64 n2, .string s2, .slice A2 ks2.length C2, .slice B2 ts2.length D2, .int .i64 p2, .string q2, .int .i64 rr2, .slice Z2 zl2 zc2] 27 (by simp)).lt; obtain ⟨⟨j0, j1, j2, j3, j4, j5, j6, j7, j8, j9⟩, _⟩ := cells10 hat; have jl := hat.lt; clear hr1 hb1 hat))
      go_ret
      exact ⟨rfl, HB2.out⟩
    | true =>
      have HPX : Hid (isPl x = false) := hpx
      have HPY : Hid (isPl y = true) := hpy
      rw [HOV.out, hpx, hpy]
      clear hpx hpy RX RY
      go_enter Try.func6, Try.ntmps6
      go_wp2_with (first
        | (go_at_call 9; have M' := HR1; refine (S2.out _ HB1.out).mono ?_; rintro e w2 ⟨AY, CY, he, hr2, _, hb2⟩; rw [HPY.out] at he; subst he; have HR2 : Hid (RowsIn w2 2 rL (rsts y) AY) := hr2; have HR3 : Hid (RowsIn w2 2 rL (rsts x) AX) := HR1.out.below hb2; have HB2 : Hid (Below w.heap.size w w2) := below_next HB1.out hb2; clear hr2 hb2)
        | (go_at_call 9; refine (S1.out _ (below_two _ _ _)).mono ?_; rintro e w1 ⟨AX, CX, he, hr1, _, hb1⟩; rw [HPX.out] at he; subst he; have HR1 : Hid (RowsIn w1 2 rL (rsts x) AX) := hr1; have HB1 : Hid (Below w.heap.size w w1) := below_next (below_two _ _ _) hb1; have hat : At w1 (w.heap.size + 1) #[.int .i64 k2, .int .i64 at2, .int .i64 n2, .string s2, .slice A2 ks2.length C2, .slice B2 ts2.length D2, .int .i64 p2, .string q2, .int .i64 rr2, .slice Z2 zl2 zc2] 27 := (At.newS (w.alloc (.cells #[.int .i64 k1, .int .i64 at1, .int .i64 n1, .string s1, .slice A1 ks1.length C1, .slice B1 ts1.length D1, .int .i64 p1, .string q1, .int .i64 rr1, .slice Z1 zl1 zc1] 27)) #[.int .i64 k2, .int .i64 at2, .int .i64 n2, .string s2, .slice A2 ks2.length C2, .slice B2 ts2.length D2, .int .i64 p2, .string q2, .int .i64 rr2, .slice Z2 zl2 zc2] 27 (by simp)).below hb1 (At.newS (w.alloc (.cells #[.int .i64 k1, .int .i64 at1, .int .i64 n1, .string s1, .slice A1 ks1.length C1, .slice B1 ts1.length D1, .int .i64 p1, .string q1, .int .i64 rr1, .slice Z1 zl1 zc1] 27)) #[.int .i64 k2, .int .i64 at2, .int .i64 n2, .string s2, .slice A2 ks2.length C2, .slice B2 ts2.length D2, .int .i64 p2, .string q2, .int .i64 rr2, .slice Z2 zl2 zc2] 27 (by simp)).lt; obtain ⟨⟨j0, j1, j2, j3, j4, j5, j6, j7, j8, j9⟩, _⟩ := cells10 hat; have jl := hat.lt; clear hr1 hb1 hat))
      go_ret
      exact ⟨rfl, HB2.out⟩
  | true =>
    cases hpy : isPl y with
    | false =>
      have HPX : Hid (isPl x = true) := hpx
      have HPY : Hid (isPl y = false) := hpy
      rw [HOV.out, hpx, hpy]
      clear hpx hpy RX RY
      go_enter Try.func6, Try.ntmps6
      go_wp2_with (first
        | (go_at_call 9; have M' := HR1; refine (S2.out _ HB1.out).mono ?_; rintro e w2 ⟨AY, CY, he, hr2, _, hb2⟩; rw [HPY.out] at he; subst he; have HR2 : Hid (RowsIn w2 2 rL (rsts y) AY) := hr2; have HR3 : Hid (RowsIn w2 2 rL (rsts x) AX) := HR1.out.below hb2; have HB2 : Hid (Below w.heap.size w w2) := below_next HB1.out hb2; clear hr2 hb2)
        | (go_at_call 9; refine (S1.out _ (below_two _ _ _)).mono ?_; rintro e w1 ⟨AX, CX, he, hr1, _, hb1⟩; rw [HPX.out] at he; subst he; have HR1 : Hid (RowsIn w1 2 rL (rsts x) AX) := hr1; have HB1 : Hid (Below w.heap.size w w1) := below_next (below_two _ _ _) hb1; have hat : At w1 (w.heap.size + 1) #[.int .i64 k2, .int .i64 at2, .int .i64 n2, .string s2, .slice A2 ks2.length C2, .slice B2 ts2.length D2, .int .i64 p2, .string q2, .int .i64 rr2, .slice Z2 zl2 zc2] 27 := (At.newS (w.alloc (.cells #[.int .i64 k1, .int .i64 at1, .int .i64 n1, .string s1, .slice A1 ks1.length C1, .slice B1 ts1.length D1, .int .i64 p1, .string q1, .int .i64 rr1, .slice Z1 zl1 zc1] 27)) #[.int .i64 k2, .int .i64 at2, .int .i64 n2, .string s2, .slice A2 ks2.length C2, .slice B2 ts2.length D2, .int .i64 p2, .string q2, .int .i64 rr2, .slice Z2 zl2 zc2] 27 (by simp)).below hb1 (At.newS (w.alloc (.cells #[.int .i64 k1, .int .i64 at1, .int .i64 n1, .string s1, .slice A1 ks1.length C1, .slice B1 ts1.length D1, .int .i64 p1, .string q1, .int .i64 rr1, .slice Z1 zl1 zc1] 27)) #[.int .i64 k2, .int .i64 at2, .int .i64 n2, .string s2, .slice A2 ks2.length C2, .slice B2 ts2.length D2, .int .i64 p2, .string q2, .int .i64 rr2, .slice Z2 zl2 zc2] 27 (by simp)).lt; obtain ⟨⟨j0, j1, j2, j3, j4, j5, j6, j7, j8, j9⟩, _⟩ := cells10 hat; have jl := hat.lt; clear hr1 hb1 hat))
      go_ret
      exact ⟨rfl, HB2.out⟩
    | true =>
      have HPX : Hid (isPl x = true) := hpx
      have HPY : Hid (isPl y = true) := hpy
      rw [HOV.out, hpx, hpy]
      have RX := RX hpx
      have RY := RY hpy
      rw [← RX, ← RY]
      clear hpx hpy RX RY HOV
      by_cases hr : rootN x = rootN y
      · have g : (rootN x == rootN y) = true := by simpa using hr
        have HRR : Hid (rootN x = rootN y) := hr
        simp only [hr, decide_true, Bool.true_and]
        go_enter Try.func6, Try.ntmps6
        go_wp2_with (first
          | (go_at_call 9; have M' := HR1; refine (S2.out _ HB1.out).mono ?_; rintro e w2 ⟨AY, CY, he, hr2, _, hb2⟩; rw [HPY.out] at he; subst he; have HR2 : Hid (RowsIn w2 2 rL (rsts y) AY) := hr2; have HR3 : Hid (RowsIn w2 2 rL (rsts x) AX) := HR1.out.below hb2; have HB2 : Hid (Below w.heap.size w w2) := below_next HB1.out hb2; clear hr2 hb2)
          | (go_at_call 9; refine (S1.out _ (below_two _ _ _)).mono ?_; rintro e w1 ⟨AX, CX, he, hr1, _, hb1⟩; rw [HPX.out] at he; subst he; have HR1 : Hid (RowsIn w1 2 rL (rsts x) AX) := hr1; have HB1 : Hid (Below w.heap.size w w1) := below_next (below_two _ _ _) hb1; have hat : At w1 (w.heap.size + 1) #[.int .i64 k2, .int .i64 at2, .int .i64 n2, .string s2, .slice A2 ks2.length C2, .slice B2 ts2.length D2, .int .i64 p2, .string q2, .int .i64 rr2, .slice Z2 zl2 zc2] 27 := (At.newS (w.alloc (.cells #[.int .i64 k1, .int .i64 at1, .int .i64 n1, .string s1, .slice A1 ks1.length C1, .slice B1 ts1.length D1, .int .i64 p1, .string q1, .int .i64 rr1, .slice Z1 zl1 zc1] 27)) #[.int .i64 k2, .int .i64 at2, .int .i64 n2, .string s2, .slice A2 ks2.length C2, .slice B2 ts2.length D2, .int .i64 p2, .string q2, .int .i64 rr2, .slice Z2 zl2 zc2] 27 (by simp)).below hb1 (At.newS (w.alloc (.cells #[.int .i64 k1, .int .i64 at1, .int .i64 n1, .string s1, .slice A1 ks1.length C1, .slice B1 ts1.length D1, .int .i64 p1, .string q1, .int .i64 rr1, .slice Z1 zl1 zc1] 27)) #[.int .i64 k2, .int .i64 at2, .int .i64 n2, .string s2, .slice A2 ks2.length C2, .slice B2 ts2.length D2, .int .i64 p2, .string q2, .int .i64 rr2, .slice Z2 zl2 zc2] 27 (by simp)).lt; obtain ⟨⟨j0, j1, j2, j3, j4, j5, j6, j7, j8, j9⟩, _⟩ := cells10 hat; have jl := hat.lt; clear hr1 hb1 hat))
        go_loopw [11] (fun kv wr => ∃ k : Nat, k ≤ min (rsts x).length (rsts y).length ∧ kv = .int .i64 (k : Int) ∧ Hid (Below w2.heap.size w2 wr) ∧ Hid (anyOf rprt ((rsts x).drop k) ((rsts y).drop k) = anyOf rprt (rsts x) (rsts y))) (fun kv _ => min (rsts x).length (rsts y).length - (intOf kv).toNat)
        case atStart => exact ⟨0, Nat.zero_le _, rfl, Below.refl _ _, rfl⟩
        case round =>
          obtain ⟨k, hk, rfl, HB, HK⟩ := hrel
          have HBW : Hid (Below w.heap.size w wr) := below_next HB2.out HB.out
          by_cases hlt : k < min (rsts x).length (rsts y).length
          · have hs1 : k < (rsts x).length := by omega
            have hs2 : k < (rsts y).length := by omega
            have hs1' : (k : Int) < ((rsts x).length : Int) := by omega
            have hs2' : (k : Int) < ((rsts y).length : Int) := by omega
            obtain ⟨b3, o3, rfl, m1, e1, e2⟩ := (HR3.out.below HB.out).two k hs1
            obtain ⟨b4, o4, rfl, m2, f1, f2⟩ := (HR2.out.below HB.out).two k hs2
            have hdr := anyOf_drop rprt (rsts x) (rsts y) k hs1 hs2
            generalize (rsts x)[k]'hs1 = s at e1 e2 hdr
            generalize (rsts y)[k]'hs2 = t at f1 f2 hdr
            obtain ⟨sk, sw⟩ := s
            obtain ⟨tk, tw⟩ := t
            simp only at e1 e2 f1 f2
            have HDR : Hid (anyOf rprt (rsts x) (rsts y) = (rprt (sk, sw) (tk, tw) || anyOf rprt ((rsts x).drop (k + 1)) ((rsts y).drop (k + 1)))) := by have h := HK.out; rw [hdr] at h; exact h.symm
            clear hdr
            by_cases hkk : sk = tk
            · subst hkk
              by_cases h2 : sk ≤ 2
              · by_cases hw : sw = tw
                · subst hw
                  have HP : Hid (rprt (sk, sw) (sk, sw) = false) := by show rprt (sk, sw) (sk, sw) = false; simp [rprt]
                  go_wp2
                  go_quiet (fail)
                  go_wp2
                  go_roundw
                  case rel => exact ⟨k + 1, by omega, by go_num, (by first | exact HB.out | exact drew_below HB.out _ | exact HB.out.drew), by have h := HDR.out; rw [HP.out, Bool.false_or] at h; exact h.symm⟩
                  case measure => simp [intOf]; omega
                · have gw : (sw == tw) = false := by simpa using hw
                  have HP : Hid (rprt (sk, sw) (sk, tw) = true) := by show rprt (sk, sw) (sk, tw) = true; simp [rprt, h2, hw]
                  go_wp2
                  go_quiet (fail)
                  go_wp2
                  go_ret
                  exact ⟨by rw [HDR.out, HP.out]; rfl, by first | exact HBW.out | exact drew_below HBW.out _ | exact HBW.out.drew⟩
              · have HP : Hid (rprt (sk, sw) (sk, tw) = false) := by show rprt (sk, sw) (sk, tw) = false; simp [rprt, h2]
                have g2 : decide (sk ≤ 2) = false := by simpa using h2
                have g3 : 2 < sk := by omega
                go_wp2
                go_quiet (fail)
                go_wp2
                go_roundw
                case rel => exact ⟨k + 1, by omega, by go_num, (by first | exact HB.out | exact drew_below HB.out _ | exact HB.out.drew), by have h := HDR.out; rw [HP.out, Bool.false_or] at h; exact h.symm⟩
                case measure => simp [intOf]; omega
            · have gk : (sk == tk) = false := by simpa using hkk
              have HP : Hid (rprt (sk, sw) (tk, tw) = false) := by show rprt (sk, sw) (tk, tw) = false; simp [rprt, hkk]
              go_wp2
              go_quiet (fail)
              go_wp2
              go_roundw
              case rel => exact ⟨k + 1, by omega, by go_num, (by first | exact HB.out | exact drew_below HB.out _ | exact HB.out.drew), by have h := HDR.out; rw [HP.out, Bool.false_or] at h; exact h.symm⟩
              case measure => simp [intOf]; omega
          · have HE : Hid (anyOf rprt (rsts x) (rsts y) = false) := by have h := HK.out; rw [anyOf_end rprt _ _ k (by omega)] at h; exact h.symm
            by_cases hs1 : k < (rsts x).length
            · have hs1' : (k : Int) < ((rsts x).length : Int) := by omega
              have hs2' : ¬ (k : Int) < ((rsts y).length : Int) := by omega
              go_wp2
              go_ret
              exact ⟨by rw [HE.out]; rfl, HBW.out⟩
            · have hs1' : ¬ (k : Int) < ((rsts x).length : Int) := by omega
              go_wp2
              go_ret
              exact ⟨by rw [HE.out]; rfl, HBW.out⟩
      · have g : (rootN x == rootN y) = false := by simpa using hr
        simp only [hr, decide_false, Bool.false_and, Bool.and_false]
        go_enter Try.func6, Try.ntmps6
        go_wp2_with (first
          | (go_at_call 9; have M' := HR1; refine (S2.out _ HB1.out).mono ?_; rintro e w2 ⟨AY, CY, he, hr2, _, hb2⟩; rw [HPY.out] at he; subst he; have HR2 : Hid (RowsIn w2 2 rL (rsts y) AY) := hr2; have HR3 : Hid (RowsIn w2 2 rL (rsts x) AX) := HR1.out.below hb2; have HB2 : Hid (Below w.heap.size w w2) := below_next HB1.out hb2; clear hr2 hb2)
          | (go_at_call 9; refine (S1.out _ (below_two _ _ _)).mono ?_; rintro e w1 ⟨AX, CX, he, hr1, _, hb1⟩; rw [HPX.out] at he; subst he; have HR1 : Hid (RowsIn w1 2 rL (rsts x) AX) := hr1; have HB1 : Hid (Below w.heap.size w w1) := below_next (below_two _ _ _) hb1; have hat : At w1 (w.heap.size + 1) #[.int .i64 k2, .int .i64 at2, .int .i64 n2, .string s2, .slice A2 ks2.length C2, .slice B2 ts2.length D2, .int .i64 p2, .string q2, .int .i64 rr2, .slice Z2 zl2 zc2] 27 := (At.newS (w.alloc (.cells #[.int .i64 k1, .int .i64 at1, .int .i64 n1, .string s1, .slice A1 ks1.length C1, .slice B1 ts1.length D1, .int .i64 p1, .string q1, .int .i64 rr1, .slice Z1 zl1 zc1] 27)) #[.int .i64 k2, .int .i64 at2, .int .i64 n2, .string s2, .slice A2 ks2.length C2, .slice B2 ts2.length D2, .int .i64 p2, .string q2, .int .i64 rr2, .slice Z2 zl2 zc2] 27 (by simp)).below hb1 (At.newS (w.alloc (.cells #[.int .i64 k1, .int .i64 at1, .int .i64 n1, .string s1, .slice A1 ks1.length C1, .slice B1 ts1.length D1, .int .i64 p1, .string q1, .int .i64 rr1, .slice Z1 zl1 zc1] 27)) #[.int .i64 k2, .int .i64 at2, .int .i64 n2, .string s2, .slice A2 ks2.length C2, .slice B2 ts2.length D2, .int .i64 p2, .string q2, .int .i64 rr2, .slice Z2 zl2 zc2] 27 (by simp)).lt; obtain ⟨⟨j0, j1, j2, j3, j4, j5, j6, j7, j8, j9⟩, _⟩ := cells10 hat; have jl := hat.lt; clear hr1 hb1 hat))
        go_ret
        exact ⟨rfl, HB2.out⟩

end Go.Proofs.Ytjbglolcnhmkcaa
