/-
  Proved: Overlap answers whether two places overlap.
-/
import Derived.Test.YtjbglolcnhmkcaaOver
namespace Go.Proofs.Ytjbglolcnhmkcaa
open Go.RowKit

theorem stps_len (x : X) : (stps x).length ≤ dpt x := by
  have := outX_len x
  simp [stps]
  omega

theorem pt_new (w : World) (x : X) (cs : List Value) (h : XIn w x cs) : PtIn (w.alloc (.cells cs.toArray 27)) x (.pointer (some ⟨w.heap.size, 0, none⟩)) :=
  ⟨w.heap.size, 0, cs, rfl, ⟨(At.new w cs.toArray 27).lt, fun j v hj => by rw [Nat.zero_add]; exact ((At.new w cs.toArray 27).cell j).trans (by simpa using hj)⟩, h.stays (below_alloc _ _)⟩

set_option maxRecDepth 100000 in
set_option maxHeartbeats 4000000 in
theorem Overlap_c (x y : X) (cs ds : List Value) (w : World) (hx : XIn w x cs) (hy : XIn w y ds) (dx : dpt x ≤ 1000) (dy : dpt y ≤ 1000) :
    Calls Try.prog 4 #[.agg cs.toArray, .agg ds.toArray] w fun e w' => e = .returned (.bool (ovl x y)) ∧ Below w.heap.size w w' := by
  have HP : Hid (∀ W, Below ((w.alloc (.cells cs.toArray 27)).alloc (.cells ds.toArray 27)).heap.size ((w.alloc (.cells cs.toArray 27)).alloc (.cells ds.toArray 27)) W → PtIn W x (.pointer (some ⟨w.heap.size, 0, none⟩)) ∧ PtIn W y (.pointer (some ⟨w.heap.size + 1, 0, none⟩))) := fun W hW => by
    have h1 := ((pt_new w x cs hx).below (below_alloc _ (.cells ds.toArray 27))).below hW
    have h2 := (pt_new (w.alloc (.cells cs.toArray 27)) y ds (hy.stays (below_alloc _ _))).below hW
    exact ⟨h1, by simpa using h2⟩
  have LX := stps_len x
  have HLX : Hid ((stps x).length ≤ 1000) := Nat.le_trans LX dx
  have HDX : Hid (dpt x ≤ 1000 ∧ dpt y ≤ 1000) := ⟨dx, dy⟩
  have HOV : Hid (ovl x y = (isPl x && isPl y && (decide ((rootX x).n = (rootX y).n) && !anyOf prt (stps x) (stps y)))) := by
    show ovl x y = _
    rw [ovl, Bool.and_assoc (isPl x && isPl y)]
  obtain ⟨k1, n1, s1, ks1, ts1⟩ := x
  obtain ⟨k2, n2, s2, ks2, ts2⟩ := y
  obtain ⟨at1, A1, C1, B1, D1, p1, q1, rr1, Z1, zl1, zc1, rfl, _, _⟩ := hx.inv
  obtain ⟨at2, A2, C2, B2, D2, p2, q2, rr2, Z2, zl2, zc2, rfl, _, _⟩ := hy.inv
  clear hx hy LX dx dy
  generalize X.mk k1 n1 s1 ks1 ts1 = x at *
  generalize X.mk k2 n2 s2 ks2 ts2 = y at *
  cases hpx : isPl x with
  | false =>
    cases hpy : isPl y with
    | false =>
      have HPX : Hid (isPl x = false) := hpx
      have HPY : Hid (isPl y = false) := hpy
      rw [HOV.out, hpx, hpy]
      clear hpx hpy
      go_enter Try.func4, Try.ntmps4
      go_wp2_with (first
        | (go_at_call 7; have M' := HR1; refine (pathOf_c y _ _ (HP.out _ (below_next HB1.out (below_alloc _ _))).2 HDX.out.2).mono ?_; rintro e w2 ⟨rt2, PB, PD, he, hr2, hrw2, hb2⟩; obtain ⟨rb2, ro2, rcs2, rfl, hq2⟩ := hr2; have hr2 : PtIn _ (rootX y) (.pointer (some ⟨rb2, ro2, none⟩)) := ⟨rb2, ro2, rcs2, rfl, hq2⟩; rw [HPY.out] at he; subst he; have HR2 : Hid (PtIn w2 (rootX y) (.pointer (some ⟨rb2, ro2, none⟩))) := hr2.below hb2; have HRW2 : Hid (RowsIn w2 3 cstL (stps y) PB) := hrw2; have HR3 : Hid (PtIn w2 (rootX x) (.pointer (some ⟨rb1, ro1, none⟩))) := (HR1.out.below (below_alloc _ _)).below hb2; have HRW3 : Hid (RowsIn w2 3 cstL (stps x) PA) := (HRW1.out.below (below_alloc _ _)).below hb2; have HB2 : Hid (Below w.heap.size w w2) := below_next (below_next (below_next (below_two _ _ _) HB1.out) (below_alloc _ _)) hb2; have AT1 : Hid (At w2 w1.heap.size #[.pointer (some ⟨rb1, ro1, none⟩), .slice PA (stps x).length PC] 33) := (At.new w1 _ _).below hb2 (At.new w1 _ _).lt; obtain ⟨i0, i1⟩ := (⟨AT1.out.cell 0, AT1.out.cell 1⟩ : w2.cell? ⟨w1.heap.size, 0, none⟩ = some (.pointer (some ⟨rb1, ro1, none⟩)) ∧ w2.cell? ⟨w1.heap.size, 1, none⟩ = some (.slice PA (stps x).length PC)); have i2 := AT1.out.lt; clear hr2 hrw2 hb2)
        | (go_at_call 7; refine (pathOf_c x _ _ (HP.out _ (Below.refl _ _)).1 HDX.out.1).mono ?_; rintro e w1 ⟨rt, PA, PC, he, hr1, hrw1, hb1⟩; obtain ⟨rb1, ro1, rcs1, rfl, hq1⟩ := hr1; have hr1 : PtIn _ (rootX x) (.pointer (some ⟨rb1, ro1, none⟩)) := ⟨rb1, ro1, rcs1, rfl, hq1⟩; rw [HPX.out] at he; subst he; have HR1 : Hid (PtIn w1 (rootX x) (.pointer (some ⟨rb1, ro1, none⟩))) := hr1.below hb1; have HRW1 : Hid (RowsIn w1 3 cstL (stps x) PA) := hrw1; have HB1 : Hid (Below ((w.alloc (.cells #[.int .i64 k1, .int .i64 at1, .int .i64 n1, .string s1, .slice A1 ks1.length C1, .slice B1 ts1.length D1, .int .i64 p1, .string q1, .int .i64 rr1, .slice Z1 zl1 zc1] 27)).alloc (.cells #[.int .i64 k2, .int .i64 at2, .int .i64 n2, .string s2, .slice A2 ks2.length C2, .slice B2 ts2.length D2, .int .i64 p2, .string q2, .int .i64 rr2, .slice Z2 zl2 zc2] 27)).heap.size ((w.alloc (.cells #[.int .i64 k1, .int .i64 at1, .int .i64 n1, .string s1, .slice A1 ks1.length C1, .slice B1 ts1.length D1, .int .i64 p1, .string q1, .int .i64 rr1, .slice Z1 zl1 zc1] 27)).alloc (.cells #[.int .i64 k2, .int .i64 at2, .int .i64 n2, .string s2, .slice A2 ks2.length C2, .slice B2 ts2.length D2, .int .i64 p2, .string q2, .int .i64 rr2, .slice Z2 zl2 zc2] 27)) w1) := hb1; clear hr1 hrw1 hb1)
        | (go_at_call 8; refine (overlaps_c (rootX x) (rootX y) (stps x) (stps y) _ _ PA PB PC PD _ (HR3.out.below (below_alloc _ _)) (HR2.out.below (below_alloc _ _)) (HRW3.out.below (below_alloc _ _)) (HRW2.out.below (below_alloc _ _)) HLX.out).mono ?_; rintro e w3 ⟨rfl, hb3⟩; have HB3 : Hid (Below w.heap.size w w3) := below_next (below_next HB2.out (below_alloc _ _)) hb3; clear hb3))
      go_ret
      exact ⟨rfl, below_next HB2.out (below_alloc _ _)⟩
    | true =>
      have HPX : Hid (isPl x = false) := hpx
      have HPY : Hid (isPl y = true) := hpy
      rw [HOV.out, hpx, hpy]
      clear hpx hpy
      go_enter Try.func4, Try.ntmps4
      go_wp2_with (first
        | (go_at_call 7; have M' := HR1; refine (pathOf_c y _ _ (HP.out _ (below_next HB1.out (below_alloc _ _))).2 HDX.out.2).mono ?_; rintro e w2 ⟨rt2, PB, PD, he, hr2, hrw2, hb2⟩; obtain ⟨rb2, ro2, rcs2, rfl, hq2⟩ := hr2; have hr2 : PtIn _ (rootX y) (.pointer (some ⟨rb2, ro2, none⟩)) := ⟨rb2, ro2, rcs2, rfl, hq2⟩; rw [HPY.out] at he; subst he; have HR2 : Hid (PtIn w2 (rootX y) (.pointer (some ⟨rb2, ro2, none⟩))) := hr2.below hb2; have HRW2 : Hid (RowsIn w2 3 cstL (stps y) PB) := hrw2; have HR3 : Hid (PtIn w2 (rootX x) (.pointer (some ⟨rb1, ro1, none⟩))) := (HR1.out.below (below_alloc _ _)).below hb2; have HRW3 : Hid (RowsIn w2 3 cstL (stps x) PA) := (HRW1.out.below (below_alloc _ _)).below hb2; have HB2 : Hid (Below w.heap.size w w2) := below_next (below_next (below_next (below_two _ _ _) HB1.out) (below_alloc _ _)) hb2; have AT1 : Hid (At w2 w1.heap.size #[.pointer (some ⟨rb1, ro1, none⟩), .slice PA (stps x).length PC] 33) := (At.new w1 _ _).below hb2 (At.new w1 _ _).lt; obtain ⟨i0, i1⟩ := (⟨AT1.out.cell 0, AT1.out.cell 1⟩ : w2.cell? ⟨w1.heap.size, 0, none⟩ = some (.pointer (some ⟨rb1, ro1, none⟩)) ∧ w2.cell? ⟨w1.heap.size, 1, none⟩ = some (.slice PA (stps x).length PC)); have i2 := AT1.out.lt; clear hr2 hrw2 hb2)
        | (go_at_call 7; refine (pathOf_c x _ _ (HP.out _ (Below.refl _ _)).1 HDX.out.1).mono ?_; rintro e w1 ⟨rt, PA, PC, he, hr1, hrw1, hb1⟩; obtain ⟨rb1, ro1, rcs1, rfl, hq1⟩ := hr1; have hr1 : PtIn _ (rootX x) (.pointer (some ⟨rb1, ro1, none⟩)) := ⟨rb1, ro1, rcs1, rfl, hq1⟩; rw [HPX.out] at he; subst he; have HR1 : Hid (PtIn w1 (rootX x) (.pointer (some ⟨rb1, ro1, none⟩))) := hr1.below hb1; have HRW1 : Hid (RowsIn w1 3 cstL (stps x) PA) := hrw1; have HB1 : Hid (Below ((w.alloc (.cells #[.int .i64 k1, .int .i64 at1, .int .i64 n1, .string s1, .slice A1 ks1.length C1, .slice B1 ts1.length D1, .int .i64 p1, .string q1, .int .i64 rr1, .slice Z1 zl1 zc1] 27)).alloc (.cells #[.int .i64 k2, .int .i64 at2, .int .i64 n2, .string s2, .slice A2 ks2.length C2, .slice B2 ts2.length D2, .int .i64 p2, .string q2, .int .i64 rr2, .slice Z2 zl2 zc2] 27)).heap.size ((w.alloc (.cells #[.int .i64 k1, .int .i64 at1, .int .i64 n1, .string s1, .slice A1 ks1.length C1, .slice B1 ts1.length D1, .int .i64 p1, .string q1, .int .i64 rr1, .slice Z1 zl1 zc1] 27)).alloc (.cells #[.int .i64 k2, .int .i64 at2, .int .i64 n2, .string s2, .slice A2 ks2.length C2, .slice B2 ts2.length D2, .int .i64 p2, .string q2, .int .i64 rr2, .slice Z2 zl2 zc2] 27)) w1) := hb1; clear hr1 hrw1 hb1)
        | (go_at_call 8; refine (overlaps_c (rootX x) (rootX y) (stps x) (stps y) _ _ PA PB PC PD _ (HR3.out.below (below_alloc _ _)) (HR2.out.below (below_alloc _ _)) (HRW3.out.below (below_alloc _ _)) (HRW2.out.below (below_alloc _ _)) HLX.out).mono ?_; rintro e w3 ⟨rfl, hb3⟩; have HB3 : Hid (Below w.heap.size w w3) := below_next (below_next HB2.out (below_alloc _ _)) hb3; clear hb3))
      go_ret
      exact ⟨rfl, below_next HB2.out (below_alloc _ _)⟩
  | true =>
    cases hpy : isPl y with
    | false =>
      have HPX : Hid (isPl x = true) := hpx
      have HPY : Hid (isPl y = false) := hpy
      rw [HOV.out, hpx, hpy]
      clear hpx hpy
      go_enter Try.func4, Try.ntmps4
      go_wp2_with (first
        | (go_at_call 7; have M' := HR1; refine (pathOf_c y _ _ (HP.out _ (below_next HB1.out (below_alloc _ _))).2 HDX.out.2).mono ?_; rintro e w2 ⟨rt2, PB, PD, he, hr2, hrw2, hb2⟩; obtain ⟨rb2, ro2, rcs2, rfl, hq2⟩ := hr2; have hr2 : PtIn _ (rootX y) (.pointer (some ⟨rb2, ro2, none⟩)) := ⟨rb2, ro2, rcs2, rfl, hq2⟩; rw [HPY.out] at he; subst he; have HR2 : Hid (PtIn w2 (rootX y) (.pointer (some ⟨rb2, ro2, none⟩))) := hr2.below hb2; have HRW2 : Hid (RowsIn w2 3 cstL (stps y) PB) := hrw2; have HR3 : Hid (PtIn w2 (rootX x) (.pointer (some ⟨rb1, ro1, none⟩))) := (HR1.out.below (below_alloc _ _)).below hb2; have HRW3 : Hid (RowsIn w2 3 cstL (stps x) PA) := (HRW1.out.below (below_alloc _ _)).below hb2; have HB2 : Hid (Below w.heap.size w w2) := below_next (below_next (below_next (below_two _ _ _) HB1.out) (below_alloc _ _)) hb2; have AT1 : Hid (At w2 w1.heap.size #[.pointer (some ⟨rb1, ro1, none⟩), .slice PA (stps x).length PC] 33) := (At.new w1 _ _).below hb2 (At.new w1 _ _).lt; obtain ⟨i0, i1⟩ := (⟨AT1.out.cell 0, AT1.out.cell 1⟩ : w2.cell? ⟨w1.heap.size, 0, none⟩ = some (.pointer (some ⟨rb1, ro1, none⟩)) ∧ w2.cell? ⟨w1.heap.size, 1, none⟩ = some (.slice PA (stps x).length PC)); have i2 := AT1.out.lt; clear hr2 hrw2 hb2)
        | (go_at_call 7; refine (pathOf_c x _ _ (HP.out _ (Below.refl _ _)).1 HDX.out.1).mono ?_; rintro e w1 ⟨rt, PA, PC, he, hr1, hrw1, hb1⟩; obtain ⟨rb1, ro1, rcs1, rfl, hq1⟩ := hr1; have hr1 : PtIn _ (rootX x) (.pointer (some ⟨rb1, ro1, none⟩)) := ⟨rb1, ro1, rcs1, rfl, hq1⟩; rw [HPX.out] at he; subst he; have HR1 : Hid (PtIn w1 (rootX x) (.pointer (some ⟨rb1, ro1, none⟩))) := hr1.below hb1; have HRW1 : Hid (RowsIn w1 3 cstL (stps x) PA) := hrw1; have HB1 : Hid (Below ((w.alloc (.cells #[.int .i64 k1, .int .i64 at1, .int .i64 n1, .string s1, .slice A1 ks1.length C1, .slice B1 ts1.length D1, .int .i64 p1, .string q1, .int .i64 rr1, .slice Z1 zl1 zc1] 27)).alloc (.cells #[.int .i64 k2, .int .i64 at2, .int .i64 n2, .string s2, .slice A2 ks2.length C2, .slice B2 ts2.length D2, .int .i64 p2, .string q2, .int .i64 rr2, .slice Z2 zl2 zc2] 27)).heap.size ((w.alloc (.cells #[.int .i64 k1, .int .i64 at1, .int .i64 n1, .string s1, .slice A1 ks1.length C1, .slice B1 ts1.length D1, .int .i64 p1, .string q1, .int .i64 rr1, .slice Z1 zl1 zc1] 27)).alloc (.cells #[.int .i64 k2, .int .i64 at2, .int .i64 n2, .string s2, .slice A2 ks2.length C2, .slice B2 ts2.length D2, .int .i64 p2, .string q2, .int .i64 rr2, .slice Z2 zl2 zc2] 27)) w1) := hb1; clear hr1 hrw1 hb1)
        | (go_at_call 8; refine (overlaps_c (rootX x) (rootX y) (stps x) (stps y) _ _ PA PB PC PD _ (HR3.out.below (below_alloc _ _)) (HR2.out.below (below_alloc _ _)) (HRW3.out.below (below_alloc _ _)) (HRW2.out.below (below_alloc _ _)) HLX.out).mono ?_; rintro e w3 ⟨rfl, hb3⟩; have HB3 : Hid (Below w.heap.size w w3) := below_next (below_next HB2.out (below_alloc _ _)) hb3; clear hb3))
      go_ret
      exact ⟨rfl, below_next HB2.out (below_alloc _ _)⟩
    | true =>
      have HPX : Hid (isPl x = true) := hpx
      have HPY : Hid (isPl y = true) := hpy
      rw [HOV.out, hpx, hpy]
      clear hpx hpy
      go_enter Try.func4, Try.ntmps4
      go_wp2_with (first
        | (go_at_call 7; have M' := HR1; refine (pathOf_c y _ _ (HP.out _ (below_next HB1.out (below_alloc _ _))).2 HDX.out.2).mono ?_; rintro e w2 ⟨rt2, PB, PD, he, hr2, hrw2, hb2⟩; obtain ⟨rb2, ro2, rcs2, rfl, hq2⟩ := hr2; have hr2 : PtIn _ (rootX y) (.pointer (some ⟨rb2, ro2, none⟩)) := ⟨rb2, ro2, rcs2, rfl, hq2⟩; rw [HPY.out] at he; subst he; have HR2 : Hid (PtIn w2 (rootX y) (.pointer (some ⟨rb2, ro2, none⟩))) := hr2.below hb2; have HRW2 : Hid (RowsIn w2 3 cstL (stps y) PB) := hrw2; have HR3 : Hid (PtIn w2 (rootX x) (.pointer (some ⟨rb1, ro1, none⟩))) := (HR1.out.below (below_alloc _ _)).below hb2; have HRW3 : Hid (RowsIn w2 3 cstL (stps x) PA) := (HRW1.out.below (below_alloc _ _)).below hb2; have HB2 : Hid (Below w.heap.size w w2) := below_next (below_next (below_next (below_two _ _ _) HB1.out) (below_alloc _ _)) hb2; have AT1 : Hid (At w2 w1.heap.size #[.pointer (some ⟨rb1, ro1, none⟩), .slice PA (stps x).length PC] 33) := (At.new w1 _ _).below hb2 (At.new w1 _ _).lt; obtain ⟨i0, i1⟩ := (⟨AT1.out.cell 0, AT1.out.cell 1⟩ : w2.cell? ⟨w1.heap.size, 0, none⟩ = some (.pointer (some ⟨rb1, ro1, none⟩)) ∧ w2.cell? ⟨w1.heap.size, 1, none⟩ = some (.slice PA (stps x).length PC)); have i2 := AT1.out.lt; clear hr2 hrw2 hb2)
        | (go_at_call 7; refine (pathOf_c x _ _ (HP.out _ (Below.refl _ _)).1 HDX.out.1).mono ?_; rintro e w1 ⟨rt, PA, PC, he, hr1, hrw1, hb1⟩; obtain ⟨rb1, ro1, rcs1, rfl, hq1⟩ := hr1; have hr1 : PtIn _ (rootX x) (.pointer (some ⟨rb1, ro1, none⟩)) := ⟨rb1, ro1, rcs1, rfl, hq1⟩; rw [HPX.out] at he; subst he; have HR1 : Hid (PtIn w1 (rootX x) (.pointer (some ⟨rb1, ro1, none⟩))) := hr1.below hb1; have HRW1 : Hid (RowsIn w1 3 cstL (stps x) PA) := hrw1; have HB1 : Hid (Below ((w.alloc (.cells #[.int .i64 k1, .int .i64 at1, .int .i64 n1, .string s1, .slice A1 ks1.length C1, .slice B1 ts1.length D1, .int .i64 p1, .string q1, .int .i64 rr1, .slice Z1 zl1 zc1] 27)).alloc (.cells #[.int .i64 k2, .int .i64 at2, .int .i64 n2, .string s2, .slice A2 ks2.length C2, .slice B2 ts2.length D2, .int .i64 p2, .string q2, .int .i64 rr2, .slice Z2 zl2 zc2] 27)).heap.size ((w.alloc (.cells #[.int .i64 k1, .int .i64 at1, .int .i64 n1, .string s1, .slice A1 ks1.length C1, .slice B1 ts1.length D1, .int .i64 p1, .string q1, .int .i64 rr1, .slice Z1 zl1 zc1] 27)).alloc (.cells #[.int .i64 k2, .int .i64 at2, .int .i64 n2, .string s2, .slice A2 ks2.length C2, .slice B2 ts2.length D2, .int .i64 p2, .string q2, .int .i64 rr2, .slice Z2 zl2 zc2] 27)) w1) := hb1; clear hr1 hrw1 hb1)
        | (go_at_call 8; refine (overlaps_c (rootX x) (rootX y) (stps x) (stps y) _ _ PA PB PC PD _ (HR3.out.below (below_alloc _ _)) (HR2.out.below (below_alloc _ _)) (HRW3.out.below (below_alloc _ _)) (HRW2.out.below (below_alloc _ _)) HLX.out).mono ?_; rintro e w3 ⟨rfl, hb3⟩; have HB3 : Hid (Below w.heap.size w w3) := below_next (below_next HB2.out (below_alloc _ _)) hb3; clear hb3))
      go_ret
      exact ⟨rfl, HB3.out⟩

end Go.Proofs.Ytjbglolcnhmkcaa
