/-
  Proved: the law answers true of any two trees.
-/
import Derived.Test.YtjbglolcnhmkcaaRefo
namespace Go.Proofs.Ytjbglolcnhmkcaa
open Go.RowKit

/-- The tree that the law makes. -/
def x0 : X := .mk 4 3 ⟨#[]⟩ [] []

theorem x0_in (w : World) : XIn w x0 [.int .i64 4, .int .i64 0, .int .i64 3, .string ⟨#[]⟩, .slice none 0 0, .slice none 0 0, .int .i64 0, .string ⟨#[]⟩, .int .i64 0, .slice none 0 0] :=
  XIn.of (ks := []) (ts := []) ⟨by simp, fun i hi => absurd hi (Nat.not_lt_zero _)⟩ ⟨by simp, fun i hi => absurd hi (Nat.not_lt_zero _)⟩

theorem x0_ovl : ovl x0 x0 = true := by simp [ovl, x0, isPl, rootX, stps, outX, anyOf]

/-- The worlds in which nothing old has turned. -/
def After (w : World) : Type := { w' : World // Below w.heap.size w w' }

def After.w {w : World} (x : After w) : World := x.1
theorem After.has (w : World) : Nonempty (After w) := ⟨⟨w, Below.refl _ w⟩⟩
theorem After.below {w : World} (x : After w) : Below w.heap.size w x.w := x.2

theorem wp_region_after {P : Program} {id : Nat} {Q : Exit → Act → World → Prop} {a : Act} {w : World} {l : List Oper} (hm : P.follows .mixedOrders = true) (hB : Region.lexB .any l.toArray = true)
    (h : wpQuiet P l.toArray (fun w' => ∃ x : After w, w' = x.w) (fun a' => ∀ w', (∃ x : After w, w' = x.w) → Q .normal a' w') l a) : (Code.region id l.toArray true).wp P Q a w :=
  wp_region_quiet (C := fun w' => ∃ x : After w, w' = x.w) hm hB ⟨⟨w.drew, (Below.refl _ w).drew⟩, rfl⟩ (by simpa using h)

/-- A callee's contract, met in such a world. -/
theorem Calls.after {P : Program} {f : FuncId} {args : Array Value} {w : World} {x : After w} {v : Value} (h : Calls P f args x.w fun e w' => e = .returned v ∧ Below x.w.heap.size x.w w') : Calls P f args x.w fun e w'' => e = .returned v ∧ ∃ y : After w, w'' = y.w :=
  h.mono fun _ w'' ⟨he, hb⟩ => ⟨he, ⟨w'', below_next x.below hb⟩, rfl⟩

theorem After.cell {w : World} {a : Addr} {v : Value} (h : w.cell? a = some v) (x : After w) : x.w.cell? a = some v := by
  rw [← h]
  refine x.below.cell ?_
  unfold World.cell? at h
  split at h
  · rename_i hh; exact (Array.getElem?_eq_some_iff.1 hh).1
  · cases h

set_option maxRecDepth 100000 in
set_option maxHeartbeats 2000000 in
theorem law_walk (x y : X) (cs ds : List Value) (w : World) (hx : XIn w x cs) (hy : XIn w y ds) :
    Calls Try.prog 3 #[.agg cs.toArray, .agg ds.toArray] w fun e w' => e = .returned (.bool true) ∧ Below w.heap.size w w' := by
  have KX : Hid (∀ W, Calls Try.prog 4 #[.agg #[.int .i64 4, .int .i64 0, .int .i64 3, .string ⟨#[]⟩, .slice none 0 0, .slice none 0 0, .int .i64 0, .string ⟨#[]⟩, .int .i64 0, .slice none 0 0], .agg #[.int .i64 4, .int .i64 0, .int .i64 3, .string ⟨#[]⟩, .slice none 0 0, .slice none 0 0, .int .i64 0, .string ⟨#[]⟩, .int .i64 0, .slice none 0 0]] W fun e w' => e = .returned (.bool true) ∧ Below W.heap.size W w') := fun W => by
    have h := Overlap_c x0 x0 _ _ W (x0_in W) (x0_in W) (by simp [x0, dpt]) (by simp [x0, dpt])
    rw [x0_ovl] at h
    exact h
  have F1 : Hid (∀ W, Below w.heap.size w W → Calls Try.prog 5 #[.agg cs.toArray] W fun e w' => e = .returned (.int .i64 ((min (dpt x) 200 : Nat) : Int)) ∧ Below W.heap.size W w') := fun W hW => far_c x cs W (hx.stays hW)
  have F2 : Hid (∀ W, Below w.heap.size w W → Calls Try.prog 5 #[.agg ds.toArray] W fun e w' => e = .returned (.int .i64 ((min (dpt y) 200 : Nat) : Int)) ∧ Below W.heap.size W w') := fun W hW => far_c y ds W (hy.stays hW)
  have O1 : Hid (dpt x < 200 → dpt y < 200 → ∀ W, Below w.heap.size w W → Calls Try.prog 4 #[.agg cs.toArray, .agg ds.toArray] W fun e w' => e = .returned (.bool (ovl x y)) ∧ Below W.heap.size W w') := fun h1 h2 W hW => Overlap_c x y cs ds W (hx.stays hW) (hy.stays hW) (by omega) (by omega)
  have O2 : Hid (dpt x < 200 → dpt y < 200 → ∀ W, Below w.heap.size w W → Calls Try.prog 4 #[.agg ds.toArray, .agg cs.toArray] W fun e w' => e = .returned (.bool (ovl y x)) ∧ Below W.heap.size W w') := fun h1 h2 W hW => Overlap_c y x ds cs W (hy.stays hW) (hx.stays hW) (by omega) (by omega)
  have R1 : Hid (dpt x < 200 → dpt y < 200 → ∀ W, Below w.heap.size w W → Calls Try.prog 6 #[.agg cs.toArray, .agg ds.toArray] W fun e w' => e = .returned (.bool (ovl x y)) ∧ Below W.heap.size W w') := fun h1 h2 W hW => rOverlap_c x y cs ds W (hx.stays hW) (hy.stays hW) (by omega) (by omega)
  have R2 : Hid (dpt x < 200 → dpt y < 200 → ∀ W, Below w.heap.size w W → Calls Try.prog 6 #[.agg ds.toArray, .agg cs.toArray] W fun e w' => e = .returned (.bool (ovl y x)) ∧ Below W.heap.size W w') := fun h1 h2 W hW => rOverlap_c y x ds cs W (hy.stays hW) (hx.stays hW) (by omega) (by omega)
  obtain ⟨k1, n1, s1, ks1, ts1⟩ := x
  obtain ⟨k2, n2, s2, ks2, ts2⟩ := y
  obtain ⟨at1, A1, C1, B1, D1, p1, q1, rr1, Z1, zl1, zc1, rfl, _, _⟩ := hx.inv
  obtain ⟨at2, A2, C2, B2, D2, p2, q2, rr2, Z2, zl2, zc2, rfl, _, _⟩ := hy.inv
  clear hx hy
  generalize X.mk k1 n1 s1 ks1 ts1 = x at *
  generalize X.mk k2 n2 s2 ks2 ts2 = y at *
  by_cases hdx : dpt x < 200
  · by_cases hdy : dpt y < 200
    · have HO1 : Hid (∀ W, Below w.heap.size w W → _) := O1.out hdx hdy
      have HO2 : Hid (∀ W, Below w.heap.size w W → _) := O2.out hdx hdy
      have HQ1 : Hid (∀ W, Below w.heap.size w W → _) := R1.out hdx hdy
      have HQ2 : Hid (∀ W, Below w.heap.size w W → _) := R2.out hdx hdy
      have mx : min (dpt x) 200 = dpt x := by omega
      have my : min (dpt y) 200 = dpt y := by omega
      rw [mx] at F1
      rw [my] at F2
      have gx : ¬ (200 : Int) ≤ (dpt x : Int) := by omega
      have gy : ¬ (200 : Int) ≤ (dpt y : Int) := by omega
      clear O1 O2 R1 R2
      go_enter Try.func3, Try.ntmps3
      go_wp2_with (first
        | (go_at_call 5; have M' := HB2; refine (F2.out _ HB2.out).mono ?_; rintro e w3 ⟨rfl, hb3⟩; have HB3 : Hid (Below w.heap.size w w3) := below_next HB2.out hb3; have HD1 : Hid (At w3 w.heap.size #[.int .i64 k1, .int .i64 at1, .int .i64 n1, .string s1, .slice A1 ks1.length C1, .slice B1 ts1.length D1, .int .i64 p1, .string q1, .int .i64 rr1, .slice Z1 zl1 zc1] 27) := HC1.out.below hb3 HC1.out.lt; have HD2 : Hid (At w3 (w.heap.size + 1) #[.int .i64 k2, .int .i64 at2, .int .i64 n2, .string s2, .slice A2 ks2.length C2, .slice B2 ts2.length D2, .int .i64 p2, .string q2, .int .i64 rr2, .slice Z2 zl2 zc2] 27) := HC2.out.below hb3 HC2.out.lt; clear hb3)
        | (go_at_call 5; refine (F1.out _ HB1.out).mono ?_; rintro e w2 ⟨rfl, hb2⟩; have HB2 : Hid (Below w.heap.size w w2) := below_next HB1.out hb2; have HC1 : Hid (At w2 w.heap.size #[.int .i64 k1, .int .i64 at1, .int .i64 n1, .string s1, .slice A1 ks1.length C1, .slice B1 ts1.length D1, .int .i64 p1, .string q1, .int .i64 rr1, .slice Z1 zl1 zc1] 27) := HA1.out.below hb2 HA1.out.lt; have HC2 : Hid (At w2 (w.heap.size + 1) #[.int .i64 k2, .int .i64 at2, .int .i64 n2, .string s2, .slice A2 ks2.length C2, .slice B2 ts2.length D2, .int .i64 p2, .string q2, .int .i64 rr2, .slice Z2 zl2 zc2] 27) := HA2.out.below hb2 HA2.out.lt; obtain ⟨⟨j0, j1, j2, j3, j4, j5, j6, j7, j8, j9⟩, _⟩ := cells10 HC2.out; have jl := HC2.out.lt; clear hb2)
        | (go_at_call 4; refine (KX.out _).mono ?_; rintro e w1 ⟨rfl, hb1⟩; have HB1 : Hid (Below w.heap.size w w1) := below_next (below_next (below_two _ _ _) (below_alloc _ _)) hb1; have HA1 : Hid (At w1 w.heap.size #[.int .i64 k1, .int .i64 at1, .int .i64 n1, .string s1, .slice A1 ks1.length C1, .slice B1 ts1.length D1, .int .i64 p1, .string q1, .int .i64 rr1, .slice Z1 zl1 zc1] 27) := (((At.new w #[.int .i64 k1, .int .i64 at1, .int .i64 n1, .string s1, .slice A1 ks1.length C1, .slice B1 ts1.length D1, .int .i64 p1, .string q1, .int .i64 rr1, .slice Z1 zl1 zc1] 27).below (below_alloc _ _) (At.new w #[.int .i64 k1, .int .i64 at1, .int .i64 n1, .string s1, .slice A1 ks1.length C1, .slice B1 ts1.length D1, .int .i64 p1, .string q1, .int .i64 rr1, .slice Z1 zl1 zc1] 27).lt).below (below_alloc _ _) (Nat.lt_of_lt_of_le (At.new w #[.int .i64 k1, .int .i64 at1, .int .i64 n1, .string s1, .slice A1 ks1.length C1, .slice B1 ts1.length D1, .int .i64 p1, .string q1, .int .i64 rr1, .slice Z1 zl1 zc1] 27).lt (below_alloc _ _).size)).below hb1 (Nat.lt_of_lt_of_le (Nat.lt_of_lt_of_le (At.new w #[.int .i64 k1, .int .i64 at1, .int .i64 n1, .string s1, .slice A1 ks1.length C1, .slice B1 ts1.length D1, .int .i64 p1, .string q1, .int .i64 rr1, .slice Z1 zl1 zc1] 27).lt (below_alloc _ _).size) (below_alloc _ _).size); have HA2 : Hid (At w1 (w.heap.size + 1) #[.int .i64 k2, .int .i64 at2, .int .i64 n2, .string s2, .slice A2 ks2.length C2, .slice B2 ts2.length D2, .int .i64 p2, .string q2, .int .i64 rr2, .slice Z2 zl2 zc2] 27) := ((At.newS (w.alloc (.cells #[.int .i64 k1, .int .i64 at1, .int .i64 n1, .string s1, .slice A1 ks1.length C1, .slice B1 ts1.length D1, .int .i64 p1, .string q1, .int .i64 rr1, .slice Z1 zl1 zc1] 27)) #[.int .i64 k2, .int .i64 at2, .int .i64 n2, .string s2, .slice A2 ks2.length C2, .slice B2 ts2.length D2, .int .i64 p2, .string q2, .int .i64 rr2, .slice Z2 zl2 zc2] 27 (by simp)).below (below_alloc _ _) (At.newS (w.alloc (.cells #[.int .i64 k1, .int .i64 at1, .int .i64 n1, .string s1, .slice A1 ks1.length C1, .slice B1 ts1.length D1, .int .i64 p1, .string q1, .int .i64 rr1, .slice Z1 zl1 zc1] 27)) #[.int .i64 k2, .int .i64 at2, .int .i64 n2, .string s2, .slice A2 ks2.length C2, .slice B2 ts2.length D2, .int .i64 p2, .string q2, .int .i64 rr2, .slice Z2 zl2 zc2] 27 (by simp)).lt).below hb1 (Nat.lt_of_lt_of_le (At.newS (w.alloc (.cells #[.int .i64 k1, .int .i64 at1, .int .i64 n1, .string s1, .slice A1 ks1.length C1, .slice B1 ts1.length D1, .int .i64 p1, .string q1, .int .i64 rr1, .slice Z1 zl1 zc1] 27)) #[.int .i64 k2, .int .i64 at2, .int .i64 n2, .string s2, .slice A2 ks2.length C2, .slice B2 ts2.length D2, .int .i64 p2, .string q2, .int .i64 rr2, .slice Z2 zl2 zc2] 27 (by simp)).lt (below_alloc _ _).size); obtain ⟨⟨i0, i1, i2, i3, i4, i5, i6, i7, i8, i9⟩, _⟩ := cells10 HA1.out; have il := HA1.out.lt; clear hb1))
      obtain ⟨⟨a0, a1, a2, a3, a4, a5, a6, a7, a8, a9⟩, _⟩ := cells10 HD1.out
      obtain ⟨⟨b0, b1, b2, b3, b4, b5, b6, b7, b8, b9⟩, _⟩ := cells10 HD2.out
      generalize ovl x y = V1 at *
      generalize ovl y x = V2 at *
      have E1 : Hid (∀ z : After w3, Below w.heap.size w z.w) := fun z => below_next HB3.out z.below
      have K4 : Hid (∀ (a b : Value) (V : Bool), ((a = .agg #[.int .i64 k1, .int .i64 at1, .int .i64 n1, .string s1, .slice A1 ks1.length C1, .slice B1 ts1.length D1, .int .i64 p1, .string q1, .int .i64 rr1, .slice Z1 zl1 zc1] ∧ b = .agg #[.int .i64 k2, .int .i64 at2, .int .i64 n2, .string s2, .slice A2 ks2.length C2, .slice B2 ts2.length D2, .int .i64 p2, .string q2, .int .i64 rr2, .slice Z2 zl2 zc2] ∧ V = V1) ∨ (a = .agg #[.int .i64 k2, .int .i64 at2, .int .i64 n2, .string s2, .slice A2 ks2.length C2, .slice B2 ts2.length D2, .int .i64 p2, .string q2, .int .i64 rr2, .slice Z2 zl2 zc2] ∧ b = .agg #[.int .i64 k1, .int .i64 at1, .int .i64 n1, .string s1, .slice A1 ks1.length C1, .slice B1 ts1.length D1, .int .i64 p1, .string q1, .int .i64 rr1, .slice Z1 zl1 zc1] ∧ V = V2)) → ∀ z : After w3, Calls Try.prog 4 #[a, b] z.w fun e w' => e = .returned (.bool V) ∧ Below z.w.heap.size z.w w') := fun a b V h z => by
        rcases h with ⟨rfl, rfl, rfl⟩ | ⟨rfl, rfl, rfl⟩
        · exact HO1.out _ (E1.out z)
        · exact HO2.out _ (E1.out z)
      have K6 : Hid (∀ (a b : Value) (V : Bool), ((a = .agg #[.int .i64 k1, .int .i64 at1, .int .i64 n1, .string s1, .slice A1 ks1.length C1, .slice B1 ts1.length D1, .int .i64 p1, .string q1, .int .i64 rr1, .slice Z1 zl1 zc1] ∧ b = .agg #[.int .i64 k2, .int .i64 at2, .int .i64 n2, .string s2, .slice A2 ks2.length C2, .slice B2 ts2.length D2, .int .i64 p2, .string q2, .int .i64 rr2, .slice Z2 zl2 zc2] ∧ V = V1) ∨ (a = .agg #[.int .i64 k2, .int .i64 at2, .int .i64 n2, .string s2, .slice A2 ks2.length C2, .slice B2 ts2.length D2, .int .i64 p2, .string q2, .int .i64 rr2, .slice Z2 zl2 zc2] ∧ b = .agg #[.int .i64 k1, .int .i64 at1, .int .i64 n1, .string s1, .slice A1 ks1.length C1, .slice B1 ts1.length D1, .int .i64 p1, .string q1, .int .i64 rr1, .slice Z1 zl1 zc1] ∧ V = V2)) → ∀ z : After w3, Calls Try.prog 6 #[a, b] z.w fun e w' => e = .returned (.bool V) ∧ Below z.w.heap.size z.w w') := fun a b V h z => by
        rcases h with ⟨rfl, rfl, rfl⟩ | ⟨rfl, rfl, rfl⟩
        · exact HQ1.out _ (E1.out z)
        · exact HQ2.out _ (E1.out z)
      clear HO1 HO2 HQ1 HQ2
      have u0 := After.cell a0
      have u1 := After.cell a1
      have u2 := After.cell a2
      have u3 := After.cell a3
      have u4 := After.cell a4
      have u5 := After.cell a5
      have u6 := After.cell a6
      have u7 := After.cell a7
      have u8 := After.cell a8
      have u9 := After.cell a9
      have v0 := After.cell b0
      have v1 := After.cell b1
      have v2 := After.cell b2
      have v3 := After.cell b3
      have v4 := After.cell b4
      have v5 := After.cell b5
      have v6 := After.cell b6
      have v7 := After.cell b7
      have v8 := After.cell b8
      have v9 := After.cell b9
      clear a0 b0 i0 j0 a1 b1 i1 j1 a2 b2 i2 j2 a3 b3 i3 j3 a4 b4 i4 j4 a5 b5 i5 j5 a6 b6 i6 j6 a7 b7 i7 j7 a8 b8 i8 j8 a9 b9 i9 j9
      haveI := After.has w3
      cases V1 <;> cases V2
      all_goals (
        refine wp_region_after (by kernel_rfl) (by kernel_rfl) ?_
        repeat (quiet_step ((first
          | (go_at_call 4; exact Calls.after (K4.out _ _ _ (by first | exact Or.inl ⟨rfl, rfl, rfl⟩ | exact Or.inr ⟨rfl, rfl, rfl⟩) _))
          | (go_at_call 6; exact Calls.after (K6.out _ _ _ (by first | exact Or.inl ⟨rfl, rfl, rfl⟩ | exact Or.inr ⟨rfl, rfl, rfl⟩) _)))))
        refine wpQuiet_nil ?_
        intro _ hw'
        obtain ⟨xq, hw''⟩ := hw'
        subst hw''
        have NN : Hid (Below w.heap.size w xq.w) := E1.out xq
        go_wp2
        go_ret
        exact ⟨by first | rfl | simp, NN.out⟩)
    · have my : min (dpt y) 200 = 200 := by omega
      have mx : min (dpt x) 200 = dpt x := by omega
      rw [mx] at F1
      rw [my] at F2
      have gx : ¬ (200 : Int) ≤ (dpt x : Int) := by omega
      go_enter Try.func3, Try.ntmps3
      go_wp2_with (first
        | (go_at_call 5; have M' := HB2; refine (F2.out _ HB2.out).mono ?_; rintro e w3 ⟨rfl, hb3⟩; have HB3 : Hid (Below w.heap.size w w3) := below_next HB2.out hb3; have HD1 : Hid (At w3 w.heap.size #[.int .i64 k1, .int .i64 at1, .int .i64 n1, .string s1, .slice A1 ks1.length C1, .slice B1 ts1.length D1, .int .i64 p1, .string q1, .int .i64 rr1, .slice Z1 zl1 zc1] 27) := HC1.out.below hb3 HC1.out.lt; have HD2 : Hid (At w3 (w.heap.size + 1) #[.int .i64 k2, .int .i64 at2, .int .i64 n2, .string s2, .slice A2 ks2.length C2, .slice B2 ts2.length D2, .int .i64 p2, .string q2, .int .i64 rr2, .slice Z2 zl2 zc2] 27) := HC2.out.below hb3 HC2.out.lt; clear hb3)
        | (go_at_call 5; refine (F1.out _ HB1.out).mono ?_; rintro e w2 ⟨rfl, hb2⟩; have HB2 : Hid (Below w.heap.size w w2) := below_next HB1.out hb2; have HC1 : Hid (At w2 w.heap.size #[.int .i64 k1, .int .i64 at1, .int .i64 n1, .string s1, .slice A1 ks1.length C1, .slice B1 ts1.length D1, .int .i64 p1, .string q1, .int .i64 rr1, .slice Z1 zl1 zc1] 27) := HA1.out.below hb2 HA1.out.lt; have HC2 : Hid (At w2 (w.heap.size + 1) #[.int .i64 k2, .int .i64 at2, .int .i64 n2, .string s2, .slice A2 ks2.length C2, .slice B2 ts2.length D2, .int .i64 p2, .string q2, .int .i64 rr2, .slice Z2 zl2 zc2] 27) := HA2.out.below hb2 HA2.out.lt; obtain ⟨⟨j0, j1, j2, j3, j4, j5, j6, j7, j8, j9⟩, _⟩ := cells10 HC2.out; have jl := HC2.out.lt; clear hb2)
        | (go_at_call 4; refine (KX.out _).mono ?_; rintro e w1 ⟨rfl, hb1⟩; have HB1 : Hid (Below w.heap.size w w1) := below_next (below_next (below_two _ _ _) (below_alloc _ _)) hb1; have HA1 : Hid (At w1 w.heap.size #[.int .i64 k1, .int .i64 at1, .int .i64 n1, .string s1, .slice A1 ks1.length C1, .slice B1 ts1.length D1, .int .i64 p1, .string q1, .int .i64 rr1, .slice Z1 zl1 zc1] 27) := (((At.new w #[.int .i64 k1, .int .i64 at1, .int .i64 n1, .string s1, .slice A1 ks1.length C1, .slice B1 ts1.length D1, .int .i64 p1, .string q1, .int .i64 rr1, .slice Z1 zl1 zc1] 27).below (below_alloc _ _) (At.new w #[.int .i64 k1, .int .i64 at1, .int .i64 n1, .string s1, .slice A1 ks1.length C1, .slice B1 ts1.length D1, .int .i64 p1, .string q1, .int .i64 rr1, .slice Z1 zl1 zc1] 27).lt).below (below_alloc _ _) (Nat.lt_of_lt_of_le (At.new w #[.int .i64 k1, .int .i64 at1, .int .i64 n1, .string s1, .slice A1 ks1.length C1, .slice B1 ts1.length D1, .int .i64 p1, .string q1, .int .i64 rr1, .slice Z1 zl1 zc1] 27).lt (below_alloc _ _).size)).below hb1 (Nat.lt_of_lt_of_le (Nat.lt_of_lt_of_le (At.new w #[.int .i64 k1, .int .i64 at1, .int .i64 n1, .string s1, .slice A1 ks1.length C1, .slice B1 ts1.length D1, .int .i64 p1, .string q1, .int .i64 rr1, .slice Z1 zl1 zc1] 27).lt (below_alloc _ _).size) (below_alloc _ _).size); have HA2 : Hid (At w1 (w.heap.size + 1) #[.int .i64 k2, .int .i64 at2, .int .i64 n2, .string s2, .slice A2 ks2.length C2, .slice B2 ts2.length D2, .int .i64 p2, .string q2, .int .i64 rr2, .slice Z2 zl2 zc2] 27) := ((At.newS (w.alloc (.cells #[.int .i64 k1, .int .i64 at1, .int .i64 n1, .string s1, .slice A1 ks1.length C1, .slice B1 ts1.length D1, .int .i64 p1, .string q1, .int .i64 rr1, .slice Z1 zl1 zc1] 27)) #[.int .i64 k2, .int .i64 at2, .int .i64 n2, .string s2, .slice A2 ks2.length C2, .slice B2 ts2.length D2, .int .i64 p2, .string q2, .int .i64 rr2, .slice Z2 zl2 zc2] 27 (by simp)).below (below_alloc _ _) (At.newS (w.alloc (.cells #[.int .i64 k1, .int .i64 at1, .int .i64 n1, .string s1, .slice A1 ks1.length C1, .slice B1 ts1.length D1, .int .i64 p1, .string q1, .int .i64 rr1, .slice Z1 zl1 zc1] 27)) #[.int .i64 k2, .int .i64 at2, .int .i64 n2, .string s2, .slice A2 ks2.length C2, .slice B2 ts2.length D2, .int .i64 p2, .string q2, .int .i64 rr2, .slice Z2 zl2 zc2] 27 (by simp)).lt).below hb1 (Nat.lt_of_lt_of_le (At.newS (w.alloc (.cells #[.int .i64 k1, .int .i64 at1, .int .i64 n1, .string s1, .slice A1 ks1.length C1, .slice B1 ts1.length D1, .int .i64 p1, .string q1, .int .i64 rr1, .slice Z1 zl1 zc1] 27)) #[.int .i64 k2, .int .i64 at2, .int .i64 n2, .string s2, .slice A2 ks2.length C2, .slice B2 ts2.length D2, .int .i64 p2, .string q2, .int .i64 rr2, .slice Z2 zl2 zc2] 27 (by simp)).lt (below_alloc _ _).size); obtain ⟨⟨i0, i1, i2, i3, i4, i5, i6, i7, i8, i9⟩, _⟩ := cells10 HA1.out; have il := HA1.out.lt; clear hb1))
      go_ret
      exact ⟨rfl, HB3.out⟩
  · have mx : min (dpt x) 200 = 200 := by omega
    rw [mx] at F1
    go_enter Try.func3, Try.ntmps3
    go_wp2_with (first
      | (go_at_call 5; have M' := HB2; refine (F2.out _ HB2.out).mono ?_; rintro e w3 ⟨rfl, hb3⟩; have HB3 : Hid (Below w.heap.size w w3) := below_next HB2.out hb3; have HD1 : Hid (At w3 w.heap.size #[.int .i64 k1, .int .i64 at1, .int .i64 n1, .string s1, .slice A1 ks1.length C1, .slice B1 ts1.length D1, .int .i64 p1, .string q1, .int .i64 rr1, .slice Z1 zl1 zc1] 27) := HC1.out.below hb3 HC1.out.lt; have HD2 : Hid (At w3 (w.heap.size + 1) #[.int .i64 k2, .int .i64 at2, .int .i64 n2, .string s2, .slice A2 ks2.length C2, .slice B2 ts2.length D2, .int .i64 p2, .string q2, .int .i64 rr2, .slice Z2 zl2 zc2] 27) := HC2.out.below hb3 HC2.out.lt; clear hb3)
      | (go_at_call 5; refine (F1.out _ HB1.out).mono ?_; rintro e w2 ⟨rfl, hb2⟩; have HB2 : Hid (Below w.heap.size w w2) := below_next HB1.out hb2; have HC1 : Hid (At w2 w.heap.size #[.int .i64 k1, .int .i64 at1, .int .i64 n1, .string s1, .slice A1 ks1.length C1, .slice B1 ts1.length D1, .int .i64 p1, .string q1, .int .i64 rr1, .slice Z1 zl1 zc1] 27) := HA1.out.below hb2 HA1.out.lt; have HC2 : Hid (At w2 (w.heap.size + 1) #[.int .i64 k2, .int .i64 at2, .int .i64 n2, .string s2, .slice A2 ks2.length C2, .slice B2 ts2.length D2, .int .i64 p2, .string q2, .int .i64 rr2, .slice Z2 zl2 zc2] 27) := HA2.out.below hb2 HA2.out.lt; obtain ⟨⟨j0, j1, j2, j3, j4, j5, j6, j7, j8, j9⟩, _⟩ := cells10 HC2.out; have jl := HC2.out.lt; clear hb2)
      | (go_at_call 4; refine (KX.out _).mono ?_; rintro e w1 ⟨rfl, hb1⟩; have HB1 : Hid (Below w.heap.size w w1) := below_next (below_next (below_two _ _ _) (below_alloc _ _)) hb1; have HA1 : Hid (At w1 w.heap.size #[.int .i64 k1, .int .i64 at1, .int .i64 n1, .string s1, .slice A1 ks1.length C1, .slice B1 ts1.length D1, .int .i64 p1, .string q1, .int .i64 rr1, .slice Z1 zl1 zc1] 27) := (((At.new w #[.int .i64 k1, .int .i64 at1, .int .i64 n1, .string s1, .slice A1 ks1.length C1, .slice B1 ts1.length D1, .int .i64 p1, .string q1, .int .i64 rr1, .slice Z1 zl1 zc1] 27).below (below_alloc _ _) (At.new w #[.int .i64 k1, .int .i64 at1, .int .i64 n1, .string s1, .slice A1 ks1.length C1, .slice B1 ts1.length D1, .int .i64 p1, .string q1, .int .i64 rr1, .slice Z1 zl1 zc1] 27).lt).below (below_alloc _ _) (Nat.lt_of_lt_of_le (At.new w #[.int .i64 k1, .int .i64 at1, .int .i64 n1, .string s1, .slice A1 ks1.length C1, .slice B1 ts1.length D1, .int .i64 p1, .string q1, .int .i64 rr1, .slice Z1 zl1 zc1] 27).lt (below_alloc _ _).size)).below hb1 (Nat.lt_of_lt_of_le (Nat.lt_of_lt_of_le (At.new w #[.int .i64 k1, .int .i64 at1, .int .i64 n1, .string s1, .slice A1 ks1.length C1, .slice B1 ts1.length D1, .int .i64 p1, .string q1, .int .i64 rr1, .slice Z1 zl1 zc1] 27).lt (below_alloc _ _).size) (below_alloc _ _).size); have HA2 : Hid (At w1 (w.heap.size + 1) #[.int .i64 k2, .int .i64 at2, .int .i64 n2, .string s2, .slice A2 ks2.length C2, .slice B2 ts2.length D2, .int .i64 p2, .string q2, .int .i64 rr2, .slice Z2 zl2 zc2] 27) := ((At.newS (w.alloc (.cells #[.int .i64 k1, .int .i64 at1, .int .i64 n1, .string s1, .slice A1 ks1.length C1, .slice B1 ts1.length D1, .int .i64 p1, .string q1, .int .i64 rr1, .slice Z1 zl1 zc1] 27)) #[.int .i64 k2, .int .i64 at2, .int .i64 n2, .string s2, .slice A2 ks2.length C2, .slice B2 ts2.length D2, .int .i64 p2, .string q2, .int .i64 rr2, .slice Z2 zl2 zc2] 27 (by simp)).below (below_alloc _ _) (At.newS (w.alloc (.cells #[.int .i64 k1, .int .i64 at1, .int .i64 n1, .string s1, .slice A1 ks1.length C1, .slice B1 ts1.length D1, .int .i64 p1, .string q1, .int .i64 rr1, .slice Z1 zl1 zc1] 27)) #[.int .i64 k2, .int .i64 at2, .int .i64 n2, .string s2, .slice A2 ks2.length C2, .slice B2 ts2.length D2, .int .i64 p2, .string q2, .int .i64 rr2, .slice Z2 zl2 zc2] 27 (by simp)).lt).below hb1 (Nat.lt_of_lt_of_le (At.newS (w.alloc (.cells #[.int .i64 k1, .int .i64 at1, .int .i64 n1, .string s1, .slice A1 ks1.length C1, .slice B1 ts1.length D1, .int .i64 p1, .string q1, .int .i64 rr1, .slice Z1 zl1 zc1] 27)) #[.int .i64 k2, .int .i64 at2, .int .i64 n2, .string s2, .slice A2 ks2.length C2, .slice B2 ts2.length D2, .int .i64 p2, .string q2, .int .i64 rr2, .slice Z2 zl2 zc2] 27 (by simp)).lt (below_alloc _ _).size); obtain ⟨⟨i0, i1, i2, i3, i4, i5, i6, i7, i8, i9⟩, _⟩ := cells10 HA1.out; have il := HA1.out.lt; clear hb1))
    go_ret
    exact ⟨rfl, HB2.out⟩

end Go.Proofs.Ytjbglolcnhmkcaa
