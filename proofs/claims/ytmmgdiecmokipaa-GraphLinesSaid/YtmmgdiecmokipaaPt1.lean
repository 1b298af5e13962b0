/-
  Proved: what turnsOf's closure does.
-/
import Derived.Test.YtmmgdiecmokipaaPtt
namespace Go.Proofs.Ytmmgdiecmokipaa
open Go.RowKit

set_option maxRecDepth 20000 in
set_option maxHeartbeats 4000000 in
theorem turns1_c (w : World) (N n : Nat) (vs : Nat → Value) (rows : Nat → List Int) (tf : Nat → Int) (hT : TT w N n vs rows tf) (b : Nat) (hb : b < n) (f : Int) (q : Nat) (hq : (max f 0) = (q : Int)) (hqn : q < n) (m : Nat) (hm : m ≤ 1000) (hl : ∀ i, i < 6 → i ≠ 2 → (rows i).length = m) :
    Calls Try.prog 33 #[.int .i64 (b : Int), .int .i64 f, .pointer (some ⟨N + 1, 0, none⟩), .pointer (some ⟨N + 3, 0, none⟩)] w fun e w' => e = .returned (.tuple #[]) ∧ ∃ vs', TT w' N n vs' (pu (pu (pu (pu (pu rows 0 (rows 0 ++ [(b : Int)])) 1 (rows 1 ++ [pu tf b (m : Int) q])) 3 (rows 3 ++ [(m : Int)])) 4 (rows 4 ++ [-1])) 5 (rows 5 ++ [(m : Int)])) (pu tf b (m : Int)) ∧ Gr (Fr N vs) (Fr N vs') w w' := by
  have mixed : Try.prog.follows Departure.mixedOrders = true := by kernel_rfl
  have c1 : w.cell? ⟨N + 1, 0, none⟩ = some (.pointer (some ⟨N, 0, none⟩)) := hT.2.2.2.1.cell 0
  have c3 : w.cell? ⟨N + 3, 0, none⟩ = some (.slice (some ⟨N + 2, 0, none⟩) n n) := hT.2.2.2.2.2.cell 0
  have cb := hT.2.2.2.2.1.cell b hb
  have fb := hT.2.2.2.2.1.frozen b
  have hbz : (b : Int) < n := by omega
  have hqz : (q : Int) < n := by omega
  obtain ⟨A0, C0, e0, -⟩ := (hT.2.1 0 (by decide)).shape
  rw [hl 0 (by decide) (by decide)] at e0
  have E0 : Hid (vs 0 = .slice A0 m C0) := e0
  have HL0 : Hid ((rows 0).length = m) := hl 0 (by decide) (by decide)
  clear e0
  obtain ⟨A1, C1, e1, -⟩ := (hT.2.1 1 (by decide)).shape
  rw [hl 1 (by decide) (by decide)] at e1
  have E1 : Hid (vs 1 = .slice A1 m C1) := e1
  have HL1 : Hid ((rows 1).length = m) := hl 1 (by decide) (by decide)
  clear e1
  obtain ⟨A3, C3, e3, -⟩ := (hT.2.1 3 (by decide)).shape
  rw [hl 3 (by decide) (by decide)] at e3
  have E3 : Hid (vs 3 = .slice A3 m C3) := e3
  have HL3 : Hid ((rows 3).length = m) := hl 3 (by decide) (by decide)
  clear e3
  obtain ⟨A4, C4, e4, -⟩ := (hT.2.1 4 (by decide)).shape
  rw [hl 4 (by decide) (by decide)] at e4
  have E4 : Hid (vs 4 = .slice A4 m C4) := e4
  have HL4 : Hid ((rows 4).length = m) := hl 4 (by decide) (by decide)
  clear e4
  obtain ⟨A5, C5, e5, -⟩ := (hT.2.1 5 (by decide)).shape
  rw [hl 5 (by decide) (by decide)] at e5
  have E5 : Hid (vs 5 = .slice A5 m C5) := e5
  have HL5 : Hid ((rows 5).length = m) := hl 5 (by decide) (by decide)
  clear e5
  have f0 := hT.field 0 (by decide)
  rw [E0.out] at f0
  obtain ⟨T1, G1⟩ := hT.turn b hb (m : Int)
  have TT1 : Hid (TT (w.setCell ⟨N + 2, b, none⟩ (.int .i64 (m : Int))) N n vs rows (pu tf b (m : Int))) := T1
  have GG1 : Hid (Gr (Fr N vs) (Fr N vs) w (w.setCell ⟨N + 2, b, none⟩ (.int .i64 (m : Int)))) := G1
  clear hT T1 G1 hl
  go_enter Try.func33, Try.ntmps33
  go_wp2
  generalize w.setCell ⟨N + 2, b, none⟩ (.int .i64 (m : Int)) = w1 at *
  generalize ht1 : pu tf b (m : Int) = tf1 at *
  -- field 0
  have SK1 : Hid (∀ wq, Below w1.heap.size w1 wq → (wq.cell? ⟨N + 1, 0, none⟩ = some (.pointer (some ⟨N, 0, none⟩)) ∧ wq.cell? ⟨N, 0, none⟩ = some (.slice A0 m C0))) := fun wq hb => by
    have t := TT1.out.kp (Kp.of_below (F := fun _ => False) hb) fun _ h => h.elim
    have e := t.field 0 (by decide)
    rw [E0.out] at e
    exact ⟨t.2.2.2.1.cell 0, e⟩
  refine wp_region_N (fun w' => w'.cell? ⟨N + 1, 0, none⟩ = some (.pointer (some ⟨N, 0, none⟩)) ∧ w'.cell? ⟨N, 0, none⟩ = some (.slice A0 m C0)) (fun j => j != 10) mixed (SK1.out _ (below_drew _)) ?_
  intro S0
  refine wpAnyN_take (i := 0) (v := .pointer (some ⟨N, 0, none⟩)) rfl (by kernel_rfl) (by kernel_rfl) (by kernel_rfl) (by kernel_rfl) (fun _ _ _ h => h) (Or.inl ⟨by rfl, ?_⟩) S0 ?_
  · intro w' hS'
    obtain ⟨h1, h2⟩ := hS'
    go_simp
  (try simp only [Act.put, List.getElem_toArray, List.getElem_cons_zero, List.setIfInBounds_toArray, List.set_cons_zero, List.set_cons_succ])
  refine wpAnyN_take (i := 1) (v := .pointer (some ⟨N, 0, none⟩)) rfl (by kernel_rfl) (by kernel_rfl) (by kernel_rfl) (by kernel_rfl) (fun _ _ _ h => h) (Or.inl ⟨by rfl, ?_⟩) S0 ?_
  · intro w' hS'
    obtain ⟨h1, h2⟩ := hS'
    go_simp
  (try simp only [Act.put, List.getElem_toArray, List.getElem_cons_succ, List.getElem_cons_zero, List.setIfInBounds_toArray, List.set_cons_zero, List.set_cons_succ])
  refine wpAnyN_take (i := 2) (v := .pointer (some ⟨N, 0, none⟩)) rfl (by kernel_rfl) (by kernel_rfl) (by kernel_rfl) (by kernel_rfl) (fun _ _ _ h => h) (Or.inl ⟨by rfl, ?_⟩) S0 ?_
  · intro w' hS'
    obtain ⟨h1, h2⟩ := hS'
    go_simp
  (try simp only [Act.put, List.getElem_toArray, List.getElem_cons_succ, List.getElem_cons_zero, List.setIfInBounds_toArray, List.set_cons_zero, List.set_cons_succ])
  refine wpAnyN_take (i := 3) (v := .pointer (some ⟨N, 0, none⟩)) rfl (by kernel_rfl) (by kernel_rfl) (by kernel_rfl) (by kernel_rfl) (fun _ _ _ h => h) (Or.inl ⟨by rfl, ?_⟩) S0 ?_
  · intro w' hS'
    obtain ⟨h1, h2⟩ := hS'
    go_simp
  (try simp only [Act.put, List.getElem_toArray, List.getElem_cons_succ, List.getElem_cons_zero, List.setIfInBounds_toArray, List.set_cons_zero, List.set_cons_succ])
  refine wpAnyN_take (i := 4) (v := .slice A0 m C0) rfl (by kernel_rfl) (by kernel_rfl) (by kernel_rfl) (by kernel_rfl) (fun _ _ _ h => h) (Or.inl ⟨by rfl, ?_⟩) S0 ?_
  · intro w' hS'
    obtain ⟨h1, h2⟩ := hS'
    go_simp
  (try simp only [Act.put, List.getElem_toArray, List.getElem_cons_succ, List.getElem_cons_zero, List.setIfInBounds_toArray, List.set_cons_zero, List.set_cons_succ])
  refine wpAnyN_take (i := 5) (v := .int .i64 (b : Int)) rfl (by kernel_rfl) (by kernel_rfl) (by kernel_rfl) (by kernel_rfl) (fun _ _ _ h => h) (Or.inl ⟨by rfl, ?_⟩) S0 ?_
  · intro w' hS'
    obtain ⟨h1, h2⟩ := hS'
    go_simp
  (try simp only [Act.put, List.getElem_toArray, List.getElem_cons_succ, List.getElem_cons_zero, List.setIfInBounds_toArray, List.set_cons_zero, List.set_cons_succ])
  have T1a : Hid (TT (w1.drew.alloc (.cells (iZ ((b : Int))).toArray 3)) N n vs rows tf1) := TT1.out.kp (Kp.of_below (F := fun _ => False) (below_next (below_drew _) (below_alloc _ _))) fun _ h => h.elim
  have O1 : Hid (OZ (N + 4) (rows 0) (.slice A0 m C0) (w1.drew.alloc (.cells (iZ ((b : Int))).toArray 3))) := (by rw [← E0.out]; exact T1a.out.2.1 0 (by decide) : OZ (N + 4) (rows 0) (.slice A0 m C0) (w1.drew.alloc (.cells (iZ ((b : Int))).toArray 3)))
  refine wpAnyN_one (i := 6) (by kernel_rfl) rfl (fun K hK => ?_)
  go_simp
  refine hK _ _ (fun h => SK1.out _ (below_next (below_drew _) (below_alloc _ _))) ?_
  clear hK K
  (try simp only [Act.put, List.getElem_toArray, List.getElem_cons_succ, List.getElem_cons_zero, List.setIfInBounds_toArray, List.set_cons_zero, List.set_cons_succ])
  refine wpAnyN_one (i := 7) (by kernel_rfl) rfl (fun K hK => ?_)
  rw [if_pos (by rfl)]
  refine OwnB.appendN 28 3 iZ _ 1 8 infoInt Try.underlying28 rfl (by decide) (by decide) iZ_len iZ_one _ _ _ rfl (.slice A0 m C0) (by rfl) (N + 4) (rows 0) [((b : Int))] O1.out ⟨w1.heap.size, 0, none⟩ 1 (by rfl) (fun j u hj => cells_new _ (iZ ((b : Int))) 3 j u (by simpa using hj)) (by rw [HL0.out]; simp; omega) ?_
  intro v5 w5 ho hb5 hk5 hv5
  obtain ⟨AA, CC, ev5, -⟩ := OZ.shape ho
  have ev6 : v5 = .slice AA (m + 1) CC := by
    rw [ev5, List.length_append, HL0.out]
    rfl
  clear ev5
  subst ev6
  have R5 := TT1.out.app (i := 0) (x := ((b : Int))) (by decide) (below_next (below_drew _) (below_alloc _ _)) ho hb5 (by rw [E0.out]; exact hk5) (by rw [E0.out]; exact hv5)
  have TT2 : Hid (TT (w5.setCell ⟨N, 0, none⟩ (.slice AA (m + 1) CC)) N n (pu vs 0 (.slice AA (m + 1) CC)) (pu rows 0 (rows 0 ++ [((b : Int))])) tf1) := R5.1
  have GG2 : Hid (Gr (Fr N vs) (Fr N (pu vs 0 (.slice AA (m + 1) CC))) w (w5.setCell ⟨N, 0, none⟩ (.slice AA (m + 1) CC))) := GG1.out.trans R5.2
  have a5 : At w5 N (vC vs 6) 46 := T1a.out.1.below hb5 (by omega)
  have b5 : w5.cell? ⟨N + 1, 0, none⟩ = some (.pointer (some ⟨N, 0, none⟩)) := (T1a.out.2.2.2.1.below hb5 (by omega)).cell 0
  have c5 : w5.cell? ⟨N, 0, none⟩ = some (.slice A0 m C0) := by rw [a5.cell, vC_get, if_pos (by decide), E0.out]
  have f5 := a5.frozen 0
  have S5 : w5.cell? ⟨N + 1, 0, none⟩ = some (.pointer (some ⟨N, 0, none⟩)) ∧ w5.cell? ⟨N, 0, none⟩ = some (.slice A0 m C0) := ⟨b5, c5⟩
  clear ho hk5 hv5 R5 a5
  refine hK _ _ (fun _ => S5) ?_
  clear hK K
  (try simp only [Act.put, List.getElem_toArray, List.getElem_cons_succ, List.getElem_cons_zero, List.setIfInBounds_toArray, List.set_cons_zero, List.set_cons_succ])
  refine wpAnyN_one (i := 8) (by kernel_rfl) rfl (fun K hK => ?_)
  go_simp
  refine hK _ _ (fun _ => S5) ?_
  clear hK K
  (try simp only [Act.put, List.getElem_toArray, List.getElem_cons_succ, List.getElem_cons_zero, List.setIfInBounds_toArray, List.set_cons_zero, List.set_cons_succ])
  refine wpAnyN_one (i := 9) (by kernel_rfl) rfl (fun K hK => ?_)
  go_simp
  refine hK _ _ (fun _ => S5) ?_
  clear hK K
  (try simp only [Act.put, List.getElem_toArray, List.getElem_cons_succ, List.getElem_cons_zero, List.setIfInBounds_toArray, List.set_cons_zero, List.set_cons_succ])
  refine wpAnyN_one (i := 10) (by kernel_rfl) rfl (fun K hK => ?_)
  go_simp
  refine hK _ _ (fun h => by cases h) ?_
  clear hK K
  (try simp only [Act.put, List.getElem_toArray, List.getElem_cons_succ, List.getElem_cons_zero, List.setIfInBounds_toArray, List.set_cons_zero, List.set_cons_succ])
  refine wpAnyN_done (by kernel_rfl) ?_ _
  clear S5 S0 SK1 O1 T1a hb5 b5 c5 f5 TT1 GG1
  have E1' : Hid (pu vs 0 (.slice AA (m + 1) CC) 1 = .slice A1 m C1) := (by rw [pu_ne _ _ (by decide)]; exact E1.out : pu vs 0 (.slice AA (m + 1) CC) 1 = .slice A1 m C1)
  have HL1' : Hid ((pu rows 0 (rows 0 ++ [((b : Int))]) 1).length = m) := (by rw [pu_ne _ _ (by decide)]; exact HL1.out : (pu rows 0 (rows 0 ++ [((b : Int))]) 1).length = m)
  clear E1 HL1
  rename Hid (pu vs 0 (.slice AA (m + 1) CC) 1 = .slice A1 m C1) => E1
  rename Hid ((pu rows 0 (rows 0 ++ [((b : Int))]) 1).length = m) => HL1
  have E3' : Hid (pu vs 0 (.slice AA (m + 1) CC) 3 = .slice A3 m C3) := (by rw [pu_ne _ _ (by decide)]; exact E3.out : pu vs 0 (.slice AA (m + 1) CC) 3 = .slice A3 m C3)
  have HL3' : Hid ((pu rows 0 (rows 0 ++ [((b : Int))]) 3).length = m) := (by rw [pu_ne _ _ (by decide)]; exact HL3.out : (pu rows 0 (rows 0 ++ [((b : Int))]) 3).length = m)
  clear E3 HL3
  rename Hid (pu vs 0 (.slice AA (m + 1) CC) 3 = .slice A3 m C3) => E3
  rename Hid ((pu rows 0 (rows 0 ++ [((b : Int))]) 3).length = m) => HL3
  have E4' : Hid (pu vs 0 (.slice AA (m + 1) CC) 4 = .slice A4 m C4) := (by rw [pu_ne _ _ (by decide)]; exact E4.out : pu vs 0 (.slice AA (m + 1) CC) 4 = .slice A4 m C4)
  have HL4' : Hid ((pu rows 0 (rows 0 ++ [((b : Int))]) 4).length = m) := (by rw [pu_ne _ _ (by decide)]; exact HL4.out : (pu rows 0 (rows 0 ++ [((b : Int))]) 4).length = m)
  clear E4 HL4
  rename Hid (pu vs 0 (.slice AA (m + 1) CC) 4 = .slice A4 m C4) => E4
  rename Hid ((pu rows 0 (rows 0 ++ [((b : Int))]) 4).length = m) => HL4
  have E5' : Hid (pu vs 0 (.slice AA (m + 1) CC) 5 = .slice A5 m C5) := (by rw [pu_ne _ _ (by decide)]; exact E5.out : pu vs 0 (.slice AA (m + 1) CC) 5 = .slice A5 m C5)
  have HL5' : Hid ((pu rows 0 (rows 0 ++ [((b : Int))]) 5).length = m) := (by rw [pu_ne _ _ (by decide)]; exact HL5.out : (pu rows 0 (rows 0 ++ [((b : Int))]) 5).length = m)
  clear E5 HL5
  rename Hid (pu vs 0 (.slice AA (m + 1) CC) 5 = .slice A5 m C5) => E5
  rename Hid ((pu rows 0 (rows 0 ++ [((b : Int))]) 5).length = m) => HL5
  generalize w5.setCell ⟨N, 0, none⟩ (.slice AA (m + 1) CC) = w2 at *
  generalize hv2 : pu vs 0 (.slice AA (m + 1) CC) = vs2 at *
  generalize hr2 : pu rows 0 (rows 0 ++ [((b : Int))]) = rows2 at *
  clear hv2
  go_wp2
  -- field 1
  have SK2 : Hid (∀ wq, Below w2.heap.size w2 wq → (wq.cell? ⟨N + 1, 0, none⟩ = some (.pointer (some ⟨N, 0, none⟩)) ∧ wq.cell? ⟨N, 1, none⟩ = some (.slice A1 m C1) ∧ wq.cell? ⟨N + 3, 0, none⟩ = some (.slice (some ⟨N + 2, 0, none⟩) n n) ∧ wq.cell? ⟨N + 2, q, none⟩ = some (.int .i64 (tf1 q)))) := fun wq hb => by
    have t := TT2.out.kp (Kp.of_below (F := fun _ => False) hb) fun _ h => h.elim
    have e := t.field 1 (by decide)
    rw [E1.out] at e
    exact ⟨t.2.2.2.1.cell 0, e, t.2.2.2.2.2.cell 0, t.2.2.2.2.1.cell q hqn⟩
  refine wp_region_N (fun w' => w'.cell? ⟨N + 1, 0, none⟩ = some (.pointer (some ⟨N, 0, none⟩)) ∧ w'.cell? ⟨N, 1, none⟩ = some (.slice A1 m C1) ∧ w'.cell? ⟨N + 3, 0, none⟩ = some (.slice (some ⟨N + 2, 0, none⟩) n n) ∧ w'.cell? ⟨N + 2, q, none⟩ = some (.int .i64 (tf1 q))) (fun j => j != 14) mixed (SK2.out _ (below_drew _)) ?_
  intro S0
  refine wpAnyN_take (i := 0) (v := .pointer (some ⟨N, 0, none⟩)) rfl (by kernel_rfl) (by kernel_rfl) (by kernel_rfl) (by kernel_rfl) (fun _ _ _ h => h) (Or.inl ⟨by rfl, ?_⟩) S0 ?_
  · intro w' hS'
    obtain ⟨h1, h2, h3, h4⟩ := hS'
    go_simp
  (try simp only [Act.put, List.getElem_toArray, List.getElem_cons_zero, List.setIfInBounds_toArray, List.set_cons_zero, List.set_cons_succ])
  refine wpAnyN_take (i := 1) (v := .pointer (some ⟨N, 0, none⟩)) rfl (by kernel_rfl) (by kernel_rfl) (by kernel_rfl) (by kernel_rfl) (fun _ _ _ h => h) (Or.inl ⟨by rfl, ?_⟩) S0 ?_
  · intro w' hS'
    obtain ⟨h1, h2, h3, h4⟩ := hS'
    go_simp
  (try simp only [Act.put, List.getElem_toArray, List.getElem_cons_succ, List.getElem_cons_zero, List.setIfInBounds_toArray, List.set_cons_zero, List.set_cons_succ])
  refine wpAnyN_take (i := 2) (v := .pointer (some ⟨N, 0, none⟩)) rfl (by kernel_rfl) (by kernel_rfl) (by kernel_rfl) (by kernel_rfl) (fun _ _ _ h => h) (Or.inl ⟨by rfl, ?_⟩) S0 ?_
  · intro w' hS'
    obtain ⟨h1, h2, h3, h4⟩ := hS'
    go_simp
  (try simp only [Act.put, List.getElem_toArray, List.getElem_cons_succ, List.getElem_cons_zero, List.setIfInBounds_toArray, List.set_cons_zero, List.set_cons_succ])
  refine wpAnyN_take (i := 3) (v := .pointer (some ⟨N, 1, none⟩)) rfl (by kernel_rfl) (by kernel_rfl) (by kernel_rfl) (by kernel_rfl) (fun _ _ _ h => h) (Or.inl ⟨by rfl, ?_⟩) S0 ?_
  · intro w' hS'
    obtain ⟨h1, h2, h3, h4⟩ := hS'
    go_simp
  (try simp only [Act.put, List.getElem_toArray, List.getElem_cons_succ, List.getElem_cons_zero, List.setIfInBounds_toArray, List.set_cons_zero, List.set_cons_succ])
  refine wpAnyN_take (i := 4) (v := .slice A1 m C1) rfl (by kernel_rfl) (by kernel_rfl) (by kernel_rfl) (by kernel_rfl) (fun _ _ _ h => h) (Or.inl ⟨by rfl, ?_⟩) S0 ?_
  · intro w' hS'
    obtain ⟨h1, h2, h3, h4⟩ := hS'
    go_simp
  (try simp only [Act.put, List.getElem_toArray, List.getElem_cons_succ, List.getElem_cons_zero, List.setIfInBounds_toArray, List.set_cons_zero, List.set_cons_succ])
  refine wpAnyN_take (i := 5) (v := .slice (some ⟨N + 2, 0, none⟩) n n) rfl (by kernel_rfl) (by kernel_rfl) (by kernel_rfl) (by kernel_rfl) (fun _ _ _ h => h) (Or.inl ⟨by rfl, ?_⟩) S0 ?_
  · intro w' hS'
    obtain ⟨h1, h2, h3, h4⟩ := hS'
    go_simp
  (try simp only [Act.put, List.getElem_toArray, List.getElem_cons_succ, List.getElem_cons_zero, List.setIfInBounds_toArray, List.set_cons_zero, List.set_cons_succ])
  refine wpAnyN_take (i := 6) (v := .int .i64 f) rfl (by kernel_rfl) (by kernel_rfl) (by kernel_rfl) (by kernel_rfl) (fun _ _ _ h => h) (Or.inl ⟨by rfl, ?_⟩) S0 ?_
  · intro w' hS'
    obtain ⟨h1, h2, h3, h4⟩ := hS'
    go_simp
  (try simp only [Act.put, List.getElem_toArray, List.getElem_cons_succ, List.getElem_cons_zero, List.setIfInBounds_toArray, List.set_cons_zero, List.set_cons_succ])
  refine wpAnyN_take (i := 7) (v := .int .i64 (q : Int)) rfl (by kernel_rfl) (by kernel_rfl) (by kernel_rfl) (by kernel_rfl) (fun _ _ _ h => h) (Or.inl ⟨by rfl, ?_⟩) S0 ?_
  · intro w' hS'
    obtain ⟨h1, h2, h3, h4⟩ := hS'
    go_simp
    split <;> omega
  (try simp only [Act.put, List.getElem_toArray, List.getElem_cons_succ, List.getElem_cons_zero, List.setIfInBounds_toArray, List.set_cons_zero, List.set_cons_succ])
  refine wpAnyN_take (i := 8) (v := .pointer (some ⟨N + 2, q, none⟩)) rfl (by kernel_rfl) (by kernel_rfl) (by kernel_rfl) (by kernel_rfl) (fun _ _ _ h => h) (Or.inl ⟨by rfl, ?_⟩) S0 ?_
  · intro w' hS'
    obtain ⟨h1, h2, h3, h4⟩ := hS'
    go_simp
  (try simp only [Act.put, List.getElem_toArray, List.getElem_cons_succ, List.getElem_cons_zero, List.setIfInBounds_toArray, List.set_cons_zero, List.set_cons_succ])
  refine wpAnyN_take (i := 9) (v := .int .i64 (tf1 q)) rfl (by kernel_rfl) (by kernel_rfl) (by kernel_rfl) (by kernel_rfl) (fun _ _ _ h => h) (Or.inl ⟨by rfl, ?_⟩) S0 ?_
  · intro w' hS'
    obtain ⟨h1, h2, h3, h4⟩ := hS'
    go_simp
  (try simp only [Act.put, List.getElem_toArray, List.getElem_cons_succ, List.getElem_cons_zero, List.setIfInBounds_toArray, List.set_cons_zero, List.set_cons_succ])
  have T2a : Hid (TT (w2.drew.alloc (.cells (iZ (tf1 q)).toArray 3)) N n vs2 rows2 tf1) := TT2.out.kp (Kp.of_below (F := fun _ => False) (below_next (below_drew _) (below_alloc _ _))) fun _ h => h.elim
  have O2 : Hid (OZ (N + 4) (rows2 1) (.slice A1 m C1) (w2.drew.alloc (.cells (iZ (tf1 q)).toArray 3))) := (by rw [← E1.out]; exact T2a.out.2.1 1 (by decide) : OZ (N + 4) (rows2 1) (.slice A1 m C1) (w2.drew.alloc (.cells (iZ (tf1 q)).toArray 3)))
  refine wpAnyN_one (i := 10) (by kernel_rfl) rfl (fun K hK => ?_)
  go_simp
  refine hK _ _ (fun h => SK2.out _ (below_next (below_drew _) (below_alloc _ _))) ?_
  clear hK K
  (try simp only [Act.put, List.getElem_toArray, List.getElem_cons_succ, List.getElem_cons_zero, List.setIfInBounds_toArray, List.set_cons_zero, List.set_cons_succ])
  refine wpAnyN_one (i := 11) (by kernel_rfl) rfl (fun K hK => ?_)
  rw [if_pos (by rfl)]
  refine OwnB.appendN 28 3 iZ _ 1 8 infoInt Try.underlying28 rfl (by decide) (by decide) iZ_len iZ_one _ _ _ rfl (.slice A1 m C1) (by rfl) (N + 4) (rows2 1) [(tf1 q)] O2.out ⟨w2.heap.size, 0, none⟩ 1 (by rfl) (fun j u hj => cells_new _ (iZ (tf1 q)) 3 j u (by simpa using hj)) (by rw [HL1.out]; simp; omega) ?_
  intro v5 w5 ho hb5 hk5 hv5
  obtain ⟨AA, CC, ev5, -⟩ := OZ.shape ho
  have ev6 : v5 = .slice AA (m + 1) CC := by
    rw [ev5, List.length_append, HL1.out]
    rfl
  clear ev5
  subst ev6
  have R5 := TT2.out.app (i := 1) (x := (tf1 q)) (by decide) (below_next (below_drew _) (below_alloc _ _)) ho hb5 (by rw [E1.out]; exact hk5) (by rw [E1.out]; exact hv5)
  have TT3 : Hid (TT (w5.setCell ⟨N, 1, none⟩ (.slice AA (m + 1) CC)) N n (pu vs2 1 (.slice AA (m + 1) CC)) (pu rows2 1 (rows2 1 ++ [(tf1 q)])) tf1) := R5.1
  have GG3 : Hid (Gr (Fr N vs) (Fr N (pu vs2 1 (.slice AA (m + 1) CC))) w (w5.setCell ⟨N, 1, none⟩ (.slice AA (m + 1) CC))) := GG2.out.trans R5.2
  have a5 : At w5 N (vC vs2 6) 46 := T2a.out.1.below hb5 (by omega)
  have b5 : w5.cell? ⟨N + 1, 0, none⟩ = some (.pointer (some ⟨N, 0, none⟩)) := (T2a.out.2.2.2.1.below hb5 (by omega)).cell 0
  have c5 : w5.cell? ⟨N, 1, none⟩ = some (.slice A1 m C1) := by rw [a5.cell, vC_get, if_pos (by decide), E1.out]
  have f5 := a5.frozen 1
  have S5 : w5.cell? ⟨N + 1, 0, none⟩ = some (.pointer (some ⟨N, 0, none⟩)) ∧ w5.cell? ⟨N, 1, none⟩ = some (.slice A1 m C1) ∧ w5.cell? ⟨N + 3, 0, none⟩ = some (.slice (some ⟨N + 2, 0, none⟩) n n) ∧ w5.cell? ⟨N + 2, q, none⟩ = some (.int .i64 (tf1 q)) := ⟨b5, c5, (T2a.out.2.2.2.2.2.below hb5 (by omega)).cell 0, (IZ.kp T2a.out.2.2.2.2.1 (G := fun b => N + 4 ≤ b) ⟨hb5.mono (Nat.zero_le _), fun c h1 h2 => hb5.block c (by omega)⟩ (by omega)).cell q hqn⟩
  clear ho hk5 hv5 R5 a5
  refine hK _ _ (fun _ => S5) ?_
  clear hK K
  (try simp only [Act.put, List.getElem_toArray, List.getElem_cons_succ, List.getElem_cons_zero, List.setIfInBounds_toArray, List.set_cons_zero, List.set_cons_succ])
  refine wpAnyN_one (i := 12) (by kernel_rfl) rfl (fun K hK => ?_)
  go_simp
  refine hK _ _ (fun _ => S5) ?_
  clear hK K
  (try simp only [Act.put, List.getElem_toArray, List.getElem_cons_succ, List.getElem_cons_zero, List.setIfInBounds_toArray, List.set_cons_zero, List.set_cons_succ])
  refine wpAnyN_one (i := 13) (by kernel_rfl) rfl (fun K hK => ?_)
  go_simp
  refine hK _ _ (fun _ => S5) ?_
  clear hK K
  (try simp only [Act.put, List.getElem_toArray, List.getElem_cons_succ, List.getElem_cons_zero, List.setIfInBounds_toArray, List.set_cons_zero, List.set_cons_succ])
  refine wpAnyN_one (i := 14) (by kernel_rfl) rfl (fun K hK => ?_)
  go_simp
  refine hK _ _ (fun h => by cases h) ?_
  clear hK K
  (try simp only [Act.put, List.getElem_toArray, List.getElem_cons_succ, List.getElem_cons_zero, List.setIfInBounds_toArray, List.set_cons_zero, List.set_cons_succ])
  refine wpAnyN_done (by kernel_rfl) ?_ _
  clear S5 S0 SK2 O2 T2a hb5 b5 c5 f5 TT2 GG2
  have E3' : Hid (pu vs2 1 (.slice AA (m + 1) CC) 3 = .slice A3 m C3) := (by rw [pu_ne _ _ (by decide)]; exact E3.out : pu vs2 1 (.slice AA (m + 1) CC) 3 = .slice A3 m C3)
  have HL3' : Hid ((pu rows2 1 (rows2 1 ++ [(tf1 q)]) 3).length = m) := (by rw [pu_ne _ _ (by decide)]; exact HL3.out : (pu rows2 1 (rows2 1 ++ [(tf1 q)]) 3).length = m)
  clear E3 HL3
  rename Hid (pu vs2 1 (.slice AA (m + 1) CC) 3 = .slice A3 m C3) => E3
  rename Hid ((pu rows2 1 (rows2 1 ++ [(tf1 q)]) 3).length = m) => HL3
  have E4' : Hid (pu vs2 1 (.slice AA (m + 1) CC) 4 = .slice A4 m C4) := (by rw [pu_ne _ _ (by decide)]; exact E4.out : pu vs2 1 (.slice AA (m + 1) CC) 4 = .slice A4 m C4)
  have HL4' : Hid ((pu rows2 1 (rows2 1 ++ [(tf1 q)]) 4).length = m) := (by rw [pu_ne _ _ (by decide)]; exact HL4.out : (pu rows2 1 (rows2 1 ++ [(tf1 q)]) 4).length = m)
  clear E4 HL4
  rename Hid (pu vs2 1 (.slice AA (m + 1) CC) 4 = .slice A4 m C4) => E4
  rename Hid ((pu rows2 1 (rows2 1 ++ [(tf1 q)]) 4).length = m) => HL4
  have E5' : Hid (pu vs2 1 (.slice AA (m + 1) CC) 5 = .slice A5 m C5) := (by rw [pu_ne _ _ (by decide)]; exact E5.out : pu vs2 1 (.slice AA (m + 1) CC) 5 = .slice A5 m C5)
  have HL5' : Hid ((pu rows2 1 (rows2 1 ++ [(tf1 q)]) 5).length = m) := (by rw [pu_ne _ _ (by decide)]; exact HL5.out : (pu rows2 1 (rows2 1 ++ [(tf1 q)]) 5).length = m)
  clear E5 HL5
  rename Hid (pu vs2 1 (.slice AA (m + 1) CC) 5 = .slice A5 m C5) => E5
  rename Hid ((pu rows2 1 (rows2 1 ++ [(tf1 q)]) 5).length = m) => HL5
  generalize w5.setCell ⟨N, 1, none⟩ (.slice AA (m + 1) CC) = w3 at *
  generalize hv3 : pu vs2 1 (.slice AA (m + 1) CC) = vs3 at *
  generalize hr3 : pu rows2 1 (rows2 1 ++ [(tf1 q)]) = rows3 at *
  clear hv3
  go_wp2
  -- field 3
  have SK3 : Hid (∀ wq, Below w3.heap.size w3 wq → (wq.cell? ⟨N + 1, 0, none⟩ = some (.pointer (some ⟨N, 0, none⟩)) ∧ wq.cell? ⟨N, 3, none⟩ = some (.slice A3 m C3))) := fun wq hb => by
    have t := TT3.out.kp (Kp.of_below (F := fun _ => False) hb) fun _ h => h.elim
    have e := t.field 3 (by decide)
    rw [E3.out] at e
    exact ⟨t.2.2.2.1.cell 0, e⟩
  refine wp_region_N (fun w' => w'.cell? ⟨N + 1, 0, none⟩ = some (.pointer (some ⟨N, 0, none⟩)) ∧ w'.cell? ⟨N, 3, none⟩ = some (.slice A3 m C3)) (fun j => j != 10) mixed (SK3.out _ (below_drew _)) ?_
  intro S0
  refine wpAnyN_take (i := 0) (v := .pointer (some ⟨N, 0, none⟩)) rfl (by kernel_rfl) (by kernel_rfl) (by kernel_rfl) (by kernel_rfl) (fun _ _ _ h => h) (Or.inl ⟨by rfl, ?_⟩) S0 ?_
  · intro w' hS'
    obtain ⟨h1, h2⟩ := hS'
    go_simp
  (try simp only [Act.put, List.getElem_toArray, List.getElem_cons_zero, List.setIfInBounds_toArray, List.set_cons_zero, List.set_cons_succ])
  refine wpAnyN_take (i := 1) (v := .pointer (some ⟨N, 0, none⟩)) rfl (by kernel_rfl) (by kernel_rfl) (by kernel_rfl) (by kernel_rfl) (fun _ _ _ h => h) (Or.inl ⟨by rfl, ?_⟩) S0 ?_
  · intro w' hS'
    obtain ⟨h1, h2⟩ := hS'
    go_simp
  (try simp only [Act.put, List.getElem_toArray, List.getElem_cons_succ, List.getElem_cons_zero, List.setIfInBounds_toArray, List.set_cons_zero, List.set_cons_succ])
  refine wpAnyN_take (i := 2) (v := .pointer (some ⟨N, 0, none⟩)) rfl (by kernel_rfl) (by kernel_rfl) (by kernel_rfl) (by kernel_rfl) (fun _ _ _ h => h) (Or.inl ⟨by rfl, ?_⟩) S0 ?_
  · intro w' hS'
    obtain ⟨h1, h2⟩ := hS'
    go_simp
  (try simp only [Act.put, List.getElem_toArray, List.getElem_cons_succ, List.getElem_cons_zero, List.setIfInBounds_toArray, List.set_cons_zero, List.set_cons_succ])
  refine wpAnyN_take (i := 3) (v := .pointer (some ⟨N, 3, none⟩)) rfl (by kernel_rfl) (by kernel_rfl) (by kernel_rfl) (by kernel_rfl) (fun _ _ _ h => h) (Or.inl ⟨by rfl, ?_⟩) S0 ?_
  · intro w' hS'
    obtain ⟨h1, h2⟩ := hS'
    go_simp
  (try simp only [Act.put, List.getElem_toArray, List.getElem_cons_succ, List.getElem_cons_zero, List.setIfInBounds_toArray, List.set_cons_zero, List.set_cons_succ])
  refine wpAnyN_take (i := 4) (v := .slice A3 m C3) rfl (by kernel_rfl) (by kernel_rfl) (by kernel_rfl) (by kernel_rfl) (fun _ _ _ h => h) (Or.inl ⟨by rfl, ?_⟩) S0 ?_
  · intro w' hS'
    obtain ⟨h1, h2⟩ := hS'
    go_simp
  (try simp only [Act.put, List.getElem_toArray, List.getElem_cons_succ, List.getElem_cons_zero, List.setIfInBounds_toArray, List.set_cons_zero, List.set_cons_succ])
  refine wpAnyN_take (i := 5) (v := .int .i64 (m : Int)) rfl (by kernel_rfl) (by kernel_rfl) (by kernel_rfl) (by kernel_rfl) (fun _ _ _ h => h) (Or.inl ⟨by rfl, ?_⟩) S0 ?_
  · intro w' hS'
    obtain ⟨h1, h2⟩ := hS'
    go_simp
  (try simp only [Act.put, List.getElem_toArray, List.getElem_cons_succ, List.getElem_cons_zero, List.setIfInBounds_toArray, List.set_cons_zero, List.set_cons_succ])
  have T3a : Hid (TT (w3.drew.alloc (.cells (iZ ((m : Int))).toArray 3)) N n vs3 rows3 tf1) := TT3.out.kp (Kp.of_below (F := fun _ => False) (below_next (below_drew _) (below_alloc _ _))) fun _ h => h.elim
  have O3 : Hid (OZ (N + 4) (rows3 3) (.slice A3 m C3) (w3.drew.alloc (.cells (iZ ((m : Int))).toArray 3))) := (by rw [← E3.out]; exact T3a.out.2.1 3 (by decide) : OZ (N + 4) (rows3 3) (.slice A3 m C3) (w3.drew.alloc (.cells (iZ ((m : Int))).toArray 3)))
  refine wpAnyN_one (i := 6) (by kernel_rfl) rfl (fun K hK => ?_)
  go_simp
  refine hK _ _ (fun h => SK3.out _ (below_next (below_drew _) (below_alloc _ _))) ?_
  clear hK K
  (try simp only [Act.put, List.getElem_toArray, List.getElem_cons_succ, List.getElem_cons_zero, List.setIfInBounds_toArray, List.set_cons_zero, List.set_cons_succ])
  refine wpAnyN_one (i := 7) (by kernel_rfl) rfl (fun K hK => ?_)
  rw [if_pos (by rfl)]
  refine OwnB.appendN 28 3 iZ _ 1 8 infoInt Try.underlying28 rfl (by decide) (by decide) iZ_len iZ_one _ _ _ rfl (.slice A3 m C3) (by rfl) (N + 4) (rows3 3) [((m : Int))] O3.out ⟨w3.heap.size, 0, none⟩ 1 (by rfl) (fun j u hj => cells_new _ (iZ ((m : Int))) 3 j u (by simpa using hj)) (by rw [HL3.out]; simp; omega) ?_
  intro v5 w5 ho hb5 hk5 hv5
  obtain ⟨AA, CC, ev5, -⟩ := OZ.shape ho
  have ev6 : v5 = .slice AA (m + 1) CC := by
    rw [ev5, List.length_append, HL3.out]
    rfl
  clear ev5
  subst ev6
  have R5 := TT3.out.app (i := 3) (x := ((m : Int))) (by decide) (below_next (below_drew _) (below_alloc _ _)) ho hb5 (by rw [E3.out]; exact hk5) (by rw [E3.out]; exact hv5)
  have TT4 : Hid (TT (w5.setCell ⟨N, 3, none⟩ (.slice AA (m + 1) CC)) N n (pu vs3 3 (.slice AA (m + 1) CC)) (pu rows3 3 (rows3 3 ++ [((m : Int))])) tf1) := R5.1
  have GG4 : Hid (Gr (Fr N vs) (Fr N (pu vs3 3 (.slice AA (m + 1) CC))) w (w5.setCell ⟨N, 3, none⟩ (.slice AA (m + 1) CC))) := GG3.out.trans R5.2
  have a5 : At w5 N (vC vs3 6) 46 := T3a.out.1.below hb5 (by omega)
  have b5 : w5.cell? ⟨N + 1, 0, none⟩ = some (.pointer (some ⟨N, 0, none⟩)) := (T3a.out.2.2.2.1.below hb5 (by omega)).cell 0
  have c5 : w5.cell? ⟨N, 3, none⟩ = some (.slice A3 m C3) := by rw [a5.cell, vC_get, if_pos (by decide), E3.out]
  have f5 := a5.frozen 3
  have S5 : w5.cell? ⟨N + 1, 0, none⟩ = some (.pointer (some ⟨N, 0, none⟩)) ∧ w5.cell? ⟨N, 3, none⟩ = some (.slice A3 m C3) := ⟨b5, c5⟩
  clear ho hk5 hv5 R5 a5
  refine hK _ _ (fun _ => S5) ?_
  clear hK K
  (try simp only [Act.put, List.getElem_toArray, List.getElem_cons_succ, List.getElem_cons_zero, List.setIfInBounds_toArray, List.set_cons_zero, List.set_cons_succ])
  refine wpAnyN_one (i := 8) (by kernel_rfl) rfl (fun K hK => ?_)
  go_simp
  refine hK _ _ (fun _ => S5) ?_
  clear hK K
  (try simp only [Act.put, List.getElem_toArray, List.getElem_cons_succ, List.getElem_cons_zero, List.setIfInBounds_toArray, List.set_cons_zero, List.set_cons_succ])
  refine wpAnyN_one (i := 9) (by kernel_rfl) rfl (fun K hK => ?_)
  go_simp
  refine hK _ _ (fun _ => S5) ?_
  clear hK K
  (try simp only [Act.put, List.getElem_toArray, List.getElem_cons_succ, List.getElem_cons_zero, List.setIfInBounds_toArray, List.set_cons_zero, List.set_cons_succ])
  refine wpAnyN_one (i := 10) (by kernel_rfl) rfl (fun K hK => ?_)
  go_simp
  refine hK _ _ (fun h => by cases h) ?_
  clear hK K
  (try simp only [Act.put, List.getElem_toArray, List.getElem_cons_succ, List.getElem_cons_zero, List.setIfInBounds_toArray, List.set_cons_zero, List.set_cons_succ])
  refine wpAnyN_done (by kernel_rfl) ?_ _
  clear S5 S0 SK3 O3 T3a hb5 b5 c5 f5 TT3 GG3
  have E4' : Hid (pu vs3 3 (.slice AA (m + 1) CC) 4 = .slice A4 m C4) := (by rw [pu_ne _ _ (by decide)]; exact E4.out : pu vs3 3 (.slice AA (m + 1) CC) 4 = .slice A4 m C4)
  have HL4' : Hid ((pu rows3 3 (rows3 3 ++ [((m : Int))]) 4).length = m) := (by rw [pu_ne _ _ (by decide)]; exact HL4.out : (pu rows3 3 (rows3 3 ++ [((m : Int))]) 4).length = m)
  clear E4 HL4
  rename Hid (pu vs3 3 (.slice AA (m + 1) CC) 4 = .slice A4 m C4) => E4
  rename Hid ((pu rows3 3 (rows3 3 ++ [((m : Int))]) 4).length = m) => HL4
  have E5' : Hid (pu vs3 3 (.slice AA (m + 1) CC) 5 = .slice A5 m C5) := (by rw [pu_ne _ _ (by decide)]; exact E5.out : pu vs3 3 (.slice AA (m + 1) CC) 5 = .slice A5 m C5)
  have HL5' : Hid ((pu rows3 3 (rows3 3 ++ [((m : Int))]) 5).length = m) := (by rw [pu_ne _ _ (by decide)]; exact HL5.out : (pu rows3 3 (rows3 3 ++ [((m : Int))]) 5).length = m)
  clear E5 HL5
  rename Hid (pu vs3 3 (.slice AA (m + 1) CC) 5 = .slice A5 m C5) => E5
  rename Hid ((pu rows3 3 (rows3 3 ++ [((m : Int))]) 5).length = m) => HL5
  generalize w5.setCell ⟨N, 3, none⟩ (.slice AA (m + 1) CC) = w4 at *
  generalize hv4 : pu vs3 3 (.slice AA (m + 1) CC) = vs4 at *
  generalize hr4 : pu rows3 3 (rows3 3 ++ [((m : Int))]) = rows4 at *
  clear hv4
  go_wp2
  -- field 4
  have SK4 : Hid (∀ wq, Below w4.heap.size w4 wq → (wq.cell? ⟨N + 1, 0, none⟩ = some (.pointer (some ⟨N, 0, none⟩)) ∧ wq.cell? ⟨N, 4, none⟩ = some (.slice A4 m C4))) := fun wq hb => by
    have t := TT4.out.kp (Kp.of_below (F := fun _ => False) hb) fun _ h => h.elim
    have e := t.field 4 (by decide)
    rw [E4.out] at e
    exact ⟨t.2.2.2.1.cell 0, e⟩
  refine wp_region_N (fun w' => w'.cell? ⟨N + 1, 0, none⟩ = some (.pointer (some ⟨N, 0, none⟩)) ∧ w'.cell? ⟨N, 4, none⟩ = some (.slice A4 m C4)) (fun j => j != 9) mixed (SK4.out _ (below_drew _)) ?_
  intro S0
  refine wpAnyN_take (i := 0) (v := .pointer (some ⟨N, 0, none⟩)) rfl (by kernel_rfl) (by kernel_rfl) (by kernel_rfl) (by kernel_rfl) (fun _ _ _ h => h) (Or.inl ⟨by rfl, ?_⟩) S0 ?_
  · intro w' hS'
    obtain ⟨h1, h2⟩ := hS'
    go_simp
  (try simp only [Act.put, List.getElem_toArray, List.getElem_cons_zero, List.setIfInBounds_toArray, List.set_cons_zero, List.set_cons_succ])
  refine wpAnyN_take (i := 1) (v := .pointer (some ⟨N, 0, none⟩)) rfl (by kernel_rfl) (by kernel_rfl) (by kernel_rfl) (by kernel_rfl) (fun _ _ _ h => h) (Or.inl ⟨by rfl, ?_⟩) S0 ?_
  · intro w' hS'
    obtain ⟨h1, h2⟩ := hS'
    go_simp
  (try simp only [Act.put, List.getElem_toArray, List.getElem_cons_succ, List.getElem_cons_zero, List.setIfInBounds_toArray, List.set_cons_zero, List.set_cons_succ])
  refine wpAnyN_take (i := 2) (v := .pointer (some ⟨N, 0, none⟩)) rfl (by kernel_rfl) (by kernel_rfl) (by kernel_rfl) (by kernel_rfl) (fun _ _ _ h => h) (Or.inl ⟨by rfl, ?_⟩) S0 ?_
  · intro w' hS'
    obtain ⟨h1, h2⟩ := hS'
    go_simp
  (try simp only [Act.put, List.getElem_toArray, List.getElem_cons_succ, List.getElem_cons_zero, List.setIfInBounds_toArray, List.set_cons_zero, List.set_cons_succ])
  refine wpAnyN_take (i := 3) (v := .pointer (some ⟨N, 4, none⟩)) rfl (by kernel_rfl) (by kernel_rfl) (by kernel_rfl) (by kernel_rfl) (fun _ _ _ h => h) (Or.inl ⟨by rfl, ?_⟩) S0 ?_
  · intro w' hS'
    obtain ⟨h1, h2⟩ := hS'
    go_simp
  (try simp only [Act.put, List.getElem_toArray, List.getElem_cons_succ, List.getElem_cons_zero, List.setIfInBounds_toArray, List.set_cons_zero, List.set_cons_succ])
  refine wpAnyN_take (i := 4) (v := .slice A4 m C4) rfl (by kernel_rfl) (by kernel_rfl) (by kernel_rfl) (by kernel_rfl) (fun _ _ _ h => h) (Or.inl ⟨by rfl, ?_⟩) S0 ?_
  · intro w' hS'
    obtain ⟨h1, h2⟩ := hS'
    go_simp
  (try simp only [Act.put, List.getElem_toArray, List.getElem_cons_succ, List.getElem_cons_zero, List.setIfInBounds_toArray, List.set_cons_zero, List.set_cons_succ])
  have T4a : Hid (TT (w4.drew.alloc (.cells (iZ ((-1 : Int))).toArray 3)) N n vs4 rows4 tf1) := TT4.out.kp (Kp.of_below (F := fun _ => False) (below_next (below_drew _) (below_alloc _ _))) fun _ h => h.elim
  have O4 : Hid (OZ (N + 4) (rows4 4) (.slice A4 m C4) (w4.drew.alloc (.cells (iZ ((-1 : Int))).toArray 3))) := (by rw [← E4.out]; exact T4a.out.2.1 4 (by decide) : OZ (N + 4) (rows4 4) (.slice A4 m C4) (w4.drew.alloc (.cells (iZ ((-1 : Int))).toArray 3)))
  refine wpAnyN_one (i := 5) (by kernel_rfl) rfl (fun K hK => ?_)
  go_simp
  refine hK _ _ (fun h => SK4.out _ (below_next (below_drew _) (below_alloc _ _))) ?_
  clear hK K
  (try simp only [Act.put, List.getElem_toArray, List.getElem_cons_succ, List.getElem_cons_zero, List.setIfInBounds_toArray, List.set_cons_zero, List.set_cons_succ])
  refine wpAnyN_one (i := 6) (by kernel_rfl) rfl (fun K hK => ?_)
  rw [if_pos (by rfl)]
  refine OwnB.appendN 28 3 iZ _ 1 8 infoInt Try.underlying28 rfl (by decide) (by decide) iZ_len iZ_one _ _ _ rfl (.slice A4 m C4) (by rfl) (N + 4) (rows4 4) [((-1 : Int))] O4.out ⟨w4.heap.size, 0, none⟩ 1 (by rfl) (fun j u hj => cells_new _ (iZ ((-1 : Int))) 3 j u (by simpa using hj)) (by rw [HL4.out]; simp; omega) ?_
  intro v5 w5 ho hb5 hk5 hv5
  obtain ⟨AA, CC, ev5, -⟩ := OZ.shape ho
  have ev6 : v5 = .slice AA (m + 1) CC := by
    rw [ev5, List.length_append, HL4.out]
    rfl
  clear ev5
  subst ev6
  have R5 := TT4.out.app (i := 4) (x := ((-1 : Int))) (by decide) (below_next (below_drew _) (below_alloc _ _)) ho hb5 (by rw [E4.out]; exact hk5) (by rw [E4.out]; exact hv5)
  have TT5 : Hid (TT (w5.setCell ⟨N, 4, none⟩ (.slice AA (m + 1) CC)) N n (pu vs4 4 (.slice AA (m + 1) CC)) (pu rows4 4 (rows4 4 ++ [((-1 : Int))])) tf1) := R5.1
  have GG5 : Hid (Gr (Fr N vs) (Fr N (pu vs4 4 (.slice AA (m + 1) CC))) w (w5.setCell ⟨N, 4, none⟩ (.slice AA (m + 1) CC))) := GG4.out.trans R5.2
  have a5 : At w5 N (vC vs4 6) 46 := T4a.out.1.below hb5 (by omega)
  have b5 : w5.cell? ⟨N + 1, 0, none⟩ = some (.pointer (some ⟨N, 0, none⟩)) := (T4a.out.2.2.2.1.below hb5 (by omega)).cell 0
  have c5 : w5.cell? ⟨N, 4, none⟩ = some (.slice A4 m C4) := by rw [a5.cell, vC_get, if_pos (by decide), E4.out]
  have f5 := a5.frozen 4
  have S5 : w5.cell? ⟨N + 1, 0, none⟩ = some (.pointer (some ⟨N, 0, none⟩)) ∧ w5.cell? ⟨N, 4, none⟩ = some (.slice A4 m C4) := ⟨b5, c5⟩
  clear ho hk5 hv5 R5 a5
  refine hK _ _ (fun _ => S5) ?_
  clear hK K
  (try simp only [Act.put, List.getElem_toArray, List.getElem_cons_succ, List.getElem_cons_zero, List.setIfInBounds_toArray, List.set_cons_zero, List.set_cons_succ])
  refine wpAnyN_one (i := 7) (by kernel_rfl) rfl (fun K hK => ?_)
  go_simp
  refine hK _ _ (fun _ => S5) ?_
  clear hK K
  (try simp only [Act.put, List.getElem_toArray, List.getElem_cons_succ, List.getElem_cons_zero, List.setIfInBounds_toArray, List.set_cons_zero, List.set_cons_succ])
  refine wpAnyN_one (i := 8) (by kernel_rfl) rfl (fun K hK => ?_)
  go_simp
  refine hK _ _ (fun _ => S5) ?_
  clear hK K
  (try simp only [Act.put, List.getElem_toArray, List.getElem_cons_succ, List.getElem_cons_zero, List.setIfInBounds_toArray, List.set_cons_zero, List.set_cons_succ])
  refine wpAnyN_one (i := 9) (by kernel_rfl) rfl (fun K hK => ?_)
  go_simp
  refine hK _ _ (fun h => by cases h) ?_
  clear hK K
  (try simp only [Act.put, List.getElem_toArray, List.getElem_cons_succ, List.getElem_cons_zero, List.setIfInBounds_toArray, List.set_cons_zero, List.set_cons_succ])
  refine wpAnyN_done (by kernel_rfl) ?_ _
  clear S5 S0 SK4 O4 T4a hb5 b5 c5 f5 TT4 GG4
  have E5' : Hid (pu vs4 4 (.slice AA (m + 1) CC) 5 = .slice A5 m C5) := (by rw [pu_ne _ _ (by decide)]; exact E5.out : pu vs4 4 (.slice AA (m + 1) CC) 5 = .slice A5 m C5)
  have HL5' : Hid ((pu rows4 4 (rows4 4 ++ [((-1 : Int))]) 5).length = m) := (by rw [pu_ne _ _ (by decide)]; exact HL5.out : (pu rows4 4 (rows4 4 ++ [((-1 : Int))]) 5).length = m)
  clear E5 HL5
  rename Hid (pu vs4 4 (.slice AA (m + 1) CC) 5 = .slice A5 m C5) => E5
  rename Hid ((pu rows4 4 (rows4 4 ++ [((-1 : Int))]) 5).length = m) => HL5
  generalize w5.setCell ⟨N, 4, none⟩ (.slice AA (m + 1) CC) = w5 at *
  generalize hv5 : pu vs4 4 (.slice AA (m + 1) CC) = vs5 at *
  generalize hr5 : pu rows4 4 (rows4 4 ++ [((-1 : Int))]) = rows5 at *
  clear hv5
  go_wp2
  -- field 5
  have SK5 : Hid (∀ wq, Below w5.heap.size w5 wq → (wq.cell? ⟨N + 1, 0, none⟩ = some (.pointer (some ⟨N, 0, none⟩)) ∧ wq.cell? ⟨N, 5, none⟩ = some (.slice A5 m C5))) := fun wq hb => by
    have t := TT5.out.kp (Kp.of_below (F := fun _ => False) hb) fun _ h => h.elim
    have e := t.field 5 (by decide)
    rw [E5.out] at e
    exact ⟨t.2.2.2.1.cell 0, e⟩
  refine wp_region_N (fun w' => w'.cell? ⟨N + 1, 0, none⟩ = some (.pointer (some ⟨N, 0, none⟩)) ∧ w'.cell? ⟨N, 5, none⟩ = some (.slice A5 m C5)) (fun j => j != 10) mixed (SK5.out _ (below_drew _)) ?_
  intro S0
  refine wpAnyN_take (i := 0) (v := .pointer (some ⟨N, 0, none⟩)) rfl (by kernel_rfl) (by kernel_rfl) (by kernel_rfl) (by kernel_rfl) (fun _ _ _ h => h) (Or.inl ⟨by rfl, ?_⟩) S0 ?_
  · intro w' hS'
    obtain ⟨h1, h2⟩ := hS'
    go_simp
  (try simp only [Act.put, List.getElem_toArray, List.getElem_cons_zero, List.setIfInBounds_toArray, List.set_cons_zero, List.set_cons_succ])
  refine wpAnyN_take (i := 1) (v := .pointer (some ⟨N, 0, none⟩)) rfl (by kernel_rfl) (by kernel_rfl) (by kernel_rfl) (by kernel_rfl) (fun _ _ _ h => h) (Or.inl ⟨by rfl, ?_⟩) S0 ?_
  · intro w' hS'
    obtain ⟨h1, h2⟩ := hS'
    go_simp
  (try simp only [Act.put, List.getElem_toArray, List.getElem_cons_succ, List.getElem_cons_zero, List.setIfInBounds_toArray, List.set_cons_zero, List.set_cons_succ])
  refine wpAnyN_take (i := 2) (v := .pointer (some ⟨N, 0, none⟩)) rfl (by kernel_rfl) (by kernel_rfl) (by kernel_rfl) (by kernel_rfl) (fun _ _ _ h => h) (Or.inl ⟨by rfl, ?_⟩) S0 ?_
  · intro w' hS'
    obtain ⟨h1, h2⟩ := hS'
    go_simp
  (try simp only [Act.put, List.getElem_toArray, List.getElem_cons_succ, List.getElem_cons_zero, List.setIfInBounds_toArray, List.set_cons_zero, List.set_cons_succ])
  refine wpAnyN_take (i := 3) (v := .pointer (some ⟨N, 5, none⟩)) rfl (by kernel_rfl) (by kernel_rfl) (by kernel_rfl) (by kernel_rfl) (fun _ _ _ h => h) (Or.inl ⟨by rfl, ?_⟩) S0 ?_
  · intro w' hS'
    obtain ⟨h1, h2⟩ := hS'
    go_simp
  (try simp only [Act.put, List.getElem_toArray, List.getElem_cons_succ, List.getElem_cons_zero, List.setIfInBounds_toArray, List.set_cons_zero, List.set_cons_succ])
  refine wpAnyN_take (i := 4) (v := .slice A5 m C5) rfl (by kernel_rfl) (by kernel_rfl) (by kernel_rfl) (by kernel_rfl) (fun _ _ _ h => h) (Or.inl ⟨by rfl, ?_⟩) S0 ?_
  · intro w' hS'
    obtain ⟨h1, h2⟩ := hS'
    go_simp
  (try simp only [Act.put, List.getElem_toArray, List.getElem_cons_succ, List.getElem_cons_zero, List.setIfInBounds_toArray, List.set_cons_zero, List.set_cons_succ])
  refine wpAnyN_take (i := 5) (v := .int .i64 (m : Int)) rfl (by kernel_rfl) (by kernel_rfl) (by kernel_rfl) (by kernel_rfl) (fun _ _ _ h => h) (Or.inl ⟨by rfl, ?_⟩) S0 ?_
  · intro w' hS'
    obtain ⟨h1, h2⟩ := hS'
    go_simp
  (try simp only [Act.put, List.getElem_toArray, List.getElem_cons_succ, List.getElem_cons_zero, List.setIfInBounds_toArray, List.set_cons_zero, List.set_cons_succ])
  have T5a : Hid (TT (w5.drew.alloc (.cells (iZ ((m : Int))).toArray 3)) N n vs5 rows5 tf1) := TT5.out.kp (Kp.of_below (F := fun _ => False) (below_next (below_drew _) (below_alloc _ _))) fun _ h => h.elim
  have O5 : Hid (OZ (N + 4) (rows5 5) (.slice A5 m C5) (w5.drew.alloc (.cells (iZ ((m : Int))).toArray 3))) := (by rw [← E5.out]; exact T5a.out.2.1 5 (by decide) : OZ (N + 4) (rows5 5) (.slice A5 m C5) (w5.drew.alloc (.cells (iZ ((m : Int))).toArray 3)))
  refine wpAnyN_one (i := 6) (by kernel_rfl) rfl (fun K hK => ?_)
  go_simp
  refine hK _ _ (fun h => SK5.out _ (below_next (below_drew _) (below_alloc _ _))) ?_
  clear hK K
  (try simp only [Act.put, List.getElem_toArray, List.getElem_cons_succ, List.getElem_cons_zero, List.setIfInBounds_toArray, List.set_cons_zero, List.set_cons_succ])
  refine wpAnyN_one (i := 7) (by kernel_rfl) rfl (fun K hK => ?_)
  rw [if_pos (by rfl)]
  refine OwnB.appendN 28 3 iZ _ 1 8 infoInt Try.underlying28 rfl (by decide) (by decide) iZ_len iZ_one _ _ _ rfl (.slice A5 m C5) (by rfl) (N + 4) (rows5 5) [((m : Int))] O5.out ⟨w5.heap.size, 0, none⟩ 1 (by rfl) (fun j u hj => cells_new _ (iZ ((m : Int))) 3 j u (by simpa using hj)) (by rw [HL5.out]; simp; omega) ?_
  intro v5 w5 ho hb5 hk5 hv5
  obtain ⟨AA, CC, ev5, -⟩ := OZ.shape ho
  have ev6 : v5 = .slice AA (m + 1) CC := by
    rw [ev5, List.length_append, HL5.out]
    rfl
  clear ev5
  subst ev6
  have R5 := TT5.out.app (i := 5) (x := ((m : Int))) (by decide) (below_next (below_drew _) (below_alloc _ _)) ho hb5 (by rw [E5.out]; exact hk5) (by rw [E5.out]; exact hv5)
  have TT6 : Hid (TT (w5.setCell ⟨N, 5, none⟩ (.slice AA (m + 1) CC)) N n (pu vs5 5 (.slice AA (m + 1) CC)) (pu rows5 5 (rows5 5 ++ [((m : Int))])) tf1) := R5.1
  have GG6 : Hid (Gr (Fr N vs) (Fr N (pu vs5 5 (.slice AA (m + 1) CC))) w (w5.setCell ⟨N, 5, none⟩ (.slice AA (m + 1) CC))) := GG5.out.trans R5.2
  have a5 : At w5 N (vC vs5 6) 46 := T5a.out.1.below hb5 (by omega)
  have b5 : w5.cell? ⟨N + 1, 0, none⟩ = some (.pointer (some ⟨N, 0, none⟩)) := (T5a.out.2.2.2.1.below hb5 (by omega)).cell 0
  have c5 : w5.cell? ⟨N, 5, none⟩ = some (.slice A5 m C5) := by rw [a5.cell, vC_get, if_pos (by decide), E5.out]
  have f5 := a5.frozen 5
  have S5 : w5.cell? ⟨N + 1, 0, none⟩ = some (.pointer (some ⟨N, 0, none⟩)) ∧ w5.cell? ⟨N, 5, none⟩ = some (.slice A5 m C5) := ⟨b5, c5⟩
  clear ho hk5 hv5 R5 a5
  refine hK _ _ (fun _ => S5) ?_
  clear hK K
  (try simp only [Act.put, List.getElem_toArray, List.getElem_cons_succ, List.getElem_cons_zero, List.setIfInBounds_toArray, List.set_cons_zero, List.set_cons_succ])
  refine wpAnyN_one (i := 8) (by kernel_rfl) rfl (fun K hK => ?_)
  go_simp
  refine hK _ _ (fun _ => S5) ?_
  clear hK K
  (try simp only [Act.put, List.getElem_toArray, List.getElem_cons_succ, List.getElem_cons_zero, List.setIfInBounds_toArray, List.set_cons_zero, List.set_cons_succ])
  refine wpAnyN_one (i := 9) (by kernel_rfl) rfl (fun K hK => ?_)
  go_simp
  refine hK _ _ (fun _ => S5) ?_
  clear hK K
  (try simp only [Act.put, List.getElem_toArray, List.getElem_cons_succ, List.getElem_cons_zero, List.setIfInBounds_toArray, List.set_cons_zero, List.set_cons_succ])
  refine wpAnyN_one (i := 10) (by kernel_rfl) rfl (fun K hK => ?_)
  go_simp
  refine hK _ _ (fun h => by cases h) ?_
  clear hK K
  (try simp only [Act.put, List.getElem_toArray, List.getElem_cons_succ, List.getElem_cons_zero, List.setIfInBounds_toArray, List.set_cons_zero, List.set_cons_succ])
  refine wpAnyN_done (by kernel_rfl) ?_ _
  clear S5 S0 SK5 O5 T5a hb5 b5 c5 f5 TT5 GG5
  generalize w5.setCell ⟨N, 5, none⟩ (.slice AA (m + 1) CC) = w6 at *
  generalize hv6 : pu vs5 5 (.slice AA (m + 1) CC) = vs6 at *
  generalize hr6 : pu rows5 5 (rows5 5 ++ [((m : Int))]) = rows6 at *
  clear hv6
  go_wp2
  go_end0
  refine ⟨rfl, vs6, ?_, GG6.out⟩
  have h6 := TT6.out
  rw [← hr6, ← hr5, ← hr4, ← hr3, ← hr2, ← ht1] at h6
  exact h6
end Go.Proofs.Ytmmgdiecmokipaa
