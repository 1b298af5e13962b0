/-
  Proved: ShuffleCircle answers true.
-/
import Derived.Test.YtoagebclnaggjaaSfin
set_option linter.unusedVariables false
namespace Go.Proofs.Ytoagebclnaggjaa
open Go.RowKit Go.Maps

theorem gC_in (n : Nat) (o : Bool) (i : Nat) (hn : n ≤ 17) (hn0 : 0 < n) : 0 ≤ gC n o i ∧ gC n o i ≤ 50 := by
  unfold gC
  split
  · omega
  · have := Nat.mod_lt (i + 1) hn0
    omega

set_option maxRecDepth 20000 in
set_option maxHeartbeats 4000000 in
theorem circle_pos (z : Int) (op : Bool) (k n : Nat) (hm : bits .and .i64 z 15 = (k : Int)) (hkn : (2 : Int) + (k : Int) = (n : Int)) (hn : n ≤ 17) (hn0 : 2 ≤ n) (hP : ∃ b, lineP (mk n (gC n op)) 99 = some b ∧ b.length = (if op then n else n + 1) ∧ ∀ i, i < n → runM b id (i : Int) = gC n op i) (w : World) :
    Calls Try.prog 5 #[.int .i64 z, .bool op] w fun e w' => e = .returned (.bool true) ∧ Below w.heap.size w w' := by
  have hnz : ¬ (n : Int) = 0 := by omega
  have hnz2 : ((n : Int) == 0) = false := by simp; omega
  obtain ⟨out, P2, P3, P4⟩ := hP
  have C1 : Hid (∀ w1 v, LI w1 (mk n (gC n op)) v → Calls Try.prog 8 #[v, .int .i64 99] w1 fun e w' => ∃ u, e = .returned (.tuple #[u, .int .i64 0]) ∧ LI w' out u ∧ Below w1.heap.size w1 w') := fun w1 v h => line_c _ out 99 v w1 h (mk_al n _ (by omega) (fun i hi => by have := gC_in n op i hn (by omega); unfold In; omega)) (by unfold In; omega) (by rw [mk_len]; omega) (mk_ok n _ 99 (by omega) (by omega) (fun i hi => by have := gC_in n op i hn (by omega); omega)) P2
  have C4 : Hid (∀ w1 v (i : Nat), i < n → LI w1 out v → Calls Try.prog 10 #[v, .int .i64 (i : Int)] w1 fun e w' => e = .returned (.int .i64 (gC n op i)) ∧ Below w1.heap.size w1 w') := fun w1 v i hi h => by
    have := after_c out v (i : Int) w1 h (by rw [P3]; split <;> omega)
    rwa [P4 i hi] at this
  have hol : ((out.length : Int) != (if op then (n : Int) else (n : Int) + 1)) = false := by
    rw [P3]
    cases op <;> simp
  clear P2 P4
  go_enter Try.func5, Try.ntmps5
  go_wp2
  go_loopw [5, 6] (fun sv iv wr => ∃ i : Nat, i ≤ n ∧ iv = .int .i64 (i : Int) ∧ OM w.heap.size (mk i (gC n op)) sv wr ∧ Below w.heap.size w wr) (fun _ iv _ => n - (intOf iv).toNat)
  case atStart => exact ⟨0, by omega, rfl, OM.empty (Nat.le_refl _), Below.refl _ _⟩
  case round =>
    obtain ⟨i, hi, rfl, o1, hb⟩ := hrel
    rcases Nat.lt_or_ge i n with hlt | hge
    · have hiz : (i : Int) < n := by omega
      have O1 : Hid (OM w.heap.size (mk i (gC n op)) u5 wr) := o1
      have BB : Hid (Below w.heap.size w wr) := hb
      obtain ⟨A1, D1, e1, -⟩ := OwnB.shape mC_len o1
      rw [mk_len] at e1
      subst e1
      have L1 : Hid ((mk i (gC n op)).length ≤ 10000) := (show (mk i (gC n op)).length ≤ 10000 by rw [mk_len]; omega)
      have S1 : Hid (mk (i + 1) (gC n op) = mk i (gC n op) ++ [((i : Int), gC n op i)]) := mk_succ i _
      have E1 : gC n op i = if op && (i + 1 == n) then 50 else (((i + 1) % n : Nat) : Int) := rfl
      have t2 : ((i : Int) + 1) % (n : Int) = (((i + 1) % n : Nat) : Int) := by
        rw [Int.natCast_emod, Int.natCast_add]
        rfl
      have t1 : ((i : Int) + 1).tmod (n : Int) = (((i + 1) % n : Nat) : Int) := by
        rw [Int.tmod_eq_emod_of_nonneg (by omega), t2]
      clear o1 hb C1 C4 hol P3
      generalize mk i (gC n op) = ls at *
      generalize (i + 1) % n = c at *
      by_cases hop : op = true
      · subst hop
        by_cases hl : i + 1 = n
        · have q : ((i : Int) == (n : Int) - 1) = true := by simp; omega
          have EG : gC n true i = 50 := by rw [E1]; simp [hl]
          rw [EG] at S1
          clear E1 EG
          go_wp2_with (at_builtin; refine OM.app _ rfl _ _ rfl _ rfl ((i : Int), 50) (OwnB.below O1.out (below_alloc _ _)) ⟨wr.heap.size, 0, none⟩ 1 rfl (fun j u hj => cells_new _ (mC ((i : Int), 50)) 28 j u hj) L1.out ?_; intro v5 w5 ho hb hk hv; have T5 : Hid (OM w.heap.size (ls ++ [((i : Int), 50)]) v5 w5) := ho; have N5 : Hid (Below w.heap.size w w5) := BB.out.trans (((below_alloc wr _).mono BB.out.size).trans hb); clear ho hb hk hv)
          rw [← S1.out] at T5
          go_roundw
          case rel => exact ⟨i + 1, by omega, by go_num, T5.out, N5.out⟩
          case measure => simp [intOf]; omega
        · have q : ((i : Int) == (n : Int) - 1) = false := by simp; omega
          have EG : gC n true i = (c : Int) := by rw [E1]; simp [hl]
          rw [EG] at S1
          clear E1 EG
          go_wp2_with (at_builtin; refine OM.app _ rfl _ _ rfl _ rfl ((i : Int), (c : Int)) (OwnB.below O1.out (below_alloc _ _)) ⟨wr.heap.size, 0, none⟩ 1 rfl (fun j u hj => cells_new _ (mC ((i : Int), (c : Int))) 28 j u hj) L1.out ?_; intro v5 w5 ho hb hk hv; have T5 : Hid (OM w.heap.size (ls ++ [((i : Int), (c : Int))]) v5 w5) := ho; have N5 : Hid (Below w.heap.size w w5) := BB.out.trans (((below_alloc wr _).mono BB.out.size).trans hb); clear ho hb hk hv)
          rw [← S1.out] at T5
          go_roundw
          case rel => exact ⟨i + 1, by omega, by go_num, T5.out, N5.out⟩
          case measure => simp [intOf]; omega
      · obtain rfl : op = false := by simpa using hop
        have EG : gC n false i = (c : Int) := by rw [E1]; simp
        rw [EG] at S1
        clear E1 EG hop
        go_wp2_with (at_builtin; refine OM.app _ rfl _ _ rfl _ rfl ((i : Int), (c : Int)) (OwnB.below O1.out (below_alloc _ _)) ⟨wr.heap.size, 0, none⟩ 1 rfl (fun j u hj => cells_new _ (mC ((i : Int), (c : Int))) 28 j u hj) L1.out ?_; intro v5 w5 ho hb hk hv; have T5 : Hid (OM w.heap.size (ls ++ [((i : Int), (c : Int))]) v5 w5) := ho; have N5 : Hid (Below w.heap.size w w5) := BB.out.trans (((below_alloc wr _).mono BB.out.size).trans hb); clear ho hb hk hv)
        rw [← S1.out] at T5
        go_roundw
        case rel => exact ⟨i + 1, by omega, by go_num, T5.out, N5.out⟩
        case measure => simp [intOf]; omega
    · obtain rfl : i = n := by omega
      have hiz : ¬ (i : Int) < i := by omega
      obtain ⟨A1, D1, e1, r1⟩ := OwnB.done mC_len o1
      have I1 : Hid (LI wr (mk i (gC i op)) u5) := ⟨A1, D1, e1, r1⟩
      rw [mk_len] at e1
      subst e1
      have BB : Hid (Below w.heap.size w wr) := hb
      have mixed : Try.prog.follows Departure.mixedOrders = true := by kernel_rfl
      clear o1 hb r1 P3
      have step : Hid (∀ (w1 : World) (A4 : Option Addr) (D4 : Nat), LI w1 out (.slice A4 out.length D4) → LI w1 (mk i (gC i op)) (.slice A1 i D1) → ∀ j, j < i → ∃ b1 o1, A1 = some ⟨b1, o1, none⟩ ∧ (∀ w2, Below w1.heap.size w1 w2 → w2.cell? ⟨b1, o1 + j * 2 + 1, none⟩ = some (.int .i64 (gC i op j)))) := fun w1 A4 D4 _ h j hj => by
        obtain ⟨A9, D9, e9, r9⟩ := h
        injection e9 with e9 _ _
        subst e9
        obtain ⟨b1, o1, e1, _, _, _⟩ := rows_cells r9 (Below.refl _ _) j (by rw [mk_len]; exact hj)
        refine ⟨b1, o1, e1, fun w2 k => ?_⟩
        obtain ⟨b2, o2, e2, _, _, c2⟩ := rows_cells r9 k j (by rw [mk_len]; exact hj)
        rw [e1] at e2
        cases e2
        rw [mk_get] at c2
        exact c2
      cases op with
      | true =>
        simp only [if_true] at hol
        go_wp2_with (go_at_call 8; refine (C1.out wr _ I1.out).mono ?_; rintro e w1 ⟨u1, rfl, h1, h2⟩; obtain ⟨A4, D4, rfl, h3⟩ := h1; have M1 : Hid (Below w.heap.size w w1) := BB.out.trans (h2.mono BB.out.size); have N1 : Hid (LI w1 out (.slice A4 out.length D4)) := ⟨A4, D4, rfl, h3⟩; have K1 : Hid (LI w1 (mk i (gC i true)) (.slice A1 i D1)) := I1.out.below h2; clear h2 h3)
        go_loopw [11] (fun jv wr => ∃ j : Nat, j ≤ i ∧ jv = .int .i64 (j : Int) ∧ LI wr out (.slice A4 out.length D4) ∧ LI wr (mk i (gC i true)) (.slice A1 i D1) ∧ Below w.heap.size w wr) (fun jv _ => i - (intOf jv).toNat)
        case atStart => exact ⟨0, by omega, rfl, N1.out, K1.out, M1.out⟩
        case round =>
          obtain ⟨j, hj, rfl, hli, hlk, hb⟩ := hrel
          have BB2 : Hid (Below w.heap.size w wr) := hb
          have LI2 : Hid (LI wr out (.slice A4 out.length D4)) := hli
          have LK2 : Hid (LI wr (mk i (gC i true)) (.slice A1 i D1)) := hlk
          clear hli hlk hb C1 I1 N1 K1 M1 hol
          rcases Nat.lt_or_ge j i with hlt | hge2
          · have hjz : (j : Int) < i := by omega
            obtain ⟨b1, o1, rfl, hS0⟩ := step.out wr A4 D4 LI2.out LK2.out j hlt
            have AC0 := C4.out wr.drew (.slice A4 out.length D4) j hlt (LI2.out.below (below_drew _))
            generalize gC i true j = gv at *
            have S0 : Hid (∀ w2, Below wr.heap.size wr w2 → w2.cell? ⟨b1, o1 + j * 2 + 1, none⟩ = some (.int .i64 gv)) := hS0
            have AC : Hid (Calls Try.prog 10 #[.slice A4 out.length D4, .int .i64 (j : Int)] wr.drew fun e w' => e = .returned (.int .i64 gv) ∧ Below wr.drew.heap.size wr.drew w') := AC0
            have q : (gv != gv) = false := by simp
            clear C4 hS0 AC0 step
            go_wp2
            refine wp_region_N (fun w' => w'.cell? ⟨b1, o1 + j * 2 + 1, none⟩ = some (.int .i64 gv)) (fun _ => true) mixed (S0.out _ (below_drew _)) ?_
            intro SS
            refine wpAnyN_take (i := 0) (v := .slice A4 out.length D4) rfl (by kernel_rfl) (by kernel_rfl) (by kernel_rfl) (by kernel_rfl) (fun _ _ _ h => h) (Or.inl ⟨by rfl, ?_⟩) SS ?_
            · intro w' hS'
              have h0 := hS'
              go_simp
            (try simp only [Act.put, List.getElem_toArray, List.getElem_cons_zero, List.setIfInBounds_toArray, List.set_cons_zero, List.set_cons_succ])
            refine wpAnyN_take (i := 1) (v := .int .i64 (j : Int)) rfl (by kernel_rfl) (by kernel_rfl) (by kernel_rfl) (by kernel_rfl) (fun _ _ _ h => h) (Or.inl ⟨by rfl, ?_⟩) SS ?_
            · intro w' hS'
              have h0 := hS'
              go_simp
            (try simp only [Act.put, List.getElem_toArray, List.getElem_cons_succ, List.getElem_cons_zero, List.setIfInBounds_toArray, List.set_cons_zero, List.set_cons_succ])
            refine wpAnyN_take (i := 3) (v := .slice (some ⟨b1, o1, none⟩) i D1) rfl (by kernel_rfl) (by kernel_rfl) (by kernel_rfl) (by kernel_rfl) (fun _ _ _ h => h) (Or.inl ⟨by rfl, ?_⟩) SS ?_
            · intro w' hS'
              have h0 := hS'
              go_simp
            (try simp only [Act.put, List.getElem_toArray, List.getElem_cons_succ, List.getElem_cons_zero, List.setIfInBounds_toArray, List.set_cons_zero, List.set_cons_succ])
            refine wpAnyN_take (i := 4) (v := .int .i64 (j : Int)) rfl (by kernel_rfl) (by kernel_rfl) (by kernel_rfl) (by kernel_rfl) (fun _ _ _ h => h) (Or.inl ⟨by rfl, ?_⟩) SS ?_
            · intro w' hS'
              have h0 := hS'
              go_simp
            (try simp only [Act.put, List.getElem_toArray, List.getElem_cons_succ, List.getElem_cons_zero, List.setIfInBounds_toArray, List.set_cons_zero, List.set_cons_succ])
            refine wpAnyN_take (i := 5) (v := .pointer (some ⟨b1, o1 + j * 2, none⟩)) rfl (by kernel_rfl) (by kernel_rfl) (by kernel_rfl) (by kernel_rfl) (fun _ _ _ h => h) (Or.inl ⟨by rfl, ?_⟩) SS ?_
            · intro w' hS'
              have h0 := hS'
              go_simp
            (try simp only [Act.put, List.getElem_toArray, List.getElem_cons_succ, List.getElem_cons_zero, List.setIfInBounds_toArray, List.set_cons_zero, List.set_cons_succ])
            refine wpAnyN_take (i := 6) (v := .pointer (some ⟨b1, o1 + j * 2 + 1, none⟩)) rfl (by kernel_rfl) (by kernel_rfl) (by kernel_rfl) (by kernel_rfl) (fun _ _ _ h => h) (Or.inl ⟨by rfl, ?_⟩) SS ?_
            · intro w' hS'
              have h0 := hS'
              go_simp
            (try simp only [Act.put, List.getElem_toArray, List.getElem_cons_succ, List.getElem_cons_zero, List.setIfInBounds_toArray, List.set_cons_zero, List.set_cons_succ])
            refine wpAnyN_take (i := 7) (v := .int .i64 gv) rfl (by kernel_rfl) (by kernel_rfl) (by kernel_rfl) (by kernel_rfl) (fun _ _ _ h => h) (Or.inl ⟨by rfl, ?_⟩) SS ?_
            · intro w' hS'
              have h0 := hS'
              go_simp
            (try simp only [Act.put, List.getElem_toArray, List.getElem_cons_succ, List.getElem_cons_zero, List.setIfInBounds_toArray, List.set_cons_zero, List.set_cons_succ])
            refine wpAnyN_one (i := 2) (by kernel_rfl) rfl (fun K hK => ?_)
            go_simp
            (go_at_call 10; refine AC.out.mono ?_; rintro e w5 ⟨rfl, h5⟩; have B5 : Hid (Below wr.heap.size wr w5) := below_next (below_drew _) h5; clear h5)
            go_wp2_with fail
            refine hK _ _ (fun _ => S0.out _ B5.out) ?_
            clear hK K
            (try simp only [Act.put, List.getElem_toArray, List.getElem_cons_succ, List.getElem_cons_zero, List.setIfInBounds_toArray, List.set_cons_zero, List.set_cons_succ])
            refine wpAnyN_one (i := 8) (by kernel_rfl) rfl (fun K hK => ?_)
            go_simp
            refine hK _ _ (fun _ => S0.out _ B5.out) ?_
            clear hK K
            (try simp only [Act.put, List.getElem_toArray, List.getElem_cons_succ, List.getElem_cons_zero, List.setIfInBounds_toArray, List.set_cons_zero, List.set_cons_succ])
            refine wpAnyN_done (by kernel_rfl) ?_ _
            go_wp2
            go_roundw
            case rel => exact ⟨j + 1, by omega, by go_num, LI2.out.below B5.out, LK2.out.below B5.out, BB2.out.trans (B5.out.mono BB2.out.size)⟩
            case measure => simp [intOf]; omega
          · have hjz : ¬ (j : Int) < i := by omega
            clear step C4
            go_wp2
            go_ret
            exact ⟨rfl, BB2.out⟩
      | false =>
        simp only [Bool.false_eq_true, if_false] at hol
        go_wp2_with (go_at_call 8; refine (C1.out wr _ I1.out).mono ?_; rintro e w1 ⟨u1, rfl, h1, h2⟩; obtain ⟨A4, D4, rfl, h3⟩ := h1; have M1 : Hid (Below w.heap.size w w1) := BB.out.trans (h2.mono BB.out.size); have N1 : Hid (LI w1 out (.slice A4 out.length D4)) := ⟨A4, D4, rfl, h3⟩; have K1 : Hid (LI w1 (mk i (gC i false)) (.slice A1 i D1)) := I1.out.below h2; clear h2 h3)
        go_loopw [11] (fun jv wr => ∃ j : Nat, j ≤ i ∧ jv = .int .i64 (j : Int) ∧ LI wr out (.slice A4 out.length D4) ∧ LI wr (mk i (gC i false)) (.slice A1 i D1) ∧ Below w.heap.size w wr) (fun jv _ => i - (intOf jv).toNat)
        case atStart => exact ⟨0, by omega, rfl, N1.out, K1.out, M1.out⟩
        case round =>
          obtain ⟨j, hj, rfl, hli, hlk, hb⟩ := hrel
          have BB2 : Hid (Below w.heap.size w wr) := hb
          have LI2 : Hid (LI wr out (.slice A4 out.length D4)) := hli
          have LK2 : Hid (LI wr (mk i (gC i false)) (.slice A1 i D1)) := hlk
          clear hli hlk hb C1 I1 N1 K1 M1 hol
          rcases Nat.lt_or_ge j i with hlt | hge2
          · have hjz : (j : Int) < i := by omega
            obtain ⟨b1, o1, rfl, hS0⟩ := step.out wr A4 D4 LI2.out LK2.out j hlt
            have AC0 := C4.out wr.drew (.slice A4 out.length D4) j hlt (LI2.out.below (below_drew _))
            generalize gC i false j = gv at *
            have S0 : Hid (∀ w2, Below wr.heap.size wr w2 → w2.cell? ⟨b1, o1 + j * 2 + 1, none⟩ = some (.int .i64 gv)) := hS0
            have AC : Hid (Calls Try.prog 10 #[.slice A4 out.length D4, .int .i64 (j : Int)] wr.drew fun e w' => e = .returned (.int .i64 gv) ∧ Below wr.drew.heap.size wr.drew w') := AC0
            have q : (gv != gv) = false := by simp
            clear C4 hS0 AC0 step
            go_wp2
            refine wp_region_N (fun w' => w'.cell? ⟨b1, o1 + j * 2 + 1, none⟩ = some (.int .i64 gv)) (fun _ => true) mixed (S0.out _ (below_drew _)) ?_
            intro SS
            refine wpAnyN_take (i := 0) (v := .slice A4 out.length D4) rfl (by kernel_rfl) (by kernel_rfl) (by kernel_rfl) (by kernel_rfl) (fun _ _ _ h => h) (Or.inl ⟨by rfl, ?_⟩) SS ?_
            · intro w' hS'
              have h0 := hS'
              go_simp
            (try simp only [Act.put, List.getElem_toArray, List.getElem_cons_zero, List.setIfInBounds_toArray, List.set_cons_zero, List.set_cons_succ])
            refine wpAnyN_take (i := 1) (v := .int .i64 (j : Int)) rfl (by kernel_rfl) (by kernel_rfl) (by kernel_rfl) (by kernel_rfl) (fun _ _ _ h => h) (Or.inl ⟨by rfl, ?_⟩) SS ?_
            · intro w' hS'
              have h0 := hS'
              go_simp
            (try simp only [Act.put, List.getElem_toArray, List.getElem_cons_succ, List.getElem_cons_zero, List.setIfInBounds_toArray, List.set_cons_zero, List.set_cons_succ])
            refine wpAnyN_take (i := 3) (v := .slice (some ⟨b1, o1, none⟩) i D1) rfl (by kernel_rfl) (by kernel_rfl) (by kernel_rfl) (by kernel_rfl) (fun _ _ _ h => h) (Or.inl ⟨by rfl, ?_⟩) SS ?_
            · intro w' hS'
              have h0 := hS'
              go_simp
            (try simp only [Act.put, List.getElem_toArray, List.getElem_cons_succ, List.getElem_cons_zero, List.setIfInBounds_toArray, List.set_cons_zero, List.set_cons_succ])
            refine wpAnyN_take (i := 4) (v := .int .i64 (j : Int)) rfl (by kernel_rfl) (by kernel_rfl) (by kernel_rfl) (by kernel_rfl) (fun _ _ _ h => h) (Or.inl ⟨by rfl, ?_⟩) SS ?_
            · intro w' hS'
              have h0 := hS'
              go_simp
            (try simp only [Act.put, List.getElem_toArray, List.getElem_cons_succ, List.getElem_cons_zero, List.setIfInBounds_toArray, List.set_cons_zero, List.set_cons_succ])
            refine wpAnyN_take (i := 5) (v := .pointer (some ⟨b1, o1 + j * 2, none⟩)) rfl (by kernel_rfl) (by kernel_rfl) (by kernel_rfl) (by kernel_rfl) (fun _ _ _ h => h) (Or.inl ⟨by rfl, ?_⟩) SS ?_
            · intro w' hS'
              have h0 := hS'
              go_simp
            (try simp only [Act.put, List.getElem_toArray, List.getElem_cons_succ, List.getElem_cons_zero, List.setIfInBounds_toArray, List.set_cons_zero, List.set_cons_succ])
            refine wpAnyN_take (i := 6) (v := .pointer (some ⟨b1, o1 + j * 2 + 1, none⟩)) rfl (by kernel_rfl) (by kernel_rfl) (by kernel_rfl) (by kernel_rfl) (fun _ _ _ h => h) (Or.inl ⟨by rfl, ?_⟩) SS ?_
            · intro w' hS'
              have h0 := hS'
              go_simp
            (try simp only [Act.put, List.getElem_toArray, List.getElem_cons_succ, List.getElem_cons_zero, List.setIfInBounds_toArray, List.set_cons_zero, List.set_cons_succ])
            refine wpAnyN_take (i := 7) (v := .int .i64 gv) rfl (by kernel_rfl) (by kernel_rfl) (by kernel_rfl) (by kernel_rfl) (fun _ _ _ h => h) (Or.inl ⟨by rfl, ?_⟩) SS ?_
            · intro w' hS'
              have h0 := hS'
              go_simp
            (try simp only [Act.put, List.getElem_toArray, List.getElem_cons_succ, List.getElem_cons_zero, List.setIfInBounds_toArray, List.set_cons_zero, List.set_cons_succ])
            refine wpAnyN_one (i := 2) (by kernel_rfl) rfl (fun K hK => ?_)
            go_simp
            (go_at_call 10; refine AC.out.mono ?_; rintro e w5 ⟨rfl, h5⟩; have B5 : Hid (Below wr.heap.size wr w5) := below_next (below_drew _) h5; clear h5)
            go_wp2_with fail
            refine hK _ _ (fun _ => S0.out _ B5.out) ?_
            clear hK K
            (try simp only [Act.put, List.getElem_toArray, List.getElem_cons_succ, List.getElem_cons_zero, List.setIfInBounds_toArray, List.set_cons_zero, List.set_cons_succ])
            refine wpAnyN_one (i := 8) (by kernel_rfl) rfl (fun K hK => ?_)
            go_simp
            refine hK _ _ (fun _ => S0.out _ B5.out) ?_
            clear hK K
            (try simp only [Act.put, List.getElem_toArray, List.getElem_cons_succ, List.getElem_cons_zero, List.setIfInBounds_toArray, List.set_cons_zero, List.set_cons_succ])
            refine wpAnyN_done (by kernel_rfl) ?_ _
            go_wp2
            go_roundw
            case rel => exact ⟨j + 1, by omega, by go_num, LI2.out.below B5.out, LK2.out.below B5.out, BB2.out.trans (B5.out.mono BB2.out.size)⟩
            case measure => simp [intOf]; omega
          · have hjz : ¬ (j : Int) < i := by omega
            clear step C4
            go_wp2
            go_ret
            exact ⟨rfl, BB2.out⟩
theorem shuffleCircle_walk (z : Int) (op : Bool) (w : World) : Calls Try.prog 5 #[.int .i64 z, .bool op] w fun e w' => e = .returned (.bool true) ∧ Below w.heap.size w w' := by
  have hm0 : bits .and .i64 z 15 = z % 16 := and_mask z 4 (by decide)
  have hm : bits .and .i64 z 15 = ((z % 16).toNat : Int) := by rw [hm0]; omega
  have hk : (z % 16).toNat ≤ 15 := by omega
  generalize (z % 16).toNat = k at *
  exact circle_pos z op k (k + 2) hm (by omega) (by omega) (by omega) (circ_is k op hk) w
end Go.Proofs.Ytoagebclnaggjaa
