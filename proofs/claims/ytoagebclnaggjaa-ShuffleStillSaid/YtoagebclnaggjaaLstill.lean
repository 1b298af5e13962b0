/-
  Proved: ShuffleStill answers true.
-/
import Derived.Test.YtoagebclnaggjaaSfin
set_option linter.unusedVariables false
namespace Go.Proofs.Ytoagebclnaggjaa
open Go.RowKit Go.Maps

theorem one_li (w : World) (m : Mv) : LI (w.alloc (.cells #[.int .i64 m.1, .int .i64 m.2] 28)) [m] (.slice (some ⟨w.heap.size, 0, none⟩) 1 1) := by
  have a : At (w.alloc (.cells #[.int .i64 m.1, .int .i64 m.2] 28)) w.heap.size #[.int .i64 m.1, .int .i64 m.2] 28 := At.new _ _ _
  refine ⟨_, _, rfl, fun i hi => ⟨_, _, rfl, a.lt, fun j v hj => ?_⟩⟩
  obtain rfl : i = 0 := by simp at hi; omega
  rw [a.cell]
  simpa [mC] using hj

set_option maxRecDepth 20000 in
set_option maxHeartbeats 4000000 in
theorem still_pos (z x : Int) (k n f : Nat) (hm : bits .and .i64 z 15 = (k : Int)) (hkn : (1 : Int) + (k : Int) = (n : Int)) (hn : n ≤ 16) (hn0 : 0 < n) (hta : (wrap64 (x.tmod n + n)).tmod n = (f : Int)) (hf : f < n) (w : World) :
    Calls Try.prog 6 #[.int .i64 z, .int .i64 x] w fun e w' => e = .returned (.bool true) ∧ Below w.heap.size w w' := by
  have hnz : ¬ (n : Int) = 0 := by omega
  have hnz2 : ((n : Int) == 0) = false := by simp; omega
  obtain ⟨P1, out, P2, P3, P4⟩ := still_is n f hn hf
  have C1 : Hid (∀ w1 v, LI w1 (mk n fun j => (j : Int)) v → Calls Try.prog 8 #[v, .int .i64 99] w1 fun e w' => ∃ u, e = .returned (.tuple #[u, .int .i64 0]) ∧ LI w' [] u ∧ Below w1.heap.size w1 w') := fun w1 v h => line_c _ [] 99 v w1 h (mk_al n _ (by omega) (fun i hi => by unfold In; omega)) (by unfold In; omega) (by rw [mk_len]; omega) (mk_ok n _ 99 (by omega) (by omega) (fun i hi => by omega)) P1
  have C2 : Hid (∀ w1 v, LI w1 (mk n fun _ => (f : Int)) v → Calls Try.prog 8 #[v, .int .i64 99] w1 fun e w' => ∃ u, e = .returned (.tuple #[u, .int .i64 0]) ∧ LI w' out u ∧ Below w1.heap.size w1 w') := fun w1 v h => line_c _ out 99 v w1 h (mk_al n _ (by omega) (fun i hi => by unfold In; omega)) (by unfold In; omega) (by rw [mk_len]; omega) (mk_ok n _ 99 (by omega) (by omega) (fun i hi => by omega)) P2
  have C3 : Hid (∀ w1 : World, Calls Try.prog 8 #[.slice (some ⟨w1.heap.size, 0, none⟩) 1 1, .int .i64 99] (w1.alloc (.cells #[.int .i64 99, .int .i64 1] 28)) fun e w' => e = .returned (.tuple #[.slice none 0 0, .int .i64 10]) ∧ Below (w1.alloc (.cells #[.int .i64 99, .int .i64 1] 28)).heap.size (w1.alloc (.cells #[.int .i64 99, .int .i64 1] 28)) w') := fun w1 => line_no [(99, 1)] 99 _ _ (one_li w1 (99, 1)) (fun m hm => by simp at hm; subst hm; constructor <;> (unfold In; omega)) (by simp) (fun h => (h.2 (99, 1) (by simp)).1 rfl)
  have C4 : Hid (∀ w1 v (i : Nat), i < n → LI w1 out v → Calls Try.prog 10 #[v, .int .i64 (i : Int)] w1 fun e w' => e = .returned (.int .i64 (f : Int)) ∧ Below w1.heap.size w1 w') := fun w1 v i hi h => by
    have := after_c out v (i : Int) w1 h (by omega)
    rwa [P4 i hi] at this
  have HL : Hid (out.length + 1 = n) := P3
  have hol : (out.length : Int) = (n : Int) - 1 := by omega
  clear P1 P2 P3 P4
  go_enter Try.func6, Try.ntmps6
  go_wp2
  go_loopw [5, 6, 7] (fun sv mv iv wr => ∃ i : Nat, i ≤ n ∧ iv = .int .i64 (i : Int) ∧ OM w.heap.size (mk i fun j => (j : Int)) sv wr ∧ OM w.heap.size (mk i fun _ => (f : Int)) mv wr ∧ Apt sv mv ∧ Below w.heap.size w wr) (fun _ _ iv _ => n - (intOf iv).toNat)
  case atStart => exact ⟨0, by omega, rfl, OM.empty (Nat.le_refl _), OM.empty (Nat.le_refl _), fun b hb => (by cases hb), Below.refl _ _⟩
  case round =>
    obtain ⟨i, hi, rfl, o1, o2, ap, hb⟩ := hrel
    rcases Nat.lt_or_ge i n with hlt | hge
    · have hiz : (i : Int) < n := by omega
      have O1 : Hid (OM w.heap.size (mk i fun j => (j : Int)) u5 wr) := o1
      have O2 : Hid (OM w.heap.size (mk i fun _ => (f : Int)) u6 wr) := o2
      have AP : Hid (Apt u5 u6) := ap
      have BB : Hid (Below w.heap.size w wr) := hb
      obtain ⟨A1, D1, e1, -⟩ := OwnB.shape mC_len o1
      obtain ⟨A2, D2, e2, -⟩ := OwnB.shape mC_len o2
      rw [mk_len] at e1 e2
      subst e1 e2
      have L1 : Hid ((mk i fun j => (j : Int)).length ≤ 10000) := (show (mk i fun j => (j : Int)).length ≤ 10000 by rw [mk_len]; omega)
      have L2 : Hid ((mk i fun _ => (f : Int)).length ≤ 10000) := (show (mk i fun _ => (f : Int)).length ≤ 10000 by rw [mk_len]; omega)
      have S1 : Hid ((mk (i + 1) fun j => (j : Int)) = (mk i fun j => (j : Int)) ++ [((i : Int), (i : Int))]) := mk_succ i _
      have S2 : Hid ((mk (i + 1) fun _ => (f : Int)) = (mk i fun _ => (f : Int)) ++ [((i : Int), (f : Int))]) := mk_succ i _
      clear o1 o2 ap hb C1 C2 C3 C4
      generalize (mk i fun j => (j : Int)) = ls at *
      generalize (mk i fun _ => (f : Int)) = lm at *
      go_wp2_with (first
        | (at_builtin; have P5' := P5; refine OM.app _ rfl _ _ rfl _ rfl ((i : Int), (f : Int)) (OwnB.below Q2.out (below_alloc _ _)) ⟨w5.heap.size, 0, none⟩ 1 rfl (fun j u hj => cells_new _ (mC ((i : Int), (f : Int))) 28 j u hj) L2.out ?_; intro v6 w6 ho hb hk hv; have T6 : Hid (OM w.heap.size (lm ++ [((i : Int), (f : Int))]) v6 w6 ∧ OM w.heap.size (ls ++ [((i : Int), (i : Int))]) v5 w6 ∧ Apt v5 v6 ∧ Below w.heap.size w w6) := (⟨ho, OM.other (OwnB.below P5.out.1 (below_alloc _ _)) (hb.size) hk P5.out.2.1, fun b h1 h2 => (hv b h2).elim (fun h3 => P5.out.2.1 b h1 h3) (fun h3 => absurd (Nat.lt_of_lt_of_le (OM.lt P5.out.1 h1) (below_alloc w5 _).size) (Nat.not_lt.2 h3)), P5.out.2.2.trans (((below_alloc w5 _).mono P5.out.2.2.size).trans hb)⟩ : _ ∧ _ ∧ _ ∧ _); clear ho hb hk hv)
        | (at_builtin; refine OM.app _ rfl _ _ rfl _ rfl ((i : Int), (i : Int)) (OwnB.below O1.out (below_alloc _ _)) ⟨wr.heap.size, 0, none⟩ 1 rfl (fun j u hj => cells_new _ (mC ((i : Int), (i : Int))) 28 j u hj) L1.out ?_; intro v5 w5 ho hb hk hv; have P5 : Hid (OM w.heap.size (ls ++ [((i : Int), (i : Int))]) v5 w5 ∧ Apt v5 (.slice A2 i D2) ∧ Below w.heap.size w w5) := (⟨ho, fun b h1 h2 => (hv b h1).elim (fun h3 => AP.out b h3 h2) (fun h3 => absurd (Nat.lt_of_lt_of_le (OM.lt O2.out h2) (below_alloc wr _).size) (Nat.not_lt.2 h3)), BB.out.trans (((below_alloc wr _).mono BB.out.size).trans hb)⟩ : _ ∧ _ ∧ _); have Q2 : Hid (OM w.heap.size lm (.slice A2 i D2) w5) := OM.other (OwnB.below O2.out (below_alloc _ _)) hb.size hk AP.out.symm; clear ho hb hk hv))
      rw [← S1.out, ← S2.out] at T6
      go_roundw
      case rel => exact ⟨i + 1, by omega, by go_num, T6.out.2.1, T6.out.1, T6.out.2.2.1, T6.out.2.2.2⟩
      case measure => simp [intOf]; omega
    · obtain rfl : i = n := by omega
      have hiz : ¬ (i : Int) < i := by omega
      obtain ⟨A1, D1, e1, r1⟩ := OwnB.done mC_len o1
      obtain ⟨A2, D2, e2, r2⟩ := OwnB.done mC_len o2
      have I1 : Hid (LI wr (mk i fun j => (j : Int)) u5) := ⟨A1, D1, e1, r1⟩
      have I2 : Hid (LI wr (mk i fun _ => (f : Int)) u6) := ⟨A2, D2, e2, r2⟩
      rw [mk_len] at e1 e2
      subst e1 e2
      have BB : Hid (Below w.heap.size w wr) := hb
      clear o1 o2 ap hb r1 r2
      go_wp2_with (first
        | (go_at_call 8; have M2' := M2; refine (C3.out w2).mono ?_; rintro e w3 ⟨rfl, h2⟩; have M3 : Hid (Below w.heap.size w w3) := M2.out.2.trans (((below_alloc w2 _).trans (h2.mono (below_alloc w2 _).size)).mono M2.out.2.size); have N3 : Hid (LI w3 out (.slice A4 out.length D4)) := (M2.out.1.below (below_alloc w2 _)).below h2; clear h2)
        | (go_at_call 8; have M1' := M1; refine (C2.out w1 _ (I2.out.below M1.out)).mono ?_; rintro e w2 ⟨u2, rfl, h1, h2⟩; obtain ⟨A4, D4, rfl, h3⟩ := h1; have M2 : Hid (LI w2 out (.slice A4 out.length D4) ∧ Below w.heap.size w w2) := ⟨⟨A4, D4, rfl, h3⟩, BB.out.trans ((below_next M1.out h2).mono BB.out.size)⟩; clear h2 h3)
        | (go_at_call 8; refine (C1.out wr _ I1.out).mono ?_; rintro e w1 ⟨u1, rfl, h1, h2⟩; obtain ⟨A3, D3, rfl, h3⟩ := h1; have M1 : Hid (Below wr.heap.size wr w1) := h2; clear h2 h3))
      go_loopw [14] (fun jv wr => ∃ j : Nat, j ≤ i ∧ jv = .int .i64 (j : Int) ∧ LI wr out (.slice A4 out.length D4) ∧ Below w.heap.size w wr) (fun jv _ => i - (intOf jv).toNat)
      case atStart => exact ⟨0, by omega, rfl, N3.out, M3.out⟩
      case round =>
        obtain ⟨j, hj, rfl, hli, hb⟩ := hrel
        have BB2 : Hid (Below w.heap.size w wr) := hb
        have LI2 : Hid (LI wr out (.slice A4 out.length D4)) := hli
        clear hli hb C1 C2 C3 I1 I2 N3 M3 M2 M1
        rcases Nat.lt_or_ge j i with hlt | hge2
        · have hjz : (j : Int) < i := by omega
          have AC : Hid (Calls Try.prog 10 #[.slice A4 out.length D4, .int .i64 (j : Int)] wr fun e w' => e = .returned (.int .i64 (f : Int)) ∧ Below wr.heap.size wr w') := C4.out wr _ j hlt LI2.out
          have q : ((f : Int) != (f : Int)) = false := by simp
          clear C4
          go_wp2_with (go_at_call 10; refine AC.out.mono ?_; rintro e w5 ⟨rfl, h5⟩; have B5 : Hid (Below w.heap.size w w5) := BB2.out.trans (h5.mono BB2.out.size); have L5 : Hid (LI w5 out (.slice A4 out.length D4)) := LI2.out.below h5; clear h5)
          go_roundw
          case rel => exact ⟨j + 1, by omega, by go_num, L5.out, B5.out⟩
          case measure => simp [intOf]; omega
        · have hjz : ¬ (j : Int) < i := by omega
          go_wp2
          go_ret
          exact ⟨rfl, BB2.out⟩

theorem shuffleStill_walk (z x : Int) (w : World) : Calls Try.prog 6 #[.int .i64 z, .int .i64 x] w fun e w' => e = .returned (.bool true) ∧ Below w.heap.size w w' := by
  have hm0 : bits .and .i64 z 15 = z % 16 := and_mask z 4 (by decide)
  have hm : bits .and .i64 z 15 = ((z % 16).toNat : Int) := by rw [hm0]; omega
  have hk : (z % 16).toNat ≤ 15 := by omega
  generalize (z % 16).toNat = k at *
  obtain ⟨t, h1, h2⟩ := turn_of x ((1 + k : Nat) : Int) (by omega) (by omega)
  exact still_pos z x k (1 + k) t hm (by omega) (by omega) (by omega) h1 (by omega) w
end Go.Proofs.Ytoagebclnaggjaa
