/-
  Proved: HeapFills is true of every input.
-/
import Derived.Test.YtffcfohbnbldhaaDoorFills
namespace Go.Proofs.YtffcfohbnbldhaaDoor
open Go.RowKit

theorem turn_of (b n : Int) (hn : 0 < n) (hn' : n ≤ 1000) : ∃ t : Nat, (wrap64 (b.tmod n + n)).tmod n = (t : Int) ∧ (t : Int) < n := by
  have h1 := Int.tmod_lt_of_pos b hn
  have h2 := Int.lt_tmod_of_pos b hn
  have h3 : wrap64 (b.tmod n + n) = b.tmod n + n := by unfold wrap64; omega
  have h4 : 0 ≤ (b.tmod n + n) % n := Int.emod_nonneg _ (by omega)
  have h5 : (b.tmod n + n) % n < n := Int.emod_lt_of_pos _ hn
  refine ⟨((b.tmod n + n) % n).toNat, ?_, ?_⟩
  · rw [h3, Int.tmod_eq_emod_of_nonneg (by omega)]; omega
  · omega

set_option maxHeartbeats 2000000 in
theorem fills0 (a b : Int) (m : Nat) (A : bits .and .i64 a 127 = (m : Int)) (hm : m ≤ 127) (hc : clsN m = 0) (w : World) (ht : Tab w) : Calls Tryd.prog 6 #[.int .i64 a, .int .i64 b] w fun e w' => e = .returned (.bool true) ∧ Below w.heap.size w w' := by
  have T : Hid (Tab w) := ht
  clear ht
  have CO : Hid (clsOf (m : Int) = some 0) := by have := clsOf_nat m (by omega); rw [hc] at this; exact this
  have CM : Hid (∀ w, Tab w → Calls Tryd.prog 14 #[.int .i64 (m : Int)] w fun e w' => e = .returned (.tuple #[.int .i64 0, .int .i64 4, .int .i64 64, .int .i64 0]) ∧ Below w.heap.size w w') := fun w ht => by
    have := class_n m (by omega) w ht
    rw [hc] at this
    exact this
  clear hc
  go_enter Tryd.func6, Tryd.ntmps6
  go_wp2_with (first
    | (go_at_call 8; refine (new_c _ T.out).mono ?_; rintro e w1 ⟨g, rfl, hw1, hH⟩; have N1 : Hid (Below w.heap.size w w1) := hw1; have H1 : Hid (HIn w1 w.heap.size g (fun _ _ => false)) := hH; have T1 : Hid (Tab w1) := T.out.below hw1 T.out.lt; clear hw1 hH)
    | (go_at_call 14; refine (CM.out _ T1.out).mono ?_; rintro e w2 ⟨rfl, hw2⟩; have N2 : Hid (Below w.heap.size w w2) := below_next N1.out hw2; have H2 : Hid (HIn w2 w.heap.size g (fun _ _ => false)) := H1.out.below hw2; have T2 : Hid (Tab w2) := T1.out.below hw2 T1.out.lt; clear hw2))
  have G3 : Hid (g 3 < w2.heap.size) := (H2.out.rows 3 (by omega)).lt
  have GS : Hid (∀ b, Gs g b → b < w2.heap.size) := fun b hb => by have := H2.out.gs b hb; have := G3.out; omega
  have G0 : Hid (¬ Gs g 0) := H2.out.no0
  have GW : Hid (∀ b, Gs g b → w.heap.size ≤ b) := fun b hb => Nat.le_of_lt (H2.out.gs b hb).1
  have KB : Hid (∀ wr w', Below w.heap.size w wr → Kp (Gs g) wr w' → Below w.heap.size w w') := fun wr w' h1 h2 => h1.trans (h2.below h1.size GW.out)
  go_loopw [10, 11] (fun v i wr => ∃ k : Nat, k ≤ 64 ∧ i = .int .i64 (k : Int) ∧ HIn wr w.heap.size g (fillU 0 k) ∧ OwnB 3 1 iL w2.heap.size (ads 0 k) v wr ∧ Below w.heap.size w wr ∧ Tab wr) (fun _ i _ => 64 - (intOf i).toNat)
  case atStart => exact ⟨0, by omega, rfl, by rw [fill_0]; exact H2.out, ⟨Nat.le_refl _, by simp [ads], Or.inl ⟨rfl, rfl⟩⟩, N2.out, T2.out⟩
  case round =>
    obtain ⟨k, hk, rfl, hH, hO, hN, hT⟩ := hrel
    have H : Hid (HIn wr w.heap.size g (fillU 0 k)) := hH
    have O : Hid (OwnB 3 1 iL w2.heap.size (ads 0 k) _ wr) := hO
    have NN : Hid (Below w.heap.size w wr) := hN
    have T3 : Hid (Tab wr) := hT
    obtain ⟨Av, Cv, hv, hsh⟩ := hO.shape
    rw [ads_len] at hv hsh
    subst hv
    clear hH hO hN hT
    rcases Nat.lt_or_ge k 64 with hk' | hk'
    · have hkz : (k : Int) < 64 := by omega
      have AL : Hid (Calls Tryd.prog 10 #[.pointer (some ⟨w.heap.size, 0, none⟩), .int .i64 (m : Int)] wr fun e w' => e = .returned (.tuple #[.int .i64 (262144 + (k : Int) * 16), .int .i64 0]) ∧ HIn w' w.heap.size g (fillU 0 (k + 1)) ∧ Kp (Gs g) wr w') := alloc_fill m 0 k CO.out hk' H.out T3.out
      have AP : Hid (∀ W v, OwnB 3 1 iL w2.heap.size (ads 0 k ++ [262144 + (k : Int) * 16]) v W → OwnB 3 1 iL w2.heap.size (ads 0 (k + 1)) v W) := fun W v h => by rw [← ads_step]; exact h
      have LL : Hid ((ads 0 k).length ≤ 1000) := (by rw [ads_len]; omega : (ads 0 k).length ≤ 1000)
      rcases Nat.eq_zero_or_pos k with h0 | h0
      · subst h0
        have AL : Hid (Calls Tryd.prog 10 #[.pointer (some ⟨w.heap.size, 0, none⟩), .int .i64 (m : Int)] wr fun e w' => e = .returned (.tuple #[.int .i64 262144, .int .i64 0]) ∧ HIn w' w.heap.size g (fillU 0 1) ∧ Kp (Gs g) wr w') := AL.out
        go_wp2_with (first
          | (go_at_call 10; refine AL.out.mono ?_; rintro e w3 ⟨rfl, hH3, hK3⟩; have H3 : Hid (HIn w3 w.heap.size g (fillU 0 1)) := hH3; have O3 : Hid (OwnB 3 1 iL w2.heap.size (ads 0 0) _ w3) := O.out.kp hK3 GS.out; have N3 : Hid (Below w.heap.size w w3) := KB.out _ _ NN.out hK3; have T4 : Hid (Tab w3) := hK3.tab T3.out G0.out; clear hH3 hK3)
          | (refine OwnB.appendL _ rfl _ _ rfl _ rfl 262144 (O3.out.below (below_alloc _ _)) ⟨w3.heap.size, 0, none⟩ 1 rfl (fun j u hj => cells_new _ (iL 262144) 3 j u hj) LL.out ?_; intro v5 w5 ho hb; have O5 : Hid (OwnB 3 1 iL w2.heap.size (ads 0 1) v5 w5) := AP.out _ _ ho; have H5 : Hid (HIn w5 w.heap.size g (fillU 0 1)) := (H3.out.below (below_alloc _ _)).base hb G3.out; have N5 : Hid (Below w.heap.size w w5) := (below_next N3.out (below_alloc _ _)).trans (hb.mono N2.out.size); have T5 : Hid (Tab w5) := (T4.out.below (below_alloc _ _) T4.out.lt).below hb (Nat.lt_of_le_of_lt (Nat.zero_le _) G3.out); clear ho hb))
        go_roundw
        case rel => exact ⟨1, by omega, rfl, H5.out, O5.out, N5.out, T5.out⟩
        case measure => simp [intOf]
      · obtain ⟨j, rfl⟩ : ∃ j, k = j + 1 := ⟨k - 1, by omega⟩
        obtain ⟨B, rfl, hB1, hB2, hB3⟩ := hsh h0
        clear hsh
        have hjz : ((j + 1 : Nat) : Int) = (j : Int) + 1 := rfl
        rw [hjz] at hkz
        have AL : Hid (Calls Tryd.prog 10 #[.pointer (some ⟨w.heap.size, 0, none⟩), .int .i64 (m : Int)] wr fun e w' => e = .returned (.tuple #[.int .i64 (262144 + ((j : Int) + 1) * 16), .int .i64 0]) ∧ HIn w' w.heap.size g (fillU 0 (j + 1 + 1)) ∧ Kp (Gs g) wr w') := AL.out
        have AP : Hid (∀ W v, OwnB 3 1 iL w2.heap.size (ads 0 (j + 1) ++ [262144 + ((j : Int) + 1) * 16]) v W → OwnB 3 1 iL w2.heap.size (ads 0 (j + 1 + 1)) v W) := AP.out
        rw [hjz]
        go_wp2_with (first
          | (go_at_call 10; refine AL.out.mono ?_; rintro e w3 ⟨rfl, hH3, hK3⟩; have H3 : Hid (HIn w3 w.heap.size g (fillU 0 (j + 1 + 1))) := hH3; have O3 : Hid (OwnB 3 1 iL w2.heap.size (ads 0 (j + 1)) _ w3) := O.out.kp hK3 GS.out; have N3 : Hid (Below w.heap.size w w3) := KB.out _ _ NN.out hK3; have T4 : Hid (Tab w3) := hK3.tab T3.out G0.out; have hce : w3.cell? ⟨B, j, none⟩ = some (.int .i64 (262144 + (j : Int) * 16)) := O3.out.acell j (by omega); clear hH3 hK3)
          | (refine OwnB.appendL _ rfl _ _ rfl _ rfl (262144 + ((j : Int) + 1) * 16) (O3.out.below (below_alloc _ _)) ⟨w3.heap.size, 0, none⟩ 1 rfl (fun j' u hj => cells_new _ (iL (262144 + ((j : Int) + 1) * 16)) 3 j' u hj) LL.out ?_; intro v5 w5 ho hb; have O5 : Hid (OwnB 3 1 iL w2.heap.size (ads 0 (j + 1 + 1)) v5 w5) := AP.out _ _ ho; have H5 : Hid (HIn w5 w.heap.size g (fillU 0 (j + 1 + 1))) := (H3.out.below (below_alloc _ _)).base hb G3.out; have N5 : Hid (Below w.heap.size w w5) := (below_next N3.out (below_alloc _ _)).trans (hb.mono N2.out.size); have T5 : Hid (Tab w5) := (T4.out.below (below_alloc _ _) T4.out.lt).below hb (Nat.lt_of_le_of_lt (Nat.zero_le _) G3.out); clear ho hb))
        go_roundw
        case rel => exact ⟨j + 1 + 1, by omega, rfl, H5.out, O5.out, N5.out, T5.out⟩
        case measure => simp [intOf]; omega
    · obtain rfl : k = 64 := by omega
      obtain ⟨B, rfl, hB1, hB2, hB3⟩ := hsh (by omega)
      clear hsh
      have AF : Hid (Calls Tryd.prog 10 #[.pointer (some ⟨w.heap.size, 0, none⟩), .int .i64 (m : Int)] wr fun e w' => e = .returned (.tuple #[.int .i64 0, .int .i64 12]) ∧ HIn w' w.heap.size g (fillU 0 64) ∧ Kp (Gs g) wr w') := alloc_full m 0 CO.out H.out T3.out
      have LF : Hid (∀ W, HIn W w.heap.size g (fillU 0 64) → Calls Tryd.prog 16 #[.pointer (some ⟨w.heap.size, 0, none⟩), .int .i64 0] W fun e w' => e = .returned (.int .i64 64) ∧ Below W.heap.size W w') := fun W h => live_fill 0 (by omega) h
      go_wp2_with (first
        | (go_at_call 10; refine AF.out.mono ?_; rintro e w3 ⟨rfl, hH3, hK3⟩; have H3 : Hid (HIn w3 w.heap.size g (fillU 0 64)) := hH3; have O3 : Hid (OwnB 3 1 iL w2.heap.size (ads 0 64) _ w3) := O.out.kp hK3 GS.out; have N3 : Hid (Below w.heap.size w w3) := KB.out _ _ NN.out hK3; have T4 : Hid (Tab w3) := hK3.tab T3.out G0.out; clear hH3 hK3)
        | (go_at_call 16; refine (LF.out _ H3.out).mono ?_; rintro e w4 ⟨rfl, he⟩; have H4 : Hid (HIn w4 w.heap.size g (fillU 0 64)) := H3.out.below he; have O4 : Hid (OwnB 3 1 iL w2.heap.size (ads 0 64) _ w4) := O3.out.below he; have N4 : Hid (Below w.heap.size w w4) := below_next N3.out he; have T5 : Hid (Tab w4) := T4.out.below he T4.out.lt; clear he))
      have TB : ∃ t : Nat, (wrap64 (b.tmod 64 + 64)).tmod 64 = (t : Int) ∧ t < 64 := by
        obtain ⟨t, h1, h2⟩ := turn_of b 64 (by omega) (by omega)
        exact ⟨t, h1, by omega⟩
      obtain ⟨t, ht, htl⟩ := TB
      rw [ht]
      clear ht
      go_loopw [16] (fun i wr => ∃ k : Nat, k ≤ 64 ∧ i = .int .i64 (k : Int) ∧ HIn wr w.heap.size g (freeU 0 64 t k) ∧ OwnB 3 1 iL w2.heap.size (ads 0 64) (.slice (some ⟨B, 0, none⟩) 64 Cv) wr ∧ Below w.heap.size w wr ∧ Tab wr) (fun i _ => 64 - (intOf i).toNat)
      case atStart => exact ⟨0, by omega, rfl, by rw [free_0]; exact H4.out, O4.out, N4.out, T5.out⟩
      case round =>
        obtain ⟨k, hk, rfl, hH, hO, hN, hT⟩ := hrel
        have H6 : Hid (HIn wr w.heap.size g (freeU 0 64 t k)) := hH
        have O6 : Hid (OwnB 3 1 iL w2.heap.size (ads 0 64) (.slice (some ⟨B, 0, none⟩) 64 Cv) wr) := hO
        have N6 : Hid (Below w.heap.size w wr) := hN
        have T6 : Hid (Tab wr) := hT
        clear hH hO hN hT
        rcases Nat.lt_or_ge k 64 with hk' | hk'
        · have hkz : (k : Int) < 64 := by omega
          have hq : nx t k 64 < 64 := nx_lt t k 64 htl hk'
          have hmod : ((t : Int) + (k : Int)).tmod 64 = ((nx t k 64 : Nat) : Int) := by
            rw [Int.tmod_eq_emod_of_nonneg (by omega)]
            unfold nx
            split <;> omega
          have FT : Hid (Calls Tryd.prog 12 #[.pointer (some ⟨w.heap.size, 0, none⟩), .int .i64 (262144 + ((nx t k 64 : Nat) : Int) * 16)] wr fun e w' => e = .returned (.int .i64 0) ∧ HIn w' w.heap.size g (freeU 0 64 t (k + 1)) ∧ Kp (Gs g) wr w') := free_turn 0 t k (by omega) htl hk' H6.out T6.out
          have LT : Hid (∀ W, HIn W w.heap.size g (freeU 0 64 t (k + 1)) → Calls Tryd.prog 16 #[.pointer (some ⟨w.heap.size, 0, none⟩), .int .i64 0] W fun e w' => e = .returned (.int .i64 (63 - (k : Int))) ∧ Below W.heap.size W w') := fun W h => by
            have := live_turn 0 t (k + 1) (by omega) htl hk' h
            rw [show ((bl 0 - (k + 1) : Nat) : Int) = 63 - (k : Int) by show (((64 : Nat) - (k + 1) : Nat) : Int) = _; omega] at this
            exact this
          have hce : wr.cell? ⟨B, nx t k 64, none⟩ = some (.int .i64 (262144 + ((nx t k 64 : Nat) : Int) * 16)) := O6.out.acell _ hq
          generalize nx t k 64 = q at *
          have hqz : (q : Int) < 64 := by omega
          have htz : (t : Int) < 64 := by omega
          go_wp2_with (first
            | (go_at_call 12; refine FT.out.mono ?_; rintro e w7 ⟨rfl, hH3, hK3⟩; have H7 : Hid (HIn w7 w.heap.size g (freeU 0 64 t (k + 1))) := hH3; have O7 : Hid (OwnB 3 1 iL w2.heap.size (ads 0 64) (.slice (some ⟨B, 0, none⟩) 64 Cv) w7) := O6.out.kp hK3 GS.out; have N7 : Hid (Below w.heap.size w w7) := KB.out _ _ N6.out hK3; have T7 : Hid (Tab w7) := hK3.tab T6.out G0.out; clear hH3 hK3)
            | (go_at_call 16; refine (LT.out _ H7.out).mono ?_; rintro e w8 ⟨rfl, he⟩; have H8 : Hid (HIn w8 w.heap.size g (freeU 0 64 t (k + 1))) := H7.out.below he; have O8 : Hid (OwnB 3 1 iL w2.heap.size (ads 0 64) (.slice (some ⟨B, 0, none⟩) 64 Cv) w8) := O7.out.below he; have N8 : Hid (Below w.heap.size w w8) := below_next N7.out he; have T8 : Hid (Tab w8) := T7.out.below he T7.out.lt; clear he))
          go_roundw
          case rel => exact ⟨k + 1, by omega, rfl, H8.out, O8.out, N8.out, T8.out⟩
          case measure => simp [intOf]; omega
        · obtain rfl : k = 64 := by omega
          have LA : Hid (Calls Tryd.prog 10 #[.pointer (some ⟨w.heap.size, 0, none⟩), .int .i64 (m : Int)] wr fun e w' => e = .returned (.tuple #[.int .i64 262144, .int .i64 0]) ∧ Kp (Gs g) wr w') := alloc_last m 0 t CO.out htl H6.out T6.out
          go_wp2_with (go_at_call 10; refine LA.out.mono ?_; rintro e w7 ⟨rfl, hK3⟩; have O7 : Hid (OwnB 3 1 iL w2.heap.size (ads 0 64) (.slice (some ⟨B, 0, none⟩) 64 Cv) w7) := O6.out.kp hK3 GS.out; have N7 : Hid (Below w.heap.size w w7) := KB.out _ _ N6.out hK3; have hce : w7.cell? ⟨B, 0, none⟩ = some (.int .i64 262144) := O7.out.acell 0 (by omega); clear hK3)
          go_ret
          exact ⟨by simp, N7.out⟩
set_option maxHeartbeats 2000000 in
theorem fills1 (a b : Int) (m : Nat) (A : bits .and .i64 a 127 = (m : Int)) (hm : m ≤ 127) (hc : clsN m = 1) (w : World) (ht : Tab w) : Calls Tryd.prog 6 #[.int .i64 a, .int .i64 b] w fun e w' => e = .returned (.bool true) ∧ Below w.heap.size w w' := by
  have T : Hid (Tab w) := ht
  clear ht
  have CO : Hid (clsOf (m : Int) = some 1) := by have := clsOf_nat m (by omega); rw [hc] at this; exact this
  have CM : Hid (∀ w, Tab w → Calls Tryd.prog 14 #[.int .i64 (m : Int)] w fun e w' => e = .returned (.tuple #[.int .i64 1, .int .i64 16, .int .i64 32, .int .i64 0]) ∧ Below w.heap.size w w') := fun w ht => by
    have := class_n m (by omega) w ht
    rw [hc] at this
    exact this
  clear hc
  go_enter Tryd.func6, Tryd.ntmps6
  go_wp2_with (first
    | (go_at_call 8; refine (new_c _ T.out).mono ?_; rintro e w1 ⟨g, rfl, hw1, hH⟩; have N1 : Hid (Below w.heap.size w w1) := hw1; have H1 : Hid (HIn w1 w.heap.size g (fun _ _ => false)) := hH; have T1 : Hid (Tab w1) := T.out.below hw1 T.out.lt; clear hw1 hH)
    | (go_at_call 14; refine (CM.out _ T1.out).mono ?_; rintro e w2 ⟨rfl, hw2⟩; have N2 : Hid (Below w.heap.size w w2) := below_next N1.out hw2; have H2 : Hid (HIn w2 w.heap.size g (fun _ _ => false)) := H1.out.below hw2; have T2 : Hid (Tab w2) := T1.out.below hw2 T1.out.lt; clear hw2))
  have G3 : Hid (g 3 < w2.heap.size) := (H2.out.rows 3 (by omega)).lt
  have GS : Hid (∀ b, Gs g b → b < w2.heap.size) := fun b hb => by have := H2.out.gs b hb; have := G3.out; omega
  have G0 : Hid (¬ Gs g 0) := H2.out.no0
  have GW : Hid (∀ b, Gs g b → w.heap.size ≤ b) := fun b hb => Nat.le_of_lt (H2.out.gs b hb).1
  have KB : Hid (∀ wr w', Below w.heap.size w wr → Kp (Gs g) wr w' → Below w.heap.size w w') := fun wr w' h1 h2 => h1.trans (h2.below h1.size GW.out)
  go_loopw [10, 11] (fun v i wr => ∃ k : Nat, k ≤ 32 ∧ i = .int .i64 (k : Int) ∧ HIn wr w.heap.size g (fillU 1 k) ∧ OwnB 3 1 iL w2.heap.size (ads 1 k) v wr ∧ Below w.heap.size w wr ∧ Tab wr) (fun _ i _ => 32 - (intOf i).toNat)
  case atStart => exact ⟨0, by omega, rfl, by rw [fill_0]; exact H2.out, ⟨Nat.le_refl _, by simp [ads], Or.inl ⟨rfl, rfl⟩⟩, N2.out, T2.out⟩
  case round =>
    obtain ⟨k, hk, rfl, hH, hO, hN, hT⟩ := hrel
    have H : Hid (HIn wr w.heap.size g (fillU 1 k)) := hH
    have O : Hid (OwnB 3 1 iL w2.heap.size (ads 1 k) _ wr) := hO
    have NN : Hid (Below w.heap.size w wr) := hN
    have T3 : Hid (Tab wr) := hT
    obtain ⟨Av, Cv, hv, hsh⟩ := hO.shape
    rw [ads_len] at hv hsh
    subst hv
    clear hH hO hN hT
    rcases Nat.lt_or_ge k 32 with hk' | hk'
    · have hkz : (k : Int) < 32 := by omega
      have AL : Hid (Calls Tryd.prog 10 #[.pointer (some ⟨w.heap.size, 0, none⟩), .int .i64 (m : Int)] wr fun e w' => e = .returned (.tuple #[.int .i64 (263168 + (k : Int) * 64), .int .i64 0]) ∧ HIn w' w.heap.size g (fillU 1 (k + 1)) ∧ Kp (Gs g) wr w') := alloc_fill m 1 k CO.out hk' H.out T3.out
      have AP : Hid (∀ W v, OwnB 3 1 iL w2.heap.size (ads 1 k ++ [263168 + (k : Int) * 64]) v W → OwnB 3 1 iL w2.heap.size (ads 1 (k + 1)) v W) := fun W v h => by rw [← ads_step]; exact h
      have LL : Hid ((ads 1 k).length ≤ 1000) := (by rw [ads_len]; omega : (ads 1 k).length ≤ 1000)
      rcases Nat.eq_zero_or_pos k with h0 | h0
      · subst h0
        have AL : Hid (Calls Tryd.prog 10 #[.pointer (some ⟨w.heap.size, 0, none⟩), .int .i64 (m : Int)] wr fun e w' => e = .returned (.tuple #[.int .i64 263168, .int .i64 0]) ∧ HIn w' w.heap.size g (fillU 1 1) ∧ Kp (Gs g) wr w') := AL.out
        go_wp2_with (first
          | (go_at_call 10; refine AL.out.mono ?_; rintro e w3 ⟨rfl, hH3, hK3⟩; have H3 : Hid (HIn w3 w.heap.size g (fillU 1 1)) := hH3; have O3 : Hid (OwnB 3 1 iL w2.heap.size (ads 1 0) _ w3) := O.out.kp hK3 GS.out; have N3 : Hid (Below w.heap.size w w3) := KB.out _ _ NN.out hK3; have T4 : Hid (Tab w3) := hK3.tab T3.out G0.out; clear hH3 hK3)
          | (refine OwnB.appendL _ rfl _ _ rfl _ rfl 263168 (O3.out.below (below_alloc _ _)) ⟨w3.heap.size, 0, none⟩ 1 rfl (fun j u hj => cells_new _ (iL 263168) 3 j u hj) LL.out ?_; intro v5 w5 ho hb; have O5 : Hid (OwnB 3 1 iL w2.heap.size (ads 1 1) v5 w5) := AP.out _ _ ho; have H5 : Hid (HIn w5 w.heap.size g (fillU 1 1)) := (H3.out.below (below_alloc _ _)).base hb G3.out; have N5 : Hid (Below w.heap.size w w5) := (below_next N3.out (below_alloc _ _)).trans (hb.mono N2.out.size); have T5 : Hid (Tab w5) := (T4.out.below (below_alloc _ _) T4.out.lt).below hb (Nat.lt_of_le_of_lt (Nat.zero_le _) G3.out); clear ho hb))
        go_roundw
        case rel => exact ⟨1, by omega, rfl, H5.out, O5.out, N5.out, T5.out⟩
        case measure => simp [intOf]
      · obtain ⟨j, rfl⟩ : ∃ j, k = j + 1 := ⟨k - 1, by omega⟩
        obtain ⟨B, rfl, hB1, hB2, hB3⟩ := hsh h0
        clear hsh
        have hjz : ((j + 1 : Nat) : Int) = (j : Int) + 1 := rfl
        rw [hjz] at hkz
        have AL : Hid (Calls Tryd.prog 10 #[.pointer (some ⟨w.heap.size, 0, none⟩), .int .i64 (m : Int)] wr fun e w' => e = .returned (.tuple #[.int .i64 (263168 + ((j : Int) + 1) * 64), .int .i64 0]) ∧ HIn w' w.heap.size g (fillU 1 (j + 1 + 1)) ∧ Kp (Gs g) wr w') := AL.out
        have AP : Hid (∀ W v, OwnB 3 1 iL w2.heap.size (ads 1 (j + 1) ++ [263168 + ((j : Int) + 1) * 64]) v W → OwnB 3 1 iL w2.heap.size (ads 1 (j + 1 + 1)) v W) := AP.out
        rw [hjz]
        go_wp2_with (first
          | (go_at_call 10; refine AL.out.mono ?_; rintro e w3 ⟨rfl, hH3, hK3⟩; have H3 : Hid (HIn w3 w.heap.size g (fillU 1 (j + 1 + 1))) := hH3; have O3 : Hid (OwnB 3 1 iL w2.heap.size (ads 1 (j + 1)) _ w3) := O.out.kp hK3 GS.out; have N3 : Hid (Below w.heap.size w w3) := KB.out _ _ NN.out hK3; have T4 : Hid (Tab w3) := hK3.tab T3.out G0.out; have hce : w3.cell? ⟨B, j, none⟩ = some (.int .i64 (263168 + (j : Int) * 64)) := O3.out.acell j (by omega); clear hH3 hK3)
          | (refine OwnB.appendL _ rfl _ _ rfl _ rfl (263168 + ((j : Int) + 1) * 64) (O3.out.below (below_alloc _ _)) ⟨w3.heap.size, 0, none⟩ 1 rfl (fun j' u hj => cells_new _ (iL (263168 + ((j : Int) + 1) * 64)) 3 j' u hj) LL.out ?_; intro v5 w5 ho hb; have O5 : Hid (OwnB 3 1 iL w2.heap.size (ads 1 (j + 1 + 1)) v5 w5) := AP.out _ _ ho; have H5 : Hid (HIn w5 w.heap.size g (fillU 1 (j + 1 + 1))) := (H3.out.below (below_alloc _ _)).base hb G3.out; have N5 : Hid (Below w.heap.size w w5) := (below_next N3.out (below_alloc _ _)).trans (hb.mono N2.out.size); have T5 : Hid (Tab w5) := (T4.out.below (below_alloc _ _) T4.out.lt).below hb (Nat.lt_of_le_of_lt (Nat.zero_le _) G3.out); clear ho hb))
        go_roundw
        case rel => exact ⟨j + 1 + 1, by omega, rfl, H5.out, O5.out, N5.out, T5.out⟩
        case measure => simp [intOf]; omega
    · obtain rfl : k = 32 := by omega
      obtain ⟨B, rfl, hB1, hB2, hB3⟩ := hsh (by omega)
      clear hsh
      have AF : Hid (Calls Tryd.prog 10 #[.pointer (some ⟨w.heap.size, 0, none⟩), .int .i64 (m : Int)] wr fun e w' => e = .returned (.tuple #[.int .i64 0, .int .i64 12]) ∧ HIn w' w.heap.size g (fillU 1 32) ∧ Kp (Gs g) wr w') := alloc_full m 1 CO.out H.out T3.out
      have LF : Hid (∀ W, HIn W w.heap.size g (fillU 1 32) → Calls Tryd.prog 16 #[.pointer (some ⟨w.heap.size, 0, none⟩), .int .i64 1] W fun e w' => e = .returned (.int .i64 32) ∧ Below W.heap.size W w') := fun W h => live_fill 1 (by omega) h
      go_wp2_with (first
        | (go_at_call 10; refine AF.out.mono ?_; rintro e w3 ⟨rfl, hH3, hK3⟩; have H3 : Hid (HIn w3 w.heap.size g (fillU 1 32)) := hH3; have O3 : Hid (OwnB 3 1 iL w2.heap.size (ads 1 32) _ w3) := O.out.kp hK3 GS.out; have N3 : Hid (Below w.heap.size w w3) := KB.out _ _ NN.out hK3; have T4 : Hid (Tab w3) := hK3.tab T3.out G0.out; clear hH3 hK3)
        | (go_at_call 16; refine (LF.out _ H3.out).mono ?_; rintro e w4 ⟨rfl, he⟩; have H4 : Hid (HIn w4 w.heap.size g (fillU 1 32)) := H3.out.below he; have O4 : Hid (OwnB 3 1 iL w2.heap.size (ads 1 32) _ w4) := O3.out.below he; have N4 : Hid (Below w.heap.size w w4) := below_next N3.out he; have T5 : Hid (Tab w4) := T4.out.below he T4.out.lt; clear he))
      have TB : ∃ t : Nat, (wrap64 (b.tmod 32 + 32)).tmod 32 = (t : Int) ∧ t < 32 := by
        obtain ⟨t, h1, h2⟩ := turn_of b 32 (by omega) (by omega)
        exact ⟨t, h1, by omega⟩
      obtain ⟨t, ht, htl⟩ := TB
      rw [ht]
      clear ht
      go_loopw [16] (fun i wr => ∃ k : Nat, k ≤ 32 ∧ i = .int .i64 (k : Int) ∧ HIn wr w.heap.size g (freeU 1 32 t k) ∧ OwnB 3 1 iL w2.heap.size (ads 1 32) (.slice (some ⟨B, 0, none⟩) 32 Cv) wr ∧ Below w.heap.size w wr ∧ Tab wr) (fun i _ => 32 - (intOf i).toNat)
      case atStart => exact ⟨0, by omega, rfl, by rw [free_0]; exact H4.out, O4.out, N4.out, T5.out⟩
      case round =>
        obtain ⟨k, hk, rfl, hH, hO, hN, hT⟩ := hrel
        have H6 : Hid (HIn wr w.heap.size g (freeU 1 32 t k)) := hH
        have O6 : Hid (OwnB 3 1 iL w2.heap.size (ads 1 32) (.slice (some ⟨B, 0, none⟩) 32 Cv) wr) := hO
        have N6 : Hid (Below w.heap.size w wr) := hN
        have T6 : Hid (Tab wr) := hT
        clear hH hO hN hT
        rcases Nat.lt_or_ge k 32 with hk' | hk'
        · have hkz : (k : Int) < 32 := by omega
          have hq : nx t k 32 < 32 := nx_lt t k 32 htl hk'
          have hmod : ((t : Int) + (k : Int)).tmod 32 = ((nx t k 32 : Nat) : Int) := by
            rw [Int.tmod_eq_emod_of_nonneg (by omega)]
            unfold nx
            split <;> omega
          have FT : Hid (Calls Tryd.prog 12 #[.pointer (some ⟨w.heap.size, 0, none⟩), .int .i64 (263168 + ((nx t k 32 : Nat) : Int) * 64)] wr fun e w' => e = .returned (.int .i64 0) ∧ HIn w' w.heap.size g (freeU 1 32 t (k + 1)) ∧ Kp (Gs g) wr w') := free_turn 1 t k (by omega) htl hk' H6.out T6.out
          have LT : Hid (∀ W, HIn W w.heap.size g (freeU 1 32 t (k + 1)) → Calls Tryd.prog 16 #[.pointer (some ⟨w.heap.size, 0, none⟩), .int .i64 1] W fun e w' => e = .returned (.int .i64 (31 - (k : Int))) ∧ Below W.heap.size W w') := fun W h => by
            have := live_turn 1 t (k + 1) (by omega) htl hk' h
            rw [show ((bl 1 - (k + 1) : Nat) : Int) = 31 - (k : Int) by show (((32 : Nat) - (k + 1) : Nat) : Int) = _; omega] at this
            exact this
          have hce : wr.cell? ⟨B, nx t k 32, none⟩ = some (.int .i64 (263168 + ((nx t k 32 : Nat) : Int) * 64)) := O6.out.acell _ hq
          generalize nx t k 32 = q at *
          have hqz : (q : Int) < 32 := by omega
          have htz : (t : Int) < 32 := by omega
          go_wp2_with (first
            | (go_at_call 12; refine FT.out.mono ?_; rintro e w7 ⟨rfl, hH3, hK3⟩; have H7 : Hid (HIn w7 w.heap.size g (freeU 1 32 t (k + 1))) := hH3; have O7 : Hid (OwnB 3 1 iL w2.heap.size (ads 1 32) (.slice (some ⟨B, 0, none⟩) 32 Cv) w7) := O6.out.kp hK3 GS.out; have N7 : Hid (Below w.heap.size w w7) := KB.out _ _ N6.out hK3; have T7 : Hid (Tab w7) := hK3.tab T6.out G0.out; clear hH3 hK3)
            | (go_at_call 16; refine (LT.out _ H7.out).mono ?_; rintro e w8 ⟨rfl, he⟩; have H8 : Hid (HIn w8 w.heap.size g (freeU 1 32 t (k + 1))) := H7.out.below he; have O8 : Hid (OwnB 3 1 iL w2.heap.size (ads 1 32) (.slice (some ⟨B, 0, none⟩) 32 Cv) w8) := O7.out.below he; have N8 : Hid (Below w.heap.size w w8) := below_next N7.out he; have T8 : Hid (Tab w8) := T7.out.below he T7.out.lt; clear he))
          go_roundw
          case rel => exact ⟨k + 1, by omega, rfl, H8.out, O8.out, N8.out, T8.out⟩
          case measure => simp [intOf]; omega
        · obtain rfl : k = 32 := by omega
          have LA : Hid (Calls Tryd.prog 10 #[.pointer (some ⟨w.heap.size, 0, none⟩), .int .i64 (m : Int)] wr fun e w' => e = .returned (.tuple #[.int .i64 263168, .int .i64 0]) ∧ Kp (Gs g) wr w') := alloc_last m 1 t CO.out htl H6.out T6.out
          go_wp2_with (go_at_call 10; refine LA.out.mono ?_; rintro e w7 ⟨rfl, hK3⟩; have O7 : Hid (OwnB 3 1 iL w2.heap.size (ads 1 32) (.slice (some ⟨B, 0, none⟩) 32 Cv) w7) := O6.out.kp hK3 GS.out; have N7 : Hid (Below w.heap.size w w7) := KB.out _ _ N6.out hK3; have hce : w7.cell? ⟨B, 0, none⟩ = some (.int .i64 263168) := O7.out.acell 0 (by omega); clear hK3)
          go_ret
          exact ⟨by simp, N7.out⟩
set_option maxHeartbeats 2000000 in
theorem fills2 (a b : Int) (m : Nat) (A : bits .and .i64 a 127 = (m : Int)) (hm : m ≤ 127) (hc : clsN m = 2) (w : World) (ht : Tab w) : Calls Tryd.prog 6 #[.int .i64 a, .int .i64 b] w fun e w' => e = .returned (.bool true) ∧ Below w.heap.size w w' := by
  have T : Hid (Tab w) := ht
  clear ht
  have CO : Hid (clsOf (m : Int) = some 2) := by have := clsOf_nat m (by omega); rw [hc] at this; exact this
  have CM : Hid (∀ w, Tab w → Calls Tryd.prog 14 #[.int .i64 (m : Int)] w fun e w' => e = .returned (.tuple #[.int .i64 2, .int .i64 64, .int .i64 16, .int .i64 0]) ∧ Below w.heap.size w w') := fun w ht => by
    have := class_n m (by omega) w ht
    rw [hc] at this
    exact this
  clear hc
  go_enter Tryd.func6, Tryd.ntmps6
  go_wp2_with (first
    | (go_at_call 8; refine (new_c _ T.out).mono ?_; rintro e w1 ⟨g, rfl, hw1, hH⟩; have N1 : Hid (Below w.heap.size w w1) := hw1; have H1 : Hid (HIn w1 w.heap.size g (fun _ _ => false)) := hH; have T1 : Hid (Tab w1) := T.out.below hw1 T.out.lt; clear hw1 hH)
    | (go_at_call 14; refine (CM.out _ T1.out).mono ?_; rintro e w2 ⟨rfl, hw2⟩; have N2 : Hid (Below w.heap.size w w2) := below_next N1.out hw2; have H2 : Hid (HIn w2 w.heap.size g (fun _ _ => false)) := H1.out.below hw2; have T2 : Hid (Tab w2) := T1.out.below hw2 T1.out.lt; clear hw2))
  have G3 : Hid (g 3 < w2.heap.size) := (H2.out.rows 3 (by omega)).lt
  have GS : Hid (∀ b, Gs g b → b < w2.heap.size) := fun b hb => by have := H2.out.gs b hb; have := G3.out; omega
  have G0 : Hid (¬ Gs g 0) := H2.out.no0
  have GW : Hid (∀ b, Gs g b → w.heap.size ≤ b) := fun b hb => Nat.le_of_lt (H2.out.gs b hb).1
  have KB : Hid (∀ wr w', Below w.heap.size w wr → Kp (Gs g) wr w' → Below w.heap.size w w') := fun wr w' h1 h2 => h1.trans (h2.below h1.size GW.out)
  go_loopw [10, 11] (fun v i wr => ∃ k : Nat, k ≤ 16 ∧ i = .int .i64 (k : Int) ∧ HIn wr w.heap.size g (fillU 2 k) ∧ OwnB 3 1 iL w2.heap.size (ads 2 k) v wr ∧ Below w.heap.size w wr ∧ Tab wr) (fun _ i _ => 16 - (intOf i).toNat)
  case atStart => exact ⟨0, by omega, rfl, by rw [fill_0]; exact H2.out, ⟨Nat.le_refl _, by simp [ads], Or.inl ⟨rfl, rfl⟩⟩, N2.out, T2.out⟩
  case round =>
    obtain ⟨k, hk, rfl, hH, hO, hN, hT⟩ := hrel
    have H : Hid (HIn wr w.heap.size g (fillU 2 k)) := hH
    have O : Hid (OwnB 3 1 iL w2.heap.size (ads 2 k) _ wr) := hO
    have NN : Hid (Below w.heap.size w wr) := hN
    have T3 : Hid (Tab wr) := hT
    obtain ⟨Av, Cv, hv, hsh⟩ := hO.shape
    rw [ads_len] at hv hsh
    subst hv
    clear hH hO hN hT
    rcases Nat.lt_or_ge k 16 with hk' | hk'
    · have hkz : (k : Int) < 16 := by omega
      have AL : Hid (Calls Tryd.prog 10 #[.pointer (some ⟨w.heap.size, 0, none⟩), .int .i64 (m : Int)] wr fun e w' => e = .returned (.tuple #[.int .i64 (265216 + (k : Int) * 256), .int .i64 0]) ∧ HIn w' w.heap.size g (fillU 2 (k + 1)) ∧ Kp (Gs g) wr w') := alloc_fill m 2 k CO.out hk' H.out T3.out
      have AP : Hid (∀ W v, OwnB 3 1 iL w2.heap.size (ads 2 k ++ [265216 + (k : Int) * 256]) v W → OwnB 3 1 iL w2.heap.size (ads 2 (k + 1)) v W) := fun W v h => by rw [← ads_step]; exact h
      have LL : Hid ((ads 2 k).length ≤ 1000) := (by rw [ads_len]; omega : (ads 2 k).length ≤ 1000)
      rcases Nat.eq_zero_or_pos k with h0 | h0
      · subst h0
        have AL : Hid (Calls Tryd.prog 10 #[.pointer (some ⟨w.heap.size, 0, none⟩), .int .i64 (m : Int)] wr fun e w' => e = .returned (.tuple #[.int .i64 265216, .int .i64 0]) ∧ HIn w' w.heap.size g (fillU 2 1) ∧ Kp (Gs g) wr w') := AL.out
        go_wp2_with (first
          | (go_at_call 10; refine AL.out.mono ?_; rintro e w3 ⟨rfl, hH3, hK3⟩; have H3 : Hid (HIn w3 w.heap.size g (fillU 2 1)) := hH3; have O3 : Hid (OwnB 3 1 iL w2.heap.size (ads 2 0) _ w3) := O.out.kp hK3 GS.out; have N3 : Hid (Below w.heap.size w w3) := KB.out _ _ NN.out hK3; have T4 : Hid (Tab w3) := hK3.tab T3.out G0.out; clear hH3 hK3)
          | (refine OwnB.appendL _ rfl _ _ rfl _ rfl 265216 (O3.out.below (below_alloc _ _)) ⟨w3.heap.size, 0, none⟩ 1 rfl (fun j u hj => cells_new _ (iL 265216) 3 j u hj) LL.out ?_; intro v5 w5 ho hb; have O5 : Hid (OwnB 3 1 iL w2.heap.size (ads 2 1) v5 w5) := AP.out _ _ ho; have H5 : Hid (HIn w5 w.heap.size g (fillU 2 1)) := (H3.out.below (below_alloc _ _)).base hb G3.out; have N5 : Hid (Below w.heap.size w w5) := (below_next N3.out (below_alloc _ _)).trans (hb.mono N2.out.size); have T5 : Hid (Tab w5) := (T4.out.below (below_alloc _ _) T4.out.lt).below hb (Nat.lt_of_le_of_lt (Nat.zero_le _) G3.out); clear ho hb))
        go_roundw
        case rel => exact ⟨1, by omega, rfl, H5.out, O5.out, N5.out, T5.out⟩
        case measure => simp [intOf]
      · obtain ⟨j, rfl⟩ : ∃ j, k = j + 1 := ⟨k - 1, by omega⟩
        obtain ⟨B, rfl, hB1, hB2, hB3⟩ := hsh h0
        clear hsh
        have hjz : ((j + 1 : Nat) : Int) = (j : Int) + 1 := rfl
        rw [hjz] at hkz
        have AL : Hid (Calls Tryd.prog 10 #[.pointer (some ⟨w.heap.size, 0, none⟩), .int .i64 (m : Int)] wr fun e w' => e = .returned (.tuple #[.int .i64 (265216 + ((j : Int) + 1) * 256), .int .i64 0]) ∧ HIn w' w.heap.size g (fillU 2 (j + 1 + 1)) ∧ Kp (Gs g) wr w') := AL.out
        have AP : Hid (∀ W v, OwnB 3 1 iL w2.heap.size (ads 2 (j + 1) ++ [265216 + ((j : Int) + 1) * 256]) v W → OwnB 3 1 iL w2.heap.size (ads 2 (j + 1 + 1)) v W) := AP.out
        rw [hjz]
        go_wp2_with (first
          | (go_at_call 10; refine AL.out.mono ?_; rintro e w3 ⟨rfl, hH3, hK3⟩; have H3 : Hid (HIn w3 w.heap.size g (fillU 2 (j + 1 + 1))) := hH3; have O3 : Hid (OwnB 3 1 iL w2.heap.size (ads 2 (j + 1)) _ w3) := O.out.kp hK3 GS.out; have N3 : Hid (Below w.heap.size w w3) := KB.out _ _ NN.out hK3; have T4 : Hid (Tab w3) := hK3.tab T3.out G0.out; have hce : w3.cell? ⟨B, j, none⟩ = some (.int .i64 (265216 + (j : Int) * 256)) := O3.out.acell j (by omega); clear hH3 hK3)
          | (refine OwnB.appendL _ rfl _ _ rfl _ rfl (265216 + ((j : Int) + 1) * 256) (O3.out.below (below_alloc _ _)) ⟨w3.heap.size, 0, none⟩ 1 rfl (fun j' u hj => cells_new _ (iL (265216 + ((j : Int) + 1) * 256)) 3 j' u hj) LL.out ?_; intro v5 w5 ho hb; have O5 : Hid (OwnB 3 1 iL w2.heap.size (ads 2 (j + 1 + 1)) v5 w5) := AP.out _ _ ho; have H5 : Hid (HIn w5 w.heap.size g (fillU 2 (j + 1 + 1))) := (H3.out.below (below_alloc _ _)).base hb G3.out; have N5 : Hid (Below w.heap.size w w5) := (below_next N3.out (below_alloc _ _)).trans (hb.mono N2.out.size); have T5 : Hid (Tab w5) := (T4.out.below (below_alloc _ _) T4.out.lt).below hb (Nat.lt_of_le_of_lt (Nat.zero_le _) G3.out); clear ho hb))
        go_roundw
        case rel => exact ⟨j + 1 + 1, by omega, rfl, H5.out, O5.out, N5.out, T5.out⟩
        case measure => simp [intOf]; omega
    · obtain rfl : k = 16 := by omega
      obtain ⟨B, rfl, hB1, hB2, hB3⟩ := hsh (by omega)
      clear hsh
      have AF : Hid (Calls Tryd.prog 10 #[.pointer (some ⟨w.heap.size, 0, none⟩), .int .i64 (m : Int)] wr fun e w' => e = .returned (.tuple #[.int .i64 0, .int .i64 12]) ∧ HIn w' w.heap.size g (fillU 2 16) ∧ Kp (Gs g) wr w') := alloc_full m 2 CO.out H.out T3.out
      have LF : Hid (∀ W, HIn W w.heap.size g (fillU 2 16) → Calls Tryd.prog 16 #[.pointer (some ⟨w.heap.size, 0, none⟩), .int .i64 2] W fun e w' => e = .returned (.int .i64 16) ∧ Below W.heap.size W w') := fun W h => live_fill 2 (by omega) h
      go_wp2_with (first
        | (go_at_call 10; refine AF.out.mono ?_; rintro e w3 ⟨rfl, hH3, hK3⟩; have H3 : Hid (HIn w3 w.heap.size g (fillU 2 16)) := hH3; have O3 : Hid (OwnB 3 1 iL w2.heap.size (ads 2 16) _ w3) := O.out.kp hK3 GS.out; have N3 : Hid (Below w.heap.size w w3) := KB.out _ _ NN.out hK3; have T4 : Hid (Tab w3) := hK3.tab T3.out G0.out; clear hH3 hK3)
        | (go_at_call 16; refine (LF.out _ H3.out).mono ?_; rintro e w4 ⟨rfl, he⟩; have H4 : Hid (HIn w4 w.heap.size g (fillU 2 16)) := H3.out.below he; have O4 : Hid (OwnB 3 1 iL w2.heap.size (ads 2 16) _ w4) := O3.out.below he; have N4 : Hid (Below w.heap.size w w4) := below_next N3.out he; have T5 : Hid (Tab w4) := T4.out.below he T4.out.lt; clear he))
      have TB : ∃ t : Nat, (wrap64 (b.tmod 16 + 16)).tmod 16 = (t : Int) ∧ t < 16 := by
        obtain ⟨t, h1, h2⟩ := turn_of b 16 (by omega) (by omega)
        exact ⟨t, h1, by omega⟩
      obtain ⟨t, ht, htl⟩ := TB
      rw [ht]
      clear ht
      go_loopw [16] (fun i wr => ∃ k : Nat, k ≤ 16 ∧ i = .int .i64 (k : Int) ∧ HIn wr w.heap.size g (freeU 2 16 t k) ∧ OwnB 3 1 iL w2.heap.size (ads 2 16) (.slice (some ⟨B, 0, none⟩) 16 Cv) wr ∧ Below w.heap.size w wr ∧ Tab wr) (fun i _ => 16 - (intOf i).toNat)
      case atStart => exact ⟨0, by omega, rfl, by rw [free_0]; exact H4.out, O4.out, N4.out, T5.out⟩
      case round =>
        obtain ⟨k, hk, rfl, hH, hO, hN, hT⟩ := hrel
        have H6 : Hid (HIn wr w.heap.size g (freeU 2 16 t k)) := hH
        have O6 : Hid (OwnB 3 1 iL w2.heap.size (ads 2 16) (.slice (some ⟨B, 0, none⟩) 16 Cv) wr) := hO
        have N6 : Hid (Below w.heap.size w wr) := hN
        have T6 : Hid (Tab wr) := hT
        clear hH hO hN hT
        rcases Nat.lt_or_ge k 16 with hk' | hk'
        · have hkz : (k : Int) < 16 := by omega
          have hq : nx t k 16 < 16 := nx_lt t k 16 htl hk'
          have hmod : ((t : Int) + (k : Int)).tmod 16 = ((nx t k 16 : Nat) : Int) := by
            rw [Int.tmod_eq_emod_of_nonneg (by omega)]
            unfold nx
            split <;> omega
          have FT : Hid (Calls Tryd.prog 12 #[.pointer (some ⟨w.heap.size, 0, none⟩), .int .i64 (265216 + ((nx t k 16 : Nat) : Int) * 256)] wr fun e w' => e = .returned (.int .i64 0) ∧ HIn w' w.heap.size g (freeU 2 16 t (k + 1)) ∧ Kp (Gs g) wr w') := free_turn 2 t k (by omega) htl hk' H6.out T6.out
          have LT : Hid (∀ W, HIn W w.heap.size g (freeU 2 16 t (k + 1)) → Calls Tryd.prog 16 #[.pointer (some ⟨w.heap.size, 0, none⟩), .int .i64 2] W fun e w' => e = .returned (.int .i64 (15 - (k : Int))) ∧ Below W.heap.size W w') := fun W h => by
            have := live_turn 2 t (k + 1) (by omega) htl hk' h
            rw [show ((bl 2 - (k + 1) : Nat) : Int) = 15 - (k : Int) by show (((16 : Nat) - (k + 1) : Nat) : Int) = _; omega] at this
            exact this
          have hce : wr.cell? ⟨B, nx t k 16, none⟩ = some (.int .i64 (265216 + ((nx t k 16 : Nat) : Int) * 256)) := O6.out.acell _ hq
          generalize nx t k 16 = q at *
          have hqz : (q : Int) < 16 := by omega
          have htz : (t : Int) < 16 := by omega
          go_wp2_with (first
            | (go_at_call 12; refine FT.out.mono ?_; rintro e w7 ⟨rfl, hH3, hK3⟩; have H7 : Hid (HIn w7 w.heap.size g (freeU 2 16 t (k + 1))) := hH3; have O7 : Hid (OwnB 3 1 iL w2.heap.size (ads 2 16) (.slice (some ⟨B, 0, none⟩) 16 Cv) w7) := O6.out.kp hK3 GS.out; have N7 : Hid (Below w.heap.size w w7) := KB.out _ _ N6.out hK3; have T7 : Hid (Tab w7) := hK3.tab T6.out G0.out; clear hH3 hK3)
            | (go_at_call 16; refine (LT.out _ H7.out).mono ?_; rintro e w8 ⟨rfl, he⟩; have H8 : Hid (HIn w8 w.heap.size g (freeU 2 16 t (k + 1))) := H7.out.below he; have O8 : Hid (OwnB 3 1 iL w2.heap.size (ads 2 16) (.slice (some ⟨B, 0, none⟩) 16 Cv) w8) := O7.out.below he; have N8 : Hid (Below w.heap.size w w8) := below_next N7.out he; have T8 : Hid (Tab w8) := T7.out.below he T7.out.lt; clear he))
          go_roundw
          case rel => exact ⟨k + 1, by omega, rfl, H8.out, O8.out, N8.out, T8.out⟩
          case measure => simp [intOf]; omega
        · obtain rfl : k = 16 := by omega
          have LA : Hid (Calls Tryd.prog 10 #[.pointer (some ⟨w.heap.size, 0, none⟩), .int .i64 (m : Int)] wr fun e w' => e = .returned (.tuple #[.int .i64 265216, .int .i64 0]) ∧ Kp (Gs g) wr w') := alloc_last m 2 t CO.out htl H6.out T6.out
          go_wp2_with (go_at_call 10; refine LA.out.mono ?_; rintro e w7 ⟨rfl, hK3⟩; have O7 : Hid (OwnB 3 1 iL w2.heap.size (ads 2 16) (.slice (some ⟨B, 0, none⟩) 16 Cv) w7) := O6.out.kp hK3 GS.out; have N7 : Hid (Below w.heap.size w w7) := KB.out _ _ N6.out hK3; have hce : w7.cell? ⟨B, 0, none⟩ = some (.int .i64 265216) := O7.out.acell 0 (by omega); clear hK3)
          go_ret
          exact ⟨by simp, N7.out⟩
set_option maxHeartbeats 2000000 in
theorem fills3 (a b : Int) (m : Nat) (A : bits .and .i64 a 127 = (m : Int)) (hm : m ≤ 127) (hc : clsN m = 3) (w : World) (ht : Tab w) : Calls Tryd.prog 6 #[.int .i64 a, .int .i64 b] w fun e w' => e = .returned (.bool true) ∧ Below w.heap.size w w' := by
  have T : Hid (Tab w) := ht
  clear ht
  have CO : Hid (clsOf (m : Int) = some 3) := by have := clsOf_nat m (by omega); rw [hc] at this; exact this
  have CM : Hid (∀ w, Tab w → Calls Tryd.prog 14 #[.int .i64 (m : Int)] w fun e w' => e = .returned (.tuple #[.int .i64 3, .int .i64 128, .int .i64 8, .int .i64 0]) ∧ Below w.heap.size w w') := fun w ht => by
    have := class_n m (by omega) w ht
    rw [hc] at this
    exact this
  clear hc
  go_enter Tryd.func6, Tryd.ntmps6
  go_wp2_with (first
    | (go_at_call 8; refine (new_c _ T.out).mono ?_; rintro e w1 ⟨g, rfl, hw1, hH⟩; have N1 : Hid (Below w.heap.size w w1) := hw1; have H1 : Hid (HIn w1 w.heap.size g (fun _ _ => false)) := hH; have T1 : Hid (Tab w1) := T.out.below hw1 T.out.lt; clear hw1 hH)
    | (go_at_call 14; refine (CM.out _ T1.out).mono ?_; rintro e w2 ⟨rfl, hw2⟩; have N2 : Hid (Below w.heap.size w w2) := below_next N1.out hw2; have H2 : Hid (HIn w2 w.heap.size g (fun _ _ => false)) := H1.out.below hw2; have T2 : Hid (Tab w2) := T1.out.below hw2 T1.out.lt; clear hw2))
  have G3 : Hid (g 3 < w2.heap.size) := (H2.out.rows 3 (by omega)).lt
  have GS : Hid (∀ b, Gs g b → b < w2.heap.size) := fun b hb => by have := H2.out.gs b hb; have := G3.out; omega
  have G0 : Hid (¬ Gs g 0) := H2.out.no0
  have GW : Hid (∀ b, Gs g b → w.heap.size ≤ b) := fun b hb => Nat.le_of_lt (H2.out.gs b hb).1
  have KB : Hid (∀ wr w', Below w.heap.size w wr → Kp (Gs g) wr w' → Below w.heap.size w w') := fun wr w' h1 h2 => h1.trans (h2.below h1.size GW.out)
  go_loopw [10, 11] (fun v i wr => ∃ k : Nat, k ≤ 8 ∧ i = .int .i64 (k : Int) ∧ HIn wr w.heap.size g (fillU 3 k) ∧ OwnB 3 1 iL w2.heap.size (ads 3 k) v wr ∧ Below w.heap.size w wr ∧ Tab wr) (fun _ i _ => 8 - (intOf i).toNat)
  case atStart => exact ⟨0, by omega, rfl, by rw [fill_0]; exact H2.out, ⟨Nat.le_refl _, by simp [ads], Or.inl ⟨rfl, rfl⟩⟩, N2.out, T2.out⟩
  case round =>
    obtain ⟨k, hk, rfl, hH, hO, hN, hT⟩ := hrel
    have H : Hid (HIn wr w.heap.size g (fillU 3 k)) := hH
    have O : Hid (OwnB 3 1 iL w2.heap.size (ads 3 k) _ wr) := hO
    have NN : Hid (Below w.heap.size w wr) := hN
    have T3 : Hid (Tab wr) := hT
    obtain ⟨Av, Cv, hv, hsh⟩ := hO.shape
    rw [ads_len] at hv hsh
    subst hv
    clear hH hO hN hT
    rcases Nat.lt_or_ge k 8 with hk' | hk'
    · have hkz : (k : Int) < 8 := by omega
      have AL : Hid (Calls Tryd.prog 10 #[.pointer (some ⟨w.heap.size, 0, none⟩), .int .i64 (m : Int)] wr fun e w' => e = .returned (.tuple #[.int .i64 (269312 + (k : Int) * 512), .int .i64 0]) ∧ HIn w' w.heap.size g (fillU 3 (k + 1)) ∧ Kp (Gs g) wr w') := alloc_fill m 3 k CO.out hk' H.out T3.out
      have AP : Hid (∀ W v, OwnB 3 1 iL w2.heap.size (ads 3 k ++ [269312 + (k : Int) * 512]) v W → OwnB 3 1 iL w2.heap.size (ads 3 (k + 1)) v W) := fun W v h => by rw [← ads_step]; exact h
      have LL : Hid ((ads 3 k).length ≤ 1000) := (by rw [ads_len]; omega : (ads 3 k).length ≤ 1000)
      rcases Nat.eq_zero_or_pos k with h0 | h0
      · subst h0
        have AL : Hid (Calls Tryd.prog 10 #[.pointer (some ⟨w.heap.size, 0, none⟩), .int .i64 (m : Int)] wr fun e w' => e = .returned (.tuple #[.int .i64 269312, .int .i64 0]) ∧ HIn w' w.heap.size g (fillU 3 1) ∧ Kp (Gs g) wr w') := AL.out
        go_wp2_with (first
          | (go_at_call 10; refine AL.out.mono ?_; rintro e w3 ⟨rfl, hH3, hK3⟩; have H3 : Hid (HIn w3 w.heap.size g (fillU 3 1)) := hH3; have O3 : Hid (OwnB 3 1 iL w2.heap.size (ads 3 0) _ w3) := O.out.kp hK3 GS.out; have N3 : Hid (Below w.heap.size w w3) := KB.out _ _ NN.out hK3; have T4 : Hid (Tab w3) := hK3.tab T3.out G0.out; clear hH3 hK3)
          | (refine OwnB.appendL _ rfl _ _ rfl _ rfl 269312 (O3.out.below (below_alloc _ _)) ⟨w3.heap.size, 0, none⟩ 1 rfl (fun j u hj => cells_new _ (iL 269312) 3 j u hj) LL.out ?_; intro v5 w5 ho hb; have O5 : Hid (OwnB 3 1 iL w2.heap.size (ads 3 1) v5 w5) := AP.out _ _ ho; have H5 : Hid (HIn w5 w.heap.size g (fillU 3 1)) := (H3.out.below (below_alloc _ _)).base hb G3.out; have N5 : Hid (Below w.heap.size w w5) := (below_next N3.out (below_alloc _ _)).trans (hb.mono N2.out.size); have T5 : Hid (Tab w5) := (T4.out.below (below_alloc _ _) T4.out.lt).below hb (Nat.lt_of_le_of_lt (Nat.zero_le _) G3.out); clear ho hb))
        go_roundw
        case rel => exact ⟨1, by omega, rfl, H5.out, O5.out, N5.out, T5.out⟩
        case measure => simp [intOf]
      · obtain ⟨j, rfl⟩ : ∃ j, k = j + 1 := ⟨k - 1, by omega⟩
        obtain ⟨B, rfl, hB1, hB2, hB3⟩ := hsh h0
        clear hsh
        have hjz : ((j + 1 : Nat) : Int) = (j : Int) + 1 := rfl
        rw [hjz] at hkz
        have AL : Hid (Calls Tryd.prog 10 #[.pointer (some ⟨w.heap.size, 0, none⟩), .int .i64 (m : Int)] wr fun e w' => e = .returned (.tuple #[.int .i64 (269312 + ((j : Int) + 1) * 512), .int .i64 0]) ∧ HIn w' w.heap.size g (fillU 3 (j + 1 + 1)) ∧ Kp (Gs g) wr w') := AL.out
        have AP : Hid (∀ W v, OwnB 3 1 iL w2.heap.size (ads 3 (j + 1) ++ [269312 + ((j : Int) + 1) * 512]) v W → OwnB 3 1 iL w2.heap.size (ads 3 (j + 1 + 1)) v W) := AP.out
        rw [hjz]
        go_wp2_with (first
          | (go_at_call 10; refine AL.out.mono ?_; rintro e w3 ⟨rfl, hH3, hK3⟩; have H3 : Hid (HIn w3 w.heap.size g (fillU 3 (j + 1 + 1))) := hH3; have O3 : Hid (OwnB 3 1 iL w2.heap.size (ads 3 (j + 1)) _ w3) := O.out.kp hK3 GS.out; have N3 : Hid (Below w.heap.size w w3) := KB.out _ _ NN.out hK3; have T4 : Hid (Tab w3) := hK3.tab T3.out G0.out; have hce : w3.cell? ⟨B, j, none⟩ = some (.int .i64 (269312 + (j : Int) * 512)) := O3.out.acell j (by omega); clear hH3 hK3)
          | (refine OwnB.appendL _ rfl _ _ rfl _ rfl (269312 + ((j : Int) + 1) * 512) (O3.out.below (below_alloc _ _)) ⟨w3.heap.size, 0, none⟩ 1 rfl (fun j' u hj => cells_new _ (iL (269312 + ((j : Int) + 1) * 512)) 3 j' u hj) LL.out ?_; intro v5 w5 ho hb; have O5 : Hid (OwnB 3 1 iL w2.heap.size (ads 3 (j + 1 + 1)) v5 w5) := AP.out _ _ ho; have H5 : Hid (HIn w5 w.heap.size g (fillU 3 (j + 1 + 1))) := (H3.out.below (below_alloc _ _)).base hb G3.out; have N5 : Hid (Below w.heap.size w w5) := (below_next N3.out (below_alloc _ _)).trans (hb.mono N2.out.size); have T5 : Hid (Tab w5) := (T4.out.below (below_alloc _ _) T4.out.lt).below hb (Nat.lt_of_le_of_lt (Nat.zero_le _) G3.out); clear ho hb))
        go_roundw
        case rel => exact ⟨j + 1 + 1, by omega, rfl, H5.out, O5.out, N5.out, T5.out⟩
        case measure => simp [intOf]; omega
    · obtain rfl : k = 8 := by omega
      obtain ⟨B, rfl, hB1, hB2, hB3⟩ := hsh (by omega)
      clear hsh
      have AF : Hid (Calls Tryd.prog 10 #[.pointer (some ⟨w.heap.size, 0, none⟩), .int .i64 (m : Int)] wr fun e w' => e = .returned (.tuple #[.int .i64 0, .int .i64 12]) ∧ HIn w' w.heap.size g (fillU 3 8) ∧ Kp (Gs g) wr w') := alloc_full m 3 CO.out H.out T3.out
      have LF : Hid (∀ W, HIn W w.heap.size g (fillU 3 8) → Calls Tryd.prog 16 #[.pointer (some ⟨w.heap.size, 0, none⟩), .int .i64 3] W fun e w' => e = .returned (.int .i64 8) ∧ Below W.heap.size W w') := fun W h => live_fill 3 (by omega) h
      go_wp2_with (first
        | (go_at_call 10; refine AF.out.mono ?_; rintro e w3 ⟨rfl, hH3, hK3⟩; have H3 : Hid (HIn w3 w.heap.size g (fillU 3 8)) := hH3; have O3 : Hid (OwnB 3 1 iL w2.heap.size (ads 3 8) _ w3) := O.out.kp hK3 GS.out; have N3 : Hid (Below w.heap.size w w3) := KB.out _ _ NN.out hK3; have T4 : Hid (Tab w3) := hK3.tab T3.out G0.out; clear hH3 hK3)
        | (go_at_call 16; refine (LF.out _ H3.out).mono ?_; rintro e w4 ⟨rfl, he⟩; have H4 : Hid (HIn w4 w.heap.size g (fillU 3 8)) := H3.out.below he; have O4 : Hid (OwnB 3 1 iL w2.heap.size (ads 3 8) _ w4) := O3.out.below he; have N4 : Hid (Below w.heap.size w w4) := below_next N3.out he; have T5 : Hid (Tab w4) := T4.out.below he T4.out.lt; clear he))
      have TB : ∃ t : Nat, (wrap64 (b.tmod 8 + 8)).tmod 8 = (t : Int) ∧ t < 8 := by
        obtain ⟨t, h1, h2⟩ := turn_of b 8 (by omega) (by omega)
        exact ⟨t, h1, by omega⟩
      obtain ⟨t, ht, htl⟩ := TB
      rw [ht]
      clear ht
      go_loopw [16] (fun i wr => ∃ k : Nat, k ≤ 8 ∧ i = .int .i64 (k : Int) ∧ HIn wr w.heap.size g (freeU 3 8 t k) ∧ OwnB 3 1 iL w2.heap.size (ads 3 8) (.slice (some ⟨B, 0, none⟩) 8 Cv) wr ∧ Below w.heap.size w wr ∧ Tab wr) (fun i _ => 8 - (intOf i).toNat)
      case atStart => exact ⟨0, by omega, rfl, by rw [free_0]; exact H4.out, O4.out, N4.out, T5.out⟩
      case round =>
        obtain ⟨k, hk, rfl, hH, hO, hN, hT⟩ := hrel
        have H6 : Hid (HIn wr w.heap.size g (freeU 3 8 t k)) := hH
        have O6 : Hid (OwnB 3 1 iL w2.heap.size (ads 3 8) (.slice (some ⟨B, 0, none⟩) 8 Cv) wr) := hO
        have N6 : Hid (Below w.heap.size w wr) := hN
        have T6 : Hid (Tab wr) := hT
        clear hH hO hN hT
        rcases Nat.lt_or_ge k 8 with hk' | hk'
        · have hkz : (k : Int) < 8 := by omega
          have hq : nx t k 8 < 8 := nx_lt t k 8 htl hk'
          have hmod : ((t : Int) + (k : Int)).tmod 8 = ((nx t k 8 : Nat) : Int) := by
            rw [Int.tmod_eq_emod_of_nonneg (by omega)]
            unfold nx
            split <;> omega
          have FT : Hid (Calls Tryd.prog 12 #[.pointer (some ⟨w.heap.size, 0, none⟩), .int .i64 (269312 + ((nx t k 8 : Nat) : Int) * 512)] wr fun e w' => e = .returned (.int .i64 0) ∧ HIn w' w.heap.size g (freeU 3 8 t (k + 1)) ∧ Kp (Gs g) wr w') := free_turn 3 t k (by omega) htl hk' H6.out T6.out
          have LT : Hid (∀ W, HIn W w.heap.size g (freeU 3 8 t (k + 1)) → Calls Tryd.prog 16 #[.pointer (some ⟨w.heap.size, 0, none⟩), .int .i64 3] W fun e w' => e = .returned (.int .i64 (7 - (k : Int))) ∧ Below W.heap.size W w') := fun W h => by
            have := live_turn 3 t (k + 1) (by omega) htl hk' h
            rw [show ((bl 3 - (k + 1) : Nat) : Int) = 7 - (k : Int) by show (((8 : Nat) - (k + 1) : Nat) : Int) = _; omega] at this
            exact this
          have hce : wr.cell? ⟨B, nx t k 8, none⟩ = some (.int .i64 (269312 + ((nx t k 8 : Nat) : Int) * 512)) := O6.out.acell _ hq
          generalize nx t k 8 = q at *
          have hqz : (q : Int) < 8 := by omega
          have htz : (t : Int) < 8 := by omega
          go_wp2_with (first
            | (go_at_call 12; refine FT.out.mono ?_; rintro e w7 ⟨rfl, hH3, hK3⟩; have H7 : Hid (HIn w7 w.heap.size g (freeU 3 8 t (k + 1))) := hH3; have O7 : Hid (OwnB 3 1 iL w2.heap.size (ads 3 8) (.slice (some ⟨B, 0, none⟩) 8 Cv) w7) := O6.out.kp hK3 GS.out; have N7 : Hid (Below w.heap.size w w7) := KB.out _ _ N6.out hK3; have T7 : Hid (Tab w7) := hK3.tab T6.out G0.out; clear hH3 hK3)
            | (go_at_call 16; refine (LT.out _ H7.out).mono ?_; rintro e w8 ⟨rfl, he⟩; have H8 : Hid (HIn w8 w.heap.size g (freeU 3 8 t (k + 1))) := H7.out.below he; have O8 : Hid (OwnB 3 1 iL w2.heap.size (ads 3 8) (.slice (some ⟨B, 0, none⟩) 8 Cv) w8) := O7.out.below he; have N8 : Hid (Below w.heap.size w w8) := below_next N7.out he; have T8 : Hid (Tab w8) := T7.out.below he T7.out.lt; clear he))
          go_roundw
          case rel => exact ⟨k + 1, by omega, rfl, H8.out, O8.out, N8.out, T8.out⟩
          case measure => simp [intOf]; omega
        · obtain rfl : k = 8 := by omega
          have LA : Hid (Calls Tryd.prog 10 #[.pointer (some ⟨w.heap.size, 0, none⟩), .int .i64 (m : Int)] wr fun e w' => e = .returned (.tuple #[.int .i64 269312, .int .i64 0]) ∧ Kp (Gs g) wr w') := alloc_last m 3 t CO.out htl H6.out T6.out
          go_wp2_with (go_at_call 10; refine LA.out.mono ?_; rintro e w7 ⟨rfl, hK3⟩; have O7 : Hid (OwnB 3 1 iL w2.heap.size (ads 3 8) (.slice (some ⟨B, 0, none⟩) 8 Cv) w7) := O6.out.kp hK3 GS.out; have N7 : Hid (Below w.heap.size w w7) := KB.out _ _ N6.out hK3; have hce : w7.cell? ⟨B, 0, none⟩ = some (.int .i64 269312) := O7.out.acell 0 (by omega); clear hK3)
          go_ret
          exact ⟨by simp, N7.out⟩
theorem fills_walk (a b : Int) (w : World) (ht : Tab w) : Calls Tryd.prog 6 #[.int .i64 a, .int .i64 b] w fun e w' => e = .returned (.bool true) ∧ Below w.heap.size w w' := by
  obtain ⟨m, hm, hm'⟩ : ∃ m : Nat, a % 128 = (m : Int) ∧ m ≤ 127 := ⟨(a % 128).toNat, by omega, by omega⟩
  have A := and127 a
  rw [hm] at A
  have hc := clsN_lt m
  rcases (by omega : clsN m = 0 ∨ clsN m = 1 ∨ clsN m = 2 ∨ clsN m = 3) with h | h | h | h
  · exact fills0 a b m A hm' h w ht
  · exact fills1 a b m A hm' h w ht
  · exact fills2 a b m A hm' h w ht
  · exact fills3 a b m A hm' h w ht
end Go.Proofs.YtffcfohbnbldhaaDoor
