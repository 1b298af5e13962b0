/-
  Proved: LowFrames answers true.
-/
import Derived.Test.YtapgaclonilnbaaDoorLfl
import Derived.Test.YtapgaclonilnbaaDoorGv
namespace Go.Proofs.YtapgaclonilnbaaDoor
open Go.RowKit
set_option linter.unusedVariables false
set_option linter.unusedSimpArgs false

theorem frames_run (k j : Nat) (hk : k < 16) (hj : j < 32) : runE (framesF k (1 + j) (4 * j)) [] 10000 = ((1, 0), wantF k, 9 * k + 9) := by
  unfold runE runS
  rw [if_pos (frames_chk k j hk hj), frames_main k j hk hj]
  dsimp only
  rw [if_neg (by rintro (h | h) <;> exact h (by kernel_rfl))]
  exact frames_go k j hk hj

theorem PrI.ofOwn {base : Nat} {l : List Int} {v : Value} {w : World} (h : OwnB 3 1 noC base l v w) : PrI w l v := PrI.own h

/-- The noughts, then so many numbers. -/
def frW (k c : Nat) : List Int := List.replicate (k + 1) 0 ++ (List.range c).map (fun i : Nat => (i : Int) + 1)
theorem frW_zero (k : Nat) : frW k 0 = List.replicate (k + 1) 0 := by simp [frW]
theorem frW_succ (k c : Nat) : frW k c ++ [(c : Int) + 1] = frW k (c + 1) := by simp [frW, List.range_succ]
theorem frW_len (k c : Nat) : (frW k c).length = k + 1 + c := by simp [frW]
theorem frW_want (k : Nat) : frW k k ++ [(k : Int)] = wantF k := rfl
theorem want_len (k : Nat) : (wantF k).length = k + 1 + (k + 1) := by simp [wantF]

set_option maxRecDepth 20000 in
set_option maxHeartbeats 8000000 in
theorem lowFrames_walk (n m : Int) (w : World) (ht : Tab w) :
    Calls Tryd.prog 5 #[.int .i64 n, .int .i64 m] w fun e w' => e = .returned (.bool true) ∧ Below w.heap.size w w' := by
  obtain ⟨k, hk⟩ : ∃ k : Nat, (k : Int) = n % 16 := ⟨(n % 16).toNat, by omega⟩
  have mx : bits .and .i64 n 15 = (k : Int) := (and_mask n 4 (by decide)).trans hk.symm
  have hk4 : k < 16 := by omega
  clear hk
  obtain ⟨j, hj⟩ : ∃ j : Nat, (j : Int) = m % 32 := ⟨(m % 32).toNat, by omega⟩
  have my : bits .and .i64 m 31 = (j : Int) := (and_mask m 5 (by decide)).trans hj.symm
  have hj4 : j < 32 := by omega
  clear hj
  have b1 : IntKind.i64.wrap (1 + (j : Int)) = 1 + (j : Int) := by rw [IntKind.wrap_i64]; omega
  have b2 : IntKind.i64.wrap (1 + (j : Int) - 1) = (j : Int) := by rw [IntKind.wrap_i64]; omega
  have b3 : IntKind.i64.wrap (4 * (j : Int)) = 4 * (j : Int) := by rw [IntKind.wrap_i64]; omega
  obtain ⟨N, hN⟩ : ∃ N, N = (wantF k).length := ⟨_, rfl⟩
  have hN2 : N ≤ 40 := by rw [hN, want_len]; omega
  have HT : Hid (Tab w) := ht
  have HK : Hid (k < 16 ∧ j < 32) := ⟨hk4, hj4⟩
  have HN : Hid (N = (wantF k).length) := hN
  clear ht hj4 hN
  go_enter Tryd.func5, Tryd.ntmps5
  go_wp2
  show Code.wp _ _ _ _ (List.foldl World.alloc w (kfW w.heap.size k (1 + j) (4 * j)))
  generalize hw1 : List.foldl World.alloc w (kfW w.heap.size k (1 + j) (4 * j)) = w1
  have BW : Hid (Below w.heap.size w w1) := by rw [← hw1]; exact allocs_below _ _
  have BX : Hid (At w1 (w.heap.size + 1 + 1 + 1 + 1 + 1 + 1 + 1 + 1) (kf8 w.heap.size k (1 + j) (4 * j)) 38 ∧ At w1 (w.heap.size + 1 + 1 + 1 + 1 + 1 + 1 + 1 + 1 + 1 + 1 + 1 + 1 + 1) (kf13 w.heap.size k (1 + j) (4 * j)) 38) := ⟨allocs_in hw1.symm (Below.refl _ _) 8 rfl, allocs_in hw1.symm (Below.refl _ _) 13 rfl⟩
  have RL : Hid (∀ W, Below w1.heap.size w1 W → ∀ W2, W2 = W.alloc (Obj.cells (kfL w.heap.size k (1 + j) (4 * j)) 38) → Calls Tryd.prog 6 #[.slice (some ⟨W.heap.size, 0, none⟩) 2 2, .slice none 0 0, .int .i64 10000] W2 fun e w' =>
      ∃ A C, e = .returned (.tuple #[.agg #[.int .i64 1, .int .i64 0, .slice A N C], .int .i64 ((9 * k + 9 : Nat) : Int)]) ∧ Below W.heap.size W w' ∧ PrI w' (wantF k) (.slice A N C)) := fun W hW W2 e2 => by
    have h2 : Below W.heap.size W W2 := by rw [e2]; exact below_alloc _ _
    have hL : LfsIn W2 (framesF k (1 + j) (4 * j)) (.slice (some ⟨W.heap.size, 0, none⟩) 2 2) := by
      refine kf_in hw1.symm (below_next hW h2) ?_
      rw [e2]
      exact At.new _ _ _
    have hB : Below w.heap.size w W2 := below_next BW.out (below_next hW h2)
    have := prun_c (framesF k (1 + j) (4 * j)) (some ⟨W.heap.size, 0, none⟩) 2 [] (.slice none 0 0) 10000 (by omega) W2 (HT.out.below hB HT.out.lt) hL ⟨none, 0, rfl, by simp, by simp, fun i hi => absurd hi (by simp)⟩
    rw [frames_run k j HK.out.1 HK.out.2] at this
    refine this.mono ?_
    rintro e w' ⟨pv, rfl, hb2, ho⟩
    have hp := PrI.own ho
    obtain ⟨A, C, rfl, h4⟩ := hp
    have HN2 := HN.out
    dsimp only
    rw [← HN2]
    exact ⟨A, C, rfl, below_next h2 hb2, A, C, by rw [HN2], h4⟩
  clear hw1
  go_loopw [9, 10] (fun v i wr => ∃ c : Nat, c ≤ k + 1 ∧ i = .int .i64 (c : Int) ∧ OwnB 3 1 noC w1.heap.size (List.replicate c (0 : Int)) v wr ∧ Below w1.heap.size w1 wr) (fun _ i _ => k + 1 - (intOf i).toNat)
  case atStart => exact ⟨0, by omega, rfl, ⟨Nat.le_refl _, by simp, Or.inl ⟨rfl, rfl⟩⟩, Below.refl _ _⟩
  case round =>
    obtain ⟨c, hc, rfl, hown, hbl⟩ := hrel
    obtain ⟨Av, Cv, e0, -⟩ := OwnB.shape noC_len hown
    rw [List.length_replicate] at e0
    subst e0
    have zb : w1.heap.size ≤ wr.heap.size := hown.1
    have HO : Hid (OwnB 3 1 noC w1.heap.size (List.replicate c (0 : Int)) (.slice Av c Cv) wr) := hown
    have ON : Hid (∀ o, OwnB 3 1 noC w1.heap.size (List.replicate c (0 : Int)) (.slice Av c Cv) (wr.alloc o)) := fun o => hown.below (below_alloc _ _)
    have BL : Hid (Below w1.heap.size w1 wr) := hbl
    clear hown hbl
    rcases Nat.lt_or_ge k c with hlt | hge
    · have hz : ¬ (c : Int) ≤ (k : Int) := by omega
      obtain rfl : c = k + 1 := by omega
      go_wp2
      go_loopw [9, 11] (fun v i wr => ∃ c : Nat, c ≤ k ∧ i = .int .i64 ((c : Int) + 1) ∧ OwnB 3 1 noC w1.heap.size (frW k c) v wr ∧ Below w1.heap.size w1 wr) (fun _ i _ => k + 1 - (intOf i).toNat)
      case atStart => exact ⟨0, by omega, rfl, by rw [frW_zero]; exact HO.out, BL.out⟩
      case round =>
        clear ON HO BL zb hlt hz hc
        obtain ⟨c, hc, rfl, hown, hbl⟩ := hrel
        obtain ⟨Av, Cv, e0, -⟩ := OwnB.shape noC_len hown
        rw [frW_len] at e0
        subst e0
        have zb : w1.heap.size ≤ wr.heap.size := hown.1
        have ON : Hid (∀ o, OwnB 3 1 noC w1.heap.size (frW k c) (.slice Av (k + 1 + c) Cv) (wr.alloc o)) := fun o => hown.below (below_alloc _ _)
        have BL : Hid (Below w1.heap.size w1 wr) := hbl
        have ln : (frW k c).length ≤ 10000000 := by rw [frW_len]; omega
        clear hown hbl
        rcases Nat.lt_or_ge c k with hlt | hge
        · have hz : (c : Int) + 1 ≤ (k : Int) := by omega
          have wc : IntKind.i64.wrap ((c : Int) + 1 + 1) = ((c + 1 : Nat) : Int) + 1 := by rw [IntKind.wrap_i64]; omega
          go_wp2_with (at_builtin; refine PP.app _ rfl _ _ rfl _ rfl ((c : Int) + 1) (ON.out _) ⟨wr.heap.size, 0, none⟩ 1 rfl (fun j u hj => cells_new _ (noC ((c : Int) + 1)) 3 j u hj) ln ?_; intro v5 w5 ho hb hk5 hv5; rw [frW_succ] at ho; have M5 : Hid (OwnB 3 1 noC w1.heap.size (frW k (c + 1)) v5 w5 ∧ Below w1.heap.size w1 w5) := ⟨ho, (BL.out.trans ((below_alloc wr _).mono zb)).trans hb⟩; clear ho hb hk5 hv5)
          go_roundw
          case rel => exact ⟨c + 1, by omega, by go_num, M5.out.1, M5.out.2⟩
          case measure => simp [intOf]; omega
        · have hz : ¬ (c : Int) + 1 ≤ (k : Int) := by omega
          obtain rfl : c = k := by omega
          have hnl : (wantF c).length ≤ 9223372036854775806 := by rw [want_len]; omega
          go_wp2_with (first
            | (at_builtin; refine PP.app _ rfl _ _ rfl _ rfl (c : Int) (ON.out _) ⟨wr.heap.size, 0, none⟩ 1 rfl (fun j u hj => cells_new _ (noC (c : Int)) 3 j u hj) ln ?_; intro v5 w5 ho hb hk5 hv5; rw [frW_want] at ho; obtain ⟨A5, C5, e5, -⟩ := OwnB.shape noC_len ho; rw [← HN.out] at e5; subst e5; have b5 := (BL.out.trans ((below_alloc wr (Obj.cells #[.int .i64 (c : Int)] 3)).mono zb)).trans hb; have M5 : Hid (PrI w5 (wantF c) (.slice A5 N C5) ∧ Below w1.heap.size w1 w5) := ⟨PrI.own ho, b5⟩; have a8 := BX.out.1.below b5 BX.out.1.lt; have a13 := BX.out.2.below b5 BX.out.2.lt; have g0 : w5.cell? ⟨w.heap.size + 1 + 1 + 1 + 1 + 1 + 1 + 1 + 1, 0, none⟩ = some (.string tG) := (by rw [a8.cell]; rfl); have g1 : w5.cell? ⟨w.heap.size + 1 + 1 + 1 + 1 + 1 + 1 + 1 + 1, 1, none⟩ = some (.int .i64 3) := (by rw [a8.cell]; rfl); have g2 : w5.cell? ⟨w.heap.size + 1 + 1 + 1 + 1 + 1 + 1 + 1 + 1, 2, none⟩ = some (.slice (some ⟨w.heap.size, 0, none⟩) 1 1) := (by rw [a8.cell]; rfl); have g3 : w5.cell? ⟨w.heap.size + 1 + 1 + 1 + 1 + 1 + 1 + 1 + 1, 3, none⟩ = some (.int .i64 1) := (by rw [a8.cell]; rfl); have g4 : w5.cell? ⟨w.heap.size + 1 + 1 + 1 + 1 + 1 + 1 + 1 + 1, 4, none⟩ = some (.int .i64 (1 + j)) := (by rw [a8.cell]; rfl); have g5 : w5.cell? ⟨w.heap.size + 1 + 1 + 1 + 1 + 1 + 1 + 1 + 1, 5, none⟩ = some (.bool false) := (by rw [a8.cell]; rfl); have g6 : w5.cell? ⟨w.heap.size + 1 + 1 + 1 + 1 + 1 + 1 + 1 + 1, 6, none⟩ = some (.slice (some ⟨w.heap.size + 1 + 1 + 1 + 1 + 1 + 1 + 1, 0, none⟩) 3 3) := (by rw [a8.cell]; rfl); have m0 : w5.cell? ⟨w.heap.size + 1 + 1 + 1 + 1 + 1 + 1 + 1 + 1 + 1 + 1 + 1 + 1 + 1, 0, none⟩ = some (.string tMain) := (by rw [a13.cell]; rfl); have m1 : w5.cell? ⟨w.heap.size + 1 + 1 + 1 + 1 + 1 + 1 + 1 + 1 + 1 + 1 + 1 + 1 + 1, 1, none⟩ = some (.int .i64 1) := (by rw [a13.cell]; rfl); have m2 : w5.cell? ⟨w.heap.size + 1 + 1 + 1 + 1 + 1 + 1 + 1 + 1 + 1 + 1 + 1 + 1 + 1, 2, none⟩ = some (.slice none 0 0) := (by rw [a13.cell]; rfl); have m3 : w5.cell? ⟨w.heap.size + 1 + 1 + 1 + 1 + 1 + 1 + 1 + 1 + 1 + 1 + 1 + 1 + 1, 3, none⟩ = some (.int .i64 0) := (by rw [a13.cell]; rfl); have m4 : w5.cell? ⟨w.heap.size + 1 + 1 + 1 + 1 + 1 + 1 + 1 + 1 + 1 + 1 + 1 + 1 + 1, 4, none⟩ = some (.int .i64 0) := (by rw [a13.cell]; rfl); have m5 : w5.cell? ⟨w.heap.size + 1 + 1 + 1 + 1 + 1 + 1 + 1 + 1 + 1 + 1 + 1 + 1 + 1, 5, none⟩ = some (.bool false) := (by rw [a13.cell]; rfl); have m6 : w5.cell? ⟨w.heap.size + 1 + 1 + 1 + 1 + 1 + 1 + 1 + 1 + 1 + 1 + 1 + 1 + 1, 6, none⟩ = some (.slice (some ⟨w.heap.size + 1 + 1 + 1 + 1 + 1 + 1 + 1 + 1 + 1 + 1 + 1 + 1, 0, none⟩) 1 1) := (by rw [a13.cell]; rfl); clear ho hb hk5 hv5 a8 a13 b5 ON)
            | (go_at_call 6; refine (RL.out w5 M5.out.2 _ rfl).mono ?_; rintro e w6 ⟨A6, C6, rfl, hb6, hp6⟩; have X6 : Hid (Below w.heap.size w w6 ∧ PrI w6 (wantF c) (.slice A6 N C6) ∧ PrI w6 (wantF c) (.slice A5 N C5)) := ⟨below_next (below_next BW.out M5.out.2) hb6, hp6, M5.out.1.below hb6⟩; clear hb6 hp6 RL)
            | (go_at_call 7; refine (same_c 1 0 1 0 (wantF c) (wantF c) _ _ _ (X6.out.2.1.below (below_alloc _ _)) (X6.out.2.2.below (below_alloc _ _)) hnl).mono ?_; rintro e w7 ⟨rfl, hb7⟩; have X7 : Hid (Below w.heap.size w w7) := below_next (below_next X6.out.1 (below_alloc _ _)) hb7; clear hb7))
          go_ret
          exact ⟨by simp, X7.out⟩
    · have hz : (c : Int) ≤ (k : Int) := by omega
      have wc : IntKind.i64.wrap ((c : Int) + 1) = ((c + 1 : Nat) : Int) := by rw [IntKind.wrap_i64]; omega
      go_wp2_with (at_builtin; refine PP.app _ rfl _ _ rfl _ rfl 0 (ON.out _) ⟨wr.heap.size, 0, none⟩ 1 rfl (fun j u hj => cells_new _ (noC 0) 3 j u hj) (by simp; omega) ?_; intro v5 w5 ho hb hk5 hv5; have M5 : Hid (OwnB 3 1 noC w1.heap.size (List.replicate (c + 1) (0 : Int)) v5 w5 ∧ Below w1.heap.size w1 w5) := ⟨(by rw [List.replicate_succ']; exact ho), (BL.out.trans ((below_alloc wr _).mono zb)).trans hb⟩; clear ho hb hk5 hv5)
      go_roundw
      case rel => exact ⟨c + 1, by omega, by go_num, M5.out.1, M5.out.2⟩
      case measure => simp [intOf]; omega
end Go.Proofs.YtapgaclonilnbaaDoor
