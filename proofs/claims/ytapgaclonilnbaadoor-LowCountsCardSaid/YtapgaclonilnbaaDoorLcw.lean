/-
  Proved: LowCounts answers true.
-/
import Derived.Test.YtapgaclonilnbaaDoorLcl
import Derived.Test.YtapgaclonilnbaaDoorGv
namespace Go.Proofs.YtapgaclonilnbaaDoor
open Go.RowKit
set_option linter.unusedVariables false
set_option linter.unusedSimpArgs false

abbrev cFV (w : World) : Value := .slice (some ⟨w.heap.size + 1 + 1 + 1 + 1 + 1 + 1 + 1 + 1 + 1 + 1 + 1 + 1 + 1 + 1 + 1, 0, none⟩) 2 2

theorem pri_two (w : World) (x y : Int) : PrI (w.alloc (.cells #[.int .i64 x, .int .i64 y] 3)) [x, y] (.slice (some ⟨w.heap.size, 0, none⟩) 2 2) := by
  have a := At.new w #[.int .i64 x, .int .i64 y] 3
  refine ⟨_, _, rfl, fun i hi => ⟨_, 0, rfl, a.lt, ?_⟩⟩
  have hi : i < 2 := hi
  rw [a.cell]
  rcases i with _ | _ | i
  · rfl
  · rfl
  · omega

theorem sum_ok (k : Nat) (m : Int) (hk : k ≤ 31) : wd (wrap64 (wd m + wrap64 ((wrap64 ((k : Int) * ((k : Int) + 1))).tdiv 2))) = wd (m + ((k * (k + 1) / 2 : Nat) : Int)) := by
  have hq : k * (k + 1) ≤ 992 := Nat.mul_le_mul hk (by omega : k + 1 ≤ 32)
  have e1 : (k : Int) * ((k : Int) + 1) = ((k * (k + 1) : Nat) : Int) := by simp
  rw [e1]
  generalize k * (k + 1) = q at *
  have w1 := wd_in m
  have e2 : wrap64 (q : Int) = (q : Int) := by unfold wrap64; omega
  have e3 : (q : Int).tdiv 2 = ((q / 2 : Nat) : Int) := by rw [Int.tdiv_eq_ediv_of_nonneg (by omega)]; omega
  have e4 : wrap64 ((q / 2 : Nat) : Int) = ((q / 2 : Nat) : Int) := by unfold wrap64; omega
  have e5 : wrap64 (wd m + ((q / 2 : Nat) : Int)) = wd m + ((q / 2 : Nat) : Int) := by unfold wrap64; omega
  rw [e2, e3, e4, e5, wd_wd]

theorem counts_run (k : Nat) (hk : k ≤ 31) (m : Int) : runE (countsF k m) [] 10000 = ((1, 0), [wd (m + ((k * (k + 1) / 2 : Nat) : Int)), wd (m + ((k * (k + 1) / 2 : Nat) : Int))], 11 * k + 15) := by
  unfold runE runS
  rw [if_pos (counts_chk _ _), counts_main]
  dsimp only
  rw [if_neg (by rintro (h | h) <;> exact h (by kernel_rfl))]
  exact counts_go k hk m

set_option maxRecDepth 20000 in
set_option maxHeartbeats 8000000 in
theorem lowCounts_walk (n m : Int) (w : World) (ht : Tab w) :
    Calls Tryd.prog 4 #[.int .i64 n, .int .i64 m] w fun e w' => e = .returned (.bool true) ∧ Below w.heap.size w w' := by
  obtain ⟨k, hk⟩ : ∃ k : Nat, (k : Int) = n % 32 := ⟨(n % 32).toNat, by omega⟩
  have mx : bits .and .i64 n 31 = (k : Int) := (and_mask n 5 (by decide)).trans hk.symm
  have hk4 : k ≤ 31 := by omega
  clear hk
  obtain ⟨s, hs⟩ : ∃ s, s = wd (m + ((k * (k + 1) / 2 : Nat) : Int)) := ⟨_, rfl⟩
  have a1 : IntKind.i64.wrap ((k : Int) + 1) = (k : Int) + 1 := by rw [IntKind.wrap_i64]; omega
  have a3 : wd (wrap64 (wd m + wrap64 ((wrap64 ((k : Int) * ((k : Int) + 1))).tdiv 2))) = s := (sum_ok k m hk4).trans hs.symm
  have RL : Hid (∀ W, W = (kcW w.heap.size k m ++ [Obj.cells (kcL w.heap.size k m) 38]).foldl World.alloc w →
      Calls Tryd.prog 6 #[cFV w, .slice none 0 0, .int .i64 10000] W fun e w' => ∃ A C, e = .returned (.tuple #[.agg #[.int .i64 1, .int .i64 0, .slice A 2 C], .int .i64 ((11 * k + 15 : Nat) : Int)]) ∧ Below w.heap.size w w' ∧ LfsIn w' (countsF k m) (cFV w) ∧ PrI w' [s, s] (.slice A 2 C)) := fun W hW => by
    have hW2 : W = ((kcW w.heap.size k m).foldl World.alloc w).alloc (Obj.cells (kcL w.heap.size k m) 38) := by rw [hW, List.foldl_append]; rfl
    have hB : Below w.heap.size w W := by rw [hW]; exact allocs_below _ _
    have hL : LfsIn W (countsF k m) (cFV w) := by
      refine kc_in rfl (by rw [hW2]; exact below_alloc _ _) ?_
      have := allocs_at (kcW w.heap.size k m ++ [Obj.cells (kcL w.heap.size k m) 38]) w 15 (cs := kcL w.heap.size k m) (t := 38) rfl
      rw [← hW] at this
      exact this
    have := prun_c (countsF k m) (some ⟨w.heap.size + 1 + 1 + 1 + 1 + 1 + 1 + 1 + 1 + 1 + 1 + 1 + 1 + 1 + 1 + 1, 0, none⟩) 2 [] (.slice none 0 0) 10000 (by omega) W (ht.below hB ht.lt) hL ⟨none, 0, rfl, by simp, by simp, fun i hi => absurd hi (by simp)⟩
    rw [counts_run k hk4 m, ← hs] at this
    refine this.mono ?_
    rintro e w' ⟨pv, rfl, hb2, ho⟩
    have hp := PrI.own ho
    obtain ⟨A, C, rfl, h4⟩ := hp
    exact ⟨A, C, rfl, below_next hB hb2, hL.below hb2, A, C, rfl, h4⟩
  have CK : Hid (∀ W, LfsIn W (countsF k m) (cFV w) → Calls Tryd.prog 8 #[cFV w] W fun e w' => e = .returned (.int .i64 0) ∧ Below W.heap.size W w') := fun W hL => by
    have := check_c (countsF k m) (some ⟨w.heap.size + 1 + 1 + 1 + 1 + 1 + 1 + 1 + 1 + 1 + 1 + 1 + 1 + 1 + 1 + 1, 0, none⟩) 2 W hL
    unfold chkE at this
    rw [if_pos (counts_chk _ _)] at this
    exact this
  clear ht hs hk4
  go_enter Tryd.func4, Tryd.ntmps4
  go_wp2_with (first
    | (go_at_call 9; refine (word_c _ _).mono ?_; rintro e w2 ⟨rfl, rfl⟩)
    | (go_at_call 6; refine (RL.out _ rfl).mono ?_; rintro e w2 ⟨A1, C1, rfl, hb2, hl2, hp2⟩; have X2 : Hid (Below w.heap.size w w2 ∧ LfsIn w2 (countsF k m) (cFV w) ∧ PrI w2 [s, s] (.slice A1 2 C1)) := ⟨hb2, hl2, hp2⟩; clear hb2 hl2 hp2 RL)
    | (go_at_call 8; refine (CK.out _ (X2.out.2.1.below (below_alloc _ _))).mono ?_; rintro e w3 ⟨rfl, hb3⟩; have a4 := (At.new w2 #[.int .i64 1, .int .i64 0, .slice A1 2 C1] 26).below hb3 (At.new w2 #[.int .i64 1, .int .i64 0, .slice A1 2 C1] 26).lt; have d0 : w3.cell? ⟨w2.heap.size, 0, none⟩ = some (.int .i64 1) := (by rw [a4.cell]; rfl); have d1 : w3.cell? ⟨w2.heap.size, 1, none⟩ = some (.int .i64 0) := (by rw [a4.cell]; rfl); have d2 : w3.cell? ⟨w2.heap.size, 2, none⟩ = some (.slice A1 2 C1) := (by rw [a4.cell]; rfl); have X3 : Hid (Below w.heap.size w w3 ∧ PrI w3 [s, s] (.slice A1 2 C1)) := ⟨below_next (below_next X2.out.1 (below_alloc _ _)) hb3, (X2.out.2.2.below (below_alloc _ _)).below hb3⟩; clear hb3 a4 CK)
    | (go_at_call 7; refine (same_c 1 0 1 0 [s, s] [s, s] _ _ _ (X3.out.2.below (below_alloc _ _)) (pri_two w3 s s) (by simp)).mono ?_; rintro e w4 ⟨rfl, hb4⟩; have X4 : Hid (Below w.heap.size w w4) := below_next (below_next X3.out.1 (below_alloc _ _)) hb4; clear hb4))
  go_ret
  exact ⟨by simp, X4.out⟩
end Go.Proofs.YtapgaclonilnbaaDoor
