/-
  Proved: AsmEdge answers true, whatever the number and the side.
-/
import Derived.Test.YtcdeckbobabdkaaLedgep
namespace Go.Proofs.Ytcdeckbobabdkaa
open Go.RowKit
set_option linter.unusedVariables false
set_option linter.unusedSimpArgs false
set_option maxRecDepth 20000

theorem ed_F (n : Int) (h0 : 1000 ≤ n) (h1 : n ≤ 1063) (v : Value) (w : World) (h : LsIn w (edF n) v) : Calls Try.prog 7 #[v] w fun e w' => ∃ A C, ∃ m : Nat, (m : Int) = (if 1022 < n then n + 2 else n + 1) ∧ e = .returned (.tuple #[.slice A m C, .int .i64 0]) ∧ Below w.heap.size w w' := by
  obtain ⟨hF, hl⟩ := edF_fine n h0 h1 _ rfl
  refine (assemble_ok hF v w h (by simp [edF]) (fun y hy => ?_)).mono fun e w' ⟨A, C, h1, _, h2⟩ => ⟨A, C, _, hl, h1, h2⟩
  simp [edF] at hy
  rcases hy with rfl | rfl | rfl <;> exact ⟨by simp [brE, pdE, lbE, maxLen, ByteArray.size], by simp [brE, pdE, lbE, maxLen, ByteArray.size]⟩
theorem ed_B (n : Int) (h0 : 1000 ≤ n) (h1 : n ≤ 1063) (v : Value) (w : World) (h : LsIn w (edB n) v) : Calls Try.prog 7 #[v] w fun e w' => ∃ A C, ∃ m : Nat, (m : Int) = (if 1024 < n then n + 2 else n + 1) ∧ e = .returned (.tuple #[.slice A m C, .int .i64 0]) ∧ Below w.heap.size w w' := by
  obtain ⟨hF, hl⟩ := edB_fine n h0 h1 _ rfl
  refine (assemble_ok hF v w h (by simp [edB]) (fun y hy => ?_)).mono fun e w' ⟨A, C, h1, _, h2⟩ => ⟨A, C, _, hl, h1, h2⟩
  simp [edB] at hy
  rcases hy with rfl | rfl | rfl <;> exact ⟨by simp [brE, pdE, lbE, maxLen, ByteArray.size], by simp [brE, pdE, lbE, maxLen, ByteArray.size]⟩

set_option maxHeartbeats 2000000 in
theorem asmEdge_walk (a : Int) (b : Bool) (w : World) : Calls Try.prog 4 #[.int .i64 a, .bool b] w fun e w' => e = .returned (.bool true) ∧ Below w.heap.size w w' := by
  have hm : bits .and .i64 a 63 = a % 64 := and_mask a 6 (by decide)
  have g0 : 0 ≤ a % 64 := by omega
  have g1 : a % 64 < 64 := by omega
  generalize a % 64 = m at *
  obtain ⟨n, hn⟩ : ∃ n, 1000 + m = n := ⟨_, rfl⟩
  have h0 : 1000 ≤ n := by omega
  have h1 : n ≤ 1063 := by omega
  have wz : IntKind.i64.wrap (1000 + m) = n := by rw [hn]; exact wrap_in _ (by omega)
  have wz1 : IntKind.i64.wrap (n + 1) = n + 1 := wrap_in _ (by omega)
  have wz2 : IntKind.i64.wrap (n + 1 + 1) = n + 1 + 1 := wrap_in _ (by omega)
  have HN : Hid (1000 ≤ n ∧ n ≤ 1063) := ⟨h0, h1⟩
  have FC : Hid (∀ (W : World) (g : Nat), W.heap.size = g → Calls Try.prog 7 #[.slice (some ⟨g, 0, none⟩) 3 3] (W.alloc (.cells #[.int .i64 3, .string ⟨#[98, 108, 116, 117]⟩, .int .i64 0, .int .i64 3, .int .i64 4, .int .i64 0, .string ⟨#[120]⟩, .int .i64 0, .int .i64 5, .string ⟨#[]⟩, .int .i64 0, .int .i64 0, .int .i64 0, .int .i64 0, .string ⟨#[]⟩, .int .i64 n, .int .i64 2, .string ⟨#[]⟩, .int .i64 0, .int .i64 0, .int .i64 0, .int .i64 0, .string ⟨#[120]⟩, .int .i64 0] 30)) fun e w' => ∃ A C, ∃ m : Nat, (m : Int) = (if 1022 < n then n + 2 else n + 1) ∧ e = .returned (.tuple #[.slice A m C, .int .i64 0]) ∧ Below (W.alloc (.cells #[.int .i64 3, .string ⟨#[98, 108, 116, 117]⟩, .int .i64 0, .int .i64 3, .int .i64 4, .int .i64 0, .string ⟨#[120]⟩, .int .i64 0, .int .i64 5, .string ⟨#[]⟩, .int .i64 0, .int .i64 0, .int .i64 0, .int .i64 0, .string ⟨#[]⟩, .int .i64 n, .int .i64 2, .string ⟨#[]⟩, .int .i64 0, .int .i64 0, .int .i64 0, .int .i64 0, .string ⟨#[120]⟩, .int .i64 0] 30)).heap.size (W.alloc (.cells #[.int .i64 3, .string ⟨#[98, 108, 116, 117]⟩, .int .i64 0, .int .i64 3, .int .i64 4, .int .i64 0, .string ⟨#[120]⟩, .int .i64 0, .int .i64 5, .string ⟨#[]⟩, .int .i64 0, .int .i64 0, .int .i64 0, .int .i64 0, .string ⟨#[]⟩, .int .i64 n, .int .i64 2, .string ⟨#[]⟩, .int .i64 0, .int .i64 0, .int .i64 0, .int .i64 0, .string ⟨#[120]⟩, .int .i64 0] 30)) w') := fun W g hg => ed_F n HN.out.1 HN.out.2 _ _ (ls_at (l := edF n) (C := 3) (At.newS W #[.int .i64 3, .string ⟨#[98, 108, 116, 117]⟩, .int .i64 0, .int .i64 3, .int .i64 4, .int .i64 0, .string ⟨#[120]⟩, .int .i64 0, .int .i64 5, .string ⟨#[]⟩, .int .i64 0, .int .i64 0, .int .i64 0, .int .i64 0, .string ⟨#[]⟩, .int .i64 n, .int .i64 2, .string ⟨#[]⟩, .int .i64 0, .int .i64 0, .int .i64 0, .int .i64 0, .string ⟨#[120]⟩, .int .i64 0] 30 hg))
  have BC : Hid (∀ (W : World) (g : Nat), W.heap.size = g → Calls Try.prog 7 #[.slice (some ⟨g, 0, none⟩) 3 3] (W.alloc (.cells #[.int .i64 2, .string ⟨#[]⟩, .int .i64 0, .int .i64 0, .int .i64 0, .int .i64 0, .string ⟨#[120]⟩, .int .i64 0, .int .i64 5, .string ⟨#[]⟩, .int .i64 0, .int .i64 0, .int .i64 0, .int .i64 0, .string ⟨#[]⟩, .int .i64 n, .int .i64 3, .string ⟨#[98, 108, 116, 117]⟩, .int .i64 0, .int .i64 3, .int .i64 4, .int .i64 0, .string ⟨#[120]⟩, .int .i64 0] 30)) fun e w' => ∃ A C, ∃ m : Nat, (m : Int) = (if 1024 < n then n + 2 else n + 1) ∧ e = .returned (.tuple #[.slice A m C, .int .i64 0]) ∧ Below (W.alloc (.cells #[.int .i64 2, .string ⟨#[]⟩, .int .i64 0, .int .i64 0, .int .i64 0, .int .i64 0, .string ⟨#[120]⟩, .int .i64 0, .int .i64 5, .string ⟨#[]⟩, .int .i64 0, .int .i64 0, .int .i64 0, .int .i64 0, .string ⟨#[]⟩, .int .i64 n, .int .i64 3, .string ⟨#[98, 108, 116, 117]⟩, .int .i64 0, .int .i64 3, .int .i64 4, .int .i64 0, .string ⟨#[120]⟩, .int .i64 0] 30)).heap.size (W.alloc (.cells #[.int .i64 2, .string ⟨#[]⟩, .int .i64 0, .int .i64 0, .int .i64 0, .int .i64 0, .string ⟨#[120]⟩, .int .i64 0, .int .i64 5, .string ⟨#[]⟩, .int .i64 0, .int .i64 0, .int .i64 0, .int .i64 0, .string ⟨#[]⟩, .int .i64 n, .int .i64 3, .string ⟨#[98, 108, 116, 117]⟩, .int .i64 0, .int .i64 3, .int .i64 4, .int .i64 0, .string ⟨#[120]⟩, .int .i64 0] 30)) w') := fun W g hg => ed_B n HN.out.1 HN.out.2 _ _ (ls_at (l := edB n) (C := 3) (At.newS W #[.int .i64 2, .string ⟨#[]⟩, .int .i64 0, .int .i64 0, .int .i64 0, .int .i64 0, .string ⟨#[120]⟩, .int .i64 0, .int .i64 5, .string ⟨#[]⟩, .int .i64 0, .int .i64 0, .int .i64 0, .int .i64 0, .string ⟨#[]⟩, .int .i64 n, .int .i64 3, .string ⟨#[98, 108, 116, 117]⟩, .int .i64 0, .int .i64 3, .int .i64 4, .int .i64 0, .string ⟨#[120]⟩, .int .i64 0] 30 hg))
  clear hn
  go_enter Try.func4, Try.ntmps4
  have A4 : ∀ p q r s : Obj, Below w.heap.size w ((((w.alloc p).alloc q).alloc r).alloc s) := fun p q r s => below_next (below_next (below_next (below_alloc _ _) (below_alloc _ _)) (below_alloc _ _)) (below_alloc _ _)
  have AF : Hid (∀ p q r s : Obj, Below w.heap.size w ((((w.alloc p).alloc q).alloc r).alloc s)) := A4
  have AB : Hid (∀ p q r s t : Obj, Below w.heap.size w (((((w.alloc p).alloc q).alloc r).alloc s).alloc t)) := fun p q r s t => below_next (A4 p q r s) (below_alloc _ _)
  clear A4
  cases b with
  | true =>
    by_cases e : 1024 < n
    · have EQ : Hid ((if 1024 < n then n + 2 else n + 1) = n + 2) := (show _ = _ by rw [if_pos e])
      go_wp2_with (go_at_call 7; refine (BC.out _ _ (by simp)).mono ?_; rintro e w5 ⟨A, C, m5, hm5, rfl, hb⟩; rw [EQ.out] at hm5; have B5 : Hid (Below w.heap.size w w5) := (AB.out _ _ _ _ _).trans (hb.mono (AB.out _ _ _ _ _).size); clear hb)
      go_ret
      exact ⟨by simp [hm5]; omega, B5.out⟩
    · have EQ : Hid ((if 1024 < n then n + 2 else n + 1) = n + 1) := (show _ = _ by rw [if_neg e])
      go_wp2_with (go_at_call 7; refine (BC.out _ _ (by simp)).mono ?_; rintro e w5 ⟨A, C, m5, hm5, rfl, hb⟩; rw [EQ.out] at hm5; have B5 : Hid (Below w.heap.size w w5) := (AB.out _ _ _ _ _).trans (hb.mono (AB.out _ _ _ _ _).size); clear hb)
      go_ret
      exact ⟨by simp [hm5], B5.out⟩
  | false =>
    by_cases e : 1022 < n
    · have EQ : Hid ((if 1022 < n then n + 2 else n + 1) = n + 2) := (show _ = _ by rw [if_pos e])
      go_wp2_with (go_at_call 7; refine (FC.out _ _ (by simp)).mono ?_; rintro e w5 ⟨A, C, m5, hm5, rfl, hb⟩; rw [EQ.out] at hm5; have B5 : Hid (Below w.heap.size w w5) := (AF.out _ _ _ _).trans (hb.mono (AF.out _ _ _ _).size); clear hb)
      go_ret
      exact ⟨by simp [hm5]; omega, B5.out⟩
    · have EQ : Hid ((if 1022 < n then n + 2 else n + 1) = n + 1) := (show _ = _ by rw [if_neg e])
      go_wp2_with (go_at_call 7; refine (FC.out _ _ (by simp)).mono ?_; rintro e w5 ⟨A, C, m5, hm5, rfl, hb⟩; rw [EQ.out] at hm5; have B5 : Hid (Below w.heap.size w w5) := (AF.out _ _ _ _).trans (hb.mono (AF.out _ _ _ _).size); clear hb)
      go_ret
      exact ⟨by simp [hm5], B5.out⟩
end Go.Proofs.Ytcdeckbobabdkaa
