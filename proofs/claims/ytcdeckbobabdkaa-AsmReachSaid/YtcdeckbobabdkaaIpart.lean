/-
  Proved: what insn's part and register answer: so many bits of a word, from one on.
-/
import Derived.Test.YtcdeckbobabdkaaIbit
namespace Go.Proofs.Ytcdeckbobabdkaa
open Go.RowKit
set_option linter.unusedVariables false

theorem part_c (x : Int) (f b : Nat) (hf : f ≤ 31) (hb : b ≤ 31) (w : World) :
    Calls Try.prog 26 #[.int .u32 x, .int .u8 f, .int .u8 b] w fun e w' => e = .returned (.int .u32 (x / 2 ^ f % 2 ^ b)) ∧ w' = w := by
  have h : bits BinOp.and IntKind.u32 (x / 2 ^ f) ((2 ^ b - 1) % 4294967296) = x / 2 ^ f % 2 ^ b := by rw [pow_u32 b hb, and_u32 _ b hb]
  have H : Hid (bits BinOp.and IntKind.u32 (x / 2 ^ f) ((2 ^ b - 1) % 4294967296) = x / 2 ^ f % 2 ^ b) := h
  clear h
  go_enter Try.func26, Try.ntmps26
  go_wp2
  rw [H.out]
  go_ret
  exact ⟨rfl, rfl⟩

theorem register_no (x : Int) (f : Nat) (w : World) :
    Calls Try.prog 27 #[.bool false, .int .u32 x, .int .u8 f] w fun e w' => e = .returned (.int .i64 0) ∧ w' = w := by
  go_enter Try.func27, Try.ntmps27
  go_wp2
  go_ret
  exact ⟨rfl, rfl⟩

theorem register_yes (x : Int) (f : Nat) (hf : f ≤ 31) (w : World) :
    Calls Try.prog 27 #[.bool true, .int .u32 x, .int .u8 f] w fun e w' => e = .returned (.int .i64 (x / 2 ^ f % 32)) ∧ w' = w := by
  have h : 0 ≤ x / 2 ^ f % 32 ∧ x / 2 ^ f % 32 < 32 := ⟨Int.emod_nonneg _ (by decide), Int.emod_lt_of_pos _ (by decide)⟩
  go_enter Try.func27, Try.ntmps27
  go_wp2_with (go_at_call 26; refine (part_c _ _ 5 hf (by decide) _).mono ?_; rintro e w1 ⟨rfl, hw⟩; rw [hw]; clear hw w1)
  go_ret
  exact ⟨rfl, rfl⟩
end Go.Proofs.Ytcdeckbobabdkaa
