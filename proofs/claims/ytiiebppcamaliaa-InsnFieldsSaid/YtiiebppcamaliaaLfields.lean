/-
  Proved: the law InsnFields answers true.
-/
import Derived.Test.YtiiebppcamaliaaLfa
import Derived.Test.YtiiebppcamaliaaLfb
namespace Go.Proofs.Ytiiebppcamaliaa
open Go.RowKit
set_option linter.unusedVariables false
set_option linter.unusedSimpArgs false

theorem isS {s : List UInt8} {r : Rw} (hr : rowOf s = some r) (i : Ins) : (encF s i).isSome = takB r i := by
  unfold encF
  rw [hr]
  cases h : takB r i <;> simp [h]

theorem row_0 : rowOf [108, 117, 105] = some ⟨0, 55, 0, 0⟩ := by kernel_rfl
theorem h1_0 (n : Int) : (encF [108, 117, 105] ⟨0, 0, 0, n⟩).isSome = (decide (0 ≤ n) && (decide (n ≤ 1048575) && true)) := by
  rw [isS row_0, Bool.eq_iff_iff]
  simp [takB, takI, pfm, fdat, fdU, regB, immB, tmod_one]
theorem h2_0 (reg : Int) : (encF [108, 117, 105] ⟨reg, 0, 0, 1048575⟩).isSome = (decide (reg = 0) || (decide (0 < reg) && (decide (reg < 32) && true))) := by
  rw [isS row_0, Bool.eq_iff_iff]
  simp [takB, takI, pfm, fdat, fdU, regB, immB, tmod_one] <;> omega
theorem h3_0 (reg : Int) : (encF [108, 117, 105] ⟨0, 0, reg, 1048575⟩).isSome = (decide (reg = 0) || (decide (0 < reg) && (decide (reg < 32) && false))) := by
  rw [isS row_0, Bool.eq_iff_iff]
  simp [takB, takI, pfm, fdat, fdU, regB, immB, tmod_one] <;> omega
theorem row_1 : rowOf [106, 97, 108] = some ⟨1, 111, 0, 0⟩ := by kernel_rfl
theorem h1_1 (n : Int) : (encF [106, 97, 108] ⟨0, 0, 0, n⟩).isSome = (decide ((-1048576) ≤ n) && (decide (n ≤ 1048574) && (n.tmod 2 == 0))) := by
  rw [isS row_1, Bool.eq_iff_iff]
  simp [takB, takI, pfm, fdat, fdJ, regB, immB, tmod_one]
theorem h2_1 (reg : Int) : (encF [106, 97, 108] ⟨reg, 0, 0, 1048574⟩).isSome = (decide (reg = 0) || (decide (0 < reg) && (decide (reg < 32) && true))) := by
  rw [isS row_1, Bool.eq_iff_iff]
  simp [takB, takI, pfm, fdat, fdJ, regB, immB, tmod_one] <;> omega
theorem h3_1 (reg : Int) : (encF [106, 97, 108] ⟨0, 0, reg, 1048574⟩).isSome = (decide (reg = 0) || (decide (0 < reg) && (decide (reg < 32) && false))) := by
  rw [isS row_1, Bool.eq_iff_iff]
  simp [takB, takI, pfm, fdat, fdJ, regB, immB, tmod_one] <;> omega
theorem row_2 : rowOf [97, 100, 100, 105] = some ⟨2, 19, 0, 0⟩ := by kernel_rfl
theorem h1_2 (n : Int) : (encF [97, 100, 100, 105] ⟨0, 0, 0, n⟩).isSome = (decide ((-2048) ≤ n) && (decide (n ≤ 2047) && true)) := by
  rw [isS row_2, Bool.eq_iff_iff]
  simp [takB, takI, pfm, fdat, fdI, regB, immB, tmod_one]
theorem h2_2 (reg : Int) : (encF [97, 100, 100, 105] ⟨reg, 0, 0, 2047⟩).isSome = (decide (reg = 0) || (decide (0 < reg) && (decide (reg < 32) && true))) := by
  rw [isS row_2, Bool.eq_iff_iff]
  simp [takB, takI, pfm, fdat, fdI, regB, immB, tmod_one] <;> omega
theorem h3_2 (reg : Int) : (encF [97, 100, 100, 105] ⟨0, 0, reg, 2047⟩).isSome = (decide (reg = 0) || (decide (0 < reg) && (decide (reg < 32) && false))) := by
  rw [isS row_2, Bool.eq_iff_iff]
  simp [takB, takI, pfm, fdat, fdI, regB, immB, tmod_one] <;> omega
theorem row_3 : rowOf [115, 108, 108, 105] = some ⟨3, 19, 1, 0⟩ := by kernel_rfl
theorem h1_3 (n : Int) : (encF [115, 108, 108, 105] ⟨0, 0, 0, n⟩).isSome = (decide (0 ≤ n) && (decide (n ≤ 31) && true)) := by
  rw [isS row_3, Bool.eq_iff_iff]
  simp [takB, takI, pfm, fdat, fdH, regB, immB, tmod_one]
theorem h2_3 (reg : Int) : (encF [115, 108, 108, 105] ⟨reg, 0, 0, 31⟩).isSome = (decide (reg = 0) || (decide (0 < reg) && (decide (reg < 32) && true))) := by
  rw [isS row_3, Bool.eq_iff_iff]
  simp [takB, takI, pfm, fdat, fdH, regB, immB, tmod_one] <;> omega
theorem h3_3 (reg : Int) : (encF [115, 108, 108, 105] ⟨0, 0, reg, 31⟩).isSome = (decide (reg = 0) || (decide (0 < reg) && (decide (reg < 32) && false))) := by
  rw [isS row_3, Bool.eq_iff_iff]
  simp [takB, takI, pfm, fdat, fdH, regB, immB, tmod_one] <;> omega
theorem row_4 : rowOf [98, 101, 113] = some ⟨4, 99, 0, 0⟩ := by kernel_rfl
theorem h1_4 (n : Int) : (encF [98, 101, 113] ⟨0, 0, 0, n⟩).isSome = (decide ((-4096) ≤ n) && (decide (n ≤ 4094) && (n.tmod 2 == 0))) := by
  rw [isS row_4, Bool.eq_iff_iff]
  simp [takB, takI, pfm, fdat, fdB, regB, immB, tmod_one]
theorem h2_4 (reg : Int) : (encF [98, 101, 113] ⟨reg, 0, 0, 4094⟩).isSome = (decide (reg = 0) || (decide (0 < reg) && (decide (reg < 32) && false))) := by
  rw [isS row_4, Bool.eq_iff_iff]
  simp [takB, takI, pfm, fdat, fdB, regB, immB, tmod_one] <;> omega
theorem h3_4 (reg : Int) : (encF [98, 101, 113] ⟨0, 0, reg, 4094⟩).isSome = (decide (reg = 0) || (decide (0 < reg) && (decide (reg < 32) && true))) := by
  rw [isS row_4, Bool.eq_iff_iff]
  simp [takB, takI, pfm, fdat, fdB, regB, immB, tmod_one] <;> omega
theorem row_5 : rowOf [115, 119] = some ⟨5, 35, 2, 0⟩ := by kernel_rfl
theorem h1_5 (n : Int) : (encF [115, 119] ⟨0, 0, 0, n⟩).isSome = (decide ((-2048) ≤ n) && (decide (n ≤ 2047) && true)) := by
  rw [isS row_5, Bool.eq_iff_iff]
  simp [takB, takI, pfm, fdat, fdS, regB, immB, tmod_one]
theorem h2_5 (reg : Int) : (encF [115, 119] ⟨reg, 0, 0, 2047⟩).isSome = (decide (reg = 0) || (decide (0 < reg) && (decide (reg < 32) && false))) := by
  rw [isS row_5, Bool.eq_iff_iff]
  simp [takB, takI, pfm, fdat, fdS, regB, immB, tmod_one] <;> omega
theorem h3_5 (reg : Int) : (encF [115, 119] ⟨0, 0, reg, 2047⟩).isSome = (decide (reg = 0) || (decide (0 < reg) && (decide (reg < 32) && true))) := by
  rw [isS row_5, Bool.eq_iff_iff]
  simp [takB, takI, pfm, fdat, fdS, regB, immB, tmod_one] <;> omega
theorem row_6 : rowOf [97, 100, 100] = some ⟨6, 51, 0, 0⟩ := by kernel_rfl
theorem h1_6 (n : Int) : (encF [97, 100, 100] ⟨0, 0, 0, n⟩).isSome = (decide (0 ≤ n) && (decide (n ≤ 0) && true)) := by
  rw [isS row_6, Bool.eq_iff_iff]
  simp [takB, takI, pfm, fdat, fdR, regB, immB, tmod_one]
theorem h2_6 (reg : Int) : (encF [97, 100, 100] ⟨reg, 0, 0, 0⟩).isSome = (decide (reg = 0) || (decide (0 < reg) && (decide (reg < 32) && true))) := by
  rw [isS row_6, Bool.eq_iff_iff]
  simp [takB, takI, pfm, fdat, fdR, regB, immB, tmod_one] <;> omega
theorem h3_6 (reg : Int) : (encF [97, 100, 100] ⟨0, 0, reg, 0⟩).isSome = (decide (reg = 0) || (decide (0 < reg) && (decide (reg < 32) && true))) := by
  rw [isS row_6, Bool.eq_iff_iff]
  simp [takB, takI, pfm, fdat, fdR, regB, immB, tmod_one] <;> omega

theorem insnFields_walk (form n reg : Int) (w : World) :
    Calls Try.prog 7 #[.int .i64 form, .int .i64 n, .int .i64 reg] w fun e w' => e = .returned (.bool true) ∧ Below w.heap.size w w' := by
  have h1 := Int.tmod_lt_of_pos form (show (0 : Int) < 7 by decide)
  have h2 := Int.lt_tmod_of_pos form (show (0 : Int) < 7 by decide)
  have hw2 : wrap64 (form.tmod 7 + 7) = form.tmod 7 + 7 := by unfold wrap64; omega
  have hw : IntKind.i64.wrap (form.tmod 7 + 7) = form.tmod 7 + 7 := wrap_in _ (by omega)
  obtain ⟨t, ht, hlt⟩ := turn_of form 7 (by decide) (by decide)
  rw [hw2] at ht
  have hc : t = 0 ∨ t = 1 ∨ t = 2 ∨ t = 3 ∨ t = 4 ∨ t = 5 ∨ t = 6 := by omega
  rcases hc with rfl | rfl | rfl | rfl | rfl | rfl | rfl
  · exact fields_0 form n reg _ _ _ _ _ _ ht hw hw2 (h1_0 n) (h2_0 reg) (h3_0 reg) w (enc_u ⟨#[108, 117, 105]⟩ 0 0 0 n (by show 3 ≤ maxLen; unfold maxLen; omega) rfl) (enc_u ⟨#[108, 117, 105]⟩ reg 0 0 1048575 (by show 3 ≤ maxLen; unfold maxLen; omega) rfl) (enc_u ⟨#[108, 117, 105]⟩ 0 0 reg 1048575 (by show 3 ≤ maxLen; unfold maxLen; omega) rfl)
  · exact fields_1 form n reg _ _ _ _ _ _ ht hw hw2 (h1_1 n) (h2_1 reg) (h3_1 reg) w (enc_u ⟨#[106, 97, 108]⟩ 0 0 0 n (by show 3 ≤ maxLen; unfold maxLen; omega) rfl) (enc_u ⟨#[106, 97, 108]⟩ reg 0 0 1048574 (by show 3 ≤ maxLen; unfold maxLen; omega) rfl) (enc_u ⟨#[106, 97, 108]⟩ 0 0 reg 1048574 (by show 3 ≤ maxLen; unfold maxLen; omega) rfl)
  · exact fields_2 form n reg _ _ _ _ _ _ ht hw hw2 (h1_2 n) (h2_2 reg) (h3_2 reg) w (enc_u ⟨#[97, 100, 100, 105]⟩ 0 0 0 n (by show 4 ≤ maxLen; unfold maxLen; omega) rfl) (enc_u ⟨#[97, 100, 100, 105]⟩ reg 0 0 2047 (by show 4 ≤ maxLen; unfold maxLen; omega) rfl) (enc_u ⟨#[97, 100, 100, 105]⟩ 0 0 reg 2047 (by show 4 ≤ maxLen; unfold maxLen; omega) rfl)
  · exact fields_3 form n reg _ _ _ _ _ _ ht hw hw2 (h1_3 n) (h2_3 reg) (h3_3 reg) w (enc_u ⟨#[115, 108, 108, 105]⟩ 0 0 0 n (by show 4 ≤ maxLen; unfold maxLen; omega) rfl) (enc_u ⟨#[115, 108, 108, 105]⟩ reg 0 0 31 (by show 4 ≤ maxLen; unfold maxLen; omega) rfl) (enc_u ⟨#[115, 108, 108, 105]⟩ 0 0 reg 31 (by show 4 ≤ maxLen; unfold maxLen; omega) rfl)
  · exact fields_4 form n reg _ _ _ _ _ _ ht hw hw2 (h1_4 n) (h2_4 reg) (h3_4 reg) w (enc_u ⟨#[98, 101, 113]⟩ 0 0 0 n (by show 3 ≤ maxLen; unfold maxLen; omega) rfl) (enc_u ⟨#[98, 101, 113]⟩ reg 0 0 4094 (by show 3 ≤ maxLen; unfold maxLen; omega) rfl) (enc_u ⟨#[98, 101, 113]⟩ 0 0 reg 4094 (by show 3 ≤ maxLen; unfold maxLen; omega) rfl)
  · exact fields_5 form n reg _ _ _ _ _ _ ht hw hw2 (h1_5 n) (h2_5 reg) (h3_5 reg) w (enc_u ⟨#[115, 119]⟩ 0 0 0 n (by show 2 ≤ maxLen; unfold maxLen; omega) rfl) (enc_u ⟨#[115, 119]⟩ reg 0 0 2047 (by show 2 ≤ maxLen; unfold maxLen; omega) rfl) (enc_u ⟨#[115, 119]⟩ 0 0 reg 2047 (by show 2 ≤ maxLen; unfold maxLen; omega) rfl)
  · exact fields_6 form n reg _ _ _ _ _ _ ht hw hw2 (h1_6 n) (h2_6 reg) (h3_6 reg) w (enc_u ⟨#[97, 100, 100]⟩ 0 0 0 n (by show 3 ≤ maxLen; unfold maxLen; omega) rfl) (enc_u ⟨#[97, 100, 100]⟩ reg 0 0 0 (by show 3 ≤ maxLen; unfold maxLen; omega) rfl) (enc_u ⟨#[97, 100, 100]⟩ 0 0 reg 0 (by show 3 ≤ maxLen; unfold maxLen; omega) rfl)
end Go.Proofs.Ytiiebppcamaliaa
