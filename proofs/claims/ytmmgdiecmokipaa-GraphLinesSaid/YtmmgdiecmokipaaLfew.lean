/-
  Proved: what few answers; masks and turns of numbers; rows of numbers that come out of blocks.
-/
import Derived.Test.YtmmgdiecmokipaaGopen
import Derived.Test.YtmmgdiecmokipaaPdm
import Derived.Test.YtmmgdiecmokipaaPfrom
import Derived.Test.YtmmgdiecmokipaaPorder
import Derived.Test.YtmmgdiecmokipaaGints
namespace Go.Proofs.Ytmmgdiecmokipaa
open Go.RowKit

theorem fsum_mono (to : List (List Int)) {a b : Nat} (h : a ≤ b) : fsum to a ≤ fsum to b := by
  induction b with
  | zero => obtain rfl : a = 0 := by omega
            exact Nat.le_refl _
  | succ b ih =>
    by_cases e : a = b + 1
    · subst e; exact Nat.le_refl _
    · have := ih (by omega)
      simp only [fsum]
      omega

theorem fw_of {to : List (List Int)} (h : fsum to to.length < 200) : Fw to :=
  ⟨by have := fsum_le to to.length; omega, fun i hi => by
    have := fsum_get to to.length i hi
    rw [List.getD_eq_getElem?_getD, List.getElem?_eq_getElem hi] at this
    exact Nat.le_trans this (by omega)⟩

theorem IZ.nums {w : World} {B n C : Nat} {f : Nat → Int} (h : IZ w B n f) : NumsIn w ((List.range n).map f) (.slice (some ⟨B, 0, none⟩) n C) := by
  refine ⟨some ⟨B, 0, none⟩, C, by simp, fun i hi => ⟨B, 0, rfl, h.lt, ?_⟩⟩
  have hi' : i < n := by simpa using hi
  rw [Nat.zero_add, h.cell i hi']
  simp

set_option maxHeartbeats 1000000 in
theorem few_d (to : List (List Int)) (tv : Value) (w : World) (h : RwsIn w to tv) (hl : to.length ≤ 281474976710656) (hl2 : ∀ i (h : i < to.length), (to[i]'h).length ≤ 281474976710656) :
    Calls Try.prog 7 #[tv] w fun e w' => e = .returned (.bool (decide (fsum to to.length < 200))) ∧ w' = w := by
  obtain ⟨A, C, rfl, hr⟩ := h
  have HR : Hid (∀ i (h : i < to.length), ∃ b o u, A = some ⟨b, o, none⟩ ∧ b < w.heap.size ∧ w.cell? ⟨b, o + i, none⟩ = some u ∧ NumsIn w (to[i]'h) u) := hr
  have HL : Hid (∀ i (h : i < to.length), (to[i]'h).length ≤ 281474976710656) := hl2
  clear hr hl2
  go_enter Try.func7, Try.ntmps7
  go_wp2
  go_loopw [3, 4] (fun nv iv wr => ∃ k : Nat, k ≤ to.length ∧ iv = .int .i64 (k : Int) ∧ nv = .int .i64 (fsum to k : Int) ∧ fsum to k ≤ 281474976710856 ∧ wr = w) (fun _ iv _ => to.length - (intOf iv).toNat)
  case atStart => exact ⟨0, by omega, rfl, rfl, by simp only [fsum]; omega, rfl⟩
  case round =>
    obtain ⟨k, hk, rfl, rfl, hb, hwr⟩ := hrel
    rw [hwr]
    clear hwr wr
    have S : Hid (fsum to (k + 1) = fsum to k + (to.getD k []).length) := rfl
    have FL : Hid (fsum to k ≤ fsum to to.length ∧ (k = to.length → fsum to k = fsum to to.length)) := ⟨fsum_mono to hk, fun e => by rw [e]⟩
    generalize hF : fsum to k = F at *
    clear hF
    rcases Nat.lt_or_ge k to.length with hk' | hk'
    · have hkz : (k : Int) < to.length := by omega
      by_cases hlt : F < 200
      · have hltz : (F : Int) < 200 := by omega
        obtain ⟨b, o, u, rfl, hb1, hc, A1, C1, rfl, -⟩ := HR.out k hk'
        have hlk := HL.out k hk'
        have S2 : Hid (fsum to (k + 1) = F + to[k].length) := (by rw [S.out, List.getD_eq_getElem?_getD, List.getElem?_eq_getElem hk']; rfl : fsum to (k + 1) = F + to[k].length)
        generalize to[k].length = m at *
        go_wp2
        go_roundw
        case rel => exact ⟨k + 1, by omega, by go_num, by rw [S2.out]; go_num, by rw [S2.out]; omega, trivial⟩
        case measure => simp [intOf]; omega
      · have hltz : ¬ (F : Int) < 200 := by omega
        go_wp2
        go_ret
        exact ⟨by rw [decide_eq_false (by have := FL.out.1; omega)]; rfl, rfl⟩
    · have hkz : ¬ (k : Int) < to.length := by omega
      by_cases hlt : F < 200
      · have hltz : (F : Int) < 200 := by omega
        go_wp2
        go_ret
        exact ⟨by rw [decide_eq_true (by have := FL.out.2 (by omega); omega)]; rfl, rfl⟩
      · have hltz : ¬ (F : Int) < 200 := by omega
        go_wp2
        go_ret
        exact ⟨by rw [decide_eq_false (by have := FL.out.1; omega)]; rfl, rfl⟩
theorem and_mask (v : Int) (n : Nat) (hn : n ≤ 62) : bits .and .i64 v (2 ^ n - 1 : Int) = v % 2 ^ n := by
  have hp : (2 : Nat) ^ n < 2 ^ 63 := Nat.pow_lt_pow_right (by decide) (by omega)
  have hp0 : 0 < (2 : Nat) ^ n := Nat.pow_pos (by decide)
  have hc : ((2 : Int) ^ n - 1) = ((2 ^ n - 1 : Nat) : Int) := by
    rw [Int.natCast_sub (by omega)]; simp
  show IntKind.i64.wrap ((BitVec.ofInt 64 v &&& BitVec.ofInt 64 (2 ^ n - 1 : Int)).toNat : Int) = _
  have hb : (BitVec.ofInt 64 (2 ^ n - 1 : Int)).toNat = 2 ^ n - 1 := by
    rw [hc, BitVec.ofInt_natCast, BitVec.toNat_ofNat]; exact Nat.mod_eq_of_lt (by omega)
  have ha : ((BitVec.ofInt 64 v).toNat : Int) = v % 18446744073709551616 := by
    rw [BitVec.toNat_ofInt]
    have : 0 ≤ v % ((2 ^ 64 : Nat) : Int) := Int.emod_nonneg _ (by decide)
    rw [Int.toNat_of_nonneg this]; rfl
  rw [BitVec.toNat_and, hb, Nat.and_two_pow_sub_one_eq_mod]
  have e : (((BitVec.ofInt 64 v).toNat % 2 ^ n : Nat) : Int) = v % 2 ^ n := by
    rw [Int.natCast_emod, ha]
    have hd : ((2 : Int) ^ n) ∣ 18446744073709551616 := ⟨2 ^ (64 - n), by rw [← Int.pow_add, show n + (64 - n) = 64 by omega]; rfl⟩
    have : (((2 : Nat) ^ n : Nat) : Int) = (2 : Int) ^ n := by simp
    rw [this, Int.emod_emod_of_dvd v hd]
  rw [e]
  have h0 : 0 ≤ v % (2 : Int) ^ n := Int.emod_nonneg _ (by have : (0 : Int) < 2 ^ n := Int.pow_pos (by decide); omega)
  have h1 : v % (2 : Int) ^ n < 2 ^ n := Int.emod_lt_of_pos _ (Int.pow_pos (by decide))
  have h2 : (2 : Int) ^ n < 9223372036854775808 := by
    have : (((2 : Nat) ^ n : Nat) : Int) = (2 : Int) ^ n := by simp
    omega
  simp only [IntKind.wrap, IntKind.bits, IntKind.signed]
  simp
  omega

theorem turn_of (b n : Int) (hn : 0 < n) (hn' : n ≤ 1000) : ∃ t : Nat, (wrap64 (b.tmod n + n)).tmod n = (t : Int) ∧ (t : Int) < n := by
  have h1 := Int.tmod_lt_of_pos b hn
  have h2 := Int.lt_tmod_of_pos b hn
  have h3 : wrap64 (b.tmod n + n) = b.tmod n + n := by unfold wrap64; omega
  have h4 : 0 ≤ (b.tmod n + n) % n := Int.emod_nonneg _ (by omega)
  have h5 : (b.tmod n + n) % n < n := Int.emod_lt_of_pos _ hn
  refine ⟨((b.tmod n + n) % n).toNat, ?_, ?_⟩
  · rw [h3, Int.tmod_eq_emod_of_nonneg (by omega)]; omega
  · omega

end Go.Proofs.Ytmmgdiecmokipaa
