/-
  Proved: HeapClasses is true of every input.
-/
import Derived.Test.YtffcfohbnbldhaaDoorClass
namespace Go.Proofs.YtffcfohbnbldhaaDoor
open Go.RowKit

theorem and_mask (v : Int) (n : Nat) (hn : n ≤ 62) : bits .and .i64 v (2 ^ n - 1 : Int) = v % 2 ^ n := by
  have hp : (2 : Nat) ^ n < 2 ^ 63 := Nat.pow_lt_pow_right (by decide) (by omega)
  have hp0 : 0 < (2 : Nat) ^ n := Nat.pow_pos (by decide)
  have hc : ((2 : Int) ^ n - 1) = ((2 ^ n - 1 : Nat) : Int) := by
    rw [Int.natCast_sub (by omega)]; simp
  show IntKind.i64.wrap ((BitVec.ofInt 64 v &&& BitVec.ofInt 64 (2 ^ n - 1 : Int)).toNat : Int) = _
  have hb : (BitVec.ofInt 64 (2 ^ n - 1 : Int)).toNat = 2 ^ n - 1 := by
    rw [hc, BitVec.ofInt_natCast, BitVec.toNat_ofNat]; exact Nat.mod_eq_of_lt (by omega)
  have ha : ((BitVec.ofInt 64 v).toNat : Int) = v % 18446744073709551616 := by
    rw [BitVec.toNat_ofInt]
    have : 0 ≤ v % ((2 ^ 64 : Nat) : Int) := Int.emod_nonneg _ (by decide)
    rw [Int.toNat_of_nonneg this]; rfl
  rw [BitVec.toNat_and, hb, Nat.and_two_pow_sub_one_eq_mod]
  have e : (((BitVec.ofInt 64 v).toNat % 2 ^ n : Nat) : Int) = v % 2 ^ n := by
    rw [Int.natCast_emod, ha]
    have hd : ((2 : Int) ^ n) ∣ 18446744073709551616 := ⟨2 ^ (64 - n), by rw [← Int.pow_add, show n + (64 - n) = 64 by omega]; rfl⟩
    have : (((2 : Nat) ^ n : Nat) : Int) = (2 : Int) ^ n := by simp
    rw [this, Int.emod_emod_of_dvd v hd]
  rw [e]
  have h0 : 0 ≤ v % (2 : Int) ^ n := Int.emod_nonneg _ (by have : (0 : Int) < 2 ^ n := Int.pow_pos (by decide); omega)
  have h1 : v % (2 : Int) ^ n < 2 ^ n := Int.emod_lt_of_pos _ (Int.pow_pos (by decide))
  have h2 : (2 : Int) ^ n < 9223372036854775808 := by
    have : (((2 : Nat) ^ n : Nat) : Int) = (2 : Int) ^ n := by simp
    omega
  simp only [IntKind.wrap, IntKind.bits, IntKind.signed]
  simp
  omega

theorem and127 (v : Int) : bits .and .i64 v 127 = v % 128 := and_mask v 7 (by decide)

/-- A class, and its words. -/
def clsN (x : Nat) : Nat := if x ≤ 4 then 0 else if x ≤ 16 then 1 else if x ≤ 64 then 2 else 3

theorem clsOf_nat (x : Nat) (h : x ≤ 128) : clsOf (x : Int) = some (clsN x) := by
  rw [clsOf_eq, if_neg (by omega)]
  unfold clsN
  by_cases h0 : x ≤ 4
  · rw [if_pos h0, if_pos (by omega)]
  rw [if_neg h0, if_neg (by omega)]
  by_cases h1 : x ≤ 16
  · rw [if_pos h1, if_pos (by omega)]
  rw [if_neg h1, if_neg (by omega)]
  by_cases h2 : x ≤ 64
  · rw [if_pos h2, if_pos (by omega)]
  rw [if_neg h2, if_neg (by omega)]

theorem clsN_lt (x : Nat) : clsN x < 4 := by
  unfold clsN
  split <;> (try split) <;> (try split) <;> omega

theorem clsN_sz (x : Nat) (h : x ≤ 128) : x ≤ sz (clsN x) := by
  unfold clsN
  by_cases h0 : x ≤ 4
  · rw [if_pos h0]; exact h0
  rw [if_neg h0]
  by_cases h1 : x ≤ 16
  · rw [if_pos h1]; exact h1
  rw [if_neg h1]
  by_cases h2 : x ≤ 64
  · rw [if_pos h2]; exact h2
  rw [if_neg h2]
  exact h

theorem clsN_mono (x y : Nat) (h : x ≤ y) : clsN x ≤ clsN y := by
  unfold clsN
  repeat' split
  all_goals omega

theorem class_n (x : Nat) (h : x ≤ 128) (w : World) (ht : Tab w) : Calls Tryd.prog 14 #[.int .i64 (x : Int)] w fun e w' => e = .returned (.tuple #[.int .i64 (clsN x : Int), .int .i64 (sz (clsN x) : Int), .int .i64 (bl (clsN x) : Int), .int .i64 0]) ∧ Below w.heap.size w w' := by
  have := class_c x w ht
  rw [clsOf_nat x h] at this
  exact this

theorem sz_mono (x y : Nat) (h : x ≤ y) : sz x ≤ sz y := by
  unfold sz
  repeat' split
  all_goals omega

theorem bl_anti (x y : Nat) (h : x ≤ y) : bl y ≤ bl x := by
  unfold bl
  repeat' split
  all_goals omega

theorem sz_inj (x y : Nat) (hx : x < 4) (hy : y < 4) : x = y ↔ sz x = sz y := by
  unfold sz
  repeat' split
  all_goals omega

/-- The bytes of the first classes. -/
def sm (k : Nat) : Int := if k = 0 then 0 else if k = 1 then 1024 else if k = 2 then 3072 else if k = 3 then 7168 else 11264

theorem classes_core (a b : Int) (n m : Nat) (hn : a % 128 = (n : Int)) (hm : b % 128 = (m : Int)) (lo hi : Nat) (hl : lo = min n m) (hh : hi = max n m) (w : World) (ht : Tab w) : Calls Tryd.prog 7 #[.int .i64 a, .int .i64 b] w fun e w' => e = .returned (.bool true) ∧ Below w.heap.size w w' := by
  have T : Hid (Tab w) := ht
  have b1 : lo ≤ 127 := by omega
  have b2 : hi ≤ 127 := by omega
  have M := clsN_mono lo hi (by omega)
  have S1 := sz_mono _ _ M
  have B1 := bl_anti _ _ M
  have E1 := sz_inj _ _ (clsN_lt lo) (clsN_lt hi)
  have E2 : (((clsN lo : Nat) : Int) == ((clsN hi : Nat) : Int)) = (((sz (clsN lo) : Nat) : Int) == ((sz (clsN hi) : Nat) : Int)) := by
    rw [Bool.eq_iff_iff, beq_iff_eq, beq_iff_eq]
    omega
  have L1 := clsN_lt lo
  have L2 := clsN_lt hi
  have Z1 := clsN_sz lo (by omega)
  have Z2 := clsN_sz hi (by omega)
  have K1 := class_n lo (by omega)
  have K2 := class_n hi (by omega)
  have k3 := fun w ht => class_c 129 w ht
  have k4 := fun w ht => class_c (-1) w ht
  have e3 : clsOf 129 = none := by rw [clsOf_eq]; rfl
  have e4 : clsOf (-1) = none := by rw [clsOf_eq]; rfl
  rw [e3] at k3
  rw [e4] at k4
  have KK : Hid (∀ (x : Int) (k s l e : Int) (w : World), (x = (lo : Int) ∧ k = clsN lo ∧ s = sz (clsN lo) ∧ l = bl (clsN lo) ∧ e = 0 ∨ x = (hi : Int) ∧ k = clsN hi ∧ s = sz (clsN hi) ∧ l = bl (clsN hi) ∧ e = 0 ∨ (x = 129 ∨ x = -1) ∧ k = 0 ∧ s = 0 ∧ l = 0 ∧ e = 2) → Tab w → Calls Tryd.prog 14 #[.int .i64 x] w fun e' w' => e' = .returned (.tuple #[.int .i64 k, .int .i64 s, .int .i64 l, .int .i64 e]) ∧ Below w.heap.size w w') := by
    rintro x k s l e w (⟨rfl, rfl, rfl, rfl, rfl⟩ | ⟨rfl, rfl, rfl, rfl, rfl⟩ | ⟨rfl | rfl, rfl, rfl, rfl, rfl⟩) ht
    · exact K1 w ht
    · exact K2 w ht
    · exact k3 w ht
    · exact k4 w ht
  clear K1 K2 k3 k4 e3 e4 ht
  have R : Hid (Below w.heap.size w w) := Below.refl _ _
  have T0 : Hid (Tab w) := T.out
  have Q0 : Hid (∀ w, Tab w → Calls Tryd.prog 14 #[.int .i64 4] w fun e w' => e = .returned (.tuple #[.int .i64 0, .int .i64 4, .int .i64 64, .int .i64 0]) ∧ Below w.heap.size w w') := fun w ht => class_n 4 (by omega) w ht
  have Q1 : Hid (∀ w, Tab w → Calls Tryd.prog 14 #[.int .i64 16] w fun e w' => e = .returned (.tuple #[.int .i64 1, .int .i64 16, .int .i64 32, .int .i64 0]) ∧ Below w.heap.size w w') := fun w ht => class_n 16 (by omega) w ht
  have Q2 : Hid (∀ w, Tab w → Calls Tryd.prog 14 #[.int .i64 64] w fun e w' => e = .returned (.tuple #[.int .i64 2, .int .i64 64, .int .i64 16, .int .i64 0]) ∧ Below w.heap.size w w') := fun w ht => class_n 64 (by omega) w ht
  have Q3 : Hid (∀ w, Tab w → Calls Tryd.prog 14 #[.int .i64 128] w fun e w' => e = .returned (.tuple #[.int .i64 3, .int .i64 128, .int .i64 8, .int .i64 0]) ∧ Below w.heap.size w w') := fun w ht => class_n 128 (by omega) w ht
  have a1 := and127 a
  have a2 := and127 b
  rw [hn] at a1
  rw [hm] at a2
  by_cases hab : m < n
  · have h1 : n = hi := by omega
    have h2 : m = lo := by omega
    subst h1 h2
    clear hl hh hn hm
    have hab' : (m : Int) < (n : Int) := by omega
    go_enter Tryd.func7, Tryd.ntmps7
    go_wp2_with (go_at_call 14; refine (KK.out _ _ _ _ _ _ (by first | exact Or.inl ⟨rfl, rfl, rfl, rfl, rfl⟩ | exact Or.inr (Or.inl ⟨rfl, rfl, rfl, rfl, rfl⟩) | exact Or.inr (Or.inr ⟨Or.inl rfl, rfl, rfl, rfl, rfl⟩) | exact Or.inr (Or.inr ⟨Or.inr rfl, rfl, rfl, rfl, rfl⟩)) T.out).mono ?_; rintro e w1 ⟨rfl, hb⟩; have R : Hid (Below w.heap.size w w1) := below_next R.out hb; have T : Hid (Tab w1) := T.out.below hb T.out.lt; clear hb)
    have hA : At (w1.alloc (.cells #[.int .i64 4, .int .i64 16, .int .i64 64, .int .i64 128] 3)) w1.heap.size #[.int .i64 4, .int .i64 16, .int .i64 64, .int .i64 128] 3 := At.new _ _ _
    have HA : Hid (At (w1.alloc (.cells #[.int .i64 4, .int .i64 16, .int .i64 64, .int .i64 128] 3)) w1.heap.size #[.int .i64 4, .int .i64 16, .int .i64 64, .int .i64 128] 3) := hA
    have HB : Hid (Below w.heap.size w (w1.alloc (.cells #[.int .i64 4, .int .i64 16, .int .i64 64, .int .i64 128] 3))) := below_next R.out (below_alloc _ _)
    clear hA
    generalize w1.alloc (.cells #[.int .i64 4, .int .i64 16, .int .i64 64, .int .i64 128] 3) = w2 at *
    go_loopw [21, 65] (fun al i wr => ∃ k : Nat, k ≤ 4 ∧ i = .int .i64 (k : Int) ∧ al = .int .i64 (sm k) ∧ At wr w1.heap.size #[.int .i64 4, .int .i64 16, .int .i64 64, .int .i64 128] 3 ∧ Below w.heap.size w wr) (fun _ i _ => 4 - (intOf i).toNat)
    case atStart => exact ⟨0, by omega, rfl, rfl, HA.out, HB.out⟩
    case round =>
      obtain ⟨k, hk, e1, e2, hA, hB⟩ := hrel
      have HA : Hid (At wr w1.heap.size #[.int .i64 4, .int .i64 16, .int .i64 64, .int .i64 128] 3) := hA
      have HB : Hid (Below w.heap.size w wr) := hB
      have HT : Hid (Tab wr) := T0.out.below hB T0.out.lt
      rcases (by omega : k = 0 ∨ k = 1 ∨ k = 2 ∨ k = 3 ∨ k = 4) with rfl | rfl | rfl | rfl | rfl
      · have e1' : _ = Value.int .i64 0 := e1
        have e2' : _ = Value.int .i64 0 := e2
        subst e1' e2'
        have c0 : wr.cell? ⟨w1.heap.size, 0, none⟩ = some (.int .i64 4) := (hA.cell 0).trans rfl
        clear hA hB
        go_wp2_with (go_at_call 14; refine (Q0.out _ HT.out).mono ?_; rintro e w3 ⟨rfl, hb⟩; have HC : Hid (Below w.heap.size w w3) := below_next HB.out hb; have HD : Hid (At w3 w1.heap.size #[.int .i64 4, .int .i64 16, .int .i64 64, .int .i64 128] 3) := HA.out.below hb HA.out.lt; clear hb)
        go_roundw
        case rel => exact ⟨1, by omega, rfl, rfl, HD.out, HC.out⟩
        case measure => simp [intOf]
      · have e1' : _ = Value.int .i64 1 := e1
        have e2' : _ = Value.int .i64 1024 := e2
        subst e1' e2'
        have c0 : wr.cell? ⟨w1.heap.size, 1, none⟩ = some (.int .i64 16) := (hA.cell 1).trans rfl
        clear hA hB
        go_wp2_with (go_at_call 14; refine (Q1.out _ HT.out).mono ?_; rintro e w3 ⟨rfl, hb⟩; have HC : Hid (Below w.heap.size w w3) := below_next HB.out hb; have HD : Hid (At w3 w1.heap.size #[.int .i64 4, .int .i64 16, .int .i64 64, .int .i64 128] 3) := HA.out.below hb HA.out.lt; clear hb)
        go_roundw
        case rel => exact ⟨2, by omega, rfl, rfl, HD.out, HC.out⟩
        case measure => simp [intOf]
      · have e1' : _ = Value.int .i64 2 := e1
        have e2' : _ = Value.int .i64 3072 := e2
        subst e1' e2'
        have c0 : wr.cell? ⟨w1.heap.size, 2, none⟩ = some (.int .i64 64) := (hA.cell 2).trans rfl
        clear hA hB
        go_wp2_with (go_at_call 14; refine (Q2.out _ HT.out).mono ?_; rintro e w3 ⟨rfl, hb⟩; have HC : Hid (Below w.heap.size w w3) := below_next HB.out hb; have HD : Hid (At w3 w1.heap.size #[.int .i64 4, .int .i64 16, .int .i64 64, .int .i64 128] 3) := HA.out.below hb HA.out.lt; clear hb)
        go_roundw
        case rel => exact ⟨3, by omega, rfl, rfl, HD.out, HC.out⟩
        case measure => simp [intOf]
      · have e1' : _ = Value.int .i64 3 := e1
        have e2' : _ = Value.int .i64 7168 := e2
        subst e1' e2'
        have c0 : wr.cell? ⟨w1.heap.size, 3, none⟩ = some (.int .i64 128) := (hA.cell 3).trans rfl
        clear hA hB
        go_wp2_with (go_at_call 14; refine (Q3.out _ HT.out).mono ?_; rintro e w3 ⟨rfl, hb⟩; have HC : Hid (Below w.heap.size w w3) := below_next HB.out hb; have HD : Hid (At w3 w1.heap.size #[.int .i64 4, .int .i64 16, .int .i64 64, .int .i64 128] 3) := HA.out.below hb HA.out.lt; clear hb)
        go_roundw
        case rel => exact ⟨4, by omega, rfl, rfl, HD.out, HC.out⟩
        case measure => simp [intOf]
      · have e1' : _ = Value.int .i64 4 := e1
        have e2' : _ = Value.int .i64 11264 := e2
        subst e1' e2'
        clear hA hB
        have HB' := HB.out
        clear Q0 Q1 Q2 Q3 KK
        go_wp2
        all_goals (try (exfalso; first | omega | exact absurd E2 (by assumption)))
        all_goals (go_ret; exact ⟨by simp, HB'⟩)
  · have h1 : n = lo := by omega
    have h2 : m = hi := by omega
    subst h1 h2
    clear hl hh hn hm
    have hab' : ¬ (m : Int) < (n : Int) := by omega
    go_enter Tryd.func7, Tryd.ntmps7
    go_wp2_with (go_at_call 14; refine (KK.out _ _ _ _ _ _ (by first | exact Or.inl ⟨rfl, rfl, rfl, rfl, rfl⟩ | exact Or.inr (Or.inl ⟨rfl, rfl, rfl, rfl, rfl⟩) | exact Or.inr (Or.inr ⟨Or.inl rfl, rfl, rfl, rfl, rfl⟩) | exact Or.inr (Or.inr ⟨Or.inr rfl, rfl, rfl, rfl, rfl⟩)) T.out).mono ?_; rintro e w1 ⟨rfl, hb⟩; have R : Hid (Below w.heap.size w w1) := below_next R.out hb; have T : Hid (Tab w1) := T.out.below hb T.out.lt; clear hb)
    have hA : At (w1.alloc (.cells #[.int .i64 4, .int .i64 16, .int .i64 64, .int .i64 128] 3)) w1.heap.size #[.int .i64 4, .int .i64 16, .int .i64 64, .int .i64 128] 3 := At.new _ _ _
    have HA : Hid (At (w1.alloc (.cells #[.int .i64 4, .int .i64 16, .int .i64 64, .int .i64 128] 3)) w1.heap.size #[.int .i64 4, .int .i64 16, .int .i64 64, .int .i64 128] 3) := hA
    have HB : Hid (Below w.heap.size w (w1.alloc (.cells #[.int .i64 4, .int .i64 16, .int .i64 64, .int .i64 128] 3))) := below_next R.out (below_alloc _ _)
    clear hA
    generalize w1.alloc (.cells #[.int .i64 4, .int .i64 16, .int .i64 64, .int .i64 128] 3) = w2 at *
    go_loopw [21, 65] (fun al i wr => ∃ k : Nat, k ≤ 4 ∧ i = .int .i64 (k : Int) ∧ al = .int .i64 (sm k) ∧ At wr w1.heap.size #[.int .i64 4, .int .i64 16, .int .i64 64, .int .i64 128] 3 ∧ Below w.heap.size w wr) (fun _ i _ => 4 - (intOf i).toNat)
    case atStart => exact ⟨0, by omega, rfl, rfl, HA.out, HB.out⟩
    case round =>
      obtain ⟨k, hk, e1, e2, hA, hB⟩ := hrel
      have HA : Hid (At wr w1.heap.size #[.int .i64 4, .int .i64 16, .int .i64 64, .int .i64 128] 3) := hA
      have HB : Hid (Below w.heap.size w wr) := hB
      have HT : Hid (Tab wr) := T0.out.below hB T0.out.lt
      rcases (by omega : k = 0 ∨ k = 1 ∨ k = 2 ∨ k = 3 ∨ k = 4) with rfl | rfl | rfl | rfl | rfl
      · have e1' : _ = Value.int .i64 0 := e1
        have e2' : _ = Value.int .i64 0 := e2
        subst e1' e2'
        have c0 : wr.cell? ⟨w1.heap.size, 0, none⟩ = some (.int .i64 4) := (hA.cell 0).trans rfl
        clear hA hB
        go_wp2_with (go_at_call 14; refine (Q0.out _ HT.out).mono ?_; rintro e w3 ⟨rfl, hb⟩; have HC : Hid (Below w.heap.size w w3) := below_next HB.out hb; have HD : Hid (At w3 w1.heap.size #[.int .i64 4, .int .i64 16, .int .i64 64, .int .i64 128] 3) := HA.out.below hb HA.out.lt; clear hb)
        go_roundw
        case rel => exact ⟨1, by omega, rfl, rfl, HD.out, HC.out⟩
        case measure => simp [intOf]
      · have e1' : _ = Value.int .i64 1 := e1
        have e2' : _ = Value.int .i64 1024 := e2
        subst e1' e2'
        have c0 : wr.cell? ⟨w1.heap.size, 1, none⟩ = some (.int .i64 16) := (hA.cell 1).trans rfl
        clear hA hB
        go_wp2_with (go_at_call 14; refine (Q1.out _ HT.out).mono ?_; rintro e w3 ⟨rfl, hb⟩; have HC : Hid (Below w.heap.size w w3) := below_next HB.out hb; have HD : Hid (At w3 w1.heap.size #[.int .i64 4, .int .i64 16, .int .i64 64, .int .i64 128] 3) := HA.out.below hb HA.out.lt; clear hb)
        go_roundw
        case rel => exact ⟨2, by omega, rfl, rfl, HD.out, HC.out⟩
        case measure => simp [intOf]
      · have e1' : _ = Value.int .i64 2 := e1
        have e2' : _ = Value.int .i64 3072 := e2
        subst e1' e2'
        have c0 : wr.cell? ⟨w1.heap.size, 2, none⟩ = some (.int .i64 64) := (hA.cell 2).trans rfl
        clear hA hB
        go_wp2_with (go_at_call 14; refine (Q2.out _ HT.out).mono ?_; rintro e w3 ⟨rfl, hb⟩; have HC : Hid (Below w.heap.size w w3) := below_next HB.out hb; have HD : Hid (At w3 w1.heap.size #[.int .i64 4, .int .i64 16, .int .i64 64, .int .i64 128] 3) := HA.out.below hb HA.out.lt; clear hb)
        go_roundw
        case rel => exact ⟨3, by omega, rfl, rfl, HD.out, HC.out⟩
        case measure => simp [intOf]
      · have e1' : _ = Value.int .i64 3 := e1
        have e2' : _ = Value.int .i64 7168 := e2
        subst e1' e2'
        have c0 : wr.cell? ⟨w1.heap.size, 3, none⟩ = some (.int .i64 128) := (hA.cell 3).trans rfl
        clear hA hB
        go_wp2_with (go_at_call 14; refine (Q3.out _ HT.out).mono ?_; rintro e w3 ⟨rfl, hb⟩; have HC : Hid (Below w.heap.size w w3) := below_next HB.out hb; have HD : Hid (At w3 w1.heap.size #[.int .i64 4, .int .i64 16, .int .i64 64, .int .i64 128] 3) := HA.out.below hb HA.out.lt; clear hb)
        go_roundw
        case rel => exact ⟨4, by omega, rfl, rfl, HD.out, HC.out⟩
        case measure => simp [intOf]
      · have e1' : _ = Value.int .i64 4 := e1
        have e2' : _ = Value.int .i64 11264 := e2
        subst e1' e2'
        clear hA hB
        have HB' := HB.out
        clear Q0 Q1 Q2 Q3 KK
        go_wp2
        all_goals (try (exfalso; first | omega | exact absurd E2 (by assumption)))
        all_goals (go_ret; exact ⟨by simp, HB'⟩)

theorem classes_walk (a b : Int) (w : World) (ht : Tab w) : Calls Tryd.prog 7 #[.int .i64 a, .int .i64 b] w fun e w' => e = .returned (.bool true) ∧ Below w.heap.size w w' :=
  classes_core a b (a % 128).toNat (b % 128).toNat (by omega) (by omega) _ _ rfl rfl w ht
end Go.Proofs.YtffcfohbnbldhaaDoor
