/-
  Proved: the document's own numbers as texts are strconv.Itoa's.
-/
import Derived.Test.YtdpmdonneoadbaaDoorText
import Derived.WalkKit
namespace Go.Proofs.YtdpmdonneoadbaaDoor
open Go.RowKit

theorem dig_one : ∀ m : Fin 10, (⟨#[48, 49, 50, 51, 52, 53, 54, 55, 56, 57]⟩ : ByteArray).extract m.val (m.val + 1) = ofL (Lib.decDigits m.val) := by
  intro m
  apply WideShapes.bytes_inj
  rw [Lib.decDigits_one m.isLt]
  revert m
  decide +kernel

theorem digits_c (m : Nat) : m ≤ 9223372036854775807 → ∀ w : World, Calls Tryd.prog 23 #[.int .i64 (m : Int)] w fun e w' => e = .returned (.string (ofL (Lib.decDigits m))) ∧ w' = w := by
  induction m using Nat.strongRecOn with
  | _ m ih =>
    intro hm w
    have IH : Hid (∀ m' : Nat, m' < m → ∀ w : World, Calls Tryd.prog 23 #[.int .i64 (m' : Int)] w fun e w' => e = .returned (.string (ofL (Lib.decDigits m'))) ∧ w' = w) := fun m' h w => ih m' h (by omega) w
    clear ih
    by_cases h10 : m < 10
    · have e : (⟨#[48, 49, 50, 51, 52, 53, 54, 55, 56, 57]⟩ : ByteArray).extract m (m + 1) = ofL (Lib.decDigits m) := dig_one ⟨m, h10⟩
      have hc : m = 0 ∨ m = 1 ∨ m = 2 ∨ m = 3 ∨ m = 4 ∨ m = 5 ∨ m = 6 ∨ m = 7 ∨ m = 8 ∨ m = 9 := by omega
      clear IH
      rcases hc with rfl | rfl | rfl | rfl | rfl | rfl | rfl | rfl | rfl | rfl <;>
      · rw [← e]
        clear e h10 hm
        go_enter Tryd.func23, Tryd.ntmps23
        go_wp2_with fail
        go_ret
        exact ⟨by first | rfl | simp, rfl⟩
    · have e : Lib.decDigits m = Lib.decDigits (m / 10) ++ Lib.decDigits (m % 10) := by
        rw [Lib.decDigits, dif_neg h10, Lib.decDigits_one (show m % 10 < 10 by omega)]
      have l1 : (Lib.decDigits (m / 10)).length ≤ 20 := by rw [Lib.decDigits_length]; exact nDigits_le _ (by omega)
      have l2 : (Lib.decDigits (m % 10)).length ≤ 20 := by rw [Lib.decDigits_length]; exact nDigits_le _ (by omega)
      have z1 : (ofL (Lib.decDigits (m / 10))).size ≤ 20 := by rw [ofL_size]; exact l1
      have z2 : (ofL (Lib.decDigits (m % 10))).size ≤ 20 := by rw [ofL_size]; exact l2
      have D1 : Hid (∀ w : World, Calls Tryd.prog 23 #[.int .i64 ((m : Int) / 10)] w fun e w' => e = .returned (.string (ofL (Lib.decDigits (m / 10)))) ∧ w' = w) := fun w => by
        have := IH.out (m / 10) (by omega) w
        rw [show ((m / 10 : Nat) : Int) = (m : Int) / 10 by omega] at this
        exact this
      have D2 : Hid (∀ w : World, Calls Tryd.prog 23 #[.int .i64 ((m : Int) % 10)] w fun e w' => e = .returned (.string (ofL (Lib.decDigits (m % 10)))) ∧ w' = w) := fun w => by
        have := IH.out (m % 10) (by omega) w
        rw [show ((m % 10 : Nat) : Int) = (m : Int) % 10 by omega] at this
        exact this
      rw [e, ← ofL_append]
      clear e l1 l2
      generalize ofL (Lib.decDigits (m / 10)) = a1 at z1 D1
      generalize ofL (Lib.decDigits (m % 10)) = a2 at z2 D2
      have h0 : (0 : Int) ≤ (m : Int) := by omega
      go_enter Tryd.func23, Tryd.ntmps23
      go_wp2_with (first
        | (go_at_call 23; have M' := M; refine (D2.out _).mono ?_; rintro e w1 ⟨rfl, rfl⟩)
        | (go_at_call 23; refine (D1.out _).mono ?_; rintro e w1 ⟨rfl, he⟩; subst he; have M : Hid True := trivial))
      go_ret
      exact ⟨rfl, rfl⟩

theorem itoa_small (n : Int) (h2 : n < 0) : Lib.itoa n = [45] ++ Lib.decDigits n.natAbs := by
  unfold Lib.itoa
  rw [if_pos h2]
  rfl

theorem itoa_neg (n : Int) (h1 : n ≤ -10) : Lib.itoa n = [45] ++ Lib.decDigits (n.natAbs / 10) ++ Lib.decDigits (n.natAbs % 10) := by
  unfold Lib.itoa
  rw [if_pos (by omega), Lib.decDigits, dif_neg (by omega), Lib.decDigits_one (show n.natAbs % 10 < 10 by omega)]
  simp

/-- .. of numbers at or below -10. -/
theorem digits_neg (n : Int) (h0 : -9223372036854775808 ≤ n) (h1 : n ≤ -10) (w : World) :
    Calls Tryd.prog 23 #[.int .i64 n] w fun e w' => e = .returned (.string (ofL (Lib.itoa n))) ∧ w' = w := by
  rw [itoa_neg n h1, ← ofL_append, ← ofL_append]
  have z1 : (ofL (Lib.decDigits (n.natAbs / 10))).size ≤ 20 := by rw [ofL_size, Lib.decDigits_length]; exact nDigits_le _ (by omega)
  have z2 : (ofL (Lib.decDigits (n.natAbs % 10))).size ≤ 20 := by rw [ofL_size, Lib.decDigits_length]; exact nDigits_le _ (by omega)
  have D1 : Hid (∀ (x : Int) (w : World), x = ((n.natAbs / 10 : Nat) : Int) → Calls Tryd.prog 23 #[.int .i64 x] w fun e w' => e = .returned (.string (ofL (Lib.decDigits (n.natAbs / 10)))) ∧ w' = w) := fun x w hx => by
    rw [hx]
    exact digits_c _ (by omega) w
  have D2 : Hid (∀ (x : Int) (w : World), x = ((n.natAbs % 10 : Nat) : Int) → Calls Tryd.prog 23 #[.int .i64 x] w fun e w' => e = .returned (.string (ofL (Lib.decDigits (n.natAbs % 10)))) ∧ w' = w) := fun x w hx => by
    rw [hx]
    exact digits_c _ (by omega) w
  generalize ofL (Lib.decDigits (n.natAbs / 10)) = a1 at z1 D1
  generalize ofL (Lib.decDigits (n.natAbs % 10)) = a2 at z2 D2
  obtain ⟨a, ha⟩ : ∃ a : Nat, n = -(a : Int) := ⟨n.natAbs, by omega⟩
  have q1 : n.tdiv 10 = -((n.natAbs / 10 : Nat) : Int) := by
    rw [ha, Int.neg_tdiv, Int.tdiv_eq_ediv_of_nonneg (by omega)]
    omega
  have q2 : n.tmod 10 = -((n.natAbs % 10 : Nat) : Int) := by
    rw [ha, Int.neg_tmod, Int.tmod_eq_emod_of_nonneg (by omega)]
    omega
  have Q1 : Hid (wrap64 (-n.tdiv 10) = ((n.natAbs / 10 : Nat) : Int)) := by
    show wrap64 (-n.tdiv 10) = _
    rw [q1]
    unfold wrap64
    omega
  have Q2 : Hid (wrap64 (-n.tmod 10) = ((n.natAbs % 10 : Nat) : Int)) := by
    show wrap64 (-n.tmod 10) = _
    rw [q2]
    unfold wrap64
    omega
  clear q1 q2 ha a
  go_enter Tryd.func23, Tryd.ntmps23
  go_wp2_with (first
    | (go_at_call 23; have M' := M; refine (D2.out _ _ Q2.out).mono ?_; rintro e w1 ⟨rfl, rfl⟩)
    | (go_at_call 23; refine (D1.out _ _ Q1.out).mono ?_; rintro e w1 ⟨rfl, he⟩; subst he; have M : Hid True := trivial))
  go_ret
  exact ⟨rfl, rfl⟩

theorem number_c (n : Int) (h0 : -9223372036854775808 ≤ n) (h1 : n ≤ 9223372036854775807) (w : World) :
    Calls Tryd.prog 15 #[.int .i64 n] w fun e w' => e = .returned (.string (ofL (Lib.itoa n))) ∧ w' = w := by
  by_cases hn : n < 0
  · by_cases hs : -10 < n
    · rw [itoa_small n hn, ← ofL_append]
      have z1 : (ofL (Lib.decDigits n.natAbs)).size ≤ 20 := by rw [ofL_size, Lib.decDigits_length]; exact nDigits_le _ (by omega)
      have D1 : Hid (∀ (w : World), Calls Tryd.prog 23 #[.int .i64 (-n)] w fun e w' => e = .returned (.string (ofL (Lib.decDigits n.natAbs))) ∧ w' = w) := fun w => by
        have := digits_c n.natAbs (by omega) w
        rw [show ((n.natAbs : Nat) : Int) = -n by omega] at this
        exact this
      generalize ofL (Lib.decDigits n.natAbs) = a1 at z1 D1
      go_enter Tryd.func15, Tryd.ntmps15
      go_wp2_with (go_at_call 23; refine (D1.out _).mono ?_; rintro e w1 ⟨rfl, rfl⟩)
      go_ret
      exact ⟨rfl, rfl⟩
    · have D1 : Hid (∀ (w : World), Calls Tryd.prog 23 #[.int .i64 n] w fun e w' => e = .returned (.string (ofL (Lib.itoa n))) ∧ w' = w) := fun w => digits_neg n h0 (by omega) w
      generalize ofL (Lib.itoa n) = a1 at D1
      have g1 : decide (-10 < n) = false := by simpa using hs
      go_enter Tryd.func15, Tryd.ntmps15
      go_wp2_with (go_at_call 23; refine (D1.out _).mono ?_; rintro e w1 ⟨rfl, rfl⟩)
      go_ret
      exact ⟨rfl, rfl⟩
  · have D1 : Hid (∀ (w : World), Calls Tryd.prog 23 #[.int .i64 n] w fun e w' => e = .returned (.string (ofL (Lib.itoa n))) ∧ w' = w) := fun w => by
      have := digits_c n.toNat (by omega) w
      rw [show ((n.toNat : Nat) : Int) = n by omega] at this
      unfold Lib.itoa
      rw [if_neg hn]
      exact this
    generalize ofL (Lib.itoa n) = a1 at D1
    have g1 : decide (n < 0) = false := by simpa using hn
    have g2 : 0 ≤ n := by omega
    go_enter Tryd.func15, Tryd.ntmps15
    go_wp2_with (go_at_call 23; refine (D1.out _).mono ?_; rintro e w1 ⟨rfl, rfl⟩)
    go_ret
    exact ⟨rfl, rfl⟩

end Go.Proofs.YtdpmdonneoadbaaDoor
