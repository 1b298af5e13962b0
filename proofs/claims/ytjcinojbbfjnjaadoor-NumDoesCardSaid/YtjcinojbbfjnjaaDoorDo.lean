/-
  Proved: what num.Do answers for each of its ten signs on numbers of any integer type, in every world in which the table num.shapes holds what the program's text lays there; nothing that was in memory turns.
-/
import Derived.Test.YtjcinojbbfjnjaaDoorBase
import Derived.Deep.RegionWith
namespace Go.Proofs.YtjcinojbbfjnjaaDoor
open Go.RowKit

/-- A whole number, if it is in the range, else 0. -/
def fitv (l m v : Int) : Int := if l ≤ v ∧ v ≤ m then v else 0
/-- No fault, or Overflow. -/
def fitf (l m v : Int) : Int := if l ≤ v ∧ v ≤ m then 0 else 1

set_option maxHeartbeats 400000 in
theorem within_yes {k l m : Int} (v : Int) (h : Rg k l m) (h1 : l ≤ v) (h2 : v ≤ m) (w : World) (t : Tab w) :
    Calls Tryd.prog 24 #[.int .i64 k, .int .i64 v] w fun e w' => e = .returned (.bool true) ∧ Below w.heap.size w w' := by
  have H : Hid (Rg k l m) := h
  have T : Hid (Tab w) := t
  clear h t
  go_enter Tryd.func24, Tryd.ntmps24
  go_wp2_with (go_at_call 10; refine (range_any H.out _ T.out).mono ?_; rintro e w1 ⟨rfl, hb⟩)
  go_ret
  exact ⟨rfl, hb⟩
set_option maxHeartbeats 400000 in
theorem within_lo {k l m : Int} (v : Int) (h : Rg k l m) (h1 : v < l) (w : World) (t : Tab w) :
    Calls Tryd.prog 24 #[.int .i64 k, .int .i64 v] w fun e w' => e = .returned (.bool false) ∧ Below w.heap.size w w' := by
  have H : Hid (Rg k l m) := h
  have T : Hid (Tab w) := t
  have hd : decide (l ≤ v) = false := by simp; omega
  clear h t
  go_enter Tryd.func24, Tryd.ntmps24
  go_wp2_with (go_at_call 10; refine (range_any H.out _ T.out).mono ?_; rintro e w1 ⟨rfl, hb⟩)
  go_ret
  exact ⟨rfl, hb⟩
set_option maxHeartbeats 400000 in
theorem within_hi {k l m : Int} (v : Int) (h : Rg k l m) (h0 : l ≤ v) (h1 : m < v) (w : World) (t : Tab w) :
    Calls Tryd.prog 24 #[.int .i64 k, .int .i64 v] w fun e w' => e = .returned (.bool false) ∧ Below w.heap.size w w' := by
  have H : Hid (Rg k l m) := h
  have T : Hid (Tab w) := t
  have hd : decide (v ≤ m) = false := by simp; omega
  clear h t
  go_enter Tryd.func24, Tryd.ntmps24
  go_wp2_with (go_at_call 10; refine (range_any H.out _ T.out).mono ?_; rintro e w1 ⟨rfl, hb⟩)
  go_ret
  exact ⟨rfl, hb⟩
theorem within_no {k l m : Int} (v : Int) (h : Rg k l m) (h1 : v < l ∨ m < v) (w : World) (t : Tab w) :
    Calls Tryd.prog 24 #[.int .i64 k, .int .i64 v] w fun e w' => e = .returned (.bool false) ∧ Below w.heap.size w w' := by
  by_cases hl : v < l
  · exact within_lo v h hl w t
  · exact within_hi v h (by omega) (by omega) w t

set_option maxHeartbeats 400000 in
theorem fit_yes {k l m : Int} (v : Int) (h : Rg k l m) (h1 : l ≤ v) (h2 : v ≤ m) (w : World) (t : Tab w) :
    Calls Tryd.prog 27 #[.int .i64 k, .int .i64 v] w fun e w' => e = .returned (.tuple #[.int .i64 v, .int .i64 0]) ∧ Below w.heap.size w w' := by
  have H : Hid (Rg k l m) := h
  have T : Hid (Tab w) := t
  clear h t
  go_enter Tryd.func27, Tryd.ntmps27
  go_wp2_with (go_at_call 24; refine (within_yes _ H.out (by assumption) (by assumption) _ T.out).mono ?_; rintro e w1 ⟨rfl, hb⟩)
  go_ret2
  exact ⟨rfl, hb⟩
set_option maxHeartbeats 400000 in
theorem fit_no {k l m : Int} (v : Int) (h : Rg k l m) (h1 : v < l ∨ m < v) (w : World) (t : Tab w) :
    Calls Tryd.prog 27 #[.int .i64 k, .int .i64 v] w fun e w' => e = .returned (.tuple #[.int .i64 0, .int .i64 1]) ∧ Below w.heap.size w w' := by
  have H : Hid (Rg k l m) := h
  have T : Hid (Tab w) := t
  have V : Hid (v < l ∨ m < v) := h1
  clear h t h1
  go_enter Tryd.func27, Tryd.ntmps27
  go_wp2_with (go_at_call 24; refine (within_no _ H.out V.out _ T.out).mono ?_; rintro e w1 ⟨rfl, hb⟩)
  go_ret2
  exact ⟨rfl, hb⟩
theorem fit_any {k l m : Int} (v : Int) (h : Rg k l m) (w : World) (t : Tab w) :
    Calls Tryd.prog 27 #[.int .i64 k, .int .i64 v] w fun e w' => e = .returned (.tuple #[.int .i64 (fitv l m v), .int .i64 (fitf l m v)]) ∧ Below w.heap.size w w' := by
  by_cases hv : l ≤ v ∧ v ≤ m
  · rw [show fitv l m v = v from if_pos hv, show fitf l m v = 0 from if_pos hv]; exact fit_yes v h hv.1 hv.2 w t
  · rw [show fitv l m v = 0 from if_neg hv, show fitf l m v = 1 from if_neg hv]; exact fit_no v h (by omega) w t

set_option maxHeartbeats 400000 in
theorem div_zero {k : Int} (a : Int) (w : World) :
    Calls Tryd.prog 29 #[.int .i64 k, .int .i64 a, .int .i64 0] w fun e w' => e = .returned (.tuple #[.int .i64 0, .int .i64 2]) ∧ Below w.heap.size w w' := by
  go_enter Tryd.func29, Tryd.ntmps29
  go_wp2
  go_ret2
  exact ⟨rfl, Below.refl _ _⟩
set_option maxHeartbeats 400000 in
theorem div_any {k l m : Int} (a b : Int) (h : Rg k l m) (hb0 : ¬ b = 0) (hw : wrap64 (a.tdiv b) = a.tdiv b) (w : World) (t : Tab w) :
    Calls Tryd.prog 29 #[.int .i64 k, .int .i64 a, .int .i64 b] w fun e w' => e = .returned (.tuple #[.int .i64 (fitv l m (a.tdiv b)), .int .i64 (fitf l m (a.tdiv b))]) ∧ Below w.heap.size w w' := by
  have H : Hid (Rg k l m) := h
  have T : Hid (Tab w) := t
  have B : (b == 0) = false := by simpa using hb0
  clear h t
  go_enter Tryd.func29, Tryd.ntmps29
  go_wp2_with (go_at_call 27; refine (fit_any _ H.out _ T.out).mono ?_; rintro e w1 ⟨rfl, hb⟩)
  go_ret2
  exact ⟨rfl, hb⟩

set_option maxHeartbeats 400000 in
theorem rem_zero {k : Int} (a : Int) (w : World) :
    Calls Tryd.prog 30 #[.int .i64 k, .int .i64 a, .int .i64 0] w fun e w' => e = .returned (.tuple #[.int .i64 0, .int .i64 2]) ∧ Below w.heap.size w w' := by
  go_enter Tryd.func30, Tryd.ntmps30
  go_wp2_with (go_at_call 29; refine (div_zero _ _).mono ?_; rintro e w1 ⟨rfl, hb⟩)
  go_ret2
  exact ⟨rfl, hb⟩
set_option maxHeartbeats 400000 in
theorem rem_over {k l m : Int} (a b : Int) (h : Rg k l m) (hb0 : ¬ b = 0) (hw : wrap64 (a.tdiv b) = a.tdiv b) (hf : fitf l m (a.tdiv b) = 1) (w : World) (t : Tab w) :
    Calls Tryd.prog 30 #[.int .i64 k, .int .i64 a, .int .i64 b] w fun e w' => e = .returned (.tuple #[.int .i64 0, .int .i64 1]) ∧ Below w.heap.size w w' := by
  have H : Hid (Rg k l m) := h
  have T : Hid (Tab w) := t
  have B : Hid (¬ b = 0) := hb0
  have W : Hid (wrap64 (a.tdiv b) = a.tdiv b) := hw
  clear h t hw hb0
  go_enter Tryd.func30, Tryd.ntmps30
  go_wp2_with (go_at_call 29; refine (div_any _ _ H.out B.out W.out _ T.out).mono ?_; rintro e w1 ⟨rfl, hb⟩)
  go_ret2
  exact ⟨rfl, hb⟩
set_option maxHeartbeats 400000 in
theorem rem_fine {k l m : Int} (a b : Int) (h : Rg k l m) (hb0 : ¬ b = 0) (hw : wrap64 (a.tdiv b) = a.tdiv b) (hf : fitf l m (a.tdiv b) = 0) (w : World) (t : Tab w) :
    Calls Tryd.prog 30 #[.int .i64 k, .int .i64 a, .int .i64 b] w fun e w' => e = .returned (.tuple #[.int .i64 (a.tmod b), .int .i64 0]) ∧ Below w.heap.size w w' := by
  have H : Hid (Rg k l m) := h
  have T : Hid (Tab w) := t
  have B : (b == 0) = false := by simpa using hb0
  have W : Hid (wrap64 (a.tdiv b) = a.tdiv b) := hw
  clear h t hw
  go_enter Tryd.func30, Tryd.ntmps30
  go_wp2_with (go_at_call 29; refine (div_any _ _ H.out (by simpa using B) W.out _ T.out).mono ?_; rintro e w1 ⟨rfl, hb⟩)
  go_ret2
  exact ⟨rfl, hb⟩

/-! MORE -/
/-- k is an integer type with n bits, a sign or none, and the numbers from l to m. -/
structure KK (k n : Int) (s : Bool) (l m : Int) : Prop where
  sh : Sh k n s
  rg : Rg k l m
  lo : 3 ≤ k
  hi : k ≤ 8

theorem KK.bd {k n : Int} {s : Bool} {l m : Int} (h : KK k n s l m) : -2147483648 ≤ l ∧ l ≤ 0 ∧ 127 ≤ m ∧ m ≤ 4294967295 ∧ 8 ≤ n ∧ n ≤ 32 ∧ (l = 0 ∨ m ≤ 2147483647) := by
  obtain ⟨a, b, c, d⟩ := h
  unfold Sh at a
  unfold Rg at b
  omega

theorem KK.ex {k : Int} (h1 : 3 ≤ k) (h2 : k ≤ 8) : ∃ n s l m, KK k n s l m := by
  obtain ⟨n, s, a⟩ := Sh.ex k
  obtain ⟨l, m, b⟩ := Rg.ex k
  exact ⟨n, s, l, m, a, b, h1, h2⟩

theorem mul_abs {a b : Int} (h1 : a.natAbs ≤ 2147483648) (h2 : b.natAbs ≤ 2147483648) : (a * b).natAbs ≤ 4611686018427387904 := by
  rw [Int.natAbs_mul]
  exact Nat.le_trans (Nat.mul_le_mul h1 h2) (by decide)

theorem wrap64_id {x : Int} (h1 : -9223372036854775808 ≤ x) (h2 : x < 9223372036854775808) : wrap64 x = x := by unfold wrap64; omega

/-- A product that is made does not leave int. -/
theorem KK.mul {k n : Int} {s : Bool} {l m a b : Int} (h : KK k n s l m) (a1 : l ≤ a) (a2 : a ≤ m) (b1 : l ≤ b) (b2 : b ≤ m) (hc : ¬ (0 < a ∧ 0 < b) ∨ a ≤ m / b) : wrap64 (a * b) = a * b := by
  have hd := h.bd
  rcases hd.2.2.2.2.2.2 with e | e
  · subst e
    by_cases ha : 0 < a ∧ 0 < b
    · have h3 : a ≤ m / b := by
        rcases hc with hc | hc
        · exact absurd ha hc
        · exact hc
      have h4 : a * b ≤ m := Int.mul_le_of_le_ediv ha.2 h3
      have h5 : 0 < a * b := Int.mul_pos ha.1 ha.2
      exact wrap64_id (by omega) (by omega)
    · have : a = 0 ∨ b = 0 := by omega
      rcases this with rfl | rfl <;> simp [wrap64]
  · have := mul_abs (a := a) (b := b) (by omega) (by omega)
    exact wrap64_id (by omega) (by omega)

theorem KK.div {k n : Int} {s : Bool} {l m a : Int} (b : Int) (h : KK k n s l m) (a1 : l ≤ a) (a2 : a ≤ m) : wrap64 (a.tdiv b) = a.tdiv b := by
  have hd := h.bd
  have : (a.tdiv b).natAbs ≤ a.natAbs := Int.natAbs_tdiv_le_natAbs a b
  exact wrap64_id (by omega) (by omega)

set_option maxHeartbeats 400000 in
theorem mul_big {k l m : Int} (a b : Int) (h : Rg k l m) (ha : 0 < a) (hb0 : 0 < b) (hm0 : 0 ≤ m) (hm1 : m ≤ 4294967295) (hq : m / b < a) (w : World) (t : Tab w) :
    Calls Tryd.prog 28 #[.int .i64 k, .int .i64 a, .int .i64 b] w fun e w' => e = .returned (.tuple #[.int .i64 0, .int .i64 1]) ∧ Below w.heap.size w w' := by
  have H : Hid (Rg k l m) := h
  have T : Hid (Tab w) := t
  have R : Hid (Below w.heap.size w w) := Below.refl _ _
  clear h t
  go_enter Tryd.func28, Tryd.ntmps28
  go_wp2_with (first | (go_at_call 10; refine (range_any H.out _ (Hid.out (by assumption))).mono ?_; rintro e w1 ⟨rfl, hb⟩; have R : Hid (Below w.heap.size w w1) := Below.next R.out hb; have T : Hid (Tab w1) := T.out.below hb; clear hb) | (go_at_call 27; refine (fit_any _ H.out _ (Hid.out (by assumption))).mono ?_; rintro e w1 ⟨rfl, hb⟩; have R : Hid (Below w.heap.size w w1) := Below.next R.out hb; have T : Hid (Tab w1) := T.out.below hb; clear hb))
  go_ret2
  exact ⟨rfl, R.out⟩
set_option maxHeartbeats 400000 in
theorem mul_pp {k l m : Int} (a b : Int) (h : Rg k l m) (ha : 0 < a) (hb0 : 0 < b) (hm0 : 0 ≤ m) (hm1 : m ≤ 4294967295) (hq : a ≤ m / b) (hw : wrap64 (a * b) = a * b) (w : World) (t : Tab w) :
    Calls Tryd.prog 28 #[.int .i64 k, .int .i64 a, .int .i64 b] w fun e w' => e = .returned (.tuple #[.int .i64 (fitv l m (a * b)), .int .i64 (fitf l m (a * b))]) ∧ Below w.heap.size w w' := by
  have hd : decide (m / b < a) = false := by simp; omega
  have H : Hid (Rg k l m) := h
  have T : Hid (Tab w) := t
  have R : Hid (Below w.heap.size w w) := Below.refl _ _
  clear h t
  go_enter Tryd.func28, Tryd.ntmps28
  go_wp2_with (first | (go_at_call 10; refine (range_any H.out _ (Hid.out (by assumption))).mono ?_; rintro e w1 ⟨rfl, hb⟩; have R : Hid (Below w.heap.size w w1) := Below.next R.out hb; have T : Hid (Tab w1) := T.out.below hb; clear hb) | (go_at_call 27; refine (fit_any _ H.out _ (Hid.out (by assumption))).mono ?_; rintro e w1 ⟨rfl, hb⟩; have R : Hid (Below w.heap.size w w1) := Below.next R.out hb; have T : Hid (Tab w1) := T.out.below hb; clear hb))
  go_ret2
  exact ⟨rfl, R.out⟩
set_option maxHeartbeats 400000 in
theorem mul_np {k l m : Int} (a b : Int) (h : Rg k l m) (ha : a ≤ 0) (hw : wrap64 (a * b) = a * b) (w : World) (t : Tab w) :
    Calls Tryd.prog 28 #[.int .i64 k, .int .i64 a, .int .i64 b] w fun e w' => e = .returned (.tuple #[.int .i64 (fitv l m (a * b)), .int .i64 (fitf l m (a * b))]) ∧ Below w.heap.size w w' := by
  have hd : decide (0 < a) = false := by simp; omega
  have H : Hid (Rg k l m) := h
  have T : Hid (Tab w) := t
  have R : Hid (Below w.heap.size w w) := Below.refl _ _
  clear h t
  go_enter Tryd.func28, Tryd.ntmps28
  go_wp2_with (first | (go_at_call 10; refine (range_any H.out _ (Hid.out (by assumption))).mono ?_; rintro e w1 ⟨rfl, hb⟩; have R : Hid (Below w.heap.size w w1) := Below.next R.out hb; have T : Hid (Tab w1) := T.out.below hb; clear hb) | (go_at_call 27; refine (fit_any _ H.out _ (Hid.out (by assumption))).mono ?_; rintro e w1 ⟨rfl, hb⟩; have R : Hid (Below w.heap.size w w1) := Below.next R.out hb; have T : Hid (Tab w1) := T.out.below hb; clear hb))
  go_ret2
  exact ⟨rfl, R.out⟩
set_option maxHeartbeats 400000 in
theorem mul_pn {k l m : Int} (a b : Int) (h : Rg k l m) (ha : 0 < a) (hb0 : b ≤ 0) (hw : wrap64 (a * b) = a * b) (w : World) (t : Tab w) :
    Calls Tryd.prog 28 #[.int .i64 k, .int .i64 a, .int .i64 b] w fun e w' => e = .returned (.tuple #[.int .i64 (fitv l m (a * b)), .int .i64 (fitf l m (a * b))]) ∧ Below w.heap.size w w' := by
  have hd : decide (0 < b) = false := by simp; omega
  have H : Hid (Rg k l m) := h
  have T : Hid (Tab w) := t
  have R : Hid (Below w.heap.size w w) := Below.refl _ _
  clear h t
  go_enter Tryd.func28, Tryd.ntmps28
  go_wp2_with (first | (go_at_call 10; refine (range_any H.out _ (Hid.out (by assumption))).mono ?_; rintro e w1 ⟨rfl, hb⟩; have R : Hid (Below w.heap.size w w1) := Below.next R.out hb; have T : Hid (Tab w1) := T.out.below hb; clear hb) | (go_at_call 27; refine (fit_any _ H.out _ (Hid.out (by assumption))).mono ?_; rintro e w1 ⟨rfl, hb⟩; have R : Hid (Below w.heap.size w w1) := Below.next R.out hb; have T : Hid (Tab w1) := T.out.below hb; clear hb))
  go_ret2
  exact ⟨rfl, R.out⟩

theorem mul_any {k n : Int} {s : Bool} {l m : Int} (a b : Int) (h : KK k n s l m) (a1 : l ≤ a) (a2 : a ≤ m) (b1 : l ≤ b) (b2 : b ≤ m) (w : World) (t : Tab w) :
    Calls Tryd.prog 28 #[.int .i64 k, .int .i64 a, .int .i64 b] w fun e w' => e = .returned (.tuple #[.int .i64 (fitv l m (a * b)), .int .i64 (fitf l m (a * b))]) ∧ Below w.heap.size w w' := by
  have hd := h.bd
  by_cases ha : 0 < a
  · by_cases hb : 0 < b
    · by_cases hq : a ≤ m / b
      · exact mul_pp a b h.rg ha hb (by omega) (by omega) hq (h.mul a1 a2 b1 b2 (.inr hq)) w t
      · have hx : ¬ (l ≤ a * b ∧ a * b ≤ m) := fun hh => hq (Int.le_ediv_of_mul_le hb hh.2)
        rw [show fitv l m (a * b) = 0 from if_neg hx, show fitf l m (a * b) = 1 from if_neg hx]
        exact mul_big a b h.rg ha hb (by omega) (by omega) (by omega) w t
    · exact mul_pn a b h.rg ha (by omega) (h.mul a1 a2 b1 b2 (.inl (by omega))) w t
  · exact mul_np a b h.rg (by omega) (h.mul a1 a2 b1 b2 (.inl (by omega))) w t

set_option maxHeartbeats 400000 in
theorem shifts_yes {k n : Int} {s : Bool} (b : Int) (h : Sh k n s) (h1 : 0 ≤ b) (h2 : b < n) (w : World) (t : Tab w) :
    Calls Tryd.prog 33 #[.int .i64 k, .int .i64 b] w fun e w' => e = .returned (.bool true) ∧ Below w.heap.size w w' := by
  have H : Hid (Sh k n s) := h
  have T : Hid (Tab w) := t
  have R : Hid (Below w.heap.size w w) := Below.refl _ _
  clear h t
  go_enter Tryd.func33, Tryd.ntmps33
  go_wp2_with (first | (go_at_call 8; refine (bits_any H.out _ (Hid.out (by assumption))).mono ?_; rintro e w1 ⟨rfl, hb⟩; have R : Hid (Below w.heap.size w w1) := Below.next R.out hb; have T : Hid (Tab w1) := T.out.below hb; clear hb))
  go_ret
  exact ⟨rfl, R.out⟩
set_option maxHeartbeats 400000 in
theorem shifts_neg {k n : Int} {s : Bool} (b : Int) (h : Sh k n s) (h1 : b < 0) (w : World) (t : Tab w) :
    Calls Tryd.prog 33 #[.int .i64 k, .int .i64 b] w fun e w' => e = .returned (.bool false) ∧ Below w.heap.size w w' := by
  have hd : decide (0 ≤ b) = false := by simp; omega
  have H : Hid (Sh k n s) := h
  have T : Hid (Tab w) := t
  have R : Hid (Below w.heap.size w w) := Below.refl _ _
  clear h t
  go_enter Tryd.func33, Tryd.ntmps33
  go_wp2_with (first | (go_at_call 8; refine (bits_any H.out _ (Hid.out (by assumption))).mono ?_; rintro e w1 ⟨rfl, hb⟩; have R : Hid (Below w.heap.size w w1) := Below.next R.out hb; have T : Hid (Tab w1) := T.out.below hb; clear hb))
  go_ret
  exact ⟨rfl, R.out⟩
set_option maxHeartbeats 400000 in
theorem shifts_big {k n : Int} {s : Bool} (b : Int) (h : Sh k n s) (h1 : 0 ≤ b) (h2 : n ≤ b) (w : World) (t : Tab w) :
    Calls Tryd.prog 33 #[.int .i64 k, .int .i64 b] w fun e w' => e = .returned (.bool false) ∧ Below w.heap.size w w' := by
  have hd : decide (b < n) = false := by simp; omega
  have H : Hid (Sh k n s) := h
  have T : Hid (Tab w) := t
  have R : Hid (Below w.heap.size w w) := Below.refl _ _
  clear h t
  go_enter Tryd.func33, Tryd.ntmps33
  go_wp2_with (first | (go_at_call 8; refine (bits_any H.out _ (Hid.out (by assumption))).mono ?_; rintro e w1 ⟨rfl, hb⟩; have R : Hid (Below w.heap.size w w1) := Below.next R.out hb; have T : Hid (Tab w1) := T.out.below hb; clear hb))
  go_ret
  exact ⟨rfl, R.out⟩
theorem shifts_no {k n : Int} {s : Bool} (b : Int) (h : Sh k n s) (hb : b < 0 ∨ n ≤ b) (w : World) (t : Tab w) :
    Calls Tryd.prog 33 #[.int .i64 k, .int .i64 b] w fun e w' => e = .returned (.bool false) ∧ Below w.heap.size w w' := by
  by_cases hl : b < 0
  · exact shifts_neg b h hl w t
  · exact shifts_big b h (by omega) (by omega) w t

set_option maxHeartbeats 400000 in
theorem shl_no {k n : Int} {s : Bool} (a b : Int) (h : Sh k n s) (hb : b < 0 ∨ n ≤ b) (w : World) (t : Tab w) :
    Calls Tryd.prog 25 #[.int .i64 k, .int .i64 a, .int .i64 b] w fun e w' => e = .returned (.tuple #[.int .i64 0, .int .i64 1]) ∧ Below w.heap.size w w' := by
  have H : Hid (Sh k n s) := h
  have B : Hid (b < 0 ∨ n ≤ b) := hb
  have T : Hid (Tab w) := t
  have R : Hid (Below w.heap.size w w) := Below.refl _ _
  clear h t hb
  go_enter Tryd.func25, Tryd.ntmps25
  go_wp2_with (first | (go_at_call 33; refine (shifts_no _ H.out B.out _ (Hid.out (by assumption))).mono ?_; rintro e w1 ⟨rfl, hb⟩; have R : Hid (Below w.heap.size w w1) := Below.next R.out hb; have T : Hid (Tab w1) := T.out.below hb; clear hb))
  go_ret2
  exact ⟨rfl, R.out⟩
set_option maxHeartbeats 400000 in
theorem shr_no {k n : Int} {s : Bool} (a b : Int) (h : Sh k n s) (hb : b < 0 ∨ n ≤ b) (w : World) (t : Tab w) :
    Calls Tryd.prog 26 #[.int .i64 k, .int .i64 a, .int .i64 b] w fun e w' => e = .returned (.tuple #[.int .i64 0, .int .i64 1]) ∧ Below w.heap.size w w' := by
  have H : Hid (Sh k n s) := h
  have B : Hid (b < 0 ∨ n ≤ b) := hb
  have T : Hid (Tab w) := t
  have R : Hid (Below w.heap.size w w) := Below.refl _ _
  clear h t hb
  go_enter Tryd.func26, Tryd.ntmps26
  go_wp2_with (first | (go_at_call 33; refine (shifts_no _ H.out B.out _ (Hid.out (by assumption))).mono ?_; rintro e w1 ⟨rfl, hb⟩; have R : Hid (Below w.heap.size w w1) := Below.next R.out hb; have T : Hid (Tab w1) := T.out.below hb; clear hb))
  go_ret2
  exact ⟨rfl, R.out⟩
set_option maxHeartbeats 400000 in
theorem shl_yes {k n : Int} {s : Bool} {l m : Int} (a b : Int) (h : KK k n s l m) (h1 : 0 ≤ b) (h2 : b < n) (h3 : b ≤ 32) (w : World) (t : Tab w) :
    Calls Tryd.prog 25 #[.int .i64 k, .int .i64 a, .int .i64 b] w fun e w' => e = .returned (.tuple #[.int .i64 (wr k (wrap64 (a * 2 ^ b.toNat))), .int .i64 0]) ∧ Below w.heap.size w w' := by
  have H : Hid (KK k n s l m) := h
  have T : Hid (Tab w) := t
  have R : Hid (Below w.heap.size w w) := Below.refl _ _
  clear h t
  go_enter Tryd.func25, Tryd.ntmps25
  go_wp2_with (first | (go_at_call 33; refine (shifts_yes _ H.out.sh (by assumption) (by assumption) _ (Hid.out (by assumption))).mono ?_; rintro e w1 ⟨rfl, hb⟩; have R : Hid (Below w.heap.size w w1) := Below.next R.out hb; have T : Hid (Tab w1) := T.out.below hb; clear hb) | (go_at_call 14; refine (wrap_any _ H.out.lo H.out.hi _ (Hid.out (by assumption))).mono ?_; rintro e w1 ⟨rfl, hb⟩; have R : Hid (Below w.heap.size w w1) := Below.next R.out hb; have T : Hid (Tab w1) := T.out.below hb; clear hb))
  go_ret2
  exact ⟨rfl, R.out⟩
set_option maxHeartbeats 400000 in
theorem shr_yes {k n : Int} {s : Bool} {l m : Int} (a b : Int) (h : KK k n s l m) (h1 : 0 ≤ b) (h2 : b < n) (h3 : b ≤ 32) (w : World) (t : Tab w) :
    Calls Tryd.prog 26 #[.int .i64 k, .int .i64 a, .int .i64 b] w fun e w' => e = .returned (.tuple #[.int .i64 (a / 2 ^ b.toNat), .int .i64 0]) ∧ Below w.heap.size w w' := by
  have H : Hid (KK k n s l m) := h
  have T : Hid (Tab w) := t
  have R : Hid (Below w.heap.size w w) := Below.refl _ _
  clear h t
  go_enter Tryd.func26, Tryd.ntmps26
  go_wp2_with (first | (go_at_call 33; refine (shifts_yes _ H.out.sh (by assumption) (by assumption) _ (Hid.out (by assumption))).mono ?_; rintro e w1 ⟨rfl, hb⟩; have R : Hid (Below w.heap.size w w1) := Below.next R.out hb; have T : Hid (Tab w1) := T.out.below hb; clear hb))
  go_ret2
  exact ⟨rfl, R.out⟩
set_option maxHeartbeats 1000000 in
theorem do_add {k n : Int} {s : Bool} {l m : Int} (a b : Int) (h : KK k n s l m) (a1 : l ≤ a) (a2 : a ≤ m) (b1 : l ≤ b) (b2 : b ≤ m)  (w : World) (t : Tab w) :
    Calls Tryd.prog 17 #[.string ⟨#[43]⟩, .int .i64 k, .int .i64 a, .int .i64 b] w fun e w' => e = .returned (.tuple #[.int .i64 (fitv l m (a + b)), .int .i64 (fitf l m (a + b))]) ∧ Below w.heap.size w w' := by
  have hd := h.bd
  obtain ⟨e1, e2, e3, e4, e5, e6, -⟩ := hd
  have H : Hid (KK k n s l m) := h
  have N : Hid (0 < n) := by show 0 < n; omega
  have T : Hid (Tab w) := t
  have R : Hid (Below w.heap.size w w) := Below.refl _ _
  clear h t
  go_enter Tryd.func17, Tryd.ntmps17
  go_wp2_with (first
    | (go_at_call 12; refine (int_yes H.out.sh N.out _ (Hid.out (by assumption))).mono ?_; rintro e w1 ⟨rfl, hb⟩; have R : Hid (Below w.heap.size w w1) := Below.next R.out hb; have T : Hid (Tab w1) := T.out.below hb; clear hb)
    | (go_at_call 24; refine (within_yes _ H.out.rg (by assumption) (by assumption) _ (Hid.out (by assumption))).mono ?_; rintro e w1 ⟨rfl, hb⟩; have R : Hid (Below w.heap.size w w1) := Below.next R.out hb; have T : Hid (Tab w1) := T.out.below hb; clear hb)
    | (go_at_call 27; refine (fit_any _ H.out.rg _ (Hid.out (by assumption))).mono ?_; rintro e w1 ⟨rfl, hb⟩; have R : Hid (Below w.heap.size w w1) := Below.next R.out hb; have T : Hid (Tab w1) := T.out.below hb; clear hb))
  go_ret2
  exact ⟨rfl, R.out⟩
set_option maxHeartbeats 1000000 in
theorem do_sub {k n : Int} {s : Bool} {l m : Int} (a b : Int) (h : KK k n s l m) (a1 : l ≤ a) (a2 : a ≤ m) (b1 : l ≤ b) (b2 : b ≤ m)  (w : World) (t : Tab w) :
    Calls Tryd.prog 17 #[.string ⟨#[45]⟩, .int .i64 k, .int .i64 a, .int .i64 b] w fun e w' => e = .returned (.tuple #[.int .i64 (fitv l m (a - b)), .int .i64 (fitf l m (a - b))]) ∧ Below w.heap.size w w' := by
  have hd := h.bd
  obtain ⟨e1, e2, e3, e4, e5, e6, -⟩ := hd
  have H : Hid (KK k n s l m) := h
  have N : Hid (0 < n) := by show 0 < n; omega
  have T : Hid (Tab w) := t
  have R : Hid (Below w.heap.size w w) := Below.refl _ _
  clear h t
  go_enter Tryd.func17, Tryd.ntmps17
  go_wp2_with (first
    | (go_at_call 12; refine (int_yes H.out.sh N.out _ (Hid.out (by assumption))).mono ?_; rintro e w1 ⟨rfl, hb⟩; have R : Hid (Below w.heap.size w w1) := Below.next R.out hb; have T : Hid (Tab w1) := T.out.below hb; clear hb)
    | (go_at_call 24; refine (within_yes _ H.out.rg (by assumption) (by assumption) _ (Hid.out (by assumption))).mono ?_; rintro e w1 ⟨rfl, hb⟩; have R : Hid (Below w.heap.size w w1) := Below.next R.out hb; have T : Hid (Tab w1) := T.out.below hb; clear hb)
    | (go_at_call 27; refine (fit_any _ H.out.rg _ (Hid.out (by assumption))).mono ?_; rintro e w1 ⟨rfl, hb⟩; have R : Hid (Below w.heap.size w w1) := Below.next R.out hb; have T : Hid (Tab w1) := T.out.below hb; clear hb))
  go_ret2
  exact ⟨rfl, R.out⟩
set_option maxHeartbeats 1000000 in
theorem do_mul {k n : Int} {s : Bool} {l m : Int} (a b : Int) (h : KK k n s l m) (a1 : l ≤ a) (a2 : a ≤ m) (b1 : l ≤ b) (b2 : b ≤ m)  (w : World) (t : Tab w) :
    Calls Tryd.prog 17 #[.string ⟨#[42]⟩, .int .i64 k, .int .i64 a, .int .i64 b] w fun e w' => e = .returned (.tuple #[.int .i64 (fitv l m (a * b)), .int .i64 (fitf l m (a * b))]) ∧ Below w.heap.size w w' := by
  have hd := h.bd
  obtain ⟨e1, e2, e3, e4, e5, e6, -⟩ := hd
  have H : Hid (KK k n s l m) := h
  have N : Hid (0 < n) := by show 0 < n; omega
  have T : Hid (Tab w) := t
  have R : Hid (Below w.heap.size w w) := Below.refl _ _
  clear h t
  go_enter Tryd.func17, Tryd.ntmps17
  go_wp2_with (first
    | (go_at_call 12; refine (int_yes H.out.sh N.out _ (Hid.out (by assumption))).mono ?_; rintro e w1 ⟨rfl, hb⟩; have R : Hid (Below w.heap.size w w1) := Below.next R.out hb; have T : Hid (Tab w1) := T.out.below hb; clear hb)
    | (go_at_call 24; refine (within_yes _ H.out.rg (by assumption) (by assumption) _ (Hid.out (by assumption))).mono ?_; rintro e w1 ⟨rfl, hb⟩; have R : Hid (Below w.heap.size w w1) := Below.next R.out hb; have T : Hid (Tab w1) := T.out.below hb; clear hb)
    | (go_at_call 28; refine (mul_any _ _ H.out (by assumption) (by assumption) (by assumption) (by assumption) _ (Hid.out (by assumption))).mono ?_; rintro e w1 ⟨rfl, hb⟩; have R : Hid (Below w.heap.size w w1) := Below.next R.out hb; have T : Hid (Tab w1) := T.out.below hb; clear hb))
  go_ret2
  exact ⟨rfl, R.out⟩
set_option maxHeartbeats 1000000 in
theorem do_div {k n : Int} {s : Bool} {l m : Int} (a b : Int) (h : KK k n s l m) (a1 : l ≤ a) (a2 : a ≤ m) (b1 : l ≤ b) (b2 : b ≤ m) (hb0 : ¬ b = 0) (w : World) (t : Tab w) :
    Calls Tryd.prog 17 #[.string ⟨#[47]⟩, .int .i64 k, .int .i64 a, .int .i64 b] w fun e w' => e = .returned (.tuple #[.int .i64 (fitv l m (a.tdiv b)), .int .i64 (fitf l m (a.tdiv b))]) ∧ Below w.heap.size w w' := by
  have hd := h.bd
  obtain ⟨e1, e2, e3, e4, e5, e6, -⟩ := hd
  have H : Hid (KK k n s l m) := h
  have N : Hid (0 < n) := by show 0 < n; omega
  have T : Hid (Tab w) := t
  have R : Hid (Below w.heap.size w w) := Below.refl _ _
  clear h t
  go_enter Tryd.func17, Tryd.ntmps17
  go_wp2_with (first
    | (go_at_call 12; refine (int_yes H.out.sh N.out _ (Hid.out (by assumption))).mono ?_; rintro e w1 ⟨rfl, hb⟩; have R : Hid (Below w.heap.size w w1) := Below.next R.out hb; have T : Hid (Tab w1) := T.out.below hb; clear hb)
    | (go_at_call 24; refine (within_yes _ H.out.rg (by assumption) (by assumption) _ (Hid.out (by assumption))).mono ?_; rintro e w1 ⟨rfl, hb⟩; have R : Hid (Below w.heap.size w w1) := Below.next R.out hb; have T : Hid (Tab w1) := T.out.below hb; clear hb)
    | (go_at_call 29; refine (div_any _ _ H.out.rg (by assumption) (H.out.div b (by assumption) (by assumption)) _ (Hid.out (by assumption))).mono ?_; rintro e w1 ⟨rfl, hb⟩; have R : Hid (Below w.heap.size w w1) := Below.next R.out hb; have T : Hid (Tab w1) := T.out.below hb; clear hb))
  go_ret2
  exact ⟨rfl, R.out⟩
set_option maxHeartbeats 1000000 in
theorem do_div0 {k n : Int} {s : Bool} {l m : Int} (a b : Int) (h : KK k n s l m) (a1 : l ≤ a) (a2 : a ≤ m) (b1 : l ≤ b) (b2 : b ≤ m) (hb0 : b = 0) (w : World) (t : Tab w) :
    Calls Tryd.prog 17 #[.string ⟨#[47]⟩, .int .i64 k, .int .i64 a, .int .i64 b] w fun e w' => e = .returned (.tuple #[.int .i64 (0), .int .i64 (2)]) ∧ Below w.heap.size w w' := by
  subst hb0
  have hd := h.bd
  obtain ⟨e1, e2, e3, e4, e5, e6, -⟩ := hd
  have H : Hid (KK k n s l m) := h
  have N : Hid (0 < n) := by show 0 < n; omega
  have T : Hid (Tab w) := t
  have R : Hid (Below w.heap.size w w) := Below.refl _ _
  clear h t
  go_enter Tryd.func17, Tryd.ntmps17
  go_wp2_with (first
    | (go_at_call 12; refine (int_yes H.out.sh N.out _ (Hid.out (by assumption))).mono ?_; rintro e w1 ⟨rfl, hb⟩; have R : Hid (Below w.heap.size w w1) := Below.next R.out hb; have T : Hid (Tab w1) := T.out.below hb; clear hb)
    | (go_at_call 24; refine (within_yes _ H.out.rg (by assumption) (by assumption) _ (Hid.out (by assumption))).mono ?_; rintro e w1 ⟨rfl, hb⟩; have R : Hid (Below w.heap.size w w1) := Below.next R.out hb; have T : Hid (Tab w1) := T.out.below hb; clear hb)
    | (go_at_call 29; refine (div_zero _ _).mono ?_; rintro e w1 ⟨rfl, hb⟩; have R : Hid (Below w.heap.size w w1) := Below.next R.out hb; have T : Hid (Tab w1) := T.out.below hb; clear hb))
  go_ret2
  exact ⟨rfl, R.out⟩
set_option maxHeartbeats 1000000 in
theorem do_rem {k n : Int} {s : Bool} {l m : Int} (a b : Int) (h : KK k n s l m) (a1 : l ≤ a) (a2 : a ≤ m) (b1 : l ≤ b) (b2 : b ≤ m) (hb0 : ¬ b = 0) (hf : fitf l m (a.tdiv b) = 0) (w : World) (t : Tab w) :
    Calls Tryd.prog 17 #[.string ⟨#[37]⟩, .int .i64 k, .int .i64 a, .int .i64 b] w fun e w' => e = .returned (.tuple #[.int .i64 (a.tmod b), .int .i64 (0)]) ∧ Below w.heap.size w w' := by
  have F : Hid (fitf l m (a.tdiv b) = 0) := hf
  clear hf
  have hd := h.bd
  obtain ⟨e1, e2, e3, e4, e5, e6, -⟩ := hd
  have H : Hid (KK k n s l m) := h
  have N : Hid (0 < n) := by show 0 < n; omega
  have T : Hid (Tab w) := t
  have R : Hid (Below w.heap.size w w) := Below.refl _ _
  clear h t
  go_enter Tryd.func17, Tryd.ntmps17
  go_wp2_with (first
    | (go_at_call 12; refine (int_yes H.out.sh N.out _ (Hid.out (by assumption))).mono ?_; rintro e w1 ⟨rfl, hb⟩; have R : Hid (Below w.heap.size w w1) := Below.next R.out hb; have T : Hid (Tab w1) := T.out.below hb; clear hb)
    | (go_at_call 24; refine (within_yes _ H.out.rg (by assumption) (by assumption) _ (Hid.out (by assumption))).mono ?_; rintro e w1 ⟨rfl, hb⟩; have R : Hid (Below w.heap.size w w1) := Below.next R.out hb; have T : Hid (Tab w1) := T.out.below hb; clear hb)
    | (go_at_call 30; refine (rem_fine _ _ H.out.rg (by assumption) (H.out.div b (by assumption) (by assumption)) F.out _ (Hid.out (by assumption))).mono ?_; rintro e w1 ⟨rfl, hb⟩; have R : Hid (Below w.heap.size w w1) := Below.next R.out hb; have T : Hid (Tab w1) := T.out.below hb; clear hb))
  go_ret2
  exact ⟨rfl, R.out⟩
set_option maxHeartbeats 1000000 in
theorem do_remo {k n : Int} {s : Bool} {l m : Int} (a b : Int) (h : KK k n s l m) (a1 : l ≤ a) (a2 : a ≤ m) (b1 : l ≤ b) (b2 : b ≤ m) (hb0 : ¬ b = 0) (hf : fitf l m (a.tdiv b) = 1) (w : World) (t : Tab w) :
    Calls Tryd.prog 17 #[.string ⟨#[37]⟩, .int .i64 k, .int .i64 a, .int .i64 b] w fun e w' => e = .returned (.tuple #[.int .i64 (0), .int .i64 (1)]) ∧ Below w.heap.size w w' := by
  have F : Hid (fitf l m (a.tdiv b) = 1) := hf
  clear hf
  have hd := h.bd
  obtain ⟨e1, e2, e3, e4, e5, e6, -⟩ := hd
  have H : Hid (KK k n s l m) := h
  have N : Hid (0 < n) := by show 0 < n; omega
  have T : Hid (Tab w) := t
  have R : Hid (Below w.heap.size w w) := Below.refl _ _
  clear h t
  go_enter Tryd.func17, Tryd.ntmps17
  go_wp2_with (first
    | (go_at_call 12; refine (int_yes H.out.sh N.out _ (Hid.out (by assumption))).mono ?_; rintro e w1 ⟨rfl, hb⟩; have R : Hid (Below w.heap.size w w1) := Below.next R.out hb; have T : Hid (Tab w1) := T.out.below hb; clear hb)
    | (go_at_call 24; refine (within_yes _ H.out.rg (by assumption) (by assumption) _ (Hid.out (by assumption))).mono ?_; rintro e w1 ⟨rfl, hb⟩; have R : Hid (Below w.heap.size w w1) := Below.next R.out hb; have T : Hid (Tab w1) := T.out.below hb; clear hb)
    | (go_at_call 30; refine (rem_over _ _ H.out.rg (by assumption) (H.out.div b (by assumption) (by assumption)) F.out _ (Hid.out (by assumption))).mono ?_; rintro e w1 ⟨rfl, hb⟩; have R : Hid (Below w.heap.size w w1) := Below.next R.out hb; have T : Hid (Tab w1) := T.out.below hb; clear hb))
  go_ret2
  exact ⟨rfl, R.out⟩
set_option maxHeartbeats 1000000 in
theorem do_rem0 {k n : Int} {s : Bool} {l m : Int} (a b : Int) (h : KK k n s l m) (a1 : l ≤ a) (a2 : a ≤ m) (b1 : l ≤ b) (b2 : b ≤ m) (hb0 : b = 0) (w : World) (t : Tab w) :
    Calls Tryd.prog 17 #[.string ⟨#[37]⟩, .int .i64 k, .int .i64 a, .int .i64 b] w fun e w' => e = .returned (.tuple #[.int .i64 (0), .int .i64 (2)]) ∧ Below w.heap.size w w' := by
  subst hb0
  have hd := h.bd
  obtain ⟨e1, e2, e3, e4, e5, e6, -⟩ := hd
  have H : Hid (KK k n s l m) := h
  have N : Hid (0 < n) := by show 0 < n; omega
  have T : Hid (Tab w) := t
  have R : Hid (Below w.heap.size w w) := Below.refl _ _
  clear h t
  go_enter Tryd.func17, Tryd.ntmps17
  go_wp2_with (first
    | (go_at_call 12; refine (int_yes H.out.sh N.out _ (Hid.out (by assumption))).mono ?_; rintro e w1 ⟨rfl, hb⟩; have R : Hid (Below w.heap.size w w1) := Below.next R.out hb; have T : Hid (Tab w1) := T.out.below hb; clear hb)
    | (go_at_call 24; refine (within_yes _ H.out.rg (by assumption) (by assumption) _ (Hid.out (by assumption))).mono ?_; rintro e w1 ⟨rfl, hb⟩; have R : Hid (Below w.heap.size w w1) := Below.next R.out hb; have T : Hid (Tab w1) := T.out.below hb; clear hb)
    | (go_at_call 30; refine (rem_zero _ _).mono ?_; rintro e w1 ⟨rfl, hb⟩; have R : Hid (Below w.heap.size w w1) := Below.next R.out hb; have T : Hid (Tab w1) := T.out.below hb; clear hb))
  go_ret2
  exact ⟨rfl, R.out⟩
set_option maxHeartbeats 1000000 in
theorem do_and {k n : Int} {s : Bool} {l m : Int} (a b : Int) (h : KK k n s l m) (a1 : l ≤ a) (a2 : a ≤ m) (b1 : l ≤ b) (b2 : b ≤ m)  (w : World) (t : Tab w) :
    Calls Tryd.prog 17 #[.string ⟨#[38]⟩, .int .i64 k, .int .i64 a, .int .i64 b] w fun e w' => e = .returned (.tuple #[.int .i64 (bits .and .i64 a b), .int .i64 (0)]) ∧ Below w.heap.size w w' := by
  have hd := h.bd
  obtain ⟨e1, e2, e3, e4, e5, e6, -⟩ := hd
  have H : Hid (KK k n s l m) := h
  have N : Hid (0 < n) := by show 0 < n; omega
  have T : Hid (Tab w) := t
  have R : Hid (Below w.heap.size w w) := Below.refl _ _
  clear h t
  go_enter Tryd.func17, Tryd.ntmps17
  go_wp2_with (first
    | (go_at_call 12; refine (int_yes H.out.sh N.out _ (Hid.out (by assumption))).mono ?_; rintro e w1 ⟨rfl, hb⟩; have R : Hid (Below w.heap.size w w1) := Below.next R.out hb; have T : Hid (Tab w1) := T.out.below hb; clear hb)
    | (go_at_call 24; refine (within_yes _ H.out.rg (by assumption) (by assumption) _ (Hid.out (by assumption))).mono ?_; rintro e w1 ⟨rfl, hb⟩; have R : Hid (Below w.heap.size w w1) := Below.next R.out hb; have T : Hid (Tab w1) := T.out.below hb; clear hb))
  go_ret2
  exact ⟨rfl, R.out⟩
set_option maxHeartbeats 1000000 in
theorem do_or {k n : Int} {s : Bool} {l m : Int} (a b : Int) (h : KK k n s l m) (a1 : l ≤ a) (a2 : a ≤ m) (b1 : l ≤ b) (b2 : b ≤ m)  (w : World) (t : Tab w) :
    Calls Tryd.prog 17 #[.string ⟨#[124]⟩, .int .i64 k, .int .i64 a, .int .i64 b] w fun e w' => e = .returned (.tuple #[.int .i64 (bits .or .i64 a b), .int .i64 (0)]) ∧ Below w.heap.size w w' := by
  have hd := h.bd
  obtain ⟨e1, e2, e3, e4, e5, e6, -⟩ := hd
  have H : Hid (KK k n s l m) := h
  have N : Hid (0 < n) := by show 0 < n; omega
  have T : Hid (Tab w) := t
  have R : Hid (Below w.heap.size w w) := Below.refl _ _
  clear h t
  go_enter Tryd.func17, Tryd.ntmps17
  go_wp2_with (first
    | (go_at_call 12; refine (int_yes H.out.sh N.out _ (Hid.out (by assumption))).mono ?_; rintro e w1 ⟨rfl, hb⟩; have R : Hid (Below w.heap.size w w1) := Below.next R.out hb; have T : Hid (Tab w1) := T.out.below hb; clear hb)
    | (go_at_call 24; refine (within_yes _ H.out.rg (by assumption) (by assumption) _ (Hid.out (by assumption))).mono ?_; rintro e w1 ⟨rfl, hb⟩; have R : Hid (Below w.heap.size w w1) := Below.next R.out hb; have T : Hid (Tab w1) := T.out.below hb; clear hb))
  go_ret2
  exact ⟨rfl, R.out⟩
set_option maxHeartbeats 1000000 in
theorem do_xor {k n : Int} {s : Bool} {l m : Int} (a b : Int) (h : KK k n s l m) (a1 : l ≤ a) (a2 : a ≤ m) (b1 : l ≤ b) (b2 : b ≤ m)  (w : World) (t : Tab w) :
    Calls Tryd.prog 17 #[.string ⟨#[94]⟩, .int .i64 k, .int .i64 a, .int .i64 b] w fun e w' => e = .returned (.tuple #[.int .i64 (bits .xor .i64 a b), .int .i64 (0)]) ∧ Below w.heap.size w w' := by
  have hd := h.bd
  obtain ⟨e1, e2, e3, e4, e5, e6, -⟩ := hd
  have H : Hid (KK k n s l m) := h
  have N : Hid (0 < n) := by show 0 < n; omega
  have T : Hid (Tab w) := t
  have R : Hid (Below w.heap.size w w) := Below.refl _ _
  clear h t
  go_enter Tryd.func17, Tryd.ntmps17
  go_wp2_with (first
    | (go_at_call 12; refine (int_yes H.out.sh N.out _ (Hid.out (by assumption))).mono ?_; rintro e w1 ⟨rfl, hb⟩; have R : Hid (Below w.heap.size w w1) := Below.next R.out hb; have T : Hid (Tab w1) := T.out.below hb; clear hb)
    | (go_at_call 24; refine (within_yes _ H.out.rg (by assumption) (by assumption) _ (Hid.out (by assumption))).mono ?_; rintro e w1 ⟨rfl, hb⟩; have R : Hid (Below w.heap.size w w1) := Below.next R.out hb; have T : Hid (Tab w1) := T.out.below hb; clear hb))
  go_ret2
  exact ⟨rfl, R.out⟩
set_option maxHeartbeats 1000000 in
theorem do_shl {k n : Int} {s : Bool} {l m : Int} (a b : Int) (h : KK k n s l m) (a1 : l ≤ a) (a2 : a ≤ m) (h1 : 0 ≤ b) (h2 : b < n) (w : World) (t : Tab w) :
    Calls Tryd.prog 17 #[.string ⟨#[60, 60]⟩, .int .i64 k, .int .i64 a, .int .i64 b] w fun e w' => e = .returned (.tuple #[.int .i64 (wr k (wrap64 (a * 2 ^ b.toNat))), .int .i64 (0)]) ∧ Below w.heap.size w w' := by
  have hn := h.bd
  have h3 : b ≤ 32 := by omega
  clear hn
  have hd := h.bd
  obtain ⟨e1, e2, e3, e4, e5, e6, -⟩ := hd
  have H : Hid (KK k n s l m) := h
  have N : Hid (0 < n) := by show 0 < n; omega
  have T : Hid (Tab w) := t
  have R : Hid (Below w.heap.size w w) := Below.refl _ _
  clear h t
  go_enter Tryd.func17, Tryd.ntmps17
  go_wp2_with (first
    | (go_at_call 12; refine (int_yes H.out.sh N.out _ (Hid.out (by assumption))).mono ?_; rintro e w1 ⟨rfl, hb⟩; have R : Hid (Below w.heap.size w w1) := Below.next R.out hb; have T : Hid (Tab w1) := T.out.below hb; clear hb)
    | (go_at_call 24; refine (within_yes _ H.out.rg (by assumption) (by assumption) _ (Hid.out (by assumption))).mono ?_; rintro e w1 ⟨rfl, hb⟩; have R : Hid (Below w.heap.size w w1) := Below.next R.out hb; have T : Hid (Tab w1) := T.out.below hb; clear hb)
    | (go_at_call 25; refine (shl_yes _ _ H.out (by assumption) (by assumption) (by assumption) _ (Hid.out (by assumption))).mono ?_; rintro e w1 ⟨rfl, hb⟩; have R : Hid (Below w.heap.size w w1) := Below.next R.out hb; have T : Hid (Tab w1) := T.out.below hb; clear hb))
  go_ret2
  exact ⟨rfl, R.out⟩
set_option maxHeartbeats 1000000 in
theorem do_shlo {k n : Int} {s : Bool} {l m : Int} (a b : Int) (h : KK k n s l m) (a1 : l ≤ a) (a2 : a ≤ m) (hb0 : b < 0 ∨ n ≤ b) (w : World) (t : Tab w) :
    Calls Tryd.prog 17 #[.string ⟨#[60, 60]⟩, .int .i64 k, .int .i64 a, .int .i64 b] w fun e w' => e = .returned (.tuple #[.int .i64 (0), .int .i64 (1)]) ∧ Below w.heap.size w w' := by
  have B : Hid (b < 0 ∨ n ≤ b) := hb0
  clear hb0
  have hd := h.bd
  obtain ⟨e1, e2, e3, e4, e5, e6, -⟩ := hd
  have H : Hid (KK k n s l m) := h
  have N : Hid (0 < n) := by show 0 < n; omega
  have T : Hid (Tab w) := t
  have R : Hid (Below w.heap.size w w) := Below.refl _ _
  clear h t
  go_enter Tryd.func17, Tryd.ntmps17
  go_wp2_with (first
    | (go_at_call 12; refine (int_yes H.out.sh N.out _ (Hid.out (by assumption))).mono ?_; rintro e w1 ⟨rfl, hb⟩; have R : Hid (Below w.heap.size w w1) := Below.next R.out hb; have T : Hid (Tab w1) := T.out.below hb; clear hb)
    | (go_at_call 24; refine (within_yes _ H.out.rg (by assumption) (by assumption) _ (Hid.out (by assumption))).mono ?_; rintro e w1 ⟨rfl, hb⟩; have R : Hid (Below w.heap.size w w1) := Below.next R.out hb; have T : Hid (Tab w1) := T.out.below hb; clear hb)
    | (go_at_call 25; refine (shl_no _ _ H.out.sh B.out _ (Hid.out (by assumption))).mono ?_; rintro e w1 ⟨rfl, hb⟩; have R : Hid (Below w.heap.size w w1) := Below.next R.out hb; have T : Hid (Tab w1) := T.out.below hb; clear hb))
  go_ret2
  exact ⟨rfl, R.out⟩
set_option maxHeartbeats 1000000 in
theorem do_shr {k n : Int} {s : Bool} {l m : Int} (a b : Int) (h : KK k n s l m) (a1 : l ≤ a) (a2 : a ≤ m) (h1 : 0 ≤ b) (h2 : b < n) (w : World) (t : Tab w) :
    Calls Tryd.prog 17 #[.string ⟨#[62, 62]⟩, .int .i64 k, .int .i64 a, .int .i64 b] w fun e w' => e = .returned (.tuple #[.int .i64 (a / 2 ^ b.toNat), .int .i64 (0)]) ∧ Below w.heap.size w w' := by
  have hn := h.bd
  have h3 : b ≤ 32 := by omega
  clear hn
  have hd := h.bd
  obtain ⟨e1, e2, e3, e4, e5, e6, -⟩ := hd
  have H : Hid (KK k n s l m) := h
  have N : Hid (0 < n) := by show 0 < n; omega
  have T : Hid (Tab w) := t
  have R : Hid (Below w.heap.size w w) := Below.refl _ _
  clear h t
  go_enter Tryd.func17, Tryd.ntmps17
  go_wp2_with (first
    | (go_at_call 12; refine (int_yes H.out.sh N.out _ (Hid.out (by assumption))).mono ?_; rintro e w1 ⟨rfl, hb⟩; have R : Hid (Below w.heap.size w w1) := Below.next R.out hb; have T : Hid (Tab w1) := T.out.below hb; clear hb)
    | (go_at_call 24; refine (within_yes _ H.out.rg (by assumption) (by assumption) _ (Hid.out (by assumption))).mono ?_; rintro e w1 ⟨rfl, hb⟩; have R : Hid (Below w.heap.size w w1) := Below.next R.out hb; have T : Hid (Tab w1) := T.out.below hb; clear hb)
    | (go_at_call 26; refine (shr_yes _ _ H.out (by assumption) (by assumption) (by assumption) _ (Hid.out (by assumption))).mono ?_; rintro e w1 ⟨rfl, hb⟩; have R : Hid (Below w.heap.size w w1) := Below.next R.out hb; have T : Hid (Tab w1) := T.out.below hb; clear hb))
  go_ret2
  exact ⟨rfl, R.out⟩
set_option maxHeartbeats 1000000 in
theorem do_shro {k n : Int} {s : Bool} {l m : Int} (a b : Int) (h : KK k n s l m) (a1 : l ≤ a) (a2 : a ≤ m) (hb0 : b < 0 ∨ n ≤ b) (w : World) (t : Tab w) :
    Calls Tryd.prog 17 #[.string ⟨#[62, 62]⟩, .int .i64 k, .int .i64 a, .int .i64 b] w fun e w' => e = .returned (.tuple #[.int .i64 (0), .int .i64 (1)]) ∧ Below w.heap.size w w' := by
  have B : Hid (b < 0 ∨ n ≤ b) := hb0
  clear hb0
  have hd := h.bd
  obtain ⟨e1, e2, e3, e4, e5, e6, -⟩ := hd
  have H : Hid (KK k n s l m) := h
  have N : Hid (0 < n) := by show 0 < n; omega
  have T : Hid (Tab w) := t
  have R : Hid (Below w.heap.size w w) := Below.refl _ _
  clear h t
  go_enter Tryd.func17, Tryd.ntmps17
  go_wp2_with (first
    | (go_at_call 12; refine (int_yes H.out.sh N.out _ (Hid.out (by assumption))).mono ?_; rintro e w1 ⟨rfl, hb⟩; have R : Hid (Below w.heap.size w w1) := Below.next R.out hb; have T : Hid (Tab w1) := T.out.below hb; clear hb)
    | (go_at_call 24; refine (within_yes _ H.out.rg (by assumption) (by assumption) _ (Hid.out (by assumption))).mono ?_; rintro e w1 ⟨rfl, hb⟩; have R : Hid (Below w.heap.size w w1) := Below.next R.out hb; have T : Hid (Tab w1) := T.out.below hb; clear hb)
    | (go_at_call 26; refine (shr_no _ _ H.out.sh B.out _ (Hid.out (by assumption))).mono ?_; rintro e w1 ⟨rfl, hb⟩; have R : Hid (Below w.heap.size w w1) := Below.next R.out hb; have T : Hid (Tab w1) := T.out.below hb; clear hb))
  go_ret2
  exact ⟨rfl, R.out⟩
end Go.Proofs.YtjcinojbbfjnjaaDoor
