/-
  Proved: what the document's own functions (package ferruleref01: Bits, Range, Wrap, in, fit, mod, power) answer for every kind and number; they touch no memory.
-/
import Derived.Test.YtjcinojbbfjnjaaDoorDo
namespace Go.Proofs.YtjcinojbbfjnjaaDoor
open Go.RowKit

theorem rtmod_gt (v n : Int) (hn : 0 < n) : -n < v.tmod n := by
  have h0 := Int.emod_nonneg v (show n ≠ 0 by omega)
  rw [Int.tmod_eq_emod]
  split
  · omega
  · rename_i h
    have h1 : v % n ≠ 0 := fun e => h (Or.inr (Int.dvd_of_emod_eq_zero e))
    omega

theorem rmod_eq (v n : Int) (hn : 0 < n) : (v.tmod n + n).tmod n = v % n := by
  have h1 : -n < v.tmod n := rtmod_gt v n hn
  have e : (v.tmod n + n).tmod n = (v.tmod n + n) % n := Int.tmod_eq_emod_of_nonneg (by omega)
  rw [e, Int.add_emod_right, Int.tmod_eq_emod]
  split
  · simp
  · have : (n.natAbs : Int) = n := by omega
    rw [this, Int.sub_emod, Int.emod_self]; simp

set_option maxHeartbeats 400000 in
theorem rmod_any (v n : Int) (hn : 0 < n) (hn2 : n ≤ 4294967296) (w : World) :
    Calls Tryd.prog 23 #[.int .i64 v, .int .i64 n] w fun e w' => e = .returned (.int .i64 (v % n)) ∧ w' = w := by
  have b1 : -n < v.tmod n := rtmod_gt v n hn
  have b2 : v.tmod n < n := Int.tmod_lt_of_pos v hn
  have hm := rmod_eq v n hn
  go_enter Tryd.func23, Tryd.ntmps23
  go_wp2
  go_ret
  exact ⟨rfl, rfl⟩

theorem pow_id (b : Int) (h0 : 0 ≤ b) (h1 : b ≤ 32) : wrap64 (2 ^ b.toNat) = 2 ^ b.toNat := by
  have p0 : (0 : Int) < 2 ^ b.toNat := Int.pow_pos (by decide)
  have : (2 : Nat) ^ b.toNat ≤ 2 ^ 32 := Nat.pow_le_pow_right (by decide) (by omega)
  have e : ((2 ^ b.toNat : Nat) : Int) = (2 : Int) ^ b.toNat := by simp
  exact wrap64_id (by omega) (by omega)

set_option maxHeartbeats 400000 in
theorem rpower_any (b : Int) (h0 : 0 ≤ b) (h1 : b ≤ 32) (w : World) :
    Calls Tryd.prog 22 #[.int .i64 b] w fun e w' => e = .returned (.int .i64 (2 ^ b.toNat)) ∧ w' = w := by
  go_enter Tryd.func22, Tryd.ntmps22
  go_wp2
  go_ret
  exact ⟨by show Ending.returned (.int .i64 (wrap64 (2 ^ b.toNat))) = _; rw [pow_id b h0 h1], rfl⟩

set_option maxHeartbeats 400000 in
theorem rbits_any {k n : Int} {s : Bool} (h : Sh k n s) (w : World) :
    Calls Tryd.prog 9 #[.int .i64 k] w fun e w' => e = .returned (.tuple #[.int .i64 n, .bool s]) ∧ w' = w := by
  unfold Sh at h
  rcases h with ⟨rfl, rfl, rfl⟩ | ⟨rfl, rfl, rfl⟩ | ⟨rfl, rfl, rfl⟩ | ⟨rfl, rfl, rfl⟩ | ⟨rfl, rfl, rfl⟩ | ⟨rfl, rfl, rfl⟩ | ⟨rfl, rfl, rfl⟩ | ⟨rfl, rfl, rfl⟩ | ⟨rfl, rfl, rfl⟩ | ⟨hk, rfl, rfl⟩ | ⟨hk, rfl, rfl⟩
  all_goals
    go_enter Tryd.func9, Tryd.ntmps9
    go_wp2
    go_ret2
    exact ⟨rfl, rfl⟩

set_option maxHeartbeats 1000000 in
theorem rrange_any {k n : Int} {s : Bool} {l m : Int} (h : KK k n s l m) (w : World) :
    Calls Tryd.prog 11 #[.int .i64 k] w fun e w' => e = .returned (.tuple #[.int .i64 l, .int .i64 m]) ∧ w' = w := by
  obtain ⟨-, hr, h1, h2⟩ := h
  unfold Rg at hr
  rcases hr with ⟨rfl, rfl, rfl⟩ | ⟨rfl, rfl, rfl⟩ | ⟨rfl, rfl, rfl⟩ | ⟨rfl, rfl, rfl⟩ | ⟨rfl, rfl, rfl⟩ | ⟨rfl, rfl, rfl⟩ | ⟨hk, rfl, rfl⟩
  all_goals first
    | (exfalso; omega)
    | (go_enter Tryd.func11, Tryd.ntmps11
       go_wp2
       go_ret2
       exact ⟨rfl, rfl⟩)

set_option maxHeartbeats 400000 in
theorem rin_yes {k n : Int} {s : Bool} {l m : Int} (v : Int) (h : KK k n s l m) (h1 : l ≤ v) (h2 : v ≤ m) (w : World) :
    Calls Tryd.prog 31 #[.int .i64 k, .int .i64 v] w fun e w' => e = .returned (.bool true) ∧ w' = w := by
  have H : Hid (KK k n s l m) := h
  clear h
  go_enter Tryd.func31, Tryd.ntmps31
  go_wp2_with (go_at_call 11; refine (rrange_any H.out _).mono ?_; rintro e w1 ⟨rfl, rfl⟩)
  go_ret
  exact ⟨rfl, rfl⟩
set_option maxHeartbeats 400000 in
theorem rin_lo {k n : Int} {s : Bool} {l m : Int} (v : Int) (h : KK k n s l m) (h1 : v < l) (w : World) :
    Calls Tryd.prog 31 #[.int .i64 k, .int .i64 v] w fun e w' => e = .returned (.bool false) ∧ w' = w := by
  have H : Hid (KK k n s l m) := h
  have hd : decide (l ≤ v) = false := by simp; omega
  clear h
  go_enter Tryd.func31, Tryd.ntmps31
  go_wp2_with (go_at_call 11; refine (rrange_any H.out _).mono ?_; rintro e w1 ⟨rfl, rfl⟩)
  go_ret
  exact ⟨rfl, rfl⟩
set_option maxHeartbeats 400000 in
theorem rin_hi {k n : Int} {s : Bool} {l m : Int} (v : Int) (h : KK k n s l m) (h0 : l ≤ v) (h1 : m < v) (w : World) :
    Calls Tryd.prog 31 #[.int .i64 k, .int .i64 v] w fun e w' => e = .returned (.bool false) ∧ w' = w := by
  have H : Hid (KK k n s l m) := h
  have hd : decide (v ≤ m) = false := by simp; omega
  clear h
  go_enter Tryd.func31, Tryd.ntmps31
  go_wp2_with (go_at_call 11; refine (rrange_any H.out _).mono ?_; rintro e w1 ⟨rfl, rfl⟩)
  go_ret
  exact ⟨rfl, rfl⟩
theorem rin_no {k n : Int} {s : Bool} {l m : Int} (v : Int) (h : KK k n s l m) (h1 : v < l ∨ m < v) (w : World) :
    Calls Tryd.prog 31 #[.int .i64 k, .int .i64 v] w fun e w' => e = .returned (.bool false) ∧ w' = w := by
  by_cases hl : v < l
  · exact rin_lo v h hl w
  · exact rin_hi v h (by omega) (by omega) w

set_option maxHeartbeats 400000 in
theorem rfit_yes {k n : Int} {s : Bool} {l m : Int} (v : Int) (h : KK k n s l m) (h1 : l ≤ v) (h2 : v ≤ m) (w : World) :
    Calls Tryd.prog 32 #[.int .i64 k, .int .i64 v] w fun e w' => e = .returned (.tuple #[.int .i64 v, .int .i64 0]) ∧ w' = w := by
  have H : Hid (KK k n s l m) := h
  clear h
  go_enter Tryd.func32, Tryd.ntmps32
  go_wp2_with (go_at_call 31; refine (rin_yes _ H.out (by assumption) (by assumption) _).mono ?_; rintro e w1 ⟨rfl, rfl⟩)
  go_ret2
  exact ⟨rfl, rfl⟩
set_option maxHeartbeats 400000 in
theorem rfit_no {k n : Int} {s : Bool} {l m : Int} (v : Int) (h : KK k n s l m) (h1 : v < l ∨ m < v) (w : World) :
    Calls Tryd.prog 32 #[.int .i64 k, .int .i64 v] w fun e w' => e = .returned (.tuple #[.int .i64 0, .int .i64 1]) ∧ w' = w := by
  have H : Hid (KK k n s l m) := h
  have V : Hid (v < l ∨ m < v) := h1
  clear h h1
  go_enter Tryd.func32, Tryd.ntmps32
  go_wp2_with (go_at_call 31; refine (rin_no _ H.out V.out _).mono ?_; rintro e w1 ⟨rfl, rfl⟩)
  go_ret2
  exact ⟨rfl, rfl⟩
theorem rfit_any {k n : Int} {s : Bool} {l m : Int} (v : Int) (h : KK k n s l m) (w : World) :
    Calls Tryd.prog 32 #[.int .i64 k, .int .i64 v] w fun e w' => e = .returned (.tuple #[.int .i64 (fitv l m v), .int .i64 (fitf l m v)]) ∧ w' = w := by
  by_cases hv : l ≤ v ∧ v ≤ m
  · rw [show fitv l m v = v from if_pos hv, show fitf l m v = 0 from if_pos hv]; exact rfit_yes v h hv.1 hv.2 w
  · rw [show fitv l m v = 0 from if_neg hv, show fitf l m v = 1 from if_neg hv]; exact rfit_no v h (by omega) w

set_option maxHeartbeats 1000000 in
theorem rwrap_3lo (v : Int) (hv : v % 256 ≤ 127) (w : World) :
    Calls Tryd.prog 15 #[.int .i64 3, .int .i64 v] w fun e w' => e = .returned (.int .i64 (v % 256)) ∧ w' = w := by
  have hm : 0 ≤ v % 256 ∧ v % 256 < 256 := by omega
  go_enter Tryd.func15, Tryd.ntmps15
  go_wp2_with (first
    | (go_at_call 23; refine (rmod_any _ _ (by decide) (by decide) _).mono ?_; rintro e w1 ⟨rfl, rfl⟩)
    | go_in)
  go_ret
  exact ⟨rfl, rfl⟩
set_option maxHeartbeats 1000000 in
theorem rwrap_3hi (v : Int) (hv : 127 < v % 256) (w : World) :
    Calls Tryd.prog 15 #[.int .i64 3, .int .i64 v] w fun e w' => e = .returned (.int .i64 (v % 256 - 256)) ∧ w' = w := by
  have hm : 0 ≤ v % 256 ∧ v % 256 < 256 := by omega
  go_enter Tryd.func15, Tryd.ntmps15
  go_wp2_with (first
    | (go_at_call 23; refine (rmod_any _ _ (by decide) (by decide) _).mono ?_; rintro e w1 ⟨rfl, rfl⟩)
    | go_in)
  go_ret
  exact ⟨rfl, rfl⟩
set_option maxHeartbeats 1000000 in
theorem rwrap_4lo (v : Int) (hv : v % 65536 ≤ 32767) (w : World) :
    Calls Tryd.prog 15 #[.int .i64 4, .int .i64 v] w fun e w' => e = .returned (.int .i64 (v % 65536)) ∧ w' = w := by
  have hm : 0 ≤ v % 65536 ∧ v % 65536 < 65536 := by omega
  go_enter Tryd.func15, Tryd.ntmps15
  go_wp2_with (first
    | (go_at_call 23; refine (rmod_any _ _ (by decide) (by decide) _).mono ?_; rintro e w1 ⟨rfl, rfl⟩)
    | go_in)
  go_ret
  exact ⟨rfl, rfl⟩
set_option maxHeartbeats 1000000 in
theorem rwrap_4hi (v : Int) (hv : 32767 < v % 65536) (w : World) :
    Calls Tryd.prog 15 #[.int .i64 4, .int .i64 v] w fun e w' => e = .returned (.int .i64 (v % 65536 - 65536)) ∧ w' = w := by
  have hm : 0 ≤ v % 65536 ∧ v % 65536 < 65536 := by omega
  go_enter Tryd.func15, Tryd.ntmps15
  go_wp2_with (first
    | (go_at_call 23; refine (rmod_any _ _ (by decide) (by decide) _).mono ?_; rintro e w1 ⟨rfl, rfl⟩)
    | go_in)
  go_ret
  exact ⟨rfl, rfl⟩
set_option maxHeartbeats 1000000 in
theorem rwrap_5lo (v : Int) (hv : v % 4294967296 ≤ 2147483647) (w : World) :
    Calls Tryd.prog 15 #[.int .i64 5, .int .i64 v] w fun e w' => e = .returned (.int .i64 (v % 4294967296)) ∧ w' = w := by
  have hm : 0 ≤ v % 4294967296 ∧ v % 4294967296 < 4294967296 := by omega
  go_enter Tryd.func15, Tryd.ntmps15
  go_wp2_with (first
    | (go_at_call 23; refine (rmod_any _ _ (by decide) (by decide) _).mono ?_; rintro e w1 ⟨rfl, rfl⟩)
    | go_in)
  go_ret
  exact ⟨rfl, rfl⟩
set_option maxHeartbeats 1000000 in
theorem rwrap_5hi (v : Int) (hv : 2147483647 < v % 4294967296) (w : World) :
    Calls Tryd.prog 15 #[.int .i64 5, .int .i64 v] w fun e w' => e = .returned (.int .i64 (v % 4294967296 - 4294967296)) ∧ w' = w := by
  have hm : 0 ≤ v % 4294967296 ∧ v % 4294967296 < 4294967296 := by omega
  go_enter Tryd.func15, Tryd.ntmps15
  go_wp2_with (first
    | (go_at_call 23; refine (rmod_any _ _ (by decide) (by decide) _).mono ?_; rintro e w1 ⟨rfl, rfl⟩)
    | go_in)
  go_ret
  exact ⟨rfl, rfl⟩
set_option maxHeartbeats 1000000 in
theorem rwrap_6 (v : Int)  (w : World) :
    Calls Tryd.prog 15 #[.int .i64 6, .int .i64 v] w fun e w' => e = .returned (.int .i64 (v % 256)) ∧ w' = w := by
  have hm : 0 ≤ v % 256 ∧ v % 256 < 256 := by omega
  go_enter Tryd.func15, Tryd.ntmps15
  go_wp2_with (first
    | (go_at_call 23; refine (rmod_any _ _ (by decide) (by decide) _).mono ?_; rintro e w1 ⟨rfl, rfl⟩)
    | go_in)
  go_ret
  exact ⟨rfl, rfl⟩
set_option maxHeartbeats 1000000 in
theorem rwrap_7 (v : Int)  (w : World) :
    Calls Tryd.prog 15 #[.int .i64 7, .int .i64 v] w fun e w' => e = .returned (.int .i64 (v % 65536)) ∧ w' = w := by
  have hm : 0 ≤ v % 65536 ∧ v % 65536 < 65536 := by omega
  go_enter Tryd.func15, Tryd.ntmps15
  go_wp2_with (first
    | (go_at_call 23; refine (rmod_any _ _ (by decide) (by decide) _).mono ?_; rintro e w1 ⟨rfl, rfl⟩)
    | go_in)
  go_ret
  exact ⟨rfl, rfl⟩
set_option maxHeartbeats 1000000 in
theorem rwrap_8 (v : Int)  (w : World) :
    Calls Tryd.prog 15 #[.int .i64 8, .int .i64 v] w fun e w' => e = .returned (.int .i64 (v % 4294967296)) ∧ w' = w := by
  have hm : 0 ≤ v % 4294967296 ∧ v % 4294967296 < 4294967296 := by omega
  go_enter Tryd.func15, Tryd.ntmps15
  go_wp2_with (first
    | (go_at_call 23; refine (rmod_any _ _ (by decide) (by decide) _).mono ?_; rintro e w1 ⟨rfl, rfl⟩)
    | go_in)
  go_ret
  exact ⟨rfl, rfl⟩

theorem rwrap_any {k : Int} (v : Int) (h1 : 3 ≤ k) (h2 : k ≤ 8) (w : World) :
    Calls Tryd.prog 15 #[.int .i64 k, .int .i64 v] w fun e w' => e = .returned (.int .i64 (wr k v)) ∧ w' = w := by
  have hk : k = 3 ∨ k = 4 ∨ k = 5 ∨ k = 6 ∨ k = 7 ∨ k = 8 := by omega
  rcases hk with rfl | rfl | rfl | rfl | rfl | rfl
  · by_cases hv : v % 256 ≤ 127
    · rw [show wr 3 v = v % 256 from by simp [wr]; omega]; exact rwrap_3lo v hv w
    · rw [show wr 3 v = v % 256 - 256 from by simp [wr]; omega]; exact rwrap_3hi v (by omega) w
  · by_cases hv : v % 65536 ≤ 32767
    · rw [show wr 4 v = v % 65536 from by simp [wr]; omega]; exact rwrap_4lo v hv w
    · rw [show wr 4 v = v % 65536 - 65536 from by simp [wr]; omega]; exact rwrap_4hi v (by omega) w
  · by_cases hv : v % 4294967296 ≤ 2147483647
    · rw [show wr 5 v = v % 4294967296 from by simp [wr]; omega]; exact rwrap_5lo v hv w
    · rw [show wr 5 v = v % 4294967296 - 4294967296 from by simp [wr]; omega]; exact rwrap_5hi v (by omega) w
  · exact rwrap_6 v w
  · exact rwrap_7 v w
  · exact rwrap_8 v w
end Go.Proofs.YtjcinojbbfjnjaaDoor
