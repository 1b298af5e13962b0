/-
  Proved: the Go function NumTells answers true for every two ints: any kind of type has the document's bits, range and wrapping, and the constants have the document's numbers. Its arguments read afterwards as they read before.
  Conditions: the table num.shapes reads, when the call begins, as the program's own text lays it (the card ties it to that text, over the pruned copy of the project that the seat holds); nothing else beyond the given row's own.
-/
import Derived.Test.YtjcinojbbfjnjaaDoorLift
import Derived.Test.YtjcinojbbfjnjaaDoorTie
import Derived.Test.YtjcinojbbfjnjaaDoorCards
import Derived.SevenTiedAt
import Derived.Deep.RegionWith
namespace Go.Proofs.YtjcinojbbfjnjaaDoor
open Go.ChangeShapes Go.WideShapes Go.ChangeAt Go.RowKit


theorem tmod_gt (v n : Int) (hn : 0 < n) : -n < v.tmod n := by
  have h0 := Int.emod_nonneg v (show n ≠ 0 by omega)
  rw [Int.tmod_eq_emod]
  split
  · omega
  · rename_i h
    have h1 : v % n ≠ 0 := fun e => h (Or.inr (Int.dvd_of_emod_eq_zero e))
    omega

theorem mod_eq (v n : Int) (hn : 0 < n) : (v.tmod n + n).tmod n = v % n := by
  have h1 : -n < v.tmod n := tmod_gt v n hn
  have e : (v.tmod n + n).tmod n = (v.tmod n + n) % n := Int.tmod_eq_emod_of_nonneg (by omega)
  rw [e, Int.add_emod_right, Int.tmod_eq_emod]
  split
  · simp
  · have : (n.natAbs : Int) = n := by omega
    rw [this, Int.sub_emod, Int.emod_self]; simp

set_option maxHeartbeats 400000 in
theorem mod_any (v n : Int) (hn : 0 < n) (hn2 : n ≤ 4294967296) (w : World) :
    Calls Tryd.prog 23 #[.int .i64 v, .int .i64 n] w fun e w' => e = .returned (.int .i64 (v % n)) ∧ w' = w := by
  have b1 : -n < v.tmod n := tmod_gt v n hn
  have b2 : v.tmod n < n := Int.tmod_lt_of_pos v hn
  have hm := mod_eq v n hn
  go_enter Tryd.func23, Tryd.ntmps23
  go_wp2
  go_ret
  exact ⟨rfl, rfl⟩

set_option maxHeartbeats 1000000 in
theorem nt_3lo (v : Int) (w : World) (t : Tab w) (hv : v % 256 ≤ 127) :
    Calls Tryd.prog 3 #[.int .i64 3, .int .i64 v] w fun e w' => e = .returned (.bool true) ∧ Below w.heap.size w w' := by
  have hm : 0 ≤ v % 256 ∧ v % 256 < 256 := by omega
  have hw : wr 3 v = v % 256 := by simp [wr]; omega
  have H : Hid (Sh 3 8 true) := by simp [Hid, Sh]
  have T : Hid (Tab w) := t
  have R : Hid (Below w.heap.size w w) := Below.refl _ _
  clear t
  go_enter Tryd.func3, Tryd.ntmps3
  go_wp2_with (first
    | (go_at_call 12; refine (int_yes H.out (by decide) _ (Hid.out (by assumption))).mono ?_; rintro e w1 ⟨rfl, hb⟩; have R : Hid (Below w.heap.size w w1) := Below.next R.out hb; have T : Hid (Tab w1) := T.out.below hb; clear hb)
    | (go_at_call 8; refine (bits_any H.out _ (Hid.out (by assumption))).mono ?_; rintro e w1 ⟨rfl, hb⟩; have R : Hid (Below w.heap.size w w1) := Below.next R.out hb; have T : Hid (Tab w1) := T.out.below hb; clear hb)
    | (go_at_call 10; refine (range_3 _ (Hid.out (by assumption))).mono ?_; rintro e w1 ⟨rfl, hb⟩; have R : Hid (Below w.heap.size w w1) := Below.next R.out hb; have T : Hid (Tab w1) := T.out.below hb; clear hb)
    | (go_at_call 14; refine (wrap_any _ (by decide) (by decide) _ (Hid.out (by assumption))).mono ?_; rintro e w1 ⟨rfl, hb⟩; have R : Hid (Below w.heap.size w w1) := Below.next R.out hb; have T : Hid (Tab w1) := T.out.below hb; clear hb)
    | (go_at_call 23; refine (mod_any _ _ (by decide) (by decide) _).mono ?_; rintro e w1 ⟨rfl, rfl⟩)
    | go_in)
  go_ret
  exact ⟨rfl, R.out⟩

set_option maxHeartbeats 1000000 in
theorem nt_3hi (v : Int) (w : World) (t : Tab w) (hv : 127 < v % 256) :
    Calls Tryd.prog 3 #[.int .i64 3, .int .i64 v] w fun e w' => e = .returned (.bool true) ∧ Below w.heap.size w w' := by
  have hm : 0 ≤ v % 256 ∧ v % 256 < 256 := by omega
  have hw : wr 3 v = v % 256 - 256 := by simp [wr]; omega
  have H : Hid (Sh 3 8 true) := by simp [Hid, Sh]
  have T : Hid (Tab w) := t
  have R : Hid (Below w.heap.size w w) := Below.refl _ _
  clear t
  go_enter Tryd.func3, Tryd.ntmps3
  go_wp2_with (first
    | (go_at_call 12; refine (int_yes H.out (by decide) _ (Hid.out (by assumption))).mono ?_; rintro e w1 ⟨rfl, hb⟩; have R : Hid (Below w.heap.size w w1) := Below.next R.out hb; have T : Hid (Tab w1) := T.out.below hb; clear hb)
    | (go_at_call 8; refine (bits_any H.out _ (Hid.out (by assumption))).mono ?_; rintro e w1 ⟨rfl, hb⟩; have R : Hid (Below w.heap.size w w1) := Below.next R.out hb; have T : Hid (Tab w1) := T.out.below hb; clear hb)
    | (go_at_call 10; refine (range_3 _ (Hid.out (by assumption))).mono ?_; rintro e w1 ⟨rfl, hb⟩; have R : Hid (Below w.heap.size w w1) := Below.next R.out hb; have T : Hid (Tab w1) := T.out.below hb; clear hb)
    | (go_at_call 14; refine (wrap_any _ (by decide) (by decide) _ (Hid.out (by assumption))).mono ?_; rintro e w1 ⟨rfl, hb⟩; have R : Hid (Below w.heap.size w w1) := Below.next R.out hb; have T : Hid (Tab w1) := T.out.below hb; clear hb)
    | (go_at_call 23; refine (mod_any _ _ (by decide) (by decide) _).mono ?_; rintro e w1 ⟨rfl, rfl⟩)
    | go_in)
  go_ret
  exact ⟨rfl, R.out⟩

set_option maxHeartbeats 1000000 in
theorem nt_4lo (v : Int) (w : World) (t : Tab w) (hv : v % 65536 ≤ 32767) :
    Calls Tryd.prog 3 #[.int .i64 4, .int .i64 v] w fun e w' => e = .returned (.bool true) ∧ Below w.heap.size w w' := by
  have hm : 0 ≤ v % 65536 ∧ v % 65536 < 65536 := by omega
  have hw : wr 4 v = v % 65536 := by simp [wr]; omega
  have H : Hid (Sh 4 16 true) := by simp [Hid, Sh]
  have T : Hid (Tab w) := t
  have R : Hid (Below w.heap.size w w) := Below.refl _ _
  clear t
  go_enter Tryd.func3, Tryd.ntmps3
  go_wp2_with (first
    | (go_at_call 12; refine (int_yes H.out (by decide) _ (Hid.out (by assumption))).mono ?_; rintro e w1 ⟨rfl, hb⟩; have R : Hid (Below w.heap.size w w1) := Below.next R.out hb; have T : Hid (Tab w1) := T.out.below hb; clear hb)
    | (go_at_call 8; refine (bits_any H.out _ (Hid.out (by assumption))).mono ?_; rintro e w1 ⟨rfl, hb⟩; have R : Hid (Below w.heap.size w w1) := Below.next R.out hb; have T : Hid (Tab w1) := T.out.below hb; clear hb)
    | (go_at_call 10; refine (range_4 _ (Hid.out (by assumption))).mono ?_; rintro e w1 ⟨rfl, hb⟩; have R : Hid (Below w.heap.size w w1) := Below.next R.out hb; have T : Hid (Tab w1) := T.out.below hb; clear hb)
    | (go_at_call 14; refine (wrap_any _ (by decide) (by decide) _ (Hid.out (by assumption))).mono ?_; rintro e w1 ⟨rfl, hb⟩; have R : Hid (Below w.heap.size w w1) := Below.next R.out hb; have T : Hid (Tab w1) := T.out.below hb; clear hb)
    | (go_at_call 23; refine (mod_any _ _ (by decide) (by decide) _).mono ?_; rintro e w1 ⟨rfl, rfl⟩)
    | go_in)
  go_ret
  exact ⟨rfl, R.out⟩

set_option maxHeartbeats 1000000 in
theorem nt_4hi (v : Int) (w : World) (t : Tab w) (hv : 32767 < v % 65536) :
    Calls Tryd.prog 3 #[.int .i64 4, .int .i64 v] w fun e w' => e = .returned (.bool true) ∧ Below w.heap.size w w' := by
  have hm : 0 ≤ v % 65536 ∧ v % 65536 < 65536 := by omega
  have hw : wr 4 v = v % 65536 - 65536 := by simp [wr]; omega
  have H : Hid (Sh 4 16 true) := by simp [Hid, Sh]
  have T : Hid (Tab w) := t
  have R : Hid (Below w.heap.size w w) := Below.refl _ _
  clear t
  go_enter Tryd.func3, Tryd.ntmps3
  go_wp2_with (first
    | (go_at_call 12; refine (int_yes H.out (by decide) _ (Hid.out (by assumption))).mono ?_; rintro e w1 ⟨rfl, hb⟩; have R : Hid (Below w.heap.size w w1) := Below.next R.out hb; have T : Hid (Tab w1) := T.out.below hb; clear hb)
    | (go_at_call 8; refine (bits_any H.out _ (Hid.out (by assumption))).mono ?_; rintro e w1 ⟨rfl, hb⟩; have R : Hid (Below w.heap.size w w1) := Below.next R.out hb; have T : Hid (Tab w1) := T.out.below hb; clear hb)
    | (go_at_call 10; refine (range_4 _ (Hid.out (by assumption))).mono ?_; rintro e w1 ⟨rfl, hb⟩; have R : Hid (Below w.heap.size w w1) := Below.next R.out hb; have T : Hid (Tab w1) := T.out.below hb; clear hb)
    | (go_at_call 14; refine (wrap_any _ (by decide) (by decide) _ (Hid.out (by assumption))).mono ?_; rintro e w1 ⟨rfl, hb⟩; have R : Hid (Below w.heap.size w w1) := Below.next R.out hb; have T : Hid (Tab w1) := T.out.below hb; clear hb)
    | (go_at_call 23; refine (mod_any _ _ (by decide) (by decide) _).mono ?_; rintro e w1 ⟨rfl, rfl⟩)
    | go_in)
  go_ret
  exact ⟨rfl, R.out⟩

set_option maxHeartbeats 1000000 in
theorem nt_5lo (v : Int) (w : World) (t : Tab w) (hv : v % 4294967296 ≤ 2147483647) :
    Calls Tryd.prog 3 #[.int .i64 5, .int .i64 v] w fun e w' => e = .returned (.bool true) ∧ Below w.heap.size w w' := by
  have hm : 0 ≤ v % 4294967296 ∧ v % 4294967296 < 4294967296 := by omega
  have hw : wr 5 v = v % 4294967296 := by simp [wr]; omega
  have H : Hid (Sh 5 32 true) := by simp [Hid, Sh]
  have T : Hid (Tab w) := t
  have R : Hid (Below w.heap.size w w) := Below.refl _ _
  clear t
  go_enter Tryd.func3, Tryd.ntmps3
  go_wp2_with (first
    | (go_at_call 12; refine (int_yes H.out (by decide) _ (Hid.out (by assumption))).mono ?_; rintro e w1 ⟨rfl, hb⟩; have R : Hid (Below w.heap.size w w1) := Below.next R.out hb; have T : Hid (Tab w1) := T.out.below hb; clear hb)
    | (go_at_call 8; refine (bits_any H.out _ (Hid.out (by assumption))).mono ?_; rintro e w1 ⟨rfl, hb⟩; have R : Hid (Below w.heap.size w w1) := Below.next R.out hb; have T : Hid (Tab w1) := T.out.below hb; clear hb)
    | (go_at_call 10; refine (range_5 _ (Hid.out (by assumption))).mono ?_; rintro e w1 ⟨rfl, hb⟩; have R : Hid (Below w.heap.size w w1) := Below.next R.out hb; have T : Hid (Tab w1) := T.out.below hb; clear hb)
    | (go_at_call 14; refine (wrap_any _ (by decide) (by decide) _ (Hid.out (by assumption))).mono ?_; rintro e w1 ⟨rfl, hb⟩; have R : Hid (Below w.heap.size w w1) := Below.next R.out hb; have T : Hid (Tab w1) := T.out.below hb; clear hb)
    | (go_at_call 23; refine (mod_any _ _ (by decide) (by decide) _).mono ?_; rintro e w1 ⟨rfl, rfl⟩)
    | go_in)
  go_ret
  exact ⟨rfl, R.out⟩

set_option maxHeartbeats 1000000 in
theorem nt_5hi (v : Int) (w : World) (t : Tab w) (hv : 2147483647 < v % 4294967296) :
    Calls Tryd.prog 3 #[.int .i64 5, .int .i64 v] w fun e w' => e = .returned (.bool true) ∧ Below w.heap.size w w' := by
  have hm : 0 ≤ v % 4294967296 ∧ v % 4294967296 < 4294967296 := by omega
  have hw : wr 5 v = v % 4294967296 - 4294967296 := by simp [wr]; omega
  have H : Hid (Sh 5 32 true) := by simp [Hid, Sh]
  have T : Hid (Tab w) := t
  have R : Hid (Below w.heap.size w w) := Below.refl _ _
  clear t
  go_enter Tryd.func3, Tryd.ntmps3
  go_wp2_with (first
    | (go_at_call 12; refine (int_yes H.out (by decide) _ (Hid.out (by assumption))).mono ?_; rintro e w1 ⟨rfl, hb⟩; have R : Hid (Below w.heap.size w w1) := Below.next R.out hb; have T : Hid (Tab w1) := T.out.below hb; clear hb)
    | (go_at_call 8; refine (bits_any H.out _ (Hid.out (by assumption))).mono ?_; rintro e w1 ⟨rfl, hb⟩; have R : Hid (Below w.heap.size w w1) := Below.next R.out hb; have T : Hid (Tab w1) := T.out.below hb; clear hb)
    | (go_at_call 10; refine (range_5 _ (Hid.out (by assumption))).mono ?_; rintro e w1 ⟨rfl, hb⟩; have R : Hid (Below w.heap.size w w1) := Below.next R.out hb; have T : Hid (Tab w1) := T.out.below hb; clear hb)
    | (go_at_call 14; refine (wrap_any _ (by decide) (by decide) _ (Hid.out (by assumption))).mono ?_; rintro e w1 ⟨rfl, hb⟩; have R : Hid (Below w.heap.size w w1) := Below.next R.out hb; have T : Hid (Tab w1) := T.out.below hb; clear hb)
    | (go_at_call 23; refine (mod_any _ _ (by decide) (by decide) _).mono ?_; rintro e w1 ⟨rfl, rfl⟩)
    | go_in)
  go_ret
  exact ⟨rfl, R.out⟩

set_option maxHeartbeats 1000000 in
theorem nt_6 (v : Int) (w : World) (t : Tab w)  :
    Calls Tryd.prog 3 #[.int .i64 6, .int .i64 v] w fun e w' => e = .returned (.bool true) ∧ Below w.heap.size w w' := by
  have hm : 0 ≤ v % 256 ∧ v % 256 < 256 := by omega
  have hw : wr 6 v = v % 256 := by simp [wr]
  have H : Hid (Sh 6 8 false) := by simp [Hid, Sh]
  have T : Hid (Tab w) := t
  have R : Hid (Below w.heap.size w w) := Below.refl _ _
  clear t
  go_enter Tryd.func3, Tryd.ntmps3
  go_wp2_with (first
    | (go_at_call 12; refine (int_yes H.out (by decide) _ (Hid.out (by assumption))).mono ?_; rintro e w1 ⟨rfl, hb⟩; have R : Hid (Below w.heap.size w w1) := Below.next R.out hb; have T : Hid (Tab w1) := T.out.below hb; clear hb)
    | (go_at_call 8; refine (bits_any H.out _ (Hid.out (by assumption))).mono ?_; rintro e w1 ⟨rfl, hb⟩; have R : Hid (Below w.heap.size w w1) := Below.next R.out hb; have T : Hid (Tab w1) := T.out.below hb; clear hb)
    | (go_at_call 10; refine (range_6 _ (Hid.out (by assumption))).mono ?_; rintro e w1 ⟨rfl, hb⟩; have R : Hid (Below w.heap.size w w1) := Below.next R.out hb; have T : Hid (Tab w1) := T.out.below hb; clear hb)
    | (go_at_call 14; refine (wrap_any _ (by decide) (by decide) _ (Hid.out (by assumption))).mono ?_; rintro e w1 ⟨rfl, hb⟩; have R : Hid (Below w.heap.size w w1) := Below.next R.out hb; have T : Hid (Tab w1) := T.out.below hb; clear hb)
    | (go_at_call 23; refine (mod_any _ _ (by decide) (by decide) _).mono ?_; rintro e w1 ⟨rfl, rfl⟩)
    | go_in)
  go_ret
  exact ⟨rfl, R.out⟩

set_option maxHeartbeats 1000000 in
theorem nt_7 (v : Int) (w : World) (t : Tab w)  :
    Calls Tryd.prog 3 #[.int .i64 7, .int .i64 v] w fun e w' => e = .returned (.bool true) ∧ Below w.heap.size w w' := by
  have hm : 0 ≤ v % 65536 ∧ v % 65536 < 65536 := by omega
  have hw : wr 7 v = v % 65536 := by simp [wr]
  have H : Hid (Sh 7 16 false) := by simp [Hid, Sh]
  have T : Hid (Tab w) := t
  have R : Hid (Below w.heap.size w w) := Below.refl _ _
  clear t
  go_enter Tryd.func3, Tryd.ntmps3
  go_wp2_with (first
    | (go_at_call 12; refine (int_yes H.out (by decide) _ (Hid.out (by assumption))).mono ?_; rintro e w1 ⟨rfl, hb⟩; have R : Hid (Below w.heap.size w w1) := Below.next R.out hb; have T : Hid (Tab w1) := T.out.below hb; clear hb)
    | (go_at_call 8; refine (bits_any H.out _ (Hid.out (by assumption))).mono ?_; rintro e w1 ⟨rfl, hb⟩; have R : Hid (Below w.heap.size w w1) := Below.next R.out hb; have T : Hid (Tab w1) := T.out.below hb; clear hb)
    | (go_at_call 10; refine (range_7 _ (Hid.out (by assumption))).mono ?_; rintro e w1 ⟨rfl, hb⟩; have R : Hid (Below w.heap.size w w1) := Below.next R.out hb; have T : Hid (Tab w1) := T.out.below hb; clear hb)
    | (go_at_call 14; refine (wrap_any _ (by decide) (by decide) _ (Hid.out (by assumption))).mono ?_; rintro e w1 ⟨rfl, hb⟩; have R : Hid (Below w.heap.size w w1) := Below.next R.out hb; have T : Hid (Tab w1) := T.out.below hb; clear hb)
    | (go_at_call 23; refine (mod_any _ _ (by decide) (by decide) _).mono ?_; rintro e w1 ⟨rfl, rfl⟩)
    | go_in)
  go_ret
  exact ⟨rfl, R.out⟩

set_option maxHeartbeats 1000000 in
theorem nt_8 (v : Int) (w : World) (t : Tab w)  :
    Calls Tryd.prog 3 #[.int .i64 8, .int .i64 v] w fun e w' => e = .returned (.bool true) ∧ Below w.heap.size w w' := by
  have hm : 0 ≤ v % 4294967296 ∧ v % 4294967296 < 4294967296 := by omega
  have hw : wr 8 v = v % 4294967296 := by simp [wr]
  have H : Hid (Sh 8 32 false) := by simp [Hid, Sh]
  have T : Hid (Tab w) := t
  have R : Hid (Below w.heap.size w w) := Below.refl _ _
  clear t
  go_enter Tryd.func3, Tryd.ntmps3
  go_wp2_with (first
    | (go_at_call 12; refine (int_yes H.out (by decide) _ (Hid.out (by assumption))).mono ?_; rintro e w1 ⟨rfl, hb⟩; have R : Hid (Below w.heap.size w w1) := Below.next R.out hb; have T : Hid (Tab w1) := T.out.below hb; clear hb)
    | (go_at_call 8; refine (bits_any H.out _ (Hid.out (by assumption))).mono ?_; rintro e w1 ⟨rfl, hb⟩; have R : Hid (Below w.heap.size w w1) := Below.next R.out hb; have T : Hid (Tab w1) := T.out.below hb; clear hb)
    | (go_at_call 10; refine (range_8 _ (Hid.out (by assumption))).mono ?_; rintro e w1 ⟨rfl, hb⟩; have R : Hid (Below w.heap.size w w1) := Below.next R.out hb; have T : Hid (Tab w1) := T.out.below hb; clear hb)
    | (go_at_call 14; refine (wrap_any _ (by decide) (by decide) _ (Hid.out (by assumption))).mono ?_; rintro e w1 ⟨rfl, hb⟩; have R : Hid (Below w.heap.size w w1) := Below.next R.out hb; have T : Hid (Tab w1) := T.out.below hb; clear hb)
    | (go_at_call 23; refine (mod_any _ _ (by decide) (by decide) _).mono ?_; rintro e w1 ⟨rfl, rfl⟩)
    | go_in)
  go_ret
  exact ⟨rfl, R.out⟩

set_option maxHeartbeats 1000000 in
theorem nt_lt (k v : Int) (hk : k < 3) (w : World) (t : Tab w) :
    Calls Tryd.prog 3 #[.int .i64 k, .int .i64 v] w fun e w' => e = .returned (.bool true) ∧ Below w.heap.size w w' := by
  have H : Hid (Sh k 0 false) := by simp [Hid, Sh]; omega
  have T : Hid (Tab w) := t
  have R : Hid (Below w.heap.size w w) := Below.refl _ _
  clear t
  go_enter Tryd.func3, Tryd.ntmps3
  go_wp2_with (first
    | (go_at_call 12; refine (int_no H.out _ (Hid.out (by assumption))).mono ?_; rintro e w1 ⟨rfl, hb⟩; have R : Hid (Below w.heap.size w w1) := Below.next R.out hb; have T : Hid (Tab w1) := T.out.below hb; clear hb)
    | (go_at_call 8; refine (bits_any H.out _ (Hid.out (by assumption))).mono ?_; rintro e w1 ⟨rfl, hb⟩; have R : Hid (Below w.heap.size w w1) := Below.next R.out hb; have T : Hid (Tab w1) := T.out.below hb; clear hb)
    | (go_at_call 10; refine (range_no H.out _ (Hid.out (by assumption))).mono ?_; rintro e w1 ⟨rfl, hb⟩; have R : Hid (Below w.heap.size w w1) := Below.next R.out hb; have T : Hid (Tab w1) := T.out.below hb; clear hb)
    | (go_at_call 14; refine (wrap_no _ H.out _ (Hid.out (by assumption))).mono ?_; rintro e w1 ⟨rfl, hb⟩; have R : Hid (Below w.heap.size w w1) := Below.next R.out hb; have T : Hid (Tab w1) := T.out.below hb; clear hb)
    | go_in)
  go_ret
  exact ⟨rfl, R.out⟩

set_option maxHeartbeats 1000000 in
theorem nt_gt (k v : Int) (hk : 8 < k) (w : World) (t : Tab w) :
    Calls Tryd.prog 3 #[.int .i64 k, .int .i64 v] w fun e w' => e = .returned (.bool true) ∧ Below w.heap.size w w' := by
  have H : Hid (Sh k 0 false) := by simp [Hid, Sh]; omega
  have h8 : decide (k ≤ 8) = false := by simp; omega
  have T : Hid (Tab w) := t
  have R : Hid (Below w.heap.size w w) := Below.refl _ _
  clear t
  go_enter Tryd.func3, Tryd.ntmps3
  go_wp2_with (first
    | (go_at_call 12; refine (int_no H.out _ (Hid.out (by assumption))).mono ?_; rintro e w1 ⟨rfl, hb⟩; have R : Hid (Below w.heap.size w w1) := Below.next R.out hb; have T : Hid (Tab w1) := T.out.below hb; clear hb)
    | (go_at_call 8; refine (bits_any H.out _ (Hid.out (by assumption))).mono ?_; rintro e w1 ⟨rfl, hb⟩; have R : Hid (Below w.heap.size w w1) := Below.next R.out hb; have T : Hid (Tab w1) := T.out.below hb; clear hb)
    | (go_at_call 10; refine (range_no H.out _ (Hid.out (by assumption))).mono ?_; rintro e w1 ⟨rfl, hb⟩; have R : Hid (Below w.heap.size w w1) := Below.next R.out hb; have T : Hid (Tab w1) := T.out.below hb; clear hb)
    | (go_at_call 14; refine (wrap_no _ H.out _ (Hid.out (by assumption))).mono ?_; rintro e w1 ⟨rfl, hb⟩; have R : Hid (Below w.heap.size w w1) := Below.next R.out hb; have T : Hid (Tab w1) := T.out.below hb; clear hb)
    | go_in)
  go_ret
  exact ⟨rfl, R.out⟩

theorem numTells_walk (k v : Int) (_ : (Lit.int .i64 k).wf = true) (_ : (Lit.int .i64 v).wf = true) (w : World) (t : Tab w) :
    Calls Tryd.prog 3 #[.int .i64 k, .int .i64 v] w fun e w' => e = .returned (.bool true) ∧ Below w.heap.size w w' := by
  by_cases h : 3 ≤ k ∧ k ≤ 8
  · have hk : k = 3 ∨ k = 4 ∨ k = 5 ∨ k = 6 ∨ k = 7 ∨ k = 8 := by omega
    rcases hk with rfl | rfl | rfl | rfl | rfl | rfl
    · by_cases hv : v % 256 ≤ 127
      · exact nt_3lo v w t hv
      · exact nt_3hi v w t (by omega)
    · by_cases hv : v % 65536 ≤ 32767
      · exact nt_4lo v w t hv
      · exact nt_4hi v w t (by omega)
    · by_cases hv : v % 4294967296 ≤ 2147483647
      · exact nt_5lo v w t hv
      · exact nt_5hi v w t (by omega)
    · exact nt_6 v w t
    · exact nt_7 v w t
    · exact nt_8 v w t
  · by_cases hl : k < 3
    · exact nt_lt k v hl w t
    · exact nt_gt k v (by omega) w t

set_option maxRecDepth 100000 in
theorem numTells_lifted (os : Os) (started : os.Started) (H : Type) (enc : TypeId × Value → H) :
    ReturnsInHanded {} Tryd.checked os 3 .any (fun w args => (Rows.numTellsSpec.pre enc Tryd.prog Tryd.f3 [] false w args ∧ laidMetH Tryd.prog laid1 w) ∧ sizedMet enc Tryd.prog Tryd.f3 (OpenSpec.ofChange Rows.numTellsSpec) false w args)
      (Rows.numTellsSpec.post enc Tryd.prog Tryd.f3 false true false false) := by
  refine returnsInHanded_of_change_and (C := Tryd.checked) (X := fun w _ => laidMetH Tryd.prog laid1 w) (fun _ _ _ hh h => h.of_heap hh) own started (by kernel_rfl) Tryd.func3
    (ChangeSpec.witness_shaped (enc := enc) (C := Tryd.checked) (os := os) (X := fun w _ => laidMetH Tryd.prog laid1 w) false (World.doorLaid Tryd.prog 400 os) #[.int .i64 0, .int .i64 0] 8 rfl (World.shaped_of_RefB (by kernel_rfl) (by kernel_rfl)) (by kernel_rfl) (by kernel_rfl) (by kernel_rfl) (door_met os _)) ?_
  intro W base args ds gs before hval0 hW _ _ hL _
  have hval : ∀ (j : Nat) t v, Tryd.f3.params[j]? = some t → args[j]? = some v → Value.okWide Tryd.prog W .any base t v := hval0
  have hW' := hW
  obtain ⟨p, q, hA0, hV, rfl, hfz, hnd⟩ := hW
  have hA : DataW.TrodAll enc Tryd.prog W 0 (fun _ => true) true Tryd.f3.params.toList args.toList ds p := hA0
  rw [Tryd.params3] at hA hval
  obtain ⟨v0, vs0, d0, ds0, p0, q0, hargs, rfl, rfl, h0, r0⟩ := trodAll_cons hA
  obtain ⟨v1, vs1, d1, ds1, p1, q1, rfl, rfl, rfl, h1, r1⟩ := trodAll_cons r0
  obtain ⟨rfl, rfl, rfl⟩ := trodAll_nil r1
  obtain rfl : args = #[v0, v1] := by cases args; simp_all
  obtain ⟨rfl, rfl⟩ := trodVars_none hV
  obtain ⟨a0, rfl, rfl, rfl, w0⟩ := open_int Tryd.underlying3 (hval 0 3 v0 rfl rfl) h0
  obtain ⟨a1, rfl, rfl, rfl, w1⟩ := open_int Tryd.underlying3 (hval 1 3 v1 rfl rfl) h1
  clear hA0 hval0
  simp only [List.append_nil] at hW'
  refine (numTells_walk a0 a1 w0 w1 W (of_laid hL)).mono fun e W' ⟨he, hg⟩ => ?_
  subst he
  exact ⟨_, rfl, _, _, _, [], [], [], hW', (trodAll_cons_mk (shut_bool Tryd.underlying4 _) trodAll_mk0), (trodAll_cons_mk (shut_int Tryd.underlying3 w0) (trodAll_cons_mk (shut_int Tryd.underlying3 w1) trodAll_mk0)), rfl, hg.frame _, fun h => by cases h⟩

theorem numTells_row : Rows.NumTellsSaid :=
  OpenClaim.holds_of_wide 3 Tryd.f3 rfl rfl rfl rfl rfl rfl rfl ⟨rfl, rfl, rfl, rfl, rfl⟩ rfl rfl rfl rfl rfl (by kernel_rfl) Tryd.func3 (by kernel_rfl)
    (of_decide_eq_true (by kernel_rfl)) (by unfold Func.isWrapper; first | (rw [if_pos (by decide +kernel)]; kernel_rfl) | (rw [if_neg (by decide +kernel)]; exact ⟨rfl, rfl⟩))
    (fun os started H enc _ => numTells_lifted os started H enc)

theorem numTells_holds : Rows.NumTellsCardSaid :=
  Claim7.holds_tied_plain_at .later [] [.data] true (true, "302cc928f815ed1bdd036c7b84ed4e8f37c164cd36297476f1d171a20a166aa9") false
    numTells_row (fun _ h => by cases h) (by kernel_rfl) (fun _ h => by cases h) numTells_row_tie rfl ⟨rfl, rfl⟩ (by kernel_rfl) rfl
    (fun f fn hf hfn => by
      obtain rfl : f = 3 := Option.some.inj ((show Tryd.prog.funcNamed "ferrule/ferrulelaw01.NumTells" = some 3 by kernel_rfl).symm.trans hf) |>.symm
      obtain rfl : fn = Tryd.f3 := (Option.some.inj (Tryd.func3.symm.trans hfn)).symm
      exact ⟨by kernel_rfl, fun j t ht => by
        rw [Tryd.params3] at ht
        have hm : t ∈ [3, 3] := by simpa using Array.mem_of_getElem? ht
        have hall : ([3, 3].all fun u => !Tryd.prog.wantsStandIn u) = true := by kernel_rfl
        exact (show Tryd.prog.wantsStandIn t = false by simpa using List.all_eq_true.1 hall t (by simpa using hm))⟩)
    (by kernel_rfl)
#print axioms numTells_holds
end Go.Proofs.YtjcinojbbfjnjaaDoor
