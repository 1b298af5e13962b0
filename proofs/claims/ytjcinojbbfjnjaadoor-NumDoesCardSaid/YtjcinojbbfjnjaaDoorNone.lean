/-
  Proved: what num.Do and the document's own Do answer where there is no such operation: 0 and NoSign, both.
-/
import Derived.Test.YtjcinojbbfjnjaaDoorRdo
namespace Go.Proofs.YtjcinojbbfjnjaaDoor
open Go.RowKit

set_option maxHeartbeats 1000000 in
theorem do_n1 (x : ByteArray) (k a b : Int) (h : Sh k 0 false) (w : World) (t : Tab w) :
    Calls Tryd.prog 17 #[.string x, .int .i64 k, .int .i64 a, .int .i64 b] w fun e w' => e = .returned (.tuple #[.int .i64 0, .int .i64 3]) ∧ Below w.heap.size w w' := by
  have H : Hid (Sh k 0 false) := h
  have T : Hid (Tab w) := t
  have R : Hid (Below w.heap.size w w) := Below.refl _ _
  clear h t
  go_enter Tryd.func17, Tryd.ntmps17
  go_wp2_with (first
    | (go_at_call 12; refine (int_no H.out _ (Hid.out (by assumption))).mono ?_; rintro e w1 ⟨rfl, hb⟩; have R : Hid (Below w.heap.size w w1) := Below.next R.out hb; have T : Hid (Tab w1) := T.out.below hb; clear hb))
  go_ret2
  exact ⟨rfl, R.out⟩
set_option maxHeartbeats 1000000 in
theorem do_n2 (x : ByteArray) {k n : Int} {s : Bool} {l m : Int} (a b : Int) (h : KK k n s l m) (ha : a < l ∨ m < a) (w : World) (t : Tab w) :
    Calls Tryd.prog 17 #[.string x, .int .i64 k, .int .i64 a, .int .i64 b] w fun e w' => e = .returned (.tuple #[.int .i64 0, .int .i64 3]) ∧ Below w.heap.size w w' := by
  have H : Hid (KK k n s l m) := h
  have N : Hid (0 < n) := by have := h.bd; show 0 < n; omega
  clear h
  have V : Hid (a < l ∨ m < a) := ha
  clear ha
  have T : Hid (Tab w) := t
  have R : Hid (Below w.heap.size w w) := Below.refl _ _
  clear t
  go_enter Tryd.func17, Tryd.ntmps17
  go_wp2_with (first
    | (go_at_call 12; refine (int_yes H.out.sh N.out _ (Hid.out (by assumption))).mono ?_; rintro e w1 ⟨rfl, hb⟩; have R : Hid (Below w.heap.size w w1) := Below.next R.out hb; have T : Hid (Tab w1) := T.out.below hb; clear hb)
    | (go_at_call 24; refine (within_no _ H.out.rg V.out _ (Hid.out (by assumption))).mono ?_; rintro e w1 ⟨rfl, hb⟩; have R : Hid (Below w.heap.size w w1) := Below.next R.out hb; have T : Hid (Tab w1) := T.out.below hb; clear hb))
  go_ret2
  exact ⟨rfl, R.out⟩
set_option maxHeartbeats 1000000 in
theorem do_n3 (x : ByteArray) {k n : Int} {s : Bool} {l m : Int} (a b : Int) (h : KK k n s l m) (a1 : l ≤ a) (a2 : a ≤ m) (hb0 : b < l ∨ m < b) (x60_60 : ¬ x.toList = [60, 60]) (x62_62 : ¬ x.toList = [62, 62]) (w : World) (t : Tab w) :
    Calls Tryd.prog 17 #[.string x, .int .i64 k, .int .i64 a, .int .i64 b] w fun e w' => e = .returned (.tuple #[.int .i64 0, .int .i64 3]) ∧ Below w.heap.size w w' := by
  have H : Hid (KK k n s l m) := h
  have N : Hid (0 < n) := by have := h.bd; show 0 < n; omega
  clear h
  have y60_60 : (x.toList == [60, 60]) = false := by simpa using x60_60
  have y62_62 : (x.toList == [62, 62]) = false := by simpa using x62_62
  have V : Hid (b < l ∨ m < b) := hb0
  clear hb0
  have T : Hid (Tab w) := t
  have R : Hid (Below w.heap.size w w) := Below.refl _ _
  clear t
  go_enter Tryd.func17, Tryd.ntmps17
  go_wp2_with (first
    | (go_at_call 12; refine (int_yes H.out.sh N.out _ (Hid.out (by assumption))).mono ?_; rintro e w1 ⟨rfl, hb⟩; have R : Hid (Below w.heap.size w w1) := Below.next R.out hb; have T : Hid (Tab w1) := T.out.below hb; clear hb)
    | (go_at_call_of 24 a; refine (within_yes _ H.out.rg (by assumption) (by assumption) _ (Hid.out (by assumption))).mono ?_; rintro e w1 ⟨rfl, hb⟩; have R : Hid (Below w.heap.size w w1) := Below.next R.out hb; have T : Hid (Tab w1) := T.out.below hb; clear hb)
    | (go_at_call 24; refine (within_no _ H.out.rg V.out _ (Hid.out (by assumption))).mono ?_; rintro e w1 ⟨rfl, hb⟩; have R : Hid (Below w.heap.size w w1) := Below.next R.out hb; have T : Hid (Tab w1) := T.out.below hb; clear hb))
  go_ret2
  exact ⟨rfl, R.out⟩
set_option maxHeartbeats 1000000 in
theorem do_n4 (x : ByteArray) {k n : Int} {s : Bool} {l m : Int} (a b : Int) (h : KK k n s l m) (a1 : l ≤ a) (a2 : a ≤ m) (b1 : l ≤ b) (b2 : b ≤ m) (x43 : ¬ x.toList = [43]) (x45 : ¬ x.toList = [45]) (x42 : ¬ x.toList = [42]) (x47 : ¬ x.toList = [47]) (x37 : ¬ x.toList = [37]) (x38 : ¬ x.toList = [38]) (x124 : ¬ x.toList = [124]) (x94 : ¬ x.toList = [94]) (x60_60 : ¬ x.toList = [60, 60]) (x62_62 : ¬ x.toList = [62, 62]) (w : World) (t : Tab w) :
    Calls Tryd.prog 17 #[.string x, .int .i64 k, .int .i64 a, .int .i64 b] w fun e w' => e = .returned (.tuple #[.int .i64 0, .int .i64 3]) ∧ Below w.heap.size w w' := by
  have H : Hid (KK k n s l m) := h
  have N : Hid (0 < n) := by have := h.bd; show 0 < n; omega
  clear h
  have y43 : (x.toList == [43]) = false := by simpa using x43
  have y45 : (x.toList == [45]) = false := by simpa using x45
  have y42 : (x.toList == [42]) = false := by simpa using x42
  have y47 : (x.toList == [47]) = false := by simpa using x47
  have y37 : (x.toList == [37]) = false := by simpa using x37
  have y38 : (x.toList == [38]) = false := by simpa using x38
  have y124 : (x.toList == [124]) = false := by simpa using x124
  have y94 : (x.toList == [94]) = false := by simpa using x94
  have y60_60 : (x.toList == [60, 60]) = false := by simpa using x60_60
  have y62_62 : (x.toList == [62, 62]) = false := by simpa using x62_62
  have T : Hid (Tab w) := t
  have R : Hid (Below w.heap.size w w) := Below.refl _ _
  clear t
  go_enter Tryd.func17, Tryd.ntmps17
  go_wp2_with (first
    | (go_at_call 12; refine (int_yes H.out.sh N.out _ (Hid.out (by assumption))).mono ?_; rintro e w1 ⟨rfl, hb⟩; have R : Hid (Below w.heap.size w w1) := Below.next R.out hb; have T : Hid (Tab w1) := T.out.below hb; clear hb)
    | (go_at_call 24; refine (within_yes _ H.out.rg (by assumption) (by assumption) _ (Hid.out (by assumption))).mono ?_; rintro e w1 ⟨rfl, hb⟩; have R : Hid (Below w.heap.size w w1) := Below.next R.out hb; have T : Hid (Tab w1) := T.out.below hb; clear hb))
  go_ret2
  exact ⟨rfl, R.out⟩
set_option maxHeartbeats 1000000 in
set_option maxRecDepth 20000 in
theorem rdo_n1al (x : ByteArray) (k : Int) (a b : Int) (hk : k < 3) (x1 : x.toList = [60, 60]) (w : World) :
    Calls Tryd.prog 18 #[.string x, .int .i64 k, .int .i64 a, .int .i64 b] w fun e w' => e = .returned (.tuple #[.int .i64 0, .int .i64 3]) ∧ Below w.heap.size w w' := by
  have y1 : (x.toList == [60, 60]) = true := by simpa using x1
  clear x1
  have h3 : decide (3 ≤ k) = false := by simp; omega
  have G : Hid (∀ j : Nat, j < 10 → (w.alloc (Obj.cells #[Value.string { data := #[43] }, Value.string { data := #[45] }, Value.string { data := #[42] }, Value.string { data := #[47] }, Value.string { data := #[37] }, Value.string { data := #[38] }, Value.string { data := #[124] }, Value.string { data := #[94] }, Value.string { data := #[60, 60] }, Value.string { data := #[62, 62] }] 9)).cell? ⟨w.heap.size, j, none⟩ = some (.string (sg j))) := sg_new w
  go_enter Tryd.func18, Tryd.ntmps18
  go_wp2_with fail
  go_loop [11, 13] (fun c i => ∃ (j : Nat) (K : Bool), j ≤ 10 ∧ i = .int .i64 j ∧ c = .bool K) (fun _ i => 10 - (intOf i).toNat)
  case atStart => exact ⟨0, false, by omega, rfl, rfl⟩
  case round =>
    obtain ⟨j, K, hj10, rfl, rfl⟩ := hrel
    by_cases hj : j < 10
    · have hcell := G.out j hj
      clear G
      cases K
      · go_wp2_with fail
        go_round
        case rel => exact ⟨j + 1, _, by omega, by go_num, rfl⟩
        case measure => simp [intOf]; omega
      · go_wp2_with fail
        go_round
        case rel => exact ⟨j + 1, _, by omega, by go_num, rfl⟩
        case measure => simp [intOf]; omega
    · have hj' : j = 10 := by omega
      subst hj'
      clear G
      go_wp2_with (go_at_call 13; go_in)
      go_ret2
      exact ⟨rfl, (Below.refl _ _).alloc (Nat.le_refl _) _⟩
set_option maxHeartbeats 1000000 in
set_option maxRecDepth 20000 in
theorem rdo_n1ah (x : ByteArray) (k : Int) (a b : Int) (hk : 8 < k) (x1 : x.toList = [60, 60]) (w : World) :
    Calls Tryd.prog 18 #[.string x, .int .i64 k, .int .i64 a, .int .i64 b] w fun e w' => e = .returned (.tuple #[.int .i64 0, .int .i64 3]) ∧ Below w.heap.size w w' := by
  have y1 : (x.toList == [60, 60]) = true := by simpa using x1
  clear x1
  have h8 : decide (k ≤ 8) = false := by simp; omega
  have G : Hid (∀ j : Nat, j < 10 → (w.alloc (Obj.cells #[Value.string { data := #[43] }, Value.string { data := #[45] }, Value.string { data := #[42] }, Value.string { data := #[47] }, Value.string { data := #[37] }, Value.string { data := #[38] }, Value.string { data := #[124] }, Value.string { data := #[94] }, Value.string { data := #[60, 60] }, Value.string { data := #[62, 62] }] 9)).cell? ⟨w.heap.size, j, none⟩ = some (.string (sg j))) := sg_new w
  go_enter Tryd.func18, Tryd.ntmps18
  go_wp2_with fail
  go_loop [11, 13] (fun c i => ∃ (j : Nat) (K : Bool), j ≤ 10 ∧ i = .int .i64 j ∧ c = .bool K) (fun _ i => 10 - (intOf i).toNat)
  case atStart => exact ⟨0, false, by omega, rfl, rfl⟩
  case round =>
    obtain ⟨j, K, hj10, rfl, rfl⟩ := hrel
    by_cases hj : j < 10
    · have hcell := G.out j hj
      clear G
      cases K
      · go_wp2_with fail
        go_round
        case rel => exact ⟨j + 1, _, by omega, by go_num, rfl⟩
        case measure => simp [intOf]; omega
      · go_wp2_with fail
        go_round
        case rel => exact ⟨j + 1, _, by omega, by go_num, rfl⟩
        case measure => simp [intOf]; omega
    · have hj' : j = 10 := by omega
      subst hj'
      clear G
      go_wp2_with (go_at_call 13; go_in)
      go_ret2
      exact ⟨rfl, (Below.refl _ _).alloc (Nat.le_refl _) _⟩
set_option maxHeartbeats 1000000 in
set_option maxRecDepth 20000 in
theorem rdo_n2a (x : ByteArray) {k n : Int} {s : Bool} {l m : Int} (a b : Int) (h : KK k n s l m) (ha : a < l ∨ m < a) (x1 : x.toList = [60, 60]) (w : World) :
    Calls Tryd.prog 18 #[.string x, .int .i64 k, .int .i64 a, .int .i64 b] w fun e w' => e = .returned (.tuple #[.int .i64 0, .int .i64 3]) ∧ Below w.heap.size w w' := by
  have y1 : (x.toList == [60, 60]) = true := by simpa using x1
  clear x1
  have k1 := h.lo
  have k2 := h.hi
  have H : Hid (KK k n s l m) := h
  have V : Hid (a < l ∨ m < a) := ha
  clear h ha
  have G : Hid (∀ j : Nat, j < 10 → (w.alloc (Obj.cells #[Value.string { data := #[43] }, Value.string { data := #[45] }, Value.string { data := #[42] }, Value.string { data := #[47] }, Value.string { data := #[37] }, Value.string { data := #[38] }, Value.string { data := #[124] }, Value.string { data := #[94] }, Value.string { data := #[60, 60] }, Value.string { data := #[62, 62] }] 9)).cell? ⟨w.heap.size, j, none⟩ = some (.string (sg j))) := sg_new w
  go_enter Tryd.func18, Tryd.ntmps18
  go_wp2_with fail
  go_loop [11, 13] (fun c i => ∃ (j : Nat) (K : Bool), j ≤ 10 ∧ i = .int .i64 j ∧ c = .bool K) (fun _ i => 10 - (intOf i).toNat)
  case atStart => exact ⟨0, false, by omega, rfl, rfl⟩
  case round =>
    obtain ⟨j, K, hj10, rfl, rfl⟩ := hrel
    by_cases hj : j < 10
    · have hcell := G.out j hj
      clear G
      cases K
      · go_wp2_with fail
        go_round
        case rel => exact ⟨j + 1, _, by omega, by go_num, rfl⟩
        case measure => simp [intOf]; omega
      · go_wp2_with fail
        go_round
        case rel => exact ⟨j + 1, _, by omega, by go_num, rfl⟩
        case measure => simp [intOf]; omega
    · have hj' : j = 10 := by omega
      subst hj'
      clear G
      cases K
      · go_wp2_with (go_at_call 13; go_in)
        go_ret2
        exact ⟨rfl, (Below.refl _ _).alloc (Nat.le_refl _) _⟩
      · go_wp2_with (first
          | (go_at_call 31; refine (rin_no _ H.out V.out _).mono ?_; rintro e w1 ⟨rfl, rfl⟩)
          | (go_at_call 13; go_in))
        go_ret2
        exact ⟨rfl, (Below.refl _ _).alloc (Nat.le_refl _) _⟩
set_option maxHeartbeats 1000000 in
set_option maxRecDepth 20000 in
theorem rdo_n1bl (x : ByteArray) (k : Int) (a b : Int) (hk : k < 3) (x1 : ¬ x.toList = [60, 60]) (x2 : x.toList = [62, 62]) (w : World) :
    Calls Tryd.prog 18 #[.string x, .int .i64 k, .int .i64 a, .int .i64 b] w fun e w' => e = .returned (.tuple #[.int .i64 0, .int .i64 3]) ∧ Below w.heap.size w w' := by
  have y1 : (x.toList == [60, 60]) = false := by simpa using x1
  have y2 : (x.toList == [62, 62]) = true := by simpa using x2
  clear x2
  have h3 : decide (3 ≤ k) = false := by simp; omega
  have G : Hid (∀ j : Nat, j < 10 → (w.alloc (Obj.cells #[Value.string { data := #[43] }, Value.string { data := #[45] }, Value.string { data := #[42] }, Value.string { data := #[47] }, Value.string { data := #[37] }, Value.string { data := #[38] }, Value.string { data := #[124] }, Value.string { data := #[94] }, Value.string { data := #[60, 60] }, Value.string { data := #[62, 62] }] 9)).cell? ⟨w.heap.size, j, none⟩ = some (.string (sg j))) := sg_new w
  go_enter Tryd.func18, Tryd.ntmps18
  go_wp2_with fail
  go_loop [11, 13] (fun c i => ∃ (j : Nat) (K : Bool), j ≤ 10 ∧ i = .int .i64 j ∧ c = .bool K) (fun _ i => 10 - (intOf i).toNat)
  case atStart => exact ⟨0, false, by omega, rfl, rfl⟩
  case round =>
    obtain ⟨j, K, hj10, rfl, rfl⟩ := hrel
    by_cases hj : j < 10
    · have hcell := G.out j hj
      clear G
      cases K
      · go_wp2_with fail
        go_round
        case rel => exact ⟨j + 1, _, by omega, by go_num, rfl⟩
        case measure => simp [intOf]; omega
      · go_wp2_with fail
        go_round
        case rel => exact ⟨j + 1, _, by omega, by go_num, rfl⟩
        case measure => simp [intOf]; omega
    · have hj' : j = 10 := by omega
      subst hj'
      clear G
      go_wp2_with (go_at_call 13; go_in)
      go_ret2
      exact ⟨rfl, (Below.refl _ _).alloc (Nat.le_refl _) _⟩
set_option maxHeartbeats 1000000 in
set_option maxRecDepth 20000 in
theorem rdo_n1bh (x : ByteArray) (k : Int) (a b : Int) (hk : 8 < k) (x1 : ¬ x.toList = [60, 60]) (x2 : x.toList = [62, 62]) (w : World) :
    Calls Tryd.prog 18 #[.string x, .int .i64 k, .int .i64 a, .int .i64 b] w fun e w' => e = .returned (.tuple #[.int .i64 0, .int .i64 3]) ∧ Below w.heap.size w w' := by
  have y1 : (x.toList == [60, 60]) = false := by simpa using x1
  have y2 : (x.toList == [62, 62]) = true := by simpa using x2
  clear x2
  have h8 : decide (k ≤ 8) = false := by simp; omega
  have G : Hid (∀ j : Nat, j < 10 → (w.alloc (Obj.cells #[Value.string { data := #[43] }, Value.string { data := #[45] }, Value.string { data := #[42] }, Value.string { data := #[47] }, Value.string { data := #[37] }, Value.string { data := #[38] }, Value.string { data := #[124] }, Value.string { data := #[94] }, Value.string { data := #[60, 60] }, Value.string { data := #[62, 62] }] 9)).cell? ⟨w.heap.size, j, none⟩ = some (.string (sg j))) := sg_new w
  go_enter Tryd.func18, Tryd.ntmps18
  go_wp2_with fail
  go_loop [11, 13] (fun c i => ∃ (j : Nat) (K : Bool), j ≤ 10 ∧ i = .int .i64 j ∧ c = .bool K) (fun _ i => 10 - (intOf i).toNat)
  case atStart => exact ⟨0, false, by omega, rfl, rfl⟩
  case round =>
    obtain ⟨j, K, hj10, rfl, rfl⟩ := hrel
    by_cases hj : j < 10
    · have hcell := G.out j hj
      clear G
      cases K
      · go_wp2_with fail
        go_round
        case rel => exact ⟨j + 1, _, by omega, by go_num, rfl⟩
        case measure => simp [intOf]; omega
      · go_wp2_with fail
        go_round
        case rel => exact ⟨j + 1, _, by omega, by go_num, rfl⟩
        case measure => simp [intOf]; omega
    · have hj' : j = 10 := by omega
      subst hj'
      clear G
      go_wp2_with (go_at_call 13; go_in)
      go_ret2
      exact ⟨rfl, (Below.refl _ _).alloc (Nat.le_refl _) _⟩
set_option maxHeartbeats 1000000 in
set_option maxRecDepth 20000 in
theorem rdo_n2b (x : ByteArray) {k n : Int} {s : Bool} {l m : Int} (a b : Int) (h : KK k n s l m) (ha : a < l ∨ m < a) (x1 : ¬ x.toList = [60, 60]) (x2 : x.toList = [62, 62]) (w : World) :
    Calls Tryd.prog 18 #[.string x, .int .i64 k, .int .i64 a, .int .i64 b] w fun e w' => e = .returned (.tuple #[.int .i64 0, .int .i64 3]) ∧ Below w.heap.size w w' := by
  have y1 : (x.toList == [60, 60]) = false := by simpa using x1
  have y2 : (x.toList == [62, 62]) = true := by simpa using x2
  clear x2
  have k1 := h.lo
  have k2 := h.hi
  have H : Hid (KK k n s l m) := h
  have V : Hid (a < l ∨ m < a) := ha
  clear h ha
  have G : Hid (∀ j : Nat, j < 10 → (w.alloc (Obj.cells #[Value.string { data := #[43] }, Value.string { data := #[45] }, Value.string { data := #[42] }, Value.string { data := #[47] }, Value.string { data := #[37] }, Value.string { data := #[38] }, Value.string { data := #[124] }, Value.string { data := #[94] }, Value.string { data := #[60, 60] }, Value.string { data := #[62, 62] }] 9)).cell? ⟨w.heap.size, j, none⟩ = some (.string (sg j))) := sg_new w
  go_enter Tryd.func18, Tryd.ntmps18
  go_wp2_with fail
  go_loop [11, 13] (fun c i => ∃ (j : Nat) (K : Bool), j ≤ 10 ∧ i = .int .i64 j ∧ c = .bool K) (fun _ i => 10 - (intOf i).toNat)
  case atStart => exact ⟨0, false, by omega, rfl, rfl⟩
  case round =>
    obtain ⟨j, K, hj10, rfl, rfl⟩ := hrel
    by_cases hj : j < 10
    · have hcell := G.out j hj
      clear G
      cases K
      · go_wp2_with fail
        go_round
        case rel => exact ⟨j + 1, _, by omega, by go_num, rfl⟩
        case measure => simp [intOf]; omega
      · go_wp2_with fail
        go_round
        case rel => exact ⟨j + 1, _, by omega, by go_num, rfl⟩
        case measure => simp [intOf]; omega
    · have hj' : j = 10 := by omega
      subst hj'
      clear G
      cases K
      · go_wp2_with (go_at_call 13; go_in)
        go_ret2
        exact ⟨rfl, (Below.refl _ _).alloc (Nat.le_refl _) _⟩
      · go_wp2_with (first
          | (go_at_call 31; refine (rin_no _ H.out V.out _).mono ?_; rintro e w1 ⟨rfl, rfl⟩)
          | (go_at_call 13; go_in))
        go_ret2
        exact ⟨rfl, (Below.refl _ _).alloc (Nat.le_refl _) _⟩
set_option maxHeartbeats 1000000 in
set_option maxRecDepth 20000 in
theorem rdo_n1cl (x : ByteArray) (k : Int) (a b : Int) (hk : k < 3) (x1 : ¬ x.toList = [60, 60]) (x2 : ¬ x.toList = [62, 62]) (w : World) :
    Calls Tryd.prog 18 #[.string x, .int .i64 k, .int .i64 a, .int .i64 b] w fun e w' => e = .returned (.tuple #[.int .i64 0, .int .i64 3]) ∧ Below w.heap.size w w' := by
  have y1 : (x.toList == [60, 60]) = false := by simpa using x1
  have y2 : (x.toList == [62, 62]) = false := by simpa using x2
  have h3 : decide (3 ≤ k) = false := by simp; omega
  have G : Hid (∀ j : Nat, j < 10 → (w.alloc (Obj.cells #[Value.string { data := #[43] }, Value.string { data := #[45] }, Value.string { data := #[42] }, Value.string { data := #[47] }, Value.string { data := #[37] }, Value.string { data := #[38] }, Value.string { data := #[124] }, Value.string { data := #[94] }, Value.string { data := #[60, 60] }, Value.string { data := #[62, 62] }] 9)).cell? ⟨w.heap.size, j, none⟩ = some (.string (sg j))) := sg_new w
  go_enter Tryd.func18, Tryd.ntmps18
  go_wp2_with fail
  go_loop [11, 13] (fun c i => ∃ (j : Nat) (K : Bool), j ≤ 10 ∧ i = .int .i64 j ∧ c = .bool K) (fun _ i => 10 - (intOf i).toNat)
  case atStart => exact ⟨0, false, by omega, rfl, rfl⟩
  case round =>
    obtain ⟨j, K, hj10, rfl, rfl⟩ := hrel
    by_cases hj : j < 10
    · have hcell := G.out j hj
      clear G
      cases K
      · go_wp2_with fail
        go_round
        case rel => exact ⟨j + 1, _, by omega, by go_num, rfl⟩
        case measure => simp [intOf]; omega
      · go_wp2_with fail
        go_round
        case rel => exact ⟨j + 1, _, by omega, by go_num, rfl⟩
        case measure => simp [intOf]; omega
    · have hj' : j = 10 := by omega
      subst hj'
      clear G
      go_wp2_with (go_at_call 13; go_in)
      go_ret2
      exact ⟨rfl, (Below.refl _ _).alloc (Nat.le_refl _) _⟩
set_option maxHeartbeats 1000000 in
set_option maxRecDepth 20000 in
theorem rdo_n1ch (x : ByteArray) (k : Int) (a b : Int) (hk : 8 < k) (x1 : ¬ x.toList = [60, 60]) (x2 : ¬ x.toList = [62, 62]) (w : World) :
    Calls Tryd.prog 18 #[.string x, .int .i64 k, .int .i64 a, .int .i64 b] w fun e w' => e = .returned (.tuple #[.int .i64 0, .int .i64 3]) ∧ Below w.heap.size w w' := by
  have y1 : (x.toList == [60, 60]) = false := by simpa using x1
  have y2 : (x.toList == [62, 62]) = false := by simpa using x2
  have h8 : decide (k ≤ 8) = false := by simp; omega
  have G : Hid (∀ j : Nat, j < 10 → (w.alloc (Obj.cells #[Value.string { data := #[43] }, Value.string { data := #[45] }, Value.string { data := #[42] }, Value.string { data := #[47] }, Value.string { data := #[37] }, Value.string { data := #[38] }, Value.string { data := #[124] }, Value.string { data := #[94] }, Value.string { data := #[60, 60] }, Value.string { data := #[62, 62] }] 9)).cell? ⟨w.heap.size, j, none⟩ = some (.string (sg j))) := sg_new w
  go_enter Tryd.func18, Tryd.ntmps18
  go_wp2_with fail
  go_loop [11, 13] (fun c i => ∃ (j : Nat) (K : Bool), j ≤ 10 ∧ i = .int .i64 j ∧ c = .bool K) (fun _ i => 10 - (intOf i).toNat)
  case atStart => exact ⟨0, false, by omega, rfl, rfl⟩
  case round =>
    obtain ⟨j, K, hj10, rfl, rfl⟩ := hrel
    by_cases hj : j < 10
    · have hcell := G.out j hj
      clear G
      cases K
      · go_wp2_with fail
        go_round
        case rel => exact ⟨j + 1, _, by omega, by go_num, rfl⟩
        case measure => simp [intOf]; omega
      · go_wp2_with fail
        go_round
        case rel => exact ⟨j + 1, _, by omega, by go_num, rfl⟩
        case measure => simp [intOf]; omega
    · have hj' : j = 10 := by omega
      subst hj'
      clear G
      go_wp2_with (go_at_call 13; go_in)
      go_ret2
      exact ⟨rfl, (Below.refl _ _).alloc (Nat.le_refl _) _⟩
set_option maxHeartbeats 1000000 in
set_option maxRecDepth 20000 in
theorem rdo_n2c (x : ByteArray) {k n : Int} {s : Bool} {l m : Int} (a b : Int) (h : KK k n s l m) (ha : a < l ∨ m < a) (x1 : ¬ x.toList = [60, 60]) (x2 : ¬ x.toList = [62, 62]) (w : World) :
    Calls Tryd.prog 18 #[.string x, .int .i64 k, .int .i64 a, .int .i64 b] w fun e w' => e = .returned (.tuple #[.int .i64 0, .int .i64 3]) ∧ Below w.heap.size w w' := by
  have y1 : (x.toList == [60, 60]) = false := by simpa using x1
  have y2 : (x.toList == [62, 62]) = false := by simpa using x2
  have k1 := h.lo
  have k2 := h.hi
  have H : Hid (KK k n s l m) := h
  have V : Hid (a < l ∨ m < a) := ha
  clear h ha
  have G : Hid (∀ j : Nat, j < 10 → (w.alloc (Obj.cells #[Value.string { data := #[43] }, Value.string { data := #[45] }, Value.string { data := #[42] }, Value.string { data := #[47] }, Value.string { data := #[37] }, Value.string { data := #[38] }, Value.string { data := #[124] }, Value.string { data := #[94] }, Value.string { data := #[60, 60] }, Value.string { data := #[62, 62] }] 9)).cell? ⟨w.heap.size, j, none⟩ = some (.string (sg j))) := sg_new w
  go_enter Tryd.func18, Tryd.ntmps18
  go_wp2_with fail
  go_loop [11, 13] (fun c i => ∃ (j : Nat) (K : Bool), j ≤ 10 ∧ i = .int .i64 j ∧ c = .bool K) (fun _ i => 10 - (intOf i).toNat)
  case atStart => exact ⟨0, false, by omega, rfl, rfl⟩
  case round =>
    obtain ⟨j, K, hj10, rfl, rfl⟩ := hrel
    by_cases hj : j < 10
    · have hcell := G.out j hj
      clear G
      cases K
      · go_wp2_with fail
        go_round
        case rel => exact ⟨j + 1, _, by omega, by go_num, rfl⟩
        case measure => simp [intOf]; omega
      · go_wp2_with fail
        go_round
        case rel => exact ⟨j + 1, _, by omega, by go_num, rfl⟩
        case measure => simp [intOf]; omega
    · have hj' : j = 10 := by omega
      subst hj'
      clear G
      cases K
      · go_wp2_with (go_at_call 13; go_in)
        go_ret2
        exact ⟨rfl, (Below.refl _ _).alloc (Nat.le_refl _) _⟩
      · go_wp2_with (first
          | (go_at_call 31; refine (rin_no _ H.out V.out _).mono ?_; rintro e w1 ⟨rfl, rfl⟩)
          | (go_at_call 13; go_in))
        go_ret2
        exact ⟨rfl, (Below.refl _ _).alloc (Nat.le_refl _) _⟩
set_option maxHeartbeats 1000000 in
set_option maxRecDepth 20000 in
theorem rdo_n3 (x : ByteArray) {k n : Int} {s : Bool} {l m : Int} (a b : Int) (h : KK k n s l m) (a1 : l ≤ a) (a2 : a ≤ m) (hb0 : b < l ∨ m < b) (x1 : ¬ x.toList = [60, 60]) (x2 : ¬ x.toList = [62, 62]) (w : World) :
    Calls Tryd.prog 18 #[.string x, .int .i64 k, .int .i64 a, .int .i64 b] w fun e w' => e = .returned (.tuple #[.int .i64 0, .int .i64 3]) ∧ Below w.heap.size w w' := by
  have y1 : (x.toList == [60, 60]) = false := by simpa using x1
  have y2 : (x.toList == [62, 62]) = false := by simpa using x2
  have k1 := h.lo
  have k2 := h.hi
  have H : Hid (KK k n s l m) := h
  have V : Hid (b < l ∨ m < b) := hb0
  clear h hb0
  have G : Hid (∀ j : Nat, j < 10 → (w.alloc (Obj.cells #[Value.string { data := #[43] }, Value.string { data := #[45] }, Value.string { data := #[42] }, Value.string { data := #[47] }, Value.string { data := #[37] }, Value.string { data := #[38] }, Value.string { data := #[124] }, Value.string { data := #[94] }, Value.string { data := #[60, 60] }, Value.string { data := #[62, 62] }] 9)).cell? ⟨w.heap.size, j, none⟩ = some (.string (sg j))) := sg_new w
  go_enter Tryd.func18, Tryd.ntmps18
  go_wp2_with fail
  go_loop [11, 13] (fun c i => ∃ (j : Nat) (K : Bool), j ≤ 10 ∧ i = .int .i64 j ∧ c = .bool K) (fun _ i => 10 - (intOf i).toNat)
  case atStart => exact ⟨0, false, by omega, rfl, rfl⟩
  case round =>
    obtain ⟨j, K, hj10, rfl, rfl⟩ := hrel
    by_cases hj : j < 10
    · have hcell := G.out j hj
      clear G
      cases K
      · go_wp2_with fail
        go_round
        case rel => exact ⟨j + 1, _, by omega, by go_num, rfl⟩
        case measure => simp [intOf]; omega
      · go_wp2_with fail
        go_round
        case rel => exact ⟨j + 1, _, by omega, by go_num, rfl⟩
        case measure => simp [intOf]; omega
    · have hj' : j = 10 := by omega
      subst hj'
      clear G
      cases K
      · go_wp2_with (go_at_call 13; go_in)
        go_ret2
        exact ⟨rfl, (Below.refl _ _).alloc (Nat.le_refl _) _⟩
      · go_wp2_with (first
          | (go_at_call_of 31 a; refine (rin_yes _ H.out (by assumption) (by assumption) _).mono ?_; rintro e w1 ⟨rfl, rfl⟩)
          | (go_at_call 31; refine (rin_no _ H.out V.out _).mono ?_; rintro e w1 ⟨rfl, rfl⟩)
          | (go_at_call 13; go_in))
        go_ret2
        exact ⟨rfl, (Below.refl _ _).alloc (Nat.le_refl _) _⟩
set_option maxHeartbeats 1000000 in
set_option maxRecDepth 20000 in
theorem rdo_n4 (x : ByteArray) {k n : Int} {s : Bool} {l m : Int} (a b : Int) (h : KK k n s l m) (hx : ∀ j : Nat, j < 10 → ¬ (sg j).toList = x.toList) (x1 : ¬ x.toList = [60, 60]) (x2 : ¬ x.toList = [62, 62]) (w : World) :
    Calls Tryd.prog 18 #[.string x, .int .i64 k, .int .i64 a, .int .i64 b] w fun e w' => e = .returned (.tuple #[.int .i64 0, .int .i64 3]) ∧ Below w.heap.size w w' := by
  have y1 : (x.toList == [60, 60]) = false := by simpa using x1
  have y2 : (x.toList == [62, 62]) = false := by simpa using x2
  have k1 := h.lo
  have k2 := h.hi
  have X : Hid (∀ j : Nat, j < 10 → ¬ (sg j).toList = x.toList) := hx
  clear h hx
  have G : Hid (∀ j : Nat, j < 10 → (w.alloc (Obj.cells #[Value.string { data := #[43] }, Value.string { data := #[45] }, Value.string { data := #[42] }, Value.string { data := #[47] }, Value.string { data := #[37] }, Value.string { data := #[38] }, Value.string { data := #[124] }, Value.string { data := #[94] }, Value.string { data := #[60, 60] }, Value.string { data := #[62, 62] }] 9)).cell? ⟨w.heap.size, j, none⟩ = some (.string (sg j))) := sg_new w
  go_enter Tryd.func18, Tryd.ntmps18
  go_wp2_with fail
  go_loop [11, 13] (fun c i => ∃ j : Nat, j ≤ 10 ∧ i = .int .i64 j ∧ c = .bool false) (fun _ i => 10 - (intOf i).toNat)
  case atStart => exact ⟨0, by omega, rfl, rfl⟩
  case round =>
    obtain ⟨j, hj10, rfl, rfl⟩ := hrel
    by_cases hj : j < 10
    · have hcell := G.out j hj
      have hne : ((sg j).toList == x.toList) = false := by simpa using X.out j hj
      clear G
      go_wp2_with fail
      go_round
      case rel => exact ⟨j + 1, by omega, by go_num, rfl⟩
      case measure => simp [intOf]; omega
    · have hj' : j = 10 := by omega
      subst hj'
      clear G
      go_wp2_with (go_at_call 13; go_in)
      go_ret2
      exact ⟨rfl, (Below.refl _ _).alloc (Nat.le_refl _) _⟩
end Go.Proofs.YtjcinojbbfjnjaaDoor
