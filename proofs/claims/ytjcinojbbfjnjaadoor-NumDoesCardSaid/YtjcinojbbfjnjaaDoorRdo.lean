/-
  Proved: what the document's own Do (package ferruleref01) answers for each of its ten signs, and where it has no such operation; likewise what num.Do answers there.
-/
import Derived.Test.YtjcinojbbfjnjaaDoorRef
import Derived.Deep.RegionWith
namespace Go.Proofs.YtjcinojbbfjnjaaDoor
open Go.RowKit

theorem b_false {p j : Nat} (h : j < p) : Value.bool false = .bool (decide (p < j + 1)) := by rw [decide_eq_false (by omega)]
theorem b_true {p j : Nat} (h : p < j) : Value.bool true = .bool (decide (p < j + 1)) := by rw [decide_eq_true (by omega)]

/-- The ten signs, in the order of the document's list. -/
def sg : Nat → ByteArray
  | 0 => ⟨#[43]⟩ | 1 => ⟨#[45]⟩ | 2 => ⟨#[42]⟩ | 3 => ⟨#[47]⟩ | 4 => ⟨#[37]⟩ | 5 => ⟨#[38]⟩ | 6 => ⟨#[124]⟩ | 7 => ⟨#[94]⟩ | 8 => ⟨#[60, 60]⟩ | _ => ⟨#[62, 62]⟩

theorem sg_new (w : World) : ∀ j : Nat, j < 10 → (w.alloc (Obj.cells #[Value.string { data := #[43] }, Value.string { data := #[45] }, Value.string { data := #[42] }, Value.string { data := #[47] }, Value.string { data := #[37] }, Value.string { data := #[38] }, Value.string { data := #[124] }, Value.string { data := #[94] }, Value.string { data := #[60, 60] }, Value.string { data := #[62, 62] }] 9)).cell? ⟨w.heap.size, j, none⟩ = some (.string (sg j)) := by
  intro i hi
  have hi' : i = 0 ∨ i = 1 ∨ i = 2 ∨ i = 3 ∨ i = 4 ∨ i = 5 ∨ i = 6 ∨ i = 7 ∨ i = 8 ∨ i = 9 := by omega
  rcases hi' with rfl | rfl | rfl | rfl | rfl | rfl | rfl | rfl | rfl | rfl <;> exact (World.cell?_alloc_at (w := w) _ _ _ _ rfl).trans rfl

theorem sg_ne (i j : Nat) (hi : i < 10) (hj : j < i) : ¬ (sg j).toList = (sg i).toList := by
  rw [ByteArray.toList_eq, ByteArray.toList_eq]
  have hi' : i = 0 ∨ i = 1 ∨ i = 2 ∨ i = 3 ∨ i = 4 ∨ i = 5 ∨ i = 6 ∨ i = 7 ∨ i = 8 ∨ i = 9 := by omega
  have hj' : j = 0 ∨ j = 1 ∨ j = 2 ∨ j = 3 ∨ j = 4 ∨ j = 5 ∨ j = 6 ∨ j = 7 ∨ j = 8 ∨ j = 9 := by omega
  rcases hi' with rfl | rfl | rfl | rfl | rfl | rfl | rfl | rfl | rfl | rfl <;>
    rcases hj' with rfl | rfl | rfl | rfl | rfl | rfl | rfl | rfl | rfl | rfl <;> first | (exfalso; omega) | (simp [sg])

set_option maxHeartbeats 1000000 in
set_option maxRecDepth 20000 in
theorem rdo_add {k n : Int} {s : Bool} {l m : Int} (a b : Int) (h : KK k n s l m) (a1 : l ≤ a) (a2 : a ≤ m) (b1 : l ≤ b) (b2 : b ≤ m)  (w : World) :
    Calls Tryd.prog 18 #[.string ⟨#[43]⟩, .int .i64 k, .int .i64 a, .int .i64 b] w fun e w' => e = .returned (.tuple #[.int .i64 (fitv l m (a + b)), .int .i64 (fitf l m (a + b))]) ∧ Below w.heap.size w w' := by
  obtain ⟨e1, e2, e3, e4, e5, e6, -⟩ := h.bd
  have k1 := h.lo
  have k2 := h.hi
  have H : Hid (KK k n s l m) := h
  clear h
  have G : Hid (∀ j : Nat, j < 10 → (w.alloc (Obj.cells #[Value.string { data := #[43] }, Value.string { data := #[45] }, Value.string { data := #[42] }, Value.string { data := #[47] }, Value.string { data := #[37] }, Value.string { data := #[38] }, Value.string { data := #[124] }, Value.string { data := #[94] }, Value.string { data := #[60, 60] }, Value.string { data := #[62, 62] }] 9)).cell? ⟨w.heap.size, j, none⟩ = some (.string (sg j))) := sg_new w
  go_enter Tryd.func18, Tryd.ntmps18
  go_wp2_with fail
  go_loop [11, 13] (fun c i => ∃ j : Nat, j ≤ 10 ∧ i = .int .i64 j ∧ c = .bool (decide (0 < j))) (fun _ i => 10 - (intOf i).toNat)
  case atStart => exact ⟨0, by omega, rfl, rfl⟩
  case round =>
    obtain ⟨j, hj10, rfl, rfl⟩ := hrel
    by_cases hj : j < 10
    · rcases Nat.lt_trichotomy 0 j with hp | hp | hp
      · have hd : decide (0 < j) = true := by simpa using hp
        clear G
        go_wp2_with fail
        go_round
        case rel => exact ⟨j + 1, by omega, by go_num, b_true hp⟩
        case measure => simp [intOf]; omega
      · subst hp
        have hcell : (w.alloc (Obj.cells #[Value.string { data := #[43] }, Value.string { data := #[45] }, Value.string { data := #[42] }, Value.string { data := #[47] }, Value.string { data := #[37] }, Value.string { data := #[38] }, Value.string { data := #[124] }, Value.string { data := #[94] }, Value.string { data := #[60, 60] }, Value.string { data := #[62, 62] }] 9)).cell? ⟨w.heap.size, 0, none⟩ = some (.string ⟨#[43]⟩) := G.out 0 hj
        clear G
        go_wp2_with fail
        go_round
        case rel => exact ⟨0 + 1, by omega, by go_num, by simp⟩
        case measure => simp [intOf]
      · exfalso; omega
    · have hj' : j = 10 := by omega
      subst hj'
      clear G
      go_wp2_with (first
        | (go_at_call 31; refine (rin_yes _ H.out (by assumption) (by assumption) _).mono ?_; rintro e w1 ⟨rfl, rfl⟩)
        | (go_at_call 9; refine (rbits_any H.out.sh _).mono ?_; rintro e w1 ⟨rfl, rfl⟩)
        | (go_at_call 32; refine (rfit_any _ H.out _).mono ?_; rintro e w1 ⟨rfl, rfl⟩)
        | (go_at_call 13; go_in))
      go_ret2
      exact ⟨rfl, (Below.refl _ _).alloc (Nat.le_refl _) _⟩
set_option maxHeartbeats 1000000 in
set_option maxRecDepth 20000 in
theorem rdo_sub {k n : Int} {s : Bool} {l m : Int} (a b : Int) (h : KK k n s l m) (a1 : l ≤ a) (a2 : a ≤ m) (b1 : l ≤ b) (b2 : b ≤ m)  (w : World) :
    Calls Tryd.prog 18 #[.string ⟨#[45]⟩, .int .i64 k, .int .i64 a, .int .i64 b] w fun e w' => e = .returned (.tuple #[.int .i64 (fitv l m (a - b)), .int .i64 (fitf l m (a - b))]) ∧ Below w.heap.size w w' := by
  obtain ⟨e1, e2, e3, e4, e5, e6, -⟩ := h.bd
  have k1 := h.lo
  have k2 := h.hi
  have H : Hid (KK k n s l m) := h
  clear h
  have G : Hid (∀ j : Nat, j < 10 → (w.alloc (Obj.cells #[Value.string { data := #[43] }, Value.string { data := #[45] }, Value.string { data := #[42] }, Value.string { data := #[47] }, Value.string { data := #[37] }, Value.string { data := #[38] }, Value.string { data := #[124] }, Value.string { data := #[94] }, Value.string { data := #[60, 60] }, Value.string { data := #[62, 62] }] 9)).cell? ⟨w.heap.size, j, none⟩ = some (.string (sg j))) := sg_new w
  go_enter Tryd.func18, Tryd.ntmps18
  go_wp2_with fail
  go_loop [11, 13] (fun c i => ∃ j : Nat, j ≤ 10 ∧ i = .int .i64 j ∧ c = .bool (decide (1 < j))) (fun _ i => 10 - (intOf i).toNat)
  case atStart => exact ⟨0, by omega, rfl, rfl⟩
  case round =>
    obtain ⟨j, hj10, rfl, rfl⟩ := hrel
    by_cases hj : j < 10
    · rcases Nat.lt_trichotomy 1 j with hp | hp | hp
      · have hd : decide (1 < j) = true := by simpa using hp
        clear G
        go_wp2_with fail
        go_round
        case rel => exact ⟨j + 1, by omega, by go_num, b_true hp⟩
        case measure => simp [intOf]; omega
      · subst hp
        have hcell : (w.alloc (Obj.cells #[Value.string { data := #[43] }, Value.string { data := #[45] }, Value.string { data := #[42] }, Value.string { data := #[47] }, Value.string { data := #[37] }, Value.string { data := #[38] }, Value.string { data := #[124] }, Value.string { data := #[94] }, Value.string { data := #[60, 60] }, Value.string { data := #[62, 62] }] 9)).cell? ⟨w.heap.size, 1, none⟩ = some (.string ⟨#[45]⟩) := G.out 1 hj
        clear G
        go_wp2_with fail
        go_round
        case rel => exact ⟨1 + 1, by omega, by go_num, by simp⟩
        case measure => simp [intOf]
      · have hd : decide (1 < j) = false := by simp; omega
        have hcell := G.out j hj
        have hne : ((sg j).toList == [45]) = false := by
          have e : (sg 1).toList = [45] := by rw [ByteArray.toList_eq]; rfl
          rw [← e]; simpa using sg_ne 1 j (by decide) hp
        clear G
        go_wp2_with fail
        go_round
        case rel => exact ⟨j + 1, by omega, by go_num, b_false hp⟩
        case measure => simp [intOf]; omega
    · have hj' : j = 10 := by omega
      subst hj'
      clear G
      go_wp2_with (first
        | (go_at_call 31; refine (rin_yes _ H.out (by assumption) (by assumption) _).mono ?_; rintro e w1 ⟨rfl, rfl⟩)
        | (go_at_call 9; refine (rbits_any H.out.sh _).mono ?_; rintro e w1 ⟨rfl, rfl⟩)
        | (go_at_call 32; refine (rfit_any _ H.out _).mono ?_; rintro e w1 ⟨rfl, rfl⟩)
        | (go_at_call 13; go_in))
      go_ret2
      exact ⟨rfl, (Below.refl _ _).alloc (Nat.le_refl _) _⟩
set_option maxHeartbeats 1000000 in
set_option maxRecDepth 20000 in
theorem rdo_mul {k n : Int} {s : Bool} {l m : Int} (a b : Int) (h : KK k n s l m) (a1 : l ≤ a) (a2 : a ≤ m) (b1 : l ≤ b) (b2 : b ≤ m)  (w : World) :
    Calls Tryd.prog 18 #[.string ⟨#[42]⟩, .int .i64 k, .int .i64 a, .int .i64 b] w fun e w' => e = .returned (.tuple #[.int .i64 (fitv l m (wrap64 (a * b))), .int .i64 (fitf l m (wrap64 (a * b)))]) ∧ Below w.heap.size w w' := by
  obtain ⟨e1, e2, e3, e4, e5, e6, -⟩ := h.bd
  have k1 := h.lo
  have k2 := h.hi
  have H : Hid (KK k n s l m) := h
  clear h
  have G : Hid (∀ j : Nat, j < 10 → (w.alloc (Obj.cells #[Value.string { data := #[43] }, Value.string { data := #[45] }, Value.string { data := #[42] }, Value.string { data := #[47] }, Value.string { data := #[37] }, Value.string { data := #[38] }, Value.string { data := #[124] }, Value.string { data := #[94] }, Value.string { data := #[60, 60] }, Value.string { data := #[62, 62] }] 9)).cell? ⟨w.heap.size, j, none⟩ = some (.string (sg j))) := sg_new w
  go_enter Tryd.func18, Tryd.ntmps18
  go_wp2_with fail
  go_loop [11, 13] (fun c i => ∃ j : Nat, j ≤ 10 ∧ i = .int .i64 j ∧ c = .bool (decide (2 < j))) (fun _ i => 10 - (intOf i).toNat)
  case atStart => exact ⟨0, by omega, rfl, rfl⟩
  case round =>
    obtain ⟨j, hj10, rfl, rfl⟩ := hrel
    by_cases hj : j < 10
    · rcases Nat.lt_trichotomy 2 j with hp | hp | hp
      · have hd : decide (2 < j) = true := by simpa using hp
        clear G
        go_wp2_with fail
        go_round
        case rel => exact ⟨j + 1, by omega, by go_num, b_true hp⟩
        case measure => simp [intOf]; omega
      · subst hp
        have hcell : (w.alloc (Obj.cells #[Value.string { data := #[43] }, Value.string { data := #[45] }, Value.string { data := #[42] }, Value.string { data := #[47] }, Value.string { data := #[37] }, Value.string { data := #[38] }, Value.string { data := #[124] }, Value.string { data := #[94] }, Value.string { data := #[60, 60] }, Value.string { data := #[62, 62] }] 9)).cell? ⟨w.heap.size, 2, none⟩ = some (.string ⟨#[42]⟩) := G.out 2 hj
        clear G
        go_wp2_with fail
        go_round
        case rel => exact ⟨2 + 1, by omega, by go_num, by simp⟩
        case measure => simp [intOf]
      · have hd : decide (2 < j) = false := by simp; omega
        have hcell := G.out j hj
        have hne : ((sg j).toList == [42]) = false := by
          have e : (sg 2).toList = [42] := by rw [ByteArray.toList_eq]; rfl
          rw [← e]; simpa using sg_ne 2 j (by decide) hp
        clear G
        go_wp2_with fail
        go_round
        case rel => exact ⟨j + 1, by omega, by go_num, b_false hp⟩
        case measure => simp [intOf]; omega
    · have hj' : j = 10 := by omega
      subst hj'
      clear G
      go_wp2_with (first
        | (go_at_call 31; refine (rin_yes _ H.out (by assumption) (by assumption) _).mono ?_; rintro e w1 ⟨rfl, rfl⟩)
        | (go_at_call 9; refine (rbits_any H.out.sh _).mono ?_; rintro e w1 ⟨rfl, rfl⟩)
        | (go_at_call 32; refine (rfit_any _ H.out _).mono ?_; rintro e w1 ⟨rfl, rfl⟩)
        | (go_at_call 13; go_in))
      go_ret2
      exact ⟨rfl, (Below.refl _ _).alloc (Nat.le_refl _) _⟩
set_option maxHeartbeats 1000000 in
set_option maxRecDepth 20000 in
theorem rdo_div {k n : Int} {s : Bool} {l m : Int} (a b : Int) (h : KK k n s l m) (a1 : l ≤ a) (a2 : a ≤ m) (b1 : l ≤ b) (b2 : b ≤ m) (hb0 : ¬ b = 0) (w : World) :
    Calls Tryd.prog 18 #[.string ⟨#[47]⟩, .int .i64 k, .int .i64 a, .int .i64 b] w fun e w' => e = .returned (.tuple #[.int .i64 (fitv l m (a.tdiv b)), .int .i64 (fitf l m (a.tdiv b))]) ∧ Below w.heap.size w w' := by
  obtain ⟨e1, e2, e3, e4, e5, e6, -⟩ := h.bd
  have k1 := h.lo
  have k2 := h.hi
  have H : Hid (KK k n s l m) := h
  clear h
  have hb1 : (b == 0) = false := by simpa using hb0
  have hw := H.out.div b a1 a2
  have G : Hid (∀ j : Nat, j < 10 → (w.alloc (Obj.cells #[Value.string { data := #[43] }, Value.string { data := #[45] }, Value.string { data := #[42] }, Value.string { data := #[47] }, Value.string { data := #[37] }, Value.string { data := #[38] }, Value.string { data := #[124] }, Value.string { data := #[94] }, Value.string { data := #[60, 60] }, Value.string { data := #[62, 62] }] 9)).cell? ⟨w.heap.size, j, none⟩ = some (.string (sg j))) := sg_new w
  go_enter Tryd.func18, Tryd.ntmps18
  go_wp2_with fail
  go_loop [11, 13] (fun c i => ∃ j : Nat, j ≤ 10 ∧ i = .int .i64 j ∧ c = .bool (decide (3 < j))) (fun _ i => 10 - (intOf i).toNat)
  case atStart => exact ⟨0, by omega, rfl, rfl⟩
  case round =>
    obtain ⟨j, hj10, rfl, rfl⟩ := hrel
    by_cases hj : j < 10
    · rcases Nat.lt_trichotomy 3 j with hp | hp | hp
      · have hd : decide (3 < j) = true := by simpa using hp
        clear G
        go_wp2_with fail
        go_round
        case rel => exact ⟨j + 1, by omega, by go_num, b_true hp⟩
        case measure => simp [intOf]; omega
      · subst hp
        have hcell : (w.alloc (Obj.cells #[Value.string { data := #[43] }, Value.string { data := #[45] }, Value.string { data := #[42] }, Value.string { data := #[47] }, Value.string { data := #[37] }, Value.string { data := #[38] }, Value.string { data := #[124] }, Value.string { data := #[94] }, Value.string { data := #[60, 60] }, Value.string { data := #[62, 62] }] 9)).cell? ⟨w.heap.size, 3, none⟩ = some (.string ⟨#[47]⟩) := G.out 3 hj
        clear G
        go_wp2_with fail
        go_round
        case rel => exact ⟨3 + 1, by omega, by go_num, by simp⟩
        case measure => simp [intOf]
      · have hd : decide (3 < j) = false := by simp; omega
        have hcell := G.out j hj
        have hne : ((sg j).toList == [47]) = false := by
          have e : (sg 3).toList = [47] := by rw [ByteArray.toList_eq]; rfl
          rw [← e]; simpa using sg_ne 3 j (by decide) hp
        clear G
        go_wp2_with fail
        go_round
        case rel => exact ⟨j + 1, by omega, by go_num, b_false hp⟩
        case measure => simp [intOf]; omega
    · have hj' : j = 10 := by omega
      subst hj'
      clear G
      go_wp2_with (first
        | (go_at_call 31; refine (rin_yes _ H.out (by assumption) (by assumption) _).mono ?_; rintro e w1 ⟨rfl, rfl⟩)
        | (go_at_call 9; refine (rbits_any H.out.sh _).mono ?_; rintro e w1 ⟨rfl, rfl⟩)
        | (go_at_call 32; refine (rfit_any _ H.out _).mono ?_; rintro e w1 ⟨rfl, rfl⟩)
        | (go_at_call 13; go_in))
      go_ret2
      exact ⟨rfl, (Below.refl _ _).alloc (Nat.le_refl _) _⟩
set_option maxHeartbeats 1000000 in
set_option maxRecDepth 20000 in
theorem rdo_div0 {k n : Int} {s : Bool} {l m : Int} (a b : Int) (h : KK k n s l m) (a1 : l ≤ a) (a2 : a ≤ m) (b1 : l ≤ b) (b2 : b ≤ m) (hb0 : b = 0) (w : World) :
    Calls Tryd.prog 18 #[.string ⟨#[47]⟩, .int .i64 k, .int .i64 a, .int .i64 b] w fun e w' => e = .returned (.tuple #[.int .i64 (0), .int .i64 (2)]) ∧ Below w.heap.size w w' := by
  obtain ⟨e1, e2, e3, e4, e5, e6, -⟩ := h.bd
  have k1 := h.lo
  have k2 := h.hi
  have H : Hid (KK k n s l m) := h
  clear h
  subst hb0
  have G : Hid (∀ j : Nat, j < 10 → (w.alloc (Obj.cells #[Value.string { data := #[43] }, Value.string { data := #[45] }, Value.string { data := #[42] }, Value.string { data := #[47] }, Value.string { data := #[37] }, Value.string { data := #[38] }, Value.string { data := #[124] }, Value.string { data := #[94] }, Value.string { data := #[60, 60] }, Value.string { data := #[62, 62] }] 9)).cell? ⟨w.heap.size, j, none⟩ = some (.string (sg j))) := sg_new w
  go_enter Tryd.func18, Tryd.ntmps18
  go_wp2_with fail
  go_loop [11, 13] (fun c i => ∃ j : Nat, j ≤ 10 ∧ i = .int .i64 j ∧ c = .bool (decide (3 < j))) (fun _ i => 10 - (intOf i).toNat)
  case atStart => exact ⟨0, by omega, rfl, rfl⟩
  case round =>
    obtain ⟨j, hj10, rfl, rfl⟩ := hrel
    by_cases hj : j < 10
    · rcases Nat.lt_trichotomy 3 j with hp | hp | hp
      · have hd : decide (3 < j) = true := by simpa using hp
        clear G
        go_wp2_with fail
        go_round
        case rel => exact ⟨j + 1, by omega, by go_num, b_true hp⟩
        case measure => simp [intOf]; omega
      · subst hp
        have hcell : (w.alloc (Obj.cells #[Value.string { data := #[43] }, Value.string { data := #[45] }, Value.string { data := #[42] }, Value.string { data := #[47] }, Value.string { data := #[37] }, Value.string { data := #[38] }, Value.string { data := #[124] }, Value.string { data := #[94] }, Value.string { data := #[60, 60] }, Value.string { data := #[62, 62] }] 9)).cell? ⟨w.heap.size, 3, none⟩ = some (.string ⟨#[47]⟩) := G.out 3 hj
        clear G
        go_wp2_with fail
        go_round
        case rel => exact ⟨3 + 1, by omega, by go_num, by simp⟩
        case measure => simp [intOf]
      · have hd : decide (3 < j) = false := by simp; omega
        have hcell := G.out j hj
        have hne : ((sg j).toList == [47]) = false := by
          have e : (sg 3).toList = [47] := by rw [ByteArray.toList_eq]; rfl
          rw [← e]; simpa using sg_ne 3 j (by decide) hp
        clear G
        go_wp2_with fail
        go_round
        case rel => exact ⟨j + 1, by omega, by go_num, b_false hp⟩
        case measure => simp [intOf]; omega
    · have hj' : j = 10 := by omega
      subst hj'
      clear G
      go_wp2_with (first
        | (go_at_call 31; refine (rin_yes _ H.out (by assumption) (by assumption) _).mono ?_; rintro e w1 ⟨rfl, rfl⟩)
        | (go_at_call 9; refine (rbits_any H.out.sh _).mono ?_; rintro e w1 ⟨rfl, rfl⟩)
        | (go_at_call 13; go_in))
      go_ret2
      exact ⟨rfl, (Below.refl _ _).alloc (Nat.le_refl _) _⟩
set_option maxHeartbeats 1000000 in
set_option maxRecDepth 20000 in
theorem rdo_remo {k n : Int} {s : Bool} {l m : Int} (a b : Int) (h : KK k n s l m) (a1 : l ≤ a) (a2 : a ≤ m) (b1 : l ≤ b) (b2 : b ≤ m) (hb0 : ¬ b = 0) (hf : a.tdiv b < l ∨ m < a.tdiv b) (w : World) :
    Calls Tryd.prog 18 #[.string ⟨#[37]⟩, .int .i64 k, .int .i64 a, .int .i64 b] w fun e w' => e = .returned (.tuple #[.int .i64 (0), .int .i64 (1)]) ∧ Below w.heap.size w w' := by
  obtain ⟨e1, e2, e3, e4, e5, e6, -⟩ := h.bd
  have k1 := h.lo
  have k2 := h.hi
  have H : Hid (KK k n s l m) := h
  clear h
  have hb1 : (b == 0) = false := by simpa using hb0
  have hw := H.out.div b a1 a2
  have F : Hid (a.tdiv b < l ∨ m < a.tdiv b) := hf
  clear hf
  have G : Hid (∀ j : Nat, j < 10 → (w.alloc (Obj.cells #[Value.string { data := #[43] }, Value.string { data := #[45] }, Value.string { data := #[42] }, Value.string { data := #[47] }, Value.string { data := #[37] }, Value.string { data := #[38] }, Value.string { data := #[124] }, Value.string { data := #[94] }, Value.string { data := #[60, 60] }, Value.string { data := #[62, 62] }] 9)).cell? ⟨w.heap.size, j, none⟩ = some (.string (sg j))) := sg_new w
  go_enter Tryd.func18, Tryd.ntmps18
  go_wp2_with fail
  go_loop [11, 13] (fun c i => ∃ j : Nat, j ≤ 10 ∧ i = .int .i64 j ∧ c = .bool (decide (4 < j))) (fun _ i => 10 - (intOf i).toNat)
  case atStart => exact ⟨0, by omega, rfl, rfl⟩
  case round =>
    obtain ⟨j, hj10, rfl, rfl⟩ := hrel
    by_cases hj : j < 10
    · rcases Nat.lt_trichotomy 4 j with hp | hp | hp
      · have hd : decide (4 < j) = true := by simpa using hp
        clear G
        go_wp2_with fail
        go_round
        case rel => exact ⟨j + 1, by omega, by go_num, b_true hp⟩
        case measure => simp [intOf]; omega
      · subst hp
        have hcell : (w.alloc (Obj.cells #[Value.string { data := #[43] }, Value.string { data := #[45] }, Value.string { data := #[42] }, Value.string { data := #[47] }, Value.string { data := #[37] }, Value.string { data := #[38] }, Value.string { data := #[124] }, Value.string { data := #[94] }, Value.string { data := #[60, 60] }, Value.string { data := #[62, 62] }] 9)).cell? ⟨w.heap.size, 4, none⟩ = some (.string ⟨#[37]⟩) := G.out 4 hj
        clear G
        go_wp2_with fail
        go_round
        case rel => exact ⟨4 + 1, by omega, by go_num, by simp⟩
        case measure => simp [intOf]
      · have hd : decide (4 < j) = false := by simp; omega
        have hcell := G.out j hj
        have hne : ((sg j).toList == [37]) = false := by
          have e : (sg 4).toList = [37] := by rw [ByteArray.toList_eq]; rfl
          rw [← e]; simpa using sg_ne 4 j (by decide) hp
        clear G
        go_wp2_with fail
        go_round
        case rel => exact ⟨j + 1, by omega, by go_num, b_false hp⟩
        case measure => simp [intOf]; omega
    · have hj' : j = 10 := by omega
      subst hj'
      clear G
      go_wp2_with (first
        | (go_at_call 31; refine (rin_yes _ H.out (by assumption) (by assumption) _).mono ?_; rintro e w1 ⟨rfl, rfl⟩)
        | (go_at_call 9; refine (rbits_any H.out.sh _).mono ?_; rintro e w1 ⟨rfl, rfl⟩)
        | (go_at_call_of 31 (a.tdiv b); refine (rin_no _ H.out F.out _).mono ?_; rintro e w1 ⟨rfl, rfl⟩)
        | (go_at_call 13; go_in))
      go_ret2
      exact ⟨rfl, (Below.refl _ _).alloc (Nat.le_refl _) _⟩
set_option maxHeartbeats 1000000 in
set_option maxRecDepth 20000 in
theorem rdo_rem {k n : Int} {s : Bool} {l m : Int} (a b : Int) (h : KK k n s l m) (a1 : l ≤ a) (a2 : a ≤ m) (b1 : l ≤ b) (b2 : b ≤ m) (hb0 : ¬ b = 0) (f1 : l ≤ a.tdiv b) (f2 : a.tdiv b ≤ m) (w : World) :
    Calls Tryd.prog 18 #[.string ⟨#[37]⟩, .int .i64 k, .int .i64 a, .int .i64 b] w fun e w' => e = .returned (.tuple #[.int .i64 (wrap64 (a - wrap64 (a.tdiv b * b))), .int .i64 (0)]) ∧ Below w.heap.size w w' := by
  obtain ⟨e1, e2, e3, e4, e5, e6, -⟩ := h.bd
  have k1 := h.lo
  have k2 := h.hi
  have H : Hid (KK k n s l m) := h
  clear h
  have hb1 : (b == 0) = false := by simpa using hb0
  have hw := H.out.div b a1 a2
  have G : Hid (∀ j : Nat, j < 10 → (w.alloc (Obj.cells #[Value.string { data := #[43] }, Value.string { data := #[45] }, Value.string { data := #[42] }, Value.string { data := #[47] }, Value.string { data := #[37] }, Value.string { data := #[38] }, Value.string { data := #[124] }, Value.string { data := #[94] }, Value.string { data := #[60, 60] }, Value.string { data := #[62, 62] }] 9)).cell? ⟨w.heap.size, j, none⟩ = some (.string (sg j))) := sg_new w
  go_enter Tryd.func18, Tryd.ntmps18
  go_wp2_with fail
  go_loop [11, 13] (fun c i => ∃ j : Nat, j ≤ 10 ∧ i = .int .i64 j ∧ c = .bool (decide (4 < j))) (fun _ i => 10 - (intOf i).toNat)
  case atStart => exact ⟨0, by omega, rfl, rfl⟩
  case round =>
    obtain ⟨j, hj10, rfl, rfl⟩ := hrel
    by_cases hj : j < 10
    · rcases Nat.lt_trichotomy 4 j with hp | hp | hp
      · have hd : decide (4 < j) = true := by simpa using hp
        clear G
        go_wp2_with fail
        go_round
        case rel => exact ⟨j + 1, by omega, by go_num, b_true hp⟩
        case measure => simp [intOf]; omega
      · subst hp
        have hcell : (w.alloc (Obj.cells #[Value.string { data := #[43] }, Value.string { data := #[45] }, Value.string { data := #[42] }, Value.string { data := #[47] }, Value.string { data := #[37] }, Value.string { data := #[38] }, Value.string { data := #[124] }, Value.string { data := #[94] }, Value.string { data := #[60, 60] }, Value.string { data := #[62, 62] }] 9)).cell? ⟨w.heap.size, 4, none⟩ = some (.string ⟨#[37]⟩) := G.out 4 hj
        clear G
        go_wp2_with fail
        go_round
        case rel => exact ⟨4 + 1, by omega, by go_num, by simp⟩
        case measure => simp [intOf]
      · have hd : decide (4 < j) = false := by simp; omega
        have hcell := G.out j hj
        have hne : ((sg j).toList == [37]) = false := by
          have e : (sg 4).toList = [37] := by rw [ByteArray.toList_eq]; rfl
          rw [← e]; simpa using sg_ne 4 j (by decide) hp
        clear G
        go_wp2_with fail
        go_round
        case rel => exact ⟨j + 1, by omega, by go_num, b_false hp⟩
        case measure => simp [intOf]; omega
    · have hj' : j = 10 := by omega
      subst hj'
      clear G
      go_wp2_with (first
        | (go_at_call 31; refine (rin_yes _ H.out (by assumption) (by assumption) _).mono ?_; rintro e w1 ⟨rfl, rfl⟩)
        | (go_at_call 9; refine (rbits_any H.out.sh _).mono ?_; rintro e w1 ⟨rfl, rfl⟩)
        | (go_at_call 13; go_in))
      go_ret2
      exact ⟨rfl, (Below.refl _ _).alloc (Nat.le_refl _) _⟩
set_option maxHeartbeats 1000000 in
set_option maxRecDepth 20000 in
theorem rdo_rem0 {k n : Int} {s : Bool} {l m : Int} (a b : Int) (h : KK k n s l m) (a1 : l ≤ a) (a2 : a ≤ m) (b1 : l ≤ b) (b2 : b ≤ m) (hb0 : b = 0) (w : World) :
    Calls Tryd.prog 18 #[.string ⟨#[37]⟩, .int .i64 k, .int .i64 a, .int .i64 b] w fun e w' => e = .returned (.tuple #[.int .i64 (0), .int .i64 (2)]) ∧ Below w.heap.size w w' := by
  obtain ⟨e1, e2, e3, e4, e5, e6, -⟩ := h.bd
  have k1 := h.lo
  have k2 := h.hi
  have H : Hid (KK k n s l m) := h
  clear h
  subst hb0
  have G : Hid (∀ j : Nat, j < 10 → (w.alloc (Obj.cells #[Value.string { data := #[43] }, Value.string { data := #[45] }, Value.string { data := #[42] }, Value.string { data := #[47] }, Value.string { data := #[37] }, Value.string { data := #[38] }, Value.string { data := #[124] }, Value.string { data := #[94] }, Value.string { data := #[60, 60] }, Value.string { data := #[62, 62] }] 9)).cell? ⟨w.heap.size, j, none⟩ = some (.string (sg j))) := sg_new w
  go_enter Tryd.func18, Tryd.ntmps18
  go_wp2_with fail
  go_loop [11, 13] (fun c i => ∃ j : Nat, j ≤ 10 ∧ i = .int .i64 j ∧ c = .bool (decide (4 < j))) (fun _ i => 10 - (intOf i).toNat)
  case atStart => exact ⟨0, by omega, rfl, rfl⟩
  case round =>
    obtain ⟨j, hj10, rfl, rfl⟩ := hrel
    by_cases hj : j < 10
    · rcases Nat.lt_trichotomy 4 j with hp | hp | hp
      · have hd : decide (4 < j) = true := by simpa using hp
        clear G
        go_wp2_with fail
        go_round
        case rel => exact ⟨j + 1, by omega, by go_num, b_true hp⟩
        case measure => simp [intOf]; omega
      · subst hp
        have hcell : (w.alloc (Obj.cells #[Value.string { data := #[43] }, Value.string { data := #[45] }, Value.string { data := #[42] }, Value.string { data := #[47] }, Value.string { data := #[37] }, Value.string { data := #[38] }, Value.string { data := #[124] }, Value.string { data := #[94] }, Value.string { data := #[60, 60] }, Value.string { data := #[62, 62] }] 9)).cell? ⟨w.heap.size, 4, none⟩ = some (.string ⟨#[37]⟩) := G.out 4 hj
        clear G
        go_wp2_with fail
        go_round
        case rel => exact ⟨4 + 1, by omega, by go_num, by simp⟩
        case measure => simp [intOf]
      · have hd : decide (4 < j) = false := by simp; omega
        have hcell := G.out j hj
        have hne : ((sg j).toList == [37]) = false := by
          have e : (sg 4).toList = [37] := by rw [ByteArray.toList_eq]; rfl
          rw [← e]; simpa using sg_ne 4 j (by decide) hp
        clear G
        go_wp2_with fail
        go_round
        case rel => exact ⟨j + 1, by omega, by go_num, b_false hp⟩
        case measure => simp [intOf]; omega
    · have hj' : j = 10 := by omega
      subst hj'
      clear G
      go_wp2_with (first
        | (go_at_call 31; refine (rin_yes _ H.out (by assumption) (by assumption) _).mono ?_; rintro e w1 ⟨rfl, rfl⟩)
        | (go_at_call 9; refine (rbits_any H.out.sh _).mono ?_; rintro e w1 ⟨rfl, rfl⟩)
        | (go_at_call 13; go_in))
      go_ret2
      exact ⟨rfl, (Below.refl _ _).alloc (Nat.le_refl _) _⟩
set_option maxHeartbeats 1000000 in
set_option maxRecDepth 20000 in
theorem rdo_and {k n : Int} {s : Bool} {l m : Int} (a b : Int) (h : KK k n s l m) (a1 : l ≤ a) (a2 : a ≤ m) (b1 : l ≤ b) (b2 : b ≤ m)  (w : World) :
    Calls Tryd.prog 18 #[.string ⟨#[38]⟩, .int .i64 k, .int .i64 a, .int .i64 b] w fun e w' => e = .returned (.tuple #[.int .i64 (bits .and .i64 a b), .int .i64 (0)]) ∧ Below w.heap.size w w' := by
  obtain ⟨e1, e2, e3, e4, e5, e6, -⟩ := h.bd
  have k1 := h.lo
  have k2 := h.hi
  have H : Hid (KK k n s l m) := h
  clear h
  have G : Hid (∀ j : Nat, j < 10 → (w.alloc (Obj.cells #[Value.string { data := #[43] }, Value.string { data := #[45] }, Value.string { data := #[42] }, Value.string { data := #[47] }, Value.string { data := #[37] }, Value.string { data := #[38] }, Value.string { data := #[124] }, Value.string { data := #[94] }, Value.string { data := #[60, 60] }, Value.string { data := #[62, 62] }] 9)).cell? ⟨w.heap.size, j, none⟩ = some (.string (sg j))) := sg_new w
  go_enter Tryd.func18, Tryd.ntmps18
  go_wp2_with fail
  go_loop [11, 13] (fun c i => ∃ j : Nat, j ≤ 10 ∧ i = .int .i64 j ∧ c = .bool (decide (5 < j))) (fun _ i => 10 - (intOf i).toNat)
  case atStart => exact ⟨0, by omega, rfl, rfl⟩
  case round =>
    obtain ⟨j, hj10, rfl, rfl⟩ := hrel
    by_cases hj : j < 10
    · rcases Nat.lt_trichotomy 5 j with hp | hp | hp
      · have hd : decide (5 < j) = true := by simpa using hp
        clear G
        go_wp2_with fail
        go_round
        case rel => exact ⟨j + 1, by omega, by go_num, b_true hp⟩
        case measure => simp [intOf]; omega
      · subst hp
        have hcell : (w.alloc (Obj.cells #[Value.string { data := #[43] }, Value.string { data := #[45] }, Value.string { data := #[42] }, Value.string { data := #[47] }, Value.string { data := #[37] }, Value.string { data := #[38] }, Value.string { data := #[124] }, Value.string { data := #[94] }, Value.string { data := #[60, 60] }, Value.string { data := #[62, 62] }] 9)).cell? ⟨w.heap.size, 5, none⟩ = some (.string ⟨#[38]⟩) := G.out 5 hj
        clear G
        go_wp2_with fail
        go_round
        case rel => exact ⟨5 + 1, by omega, by go_num, by simp⟩
        case measure => simp [intOf]
      · have hd : decide (5 < j) = false := by simp; omega
        have hcell := G.out j hj
        have hne : ((sg j).toList == [38]) = false := by
          have e : (sg 5).toList = [38] := by rw [ByteArray.toList_eq]; rfl
          rw [← e]; simpa using sg_ne 5 j (by decide) hp
        clear G
        go_wp2_with fail
        go_round
        case rel => exact ⟨j + 1, by omega, by go_num, b_false hp⟩
        case measure => simp [intOf]; omega
    · have hj' : j = 10 := by omega
      subst hj'
      clear G
      go_wp2_with (first
        | (go_at_call 31; refine (rin_yes _ H.out (by assumption) (by assumption) _).mono ?_; rintro e w1 ⟨rfl, rfl⟩)
        | (go_at_call 9; refine (rbits_any H.out.sh _).mono ?_; rintro e w1 ⟨rfl, rfl⟩)
        | (go_at_call 13; go_in))
      go_ret2
      exact ⟨rfl, (Below.refl _ _).alloc (Nat.le_refl _) _⟩
set_option maxHeartbeats 1000000 in
set_option maxRecDepth 20000 in
theorem rdo_or {k n : Int} {s : Bool} {l m : Int} (a b : Int) (h : KK k n s l m) (a1 : l ≤ a) (a2 : a ≤ m) (b1 : l ≤ b) (b2 : b ≤ m)  (w : World) :
    Calls Tryd.prog 18 #[.string ⟨#[124]⟩, .int .i64 k, .int .i64 a, .int .i64 b] w fun e w' => e = .returned (.tuple #[.int .i64 (bits .or .i64 a b), .int .i64 (0)]) ∧ Below w.heap.size w w' := by
  obtain ⟨e1, e2, e3, e4, e5, e6, -⟩ := h.bd
  have k1 := h.lo
  have k2 := h.hi
  have H : Hid (KK k n s l m) := h
  clear h
  have G : Hid (∀ j : Nat, j < 10 → (w.alloc (Obj.cells #[Value.string { data := #[43] }, Value.string { data := #[45] }, Value.string { data := #[42] }, Value.string { data := #[47] }, Value.string { data := #[37] }, Value.string { data := #[38] }, Value.string { data := #[124] }, Value.string { data := #[94] }, Value.string { data := #[60, 60] }, Value.string { data := #[62, 62] }] 9)).cell? ⟨w.heap.size, j, none⟩ = some (.string (sg j))) := sg_new w
  go_enter Tryd.func18, Tryd.ntmps18
  go_wp2_with fail
  go_loop [11, 13] (fun c i => ∃ j : Nat, j ≤ 10 ∧ i = .int .i64 j ∧ c = .bool (decide (6 < j))) (fun _ i => 10 - (intOf i).toNat)
  case atStart => exact ⟨0, by omega, rfl, rfl⟩
  case round =>
    obtain ⟨j, hj10, rfl, rfl⟩ := hrel
    by_cases hj : j < 10
    · rcases Nat.lt_trichotomy 6 j with hp | hp | hp
      · have hd : decide (6 < j) = true := by simpa using hp
        clear G
        go_wp2_with fail
        go_round
        case rel => exact ⟨j + 1, by omega, by go_num, b_true hp⟩
        case measure => simp [intOf]; omega
      · subst hp
        have hcell : (w.alloc (Obj.cells #[Value.string { data := #[43] }, Value.string { data := #[45] }, Value.string { data := #[42] }, Value.string { data := #[47] }, Value.string { data := #[37] }, Value.string { data := #[38] }, Value.string { data := #[124] }, Value.string { data := #[94] }, Value.string { data := #[60, 60] }, Value.string { data := #[62, 62] }] 9)).cell? ⟨w.heap.size, 6, none⟩ = some (.string ⟨#[124]⟩) := G.out 6 hj
        clear G
        go_wp2_with fail
        go_round
        case rel => exact ⟨6 + 1, by omega, by go_num, by simp⟩
        case measure => simp [intOf]
      · have hd : decide (6 < j) = false := by simp; omega
        have hcell := G.out j hj
        have hne : ((sg j).toList == [124]) = false := by
          have e : (sg 6).toList = [124] := by rw [ByteArray.toList_eq]; rfl
          rw [← e]; simpa using sg_ne 6 j (by decide) hp
        clear G
        go_wp2_with fail
        go_round
        case rel => exact ⟨j + 1, by omega, by go_num, b_false hp⟩
        case measure => simp [intOf]; omega
    · have hj' : j = 10 := by omega
      subst hj'
      clear G
      go_wp2_with (first
        | (go_at_call 31; refine (rin_yes _ H.out (by assumption) (by assumption) _).mono ?_; rintro e w1 ⟨rfl, rfl⟩)
        | (go_at_call 9; refine (rbits_any H.out.sh _).mono ?_; rintro e w1 ⟨rfl, rfl⟩)
        | (go_at_call 13; go_in))
      go_ret2
      exact ⟨rfl, (Below.refl _ _).alloc (Nat.le_refl _) _⟩
set_option maxHeartbeats 1000000 in
set_option maxRecDepth 20000 in
theorem rdo_xor {k n : Int} {s : Bool} {l m : Int} (a b : Int) (h : KK k n s l m) (a1 : l ≤ a) (a2 : a ≤ m) (b1 : l ≤ b) (b2 : b ≤ m)  (w : World) :
    Calls Tryd.prog 18 #[.string ⟨#[94]⟩, .int .i64 k, .int .i64 a, .int .i64 b] w fun e w' => e = .returned (.tuple #[.int .i64 (bits .xor .i64 a b), .int .i64 (0)]) ∧ Below w.heap.size w w' := by
  obtain ⟨e1, e2, e3, e4, e5, e6, -⟩ := h.bd
  have k1 := h.lo
  have k2 := h.hi
  have H : Hid (KK k n s l m) := h
  clear h
  have G : Hid (∀ j : Nat, j < 10 → (w.alloc (Obj.cells #[Value.string { data := #[43] }, Value.string { data := #[45] }, Value.string { data := #[42] }, Value.string { data := #[47] }, Value.string { data := #[37] }, Value.string { data := #[38] }, Value.string { data := #[124] }, Value.string { data := #[94] }, Value.string { data := #[60, 60] }, Value.string { data := #[62, 62] }] 9)).cell? ⟨w.heap.size, j, none⟩ = some (.string (sg j))) := sg_new w
  go_enter Tryd.func18, Tryd.ntmps18
  go_wp2_with fail
  go_loop [11, 13] (fun c i => ∃ j : Nat, j ≤ 10 ∧ i = .int .i64 j ∧ c = .bool (decide (7 < j))) (fun _ i => 10 - (intOf i).toNat)
  case atStart => exact ⟨0, by omega, rfl, rfl⟩
  case round =>
    obtain ⟨j, hj10, rfl, rfl⟩ := hrel
    by_cases hj : j < 10
    · rcases Nat.lt_trichotomy 7 j with hp | hp | hp
      · have hd : decide (7 < j) = true := by simpa using hp
        clear G
        go_wp2_with fail
        go_round
        case rel => exact ⟨j + 1, by omega, by go_num, b_true hp⟩
        case measure => simp [intOf]; omega
      · subst hp
        have hcell : (w.alloc (Obj.cells #[Value.string { data := #[43] }, Value.string { data := #[45] }, Value.string { data := #[42] }, Value.string { data := #[47] }, Value.string { data := #[37] }, Value.string { data := #[38] }, Value.string { data := #[124] }, Value.string { data := #[94] }, Value.string { data := #[60, 60] }, Value.string { data := #[62, 62] }] 9)).cell? ⟨w.heap.size, 7, none⟩ = some (.string ⟨#[94]⟩) := G.out 7 hj
        clear G
        go_wp2_with fail
        go_round
        case rel => exact ⟨7 + 1, by omega, by go_num, by simp⟩
        case measure => simp [intOf]
      · have hd : decide (7 < j) = false := by simp; omega
        have hcell := G.out j hj
        have hne : ((sg j).toList == [94]) = false := by
          have e : (sg 7).toList = [94] := by rw [ByteArray.toList_eq]; rfl
          rw [← e]; simpa using sg_ne 7 j (by decide) hp
        clear G
        go_wp2_with fail
        go_round
        case rel => exact ⟨j + 1, by omega, by go_num, b_false hp⟩
        case measure => simp [intOf]; omega
    · have hj' : j = 10 := by omega
      subst hj'
      clear G
      go_wp2_with (first
        | (go_at_call 31; refine (rin_yes _ H.out (by assumption) (by assumption) _).mono ?_; rintro e w1 ⟨rfl, rfl⟩)
        | (go_at_call 9; refine (rbits_any H.out.sh _).mono ?_; rintro e w1 ⟨rfl, rfl⟩)
        | (go_at_call 13; go_in))
      go_ret2
      exact ⟨rfl, (Below.refl _ _).alloc (Nat.le_refl _) _⟩
set_option maxHeartbeats 1000000 in
set_option maxRecDepth 20000 in
theorem rdo_shl {k n : Int} {s : Bool} {l m : Int} (a b : Int) (h : KK k n s l m) (a1 : l ≤ a) (a2 : a ≤ m) (c0 : 0 ≤ b) (c1 : b < n) (w : World) :
    Calls Tryd.prog 18 #[.string ⟨#[60, 60]⟩, .int .i64 k, .int .i64 a, .int .i64 b] w fun e w' => e = .returned (.tuple #[.int .i64 (wr k (wrap64 (a * 2 ^ b.toNat))), .int .i64 (0)]) ∧ Below w.heap.size w w' := by
  obtain ⟨e1, e2, e3, e4, e5, e6, -⟩ := h.bd
  have k1 := h.lo
  have k2 := h.hi
  have H : Hid (KK k n s l m) := h
  clear h
  have c2 : b ≤ 32 := by omega
  have G : Hid (∀ j : Nat, j < 10 → (w.alloc (Obj.cells #[Value.string { data := #[43] }, Value.string { data := #[45] }, Value.string { data := #[42] }, Value.string { data := #[47] }, Value.string { data := #[37] }, Value.string { data := #[38] }, Value.string { data := #[124] }, Value.string { data := #[94] }, Value.string { data := #[60, 60] }, Value.string { data := #[62, 62] }] 9)).cell? ⟨w.heap.size, j, none⟩ = some (.string (sg j))) := sg_new w
  go_enter Tryd.func18, Tryd.ntmps18
  go_wp2_with fail
  go_loop [11, 13] (fun c i => ∃ j : Nat, j ≤ 10 ∧ i = .int .i64 j ∧ c = .bool (decide (8 < j))) (fun _ i => 10 - (intOf i).toNat)
  case atStart => exact ⟨0, by omega, rfl, rfl⟩
  case round =>
    obtain ⟨j, hj10, rfl, rfl⟩ := hrel
    by_cases hj : j < 10
    · rcases Nat.lt_trichotomy 8 j with hp | hp | hp
      · have hd : decide (8 < j) = true := by simpa using hp
        clear G
        go_wp2_with fail
        go_round
        case rel => exact ⟨j + 1, by omega, by go_num, b_true hp⟩
        case measure => simp [intOf]; omega
      · subst hp
        have hcell : (w.alloc (Obj.cells #[Value.string { data := #[43] }, Value.string { data := #[45] }, Value.string { data := #[42] }, Value.string { data := #[47] }, Value.string { data := #[37] }, Value.string { data := #[38] }, Value.string { data := #[124] }, Value.string { data := #[94] }, Value.string { data := #[60, 60] }, Value.string { data := #[62, 62] }] 9)).cell? ⟨w.heap.size, 8, none⟩ = some (.string ⟨#[60, 60]⟩) := G.out 8 hj
        clear G
        go_wp2_with fail
        go_round
        case rel => exact ⟨8 + 1, by omega, by go_num, by simp⟩
        case measure => simp [intOf]
      · have hd : decide (8 < j) = false := by simp; omega
        have hcell := G.out j hj
        have hne : ((sg j).toList == [60, 60]) = false := by
          have e : (sg 8).toList = [60, 60] := by rw [ByteArray.toList_eq]; rfl
          rw [← e]; simpa using sg_ne 8 j (by decide) hp
        clear G
        go_wp2_with fail
        go_round
        case rel => exact ⟨j + 1, by omega, by go_num, b_false hp⟩
        case measure => simp [intOf]; omega
    · have hj' : j = 10 := by omega
      subst hj'
      clear G
      go_wp2_with (first
        | (go_at_call 31; refine (rin_yes _ H.out (by assumption) (by assumption) _).mono ?_; rintro e w1 ⟨rfl, rfl⟩)
        | (go_at_call 9; refine (rbits_any H.out.sh _).mono ?_; rintro e w1 ⟨rfl, rfl⟩)
        | (go_at_call 22; refine (rpower_any _ (by assumption) (by assumption) _).mono ?_; rintro e w1 ⟨rfl, rfl⟩)
        | (go_at_call 15; refine (rwrap_any _ (by assumption) (by assumption) _).mono ?_; rintro e w1 ⟨rfl, rfl⟩)
        | (go_at_call 13; go_in))
      go_ret2
      exact ⟨rfl, (Below.refl _ _).alloc (Nat.le_refl _) _⟩
set_option maxHeartbeats 1000000 in
set_option maxRecDepth 20000 in
theorem rdo_shr {k n : Int} {s : Bool} {l m : Int} (a b : Int) (h : KK k n s l m) (a1 : l ≤ a) (a2 : a ≤ m) (c0 : 0 ≤ b) (c1 : b < n) (w : World) :
    Calls Tryd.prog 18 #[.string ⟨#[62, 62]⟩, .int .i64 k, .int .i64 a, .int .i64 b] w fun e w' => e = .returned (.tuple #[.int .i64 (a / 2 ^ b.toNat), .int .i64 (0)]) ∧ Below w.heap.size w w' := by
  obtain ⟨e1, e2, e3, e4, e5, e6, -⟩ := h.bd
  have k1 := h.lo
  have k2 := h.hi
  have H : Hid (KK k n s l m) := h
  clear h
  have c2 : b ≤ 32 := by omega
  have p0 : (0 : Int) < 2 ^ b.toNat := Int.pow_pos (by decide)
  have p1 : (2 : Int) ^ b.toNat ≤ 4294967296 := by
    have : (2 : Nat) ^ b.toNat ≤ 2 ^ 32 := Nat.pow_le_pow_right (by decide) (by omega)
    have e : ((2 ^ b.toNat : Nat) : Int) = (2 : Int) ^ b.toNat := by simp
    omega
  have P : Hid (2 ^ b.toNat ≠ (0 : Int)) := by show _ ≠ _; omega
  have p2 : ((2 : Int) ^ b.toNat == 0) = false := by simpa using P.out
  have m0 : 0 ≤ a % 2 ^ b.toNat := Int.emod_nonneg _ P.out
  have m1 : a % 2 ^ b.toNat < 2 ^ b.toNat := Int.emod_lt_of_pos _ p0
  have hs : (a - a % 2 ^ b.toNat).tdiv (2 ^ b.toNat) = a / 2 ^ b.toNat := by
    have e := Int.mul_ediv_add_emod a (2 ^ b.toNat)
    rw [show a - a % 2 ^ b.toNat = 2 ^ b.toNat * (a / 2 ^ b.toNat) by omega]
    exact Int.mul_tdiv_cancel_left _ P.out
  have hw : wrap64 (a / 2 ^ b.toNat) = a / 2 ^ b.toNat := by
    rw [← hs]
    have : ((a - a % 2 ^ b.toNat).tdiv (2 ^ b.toNat)).natAbs ≤ (a - a % 2 ^ b.toNat).natAbs := Int.natAbs_tdiv_le_natAbs _ _
    exact wrap64_id (by omega) (by omega)
  have G : Hid (∀ j : Nat, j < 10 → (w.alloc (Obj.cells #[Value.string { data := #[43] }, Value.string { data := #[45] }, Value.string { data := #[42] }, Value.string { data := #[47] }, Value.string { data := #[37] }, Value.string { data := #[38] }, Value.string { data := #[124] }, Value.string { data := #[94] }, Value.string { data := #[60, 60] }, Value.string { data := #[62, 62] }] 9)).cell? ⟨w.heap.size, j, none⟩ = some (.string (sg j))) := sg_new w
  go_enter Tryd.func18, Tryd.ntmps18
  go_wp2_with fail
  go_loop [11, 13] (fun c i => ∃ j : Nat, j ≤ 10 ∧ i = .int .i64 j ∧ c = .bool (decide (9 < j))) (fun _ i => 10 - (intOf i).toNat)
  case atStart => exact ⟨0, by omega, rfl, rfl⟩
  case round =>
    obtain ⟨j, hj10, rfl, rfl⟩ := hrel
    by_cases hj : j < 10
    · rcases Nat.lt_trichotomy 9 j with hp | hp | hp
      · exfalso; omega
      · subst hp
        have hcell : (w.alloc (Obj.cells #[Value.string { data := #[43] }, Value.string { data := #[45] }, Value.string { data := #[42] }, Value.string { data := #[47] }, Value.string { data := #[37] }, Value.string { data := #[38] }, Value.string { data := #[124] }, Value.string { data := #[94] }, Value.string { data := #[60, 60] }, Value.string { data := #[62, 62] }] 9)).cell? ⟨w.heap.size, 9, none⟩ = some (.string ⟨#[62, 62]⟩) := G.out 9 hj
        clear G
        go_wp2_with fail
        go_round
        case rel => exact ⟨9 + 1, by omega, by go_num, by simp⟩
        case measure => simp [intOf]
      · have hd : decide (9 < j) = false := by simp; omega
        have hcell := G.out j hj
        have hne : ((sg j).toList == [62, 62]) = false := by
          have e : (sg 9).toList = [62, 62] := by rw [ByteArray.toList_eq]; rfl
          rw [← e]; simpa using sg_ne 9 j (by decide) hp
        clear G
        go_wp2_with fail
        go_round
        case rel => exact ⟨j + 1, by omega, by go_num, b_false hp⟩
        case measure => simp [intOf]; omega
    · have hj' : j = 10 := by omega
      subst hj'
      clear G
      go_wp2_with (first
        | (go_at_call 31; refine (rin_yes _ H.out (by assumption) (by assumption) _).mono ?_; rintro e w1 ⟨rfl, rfl⟩)
        | (go_at_call 9; refine (rbits_any H.out.sh _).mono ?_; rintro e w1 ⟨rfl, rfl⟩)
        | (go_at_call 22; refine (rpower_any _ (by assumption) (by assumption) _).mono ?_; rintro e w1 ⟨rfl, rfl⟩)
        | (go_at_call 23; refine (rmod_any _ _ (by assumption) (by assumption) _).mono ?_; rintro e w1 ⟨rfl, rfl⟩)
        | (go_at_call 13; go_in))
      go_ret2
      exact ⟨by show Ending.returned (.tuple #[.int .i64 (wrap64 (a / 2 ^ b.toNat)), .int .i64 0]) = _; rw [hw], (Below.refl _ _).alloc (Nat.le_refl _) _⟩
set_option maxHeartbeats 1000000 in
set_option maxRecDepth 20000 in
theorem rdo_shll {k n : Int} {s : Bool} {l m : Int} (a b : Int) (h : KK k n s l m) (a1 : l ≤ a) (a2 : a ≤ m) (c0 : b < 0) (w : World) :
    Calls Tryd.prog 18 #[.string ⟨#[60, 60]⟩, .int .i64 k, .int .i64 a, .int .i64 b] w fun e w' => e = .returned (.tuple #[.int .i64 (0), .int .i64 (1)]) ∧ Below w.heap.size w w' := by
  obtain ⟨e1, e2, e3, e4, e5, e6, -⟩ := h.bd
  have k1 := h.lo
  have k2 := h.hi
  have H : Hid (KK k n s l m) := h
  clear h
  have G : Hid (∀ j : Nat, j < 10 → (w.alloc (Obj.cells #[Value.string { data := #[43] }, Value.string { data := #[45] }, Value.string { data := #[42] }, Value.string { data := #[47] }, Value.string { data := #[37] }, Value.string { data := #[38] }, Value.string { data := #[124] }, Value.string { data := #[94] }, Value.string { data := #[60, 60] }, Value.string { data := #[62, 62] }] 9)).cell? ⟨w.heap.size, j, none⟩ = some (.string (sg j))) := sg_new w
  go_enter Tryd.func18, Tryd.ntmps18
  go_wp2_with fail
  go_loop [11, 13] (fun c i => ∃ j : Nat, j ≤ 10 ∧ i = .int .i64 j ∧ c = .bool (decide (8 < j))) (fun _ i => 10 - (intOf i).toNat)
  case atStart => exact ⟨0, by omega, rfl, rfl⟩
  case round =>
    obtain ⟨j, hj10, rfl, rfl⟩ := hrel
    by_cases hj : j < 10
    · rcases Nat.lt_trichotomy 8 j with hp | hp | hp
      · have hd : decide (8 < j) = true := by simpa using hp
        clear G
        go_wp2_with fail
        go_round
        case rel => exact ⟨j + 1, by omega, by go_num, b_true hp⟩
        case measure => simp [intOf]; omega
      · subst hp
        have hcell : (w.alloc (Obj.cells #[Value.string { data := #[43] }, Value.string { data := #[45] }, Value.string { data := #[42] }, Value.string { data := #[47] }, Value.string { data := #[37] }, Value.string { data := #[38] }, Value.string { data := #[124] }, Value.string { data := #[94] }, Value.string { data := #[60, 60] }, Value.string { data := #[62, 62] }] 9)).cell? ⟨w.heap.size, 8, none⟩ = some (.string ⟨#[60, 60]⟩) := G.out 8 hj
        clear G
        go_wp2_with fail
        go_round
        case rel => exact ⟨8 + 1, by omega, by go_num, by simp⟩
        case measure => simp [intOf]
      · have hd : decide (8 < j) = false := by simp; omega
        have hcell := G.out j hj
        have hne : ((sg j).toList == [60, 60]) = false := by
          have e : (sg 8).toList = [60, 60] := by rw [ByteArray.toList_eq]; rfl
          rw [← e]; simpa using sg_ne 8 j (by decide) hp
        clear G
        go_wp2_with fail
        go_round
        case rel => exact ⟨j + 1, by omega, by go_num, b_false hp⟩
        case measure => simp [intOf]; omega
    · have hj' : j = 10 := by omega
      subst hj'
      clear G
      go_wp2_with (first
        | (go_at_call 31; refine (rin_yes _ H.out (by assumption) (by assumption) _).mono ?_; rintro e w1 ⟨rfl, rfl⟩)
        | (go_at_call 9; refine (rbits_any H.out.sh _).mono ?_; rintro e w1 ⟨rfl, rfl⟩)
        | (go_at_call 13; go_in))
      go_ret2
      exact ⟨rfl, (Below.refl _ _).alloc (Nat.le_refl _) _⟩
set_option maxHeartbeats 1000000 in
set_option maxRecDepth 20000 in
theorem rdo_shlh {k n : Int} {s : Bool} {l m : Int} (a b : Int) (h : KK k n s l m) (a1 : l ≤ a) (a2 : a ≤ m) (c0 : 0 ≤ b) (c1 : n ≤ b) (w : World) :
    Calls Tryd.prog 18 #[.string ⟨#[60, 60]⟩, .int .i64 k, .int .i64 a, .int .i64 b] w fun e w' => e = .returned (.tuple #[.int .i64 (0), .int .i64 (1)]) ∧ Below w.heap.size w w' := by
  obtain ⟨e1, e2, e3, e4, e5, e6, -⟩ := h.bd
  have k1 := h.lo
  have k2 := h.hi
  have H : Hid (KK k n s l m) := h
  clear h
  have G : Hid (∀ j : Nat, j < 10 → (w.alloc (Obj.cells #[Value.string { data := #[43] }, Value.string { data := #[45] }, Value.string { data := #[42] }, Value.string { data := #[47] }, Value.string { data := #[37] }, Value.string { data := #[38] }, Value.string { data := #[124] }, Value.string { data := #[94] }, Value.string { data := #[60, 60] }, Value.string { data := #[62, 62] }] 9)).cell? ⟨w.heap.size, j, none⟩ = some (.string (sg j))) := sg_new w
  go_enter Tryd.func18, Tryd.ntmps18
  go_wp2_with fail
  go_loop [11, 13] (fun c i => ∃ j : Nat, j ≤ 10 ∧ i = .int .i64 j ∧ c = .bool (decide (8 < j))) (fun _ i => 10 - (intOf i).toNat)
  case atStart => exact ⟨0, by omega, rfl, rfl⟩
  case round =>
    obtain ⟨j, hj10, rfl, rfl⟩ := hrel
    by_cases hj : j < 10
    · rcases Nat.lt_trichotomy 8 j with hp | hp | hp
      · have hd : decide (8 < j) = true := by simpa using hp
        clear G
        go_wp2_with fail
        go_round
        case rel => exact ⟨j + 1, by omega, by go_num, b_true hp⟩
        case measure => simp [intOf]; omega
      · subst hp
        have hcell : (w.alloc (Obj.cells #[Value.string { data := #[43] }, Value.string { data := #[45] }, Value.string { data := #[42] }, Value.string { data := #[47] }, Value.string { data := #[37] }, Value.string { data := #[38] }, Value.string { data := #[124] }, Value.string { data := #[94] }, Value.string { data := #[60, 60] }, Value.string { data := #[62, 62] }] 9)).cell? ⟨w.heap.size, 8, none⟩ = some (.string ⟨#[60, 60]⟩) := G.out 8 hj
        clear G
        go_wp2_with fail
        go_round
        case rel => exact ⟨8 + 1, by omega, by go_num, by simp⟩
        case measure => simp [intOf]
      · have hd : decide (8 < j) = false := by simp; omega
        have hcell := G.out j hj
        have hne : ((sg j).toList == [60, 60]) = false := by
          have e : (sg 8).toList = [60, 60] := by rw [ByteArray.toList_eq]; rfl
          rw [← e]; simpa using sg_ne 8 j (by decide) hp
        clear G
        go_wp2_with fail
        go_round
        case rel => exact ⟨j + 1, by omega, by go_num, b_false hp⟩
        case measure => simp [intOf]; omega
    · have hj' : j = 10 := by omega
      subst hj'
      clear G
      go_wp2_with (first
        | (go_at_call 31; refine (rin_yes _ H.out (by assumption) (by assumption) _).mono ?_; rintro e w1 ⟨rfl, rfl⟩)
        | (go_at_call 9; refine (rbits_any H.out.sh _).mono ?_; rintro e w1 ⟨rfl, rfl⟩)
        | (go_at_call 13; go_in))
      go_ret2
      exact ⟨rfl, (Below.refl _ _).alloc (Nat.le_refl _) _⟩
set_option maxHeartbeats 1000000 in
set_option maxRecDepth 20000 in
theorem rdo_shrl {k n : Int} {s : Bool} {l m : Int} (a b : Int) (h : KK k n s l m) (a1 : l ≤ a) (a2 : a ≤ m) (c0 : b < 0) (w : World) :
    Calls Tryd.prog 18 #[.string ⟨#[62, 62]⟩, .int .i64 k, .int .i64 a, .int .i64 b] w fun e w' => e = .returned (.tuple #[.int .i64 (0), .int .i64 (1)]) ∧ Below w.heap.size w w' := by
  obtain ⟨e1, e2, e3, e4, e5, e6, -⟩ := h.bd
  have k1 := h.lo
  have k2 := h.hi
  have H : Hid (KK k n s l m) := h
  clear h
  have G : Hid (∀ j : Nat, j < 10 → (w.alloc (Obj.cells #[Value.string { data := #[43] }, Value.string { data := #[45] }, Value.string { data := #[42] }, Value.string { data := #[47] }, Value.string { data := #[37] }, Value.string { data := #[38] }, Value.string { data := #[124] }, Value.string { data := #[94] }, Value.string { data := #[60, 60] }, Value.string { data := #[62, 62] }] 9)).cell? ⟨w.heap.size, j, none⟩ = some (.string (sg j))) := sg_new w
  go_enter Tryd.func18, Tryd.ntmps18
  go_wp2_with fail
  go_loop [11, 13] (fun c i => ∃ j : Nat, j ≤ 10 ∧ i = .int .i64 j ∧ c = .bool (decide (9 < j))) (fun _ i => 10 - (intOf i).toNat)
  case atStart => exact ⟨0, by omega, rfl, rfl⟩
  case round =>
    obtain ⟨j, hj10, rfl, rfl⟩ := hrel
    by_cases hj : j < 10
    · rcases Nat.lt_trichotomy 9 j with hp | hp | hp
      · exfalso; omega
      · subst hp
        have hcell : (w.alloc (Obj.cells #[Value.string { data := #[43] }, Value.string { data := #[45] }, Value.string { data := #[42] }, Value.string { data := #[47] }, Value.string { data := #[37] }, Value.string { data := #[38] }, Value.string { data := #[124] }, Value.string { data := #[94] }, Value.string { data := #[60, 60] }, Value.string { data := #[62, 62] }] 9)).cell? ⟨w.heap.size, 9, none⟩ = some (.string ⟨#[62, 62]⟩) := G.out 9 hj
        clear G
        go_wp2_with fail
        go_round
        case rel => exact ⟨9 + 1, by omega, by go_num, by simp⟩
        case measure => simp [intOf]
      · have hd : decide (9 < j) = false := by simp; omega
        have hcell := G.out j hj
        have hne : ((sg j).toList == [62, 62]) = false := by
          have e : (sg 9).toList = [62, 62] := by rw [ByteArray.toList_eq]; rfl
          rw [← e]; simpa using sg_ne 9 j (by decide) hp
        clear G
        go_wp2_with fail
        go_round
        case rel => exact ⟨j + 1, by omega, by go_num, b_false hp⟩
        case measure => simp [intOf]; omega
    · have hj' : j = 10 := by omega
      subst hj'
      clear G
      go_wp2_with (first
        | (go_at_call 31; refine (rin_yes _ H.out (by assumption) (by assumption) _).mono ?_; rintro e w1 ⟨rfl, rfl⟩)
        | (go_at_call 9; refine (rbits_any H.out.sh _).mono ?_; rintro e w1 ⟨rfl, rfl⟩)
        | (go_at_call 13; go_in))
      go_ret2
      exact ⟨rfl, (Below.refl _ _).alloc (Nat.le_refl _) _⟩
set_option maxHeartbeats 1000000 in
set_option maxRecDepth 20000 in
theorem rdo_shrh {k n : Int} {s : Bool} {l m : Int} (a b : Int) (h : KK k n s l m) (a1 : l ≤ a) (a2 : a ≤ m) (c0 : 0 ≤ b) (c1 : n ≤ b) (w : World) :
    Calls Tryd.prog 18 #[.string ⟨#[62, 62]⟩, .int .i64 k, .int .i64 a, .int .i64 b] w fun e w' => e = .returned (.tuple #[.int .i64 (0), .int .i64 (1)]) ∧ Below w.heap.size w w' := by
  obtain ⟨e1, e2, e3, e4, e5, e6, -⟩ := h.bd
  have k1 := h.lo
  have k2 := h.hi
  have H : Hid (KK k n s l m) := h
  clear h
  have G : Hid (∀ j : Nat, j < 10 → (w.alloc (Obj.cells #[Value.string { data := #[43] }, Value.string { data := #[45] }, Value.string { data := #[42] }, Value.string { data := #[47] }, Value.string { data := #[37] }, Value.string { data := #[38] }, Value.string { data := #[124] }, Value.string { data := #[94] }, Value.string { data := #[60, 60] }, Value.string { data := #[62, 62] }] 9)).cell? ⟨w.heap.size, j, none⟩ = some (.string (sg j))) := sg_new w
  go_enter Tryd.func18, Tryd.ntmps18
  go_wp2_with fail
  go_loop [11, 13] (fun c i => ∃ j : Nat, j ≤ 10 ∧ i = .int .i64 j ∧ c = .bool (decide (9 < j))) (fun _ i => 10 - (intOf i).toNat)
  case atStart => exact ⟨0, by omega, rfl, rfl⟩
  case round =>
    obtain ⟨j, hj10, rfl, rfl⟩ := hrel
    by_cases hj : j < 10
    · rcases Nat.lt_trichotomy 9 j with hp | hp | hp
      · exfalso; omega
      · subst hp
        have hcell : (w.alloc (Obj.cells #[Value.string { data := #[43] }, Value.string { data := #[45] }, Value.string { data := #[42] }, Value.string { data := #[47] }, Value.string { data := #[37] }, Value.string { data := #[38] }, Value.string { data := #[124] }, Value.string { data := #[94] }, Value.string { data := #[60, 60] }, Value.string { data := #[62, 62] }] 9)).cell? ⟨w.heap.size, 9, none⟩ = some (.string ⟨#[62, 62]⟩) := G.out 9 hj
        clear G
        go_wp2_with fail
        go_round
        case rel => exact ⟨9 + 1, by omega, by go_num, by simp⟩
        case measure => simp [intOf]
      · have hd : decide (9 < j) = false := by simp; omega
        have hcell := G.out j hj
        have hne : ((sg j).toList == [62, 62]) = false := by
          have e : (sg 9).toList = [62, 62] := by rw [ByteArray.toList_eq]; rfl
          rw [← e]; simpa using sg_ne 9 j (by decide) hp
        clear G
        go_wp2_with fail
        go_round
        case rel => exact ⟨j + 1, by omega, by go_num, b_false hp⟩
        case measure => simp [intOf]; omega
    · have hj' : j = 10 := by omega
      subst hj'
      clear G
      go_wp2_with (first
        | (go_at_call 31; refine (rin_yes _ H.out (by assumption) (by assumption) _).mono ?_; rintro e w1 ⟨rfl, rfl⟩)
        | (go_at_call 9; refine (rbits_any H.out.sh _).mono ?_; rintro e w1 ⟨rfl, rfl⟩)
        | (go_at_call 13; go_in))
      go_ret2
      exact ⟨rfl, (Below.refl _ _).alloc (Nat.le_refl _) _⟩
end Go.Proofs.YtjcinojbbfjnjaaDoor
