/-
  Proved: the Go function NumDoes answers true for every sign, kind and two ints: num.Do and num.Holds make of them what the document's own definitions make, or the document's fault. Its argument reads afterwards as it read before.
  Conditions: the table num.shapes reads, when the call begins, as the program's own text lays it (the card ties it to that text, over the pruned copy of the project that the seat holds); nothing else beyond the given row's own.
-/
import Derived.Test.YtjcinojbbfjnjaaDoorLift
import Derived.Test.YtjcinojbbfjnjaaDoorBits
import Derived.Test.YtjcinojbbfjnjaaDoorNone
import Derived.Lib.SmallJoins
import Derived.Test.YtjcinojbbfjnjaaDoorTie
import Derived.Test.YtjcinojbbfjnjaaDoorCards
import Derived.SevenTiedAt
import Derived.Deep.RegionWith
namespace Go.Proofs.YtjcinojbbfjnjaaDoor
open Go.ChangeShapes Go.WideShapes Go.ChangeAt Go.RowKit


theorem mul_fit {k n : Int} {s : Bool} {l m a b : Int} (h : KK k n s l m) (a1 : l ≤ a) (a2 : a ≤ m) (b1 : l ≤ b) (b2 : b ≤ m) : fitv l m (wrap64 (a * b)) = fitv l m (a * b) ∧ fitf l m (wrap64 (a * b)) = fitf l m (a * b) := by
  by_cases hc : ¬ (0 < a ∧ 0 < b) ∨ a ≤ m / b
  · rw [h.mul a1 a2 b1 b2 hc]; exact ⟨rfl, rfl⟩
  · have hd := h.bd
    have hp : 0 < a ∧ 0 < b := by omega
    have hq : m / b < a := by omega
    have h1 : m < a * b := by
      apply Int.lt_of_not_ge
      intro hh
      have := Int.le_ediv_of_mul_le hp.2 hh
      omega
    have h2 : a * b ≤ 4294967295 * 4294967295 := Int.mul_le_mul (by omega) (by omega) (by omega) (by omega)
    have o1 : ¬ (l ≤ a * b ∧ a * b ≤ m) := by omega
    rcases hd.2.2.2.2.2.2 with e | e
    · have o2 : ¬ (l ≤ wrap64 (a * b) ∧ wrap64 (a * b) ≤ m) := by unfold wrap64; omega
      unfold fitv fitf
      rw [if_neg o1, if_neg o2, if_neg o1, if_neg o2]; exact ⟨rfl, rfl⟩
    · have := mul_abs (a := a) (b := b) (by omega) (by omega)
      rw [wrap64_id (by omega) (by omega)]; exact ⟨rfl, rfl⟩

theorem rem_back {k n : Int} {s : Bool} {l m a : Int} (h : KK k n s l m) (a1 : l ≤ a) (a2 : a ≤ m) (b : Int) : wrap64 (a - wrap64 (a.tdiv b * b)) = a.tmod b := by
  have hd := h.bd
  have e : a.tdiv b * b + a.tmod b = a := by rw [Int.mul_comm]; exact Int.mul_tdiv_add_tmod a b
  have hb := tmod_between a b
  rw [wrap64_id (x := a.tdiv b * b) (by omega) (by omega), show a - a.tdiv b * b = a.tmod b by omega]
  exact wrap64_id (by omega) (by omega)

/-- Both answer v and f. -/
def Same (x : ByteArray) (k a b v f : Int) : Prop :=
  (∀ w : World, Tab w → Calls Tryd.prog 17 #[.string x, .int .i64 k, .int .i64 a, .int .i64 b] w fun e w' => e = .returned (.tuple #[.int .i64 v, .int .i64 f]) ∧ Below w.heap.size w w') ∧
  (∀ w : World, Calls Tryd.prog 18 #[.string x, .int .i64 k, .int .i64 a, .int .i64 b] w fun e w' => e = .returned (.tuple #[.int .i64 v, .int .i64 f]) ∧ Below w.heap.size w w')

theorem same_of_list {x y : ByteArray} (h : x.toList = y.data.toList) : x = y := by
  rw [ByteArray.toList_eq] at h
  exact bytes_inj h

theorem do_same (x : ByteArray) (k a b : Int) : ∃ v f, Same x k a b v f := by
  by_cases hk : 3 ≤ k ∧ k ≤ 8
  · obtain ⟨n, s, l, m, h⟩ := KK.ex hk.1 hk.2
    have hd := h.bd
    by_cases ha : l ≤ a ∧ a ≤ m
    · obtain ⟨a1, a2⟩ := ha
      by_cases z8 : x.toList = [60, 60]
      · obtain rfl : x = ⟨#[60, 60]⟩ := same_of_list z8
        rcases (show b < 0 ∨ (0 ≤ b ∧ n ≤ b) ∨ (0 ≤ b ∧ b < n) by omega) with hb | hb | hb
        · exact ⟨_, _, fun w t => do_shlo a b h a1 a2 (.inl hb) w t, fun w => rdo_shll a b h a1 a2 hb w⟩
        · exact ⟨_, _, fun w t => do_shlo a b h a1 a2 (.inr hb.2) w t, fun w => rdo_shlh a b h a1 a2 hb.1 hb.2 w⟩
        · exact ⟨_, _, fun w t => do_shl a b h a1 a2 hb.1 hb.2 w t, fun w => rdo_shl a b h a1 a2 hb.1 hb.2 w⟩
      by_cases z9 : x.toList = [62, 62]
      · obtain rfl : x = ⟨#[62, 62]⟩ := same_of_list z9
        rcases (show b < 0 ∨ (0 ≤ b ∧ n ≤ b) ∨ (0 ≤ b ∧ b < n) by omega) with hb | hb | hb
        · exact ⟨_, _, fun w t => do_shro a b h a1 a2 (.inl hb) w t, fun w => rdo_shrl a b h a1 a2 hb w⟩
        · exact ⟨_, _, fun w t => do_shro a b h a1 a2 (.inr hb.2) w t, fun w => rdo_shrh a b h a1 a2 hb.1 hb.2 w⟩
        · exact ⟨_, _, fun w t => do_shr a b h a1 a2 hb.1 hb.2 w t, fun w => rdo_shr a b h a1 a2 hb.1 hb.2 w⟩
      by_cases hb : l ≤ b ∧ b ≤ m
      · obtain ⟨b1, b2⟩ := hb
        by_cases z0 : x.toList = [43]
        · obtain rfl : x = ⟨#[43]⟩ := same_of_list z0
          exact ⟨_, _, fun w t => do_add a b h a1 a2 b1 b2 w t, fun w => rdo_add a b h a1 a2 b1 b2 w⟩
        by_cases z1 : x.toList = [45]
        · obtain rfl : x = ⟨#[45]⟩ := same_of_list z1
          exact ⟨_, _, fun w t => do_sub a b h a1 a2 b1 b2 w t, fun w => rdo_sub a b h a1 a2 b1 b2 w⟩
        by_cases z2 : x.toList = [42]
        · obtain rfl : x = ⟨#[42]⟩ := same_of_list z2
          have hm := mul_fit h a1 a2 b1 b2
          refine ⟨_, _, fun w t => do_mul a b h a1 a2 b1 b2 w t, fun w => ?_⟩
          have := rdo_mul a b h a1 a2 b1 b2 w
          rw [hm.1, hm.2] at this
          exact this
        by_cases z3 : x.toList = [47]
        · obtain rfl : x = ⟨#[47]⟩ := same_of_list z3
          by_cases h0 : b = 0
          · exact ⟨_, _, fun w t => do_div0 a b h a1 a2 b1 b2 h0 w t, fun w => rdo_div0 a b h a1 a2 b1 b2 h0 w⟩
          · exact ⟨_, _, fun w t => do_div a b h a1 a2 b1 b2 h0 w t, fun w => rdo_div a b h a1 a2 b1 b2 h0 w⟩
        by_cases z4 : x.toList = [37]
        · obtain rfl : x = ⟨#[37]⟩ := same_of_list z4
          by_cases h0 : b = 0
          · exact ⟨_, _, fun w t => do_rem0 a b h a1 a2 b1 b2 h0 w t, fun w => rdo_rem0 a b h a1 a2 b1 b2 h0 w⟩
          · by_cases hq : l ≤ a.tdiv b ∧ a.tdiv b ≤ m
            · refine ⟨_, _, fun w t => do_rem a b h a1 a2 b1 b2 h0 (if_pos hq) w t, fun w => ?_⟩
              have := rdo_rem a b h a1 a2 b1 b2 h0 hq.1 hq.2 w
              rw [rem_back h a1 a2 b] at this
              exact this
            · exact ⟨_, _, fun w t => do_remo a b h a1 a2 b1 b2 h0 (if_neg hq) w t, fun w => rdo_remo a b h a1 a2 b1 b2 h0 (by omega) w⟩
        by_cases z5 : x.toList = [38]
        · obtain rfl : x = ⟨#[38]⟩ := same_of_list z5
          exact ⟨_, _, fun w t => do_and a b h a1 a2 b1 b2 w t, fun w => rdo_and a b h a1 a2 b1 b2 w⟩
        by_cases z6 : x.toList = [124]
        · obtain rfl : x = ⟨#[124]⟩ := same_of_list z6
          exact ⟨_, _, fun w t => do_or a b h a1 a2 b1 b2 w t, fun w => rdo_or a b h a1 a2 b1 b2 w⟩
        by_cases z7 : x.toList = [94]
        · obtain rfl : x = ⟨#[94]⟩ := same_of_list z7
          exact ⟨_, _, fun w t => do_xor a b h a1 a2 b1 b2 w t, fun w => rdo_xor a b h a1 a2 b1 b2 w⟩
        have hx : ∀ j : Nat, j < 10 → ¬ (sg j).toList = x.toList := by
          intro j hj e
          have hj' : j = 0 ∨ j = 1 ∨ j = 2 ∨ j = 3 ∨ j = 4 ∨ j = 5 ∨ j = 6 ∨ j = 7 ∨ j = 8 ∨ j = 9 := by omega
          rw [ByteArray.toList_eq] at e
          rcases hj' with rfl | rfl | rfl | rfl | rfl | rfl | rfl | rfl | rfl | rfl
          · exact z0 e.symm
          · exact z1 e.symm
          · exact z2 e.symm
          · exact z3 e.symm
          · exact z4 e.symm
          · exact z5 e.symm
          · exact z6 e.symm
          · exact z7 e.symm
          · exact z8 e.symm
          · exact z9 e.symm
        exact ⟨_, _, fun w t => do_n4 x a b h a1 a2 b1 b2 z0 z1 z2 z3 z4 z5 z6 z7 z8 z9 w t, fun w => rdo_n4 x a b h hx z8 z9 w⟩
      · exact ⟨_, _, fun w t => do_n3 x a b h a1 a2 (by omega) z8 z9 w t, fun w => rdo_n3 x a b h a1 a2 (by omega) z8 z9 w⟩
    · have ha' : a < l ∨ m < a := by omega
      refine ⟨_, _, fun w t => do_n2 x a b h ha' w t, fun w => ?_⟩
      by_cases z8 : x.toList = [60, 60]
      · exact rdo_n2a x a b h ha' z8 w
      by_cases z9 : x.toList = [62, 62]
      · exact rdo_n2b x a b h ha' z8 z9 w
      exact rdo_n2c x a b h ha' z8 z9 w
  · have hs : Sh k 0 false := by simp [Sh]; omega
    refine ⟨_, _, fun w t => do_n1 x k a b hs w t, fun w => ?_⟩
    by_cases hl : k < 3
    · by_cases z8 : x.toList = [60, 60]
      · exact rdo_n1al x k a b hl z8 w
      by_cases z9 : x.toList = [62, 62]
      · exact rdo_n1bl x k a b hl z8 z9 w
      exact rdo_n1cl x k a b hl z8 z9 w
    · by_cases z8 : x.toList = [60, 60]
      · exact rdo_n1ah x k a b (by omega) z8 w
      by_cases z9 : x.toList = [62, 62]
      · exact rdo_n1bh x k a b (by omega) z8 z9 w
      exact rdo_n1ch x k a b (by omega) z8 z9 w

/-- Both answer p and q. -/
def SameH (x : ByteArray) (a b : Int) (p q : Bool) : Prop :=
  (∀ w : World, Calls Tryd.prog 19 #[.string x, .int .i64 a, .int .i64 b] w fun e w' => e = .returned (.tuple #[.bool p, .bool q]) ∧ w' = w) ∧
  (∀ w : World, Calls Tryd.prog 20 #[.string x, .int .i64 a, .int .i64 b] w fun e w' => e = .returned (.tuple #[.bool p, .bool q]) ∧ w' = w)

set_option maxHeartbeats 1000000 in
theorem holds_0 (a b : Int) : SameH ⟨#[61, 61]⟩ a b (a == b) true := by
  refine ⟨fun w => ?_, fun w => ?_⟩
  · go_enter Tryd.func19, Tryd.ntmps19
    go_wp2
    go_ret2
    exact ⟨rfl, rfl⟩
  · go_enter Tryd.func20, Tryd.ntmps20
    go_wp2
    go_ret2
    exact ⟨rfl, rfl⟩
set_option maxHeartbeats 1000000 in
theorem holds_1 (a b : Int) : SameH ⟨#[33, 61]⟩ a b (a != b) true := by
  refine ⟨fun w => ?_, fun w => ?_⟩
  · go_enter Tryd.func19, Tryd.ntmps19
    go_wp2
    go_ret2
    exact ⟨rfl, rfl⟩
  · go_enter Tryd.func20, Tryd.ntmps20
    go_wp2
    go_ret2
    exact ⟨rfl, rfl⟩
set_option maxHeartbeats 1000000 in
theorem holds_2 (a b : Int) : SameH ⟨#[60]⟩ a b (decide (a < b)) true := by
  refine ⟨fun w => ?_, fun w => ?_⟩
  · go_enter Tryd.func19, Tryd.ntmps19
    go_wp2
    go_ret2
    exact ⟨rfl, rfl⟩
  · go_enter Tryd.func20, Tryd.ntmps20
    go_wp2
    go_ret2
    exact ⟨rfl, rfl⟩
set_option maxHeartbeats 1000000 in
theorem holds_3 (a b : Int) : SameH ⟨#[60, 61]⟩ a b (decide (a ≤ b)) true := by
  refine ⟨fun w => ?_, fun w => ?_⟩
  · go_enter Tryd.func19, Tryd.ntmps19
    go_wp2
    go_ret2
    exact ⟨rfl, rfl⟩
  · go_enter Tryd.func20, Tryd.ntmps20
    go_wp2
    go_ret2
    exact ⟨rfl, rfl⟩
set_option maxHeartbeats 1000000 in
theorem holds_4 (a b : Int) : SameH ⟨#[62]⟩ a b (decide (b < a)) true := by
  refine ⟨fun w => ?_, fun w => ?_⟩
  · go_enter Tryd.func19, Tryd.ntmps19
    go_wp2
    go_ret2
    exact ⟨rfl, rfl⟩
  · go_enter Tryd.func20, Tryd.ntmps20
    go_wp2
    go_ret2
    exact ⟨rfl, rfl⟩
set_option maxHeartbeats 1000000 in
theorem holds_5 (a b : Int) : SameH ⟨#[62, 61]⟩ a b (decide (b ≤ a)) true := by
  refine ⟨fun w => ?_, fun w => ?_⟩
  · go_enter Tryd.func19, Tryd.ntmps19
    go_wp2
    go_ret2
    exact ⟨rfl, rfl⟩
  · go_enter Tryd.func20, Tryd.ntmps20
    go_wp2
    go_ret2
    exact ⟨rfl, rfl⟩
set_option maxHeartbeats 1000000 in
theorem holds_no (x : ByteArray) (a b : Int) (x0 : ¬ x.toList = [61, 61]) (x1 : ¬ x.toList = [33, 61]) (x2 : ¬ x.toList = [60]) (x3 : ¬ x.toList = [60, 61]) (x4 : ¬ x.toList = [62]) (x5 : ¬ x.toList = [62, 61]) : SameH x a b false false := by
  have y0 : (x.toList == [61, 61]) = false := by simpa using x0
  have y1 : (x.toList == [33, 61]) = false := by simpa using x1
  have y2 : (x.toList == [60]) = false := by simpa using x2
  have y3 : (x.toList == [60, 61]) = false := by simpa using x3
  have y4 : (x.toList == [62]) = false := by simpa using x4
  have y5 : (x.toList == [62, 61]) = false := by simpa using x5
  refine ⟨fun w => ?_, fun w => ?_⟩
  · go_enter Tryd.func19, Tryd.ntmps19
    go_wp2
    go_ret2
    exact ⟨rfl, rfl⟩
  · go_enter Tryd.func20, Tryd.ntmps20
    go_wp2
    go_ret2
    exact ⟨rfl, rfl⟩

theorem holds_same (x : ByteArray) (a b : Int) : ∃ p q, SameH x a b p q := by
  by_cases x0 : x.toList = [61, 61]
  · obtain rfl : x = ⟨#[61, 61]⟩ := same_of_list x0
    exact ⟨_, _, holds_0 a b⟩
  by_cases x1 : x.toList = [33, 61]
  · obtain rfl : x = ⟨#[33, 61]⟩ := same_of_list x1
    exact ⟨_, _, holds_1 a b⟩
  by_cases x2 : x.toList = [60]
  · obtain rfl : x = ⟨#[60]⟩ := same_of_list x2
    exact ⟨_, _, holds_2 a b⟩
  by_cases x3 : x.toList = [60, 61]
  · obtain rfl : x = ⟨#[60, 61]⟩ := same_of_list x3
    exact ⟨_, _, holds_3 a b⟩
  by_cases x4 : x.toList = [62]
  · obtain rfl : x = ⟨#[62]⟩ := same_of_list x4
    exact ⟨_, _, holds_4 a b⟩
  by_cases x5 : x.toList = [62, 61]
  · obtain rfl : x = ⟨#[62, 61]⟩ := same_of_list x5
    exact ⟨_, _, holds_5 a b⟩
  exact ⟨_, _, holds_no x a b x0 x1 x2 x3 x4 x5⟩

theorem box_kept {w w1 : World} {o : Obj} (hb : Below (w.alloc o).heap.size (w.alloc o) w1) (i : Nat) : w1.cell? ⟨w.heap.size, i, none⟩ = (w.alloc o).cell? ⟨w.heap.size, i, none⟩ :=
  hb.cell (p := ⟨w.heap.size, i, none⟩) (by simp)

set_option maxHeartbeats 1000000 in
theorem nd_core (x : ByteArray) (k a b v f : Int) (p q : Bool) (h : Same x k a b v f) (hh : SameH x a b p q) (w : World) (t : Tab w) :
    Calls Tryd.prog 4 #[.agg #[.string x, .int .i64 k, .int .i64 a, .int .i64 b]] w fun e w' => e = .returned (.bool true) ∧ Below w.heap.size w w' := by
  have H : Hid (Same x k a b v f) := h
  have HH : Hid (SameH x a b p q) := hh
  have T : Hid (Tab (w.alloc (Obj.cells #[.string x, .int .i64 k, .int .i64 a, .int .i64 b] 31))) := t.below ((Below.refl _ _).alloc (Nat.le_refl _) _)
  clear h hh t
  go_enter Tryd.func4, Tryd.ntmps4
  go_wp2_with fail
  refine (H.out.1 _ T.out).mono ?_
  rintro e w1 ⟨rfl, hb1⟩
  have B1 : Hid (Below w.heap.size w w1) := (((Below.refl w.heap.size w).alloc (Nat.le_refl _) _).trans (hb1.mono (by simp)))
  have c0 : w1.cell? ⟨w.heap.size, 0, none⟩ = some (.string x) := (box_kept hb1 0).trans (World.cell?_alloc_at (w := w) _ _ _ _ rfl)
  have c1 : w1.cell? ⟨w.heap.size, 1, none⟩ = some (.int .i64 k) := (box_kept hb1 1).trans (World.cell?_alloc_at (w := w) _ _ _ _ rfl)
  have c2 : w1.cell? ⟨w.heap.size, 2, none⟩ = some (.int .i64 a) := (box_kept hb1 2).trans (World.cell?_alloc_at (w := w) _ _ _ _ rfl)
  have c3 : w1.cell? ⟨w.heap.size, 3, none⟩ = some (.int .i64 b) := (box_kept hb1 3).trans (World.cell?_alloc_at (w := w) _ _ _ _ rfl)
  have z1 : w.heap.size < w1.heap.size := by have := hb1.size; simp at this; omega
  clear hb1 T
  go_wp2_with fail
  refine (H.out.2 _).mono ?_
  rintro e w2 ⟨rfl, hb2⟩
  have B2 : Hid (Below w.heap.size w w2) := B1.out.trans (hb2.mono (by omega))
  have d0 : w2.cell? ⟨w.heap.size, 0, none⟩ = some (.string x) := (hb2.cell (p := ⟨w.heap.size, 0, none⟩) z1).trans c0
  have d2 : w2.cell? ⟨w.heap.size, 2, none⟩ = some (.int .i64 a) := (hb2.cell (p := ⟨w.heap.size, 2, none⟩) z1).trans c2
  have d3 : w2.cell? ⟨w.heap.size, 3, none⟩ = some (.int .i64 b) := (hb2.cell (p := ⟨w.heap.size, 3, none⟩) z1).trans c3
  clear hb2 c0 c1 c2 c3
  go_wp2_with fail
  refine (HH.out.1 _).mono ?_
  rintro e w3 ⟨rfl, rfl⟩
  go_wp2_with fail
  refine (HH.out.2 _).mono ?_
  rintro e w4 ⟨rfl, rfl⟩
  go_wp2
  go_ret
  exact ⟨rfl, B2.out⟩

theorem tr_int {H : Type} {enc : TypeId × Value → H} {W : World} {b : Nat} {sp : Nat → Bool} {held : Bool} {k : Int} (h : (Lit.int .i64 k).wf = true) : ∃ n, DataW.trod enc Tryd.prog W b sp held n 3 [.int .i64 k] = some (.lit (.int .i64 k), []) :=
  ⟨1, by simp [DataW.trod, Tryd.underlying3, h]⟩
theorem tr_str {H : Type} {enc : TypeId × Value → H} {W : World} {b : Nat} {sp : Nat → Bool} {held : Bool} {x : ByteArray} (h : x.size ≤ maxLen) : ∃ n, DataW.trod enc Tryd.prog W b sp held n 9 [.string x] = some (.lit (.string x.data.toList), []) :=
  ⟨1, by simp [DataW.trod, Tryd.underlying9, h]⟩
theorem cells31 : Tryd.prog.cellsOf 31 = 4 := by kernel_rfl

set_option maxRecDepth 100000 in
theorem numDoes_lifted (os : Os) (started : os.Started) (H : Type) (enc : TypeId × Value → H) :
    ReturnsInHanded {} Tryd.checked os 4 .any (fun w args => (Rows.numDoesSpec.pre enc Tryd.prog Tryd.f4 [] false w args ∧ laidMetH Tryd.prog laid1 w) ∧ sizedMet enc Tryd.prog Tryd.f4 (OpenSpec.ofChange Rows.numDoesSpec) false w args)
      (Rows.numDoesSpec.post enc Tryd.prog Tryd.f4 false true false false) := by
  refine returnsInHanded_of_change_and (C := Tryd.checked) (X := fun w _ => laidMetH Tryd.prog laid1 w) (fun _ _ _ hh h => h.of_heap hh) own started (by kernel_rfl) Tryd.func4
    (ChangeSpec.witness_shaped (enc := enc) (C := Tryd.checked) (os := os) (X := fun w _ => laidMetH Tryd.prog laid1 w) false (World.doorLaid Tryd.prog 400 os) #[.agg #[.string ⟨#[]⟩, .int .i64 0, .int .i64 0, .int .i64 0]] 8 rfl (World.shaped_of_RefB (by kernel_rfl) (by kernel_rfl)) (by kernel_rfl) (by kernel_rfl) (by kernel_rfl) (door_met os _)) ?_
  intro W base args ds gs before hval0 hW _ _ hL _
  have hval : ∀ (j : Nat) t v, Tryd.f4.params[j]? = some t → args[j]? = some v → Value.okWide Tryd.prog W .any base t v := hval0
  have hW' := hW
  obtain ⟨p, q, hA0, hV, rfl, hfz, hnd⟩ := hW
  have hA : DataW.TrodAll enc Tryd.prog W 0 (fun _ => true) true Tryd.f4.params.toList args.toList ds p := hA0
  rw [Tryd.params4] at hA hval
  obtain ⟨v0, d0, rfl, rfl, h0⟩ := trodAll_one hA
  obtain ⟨rfl, rfl⟩ := trodVars_none hV
  obtain ⟨u0, u1, u2, u3, y0, y1, y2, y3, fuel, rfl, rfl, rfl, t0, t1, t2, t3⟩ := Joins.open_agg4 Tryd.underlying31 (by kernel_rfl) cells31 (hval 0 31 v0 rfl rfl) h0
  obtain ⟨x, e0, rfl, hx⟩ := DataW.trod_string Tryd.underlying9 t0
  obtain ⟨k, e1, rfl, w1⟩ := DataW.trod_int Tryd.underlying3 t1
  obtain ⟨a, e2, rfl, w2⟩ := DataW.trod_int Tryd.underlying3 t2
  obtain ⟨b, e3, rfl, w3⟩ := DataW.trod_int Tryd.underlying3 t3
  simp only [List.cons.injEq, and_true] at e0 e1 e2 e3
  subst e0; subst e1; subst e2; subst e3
  clear hA0 hval0
  simp only [List.append_nil] at hW'
  obtain ⟨v, f, hs⟩ := do_same x k a b
  obtain ⟨pb, qb, hh⟩ := holds_same x a b
  refine (nd_core x k a b v f pb qb hs hh W (of_laid hL)).mono fun e W' ⟨he, hg⟩ => ?_
  subst he
  refine ⟨_, rfl, _, _, _, [], [], [], hW', (trodAll_cons_mk (shut_bool Tryd.underlying4 _) trodAll_mk0), ?_, rfl, hg.frame _, fun h => by cases h⟩
  exact trodAll_mk1 (Joins.shut_agg4 (y0 := (.lit (.string x.data.toList), [])) (y1 := (.lit (.int .i64 k), [])) (y2 := (.lit (.int .i64 a), [])) (y3 := (.lit (.int .i64 b), [])) Tryd.underlying31 (by kernel_rfl) cells31
    (tr_str hx) (tr_int w1) (tr_int w2) (tr_int w3))

theorem numDoes_row : Rows.NumDoesSaid :=
  OpenClaim.holds_of_wide 4 Tryd.f4 rfl rfl rfl rfl rfl rfl rfl ⟨rfl, rfl, rfl, rfl, rfl⟩ rfl rfl rfl rfl rfl (by kernel_rfl) Tryd.func4 (by kernel_rfl)
    (of_decide_eq_true (by kernel_rfl)) (by unfold Func.isWrapper; first | (rw [if_pos (by decide +kernel)]; kernel_rfl) | (rw [if_neg (by decide +kernel)]; exact ⟨rfl, rfl⟩))
    (fun os started H enc _ => numDoes_lifted os started H enc)

theorem numDoes_holds : Rows.NumDoesCardSaid :=
  Claim7.holds_tied_plain_at .later [] [.data] true (true, "302cc928f815ed1bdd036c7b84ed4e8f37c164cd36297476f1d171a20a166aa9") false
    numDoes_row (fun _ h => by cases h) (by kernel_rfl) (fun _ h => by cases h) numDoes_row_tie rfl ⟨rfl, rfl⟩ (by kernel_rfl) rfl
    (fun f fn hf hfn => by
      obtain rfl : f = 4 := Option.some.inj ((show Tryd.prog.funcNamed "ferrule/ferrulelaw01.NumDoes" = some 4 by kernel_rfl).symm.trans hf) |>.symm
      obtain rfl : fn = Tryd.f4 := (Option.some.inj (Tryd.func4.symm.trans hfn)).symm
      exact ⟨by kernel_rfl, fun j t ht => by
        rw [Tryd.params4] at ht
        have hm : t ∈ [31] := by simpa using Array.mem_of_getElem? ht
        have hall : ([31].all fun u => !Tryd.prog.wantsStandIn u) = true := by kernel_rfl
        exact (show Tryd.prog.wantsStandIn t = false by simpa using List.all_eq_true.1 hall t (by simpa using hm))⟩)
    (by kernel_rfl)
#print axioms numDoes_holds
end Go.Proofs.YtjcinojbbfjnjaaDoor
