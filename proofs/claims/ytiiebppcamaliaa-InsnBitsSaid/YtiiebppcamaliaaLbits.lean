/-
  Proved: the law InsnBits answers true.
-/
import Derived.Test.YtiiebppcamaliaaLbitsp
import Derived.Test.YtiiebppcamaliaaMath
namespace Go.Proofs.Ytiiebppcamaliaa
open Go.RowKit
set_option linter.unusedVariables false
set_option linter.unusedSimpArgs false

theorem ch {w w1 w2 : World} (h1 : Below w.heap.size w w1) (h2 : Below w1.heap.size w1 w2) : Below w.heap.size w w2 := h1.trans (h2.mono h1.size)

theorem add_is : encF [97, 100, 100] ⟨3, 4, 5, 0⟩ = some 5374387 := by decide +kernel

theorem reg_31 (n : Int) : bits .and .i64 n 31 = n % 32 := and_mask n 5 (by decide)

set_option maxHeartbeats 4000000 in
theorem bits_000 (s : ByteArray) (rd r1 r2 im reg q wv : Int) (hq : bits .and .i64 reg 31 = q) (w : World)
    (EE : Hid (∀ w, Calls Try.prog 9 #[.agg #[.string ⟨#[97, 100, 100]⟩, .int .i64 3, .int .i64 4, .int .i64 5, .int .i64 0]] w fun e w' => e = .returned (.tuple #[.int .u32 5374387, .bool true]) ∧ Below w.heap.size w w'))
    (EA : Hid (∀ w, Calls Try.prog 9 #[.agg #[.string s, .int .i64 rd, .int .i64 r1, .int .i64 r2, .int .i64 im]] w fun e w' => e = .returned (.tuple #[.int .u32 wv, .bool true]) ∧ Below w.heap.size w w'))
    (E1 : Hid (∀ w, Calls Try.prog 9 #[.agg #[.string s, .int .i64 q, .int .i64 r1, .int .i64 r2, .int .i64 im]] w fun e w' => e = .returned (.tuple #[.int .u32 0, .bool false]) ∧ Below w.heap.size w w'))
    (E2 : Hid (∀ w, Calls Try.prog 9 #[.agg #[.string s, .int .i64 rd, .int .i64 q, .int .i64 r2, .int .i64 im]] w fun e w' => e = .returned (.tuple #[.int .u32 0, .bool false]) ∧ Below w.heap.size w w'))
    (E3 : Hid (∀ w, Calls Try.prog 9 #[.agg #[.string s, .int .i64 rd, .int .i64 r1, .int .i64 q, .int .i64 im]] w fun e w' => e = .returned (.tuple #[.int .u32 0, .bool false]) ∧ Below w.heap.size w w')) :
    Calls Try.prog 8 #[.agg #[.string s, .int .i64 rd, .int .i64 r1, .int .i64 r2, .int .i64 im], .int .i64 reg] w fun e w' => e = .returned (.bool true) ∧ Below w.heap.size w w' := by
  have B0 : Below w.heap.size w (w.alloc (.cells #[.string s, .int .i64 rd, .int .i64 r1, .int .i64 r2, .int .i64 im] 23)) := below_alloc _ _
  have K0 : At (w.alloc (.cells #[.string s, .int .i64 rd, .int .i64 r1, .int .i64 r2, .int .i64 im] 23)) w.heap.size #[.string s, .int .i64 rd, .int .i64 r1, .int .i64 r2, .int .i64 im] 23 := At.new _ _ _
  go_enter Try.func8, Try.ntmps8
  go_upto_region 10 with (first
    | (have M1 := K1; clear u0 u1 u2 u3 u4; go_at_call 9; refine (EA.out _).mono ?_; rintro e w2 ⟨rfl, hb⟩; have B2 : Hid (Below w.heap.size w w2) := ch B1.out hb; have K2 : Hid (At w2 w.heap.size #[.string s, .int .i64 rd, .int .i64 r1, .int .i64 r2, .int .i64 im] 23) := (K1.out).below hb (K1.out).lt; have u0 := K2.out.cell 0; have u1 := K2.out.cell 1; have u2 := K2.out.cell 2; have u3 := K2.out.cell 3; have u4 := K2.out.cell 4; simp at u0 u1 u2 u3 u4; clear hb)
    | (go_at_call 9; refine (EE.out _).mono ?_; rintro e w1 ⟨rfl, hb⟩; have B1 : Hid (Below w.heap.size w w1) := ch B0 hb; have K1 : Hid (At w1 w.heap.size #[.string s, .int .i64 rd, .int .i64 r1, .int .i64 r2, .int .i64 im] 23) := (K0).below hb (K0).lt; have u0 := K1.out.cell 0; have u1 := K1.out.cell 1; have u2 := K1.out.cell 2; have u3 := K1.out.cell 3; have u4 := K1.out.cell 4; simp at u0 u1 u2 u3 u4; clear hb))
  have KI4 : Hid (At (w2.alloc (.cells #[.string s, .int .i64 q, .int .i64 r1, .int .i64 r2, .int .i64 im] 23)) w.heap.size #[.string s, .int .i64 rd, .int .i64 r1, .int .i64 r2, .int .i64 im] 23) := K2.out.below (below_alloc _ _) K2.out.lt
  have KB4 : Hid (At (w2.alloc (.cells #[.string s, .int .i64 q, .int .i64 r1, .int .i64 r2, .int .i64 im] 23)) w2.heap.size #[.string s, .int .i64 q, .int .i64 r1, .int .i64 r2, .int .i64 im] 23) := At.new _ _ _
  have B4 : Hid (Below w.heap.size w (w2.alloc (.cells #[.string s, .int .i64 q, .int .i64 r1, .int .i64 r2, .int .i64 im] 23))) := ch B2.out (below_alloc _ _)
  have LT : Hid (w.heap.size < w2.heap.size) := K2.out.lt
  clear u0 u1 u2 u3 u4
  generalize w2.alloc (.cells #[.string s, .int .i64 q, .int .i64 r1, .int .i64 r2, .int .i64 im] 23) = w4 at *
  generalize w2.heap.size = b at *
  have v0 := KB4.out.cell 0; have v1 := KB4.out.cell 1; have v2 := KB4.out.cell 2; have v3 := KB4.out.cell 3; have v4 := KB4.out.cell 4
  simp at v0 v1 v2 v3 v4
  go_upto_region 13 with (go_at_call 9; refine (E1.out _).mono ?_; rintro e w5 ⟨rfl, hb⟩; have B5 : Hid (Below w.heap.size w w5) := ch B4.out hb; have KI5 : Hid (At w5 w.heap.size #[.string s, .int .i64 rd, .int .i64 r1, .int .i64 r2, .int .i64 im] 23) := KI4.out.below hb KI4.out.lt; have KB5 : Hid (At w5 b #[.string s, .int .i64 q, .int .i64 r1, .int .i64 r2, .int .i64 im] 23) := KB4.out.below hb KB4.out.lt; clear hb v0 v1 v2 v3 v4)
  refine wp_region_list ?_
  refine wpList_load_row rfl 23 (.tmp 2) rfl w.heap.size rfl 23 #[.string s, .int .i64 rd, .int .i64 r1, .int .i64 r2, .int .i64 im] (0, 0) _ KI5.out Try.underlying23 rfl (by kernel_rfl) ?_
  refine wpList_store_row rfl 23 (.tmp 9) (.tmp 47) rfl b #[.string s, .int .i64 rd, .int .i64 r1, .int .i64 r2, .int .i64 im] rfl rfl 23 _ KB5.out (by kernel_rfl) (by rfl) (by kernel_rfl) ?_
  refine wpList_nil ?_
  have k6 : At (w5.setRow b #[.string s, .int .i64 rd, .int .i64 r1, .int .i64 r2, .int .i64 im]) b #[.string s, .int .i64 rd, .int .i64 r1, .int .i64 r2, .int .i64 im] 23 := setRow_heap _ _ _ _ _ _ KB5.out
  have KB6 : Hid (At (w5.setRow b #[.string s, .int .i64 rd, .int .i64 r1, .int .i64 r2, .int .i64 im]) b #[.string s, .int .i64 rd, .int .i64 r1, .int .i64 r2, .int .i64 im] 23) := k6
  have KI6 : Hid (At (w5.setRow b #[.string s, .int .i64 rd, .int .i64 r1, .int .i64 r2, .int .i64 im]) w.heap.size #[.string s, .int .i64 rd, .int .i64 r1, .int .i64 r2, .int .i64 im] 23) := (setRow_other _ _ _ _ (by have := LT.out; omega)).trans KI5.out
  have B6 : Hid (Below w.heap.size w (w5.setRow b #[.string s, .int .i64 rd, .int .i64 r1, .int .i64 r2, .int .i64 im])) := B5.out.trans (setRow_below _ (Nat.le_of_lt LT.out))
  clear k6
  generalize w5.setRow b #[.string s, .int .i64 rd, .int .i64 r1, .int .i64 r2, .int .i64 im] = w6 at *
  have vv := KB6.out.cell 2; have ff := KB6.out.frozen 2
  simp at vv
  (try simp only [Act.put, List.getElem_toArray, List.getElem_cons_succ, List.getElem_cons_zero, List.setIfInBounds_toArray, List.set_cons_zero, List.set_cons_succ])
  go_upto_region 15 with fail
  have KB7 : Hid (At (w6.setCell ⟨b, 2, none⟩ (.int .i64 q)) b #[.string s, .int .i64 rd, .int .i64 q, .int .i64 r2, .int .i64 im] 23) := KB6.out.set (.int .i64 q)
  have KI7 : Hid (At (w6.setCell ⟨b, 2, none⟩ (.int .i64 q)) w.heap.size #[.string s, .int .i64 rd, .int .i64 r1, .int .i64 r2, .int .i64 im] 23) := (Below.heap_setCell w6 ⟨b, 2, none⟩ _ _ (by have := LT.out; show w.heap.size ≠ b; omega)).trans KI6.out
  have B7 : Hid (Below w.heap.size w (w6.setCell ⟨b, 2, none⟩ (.int .i64 q))) := B6.out.setCell (Nat.le_of_lt LT.out) _
  clear vv ff
  generalize w6.setCell ⟨b, 2, none⟩ (.int .i64 q) = w7 at *
  have v0 := KB7.out.cell 0; have v1 := KB7.out.cell 1; have v2 := KB7.out.cell 2; have v3 := KB7.out.cell 3; have v4 := KB7.out.cell 4
  simp at v0 v1 v2 v3 v4
  clear KB6 KI6 B6
  go_upto_region 18 with (go_at_call 9; refine (E2.out _).mono ?_; rintro e w8 ⟨rfl, hb⟩; have B8 : Hid (Below w.heap.size w w8) := ch B7.out hb; have KI8 : Hid (At w8 w.heap.size #[.string s, .int .i64 rd, .int .i64 r1, .int .i64 r2, .int .i64 im] 23) := KI7.out.below hb KI7.out.lt; have KB8 : Hid (At w8 b #[.string s, .int .i64 rd, .int .i64 q, .int .i64 r2, .int .i64 im] 23) := KB7.out.below hb KB7.out.lt; clear hb v0 v1 v2 v3 v4)
  refine wp_region_list ?_
  refine wpList_load_row rfl 23 (.tmp 2) rfl w.heap.size rfl 23 #[.string s, .int .i64 rd, .int .i64 r1, .int .i64 r2, .int .i64 im] (0, 0) _ KI8.out Try.underlying23 rfl (by kernel_rfl) ?_
  refine wpList_store_row rfl 23 (.tmp 9) (.tmp 63) rfl b #[.string s, .int .i64 rd, .int .i64 r1, .int .i64 r2, .int .i64 im] rfl rfl 23 _ KB8.out (by kernel_rfl) (by rfl) (by kernel_rfl) ?_
  refine wpList_nil ?_
  have k6 : At (w8.setRow b #[.string s, .int .i64 rd, .int .i64 r1, .int .i64 r2, .int .i64 im]) b #[.string s, .int .i64 rd, .int .i64 r1, .int .i64 r2, .int .i64 im] 23 := setRow_heap _ _ _ _ _ _ KB8.out
  have KB6 : Hid (At (w8.setRow b #[.string s, .int .i64 rd, .int .i64 r1, .int .i64 r2, .int .i64 im]) b #[.string s, .int .i64 rd, .int .i64 r1, .int .i64 r2, .int .i64 im] 23) := k6
  have KI6 : Hid (At (w8.setRow b #[.string s, .int .i64 rd, .int .i64 r1, .int .i64 r2, .int .i64 im]) w.heap.size #[.string s, .int .i64 rd, .int .i64 r1, .int .i64 r2, .int .i64 im] 23) := (setRow_other _ _ _ _ (by have := LT.out; omega)).trans KI8.out
  have B6 : Hid (Below w.heap.size w (w8.setRow b #[.string s, .int .i64 rd, .int .i64 r1, .int .i64 r2, .int .i64 im])) := B8.out.trans (setRow_below _ (Nat.le_of_lt LT.out))
  clear k6
  generalize w8.setRow b #[.string s, .int .i64 rd, .int .i64 r1, .int .i64 r2, .int .i64 im] = w6 at *
  have vv := KB6.out.cell 3; have ff := KB6.out.frozen 3
  simp at vv
  (try simp only [Act.put, List.getElem_toArray, List.getElem_cons_succ, List.getElem_cons_zero, List.setIfInBounds_toArray, List.set_cons_zero, List.set_cons_succ])
  go_upto_region 20 with fail
  have KB10 : Hid (At (w6.setCell ⟨b, 3, none⟩ (.int .i64 q)) b #[.string s, .int .i64 rd, .int .i64 r1, .int .i64 q, .int .i64 im] 23) := KB6.out.set (.int .i64 q)
  have KI10 : Hid (At (w6.setCell ⟨b, 3, none⟩ (.int .i64 q)) w.heap.size #[.string s, .int .i64 rd, .int .i64 r1, .int .i64 r2, .int .i64 im] 23) := (Below.heap_setCell w6 ⟨b, 3, none⟩ _ _ (by have := LT.out; show w.heap.size ≠ b; omega)).trans KI6.out
  have B10 : Hid (Below w.heap.size w (w6.setCell ⟨b, 3, none⟩ (.int .i64 q))) := B6.out.setCell (Nat.le_of_lt LT.out) _
  clear vv ff
  generalize w6.setCell ⟨b, 3, none⟩ (.int .i64 q) = w10 at *
  have v0 := KB10.out.cell 0; have v1 := KB10.out.cell 1; have v2 := KB10.out.cell 2; have v3 := KB10.out.cell 3; have v4 := KB10.out.cell 4
  simp at v0 v1 v2 v3 v4
  clear KB6 KI6 B6
  go_wp2_with (go_at_call 9; refine (E3.out _).mono ?_; rintro e w20 ⟨rfl, hb⟩; have B20 : Hid (Below w.heap.size w w20) := ch B10.out hb; clear hb v0 v1 v2 v3 v4)
  go_ret
  exact ⟨rfl, B20.out⟩

set_option maxHeartbeats 4000000 in
theorem bits_001 (s : ByteArray) (rd r1 r2 im reg q wv x3 : Int) (hq : bits .and .i64 reg 31 = q) (h3 : bits .andNot .u32 (bits .xor .u32 wv x3) 32505856 = 0) (w : World)
    (EE : Hid (∀ w, Calls Try.prog 9 #[.agg #[.string ⟨#[97, 100, 100]⟩, .int .i64 3, .int .i64 4, .int .i64 5, .int .i64 0]] w fun e w' => e = .returned (.tuple #[.int .u32 5374387, .bool true]) ∧ Below w.heap.size w w'))
    (EA : Hid (∀ w, Calls Try.prog 9 #[.agg #[.string s, .int .i64 rd, .int .i64 r1, .int .i64 r2, .int .i64 im]] w fun e w' => e = .returned (.tuple #[.int .u32 wv, .bool true]) ∧ Below w.heap.size w w'))
    (E1 : Hid (∀ w, Calls Try.prog 9 #[.agg #[.string s, .int .i64 q, .int .i64 r1, .int .i64 r2, .int .i64 im]] w fun e w' => e = .returned (.tuple #[.int .u32 0, .bool false]) ∧ Below w.heap.size w w'))
    (E2 : Hid (∀ w, Calls Try.prog 9 #[.agg #[.string s, .int .i64 rd, .int .i64 q, .int .i64 r2, .int .i64 im]] w fun e w' => e = .returned (.tuple #[.int .u32 0, .bool false]) ∧ Below w.heap.size w w'))
    (E3 : Hid (∀ w, Calls Try.prog 9 #[.agg #[.string s, .int .i64 rd, .int .i64 r1, .int .i64 q, .int .i64 im]] w fun e w' => e = .returned (.tuple #[.int .u32 x3, .bool true]) ∧ Below w.heap.size w w')) :
    Calls Try.prog 8 #[.agg #[.string s, .int .i64 rd, .int .i64 r1, .int .i64 r2, .int .i64 im], .int .i64 reg] w fun e w' => e = .returned (.bool true) ∧ Below w.heap.size w w' := by
  have B0 : Below w.heap.size w (w.alloc (.cells #[.string s, .int .i64 rd, .int .i64 r1, .int .i64 r2, .int .i64 im] 23)) := below_alloc _ _
  have K0 : At (w.alloc (.cells #[.string s, .int .i64 rd, .int .i64 r1, .int .i64 r2, .int .i64 im] 23)) w.heap.size #[.string s, .int .i64 rd, .int .i64 r1, .int .i64 r2, .int .i64 im] 23 := At.new _ _ _
  go_enter Try.func8, Try.ntmps8
  go_upto_region 10 with (first
    | (have M1 := K1; clear u0 u1 u2 u3 u4; go_at_call 9; refine (EA.out _).mono ?_; rintro e w2 ⟨rfl, hb⟩; have B2 : Hid (Below w.heap.size w w2) := ch B1.out hb; have K2 : Hid (At w2 w.heap.size #[.string s, .int .i64 rd, .int .i64 r1, .int .i64 r2, .int .i64 im] 23) := (K1.out).below hb (K1.out).lt; have u0 := K2.out.cell 0; have u1 := K2.out.cell 1; have u2 := K2.out.cell 2; have u3 := K2.out.cell 3; have u4 := K2.out.cell 4; simp at u0 u1 u2 u3 u4; clear hb)
    | (go_at_call 9; refine (EE.out _).mono ?_; rintro e w1 ⟨rfl, hb⟩; have B1 : Hid (Below w.heap.size w w1) := ch B0 hb; have K1 : Hid (At w1 w.heap.size #[.string s, .int .i64 rd, .int .i64 r1, .int .i64 r2, .int .i64 im] 23) := (K0).below hb (K0).lt; have u0 := K1.out.cell 0; have u1 := K1.out.cell 1; have u2 := K1.out.cell 2; have u3 := K1.out.cell 3; have u4 := K1.out.cell 4; simp at u0 u1 u2 u3 u4; clear hb))
  have KI4 : Hid (At (w2.alloc (.cells #[.string s, .int .i64 q, .int .i64 r1, .int .i64 r2, .int .i64 im] 23)) w.heap.size #[.string s, .int .i64 rd, .int .i64 r1, .int .i64 r2, .int .i64 im] 23) := K2.out.below (below_alloc _ _) K2.out.lt
  have KB4 : Hid (At (w2.alloc (.cells #[.string s, .int .i64 q, .int .i64 r1, .int .i64 r2, .int .i64 im] 23)) w2.heap.size #[.string s, .int .i64 q, .int .i64 r1, .int .i64 r2, .int .i64 im] 23) := At.new _ _ _
  have B4 : Hid (Below w.heap.size w (w2.alloc (.cells #[.string s, .int .i64 q, .int .i64 r1, .int .i64 r2, .int .i64 im] 23))) := ch B2.out (below_alloc _ _)
  have LT : Hid (w.heap.size < w2.heap.size) := K2.out.lt
  clear u0 u1 u2 u3 u4
  generalize w2.alloc (.cells #[.string s, .int .i64 q, .int .i64 r1, .int .i64 r2, .int .i64 im] 23) = w4 at *
  generalize w2.heap.size = b at *
  have v0 := KB4.out.cell 0; have v1 := KB4.out.cell 1; have v2 := KB4.out.cell 2; have v3 := KB4.out.cell 3; have v4 := KB4.out.cell 4
  simp at v0 v1 v2 v3 v4
  go_upto_region 13 with (go_at_call 9; refine (E1.out _).mono ?_; rintro e w5 ⟨rfl, hb⟩; have B5 : Hid (Below w.heap.size w w5) := ch B4.out hb; have KI5 : Hid (At w5 w.heap.size #[.string s, .int .i64 rd, .int .i64 r1, .int .i64 r2, .int .i64 im] 23) := KI4.out.below hb KI4.out.lt; have KB5 : Hid (At w5 b #[.string s, .int .i64 q, .int .i64 r1, .int .i64 r2, .int .i64 im] 23) := KB4.out.below hb KB4.out.lt; clear hb v0 v1 v2 v3 v4)
  refine wp_region_list ?_
  refine wpList_load_row rfl 23 (.tmp 2) rfl w.heap.size rfl 23 #[.string s, .int .i64 rd, .int .i64 r1, .int .i64 r2, .int .i64 im] (0, 0) _ KI5.out Try.underlying23 rfl (by kernel_rfl) ?_
  refine wpList_store_row rfl 23 (.tmp 9) (.tmp 47) rfl b #[.string s, .int .i64 rd, .int .i64 r1, .int .i64 r2, .int .i64 im] rfl rfl 23 _ KB5.out (by kernel_rfl) (by rfl) (by kernel_rfl) ?_
  refine wpList_nil ?_
  have k6 : At (w5.setRow b #[.string s, .int .i64 rd, .int .i64 r1, .int .i64 r2, .int .i64 im]) b #[.string s, .int .i64 rd, .int .i64 r1, .int .i64 r2, .int .i64 im] 23 := setRow_heap _ _ _ _ _ _ KB5.out
  have KB6 : Hid (At (w5.setRow b #[.string s, .int .i64 rd, .int .i64 r1, .int .i64 r2, .int .i64 im]) b #[.string s, .int .i64 rd, .int .i64 r1, .int .i64 r2, .int .i64 im] 23) := k6
  have KI6 : Hid (At (w5.setRow b #[.string s, .int .i64 rd, .int .i64 r1, .int .i64 r2, .int .i64 im]) w.heap.size #[.string s, .int .i64 rd, .int .i64 r1, .int .i64 r2, .int .i64 im] 23) := (setRow_other _ _ _ _ (by have := LT.out; omega)).trans KI5.out
  have B6 : Hid (Below w.heap.size w (w5.setRow b #[.string s, .int .i64 rd, .int .i64 r1, .int .i64 r2, .int .i64 im])) := B5.out.trans (setRow_below _ (Nat.le_of_lt LT.out))
  clear k6
  generalize w5.setRow b #[.string s, .int .i64 rd, .int .i64 r1, .int .i64 r2, .int .i64 im] = w6 at *
  have vv := KB6.out.cell 2; have ff := KB6.out.frozen 2
  simp at vv
  (try simp only [Act.put, List.getElem_toArray, List.getElem_cons_succ, List.getElem_cons_zero, List.setIfInBounds_toArray, List.set_cons_zero, List.set_cons_succ])
  go_upto_region 15 with fail
  have KB7 : Hid (At (w6.setCell ⟨b, 2, none⟩ (.int .i64 q)) b #[.string s, .int .i64 rd, .int .i64 q, .int .i64 r2, .int .i64 im] 23) := KB6.out.set (.int .i64 q)
  have KI7 : Hid (At (w6.setCell ⟨b, 2, none⟩ (.int .i64 q)) w.heap.size #[.string s, .int .i64 rd, .int .i64 r1, .int .i64 r2, .int .i64 im] 23) := (Below.heap_setCell w6 ⟨b, 2, none⟩ _ _ (by have := LT.out; show w.heap.size ≠ b; omega)).trans KI6.out
  have B7 : Hid (Below w.heap.size w (w6.setCell ⟨b, 2, none⟩ (.int .i64 q))) := B6.out.setCell (Nat.le_of_lt LT.out) _
  clear vv ff
  generalize w6.setCell ⟨b, 2, none⟩ (.int .i64 q) = w7 at *
  have v0 := KB7.out.cell 0; have v1 := KB7.out.cell 1; have v2 := KB7.out.cell 2; have v3 := KB7.out.cell 3; have v4 := KB7.out.cell 4
  simp at v0 v1 v2 v3 v4
  clear KB6 KI6 B6
  go_upto_region 18 with (go_at_call 9; refine (E2.out _).mono ?_; rintro e w8 ⟨rfl, hb⟩; have B8 : Hid (Below w.heap.size w w8) := ch B7.out hb; have KI8 : Hid (At w8 w.heap.size #[.string s, .int .i64 rd, .int .i64 r1, .int .i64 r2, .int .i64 im] 23) := KI7.out.below hb KI7.out.lt; have KB8 : Hid (At w8 b #[.string s, .int .i64 rd, .int .i64 q, .int .i64 r2, .int .i64 im] 23) := KB7.out.below hb KB7.out.lt; clear hb v0 v1 v2 v3 v4)
  refine wp_region_list ?_
  refine wpList_load_row rfl 23 (.tmp 2) rfl w.heap.size rfl 23 #[.string s, .int .i64 rd, .int .i64 r1, .int .i64 r2, .int .i64 im] (0, 0) _ KI8.out Try.underlying23 rfl (by kernel_rfl) ?_
  refine wpList_store_row rfl 23 (.tmp 9) (.tmp 63) rfl b #[.string s, .int .i64 rd, .int .i64 r1, .int .i64 r2, .int .i64 im] rfl rfl 23 _ KB8.out (by kernel_rfl) (by rfl) (by kernel_rfl) ?_
  refine wpList_nil ?_
  have k6 : At (w8.setRow b #[.string s, .int .i64 rd, .int .i64 r1, .int .i64 r2, .int .i64 im]) b #[.string s, .int .i64 rd, .int .i64 r1, .int .i64 r2, .int .i64 im] 23 := setRow_heap _ _ _ _ _ _ KB8.out
  have KB6 : Hid (At (w8.setRow b #[.string s, .int .i64 rd, .int .i64 r1, .int .i64 r2, .int .i64 im]) b #[.string s, .int .i64 rd, .int .i64 r1, .int .i64 r2, .int .i64 im] 23) := k6
  have KI6 : Hid (At (w8.setRow b #[.string s, .int .i64 rd, .int .i64 r1, .int .i64 r2, .int .i64 im]) w.heap.size #[.string s, .int .i64 rd, .int .i64 r1, .int .i64 r2, .int .i64 im] 23) := (setRow_other _ _ _ _ (by have := LT.out; omega)).trans KI8.out
  have B6 : Hid (Below w.heap.size w (w8.setRow b #[.string s, .int .i64 rd, .int .i64 r1, .int .i64 r2, .int .i64 im])) := B8.out.trans (setRow_below _ (Nat.le_of_lt LT.out))
  clear k6
  generalize w8.setRow b #[.string s, .int .i64 rd, .int .i64 r1, .int .i64 r2, .int .i64 im] = w6 at *
  have vv := KB6.out.cell 3; have ff := KB6.out.frozen 3
  simp at vv
  (try simp only [Act.put, List.getElem_toArray, List.getElem_cons_succ, List.getElem_cons_zero, List.setIfInBounds_toArray, List.set_cons_zero, List.set_cons_succ])
  go_upto_region 20 with fail
  have KB10 : Hid (At (w6.setCell ⟨b, 3, none⟩ (.int .i64 q)) b #[.string s, .int .i64 rd, .int .i64 r1, .int .i64 q, .int .i64 im] 23) := KB6.out.set (.int .i64 q)
  have KI10 : Hid (At (w6.setCell ⟨b, 3, none⟩ (.int .i64 q)) w.heap.size #[.string s, .int .i64 rd, .int .i64 r1, .int .i64 r2, .int .i64 im] 23) := (Below.heap_setCell w6 ⟨b, 3, none⟩ _ _ (by have := LT.out; show w.heap.size ≠ b; omega)).trans KI6.out
  have B10 : Hid (Below w.heap.size w (w6.setCell ⟨b, 3, none⟩ (.int .i64 q))) := B6.out.setCell (Nat.le_of_lt LT.out) _
  clear vv ff
  generalize w6.setCell ⟨b, 3, none⟩ (.int .i64 q) = w10 at *
  have v0 := KB10.out.cell 0; have v1 := KB10.out.cell 1; have v2 := KB10.out.cell 2; have v3 := KB10.out.cell 3; have v4 := KB10.out.cell 4
  simp at v0 v1 v2 v3 v4
  clear KB6 KI6 B6
  go_wp2_with (go_at_call 9; refine (E3.out _).mono ?_; rintro e w20 ⟨rfl, hb⟩; have B20 : Hid (Below w.heap.size w w20) := ch B10.out hb; clear hb v0 v1 v2 v3 v4)
  go_ret
  exact ⟨rfl, B20.out⟩

set_option maxHeartbeats 4000000 in
theorem bits_010 (s : ByteArray) (rd r1 r2 im reg q wv x2 : Int) (hq : bits .and .i64 reg 31 = q) (h2 : bits .andNot .u32 (bits .xor .u32 wv x2) 1015808 = 0) (w : World)
    (EE : Hid (∀ w, Calls Try.prog 9 #[.agg #[.string ⟨#[97, 100, 100]⟩, .int .i64 3, .int .i64 4, .int .i64 5, .int .i64 0]] w fun e w' => e = .returned (.tuple #[.int .u32 5374387, .bool true]) ∧ Below w.heap.size w w'))
    (EA : Hid (∀ w, Calls Try.prog 9 #[.agg #[.string s, .int .i64 rd, .int .i64 r1, .int .i64 r2, .int .i64 im]] w fun e w' => e = .returned (.tuple #[.int .u32 wv, .bool true]) ∧ Below w.heap.size w w'))
    (E1 : Hid (∀ w, Calls Try.prog 9 #[.agg #[.string s, .int .i64 q, .int .i64 r1, .int .i64 r2, .int .i64 im]] w fun e w' => e = .returned (.tuple #[.int .u32 0, .bool false]) ∧ Below w.heap.size w w'))
    (E2 : Hid (∀ w, Calls Try.prog 9 #[.agg #[.string s, .int .i64 rd, .int .i64 q, .int .i64 r2, .int .i64 im]] w fun e w' => e = .returned (.tuple #[.int .u32 x2, .bool true]) ∧ Below w.heap.size w w'))
    (E3 : Hid (∀ w, Calls Try.prog 9 #[.agg #[.string s, .int .i64 rd, .int .i64 r1, .int .i64 q, .int .i64 im]] w fun e w' => e = .returned (.tuple #[.int .u32 0, .bool false]) ∧ Below w.heap.size w w')) :
    Calls Try.prog 8 #[.agg #[.string s, .int .i64 rd, .int .i64 r1, .int .i64 r2, .int .i64 im], .int .i64 reg] w fun e w' => e = .returned (.bool true) ∧ Below w.heap.size w w' := by
  have B0 : Below w.heap.size w (w.alloc (.cells #[.string s, .int .i64 rd, .int .i64 r1, .int .i64 r2, .int .i64 im] 23)) := below_alloc _ _
  have K0 : At (w.alloc (.cells #[.string s, .int .i64 rd, .int .i64 r1, .int .i64 r2, .int .i64 im] 23)) w.heap.size #[.string s, .int .i64 rd, .int .i64 r1, .int .i64 r2, .int .i64 im] 23 := At.new _ _ _
  go_enter Try.func8, Try.ntmps8
  go_upto_region 10 with (first
    | (have M1 := K1; clear u0 u1 u2 u3 u4; go_at_call 9; refine (EA.out _).mono ?_; rintro e w2 ⟨rfl, hb⟩; have B2 : Hid (Below w.heap.size w w2) := ch B1.out hb; have K2 : Hid (At w2 w.heap.size #[.string s, .int .i64 rd, .int .i64 r1, .int .i64 r2, .int .i64 im] 23) := (K1.out).below hb (K1.out).lt; have u0 := K2.out.cell 0; have u1 := K2.out.cell 1; have u2 := K2.out.cell 2; have u3 := K2.out.cell 3; have u4 := K2.out.cell 4; simp at u0 u1 u2 u3 u4; clear hb)
    | (go_at_call 9; refine (EE.out _).mono ?_; rintro e w1 ⟨rfl, hb⟩; have B1 : Hid (Below w.heap.size w w1) := ch B0 hb; have K1 : Hid (At w1 w.heap.size #[.string s, .int .i64 rd, .int .i64 r1, .int .i64 r2, .int .i64 im] 23) := (K0).below hb (K0).lt; have u0 := K1.out.cell 0; have u1 := K1.out.cell 1; have u2 := K1.out.cell 2; have u3 := K1.out.cell 3; have u4 := K1.out.cell 4; simp at u0 u1 u2 u3 u4; clear hb))
  have KI4 : Hid (At (w2.alloc (.cells #[.string s, .int .i64 q, .int .i64 r1, .int .i64 r2, .int .i64 im] 23)) w.heap.size #[.string s, .int .i64 rd, .int .i64 r1, .int .i64 r2, .int .i64 im] 23) := K2.out.below (below_alloc _ _) K2.out.lt
  have KB4 : Hid (At (w2.alloc (.cells #[.string s, .int .i64 q, .int .i64 r1, .int .i64 r2, .int .i64 im] 23)) w2.heap.size #[.string s, .int .i64 q, .int .i64 r1, .int .i64 r2, .int .i64 im] 23) := At.new _ _ _
  have B4 : Hid (Below w.heap.size w (w2.alloc (.cells #[.string s, .int .i64 q, .int .i64 r1, .int .i64 r2, .int .i64 im] 23))) := ch B2.out (below_alloc _ _)
  have LT : Hid (w.heap.size < w2.heap.size) := K2.out.lt
  clear u0 u1 u2 u3 u4
  generalize w2.alloc (.cells #[.string s, .int .i64 q, .int .i64 r1, .int .i64 r2, .int .i64 im] 23) = w4 at *
  generalize w2.heap.size = b at *
  have v0 := KB4.out.cell 0; have v1 := KB4.out.cell 1; have v2 := KB4.out.cell 2; have v3 := KB4.out.cell 3; have v4 := KB4.out.cell 4
  simp at v0 v1 v2 v3 v4
  go_upto_region 13 with (go_at_call 9; refine (E1.out _).mono ?_; rintro e w5 ⟨rfl, hb⟩; have B5 : Hid (Below w.heap.size w w5) := ch B4.out hb; have KI5 : Hid (At w5 w.heap.size #[.string s, .int .i64 rd, .int .i64 r1, .int .i64 r2, .int .i64 im] 23) := KI4.out.below hb KI4.out.lt; have KB5 : Hid (At w5 b #[.string s, .int .i64 q, .int .i64 r1, .int .i64 r2, .int .i64 im] 23) := KB4.out.below hb KB4.out.lt; clear hb v0 v1 v2 v3 v4)
  refine wp_region_list ?_
  refine wpList_load_row rfl 23 (.tmp 2) rfl w.heap.size rfl 23 #[.string s, .int .i64 rd, .int .i64 r1, .int .i64 r2, .int .i64 im] (0, 0) _ KI5.out Try.underlying23 rfl (by kernel_rfl) ?_
  refine wpList_store_row rfl 23 (.tmp 9) (.tmp 47) rfl b #[.string s, .int .i64 rd, .int .i64 r1, .int .i64 r2, .int .i64 im] rfl rfl 23 _ KB5.out (by kernel_rfl) (by rfl) (by kernel_rfl) ?_
  refine wpList_nil ?_
  have k6 : At (w5.setRow b #[.string s, .int .i64 rd, .int .i64 r1, .int .i64 r2, .int .i64 im]) b #[.string s, .int .i64 rd, .int .i64 r1, .int .i64 r2, .int .i64 im] 23 := setRow_heap _ _ _ _ _ _ KB5.out
  have KB6 : Hid (At (w5.setRow b #[.string s, .int .i64 rd, .int .i64 r1, .int .i64 r2, .int .i64 im]) b #[.string s, .int .i64 rd, .int .i64 r1, .int .i64 r2, .int .i64 im] 23) := k6
  have KI6 : Hid (At (w5.setRow b #[.string s, .int .i64 rd, .int .i64 r1, .int .i64 r2, .int .i64 im]) w.heap.size #[.string s, .int .i64 rd, .int .i64 r1, .int .i64 r2, .int .i64 im] 23) := (setRow_other _ _ _ _ (by have := LT.out; omega)).trans KI5.out
  have B6 : Hid (Below w.heap.size w (w5.setRow b #[.string s, .int .i64 rd, .int .i64 r1, .int .i64 r2, .int .i64 im])) := B5.out.trans (setRow_below _ (Nat.le_of_lt LT.out))
  clear k6
  generalize w5.setRow b #[.string s, .int .i64 rd, .int .i64 r1, .int .i64 r2, .int .i64 im] = w6 at *
  have vv := KB6.out.cell 2; have ff := KB6.out.frozen 2
  simp at vv
  (try simp only [Act.put, List.getElem_toArray, List.getElem_cons_succ, List.getElem_cons_zero, List.setIfInBounds_toArray, List.set_cons_zero, List.set_cons_succ])
  go_upto_region 15 with fail
  have KB7 : Hid (At (w6.setCell ⟨b, 2, none⟩ (.int .i64 q)) b #[.string s, .int .i64 rd, .int .i64 q, .int .i64 r2, .int .i64 im] 23) := KB6.out.set (.int .i64 q)
  have KI7 : Hid (At (w6.setCell ⟨b, 2, none⟩ (.int .i64 q)) w.heap.size #[.string s, .int .i64 rd, .int .i64 r1, .int .i64 r2, .int .i64 im] 23) := (Below.heap_setCell w6 ⟨b, 2, none⟩ _ _ (by have := LT.out; show w.heap.size ≠ b; omega)).trans KI6.out
  have B7 : Hid (Below w.heap.size w (w6.setCell ⟨b, 2, none⟩ (.int .i64 q))) := B6.out.setCell (Nat.le_of_lt LT.out) _
  clear vv ff
  generalize w6.setCell ⟨b, 2, none⟩ (.int .i64 q) = w7 at *
  have v0 := KB7.out.cell 0; have v1 := KB7.out.cell 1; have v2 := KB7.out.cell 2; have v3 := KB7.out.cell 3; have v4 := KB7.out.cell 4
  simp at v0 v1 v2 v3 v4
  clear KB6 KI6 B6
  go_upto_region 18 with (go_at_call 9; refine (E2.out _).mono ?_; rintro e w8 ⟨rfl, hb⟩; have B8 : Hid (Below w.heap.size w w8) := ch B7.out hb; have KI8 : Hid (At w8 w.heap.size #[.string s, .int .i64 rd, .int .i64 r1, .int .i64 r2, .int .i64 im] 23) := KI7.out.below hb KI7.out.lt; have KB8 : Hid (At w8 b #[.string s, .int .i64 rd, .int .i64 q, .int .i64 r2, .int .i64 im] 23) := KB7.out.below hb KB7.out.lt; clear hb v0 v1 v2 v3 v4)
  refine wp_region_list ?_
  refine wpList_load_row rfl 23 (.tmp 2) rfl w.heap.size rfl 23 #[.string s, .int .i64 rd, .int .i64 r1, .int .i64 r2, .int .i64 im] (0, 0) _ KI8.out Try.underlying23 rfl (by kernel_rfl) ?_
  refine wpList_store_row rfl 23 (.tmp 9) (.tmp 63) rfl b #[.string s, .int .i64 rd, .int .i64 r1, .int .i64 r2, .int .i64 im] rfl rfl 23 _ KB8.out (by kernel_rfl) (by rfl) (by kernel_rfl) ?_
  refine wpList_nil ?_
  have k6 : At (w8.setRow b #[.string s, .int .i64 rd, .int .i64 r1, .int .i64 r2, .int .i64 im]) b #[.string s, .int .i64 rd, .int .i64 r1, .int .i64 r2, .int .i64 im] 23 := setRow_heap _ _ _ _ _ _ KB8.out
  have KB6 : Hid (At (w8.setRow b #[.string s, .int .i64 rd, .int .i64 r1, .int .i64 r2, .int .i64 im]) b #[.string s, .int .i64 rd, .int .i64 r1, .int .i64 r2, .int .i64 im] 23) := k6
  have KI6 : Hid (At (w8.setRow b #[.string s, .int .i64 rd, .int .i64 r1, .int .i64 r2, .int .i64 im]) w.heap.size #[.string s, .int .i64 rd, .int .i64 r1, .int .i64 r2, .int .i64 im] 23) := (setRow_other _ _ _ _ (by have := LT.out; omega)).trans KI8.out
  have B6 : Hid (Below w.heap.size w (w8.setRow b #[.string s, .int .i64 rd, .int .i64 r1, .int .i64 r2, .int .i64 im])) := B8.out.trans (setRow_below _ (Nat.le_of_lt LT.out))
  clear k6
  generalize w8.setRow b #[.string s, .int .i64 rd, .int .i64 r1, .int .i64 r2, .int .i64 im] = w6 at *
  have vv := KB6.out.cell 3; have ff := KB6.out.frozen 3
  simp at vv
  (try simp only [Act.put, List.getElem_toArray, List.getElem_cons_succ, List.getElem_cons_zero, List.setIfInBounds_toArray, List.set_cons_zero, List.set_cons_succ])
  go_upto_region 20 with fail
  have KB10 : Hid (At (w6.setCell ⟨b, 3, none⟩ (.int .i64 q)) b #[.string s, .int .i64 rd, .int .i64 r1, .int .i64 q, .int .i64 im] 23) := KB6.out.set (.int .i64 q)
  have KI10 : Hid (At (w6.setCell ⟨b, 3, none⟩ (.int .i64 q)) w.heap.size #[.string s, .int .i64 rd, .int .i64 r1, .int .i64 r2, .int .i64 im] 23) := (Below.heap_setCell w6 ⟨b, 3, none⟩ _ _ (by have := LT.out; show w.heap.size ≠ b; omega)).trans KI6.out
  have B10 : Hid (Below w.heap.size w (w6.setCell ⟨b, 3, none⟩ (.int .i64 q))) := B6.out.setCell (Nat.le_of_lt LT.out) _
  clear vv ff
  generalize w6.setCell ⟨b, 3, none⟩ (.int .i64 q) = w10 at *
  have v0 := KB10.out.cell 0; have v1 := KB10.out.cell 1; have v2 := KB10.out.cell 2; have v3 := KB10.out.cell 3; have v4 := KB10.out.cell 4
  simp at v0 v1 v2 v3 v4
  clear KB6 KI6 B6
  go_wp2_with (go_at_call 9; refine (E3.out _).mono ?_; rintro e w20 ⟨rfl, hb⟩; have B20 : Hid (Below w.heap.size w w20) := ch B10.out hb; clear hb v0 v1 v2 v3 v4)
  go_ret
  exact ⟨rfl, B20.out⟩

set_option maxHeartbeats 4000000 in
theorem bits_011 (s : ByteArray) (rd r1 r2 im reg q wv x2 x3 : Int) (hq : bits .and .i64 reg 31 = q) (h2 : bits .andNot .u32 (bits .xor .u32 wv x2) 1015808 = 0) (h3 : bits .andNot .u32 (bits .xor .u32 wv x3) 32505856 = 0) (w : World)
    (EE : Hid (∀ w, Calls Try.prog 9 #[.agg #[.string ⟨#[97, 100, 100]⟩, .int .i64 3, .int .i64 4, .int .i64 5, .int .i64 0]] w fun e w' => e = .returned (.tuple #[.int .u32 5374387, .bool true]) ∧ Below w.heap.size w w'))
    (EA : Hid (∀ w, Calls Try.prog 9 #[.agg #[.string s, .int .i64 rd, .int .i64 r1, .int .i64 r2, .int .i64 im]] w fun e w' => e = .returned (.tuple #[.int .u32 wv, .bool true]) ∧ Below w.heap.size w w'))
    (E1 : Hid (∀ w, Calls Try.prog 9 #[.agg #[.string s, .int .i64 q, .int .i64 r1, .int .i64 r2, .int .i64 im]] w fun e w' => e = .returned (.tuple #[.int .u32 0, .bool false]) ∧ Below w.heap.size w w'))
    (E2 : Hid (∀ w, Calls Try.prog 9 #[.agg #[.string s, .int .i64 rd, .int .i64 q, .int .i64 r2, .int .i64 im]] w fun e w' => e = .returned (.tuple #[.int .u32 x2, .bool true]) ∧ Below w.heap.size w w'))
    (E3 : Hid (∀ w, Calls Try.prog 9 #[.agg #[.string s, .int .i64 rd, .int .i64 r1, .int .i64 q, .int .i64 im]] w fun e w' => e = .returned (.tuple #[.int .u32 x3, .bool true]) ∧ Below w.heap.size w w')) :
    Calls Try.prog 8 #[.agg #[.string s, .int .i64 rd, .int .i64 r1, .int .i64 r2, .int .i64 im], .int .i64 reg] w fun e w' => e = .returned (.bool true) ∧ Below w.heap.size w w' := by
  have B0 : Below w.heap.size w (w.alloc (.cells #[.string s, .int .i64 rd, .int .i64 r1, .int .i64 r2, .int .i64 im] 23)) := below_alloc _ _
  have K0 : At (w.alloc (.cells #[.string s, .int .i64 rd, .int .i64 r1, .int .i64 r2, .int .i64 im] 23)) w.heap.size #[.string s, .int .i64 rd, .int .i64 r1, .int .i64 r2, .int .i64 im] 23 := At.new _ _ _
  go_enter Try.func8, Try.ntmps8
  go_upto_region 10 with (first
    | (have M1 := K1; clear u0 u1 u2 u3 u4; go_at_call 9; refine (EA.out _).mono ?_; rintro e w2 ⟨rfl, hb⟩; have B2 : Hid (Below w.heap.size w w2) := ch B1.out hb; have K2 : Hid (At w2 w.heap.size #[.string s, .int .i64 rd, .int .i64 r1, .int .i64 r2, .int .i64 im] 23) := (K1.out).below hb (K1.out).lt; have u0 := K2.out.cell 0; have u1 := K2.out.cell 1; have u2 := K2.out.cell 2; have u3 := K2.out.cell 3; have u4 := K2.out.cell 4; simp at u0 u1 u2 u3 u4; clear hb)
    | (go_at_call 9; refine (EE.out _).mono ?_; rintro e w1 ⟨rfl, hb⟩; have B1 : Hid (Below w.heap.size w w1) := ch B0 hb; have K1 : Hid (At w1 w.heap.size #[.string s, .int .i64 rd, .int .i64 r1, .int .i64 r2, .int .i64 im] 23) := (K0).below hb (K0).lt; have u0 := K1.out.cell 0; have u1 := K1.out.cell 1; have u2 := K1.out.cell 2; have u3 := K1.out.cell 3; have u4 := K1.out.cell 4; simp at u0 u1 u2 u3 u4; clear hb))
  have KI4 : Hid (At (w2.alloc (.cells #[.string s, .int .i64 q, .int .i64 r1, .int .i64 r2, .int .i64 im] 23)) w.heap.size #[.string s, .int .i64 rd, .int .i64 r1, .int .i64 r2, .int .i64 im] 23) := K2.out.below (below_alloc _ _) K2.out.lt
  have KB4 : Hid (At (w2.alloc (.cells #[.string s, .int .i64 q, .int .i64 r1, .int .i64 r2, .int .i64 im] 23)) w2.heap.size #[.string s, .int .i64 q, .int .i64 r1, .int .i64 r2, .int .i64 im] 23) := At.new _ _ _
  have B4 : Hid (Below w.heap.size w (w2.alloc (.cells #[.string s, .int .i64 q, .int .i64 r1, .int .i64 r2, .int .i64 im] 23))) := ch B2.out (below_alloc _ _)
  have LT : Hid (w.heap.size < w2.heap.size) := K2.out.lt
  clear u0 u1 u2 u3 u4
  generalize w2.alloc (.cells #[.string s, .int .i64 q, .int .i64 r1, .int .i64 r2, .int .i64 im] 23) = w4 at *
  generalize w2.heap.size = b at *
  have v0 := KB4.out.cell 0; have v1 := KB4.out.cell 1; have v2 := KB4.out.cell 2; have v3 := KB4.out.cell 3; have v4 := KB4.out.cell 4
  simp at v0 v1 v2 v3 v4
  go_upto_region 13 with (go_at_call 9; refine (E1.out _).mono ?_; rintro e w5 ⟨rfl, hb⟩; have B5 : Hid (Below w.heap.size w w5) := ch B4.out hb; have KI5 : Hid (At w5 w.heap.size #[.string s, .int .i64 rd, .int .i64 r1, .int .i64 r2, .int .i64 im] 23) := KI4.out.below hb KI4.out.lt; have KB5 : Hid (At w5 b #[.string s, .int .i64 q, .int .i64 r1, .int .i64 r2, .int .i64 im] 23) := KB4.out.below hb KB4.out.lt; clear hb v0 v1 v2 v3 v4)
  refine wp_region_list ?_
  refine wpList_load_row rfl 23 (.tmp 2) rfl w.heap.size rfl 23 #[.string s, .int .i64 rd, .int .i64 r1, .int .i64 r2, .int .i64 im] (0, 0) _ KI5.out Try.underlying23 rfl (by kernel_rfl) ?_
  refine wpList_store_row rfl 23 (.tmp 9) (.tmp 47) rfl b #[.string s, .int .i64 rd, .int .i64 r1, .int .i64 r2, .int .i64 im] rfl rfl 23 _ KB5.out (by kernel_rfl) (by rfl) (by kernel_rfl) ?_
  refine wpList_nil ?_
  have k6 : At (w5.setRow b #[.string s, .int .i64 rd, .int .i64 r1, .int .i64 r2, .int .i64 im]) b #[.string s, .int .i64 rd, .int .i64 r1, .int .i64 r2, .int .i64 im] 23 := setRow_heap _ _ _ _ _ _ KB5.out
  have KB6 : Hid (At (w5.setRow b #[.string s, .int .i64 rd, .int .i64 r1, .int .i64 r2, .int .i64 im]) b #[.string s, .int .i64 rd, .int .i64 r1, .int .i64 r2, .int .i64 im] 23) := k6
  have KI6 : Hid (At (w5.setRow b #[.string s, .int .i64 rd, .int .i64 r1, .int .i64 r2, .int .i64 im]) w.heap.size #[.string s, .int .i64 rd, .int .i64 r1, .int .i64 r2, .int .i64 im] 23) := (setRow_other _ _ _ _ (by have := LT.out; omega)).trans KI5.out
  have B6 : Hid (Below w.heap.size w (w5.setRow b #[.string s, .int .i64 rd, .int .i64 r1, .int .i64 r2, .int .i64 im])) := B5.out.trans (setRow_below _ (Nat.le_of_lt LT.out))
  clear k6
  generalize w5.setRow b #[.string s, .int .i64 rd, .int .i64 r1, .int .i64 r2, .int .i64 im] = w6 at *
  have vv := KB6.out.cell 2; have ff := KB6.out.frozen 2
  simp at vv
  (try simp only [Act.put, List.getElem_toArray, List.getElem_cons_succ, List.getElem_cons_zero, List.setIfInBounds_toArray, List.set_cons_zero, List.set_cons_succ])
  go_upto_region 15 with fail
  have KB7 : Hid (At (w6.setCell ⟨b, 2, none⟩ (.int .i64 q)) b #[.string s, .int .i64 rd, .int .i64 q, .int .i64 r2, .int .i64 im] 23) := KB6.out.set (.int .i64 q)
  have KI7 : Hid (At (w6.setCell ⟨b, 2, none⟩ (.int .i64 q)) w.heap.size #[.string s, .int .i64 rd, .int .i64 r1, .int .i64 r2, .int .i64 im] 23) := (Below.heap_setCell w6 ⟨b, 2, none⟩ _ _ (by have := LT.out; show w.heap.size ≠ b; omega)).trans KI6.out
  have B7 : Hid (Below w.heap.size w (w6.setCell ⟨b, 2, none⟩ (.int .i64 q))) := B6.out.setCell (Nat.le_of_lt LT.out) _
  clear vv ff
  generalize w6.setCell ⟨b, 2, none⟩ (.int .i64 q) = w7 at *
  have v0 := KB7.out.cell 0; have v1 := KB7.out.cell 1; have v2 := KB7.out.cell 2; have v3 := KB7.out.cell 3; have v4 := KB7.out.cell 4
  simp at v0 v1 v2 v3 v4
  clear KB6 KI6 B6
  go_upto_region 18 with (go_at_call 9; refine (E2.out _).mono ?_; rintro e w8 ⟨rfl, hb⟩; have B8 : Hid (Below w.heap.size w w8) := ch B7.out hb; have KI8 : Hid (At w8 w.heap.size #[.string s, .int .i64 rd, .int .i64 r1, .int .i64 r2, .int .i64 im] 23) := KI7.out.below hb KI7.out.lt; have KB8 : Hid (At w8 b #[.string s, .int .i64 rd, .int .i64 q, .int .i64 r2, .int .i64 im] 23) := KB7.out.below hb KB7.out.lt; clear hb v0 v1 v2 v3 v4)
  refine wp_region_list ?_
  refine wpList_load_row rfl 23 (.tmp 2) rfl w.heap.size rfl 23 #[.string s, .int .i64 rd, .int .i64 r1, .int .i64 r2, .int .i64 im] (0, 0) _ KI8.out Try.underlying23 rfl (by kernel_rfl) ?_
  refine wpList_store_row rfl 23 (.tmp 9) (.tmp 63) rfl b #[.string s, .int .i64 rd, .int .i64 r1, .int .i64 r2, .int .i64 im] rfl rfl 23 _ KB8.out (by kernel_rfl) (by rfl) (by kernel_rfl) ?_
  refine wpList_nil ?_
  have k6 : At (w8.setRow b #[.string s, .int .i64 rd, .int .i64 r1, .int .i64 r2, .int .i64 im]) b #[.string s, .int .i64 rd, .int .i64 r1, .int .i64 r2, .int .i64 im] 23 := setRow_heap _ _ _ _ _ _ KB8.out
  have KB6 : Hid (At (w8.setRow b #[.string s, .int .i64 rd, .int .i64 r1, .int .i64 r2, .int .i64 im]) b #[.string s, .int .i64 rd, .int .i64 r1, .int .i64 r2, .int .i64 im] 23) := k6
  have KI6 : Hid (At (w8.setRow b #[.string s, .int .i64 rd, .int .i64 r1, .int .i64 r2, .int .i64 im]) w.heap.size #[.string s, .int .i64 rd, .int .i64 r1, .int .i64 r2, .int .i64 im] 23) := (setRow_other _ _ _ _ (by have := LT.out; omega)).trans KI8.out
  have B6 : Hid (Below w.heap.size w (w8.setRow b #[.string s, .int .i64 rd, .int .i64 r1, .int .i64 r2, .int .i64 im])) := B8.out.trans (setRow_below _ (Nat.le_of_lt LT.out))
  clear k6
  generalize w8.setRow b #[.string s, .int .i64 rd, .int .i64 r1, .int .i64 r2, .int .i64 im] = w6 at *
  have vv := KB6.out.cell 3; have ff := KB6.out.frozen 3
  simp at vv
  (try simp only [Act.put, List.getElem_toArray, List.getElem_cons_succ, List.getElem_cons_zero, List.setIfInBounds_toArray, List.set_cons_zero, List.set_cons_succ])
  go_upto_region 20 with fail
  have KB10 : Hid (At (w6.setCell ⟨b, 3, none⟩ (.int .i64 q)) b #[.string s, .int .i64 rd, .int .i64 r1, .int .i64 q, .int .i64 im] 23) := KB6.out.set (.int .i64 q)
  have KI10 : Hid (At (w6.setCell ⟨b, 3, none⟩ (.int .i64 q)) w.heap.size #[.string s, .int .i64 rd, .int .i64 r1, .int .i64 r2, .int .i64 im] 23) := (Below.heap_setCell w6 ⟨b, 3, none⟩ _ _ (by have := LT.out; show w.heap.size ≠ b; omega)).trans KI6.out
  have B10 : Hid (Below w.heap.size w (w6.setCell ⟨b, 3, none⟩ (.int .i64 q))) := B6.out.setCell (Nat.le_of_lt LT.out) _
  clear vv ff
  generalize w6.setCell ⟨b, 3, none⟩ (.int .i64 q) = w10 at *
  have v0 := KB10.out.cell 0; have v1 := KB10.out.cell 1; have v2 := KB10.out.cell 2; have v3 := KB10.out.cell 3; have v4 := KB10.out.cell 4
  simp at v0 v1 v2 v3 v4
  clear KB6 KI6 B6
  go_wp2_with (go_at_call 9; refine (E3.out _).mono ?_; rintro e w20 ⟨rfl, hb⟩; have B20 : Hid (Below w.heap.size w w20) := ch B10.out hb; clear hb v0 v1 v2 v3 v4)
  go_ret
  exact ⟨rfl, B20.out⟩

set_option maxHeartbeats 4000000 in
theorem bits_100 (s : ByteArray) (rd r1 r2 im reg q wv x1 : Int) (hq : bits .and .i64 reg 31 = q) (h1 : bits .andNot .u32 (bits .xor .u32 wv x1) 3968 = 0) (w : World)
    (EE : Hid (∀ w, Calls Try.prog 9 #[.agg #[.string ⟨#[97, 100, 100]⟩, .int .i64 3, .int .i64 4, .int .i64 5, .int .i64 0]] w fun e w' => e = .returned (.tuple #[.int .u32 5374387, .bool true]) ∧ Below w.heap.size w w'))
    (EA : Hid (∀ w, Calls Try.prog 9 #[.agg #[.string s, .int .i64 rd, .int .i64 r1, .int .i64 r2, .int .i64 im]] w fun e w' => e = .returned (.tuple #[.int .u32 wv, .bool true]) ∧ Below w.heap.size w w'))
    (E1 : Hid (∀ w, Calls Try.prog 9 #[.agg #[.string s, .int .i64 q, .int .i64 r1, .int .i64 r2, .int .i64 im]] w fun e w' => e = .returned (.tuple #[.int .u32 x1, .bool true]) ∧ Below w.heap.size w w'))
    (E2 : Hid (∀ w, Calls Try.prog 9 #[.agg #[.string s, .int .i64 rd, .int .i64 q, .int .i64 r2, .int .i64 im]] w fun e w' => e = .returned (.tuple #[.int .u32 0, .bool false]) ∧ Below w.heap.size w w'))
    (E3 : Hid (∀ w, Calls Try.prog 9 #[.agg #[.string s, .int .i64 rd, .int .i64 r1, .int .i64 q, .int .i64 im]] w fun e w' => e = .returned (.tuple #[.int .u32 0, .bool false]) ∧ Below w.heap.size w w')) :
    Calls Try.prog 8 #[.agg #[.string s, .int .i64 rd, .int .i64 r1, .int .i64 r2, .int .i64 im], .int .i64 reg] w fun e w' => e = .returned (.bool true) ∧ Below w.heap.size w w' := by
  have B0 : Below w.heap.size w (w.alloc (.cells #[.string s, .int .i64 rd, .int .i64 r1, .int .i64 r2, .int .i64 im] 23)) := below_alloc _ _
  have K0 : At (w.alloc (.cells #[.string s, .int .i64 rd, .int .i64 r1, .int .i64 r2, .int .i64 im] 23)) w.heap.size #[.string s, .int .i64 rd, .int .i64 r1, .int .i64 r2, .int .i64 im] 23 := At.new _ _ _
  go_enter Try.func8, Try.ntmps8
  go_upto_region 10 with (first
    | (have M1 := K1; clear u0 u1 u2 u3 u4; go_at_call 9; refine (EA.out _).mono ?_; rintro e w2 ⟨rfl, hb⟩; have B2 : Hid (Below w.heap.size w w2) := ch B1.out hb; have K2 : Hid (At w2 w.heap.size #[.string s, .int .i64 rd, .int .i64 r1, .int .i64 r2, .int .i64 im] 23) := (K1.out).below hb (K1.out).lt; have u0 := K2.out.cell 0; have u1 := K2.out.cell 1; have u2 := K2.out.cell 2; have u3 := K2.out.cell 3; have u4 := K2.out.cell 4; simp at u0 u1 u2 u3 u4; clear hb)
    | (go_at_call 9; refine (EE.out _).mono ?_; rintro e w1 ⟨rfl, hb⟩; have B1 : Hid (Below w.heap.size w w1) := ch B0 hb; have K1 : Hid (At w1 w.heap.size #[.string s, .int .i64 rd, .int .i64 r1, .int .i64 r2, .int .i64 im] 23) := (K0).below hb (K0).lt; have u0 := K1.out.cell 0; have u1 := K1.out.cell 1; have u2 := K1.out.cell 2; have u3 := K1.out.cell 3; have u4 := K1.out.cell 4; simp at u0 u1 u2 u3 u4; clear hb))
  have KI4 : Hid (At (w2.alloc (.cells #[.string s, .int .i64 q, .int .i64 r1, .int .i64 r2, .int .i64 im] 23)) w.heap.size #[.string s, .int .i64 rd, .int .i64 r1, .int .i64 r2, .int .i64 im] 23) := K2.out.below (below_alloc _ _) K2.out.lt
  have KB4 : Hid (At (w2.alloc (.cells #[.string s, .int .i64 q, .int .i64 r1, .int .i64 r2, .int .i64 im] 23)) w2.heap.size #[.string s, .int .i64 q, .int .i64 r1, .int .i64 r2, .int .i64 im] 23) := At.new _ _ _
  have B4 : Hid (Below w.heap.size w (w2.alloc (.cells #[.string s, .int .i64 q, .int .i64 r1, .int .i64 r2, .int .i64 im] 23))) := ch B2.out (below_alloc _ _)
  have LT : Hid (w.heap.size < w2.heap.size) := K2.out.lt
  clear u0 u1 u2 u3 u4
  generalize w2.alloc (.cells #[.string s, .int .i64 q, .int .i64 r1, .int .i64 r2, .int .i64 im] 23) = w4 at *
  generalize w2.heap.size = b at *
  have v0 := KB4.out.cell 0; have v1 := KB4.out.cell 1; have v2 := KB4.out.cell 2; have v3 := KB4.out.cell 3; have v4 := KB4.out.cell 4
  simp at v0 v1 v2 v3 v4
  go_upto_region 13 with (go_at_call 9; refine (E1.out _).mono ?_; rintro e w5 ⟨rfl, hb⟩; have B5 : Hid (Below w.heap.size w w5) := ch B4.out hb; have KI5 : Hid (At w5 w.heap.size #[.string s, .int .i64 rd, .int .i64 r1, .int .i64 r2, .int .i64 im] 23) := KI4.out.below hb KI4.out.lt; have KB5 : Hid (At w5 b #[.string s, .int .i64 q, .int .i64 r1, .int .i64 r2, .int .i64 im] 23) := KB4.out.below hb KB4.out.lt; clear hb v0 v1 v2 v3 v4)
  refine wp_region_list ?_
  refine wpList_load_row rfl 23 (.tmp 2) rfl w.heap.size rfl 23 #[.string s, .int .i64 rd, .int .i64 r1, .int .i64 r2, .int .i64 im] (0, 0) _ KI5.out Try.underlying23 rfl (by kernel_rfl) ?_
  refine wpList_store_row rfl 23 (.tmp 9) (.tmp 47) rfl b #[.string s, .int .i64 rd, .int .i64 r1, .int .i64 r2, .int .i64 im] rfl rfl 23 _ KB5.out (by kernel_rfl) (by rfl) (by kernel_rfl) ?_
  refine wpList_nil ?_
  have k6 : At (w5.setRow b #[.string s, .int .i64 rd, .int .i64 r1, .int .i64 r2, .int .i64 im]) b #[.string s, .int .i64 rd, .int .i64 r1, .int .i64 r2, .int .i64 im] 23 := setRow_heap _ _ _ _ _ _ KB5.out
  have KB6 : Hid (At (w5.setRow b #[.string s, .int .i64 rd, .int .i64 r1, .int .i64 r2, .int .i64 im]) b #[.string s, .int .i64 rd, .int .i64 r1, .int .i64 r2, .int .i64 im] 23) := k6
  have KI6 : Hid (At (w5.setRow b #[.string s, .int .i64 rd, .int .i64 r1, .int .i64 r2, .int .i64 im]) w.heap.size #[.string s, .int .i64 rd, .int .i64 r1, .int .i64 r2, .int .i64 im] 23) := (setRow_other _ _ _ _ (by have := LT.out; omega)).trans KI5.out
  have B6 : Hid (Below w.heap.size w (w5.setRow b #[.string s, .int .i64 rd, .int .i64 r1, .int .i64 r2, .int .i64 im])) := B5.out.trans (setRow_below _ (Nat.le_of_lt LT.out))
  clear k6
  generalize w5.setRow b #[.string s, .int .i64 rd, .int .i64 r1, .int .i64 r2, .int .i64 im] = w6 at *
  have vv := KB6.out.cell 2; have ff := KB6.out.frozen 2
  simp at vv
  (try simp only [Act.put, List.getElem_toArray, List.getElem_cons_succ, List.getElem_cons_zero, List.setIfInBounds_toArray, List.set_cons_zero, List.set_cons_succ])
  go_upto_region 15 with fail
  have KB7 : Hid (At (w6.setCell ⟨b, 2, none⟩ (.int .i64 q)) b #[.string s, .int .i64 rd, .int .i64 q, .int .i64 r2, .int .i64 im] 23) := KB6.out.set (.int .i64 q)
  have KI7 : Hid (At (w6.setCell ⟨b, 2, none⟩ (.int .i64 q)) w.heap.size #[.string s, .int .i64 rd, .int .i64 r1, .int .i64 r2, .int .i64 im] 23) := (Below.heap_setCell w6 ⟨b, 2, none⟩ _ _ (by have := LT.out; show w.heap.size ≠ b; omega)).trans KI6.out
  have B7 : Hid (Below w.heap.size w (w6.setCell ⟨b, 2, none⟩ (.int .i64 q))) := B6.out.setCell (Nat.le_of_lt LT.out) _
  clear vv ff
  generalize w6.setCell ⟨b, 2, none⟩ (.int .i64 q) = w7 at *
  have v0 := KB7.out.cell 0; have v1 := KB7.out.cell 1; have v2 := KB7.out.cell 2; have v3 := KB7.out.cell 3; have v4 := KB7.out.cell 4
  simp at v0 v1 v2 v3 v4
  clear KB6 KI6 B6
  go_upto_region 18 with (go_at_call 9; refine (E2.out _).mono ?_; rintro e w8 ⟨rfl, hb⟩; have B8 : Hid (Below w.heap.size w w8) := ch B7.out hb; have KI8 : Hid (At w8 w.heap.size #[.string s, .int .i64 rd, .int .i64 r1, .int .i64 r2, .int .i64 im] 23) := KI7.out.below hb KI7.out.lt; have KB8 : Hid (At w8 b #[.string s, .int .i64 rd, .int .i64 q, .int .i64 r2, .int .i64 im] 23) := KB7.out.below hb KB7.out.lt; clear hb v0 v1 v2 v3 v4)
  refine wp_region_list ?_
  refine wpList_load_row rfl 23 (.tmp 2) rfl w.heap.size rfl 23 #[.string s, .int .i64 rd, .int .i64 r1, .int .i64 r2, .int .i64 im] (0, 0) _ KI8.out Try.underlying23 rfl (by kernel_rfl) ?_
  refine wpList_store_row rfl 23 (.tmp 9) (.tmp 63) rfl b #[.string s, .int .i64 rd, .int .i64 r1, .int .i64 r2, .int .i64 im] rfl rfl 23 _ KB8.out (by kernel_rfl) (by rfl) (by kernel_rfl) ?_
  refine wpList_nil ?_
  have k6 : At (w8.setRow b #[.string s, .int .i64 rd, .int .i64 r1, .int .i64 r2, .int .i64 im]) b #[.string s, .int .i64 rd, .int .i64 r1, .int .i64 r2, .int .i64 im] 23 := setRow_heap _ _ _ _ _ _ KB8.out
  have KB6 : Hid (At (w8.setRow b #[.string s, .int .i64 rd, .int .i64 r1, .int .i64 r2, .int .i64 im]) b #[.string s, .int .i64 rd, .int .i64 r1, .int .i64 r2, .int .i64 im] 23) := k6
  have KI6 : Hid (At (w8.setRow b #[.string s, .int .i64 rd, .int .i64 r1, .int .i64 r2, .int .i64 im]) w.heap.size #[.string s, .int .i64 rd, .int .i64 r1, .int .i64 r2, .int .i64 im] 23) := (setRow_other _ _ _ _ (by have := LT.out; omega)).trans KI8.out
  have B6 : Hid (Below w.heap.size w (w8.setRow b #[.string s, .int .i64 rd, .int .i64 r1, .int .i64 r2, .int .i64 im])) := B8.out.trans (setRow_below _ (Nat.le_of_lt LT.out))
  clear k6
  generalize w8.setRow b #[.string s, .int .i64 rd, .int .i64 r1, .int .i64 r2, .int .i64 im] = w6 at *
  have vv := KB6.out.cell 3; have ff := KB6.out.frozen 3
  simp at vv
  (try simp only [Act.put, List.getElem_toArray, List.getElem_cons_succ, List.getElem_cons_zero, List.setIfInBounds_toArray, List.set_cons_zero, List.set_cons_succ])
  go_upto_region 20 with fail
  have KB10 : Hid (At (w6.setCell ⟨b, 3, none⟩ (.int .i64 q)) b #[.string s, .int .i64 rd, .int .i64 r1, .int .i64 q, .int .i64 im] 23) := KB6.out.set (.int .i64 q)
  have KI10 : Hid (At (w6.setCell ⟨b, 3, none⟩ (.int .i64 q)) w.heap.size #[.string s, .int .i64 rd, .int .i64 r1, .int .i64 r2, .int .i64 im] 23) := (Below.heap_setCell w6 ⟨b, 3, none⟩ _ _ (by have := LT.out; show w.heap.size ≠ b; omega)).trans KI6.out
  have B10 : Hid (Below w.heap.size w (w6.setCell ⟨b, 3, none⟩ (.int .i64 q))) := B6.out.setCell (Nat.le_of_lt LT.out) _
  clear vv ff
  generalize w6.setCell ⟨b, 3, none⟩ (.int .i64 q) = w10 at *
  have v0 := KB10.out.cell 0; have v1 := KB10.out.cell 1; have v2 := KB10.out.cell 2; have v3 := KB10.out.cell 3; have v4 := KB10.out.cell 4
  simp at v0 v1 v2 v3 v4
  clear KB6 KI6 B6
  go_wp2_with (go_at_call 9; refine (E3.out _).mono ?_; rintro e w20 ⟨rfl, hb⟩; have B20 : Hid (Below w.heap.size w w20) := ch B10.out hb; clear hb v0 v1 v2 v3 v4)
  go_ret
  exact ⟨rfl, B20.out⟩

set_option maxHeartbeats 4000000 in
theorem bits_101 (s : ByteArray) (rd r1 r2 im reg q wv x1 x3 : Int) (hq : bits .and .i64 reg 31 = q) (h1 : bits .andNot .u32 (bits .xor .u32 wv x1) 3968 = 0) (h3 : bits .andNot .u32 (bits .xor .u32 wv x3) 32505856 = 0) (w : World)
    (EE : Hid (∀ w, Calls Try.prog 9 #[.agg #[.string ⟨#[97, 100, 100]⟩, .int .i64 3, .int .i64 4, .int .i64 5, .int .i64 0]] w fun e w' => e = .returned (.tuple #[.int .u32 5374387, .bool true]) ∧ Below w.heap.size w w'))
    (EA : Hid (∀ w, Calls Try.prog 9 #[.agg #[.string s, .int .i64 rd, .int .i64 r1, .int .i64 r2, .int .i64 im]] w fun e w' => e = .returned (.tuple #[.int .u32 wv, .bool true]) ∧ Below w.heap.size w w'))
    (E1 : Hid (∀ w, Calls Try.prog 9 #[.agg #[.string s, .int .i64 q, .int .i64 r1, .int .i64 r2, .int .i64 im]] w fun e w' => e = .returned (.tuple #[.int .u32 x1, .bool true]) ∧ Below w.heap.size w w'))
    (E2 : Hid (∀ w, Calls Try.prog 9 #[.agg #[.string s, .int .i64 rd, .int .i64 q, .int .i64 r2, .int .i64 im]] w fun e w' => e = .returned (.tuple #[.int .u32 0, .bool false]) ∧ Below w.heap.size w w'))
    (E3 : Hid (∀ w, Calls Try.prog 9 #[.agg #[.string s, .int .i64 rd, .int .i64 r1, .int .i64 q, .int .i64 im]] w fun e w' => e = .returned (.tuple #[.int .u32 x3, .bool true]) ∧ Below w.heap.size w w')) :
    Calls Try.prog 8 #[.agg #[.string s, .int .i64 rd, .int .i64 r1, .int .i64 r2, .int .i64 im], .int .i64 reg] w fun e w' => e = .returned (.bool true) ∧ Below w.heap.size w w' := by
  have B0 : Below w.heap.size w (w.alloc (.cells #[.string s, .int .i64 rd, .int .i64 r1, .int .i64 r2, .int .i64 im] 23)) := below_alloc _ _
  have K0 : At (w.alloc (.cells #[.string s, .int .i64 rd, .int .i64 r1, .int .i64 r2, .int .i64 im] 23)) w.heap.size #[.string s, .int .i64 rd, .int .i64 r1, .int .i64 r2, .int .i64 im] 23 := At.new _ _ _
  go_enter Try.func8, Try.ntmps8
  go_upto_region 10 with (first
    | (have M1 := K1; clear u0 u1 u2 u3 u4; go_at_call 9; refine (EA.out _).mono ?_; rintro e w2 ⟨rfl, hb⟩; have B2 : Hid (Below w.heap.size w w2) := ch B1.out hb; have K2 : Hid (At w2 w.heap.size #[.string s, .int .i64 rd, .int .i64 r1, .int .i64 r2, .int .i64 im] 23) := (K1.out).below hb (K1.out).lt; have u0 := K2.out.cell 0; have u1 := K2.out.cell 1; have u2 := K2.out.cell 2; have u3 := K2.out.cell 3; have u4 := K2.out.cell 4; simp at u0 u1 u2 u3 u4; clear hb)
    | (go_at_call 9; refine (EE.out _).mono ?_; rintro e w1 ⟨rfl, hb⟩; have B1 : Hid (Below w.heap.size w w1) := ch B0 hb; have K1 : Hid (At w1 w.heap.size #[.string s, .int .i64 rd, .int .i64 r1, .int .i64 r2, .int .i64 im] 23) := (K0).below hb (K0).lt; have u0 := K1.out.cell 0; have u1 := K1.out.cell 1; have u2 := K1.out.cell 2; have u3 := K1.out.cell 3; have u4 := K1.out.cell 4; simp at u0 u1 u2 u3 u4; clear hb))
  have KI4 : Hid (At (w2.alloc (.cells #[.string s, .int .i64 q, .int .i64 r1, .int .i64 r2, .int .i64 im] 23)) w.heap.size #[.string s, .int .i64 rd, .int .i64 r1, .int .i64 r2, .int .i64 im] 23) := K2.out.below (below_alloc _ _) K2.out.lt
  have KB4 : Hid (At (w2.alloc (.cells #[.string s, .int .i64 q, .int .i64 r1, .int .i64 r2, .int .i64 im] 23)) w2.heap.size #[.string s, .int .i64 q, .int .i64 r1, .int .i64 r2, .int .i64 im] 23) := At.new _ _ _
  have B4 : Hid (Below w.heap.size w (w2.alloc (.cells #[.string s, .int .i64 q, .int .i64 r1, .int .i64 r2, .int .i64 im] 23))) := ch B2.out (below_alloc _ _)
  have LT : Hid (w.heap.size < w2.heap.size) := K2.out.lt
  clear u0 u1 u2 u3 u4
  generalize w2.alloc (.cells #[.string s, .int .i64 q, .int .i64 r1, .int .i64 r2, .int .i64 im] 23) = w4 at *
  generalize w2.heap.size = b at *
  have v0 := KB4.out.cell 0; have v1 := KB4.out.cell 1; have v2 := KB4.out.cell 2; have v3 := KB4.out.cell 3; have v4 := KB4.out.cell 4
  simp at v0 v1 v2 v3 v4
  go_upto_region 13 with (go_at_call 9; refine (E1.out _).mono ?_; rintro e w5 ⟨rfl, hb⟩; have B5 : Hid (Below w.heap.size w w5) := ch B4.out hb; have KI5 : Hid (At w5 w.heap.size #[.string s, .int .i64 rd, .int .i64 r1, .int .i64 r2, .int .i64 im] 23) := KI4.out.below hb KI4.out.lt; have KB5 : Hid (At w5 b #[.string s, .int .i64 q, .int .i64 r1, .int .i64 r2, .int .i64 im] 23) := KB4.out.below hb KB4.out.lt; clear hb v0 v1 v2 v3 v4)
  refine wp_region_list ?_
  refine wpList_load_row rfl 23 (.tmp 2) rfl w.heap.size rfl 23 #[.string s, .int .i64 rd, .int .i64 r1, .int .i64 r2, .int .i64 im] (0, 0) _ KI5.out Try.underlying23 rfl (by kernel_rfl) ?_
  refine wpList_store_row rfl 23 (.tmp 9) (.tmp 47) rfl b #[.string s, .int .i64 rd, .int .i64 r1, .int .i64 r2, .int .i64 im] rfl rfl 23 _ KB5.out (by kernel_rfl) (by rfl) (by kernel_rfl) ?_
  refine wpList_nil ?_
  have k6 : At (w5.setRow b #[.string s, .int .i64 rd, .int .i64 r1, .int .i64 r2, .int .i64 im]) b #[.string s, .int .i64 rd, .int .i64 r1, .int .i64 r2, .int .i64 im] 23 := setRow_heap _ _ _ _ _ _ KB5.out
  have KB6 : Hid (At (w5.setRow b #[.string s, .int .i64 rd, .int .i64 r1, .int .i64 r2, .int .i64 im]) b #[.string s, .int .i64 rd, .int .i64 r1, .int .i64 r2, .int .i64 im] 23) := k6
  have KI6 : Hid (At (w5.setRow b #[.string s, .int .i64 rd, .int .i64 r1, .int .i64 r2, .int .i64 im]) w.heap.size #[.string s, .int .i64 rd, .int .i64 r1, .int .i64 r2, .int .i64 im] 23) := (setRow_other _ _ _ _ (by have := LT.out; omega)).trans KI5.out
  have B6 : Hid (Below w.heap.size w (w5.setRow b #[.string s, .int .i64 rd, .int .i64 r1, .int .i64 r2, .int .i64 im])) := B5.out.trans (setRow_below _ (Nat.le_of_lt LT.out))
  clear k6
  generalize w5.setRow b #[.string s, .int .i64 rd, .int .i64 r1, .int .i64 r2, .int .i64 im] = w6 at *
  have vv := KB6.out.cell 2; have ff := KB6.out.frozen 2
  simp at vv
  (try simp only [Act.put, List.getElem_toArray, List.getElem_cons_succ, List.getElem_cons_zero, List.setIfInBounds_toArray, List.set_cons_zero, List.set_cons_succ])
  go_upto_region 15 with fail
  have KB7 : Hid (At (w6.setCell ⟨b, 2, none⟩ (.int .i64 q)) b #[.string s, .int .i64 rd, .int .i64 q, .int .i64 r2, .int .i64 im] 23) := KB6.out.set (.int .i64 q)
  have KI7 : Hid (At (w6.setCell ⟨b, 2, none⟩ (.int .i64 q)) w.heap.size #[.string s, .int .i64 rd, .int .i64 r1, .int .i64 r2, .int .i64 im] 23) := (Below.heap_setCell w6 ⟨b, 2, none⟩ _ _ (by have := LT.out; show w.heap.size ≠ b; omega)).trans KI6.out
  have B7 : Hid (Below w.heap.size w (w6.setCell ⟨b, 2, none⟩ (.int .i64 q))) := B6.out.setCell (Nat.le_of_lt LT.out) _
  clear vv ff
  generalize w6.setCell ⟨b, 2, none⟩ (.int .i64 q) = w7 at *
  have v0 := KB7.out.cell 0; have v1 := KB7.out.cell 1; have v2 := KB7.out.cell 2; have v3 := KB7.out.cell 3; have v4 := KB7.out.cell 4
  simp at v0 v1 v2 v3 v4
  clear KB6 KI6 B6
  go_upto_region 18 with (go_at_call 9; refine (E2.out _).mono ?_; rintro e w8 ⟨rfl, hb⟩; have B8 : Hid (Below w.heap.size w w8) := ch B7.out hb; have KI8 : Hid (At w8 w.heap.size #[.string s, .int .i64 rd, .int .i64 r1, .int .i64 r2, .int .i64 im] 23) := KI7.out.below hb KI7.out.lt; have KB8 : Hid (At w8 b #[.string s, .int .i64 rd, .int .i64 q, .int .i64 r2, .int .i64 im] 23) := KB7.out.below hb KB7.out.lt; clear hb v0 v1 v2 v3 v4)
  refine wp_region_list ?_
  refine wpList_load_row rfl 23 (.tmp 2) rfl w.heap.size rfl 23 #[.string s, .int .i64 rd, .int .i64 r1, .int .i64 r2, .int .i64 im] (0, 0) _ KI8.out Try.underlying23 rfl (by kernel_rfl) ?_
  refine wpList_store_row rfl 23 (.tmp 9) (.tmp 63) rfl b #[.string s, .int .i64 rd, .int .i64 r1, .int .i64 r2, .int .i64 im] rfl rfl 23 _ KB8.out (by kernel_rfl) (by rfl) (by kernel_rfl) ?_
  refine wpList_nil ?_
  have k6 : At (w8.setRow b #[.string s, .int .i64 rd, .int .i64 r1, .int .i64 r2, .int .i64 im]) b #[.string s, .int .i64 rd, .int .i64 r1, .int .i64 r2, .int .i64 im] 23 := setRow_heap _ _ _ _ _ _ KB8.out
  have KB6 : Hid (At (w8.setRow b #[.string s, .int .i64 rd, .int .i64 r1, .int .i64 r2, .int .i64 im]) b #[.string s, .int .i64 rd, .int .i64 r1, .int .i64 r2, .int .i64 im] 23) := k6
  have KI6 : Hid (At (w8.setRow b #[.string s, .int .i64 rd, .int .i64 r1, .int .i64 r2, .int .i64 im]) w.heap.size #[.string s, .int .i64 rd, .int .i64 r1, .int .i64 r2, .int .i64 im] 23) := (setRow_other _ _ _ _ (by have := LT.out; omega)).trans KI8.out
  have B6 : Hid (Below w.heap.size w (w8.setRow b #[.string s, .int .i64 rd, .int .i64 r1, .int .i64 r2, .int .i64 im])) := B8.out.trans (setRow_below _ (Nat.le_of_lt LT.out))
  clear k6
  generalize w8.setRow b #[.string s, .int .i64 rd, .int .i64 r1, .int .i64 r2, .int .i64 im] = w6 at *
  have vv := KB6.out.cell 3; have ff := KB6.out.frozen 3
  simp at vv
  (try simp only [Act.put, List.getElem_toArray, List.getElem_cons_succ, List.getElem_cons_zero, List.setIfInBounds_toArray, List.set_cons_zero, List.set_cons_succ])
  go_upto_region 20 with fail
  have KB10 : Hid (At (w6.setCell ⟨b, 3, none⟩ (.int .i64 q)) b #[.string s, .int .i64 rd, .int .i64 r1, .int .i64 q, .int .i64 im] 23) := KB6.out.set (.int .i64 q)
  have KI10 : Hid (At (w6.setCell ⟨b, 3, none⟩ (.int .i64 q)) w.heap.size #[.string s, .int .i64 rd, .int .i64 r1, .int .i64 r2, .int .i64 im] 23) := (Below.heap_setCell w6 ⟨b, 3, none⟩ _ _ (by have := LT.out; show w.heap.size ≠ b; omega)).trans KI6.out
  have B10 : Hid (Below w.heap.size w (w6.setCell ⟨b, 3, none⟩ (.int .i64 q))) := B6.out.setCell (Nat.le_of_lt LT.out) _
  clear vv ff
  generalize w6.setCell ⟨b, 3, none⟩ (.int .i64 q) = w10 at *
  have v0 := KB10.out.cell 0; have v1 := KB10.out.cell 1; have v2 := KB10.out.cell 2; have v3 := KB10.out.cell 3; have v4 := KB10.out.cell 4
  simp at v0 v1 v2 v3 v4
  clear KB6 KI6 B6
  go_wp2_with (go_at_call 9; refine (E3.out _).mono ?_; rintro e w20 ⟨rfl, hb⟩; have B20 : Hid (Below w.heap.size w w20) := ch B10.out hb; clear hb v0 v1 v2 v3 v4)
  go_ret
  exact ⟨rfl, B20.out⟩

set_option maxHeartbeats 4000000 in
theorem bits_110 (s : ByteArray) (rd r1 r2 im reg q wv x1 x2 : Int) (hq : bits .and .i64 reg 31 = q) (h1 : bits .andNot .u32 (bits .xor .u32 wv x1) 3968 = 0) (h2 : bits .andNot .u32 (bits .xor .u32 wv x2) 1015808 = 0) (w : World)
    (EE : Hid (∀ w, Calls Try.prog 9 #[.agg #[.string ⟨#[97, 100, 100]⟩, .int .i64 3, .int .i64 4, .int .i64 5, .int .i64 0]] w fun e w' => e = .returned (.tuple #[.int .u32 5374387, .bool true]) ∧ Below w.heap.size w w'))
    (EA : Hid (∀ w, Calls Try.prog 9 #[.agg #[.string s, .int .i64 rd, .int .i64 r1, .int .i64 r2, .int .i64 im]] w fun e w' => e = .returned (.tuple #[.int .u32 wv, .bool true]) ∧ Below w.heap.size w w'))
    (E1 : Hid (∀ w, Calls Try.prog 9 #[.agg #[.string s, .int .i64 q, .int .i64 r1, .int .i64 r2, .int .i64 im]] w fun e w' => e = .returned (.tuple #[.int .u32 x1, .bool true]) ∧ Below w.heap.size w w'))
    (E2 : Hid (∀ w, Calls Try.prog 9 #[.agg #[.string s, .int .i64 rd, .int .i64 q, .int .i64 r2, .int .i64 im]] w fun e w' => e = .returned (.tuple #[.int .u32 x2, .bool true]) ∧ Below w.heap.size w w'))
    (E3 : Hid (∀ w, Calls Try.prog 9 #[.agg #[.string s, .int .i64 rd, .int .i64 r1, .int .i64 q, .int .i64 im]] w fun e w' => e = .returned (.tuple #[.int .u32 0, .bool false]) ∧ Below w.heap.size w w')) :
    Calls Try.prog 8 #[.agg #[.string s, .int .i64 rd, .int .i64 r1, .int .i64 r2, .int .i64 im], .int .i64 reg] w fun e w' => e = .returned (.bool true) ∧ Below w.heap.size w w' := by
  have B0 : Below w.heap.size w (w.alloc (.cells #[.string s, .int .i64 rd, .int .i64 r1, .int .i64 r2, .int .i64 im] 23)) := below_alloc _ _
  have K0 : At (w.alloc (.cells #[.string s, .int .i64 rd, .int .i64 r1, .int .i64 r2, .int .i64 im] 23)) w.heap.size #[.string s, .int .i64 rd, .int .i64 r1, .int .i64 r2, .int .i64 im] 23 := At.new _ _ _
  go_enter Try.func8, Try.ntmps8
  go_upto_region 10 with (first
    | (have M1 := K1; clear u0 u1 u2 u3 u4; go_at_call 9; refine (EA.out _).mono ?_; rintro e w2 ⟨rfl, hb⟩; have B2 : Hid (Below w.heap.size w w2) := ch B1.out hb; have K2 : Hid (At w2 w.heap.size #[.string s, .int .i64 rd, .int .i64 r1, .int .i64 r2, .int .i64 im] 23) := (K1.out).below hb (K1.out).lt; have u0 := K2.out.cell 0; have u1 := K2.out.cell 1; have u2 := K2.out.cell 2; have u3 := K2.out.cell 3; have u4 := K2.out.cell 4; simp at u0 u1 u2 u3 u4; clear hb)
    | (go_at_call 9; refine (EE.out _).mono ?_; rintro e w1 ⟨rfl, hb⟩; have B1 : Hid (Below w.heap.size w w1) := ch B0 hb; have K1 : Hid (At w1 w.heap.size #[.string s, .int .i64 rd, .int .i64 r1, .int .i64 r2, .int .i64 im] 23) := (K0).below hb (K0).lt; have u0 := K1.out.cell 0; have u1 := K1.out.cell 1; have u2 := K1.out.cell 2; have u3 := K1.out.cell 3; have u4 := K1.out.cell 4; simp at u0 u1 u2 u3 u4; clear hb))
  have KI4 : Hid (At (w2.alloc (.cells #[.string s, .int .i64 q, .int .i64 r1, .int .i64 r2, .int .i64 im] 23)) w.heap.size #[.string s, .int .i64 rd, .int .i64 r1, .int .i64 r2, .int .i64 im] 23) := K2.out.below (below_alloc _ _) K2.out.lt
  have KB4 : Hid (At (w2.alloc (.cells #[.string s, .int .i64 q, .int .i64 r1, .int .i64 r2, .int .i64 im] 23)) w2.heap.size #[.string s, .int .i64 q, .int .i64 r1, .int .i64 r2, .int .i64 im] 23) := At.new _ _ _
  have B4 : Hid (Below w.heap.size w (w2.alloc (.cells #[.string s, .int .i64 q, .int .i64 r1, .int .i64 r2, .int .i64 im] 23))) := ch B2.out (below_alloc _ _)
  have LT : Hid (w.heap.size < w2.heap.size) := K2.out.lt
  clear u0 u1 u2 u3 u4
  generalize w2.alloc (.cells #[.string s, .int .i64 q, .int .i64 r1, .int .i64 r2, .int .i64 im] 23) = w4 at *
  generalize w2.heap.size = b at *
  have v0 := KB4.out.cell 0; have v1 := KB4.out.cell 1; have v2 := KB4.out.cell 2; have v3 := KB4.out.cell 3; have v4 := KB4.out.cell 4
  simp at v0 v1 v2 v3 v4
  go_upto_region 13 with (go_at_call 9; refine (E1.out _).mono ?_; rintro e w5 ⟨rfl, hb⟩; have B5 : Hid (Below w.heap.size w w5) := ch B4.out hb; have KI5 : Hid (At w5 w.heap.size #[.string s, .int .i64 rd, .int .i64 r1, .int .i64 r2, .int .i64 im] 23) := KI4.out.below hb KI4.out.lt; have KB5 : Hid (At w5 b #[.string s, .int .i64 q, .int .i64 r1, .int .i64 r2, .int .i64 im] 23) := KB4.out.below hb KB4.out.lt; clear hb v0 v1 v2 v3 v4)
  refine wp_region_list ?_
  refine wpList_load_row rfl 23 (.tmp 2) rfl w.heap.size rfl 23 #[.string s, .int .i64 rd, .int .i64 r1, .int .i64 r2, .int .i64 im] (0, 0) _ KI5.out Try.underlying23 rfl (by kernel_rfl) ?_
  refine wpList_store_row rfl 23 (.tmp 9) (.tmp 47) rfl b #[.string s, .int .i64 rd, .int .i64 r1, .int .i64 r2, .int .i64 im] rfl rfl 23 _ KB5.out (by kernel_rfl) (by rfl) (by kernel_rfl) ?_
  refine wpList_nil ?_
  have k6 : At (w5.setRow b #[.string s, .int .i64 rd, .int .i64 r1, .int .i64 r2, .int .i64 im]) b #[.string s, .int .i64 rd, .int .i64 r1, .int .i64 r2, .int .i64 im] 23 := setRow_heap _ _ _ _ _ _ KB5.out
  have KB6 : Hid (At (w5.setRow b #[.string s, .int .i64 rd, .int .i64 r1, .int .i64 r2, .int .i64 im]) b #[.string s, .int .i64 rd, .int .i64 r1, .int .i64 r2, .int .i64 im] 23) := k6
  have KI6 : Hid (At (w5.setRow b #[.string s, .int .i64 rd, .int .i64 r1, .int .i64 r2, .int .i64 im]) w.heap.size #[.string s, .int .i64 rd, .int .i64 r1, .int .i64 r2, .int .i64 im] 23) := (setRow_other _ _ _ _ (by have := LT.out; omega)).trans KI5.out
  have B6 : Hid (Below w.heap.size w (w5.setRow b #[.string s, .int .i64 rd, .int .i64 r1, .int .i64 r2, .int .i64 im])) := B5.out.trans (setRow_below _ (Nat.le_of_lt LT.out))
  clear k6
  generalize w5.setRow b #[.string s, .int .i64 rd, .int .i64 r1, .int .i64 r2, .int .i64 im] = w6 at *
  have vv := KB6.out.cell 2; have ff := KB6.out.frozen 2
  simp at vv
  (try simp only [Act.put, List.getElem_toArray, List.getElem_cons_succ, List.getElem_cons_zero, List.setIfInBounds_toArray, List.set_cons_zero, List.set_cons_succ])
  go_upto_region 15 with fail
  have KB7 : Hid (At (w6.setCell ⟨b, 2, none⟩ (.int .i64 q)) b #[.string s, .int .i64 rd, .int .i64 q, .int .i64 r2, .int .i64 im] 23) := KB6.out.set (.int .i64 q)
  have KI7 : Hid (At (w6.setCell ⟨b, 2, none⟩ (.int .i64 q)) w.heap.size #[.string s, .int .i64 rd, .int .i64 r1, .int .i64 r2, .int .i64 im] 23) := (Below.heap_setCell w6 ⟨b, 2, none⟩ _ _ (by have := LT.out; show w.heap.size ≠ b; omega)).trans KI6.out
  have B7 : Hid (Below w.heap.size w (w6.setCell ⟨b, 2, none⟩ (.int .i64 q))) := B6.out.setCell (Nat.le_of_lt LT.out) _
  clear vv ff
  generalize w6.setCell ⟨b, 2, none⟩ (.int .i64 q) = w7 at *
  have v0 := KB7.out.cell 0; have v1 := KB7.out.cell 1; have v2 := KB7.out.cell 2; have v3 := KB7.out.cell 3; have v4 := KB7.out.cell 4
  simp at v0 v1 v2 v3 v4
  clear KB6 KI6 B6
  go_upto_region 18 with (go_at_call 9; refine (E2.out _).mono ?_; rintro e w8 ⟨rfl, hb⟩; have B8 : Hid (Below w.heap.size w w8) := ch B7.out hb; have KI8 : Hid (At w8 w.heap.size #[.string s, .int .i64 rd, .int .i64 r1, .int .i64 r2, .int .i64 im] 23) := KI7.out.below hb KI7.out.lt; have KB8 : Hid (At w8 b #[.string s, .int .i64 rd, .int .i64 q, .int .i64 r2, .int .i64 im] 23) := KB7.out.below hb KB7.out.lt; clear hb v0 v1 v2 v3 v4)
  refine wp_region_list ?_
  refine wpList_load_row rfl 23 (.tmp 2) rfl w.heap.size rfl 23 #[.string s, .int .i64 rd, .int .i64 r1, .int .i64 r2, .int .i64 im] (0, 0) _ KI8.out Try.underlying23 rfl (by kernel_rfl) ?_
  refine wpList_store_row rfl 23 (.tmp 9) (.tmp 63) rfl b #[.string s, .int .i64 rd, .int .i64 r1, .int .i64 r2, .int .i64 im] rfl rfl 23 _ KB8.out (by kernel_rfl) (by rfl) (by kernel_rfl) ?_
  refine wpList_nil ?_
  have k6 : At (w8.setRow b #[.string s, .int .i64 rd, .int .i64 r1, .int .i64 r2, .int .i64 im]) b #[.string s, .int .i64 rd, .int .i64 r1, .int .i64 r2, .int .i64 im] 23 := setRow_heap _ _ _ _ _ _ KB8.out
  have KB6 : Hid (At (w8.setRow b #[.string s, .int .i64 rd, .int .i64 r1, .int .i64 r2, .int .i64 im]) b #[.string s, .int .i64 rd, .int .i64 r1, .int .i64 r2, .int .i64 im] 23) := k6
  have KI6 : Hid (At (w8.setRow b #[.string s, .int .i64 rd, .int .i64 r1, .int .i64 r2, .int .i64 im]) w.heap.size #[.string s, .int .i64 rd, .int .i64 r1, .int .i64 r2, .int .i64 im] 23) := (setRow_other _ _ _ _ (by have := LT.out; omega)).trans KI8.out
  have B6 : Hid (Below w.heap.size w (w8.setRow b #[.string s, .int .i64 rd, .int .i64 r1, .int .i64 r2, .int .i64 im])) := B8.out.trans (setRow_below _ (Nat.le_of_lt LT.out))
  clear k6
  generalize w8.setRow b #[.string s, .int .i64 rd, .int .i64 r1, .int .i64 r2, .int .i64 im] = w6 at *
  have vv := KB6.out.cell 3; have ff := KB6.out.frozen 3
  simp at vv
  (try simp only [Act.put, List.getElem_toArray, List.getElem_cons_succ, List.getElem_cons_zero, List.setIfInBounds_toArray, List.set_cons_zero, List.set_cons_succ])
  go_upto_region 20 with fail
  have KB10 : Hid (At (w6.setCell ⟨b, 3, none⟩ (.int .i64 q)) b #[.string s, .int .i64 rd, .int .i64 r1, .int .i64 q, .int .i64 im] 23) := KB6.out.set (.int .i64 q)
  have KI10 : Hid (At (w6.setCell ⟨b, 3, none⟩ (.int .i64 q)) w.heap.size #[.string s, .int .i64 rd, .int .i64 r1, .int .i64 r2, .int .i64 im] 23) := (Below.heap_setCell w6 ⟨b, 3, none⟩ _ _ (by have := LT.out; show w.heap.size ≠ b; omega)).trans KI6.out
  have B10 : Hid (Below w.heap.size w (w6.setCell ⟨b, 3, none⟩ (.int .i64 q))) := B6.out.setCell (Nat.le_of_lt LT.out) _
  clear vv ff
  generalize w6.setCell ⟨b, 3, none⟩ (.int .i64 q) = w10 at *
  have v0 := KB10.out.cell 0; have v1 := KB10.out.cell 1; have v2 := KB10.out.cell 2; have v3 := KB10.out.cell 3; have v4 := KB10.out.cell 4
  simp at v0 v1 v2 v3 v4
  clear KB6 KI6 B6
  go_wp2_with (go_at_call 9; refine (E3.out _).mono ?_; rintro e w20 ⟨rfl, hb⟩; have B20 : Hid (Below w.heap.size w w20) := ch B10.out hb; clear hb v0 v1 v2 v3 v4)
  go_ret
  exact ⟨rfl, B20.out⟩

set_option maxHeartbeats 4000000 in
theorem bits_111 (s : ByteArray) (rd r1 r2 im reg q wv x1 x2 x3 : Int) (hq : bits .and .i64 reg 31 = q) (h1 : bits .andNot .u32 (bits .xor .u32 wv x1) 3968 = 0) (h2 : bits .andNot .u32 (bits .xor .u32 wv x2) 1015808 = 0) (h3 : bits .andNot .u32 (bits .xor .u32 wv x3) 32505856 = 0) (w : World)
    (EE : Hid (∀ w, Calls Try.prog 9 #[.agg #[.string ⟨#[97, 100, 100]⟩, .int .i64 3, .int .i64 4, .int .i64 5, .int .i64 0]] w fun e w' => e = .returned (.tuple #[.int .u32 5374387, .bool true]) ∧ Below w.heap.size w w'))
    (EA : Hid (∀ w, Calls Try.prog 9 #[.agg #[.string s, .int .i64 rd, .int .i64 r1, .int .i64 r2, .int .i64 im]] w fun e w' => e = .returned (.tuple #[.int .u32 wv, .bool true]) ∧ Below w.heap.size w w'))
    (E1 : Hid (∀ w, Calls Try.prog 9 #[.agg #[.string s, .int .i64 q, .int .i64 r1, .int .i64 r2, .int .i64 im]] w fun e w' => e = .returned (.tuple #[.int .u32 x1, .bool true]) ∧ Below w.heap.size w w'))
    (E2 : Hid (∀ w, Calls Try.prog 9 #[.agg #[.string s, .int .i64 rd, .int .i64 q, .int .i64 r2, .int .i64 im]] w fun e w' => e = .returned (.tuple #[.int .u32 x2, .bool true]) ∧ Below w.heap.size w w'))
    (E3 : Hid (∀ w, Calls Try.prog 9 #[.agg #[.string s, .int .i64 rd, .int .i64 r1, .int .i64 q, .int .i64 im]] w fun e w' => e = .returned (.tuple #[.int .u32 x3, .bool true]) ∧ Below w.heap.size w w')) :
    Calls Try.prog 8 #[.agg #[.string s, .int .i64 rd, .int .i64 r1, .int .i64 r2, .int .i64 im], .int .i64 reg] w fun e w' => e = .returned (.bool true) ∧ Below w.heap.size w w' := by
  have B0 : Below w.heap.size w (w.alloc (.cells #[.string s, .int .i64 rd, .int .i64 r1, .int .i64 r2, .int .i64 im] 23)) := below_alloc _ _
  have K0 : At (w.alloc (.cells #[.string s, .int .i64 rd, .int .i64 r1, .int .i64 r2, .int .i64 im] 23)) w.heap.size #[.string s, .int .i64 rd, .int .i64 r1, .int .i64 r2, .int .i64 im] 23 := At.new _ _ _
  go_enter Try.func8, Try.ntmps8
  go_upto_region 10 with (first
    | (have M1 := K1; clear u0 u1 u2 u3 u4; go_at_call 9; refine (EA.out _).mono ?_; rintro e w2 ⟨rfl, hb⟩; have B2 : Hid (Below w.heap.size w w2) := ch B1.out hb; have K2 : Hid (At w2 w.heap.size #[.string s, .int .i64 rd, .int .i64 r1, .int .i64 r2, .int .i64 im] 23) := (K1.out).below hb (K1.out).lt; have u0 := K2.out.cell 0; have u1 := K2.out.cell 1; have u2 := K2.out.cell 2; have u3 := K2.out.cell 3; have u4 := K2.out.cell 4; simp at u0 u1 u2 u3 u4; clear hb)
    | (go_at_call 9; refine (EE.out _).mono ?_; rintro e w1 ⟨rfl, hb⟩; have B1 : Hid (Below w.heap.size w w1) := ch B0 hb; have K1 : Hid (At w1 w.heap.size #[.string s, .int .i64 rd, .int .i64 r1, .int .i64 r2, .int .i64 im] 23) := (K0).below hb (K0).lt; have u0 := K1.out.cell 0; have u1 := K1.out.cell 1; have u2 := K1.out.cell 2; have u3 := K1.out.cell 3; have u4 := K1.out.cell 4; simp at u0 u1 u2 u3 u4; clear hb))
  have KI4 : Hid (At (w2.alloc (.cells #[.string s, .int .i64 q, .int .i64 r1, .int .i64 r2, .int .i64 im] 23)) w.heap.size #[.string s, .int .i64 rd, .int .i64 r1, .int .i64 r2, .int .i64 im] 23) := K2.out.below (below_alloc _ _) K2.out.lt
  have KB4 : Hid (At (w2.alloc (.cells #[.string s, .int .i64 q, .int .i64 r1, .int .i64 r2, .int .i64 im] 23)) w2.heap.size #[.string s, .int .i64 q, .int .i64 r1, .int .i64 r2, .int .i64 im] 23) := At.new _ _ _
  have B4 : Hid (Below w.heap.size w (w2.alloc (.cells #[.string s, .int .i64 q, .int .i64 r1, .int .i64 r2, .int .i64 im] 23))) := ch B2.out (below_alloc _ _)
  have LT : Hid (w.heap.size < w2.heap.size) := K2.out.lt
  clear u0 u1 u2 u3 u4
  generalize w2.alloc (.cells #[.string s, .int .i64 q, .int .i64 r1, .int .i64 r2, .int .i64 im] 23) = w4 at *
  generalize w2.heap.size = b at *
  have v0 := KB4.out.cell 0; have v1 := KB4.out.cell 1; have v2 := KB4.out.cell 2; have v3 := KB4.out.cell 3; have v4 := KB4.out.cell 4
  simp at v0 v1 v2 v3 v4
  go_upto_region 13 with (go_at_call 9; refine (E1.out _).mono ?_; rintro e w5 ⟨rfl, hb⟩; have B5 : Hid (Below w.heap.size w w5) := ch B4.out hb; have KI5 : Hid (At w5 w.heap.size #[.string s, .int .i64 rd, .int .i64 r1, .int .i64 r2, .int .i64 im] 23) := KI4.out.below hb KI4.out.lt; have KB5 : Hid (At w5 b #[.string s, .int .i64 q, .int .i64 r1, .int .i64 r2, .int .i64 im] 23) := KB4.out.below hb KB4.out.lt; clear hb v0 v1 v2 v3 v4)
  refine wp_region_list ?_
  refine wpList_load_row rfl 23 (.tmp 2) rfl w.heap.size rfl 23 #[.string s, .int .i64 rd, .int .i64 r1, .int .i64 r2, .int .i64 im] (0, 0) _ KI5.out Try.underlying23 rfl (by kernel_rfl) ?_
  refine wpList_store_row rfl 23 (.tmp 9) (.tmp 47) rfl b #[.string s, .int .i64 rd, .int .i64 r1, .int .i64 r2, .int .i64 im] rfl rfl 23 _ KB5.out (by kernel_rfl) (by rfl) (by kernel_rfl) ?_
  refine wpList_nil ?_
  have k6 : At (w5.setRow b #[.string s, .int .i64 rd, .int .i64 r1, .int .i64 r2, .int .i64 im]) b #[.string s, .int .i64 rd, .int .i64 r1, .int .i64 r2, .int .i64 im] 23 := setRow_heap _ _ _ _ _ _ KB5.out
  have KB6 : Hid (At (w5.setRow b #[.string s, .int .i64 rd, .int .i64 r1, .int .i64 r2, .int .i64 im]) b #[.string s, .int .i64 rd, .int .i64 r1, .int .i64 r2, .int .i64 im] 23) := k6
  have KI6 : Hid (At (w5.setRow b #[.string s, .int .i64 rd, .int .i64 r1, .int .i64 r2, .int .i64 im]) w.heap.size #[.string s, .int .i64 rd, .int .i64 r1, .int .i64 r2, .int .i64 im] 23) := (setRow_other _ _ _ _ (by have := LT.out; omega)).trans KI5.out
  have B6 : Hid (Below w.heap.size w (w5.setRow b #[.string s, .int .i64 rd, .int .i64 r1, .int .i64 r2, .int .i64 im])) := B5.out.trans (setRow_below _ (Nat.le_of_lt LT.out))
  clear k6
  generalize w5.setRow b #[.string s, .int .i64 rd, .int .i64 r1, .int .i64 r2, .int .i64 im] = w6 at *
  have vv := KB6.out.cell 2; have ff := KB6.out.frozen 2
  simp at vv
  (try simp only [Act.put, List.getElem_toArray, List.getElem_cons_succ, List.getElem_cons_zero, List.setIfInBounds_toArray, List.set_cons_zero, List.set_cons_succ])
  go_upto_region 15 with fail
  have KB7 : Hid (At (w6.setCell ⟨b, 2, none⟩ (.int .i64 q)) b #[.string s, .int .i64 rd, .int .i64 q, .int .i64 r2, .int .i64 im] 23) := KB6.out.set (.int .i64 q)
  have KI7 : Hid (At (w6.setCell ⟨b, 2, none⟩ (.int .i64 q)) w.heap.size #[.string s, .int .i64 rd, .int .i64 r1, .int .i64 r2, .int .i64 im] 23) := (Below.heap_setCell w6 ⟨b, 2, none⟩ _ _ (by have := LT.out; show w.heap.size ≠ b; omega)).trans KI6.out
  have B7 : Hid (Below w.heap.size w (w6.setCell ⟨b, 2, none⟩ (.int .i64 q))) := B6.out.setCell (Nat.le_of_lt LT.out) _
  clear vv ff
  generalize w6.setCell ⟨b, 2, none⟩ (.int .i64 q) = w7 at *
  have v0 := KB7.out.cell 0; have v1 := KB7.out.cell 1; have v2 := KB7.out.cell 2; have v3 := KB7.out.cell 3; have v4 := KB7.out.cell 4
  simp at v0 v1 v2 v3 v4
  clear KB6 KI6 B6
  go_upto_region 18 with (go_at_call 9; refine (E2.out _).mono ?_; rintro e w8 ⟨rfl, hb⟩; have B8 : Hid (Below w.heap.size w w8) := ch B7.out hb; have KI8 : Hid (At w8 w.heap.size #[.string s, .int .i64 rd, .int .i64 r1, .int .i64 r2, .int .i64 im] 23) := KI7.out.below hb KI7.out.lt; have KB8 : Hid (At w8 b #[.string s, .int .i64 rd, .int .i64 q, .int .i64 r2, .int .i64 im] 23) := KB7.out.below hb KB7.out.lt; clear hb v0 v1 v2 v3 v4)
  refine wp_region_list ?_
  refine wpList_load_row rfl 23 (.tmp 2) rfl w.heap.size rfl 23 #[.string s, .int .i64 rd, .int .i64 r1, .int .i64 r2, .int .i64 im] (0, 0) _ KI8.out Try.underlying23 rfl (by kernel_rfl) ?_
  refine wpList_store_row rfl 23 (.tmp 9) (.tmp 63) rfl b #[.string s, .int .i64 rd, .int .i64 r1, .int .i64 r2, .int .i64 im] rfl rfl 23 _ KB8.out (by kernel_rfl) (by rfl) (by kernel_rfl) ?_
  refine wpList_nil ?_
  have k6 : At (w8.setRow b #[.string s, .int .i64 rd, .int .i64 r1, .int .i64 r2, .int .i64 im]) b #[.string s, .int .i64 rd, .int .i64 r1, .int .i64 r2, .int .i64 im] 23 := setRow_heap _ _ _ _ _ _ KB8.out
  have KB6 : Hid (At (w8.setRow b #[.string s, .int .i64 rd, .int .i64 r1, .int .i64 r2, .int .i64 im]) b #[.string s, .int .i64 rd, .int .i64 r1, .int .i64 r2, .int .i64 im] 23) := k6
  have KI6 : Hid (At (w8.setRow b #[.string s, .int .i64 rd, .int .i64 r1, .int .i64 r2, .int .i64 im]) w.heap.size #[.string s, .int .i64 rd, .int .i64 r1, .int .i64 r2, .int .i64 im] 23) := (setRow_other _ _ _ _ (by have := LT.out; omega)).trans KI8.out
  have B6 : Hid (Below w.heap.size w (w8.setRow b #[.string s, .int .i64 rd, .int .i64 r1, .int .i64 r2, .int .i64 im])) := B8.out.trans (setRow_below _ (Nat.le_of_lt LT.out))
  clear k6
  generalize w8.setRow b #[.string s, .int .i64 rd, .int .i64 r1, .int .i64 r2, .int .i64 im] = w6 at *
  have vv := KB6.out.cell 3; have ff := KB6.out.frozen 3
  simp at vv
  (try simp only [Act.put, List.getElem_toArray, List.getElem_cons_succ, List.getElem_cons_zero, List.setIfInBounds_toArray, List.set_cons_zero, List.set_cons_succ])
  go_upto_region 20 with fail
  have KB10 : Hid (At (w6.setCell ⟨b, 3, none⟩ (.int .i64 q)) b #[.string s, .int .i64 rd, .int .i64 r1, .int .i64 q, .int .i64 im] 23) := KB6.out.set (.int .i64 q)
  have KI10 : Hid (At (w6.setCell ⟨b, 3, none⟩ (.int .i64 q)) w.heap.size #[.string s, .int .i64 rd, .int .i64 r1, .int .i64 r2, .int .i64 im] 23) := (Below.heap_setCell w6 ⟨b, 3, none⟩ _ _ (by have := LT.out; show w.heap.size ≠ b; omega)).trans KI6.out
  have B10 : Hid (Below w.heap.size w (w6.setCell ⟨b, 3, none⟩ (.int .i64 q))) := B6.out.setCell (Nat.le_of_lt LT.out) _
  clear vv ff
  generalize w6.setCell ⟨b, 3, none⟩ (.int .i64 q) = w10 at *
  have v0 := KB10.out.cell 0; have v1 := KB10.out.cell 1; have v2 := KB10.out.cell 2; have v3 := KB10.out.cell 3; have v4 := KB10.out.cell 4
  simp at v0 v1 v2 v3 v4
  clear KB6 KI6 B6
  go_wp2_with (go_at_call 9; refine (E3.out _).mono ?_; rintro e w20 ⟨rfl, hb⟩; have B20 : Hid (Below w.heap.size w w20) := ch B10.out hb; clear hb v0 v1 v2 v3 v4)
  go_ret
  exact ⟨rfl, B20.out⟩

theorem bits_no (s : ByteArray) (rd r1 r2 im reg q : Int) (hq : bits .and .i64 reg 31 = q) (w : World)
    (EE : Hid (∀ w, Calls Try.prog 9 #[.agg #[.string ⟨#[97, 100, 100]⟩, .int .i64 3, .int .i64 4, .int .i64 5, .int .i64 0]] w fun e w' => e = .returned (.tuple #[.int .u32 5374387, .bool true]) ∧ Below w.heap.size w w'))
    (EA : Hid (∀ w, Calls Try.prog 9 #[.agg #[.string s, .int .i64 rd, .int .i64 r1, .int .i64 r2, .int .i64 im]] w fun e w' => e = .returned (.tuple #[.int .u32 0, .bool false]) ∧ Below w.heap.size w w')) :
    Calls Try.prog 8 #[.agg #[.string s, .int .i64 rd, .int .i64 r1, .int .i64 r2, .int .i64 im], .int .i64 reg] w fun e w' => e = .returned (.bool true) ∧ Below w.heap.size w w' := by
  have B0 : Below w.heap.size w (w.alloc (.cells #[.string s, .int .i64 rd, .int .i64 r1, .int .i64 r2, .int .i64 im] 23)) := below_alloc _ _
  have K0 : At (w.alloc (.cells #[.string s, .int .i64 rd, .int .i64 r1, .int .i64 r2, .int .i64 im] 23)) w.heap.size #[.string s, .int .i64 rd, .int .i64 r1, .int .i64 r2, .int .i64 im] 23 := At.new _ _ _
  go_enter Try.func8, Try.ntmps8
  go_wp2_with (first
    | (have M1 := K1; clear u0 u1 u2 u3 u4; go_at_call 9; refine (EA.out _).mono ?_; rintro e w2 ⟨rfl, hb⟩; have B2 : Hid (Below w.heap.size w w2) := ch B1.out hb; have K2 : Hid (At w2 w.heap.size #[.string s, .int .i64 rd, .int .i64 r1, .int .i64 r2, .int .i64 im] 23) := (K1.out).below hb (K1.out).lt; have u0 := K2.out.cell 0; have u1 := K2.out.cell 1; have u2 := K2.out.cell 2; have u3 := K2.out.cell 3; have u4 := K2.out.cell 4; simp at u0 u1 u2 u3 u4; clear hb)
    | (go_at_call 9; refine (EE.out _).mono ?_; rintro e w1 ⟨rfl, hb⟩; have B1 : Hid (Below w.heap.size w w1) := ch B0 hb; have K1 : Hid (At w1 w.heap.size #[.string s, .int .i64 rd, .int .i64 r1, .int .i64 r2, .int .i64 im] 23) := (K0).below hb (K0).lt; have u0 := K1.out.cell 0; have u1 := K1.out.cell 1; have u2 := K1.out.cell 2; have u3 := K1.out.cell 3; have u4 := K1.out.cell 4; simp at u0 u1 u2 u3 u4; clear hb))
  go_ret
  exact ⟨rfl, B2.out⟩

theorem insnBits_walk (a : InD) (cs : List Value) (reg : Int) (w : World) (ha : cs = insC a ∧ InOk a) :
    Calls Try.prog 8 #[.agg cs.toArray, .int .i64 reg] w fun e w' => e = .returned (.bool true) ∧ Below w.heap.size w w' := by
  obtain ⟨rfl, ha⟩ := ha
  obtain ⟨s, rd, r1, r2, im⟩ := a
  have EE := enc_u ⟨#[97, 100, 100]⟩ 3 4 5 0 (by show 3 ≤ maxLen; unfold maxLen; omega) add_is
  cases e0 : encF s.data.toList ⟨rd, r1, r2, im⟩ with
  | none => exact bits_no s rd r1 r2 im reg _ rfl w EE (enc_u s rd r1 r2 im ha e0)
  | some wv =>
    have EA := enc_u s rd r1 r2 im ha e0
    generalize hq : bits .and .i64 reg 31 = q
    cases e1 : encF s.data.toList ⟨q, r1, r2, im⟩ with
    | none =>
      have E1 := enc_u s q r1 r2 im ha e1
      cases e2 : encF s.data.toList ⟨rd, q, r2, im⟩ with
      | none =>
        have E2 := enc_u s rd q r2 im ha e2
        cases e3 : encF s.data.toList ⟨rd, r1, q, im⟩ with
        | none => exact bits_000 s rd r1 r2 im reg q wv hq w EE EA E1 E2 (enc_u s rd r1 q im ha e3)
        | some x3 => exact bits_001 s rd r1 r2 im reg q wv x3 hq (enc_r2 e0 e3) w EE EA E1 E2 (enc_u s rd r1 q im ha e3)
      | some x2 =>
        have E2 := enc_u s rd q r2 im ha e2
        cases e3 : encF s.data.toList ⟨rd, r1, q, im⟩ with
        | none => exact bits_010 s rd r1 r2 im reg q wv x2 hq (enc_r1 e0 e2) w EE EA E1 E2 (enc_u s rd r1 q im ha e3)
        | some x3 => exact bits_011 s rd r1 r2 im reg q wv x2 x3 hq (enc_r1 e0 e2) (enc_r2 e0 e3) w EE EA E1 E2 (enc_u s rd r1 q im ha e3)
    | some x1 =>
      have E1 := enc_u s q r1 r2 im ha e1
      cases e2 : encF s.data.toList ⟨rd, q, r2, im⟩ with
      | none =>
        have E2 := enc_u s rd q r2 im ha e2
        cases e3 : encF s.data.toList ⟨rd, r1, q, im⟩ with
        | none => exact bits_100 s rd r1 r2 im reg q wv x1 hq (enc_rd e0 e1) w EE EA E1 E2 (enc_u s rd r1 q im ha e3)
        | some x3 => exact bits_101 s rd r1 r2 im reg q wv x1 x3 hq (enc_rd e0 e1) (enc_r2 e0 e3) w EE EA E1 E2 (enc_u s rd r1 q im ha e3)
      | some x2 =>
        have E2 := enc_u s rd q r2 im ha e2
        cases e3 : encF s.data.toList ⟨rd, r1, q, im⟩ with
        | none => exact bits_110 s rd r1 r2 im reg q wv x1 x2 hq (enc_rd e0 e1) (enc_r1 e0 e2) w EE EA E1 E2 (enc_u s rd r1 q im ha e3)
        | some x3 => exact bits_111 s rd r1 r2 im reg q wv x1 x2 x3 hq (enc_rd e0 e1) (enc_r1 e0 e2) (enc_r2 e0 e3) w EE EA E1 E2 (enc_u s rd r1 q im ha e3)
end Go.Proofs.Ytiiebppcamaliaa
