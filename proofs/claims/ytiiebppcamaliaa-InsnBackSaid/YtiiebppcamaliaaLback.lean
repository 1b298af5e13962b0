/-
  Proved: the law InsnBack answers true.
-/
import Derived.Test.YtiiebppcamaliaaIopen
namespace Go.Proofs.Ytiiebppcamaliaa
open Go.RowKit
set_option linter.unusedVariables false
set_option linter.unusedSimpArgs false

theorem ch {w w1 w2 : World} (h1 : Below w.heap.size w w1) (h2 : Below w1.heap.size w1 w2) : Below w.heap.size w w2 := h1.trans (h2.mono h1.size)

theorem ecall_dec : decF 115 = some ([101, 99, 97, 108, 108], ⟨0, 0, 0, 0⟩) := by kernel_rfl

theorem dec_u (x : Int) (x0 : 0 ≤ x) (x1 : x < 4294967296) {o : Option (List UInt8 × Ins)} (ho : decF x = o) : ∀ w, Calls Try.prog 11 #[.int .u32 x] w fun e w' => e = .returned (decV o) ∧ Below w.heap.size w w' := fun w => by
  have h := decode_c x x0 x1 w
  rw [ho] at h
  exact h

set_option maxHeartbeats 2000000 in
theorem back_00 (s : ByteArray) (rd r1 r2 im x : Int) (w : World)
    (EA : Hid (∀ w, Calls Try.prog 9 #[.agg #[.string s, .int .i64 rd, .int .i64 r1, .int .i64 r2, .int .i64 im]] w fun e w' => e = .returned (.tuple #[.int .u32 0, .bool false]) ∧ Below w.heap.size w w'))
    (DX : Hid (∀ w, Calls Try.prog 11 #[.int .u32 x] w fun e w' => e = .returned (.tuple #[.agg #[.string ⟨#[]⟩, .int .i64 0, .int .i64 0, .int .i64 0, .int .i64 0], .int .i64 70]) ∧ Below w.heap.size w w'))
    (LA : Hid (∀ w, Calls Try.prog 11 #[.int .u32 115] w fun e w' => e = .returned (.tuple #[.agg #[.string ⟨#[101, 99, 97, 108, 108]⟩, .int .i64 0, .int .i64 0, .int .i64 0, .int .i64 0], .int .i64 0]) ∧ Below w.heap.size w w')) :
    Calls Try.prog 5 #[.agg #[.string s, .int .i64 rd, .int .i64 r1, .int .i64 r2, .int .i64 im], .int .u32 x] w fun e w' => e = .returned (.bool true) ∧ Below w.heap.size w w' := by
  have B0 : Below w.heap.size w (w.alloc (.cells #[.string s, .int .i64 rd, .int .i64 r1, .int .i64 r2, .int .i64 im] 23)) := below_alloc _ _
  have K0 : At (w.alloc (.cells #[.string s, .int .i64 rd, .int .i64 r1, .int .i64 r2, .int .i64 im] 23)) w.heap.size #[.string s, .int .i64 rd, .int .i64 r1, .int .i64 r2, .int .i64 im] 23 := At.new _ _ _
  go_enter Try.func5, Try.ntmps5
  go_wp2_with (first
    | (have M3 := K3; go_at_call 11; refine (LA.out _).mono ?_; rintro e w4 ⟨rfl, hb⟩; have B4 : Hid (Below w.heap.size w w4) := ch B3.out hb; have B5 : Hid (Below w.heap.size w (w4.alloc (.cells #[.string ⟨#[101, 99, 97, 108, 108]⟩, .int .i64 0, .int .i64 0, .int .i64 0, .int .i64 0] 23))) := ch B4.out (below_alloc _ _); have k4 := K3.out.below hb K3.out.lt; have K4 : Hid (At (w4.alloc (.cells #[.string ⟨#[101, 99, 97, 108, 108]⟩, .int .i64 0, .int .i64 0, .int .i64 0, .int .i64 0] 23)) w3.heap.size #[.string ⟨#[]⟩, .int .i64 0, .int .i64 0, .int .i64 0, .int .i64 0] 23) := k4.below (below_alloc _ _) k4.lt; have u0 := K4.out.cell 0; have u1 := K4.out.cell 1; have u2 := K4.out.cell 2; have u3 := K4.out.cell 3; have u4 := K4.out.cell 4; simp at u0 u1 u2 u3 u4; clear hb k4)
    | (have M2 := K1; clear u0 u1 u2 u3 u4; go_at_call 11; refine (DX.out _).mono ?_; rintro e w3 ⟨rfl, hb⟩; have B3 : Hid (Below w.heap.size w (w3.alloc (.cells #[.string ⟨#[]⟩, .int .i64 0, .int .i64 0, .int .i64 0, .int .i64 0] 23))) := ch (ch B1.out hb) (below_alloc _ _); have K3 : Hid (At (w3.alloc (.cells #[.string ⟨#[]⟩, .int .i64 0, .int .i64 0, .int .i64 0, .int .i64 0] 23)) w3.heap.size #[.string ⟨#[]⟩, .int .i64 0, .int .i64 0, .int .i64 0, .int .i64 0] 23) := At.new _ _ _; clear hb)
    | (go_at_call 9; refine (EA.out _).mono ?_; rintro e w1 ⟨rfl, hb⟩; have B1 : Hid (Below w.heap.size w w1) := ch B0 hb; have K1 : Hid (At w1 w.heap.size #[.string s, .int .i64 rd, .int .i64 r1, .int .i64 r2, .int .i64 im] 23) := K0.below hb K0.lt; have u0 := K1.out.cell 0; have u1 := K1.out.cell 1; have u2 := K1.out.cell 2; have u3 := K1.out.cell 3; have u4 := K1.out.cell 4; simp at u0 u1 u2 u3 u4; clear hb))
  go_ret
  exact ⟨rfl, B5.out⟩

set_option maxHeartbeats 2000000 in
theorem back_01 (s : ByteArray) (rd r1 r2 im x : Int) (t : ByteArray) (qd q1 q2 qm : Int) (w : World)
    (EA : Hid (∀ w, Calls Try.prog 9 #[.agg #[.string s, .int .i64 rd, .int .i64 r1, .int .i64 r2, .int .i64 im]] w fun e w' => e = .returned (.tuple #[.int .u32 0, .bool false]) ∧ Below w.heap.size w w'))
    (DX : Hid (∀ w, Calls Try.prog 11 #[.int .u32 x] w fun e w' => e = .returned (.tuple #[.agg #[.string t, .int .i64 qd, .int .i64 q1, .int .i64 q2, .int .i64 qm], .int .i64 0]) ∧ Below w.heap.size w w'))
    (LA : Hid (∀ w, Calls Try.prog 9 #[.agg #[.string t, .int .i64 qd, .int .i64 q1, .int .i64 q2, .int .i64 qm]] w fun e w' => e = .returned (.tuple #[.int .u32 x, .bool true]) ∧ Below w.heap.size w w')) :
    Calls Try.prog 5 #[.agg #[.string s, .int .i64 rd, .int .i64 r1, .int .i64 r2, .int .i64 im], .int .u32 x] w fun e w' => e = .returned (.bool true) ∧ Below w.heap.size w w' := by
  have B0 : Below w.heap.size w (w.alloc (.cells #[.string s, .int .i64 rd, .int .i64 r1, .int .i64 r2, .int .i64 im] 23)) := below_alloc _ _
  have K0 : At (w.alloc (.cells #[.string s, .int .i64 rd, .int .i64 r1, .int .i64 r2, .int .i64 im] 23)) w.heap.size #[.string s, .int .i64 rd, .int .i64 r1, .int .i64 r2, .int .i64 im] 23 := At.new _ _ _
  go_enter Try.func5, Try.ntmps5
  go_wp2_with (first
    | (have M3 := K3; go_at_call 9; refine (LA.out _).mono ?_; rintro e w4 ⟨rfl, hb⟩; have B4 : Hid (Below w.heap.size w w4) := ch B3.out hb; have B5 : Hid (Below w.heap.size w (w4.alloc (.cells #[.string ⟨#[101, 99, 97, 108, 108]⟩, .int .i64 0, .int .i64 0, .int .i64 0, .int .i64 0] 23))) := ch B4.out (below_alloc _ _); have k4 := K3.out.below hb K3.out.lt; have K4 : Hid (At w4 w3.heap.size #[.string t, .int .i64 qd, .int .i64 q1, .int .i64 q2, .int .i64 qm] 23) := k4; have u0 := K4.out.cell 0; have u1 := K4.out.cell 1; have u2 := K4.out.cell 2; have u3 := K4.out.cell 3; have u4 := K4.out.cell 4; simp at u0 u1 u2 u3 u4; clear hb k4)
    | (have M2 := K1; clear u0 u1 u2 u3 u4; go_at_call 11; refine (DX.out _).mono ?_; rintro e w3 ⟨rfl, hb⟩; have B3 : Hid (Below w.heap.size w (w3.alloc (.cells #[.string t, .int .i64 qd, .int .i64 q1, .int .i64 q2, .int .i64 qm] 23))) := ch (ch B1.out hb) (below_alloc _ _); have K3 : Hid (At (w3.alloc (.cells #[.string t, .int .i64 qd, .int .i64 q1, .int .i64 q2, .int .i64 qm] 23)) w3.heap.size #[.string t, .int .i64 qd, .int .i64 q1, .int .i64 q2, .int .i64 qm] 23) := At.new _ _ _; clear hb)
    | (go_at_call 9; refine (EA.out _).mono ?_; rintro e w1 ⟨rfl, hb⟩; have B1 : Hid (Below w.heap.size w w1) := ch B0 hb; have K1 : Hid (At w1 w.heap.size #[.string s, .int .i64 rd, .int .i64 r1, .int .i64 r2, .int .i64 im] 23) := K0.below hb K0.lt; have u0 := K1.out.cell 0; have u1 := K1.out.cell 1; have u2 := K1.out.cell 2; have u3 := K1.out.cell 3; have u4 := K1.out.cell 4; simp at u0 u1 u2 u3 u4; clear hb))
  go_ret
  exact ⟨rfl, B4.out⟩

set_option maxHeartbeats 2000000 in
theorem back_10 (s : ByteArray) (rd r1 r2 im x : Int) (av : Int) (w : World)
    (EA : Hid (∀ w, Calls Try.prog 9 #[.agg #[.string s, .int .i64 rd, .int .i64 r1, .int .i64 r2, .int .i64 im]] w fun e w' => e = .returned (.tuple #[.int .u32 av, .bool true]) ∧ Below w.heap.size w w'))
    (DA : Hid (∀ w, Calls Try.prog 11 #[.int .u32 av] w fun e w' => e = .returned (.tuple #[.agg #[.string s, .int .i64 rd, .int .i64 r1, .int .i64 r2, .int .i64 im], .int .i64 0]) ∧ Below w.heap.size w w'))
    (DX : Hid (∀ w, Calls Try.prog 11 #[.int .u32 x] w fun e w' => e = .returned (.tuple #[.agg #[.string ⟨#[]⟩, .int .i64 0, .int .i64 0, .int .i64 0, .int .i64 0], .int .i64 70]) ∧ Below w.heap.size w w'))
    (LA : Hid (∀ w, Calls Try.prog 11 #[.int .u32 115] w fun e w' => e = .returned (.tuple #[.agg #[.string ⟨#[101, 99, 97, 108, 108]⟩, .int .i64 0, .int .i64 0, .int .i64 0, .int .i64 0], .int .i64 0]) ∧ Below w.heap.size w w')) :
    Calls Try.prog 5 #[.agg #[.string s, .int .i64 rd, .int .i64 r1, .int .i64 r2, .int .i64 im], .int .u32 x] w fun e w' => e = .returned (.bool true) ∧ Below w.heap.size w w' := by
  have B0 : Below w.heap.size w (w.alloc (.cells #[.string s, .int .i64 rd, .int .i64 r1, .int .i64 r2, .int .i64 im] 23)) := below_alloc _ _
  have K0 : At (w.alloc (.cells #[.string s, .int .i64 rd, .int .i64 r1, .int .i64 r2, .int .i64 im] 23)) w.heap.size #[.string s, .int .i64 rd, .int .i64 r1, .int .i64 r2, .int .i64 im] 23 := At.new _ _ _
  go_enter Try.func5, Try.ntmps5
  go_wp2_with (first
    | (have M3 := K3; go_at_call 11; refine (LA.out _).mono ?_; rintro e w4 ⟨rfl, hb⟩; have B4 : Hid (Below w.heap.size w w4) := ch B3.out hb; have B5 : Hid (Below w.heap.size w (w4.alloc (.cells #[.string ⟨#[101, 99, 97, 108, 108]⟩, .int .i64 0, .int .i64 0, .int .i64 0, .int .i64 0] 23))) := ch B4.out (below_alloc _ _); have k4 := K3.out.below hb K3.out.lt; have K4 : Hid (At (w4.alloc (.cells #[.string ⟨#[101, 99, 97, 108, 108]⟩, .int .i64 0, .int .i64 0, .int .i64 0, .int .i64 0] 23)) w3.heap.size #[.string ⟨#[]⟩, .int .i64 0, .int .i64 0, .int .i64 0, .int .i64 0] 23) := k4.below (below_alloc _ _) k4.lt; have u0 := K4.out.cell 0; have u1 := K4.out.cell 1; have u2 := K4.out.cell 2; have u3 := K4.out.cell 3; have u4 := K4.out.cell 4; simp at u0 u1 u2 u3 u4; clear hb k4)
    | (have M2 := K2; clear u0 u1 u2 u3 u4; go_at_call 11; refine (DX.out _).mono ?_; rintro e w3 ⟨rfl, hb⟩; have B3 : Hid (Below w.heap.size w (w3.alloc (.cells #[.string ⟨#[]⟩, .int .i64 0, .int .i64 0, .int .i64 0, .int .i64 0] 23))) := ch (ch B2.out hb) (below_alloc _ _); have K3 : Hid (At (w3.alloc (.cells #[.string ⟨#[]⟩, .int .i64 0, .int .i64 0, .int .i64 0, .int .i64 0] 23)) w3.heap.size #[.string ⟨#[]⟩, .int .i64 0, .int .i64 0, .int .i64 0, .int .i64 0] 23) := At.new _ _ _; clear hb)
    | (have M1 := K1; clear u0 u1 u2 u3 u4; go_at_call 11; refine (DA.out _).mono ?_; rintro e w2 ⟨rfl, hb⟩; have B2 : Hid (Below w.heap.size w (w2.alloc (.cells #[.string s, .int .i64 rd, .int .i64 r1, .int .i64 r2, .int .i64 im] 23))) := ch (ch B1.out hb) (below_alloc _ _); have k2 := K1.out.below hb K1.out.lt; have K2 : Hid (At (w2.alloc (.cells #[.string s, .int .i64 rd, .int .i64 r1, .int .i64 r2, .int .i64 im] 23)) w.heap.size #[.string s, .int .i64 rd, .int .i64 r1, .int .i64 r2, .int .i64 im] 23) := k2.below (below_alloc _ _) k2.lt; have u0 := K2.out.cell 0; have u1 := K2.out.cell 1; have u2 := K2.out.cell 2; have u3 := K2.out.cell 3; have u4 := K2.out.cell 4; simp at u0 u1 u2 u3 u4; clear hb k2)
    | (go_at_call 9; refine (EA.out _).mono ?_; rintro e w1 ⟨rfl, hb⟩; have B1 : Hid (Below w.heap.size w w1) := ch B0 hb; have K1 : Hid (At w1 w.heap.size #[.string s, .int .i64 rd, .int .i64 r1, .int .i64 r2, .int .i64 im] 23) := K0.below hb K0.lt; have u0 := K1.out.cell 0; have u1 := K1.out.cell 1; have u2 := K1.out.cell 2; have u3 := K1.out.cell 3; have u4 := K1.out.cell 4; simp at u0 u1 u2 u3 u4; clear hb))
  go_ret
  exact ⟨rfl, B5.out⟩

set_option maxHeartbeats 2000000 in
theorem back_11 (s : ByteArray) (rd r1 r2 im x : Int) (av : Int) (t : ByteArray) (qd q1 q2 qm : Int) (w : World)
    (EA : Hid (∀ w, Calls Try.prog 9 #[.agg #[.string s, .int .i64 rd, .int .i64 r1, .int .i64 r2, .int .i64 im]] w fun e w' => e = .returned (.tuple #[.int .u32 av, .bool true]) ∧ Below w.heap.size w w'))
    (DA : Hid (∀ w, Calls Try.prog 11 #[.int .u32 av] w fun e w' => e = .returned (.tuple #[.agg #[.string s, .int .i64 rd, .int .i64 r1, .int .i64 r2, .int .i64 im], .int .i64 0]) ∧ Below w.heap.size w w'))
    (DX : Hid (∀ w, Calls Try.prog 11 #[.int .u32 x] w fun e w' => e = .returned (.tuple #[.agg #[.string t, .int .i64 qd, .int .i64 q1, .int .i64 q2, .int .i64 qm], .int .i64 0]) ∧ Below w.heap.size w w'))
    (LA : Hid (∀ w, Calls Try.prog 9 #[.agg #[.string t, .int .i64 qd, .int .i64 q1, .int .i64 q2, .int .i64 qm]] w fun e w' => e = .returned (.tuple #[.int .u32 x, .bool true]) ∧ Below w.heap.size w w')) :
    Calls Try.prog 5 #[.agg #[.string s, .int .i64 rd, .int .i64 r1, .int .i64 r2, .int .i64 im], .int .u32 x] w fun e w' => e = .returned (.bool true) ∧ Below w.heap.size w w' := by
  have B0 : Below w.heap.size w (w.alloc (.cells #[.string s, .int .i64 rd, .int .i64 r1, .int .i64 r2, .int .i64 im] 23)) := below_alloc _ _
  have K0 : At (w.alloc (.cells #[.string s, .int .i64 rd, .int .i64 r1, .int .i64 r2, .int .i64 im] 23)) w.heap.size #[.string s, .int .i64 rd, .int .i64 r1, .int .i64 r2, .int .i64 im] 23 := At.new _ _ _
  go_enter Try.func5, Try.ntmps5
  go_wp2_with (first
    | (have M3 := K3; go_at_call 9; refine (LA.out _).mono ?_; rintro e w4 ⟨rfl, hb⟩; have B4 : Hid (Below w.heap.size w w4) := ch B3.out hb; have B5 : Hid (Below w.heap.size w (w4.alloc (.cells #[.string ⟨#[101, 99, 97, 108, 108]⟩, .int .i64 0, .int .i64 0, .int .i64 0, .int .i64 0] 23))) := ch B4.out (below_alloc _ _); have k4 := K3.out.below hb K3.out.lt; have K4 : Hid (At w4 w3.heap.size #[.string t, .int .i64 qd, .int .i64 q1, .int .i64 q2, .int .i64 qm] 23) := k4; have u0 := K4.out.cell 0; have u1 := K4.out.cell 1; have u2 := K4.out.cell 2; have u3 := K4.out.cell 3; have u4 := K4.out.cell 4; simp at u0 u1 u2 u3 u4; clear hb k4)
    | (have M2 := K2; clear u0 u1 u2 u3 u4; go_at_call 11; refine (DX.out _).mono ?_; rintro e w3 ⟨rfl, hb⟩; have B3 : Hid (Below w.heap.size w (w3.alloc (.cells #[.string t, .int .i64 qd, .int .i64 q1, .int .i64 q2, .int .i64 qm] 23))) := ch (ch B2.out hb) (below_alloc _ _); have K3 : Hid (At (w3.alloc (.cells #[.string t, .int .i64 qd, .int .i64 q1, .int .i64 q2, .int .i64 qm] 23)) w3.heap.size #[.string t, .int .i64 qd, .int .i64 q1, .int .i64 q2, .int .i64 qm] 23) := At.new _ _ _; clear hb)
    | (have M1 := K1; clear u0 u1 u2 u3 u4; go_at_call 11; refine (DA.out _).mono ?_; rintro e w2 ⟨rfl, hb⟩; have B2 : Hid (Below w.heap.size w (w2.alloc (.cells #[.string s, .int .i64 rd, .int .i64 r1, .int .i64 r2, .int .i64 im] 23))) := ch (ch B1.out hb) (below_alloc _ _); have k2 := K1.out.below hb K1.out.lt; have K2 : Hid (At (w2.alloc (.cells #[.string s, .int .i64 rd, .int .i64 r1, .int .i64 r2, .int .i64 im] 23)) w.heap.size #[.string s, .int .i64 rd, .int .i64 r1, .int .i64 r2, .int .i64 im] 23) := k2.below (below_alloc _ _) k2.lt; have u0 := K2.out.cell 0; have u1 := K2.out.cell 1; have u2 := K2.out.cell 2; have u3 := K2.out.cell 3; have u4 := K2.out.cell 4; simp at u0 u1 u2 u3 u4; clear hb k2)
    | (go_at_call 9; refine (EA.out _).mono ?_; rintro e w1 ⟨rfl, hb⟩; have B1 : Hid (Below w.heap.size w w1) := ch B0 hb; have K1 : Hid (At w1 w.heap.size #[.string s, .int .i64 rd, .int .i64 r1, .int .i64 r2, .int .i64 im] 23) := K0.below hb K0.lt; have u0 := K1.out.cell 0; have u1 := K1.out.cell 1; have u2 := K1.out.cell 2; have u3 := K1.out.cell 3; have u4 := K1.out.cell 4; simp at u0 u1 u2 u3 u4; clear hb))
  go_ret
  exact ⟨rfl, B4.out⟩

theorem decN {x : Int} {t : List UInt8} {i : Ins} (h : decF x = some (t, i)) : (⟨t.toArray⟩ : ByteArray).size ≤ maxLen := by
  unfold decF at h
  cases e : insT.find? fun z => fxB z.2 x with
  | none => rw [e] at h; cases h
  | some y =>
    rw [e] at h
    obtain ⟨a, ha⟩ := List.getElem?_of_mem (List.mem_of_find?_eq_some e)
    have h3 := nameS ha
    have q1 : y.1 = t := congrArg Prod.fst (Option.some.inj h)
    subst q1
    show y.1.toArray.size ≤ maxLen
    unfold maxLen
    simp
    omega

theorem insnBack_walk (a : InD) (cs : List Value) (x : Int) (w : World) (ha : cs = insC a ∧ InOk a) (hx : (Lit.int .u32 x).wf = true) :
    Calls Try.prog 5 #[.agg cs.toArray, .int .u32 x] w fun e w' => e = .returned (.bool true) ∧ Below w.heap.size w w' := by
  obtain ⟨rfl, ha⟩ := ha
  obtain ⟨s, rd, r1, r2, im⟩ := a
  obtain ⟨x0, x1⟩ : 0 ≤ x ∧ x < 4294967296 := by simp [Lit.wf, IntKind.min, IntKind.max, IntKind.signed, IntKind.bits] at hx; omega
  have DE := dec_u 115 (by decide) (by decide) ecall_dec
  cases e1 : encF s.data.toList ⟨rd, r1, r2, im⟩ with
  | none =>
    have EA := enc_u s rd r1 r2 im ha e1
    cases e2 : decF x with
    | none => exact back_00 s rd r1 r2 im x w EA (dec_u x x0 x1 e2) DE
    | some y =>
      obtain ⟨t, ⟨qd, q1, q2, qm⟩⟩ := y
      have ed := enc_dec x0 x1 e2
      exact back_01 s rd r1 r2 im x ⟨t.toArray⟩ qd q1 q2 qm w EA (dec_u x x0 x1 e2) (enc_u ⟨t.toArray⟩ qd q1 q2 qm (decN e2) ed)
  | some av =>
    have EA := enc_u s rd r1 r2 im ha e1
    obtain ⟨⟨v0, v1⟩, d1⟩ := dec_enc e1
    have DA := dec_u av v0 v1 d1
    have hs : (⟨s.data.toList.toArray⟩ : ByteArray) = s := by cases s; simp
    unfold decV at DA
    simp only [hs] at DA
    cases e2 : decF x with
    | none => exact back_10 s rd r1 r2 im x av w EA DA (dec_u x x0 x1 e2) DE
    | some y =>
      obtain ⟨t, ⟨qd, q1, q2, qm⟩⟩ := y
      have ed := enc_dec x0 x1 e2
      exact back_11 s rd r1 r2 im x av ⟨t.toArray⟩ qd q1 q2 qm w EA DA (dec_u x x0 x1 e2) (enc_u ⟨t.toArray⟩ qd q1 q2 qm (decN e2) ed)
end Go.Proofs.Ytiiebppcamaliaa
