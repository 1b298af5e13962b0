/-
  Proved: what the reference's word answers: the word of an instruction of a row.
-/
import Derived.Test.YtiiebppcamaliaaRsm
import Derived.Deep.Cut
import Derived.Deep.CutRange
namespace Go.Proofs.Ytiiebppcamaliaa
open Go.RowKit
set_option linter.unusedVariables false
set_option linter.unusedSimpArgs false

theorem w_al2 (w : World) (A B : Obj) : Below w.heap.size w ((w.alloc A).alloc B) := (below_alloc w A).alloc (by have := (below_alloc w A).size; omega) B
def pwT (n : Int) : Option Int :=
  match n with
  | 0 => some 1
  | 1 => some 2
  | 2 => some 4
  | 3 => some 8
  | 4 => some 16
  | 5 => some 32
  | 6 => some 64
  | 7 => some 128
  | 8 => some 256
  | 9 => some 512
  | 10 => some 1024
  | 11 => some 2048
  | 12 => some 4096
  | 13 => some 8192
  | 14 => some 16384
  | 15 => some 32768
  | 16 => some 65536
  | 17 => some 131072
  | 18 => some 262144
  | 19 => some 524288
  | 20 => some 1048576
  | 21 => some 2097152
  | 22 => some 4194304
  | 23 => some 8388608
  | 24 => some 16777216
  | 25 => some 33554432
  | 26 => some 67108864
  | 27 => some 134217728
  | 28 => some 268435456
  | 29 => some 536870912
  | 30 => some 1073741824
  | 31 => some 2147483648
  | _ => none

theorem pwT_is {p P : Int} (h : pwT p = some P) : ∃ k : Nat, p = (k : Int) ∧ P = 2 ^ k ∧ k ≤ 31 := by
  unfold pwT at h
  split at h
  · cases h; exact ⟨0, rfl, rfl, by decide⟩
  · cases h; exact ⟨1, rfl, rfl, by decide⟩
  · cases h; exact ⟨2, rfl, rfl, by decide⟩
  · cases h; exact ⟨3, rfl, rfl, by decide⟩
  · cases h; exact ⟨4, rfl, rfl, by decide⟩
  · cases h; exact ⟨5, rfl, rfl, by decide⟩
  · cases h; exact ⟨6, rfl, rfl, by decide⟩
  · cases h; exact ⟨7, rfl, rfl, by decide⟩
  · cases h; exact ⟨8, rfl, rfl, by decide⟩
  · cases h; exact ⟨9, rfl, rfl, by decide⟩
  · cases h; exact ⟨10, rfl, rfl, by decide⟩
  · cases h; exact ⟨11, rfl, rfl, by decide⟩
  · cases h; exact ⟨12, rfl, rfl, by decide⟩
  · cases h; exact ⟨13, rfl, rfl, by decide⟩
  · cases h; exact ⟨14, rfl, rfl, by decide⟩
  · cases h; exact ⟨15, rfl, rfl, by decide⟩
  · cases h; exact ⟨16, rfl, rfl, by decide⟩
  · cases h; exact ⟨17, rfl, rfl, by decide⟩
  · cases h; exact ⟨18, rfl, rfl, by decide⟩
  · cases h; exact ⟨19, rfl, rfl, by decide⟩
  · cases h; exact ⟨20, rfl, rfl, by decide⟩
  · cases h; exact ⟨21, rfl, rfl, by decide⟩
  · cases h; exact ⟨22, rfl, rfl, by decide⟩
  · cases h; exact ⟨23, rfl, rfl, by decide⟩
  · cases h; exact ⟨24, rfl, rfl, by decide⟩
  · cases h; exact ⟨25, rfl, rfl, by decide⟩
  · cases h; exact ⟨26, rfl, rfl, by decide⟩
  · cases h; exact ⟨27, rfl, rfl, by decide⟩
  · cases h; exact ⟨28, rfl, rfl, by decide⟩
  · cases h; exact ⟨29, rfl, rfl, by decide⟩
  · cases h; exact ⟨30, rfl, rfl, by decide⟩
  · cases h; exact ⟨31, rfl, rfl, by decide⟩
  · cases h
theorem rat_g (v p : Int) {P : Int} (hp : pwT p = some P) (v0 : 0 ≤ v) (v1 : v < 4294967296) (w : World) : Calls Try.prog 32 #[.int .i64 v, .int .i64 p] w fun e w' => e = .returned (.int .i64 (v * P)) ∧ w' = w := by
  obtain ⟨k, rfl, rfl, hk⟩ := pwT_is hp
  exact rat_c v k v0 v1 hk w
theorem rbt_g (n f m : Int) {F M : Int} (hF : pwT f = some F) (hM : pwT m = some M) (w : World) : Calls Try.prog 33 #[.int .i64 n, .int .i64 f, .int .i64 m] w fun e w' => e = .returned (.int .i64 (bt n F M)) ∧ w' = w := by
  obtain ⟨k, rfl, rfl, hk⟩ := pwT_is hF
  obtain ⟨j, rfl, rfl, hj⟩ := pwT_is hM
  exact rbits_c n k j hk hj w
theorem rbt_c (n : Int) (f m : Nat) (F M : Int) (hf : f ≤ 31) (hm : m ≤ 31) (eF : F = 2 ^ f) (eM : M = 2 ^ m) (w : World) : Calls Try.prog 33 #[.int .i64 n, .int .i64 f, .int .i64 m] w fun e w' => e = .returned (.int .i64 (bt n F M)) ∧ w' = w := by
  subst eF eM
  exact rbits_c n f m hf hm w

set_option maxRecDepth 20000 in
set_option maxHeartbeats 1000000 in
theorem rwo_0 (nm s : Value) (op f3 f7 rd r1 r2 im W : Int) (o : 0 ≤ op ∧ op < 128) (a : 0 ≤ f3 ∧ f3 < 8) (b : 0 ≤ f7 ∧ f7 < 128) (d : 0 ≤ rd ∧ rd ≤ 31) (e : 0 ≤ r1 ∧ r1 ≤ 31) (g : 0 ≤ r2 ∧ r2 ≤ 31) (hi : 0 ≤ im ∧ im ≤ 1048575)
    (hW : W = op + f3 * 4096 + rd * 128 + im * 4096) (w : World) :
    Calls Try.prog 21 #[.agg #[nm, .string ⟨#[85]⟩, .int .i64 op, .int .i64 f3, .int .i64 f7], .agg #[s, .int .i64 rd, .int .i64 r1, .int .i64 r2, .int .i64 im]] w fun e w' => e = .returned (.int .i64 W) ∧ Below w.heap.size w w' := by
  go_enter Try.func21, Try.ntmps21
  go_wp2
  go_quiet ((first | (go_at_call 32; exact Calls.quiet_of_same (rat_g _ _ (by rfl) (by omega) (by omega) _)) | (go_at_call 33; exact Calls.quiet_of_same (rbt_g _ _ _ (by rfl) (by rfl) _))))
  go_wp2_with (first | (go_at_call 32; refine (rat_g _ _ (by rfl) (by omega) (by omega) _).mono ?_; rintro e w1 ⟨rfl, hw⟩; rw [hw]; clear hw w1) | (go_at_call 33; refine (rbt_g _ _ _ (by rfl) (by rfl) _).mono ?_; rintro e w1 ⟨rfl, hw⟩; rw [hw]; clear hw w1))
  go_ret
  refine ⟨congrArg (fun n => Ending.returned (Value.int IntKind.i64 n)) (?_ : _ = W), ?_⟩
  · rw [hW]
    first | done | omega
  · first | exact drew_below (w_al2 _ _ _) _ | exact drew_below (drew_below (w_al2 _ _ _) _) _

set_option maxRecDepth 20000 in
set_option maxHeartbeats 1000000 in
theorem rwo_1 (nm s : Value) (op f3 f7 rd r1 r2 im W : Int) (o : 0 ≤ op ∧ op < 128) (a : 0 ≤ f3 ∧ f3 < 8) (b : 0 ≤ f7 ∧ f7 < 128) (d : 0 ≤ rd ∧ rd ≤ 31) (e : 0 ≤ r1 ∧ r1 ≤ 31) (g : 0 ≤ r2 ∧ r2 ≤ 31)
    (hW : W = op + f3 * 4096 + rd * 128 + bt im 4096 256 * 4096 + bt im 2048 2 * 1048576 + bt im 2 1024 * 2097152 + bt im 1048576 2 * 2147483648) (w : World) :
    Calls Try.prog 21 #[.agg #[nm, .string ⟨#[74]⟩, .int .i64 op, .int .i64 f3, .int .i64 f7], .agg #[s, .int .i64 rd, .int .i64 r1, .int .i64 r2, .int .i64 im]] w fun e w' => e = .returned (.int .i64 W) ∧ Below w.heap.size w w' := by
  have h0 := bt_in im 4096 256 (by decide)
  have h1 := bt_in im 2048 2 (by decide)
  have h2 := bt_in im 2 1024 (by decide)
  have h3 := bt_in im 1048576 2 (by decide)
  go_enter Try.func21, Try.ntmps21
  go_wp2
  go_quiet ((first | (go_at_call 32; exact Calls.quiet_of_same (rat_g _ _ (by rfl) (by omega) (by omega) _)) | (go_at_call 33; exact Calls.quiet_of_same (rbt_g _ _ _ (by rfl) (by rfl) _))))
  go_wp2_with (first | (go_at_call 32; refine (rat_g _ _ (by rfl) (by omega) (by omega) _).mono ?_; rintro e w1 ⟨rfl, hw⟩; rw [hw]; clear hw w1) | (go_at_call 33; refine (rbt_g _ _ _ (by rfl) (by rfl) _).mono ?_; rintro e w1 ⟨rfl, hw⟩; rw [hw]; clear hw w1))
  go_ret
  refine ⟨congrArg (fun n => Ending.returned (Value.int IntKind.i64 n)) (?_ : _ = W), ?_⟩
  · rw [hW]
    first | done | omega
  · first | exact drew_below (w_al2 _ _ _) _ | exact drew_below (drew_below (w_al2 _ _ _) _) _

set_option maxRecDepth 20000 in
set_option maxHeartbeats 1000000 in
theorem rwo_2 (nm s : Value) (op f3 f7 rd r1 r2 im W : Int) (o : 0 ≤ op ∧ op < 128) (a : 0 ≤ f3 ∧ f3 < 8) (b : 0 ≤ f7 ∧ f7 < 128) (d : 0 ≤ rd ∧ rd ≤ 31) (e : 0 ≤ r1 ∧ r1 ≤ 31) (g : 0 ≤ r2 ∧ r2 ≤ 31)
    (hW : W = op + f3 * 4096 + rd * 128 + r1 * 32768 + bt im 1 4096 * 1048576) (w : World) :
    Calls Try.prog 21 #[.agg #[nm, .string ⟨#[73]⟩, .int .i64 op, .int .i64 f3, .int .i64 f7], .agg #[s, .int .i64 rd, .int .i64 r1, .int .i64 r2, .int .i64 im]] w fun e w' => e = .returned (.int .i64 W) ∧ Below w.heap.size w w' := by
  have h0 := bt_in im 1 4096 (by decide)
  go_enter Try.func21, Try.ntmps21
  go_wp2
  go_quiet ((first | (go_at_call 32; exact Calls.quiet_of_same (rat_g _ _ (by rfl) (by omega) (by omega) _)) | (go_at_call 33; exact Calls.quiet_of_same (rbt_g _ _ _ (by rfl) (by rfl) _))))
  go_upto_region 9 with fail
  rename Nat => dn
  have X0 : Hid (At (((w.alloc (.cells #[nm, .string ⟨#[73]⟩, .int .i64 op, .int .i64 f3, .int .i64 f7] 57)).alloc (.cells #[s, .int .i64 rd, .int .i64 r1, .int .i64 r2, .int .i64 im] 23)).drewN dn) w.heap.size #[nm, .string ⟨#[73]⟩, .int .i64 op, .int .i64 f3, .int .i64 f7] 57) := ((At.new w #[nm, .string ⟨#[73]⟩, .int .i64 op, .int .i64 f3, .int .i64 f7] 57).below (below_alloc (w.alloc (.cells #[nm, .string ⟨#[73]⟩, .int .i64 op, .int .i64 f3, .int .i64 f7] 57)) (.cells #[s, .int .i64 rd, .int .i64 r1, .int .i64 r2, .int .i64 im] 23)) (At.new w #[nm, .string ⟨#[73]⟩, .int .i64 op, .int .i64 f3, .int .i64 f7] 57).lt).below (below_drewN ((w.alloc (.cells #[nm, .string ⟨#[73]⟩, .int .i64 op, .int .i64 f3, .int .i64 f7] 57)).alloc (.cells #[s, .int .i64 rd, .int .i64 r1, .int .i64 r2, .int .i64 im] 23)) dn) (Nat.lt_of_lt_of_le (At.new w #[nm, .string ⟨#[73]⟩, .int .i64 op, .int .i64 f3, .int .i64 f7] 57).lt (below_alloc (w.alloc (.cells #[nm, .string ⟨#[73]⟩, .int .i64 op, .int .i64 f3, .int .i64 f7] 57)) (.cells #[s, .int .i64 rd, .int .i64 r1, .int .i64 r2, .int .i64 im] 23)).size)
  have X1 : Hid (At (((w.alloc (.cells #[nm, .string ⟨#[73]⟩, .int .i64 op, .int .i64 f3, .int .i64 f7] 57)).alloc (.cells #[s, .int .i64 rd, .int .i64 r1, .int .i64 r2, .int .i64 im] 23)).drewN dn) (w.heap.size + 1) #[s, .int .i64 rd, .int .i64 r1, .int .i64 r2, .int .i64 im] 23) := (At.newS (w.alloc (.cells #[nm, .string ⟨#[73]⟩, .int .i64 op, .int .i64 f3, .int .i64 f7] 57)) #[s, .int .i64 rd, .int .i64 r1, .int .i64 r2, .int .i64 im] 23 (by simp)).below (below_drewN ((w.alloc (.cells #[nm, .string ⟨#[73]⟩, .int .i64 op, .int .i64 f3, .int .i64 f7] 57)).alloc (.cells #[s, .int .i64 rd, .int .i64 r1, .int .i64 r2, .int .i64 im] 23)) dn) (At.newS (w.alloc (.cells #[nm, .string ⟨#[73]⟩, .int .i64 op, .int .i64 f3, .int .i64 f7] 57)) #[s, .int .i64 rd, .int .i64 r1, .int .i64 r2, .int .i64 im] 23 (by simp)).lt
  have BD : Hid (Below w.heap.size w (((w.alloc (.cells #[nm, .string ⟨#[73]⟩, .int .i64 op, .int .i64 f3, .int .i64 f7] 57)).alloc (.cells #[s, .int .i64 rd, .int .i64 r1, .int .i64 r2, .int .i64 im] 23)).drewN dn)) := drew_below (w_al2 w _ _) dn
  generalize ((w.alloc (.cells #[nm, .string ⟨#[73]⟩, .int .i64 op, .int .i64 f3, .int .i64 f7] 57)).alloc (.cells #[s, .int .i64 rd, .int .i64 r1, .int .i64 r2, .int .i64 im] 23)).drewN dn = wd at *
  have u1 := X1.out.cell 1; have u2 := X1.out.cell 2; have u3 := X1.out.cell 3; have u4 := X1.out.cell 4; have y4 := X0.out.cell 4
  simp at u1 u2 u3 u4 y4
  go_quiet ((first | (go_at_call 32; exact Calls.quiet_of_same (rat_g _ _ (by rfl) (by omega) (by omega) _)) | (go_at_call 33; exact Calls.quiet_of_same (rbt_g _ _ _ (by rfl) (by rfl) _))))
  go_wp2
  go_ret
  refine ⟨congrArg (fun n => Ending.returned (Value.int IntKind.i64 n)) (?_ : _ = W), ?_⟩
  · rw [hW]
    first | done | omega
  · exact drew_below BD.out _

set_option maxRecDepth 20000 in
set_option maxHeartbeats 1000000 in
theorem rwo_3 (nm s : Value) (op f3 f7 rd r1 r2 im W : Int) (o : 0 ≤ op ∧ op < 128) (a : 0 ≤ f3 ∧ f3 < 8) (b : 0 ≤ f7 ∧ f7 < 128) (d : 0 ≤ rd ∧ rd ≤ 31) (e : 0 ≤ r1 ∧ r1 ≤ 31) (g : 0 ≤ r2 ∧ r2 ≤ 31) (hi : 0 ≤ im ∧ im ≤ 1048575)
    (hW : W = op + f3 * 4096 + rd * 128 + r1 * 32768 + im * 1048576 + f7 * 33554432) (w : World) :
    Calls Try.prog 21 #[.agg #[nm, .string ⟨#[115, 104, 105, 102, 116]⟩, .int .i64 op, .int .i64 f3, .int .i64 f7], .agg #[s, .int .i64 rd, .int .i64 r1, .int .i64 r2, .int .i64 im]] w fun e w' => e = .returned (.int .i64 W) ∧ Below w.heap.size w w' := by
  go_enter Try.func21, Try.ntmps21
  go_wp2
  go_quiet ((first | (go_at_call 32; exact Calls.quiet_of_same (rat_g _ _ (by rfl) (by omega) (by omega) _)) | (go_at_call 33; exact Calls.quiet_of_same (rbt_g _ _ _ (by rfl) (by rfl) _))))
  go_upto_region 11 with fail
  rename Nat => dn
  have X0 : Hid (At (((w.alloc (.cells #[nm, .string ⟨#[115, 104, 105, 102, 116]⟩, .int .i64 op, .int .i64 f3, .int .i64 f7] 57)).alloc (.cells #[s, .int .i64 rd, .int .i64 r1, .int .i64 r2, .int .i64 im] 23)).drewN dn) w.heap.size #[nm, .string ⟨#[115, 104, 105, 102, 116]⟩, .int .i64 op, .int .i64 f3, .int .i64 f7] 57) := ((At.new w #[nm, .string ⟨#[115, 104, 105, 102, 116]⟩, .int .i64 op, .int .i64 f3, .int .i64 f7] 57).below (below_alloc (w.alloc (.cells #[nm, .string ⟨#[115, 104, 105, 102, 116]⟩, .int .i64 op, .int .i64 f3, .int .i64 f7] 57)) (.cells #[s, .int .i64 rd, .int .i64 r1, .int .i64 r2, .int .i64 im] 23)) (At.new w #[nm, .string ⟨#[115, 104, 105, 102, 116]⟩, .int .i64 op, .int .i64 f3, .int .i64 f7] 57).lt).below (below_drewN ((w.alloc (.cells #[nm, .string ⟨#[115, 104, 105, 102, 116]⟩, .int .i64 op, .int .i64 f3, .int .i64 f7] 57)).alloc (.cells #[s, .int .i64 rd, .int .i64 r1, .int .i64 r2, .int .i64 im] 23)) dn) (Nat.lt_of_lt_of_le (At.new w #[nm, .string ⟨#[115, 104, 105, 102, 116]⟩, .int .i64 op, .int .i64 f3, .int .i64 f7] 57).lt (below_alloc (w.alloc (.cells #[nm, .string ⟨#[115, 104, 105, 102, 116]⟩, .int .i64 op, .int .i64 f3, .int .i64 f7] 57)) (.cells #[s, .int .i64 rd, .int .i64 r1, .int .i64 r2, .int .i64 im] 23)).size)
  have X1 : Hid (At (((w.alloc (.cells #[nm, .string ⟨#[115, 104, 105, 102, 116]⟩, .int .i64 op, .int .i64 f3, .int .i64 f7] 57)).alloc (.cells #[s, .int .i64 rd, .int .i64 r1, .int .i64 r2, .int .i64 im] 23)).drewN dn) (w.heap.size + 1) #[s, .int .i64 rd, .int .i64 r1, .int .i64 r2, .int .i64 im] 23) := (At.newS (w.alloc (.cells #[nm, .string ⟨#[115, 104, 105, 102, 116]⟩, .int .i64 op, .int .i64 f3, .int .i64 f7] 57)) #[s, .int .i64 rd, .int .i64 r1, .int .i64 r2, .int .i64 im] 23 (by simp)).below (below_drewN ((w.alloc (.cells #[nm, .string ⟨#[115, 104, 105, 102, 116]⟩, .int .i64 op, .int .i64 f3, .int .i64 f7] 57)).alloc (.cells #[s, .int .i64 rd, .int .i64 r1, .int .i64 r2, .int .i64 im] 23)) dn) (At.newS (w.alloc (.cells #[nm, .string ⟨#[115, 104, 105, 102, 116]⟩, .int .i64 op, .int .i64 f3, .int .i64 f7] 57)) #[s, .int .i64 rd, .int .i64 r1, .int .i64 r2, .int .i64 im] 23 (by simp)).lt
  have BD : Hid (Below w.heap.size w (((w.alloc (.cells #[nm, .string ⟨#[115, 104, 105, 102, 116]⟩, .int .i64 op, .int .i64 f3, .int .i64 f7] 57)).alloc (.cells #[s, .int .i64 rd, .int .i64 r1, .int .i64 r2, .int .i64 im] 23)).drewN dn)) := drew_below (w_al2 w _ _) dn
  generalize ((w.alloc (.cells #[nm, .string ⟨#[115, 104, 105, 102, 116]⟩, .int .i64 op, .int .i64 f3, .int .i64 f7] 57)).alloc (.cells #[s, .int .i64 rd, .int .i64 r1, .int .i64 r2, .int .i64 im] 23)).drewN dn = wd at *
  have u1 := X1.out.cell 1; have u2 := X1.out.cell 2; have u3 := X1.out.cell 3; have u4 := X1.out.cell 4; have y4 := X0.out.cell 4
  simp at u1 u2 u3 u4 y4
  go_quiet ((first | (go_at_call 32; exact Calls.quiet_of_same (rat_g _ _ (by rfl) (by omega) (by omega) _)) | (go_at_call 33; exact Calls.quiet_of_same (rbt_g _ _ _ (by rfl) (by rfl) _))))
  go_wp2
  go_ret
  refine ⟨congrArg (fun n => Ending.returned (Value.int IntKind.i64 n)) (?_ : _ = W), ?_⟩
  · rw [hW]
    first | done | omega
  · exact drew_below BD.out _

set_option maxRecDepth 20000 in
set_option maxHeartbeats 1000000 in
theorem rwo_4 (nm s : Value) (op f3 f7 rd r1 r2 im W : Int) (o : 0 ≤ op ∧ op < 128) (a : 0 ≤ f3 ∧ f3 < 8) (b : 0 ≤ f7 ∧ f7 < 128) (d : 0 ≤ rd ∧ rd ≤ 31) (e : 0 ≤ r1 ∧ r1 ≤ 31) (g : 0 ≤ r2 ∧ r2 ≤ 31)
    (hW : W = op + f3 * 4096 + r1 * 32768 + r2 * 1048576 + bt im 2048 2 * 128 + bt im 2 16 * 256 + bt im 32 64 * 33554432 + bt im 4096 2 * 2147483648) (w : World) :
    Calls Try.prog 21 #[.agg #[nm, .string ⟨#[66]⟩, .int .i64 op, .int .i64 f3, .int .i64 f7], .agg #[s, .int .i64 rd, .int .i64 r1, .int .i64 r2, .int .i64 im]] w fun e w' => e = .returned (.int .i64 W) ∧ Below w.heap.size w w' := by
  have h0 := bt_in im 2048 2 (by decide)
  have h1 := bt_in im 2 16 (by decide)
  have h2 := bt_in im 32 64 (by decide)
  have h3 := bt_in im 4096 2 (by decide)
  go_enter Try.func21, Try.ntmps21
  go_wp2
  go_quiet ((first | (go_at_call 32; exact Calls.quiet_of_same (rat_g _ _ (by rfl) (by omega) (by omega) _)) | (go_at_call 33; exact Calls.quiet_of_same (rbt_g _ _ _ (by rfl) (by rfl) _))))
  go_upto_region 13 with fail
  rename Nat => dn
  have X0 : Hid (At (((w.alloc (.cells #[nm, .string ⟨#[66]⟩, .int .i64 op, .int .i64 f3, .int .i64 f7] 57)).alloc (.cells #[s, .int .i64 rd, .int .i64 r1, .int .i64 r2, .int .i64 im] 23)).drewN dn) w.heap.size #[nm, .string ⟨#[66]⟩, .int .i64 op, .int .i64 f3, .int .i64 f7] 57) := ((At.new w #[nm, .string ⟨#[66]⟩, .int .i64 op, .int .i64 f3, .int .i64 f7] 57).below (below_alloc (w.alloc (.cells #[nm, .string ⟨#[66]⟩, .int .i64 op, .int .i64 f3, .int .i64 f7] 57)) (.cells #[s, .int .i64 rd, .int .i64 r1, .int .i64 r2, .int .i64 im] 23)) (At.new w #[nm, .string ⟨#[66]⟩, .int .i64 op, .int .i64 f3, .int .i64 f7] 57).lt).below (below_drewN ((w.alloc (.cells #[nm, .string ⟨#[66]⟩, .int .i64 op, .int .i64 f3, .int .i64 f7] 57)).alloc (.cells #[s, .int .i64 rd, .int .i64 r1, .int .i64 r2, .int .i64 im] 23)) dn) (Nat.lt_of_lt_of_le (At.new w #[nm, .string ⟨#[66]⟩, .int .i64 op, .int .i64 f3, .int .i64 f7] 57).lt (below_alloc (w.alloc (.cells #[nm, .string ⟨#[66]⟩, .int .i64 op, .int .i64 f3, .int .i64 f7] 57)) (.cells #[s, .int .i64 rd, .int .i64 r1, .int .i64 r2, .int .i64 im] 23)).size)
  have X1 : Hid (At (((w.alloc (.cells #[nm, .string ⟨#[66]⟩, .int .i64 op, .int .i64 f3, .int .i64 f7] 57)).alloc (.cells #[s, .int .i64 rd, .int .i64 r1, .int .i64 r2, .int .i64 im] 23)).drewN dn) (w.heap.size + 1) #[s, .int .i64 rd, .int .i64 r1, .int .i64 r2, .int .i64 im] 23) := (At.newS (w.alloc (.cells #[nm, .string ⟨#[66]⟩, .int .i64 op, .int .i64 f3, .int .i64 f7] 57)) #[s, .int .i64 rd, .int .i64 r1, .int .i64 r2, .int .i64 im] 23 (by simp)).below (below_drewN ((w.alloc (.cells #[nm, .string ⟨#[66]⟩, .int .i64 op, .int .i64 f3, .int .i64 f7] 57)).alloc (.cells #[s, .int .i64 rd, .int .i64 r1, .int .i64 r2, .int .i64 im] 23)) dn) (At.newS (w.alloc (.cells #[nm, .string ⟨#[66]⟩, .int .i64 op, .int .i64 f3, .int .i64 f7] 57)) #[s, .int .i64 rd, .int .i64 r1, .int .i64 r2, .int .i64 im] 23 (by simp)).lt
  have BD : Hid (Below w.heap.size w (((w.alloc (.cells #[nm, .string ⟨#[66]⟩, .int .i64 op, .int .i64 f3, .int .i64 f7] 57)).alloc (.cells #[s, .int .i64 rd, .int .i64 r1, .int .i64 r2, .int .i64 im] 23)).drewN dn)) := drew_below (w_al2 w _ _) dn
  generalize ((w.alloc (.cells #[nm, .string ⟨#[66]⟩, .int .i64 op, .int .i64 f3, .int .i64 f7] 57)).alloc (.cells #[s, .int .i64 rd, .int .i64 r1, .int .i64 r2, .int .i64 im] 23)).drewN dn = wd at *
  have u1 := X1.out.cell 1; have u2 := X1.out.cell 2; have u3 := X1.out.cell 3; have u4 := X1.out.cell 4; have y4 := X0.out.cell 4
  simp at u1 u2 u3 u4 y4
  go_quiet ((first | (go_at_call 32; exact Calls.quiet_of_same (rat_g _ _ (by rfl) (by omega) (by omega) _)) | (go_at_call 33; exact Calls.quiet_of_same (rbt_g _ _ _ (by rfl) (by rfl) _))))
  go_wp2
  go_ret
  refine ⟨congrArg (fun n => Ending.returned (Value.int IntKind.i64 n)) (?_ : _ = W), ?_⟩
  · rw [hW]
    first | done | omega
  · exact drew_below BD.out _

set_option maxRecDepth 20000 in
set_option maxHeartbeats 1000000 in
theorem rwo_5 (nm s : Value) (op f3 f7 rd r1 r2 im W : Int) (o : 0 ≤ op ∧ op < 128) (a : 0 ≤ f3 ∧ f3 < 8) (b : 0 ≤ f7 ∧ f7 < 128) (d : 0 ≤ rd ∧ rd ≤ 31) (e : 0 ≤ r1 ∧ r1 ≤ 31) (g : 0 ≤ r2 ∧ r2 ≤ 31)
    (hW : W = op + f3 * 4096 + r1 * 32768 + r2 * 1048576 + bt im 1 32 * 128 + bt im 32 128 * 33554432) (w : World) :
    Calls Try.prog 21 #[.agg #[nm, .string ⟨#[83]⟩, .int .i64 op, .int .i64 f3, .int .i64 f7], .agg #[s, .int .i64 rd, .int .i64 r1, .int .i64 r2, .int .i64 im]] w fun e w' => e = .returned (.int .i64 W) ∧ Below w.heap.size w w' := by
  have h0 := bt_in im 1 32 (by decide)
  have h1 := bt_in im 32 128 (by decide)
  go_enter Try.func21, Try.ntmps21
  go_wp2
  go_quiet ((first | (go_at_call 32; exact Calls.quiet_of_same (rat_g _ _ (by rfl) (by omega) (by omega) _)) | (go_at_call 33; exact Calls.quiet_of_same (rbt_g _ _ _ (by rfl) (by rfl) _))))
  go_upto_region 15 with fail
  rename Nat => dn
  have X0 : Hid (At (((w.alloc (.cells #[nm, .string ⟨#[83]⟩, .int .i64 op, .int .i64 f3, .int .i64 f7] 57)).alloc (.cells #[s, .int .i64 rd, .int .i64 r1, .int .i64 r2, .int .i64 im] 23)).drewN dn) w.heap.size #[nm, .string ⟨#[83]⟩, .int .i64 op, .int .i64 f3, .int .i64 f7] 57) := ((At.new w #[nm, .string ⟨#[83]⟩, .int .i64 op, .int .i64 f3, .int .i64 f7] 57).below (below_alloc (w.alloc (.cells #[nm, .string ⟨#[83]⟩, .int .i64 op, .int .i64 f3, .int .i64 f7] 57)) (.cells #[s, .int .i64 rd, .int .i64 r1, .int .i64 r2, .int .i64 im] 23)) (At.new w #[nm, .string ⟨#[83]⟩, .int .i64 op, .int .i64 f3, .int .i64 f7] 57).lt).below (below_drewN ((w.alloc (.cells #[nm, .string ⟨#[83]⟩, .int .i64 op, .int .i64 f3, .int .i64 f7] 57)).alloc (.cells #[s, .int .i64 rd, .int .i64 r1, .int .i64 r2, .int .i64 im] 23)) dn) (Nat.lt_of_lt_of_le (At.new w #[nm, .string ⟨#[83]⟩, .int .i64 op, .int .i64 f3, .int .i64 f7] 57).lt (below_alloc (w.alloc (.cells #[nm, .string ⟨#[83]⟩, .int .i64 op, .int .i64 f3, .int .i64 f7] 57)) (.cells #[s, .int .i64 rd, .int .i64 r1, .int .i64 r2, .int .i64 im] 23)).size)
  have X1 : Hid (At (((w.alloc (.cells #[nm, .string ⟨#[83]⟩, .int .i64 op, .int .i64 f3, .int .i64 f7] 57)).alloc (.cells #[s, .int .i64 rd, .int .i64 r1, .int .i64 r2, .int .i64 im] 23)).drewN dn) (w.heap.size + 1) #[s, .int .i64 rd, .int .i64 r1, .int .i64 r2, .int .i64 im] 23) := (At.newS (w.alloc (.cells #[nm, .string ⟨#[83]⟩, .int .i64 op, .int .i64 f3, .int .i64 f7] 57)) #[s, .int .i64 rd, .int .i64 r1, .int .i64 r2, .int .i64 im] 23 (by simp)).below (below_drewN ((w.alloc (.cells #[nm, .string ⟨#[83]⟩, .int .i64 op, .int .i64 f3, .int .i64 f7] 57)).alloc (.cells #[s, .int .i64 rd, .int .i64 r1, .int .i64 r2, .int .i64 im] 23)) dn) (At.newS (w.alloc (.cells #[nm, .string ⟨#[83]⟩, .int .i64 op, .int .i64 f3, .int .i64 f7] 57)) #[s, .int .i64 rd, .int .i64 r1, .int .i64 r2, .int .i64 im] 23 (by simp)).lt
  have BD : Hid (Below w.heap.size w (((w.alloc (.cells #[nm, .string ⟨#[83]⟩, .int .i64 op, .int .i64 f3, .int .i64 f7] 57)).alloc (.cells #[s, .int .i64 rd, .int .i64 r1, .int .i64 r2, .int .i64 im] 23)).drewN dn)) := drew_below (w_al2 w _ _) dn
  generalize ((w.alloc (.cells #[nm, .string ⟨#[83]⟩, .int .i64 op, .int .i64 f3, .int .i64 f7] 57)).alloc (.cells #[s, .int .i64 rd, .int .i64 r1, .int .i64 r2, .int .i64 im] 23)).drewN dn = wd at *
  have u1 := X1.out.cell 1; have u2 := X1.out.cell 2; have u3 := X1.out.cell 3; have u4 := X1.out.cell 4; have y4 := X0.out.cell 4
  simp at u1 u2 u3 u4 y4
  go_quiet ((first | (go_at_call 32; exact Calls.quiet_of_same (rat_g _ _ (by rfl) (by omega) (by omega) _)) | (go_at_call 33; exact Calls.quiet_of_same (rbt_g _ _ _ (by rfl) (by rfl) _))))
  go_wp2
  go_ret
  refine ⟨congrArg (fun n => Ending.returned (Value.int IntKind.i64 n)) (?_ : _ = W), ?_⟩
  · rw [hW]
    first | done | omega
  · exact drew_below BD.out _

set_option maxRecDepth 20000 in
set_option maxHeartbeats 1000000 in
theorem rwo_6 (nm s : Value) (op f3 f7 rd r1 r2 im W : Int) (o : 0 ≤ op ∧ op < 128) (a : 0 ≤ f3 ∧ f3 < 8) (b : 0 ≤ f7 ∧ f7 < 128) (d : 0 ≤ rd ∧ rd ≤ 31) (e : 0 ≤ r1 ∧ r1 ≤ 31) (g : 0 ≤ r2 ∧ r2 ≤ 31)
    (hW : W = op + f3 * 4096 + rd * 128 + r1 * 32768 + r2 * 1048576 + f7 * 33554432) (w : World) :
    Calls Try.prog 21 #[.agg #[nm, .string ⟨#[82]⟩, .int .i64 op, .int .i64 f3, .int .i64 f7], .agg #[s, .int .i64 rd, .int .i64 r1, .int .i64 r2, .int .i64 im]] w fun e w' => e = .returned (.int .i64 W) ∧ Below w.heap.size w w' := by
  go_enter Try.func21, Try.ntmps21
  go_wp2
  go_quiet ((first | (go_at_call 32; exact Calls.quiet_of_same (rat_g _ _ (by rfl) (by omega) (by omega) _)) | (go_at_call 33; exact Calls.quiet_of_same (rbt_g _ _ _ (by rfl) (by rfl) _))))
  go_upto_region 17 with fail
  rename Nat => dn
  have X0 : Hid (At (((w.alloc (.cells #[nm, .string ⟨#[82]⟩, .int .i64 op, .int .i64 f3, .int .i64 f7] 57)).alloc (.cells #[s, .int .i64 rd, .int .i64 r1, .int .i64 r2, .int .i64 im] 23)).drewN dn) w.heap.size #[nm, .string ⟨#[82]⟩, .int .i64 op, .int .i64 f3, .int .i64 f7] 57) := ((At.new w #[nm, .string ⟨#[82]⟩, .int .i64 op, .int .i64 f3, .int .i64 f7] 57).below (below_alloc (w.alloc (.cells #[nm, .string ⟨#[82]⟩, .int .i64 op, .int .i64 f3, .int .i64 f7] 57)) (.cells #[s, .int .i64 rd, .int .i64 r1, .int .i64 r2, .int .i64 im] 23)) (At.new w #[nm, .string ⟨#[82]⟩, .int .i64 op, .int .i64 f3, .int .i64 f7] 57).lt).below (below_drewN ((w.alloc (.cells #[nm, .string ⟨#[82]⟩, .int .i64 op, .int .i64 f3, .int .i64 f7] 57)).alloc (.cells #[s, .int .i64 rd, .int .i64 r1, .int .i64 r2, .int .i64 im] 23)) dn) (Nat.lt_of_lt_of_le (At.new w #[nm, .string ⟨#[82]⟩, .int .i64 op, .int .i64 f3, .int .i64 f7] 57).lt (below_alloc (w.alloc (.cells #[nm, .string ⟨#[82]⟩, .int .i64 op, .int .i64 f3, .int .i64 f7] 57)) (.cells #[s, .int .i64 rd, .int .i64 r1, .int .i64 r2, .int .i64 im] 23)).size)
  have X1 : Hid (At (((w.alloc (.cells #[nm, .string ⟨#[82]⟩, .int .i64 op, .int .i64 f3, .int .i64 f7] 57)).alloc (.cells #[s, .int .i64 rd, .int .i64 r1, .int .i64 r2, .int .i64 im] 23)).drewN dn) (w.heap.size + 1) #[s, .int .i64 rd, .int .i64 r1, .int .i64 r2, .int .i64 im] 23) := (At.newS (w.alloc (.cells #[nm, .string ⟨#[82]⟩, .int .i64 op, .int .i64 f3, .int .i64 f7] 57)) #[s, .int .i64 rd, .int .i64 r1, .int .i64 r2, .int .i64 im] 23 (by simp)).below (below_drewN ((w.alloc (.cells #[nm, .string ⟨#[82]⟩, .int .i64 op, .int .i64 f3, .int .i64 f7] 57)).alloc (.cells #[s, .int .i64 rd, .int .i64 r1, .int .i64 r2, .int .i64 im] 23)) dn) (At.newS (w.alloc (.cells #[nm, .string ⟨#[82]⟩, .int .i64 op, .int .i64 f3, .int .i64 f7] 57)) #[s, .int .i64 rd, .int .i64 r1, .int .i64 r2, .int .i64 im] 23 (by simp)).lt
  have BD : Hid (Below w.heap.size w (((w.alloc (.cells #[nm, .string ⟨#[82]⟩, .int .i64 op, .int .i64 f3, .int .i64 f7] 57)).alloc (.cells #[s, .int .i64 rd, .int .i64 r1, .int .i64 r2, .int .i64 im] 23)).drewN dn)) := drew_below (w_al2 w _ _) dn
  generalize ((w.alloc (.cells #[nm, .string ⟨#[82]⟩, .int .i64 op, .int .i64 f3, .int .i64 f7] 57)).alloc (.cells #[s, .int .i64 rd, .int .i64 r1, .int .i64 r2, .int .i64 im] 23)).drewN dn = wd at *
  have u1 := X1.out.cell 1; have u2 := X1.out.cell 2; have u3 := X1.out.cell 3; have u4 := X1.out.cell 4; have y4 := X0.out.cell 4
  simp at u1 u2 u3 u4 y4
  go_quiet ((first | (go_at_call 32; exact Calls.quiet_of_same (rat_g _ _ (by rfl) (by omega) (by omega) _)) | (go_at_call 33; exact Calls.quiet_of_same (rbt_g _ _ _ (by rfl) (by rfl) _))))
  go_wp2
  go_ret
  refine ⟨congrArg (fun n => Ending.returned (Value.int IntKind.i64 n)) (?_ : _ = W), ?_⟩
  · rw [hW]
    first | done | omega
  · exact drew_below BD.out _

end Go.Proofs.Ytiiebppcamaliaa
