/-
  Proved: what insn's takes answers: is an instruction one of a form.
-/
import Derived.Test.YtcdeckbobabdkaaIform
namespace Go.Proofs.Ytcdeckbobabdkaa
open Go.RowKit
set_option linter.unusedVariables false
set_option linter.unusedSimpArgs false

def takI (F : Fd) (i : Ins) : Bool := regB F.a i.rd && (regB F.b i.r1 && (regB F.c i.r2 && immB F.lo F.hi F.st i.im))

theorem below_al2' (w : World) (A B : Obj) : Below w.heap.size w ((w.alloc A).alloc B) := (below_alloc w A).alloc (by have := (below_alloc w A).size; omega) B

set_option maxHeartbeats 1000000 in
theorem takes_c (F : Fd) (s : Value) (i : Ins) (hst : 0 < F.st) (w : World) :
    Calls Try.prog 41 #[F.v, .agg #[s, .int .i64 i.rd, .int .i64 i.r1, .int .i64 i.r2, .int .i64 i.im]] w fun e w' => e = .returned (.bool (takI F i)) ∧ Below w.heap.size w w' := by
  obtain ⟨a, b, c, lo, hi, st, f, l⟩ := F
  obtain ⟨rd, r1, r2, im⟩ := i
  have IM : Hid (∀ w, Calls Try.prog 47 #[.agg #[.bool a, .bool b, .bool c, .int .i64 lo, .int .i64 hi, .int .i64 st, .int .i64 f, .int .i64 l], .int .i64 im] w fun e w' => e = .returned (.bool (immB lo hi st im)) ∧ Below w.heap.size w w') := fun w => takesImm_c _ _ _ lo hi st _ _ im hst w
  show Calls Try.prog 41 #[.agg #[.bool a, .bool b, .bool c, .int .i64 lo, .int .i64 hi, .int .i64 st, .int .i64 f, .int .i64 l], .agg #[s, .int .i64 rd, .int .i64 r1, .int .i64 r2, .int .i64 im]] w fun e w' => e = .returned (.bool (regB a rd && (regB b r1 && (regB c r2 && immB lo hi st im)))) ∧ Below w.heap.size w w'
  clear hst
  cases q1 : regB a rd with
  | false =>
    go_enter Try.func41, Try.ntmps41
    go_wp2_with (go_at_call 46; refine (takesRegister_c _ _ _).mono ?_; rintro e w1 ⟨rfl, hw⟩; rw [hw]; clear hw w1; rw [q1])
    go_ret
    exact ⟨rfl, below_al2' _ _ _⟩
  | true =>
    cases q2 : regB b r1 with
    | false =>
      go_enter Try.func41, Try.ntmps41
      go_wp2_with (go_at_call 46; refine (takesRegister_c _ _ _).mono ?_; rintro e w1 ⟨rfl, hw⟩; rw [hw]; clear hw w1; first | rw [q1] | rw [q2])
      go_ret
      exact ⟨rfl, below_al2' _ _ _⟩
    | true =>
      cases q3 : regB c r2 with
      | false =>
        go_enter Try.func41, Try.ntmps41
        go_wp2_with (go_at_call 46; refine (takesRegister_c _ _ _).mono ?_; rintro e w1 ⟨rfl, hw⟩; rw [hw]; clear hw w1; first | rw [q1] | rw [q2] | rw [q3])
        go_ret
        exact ⟨rfl, below_al2' _ _ _⟩
      | true =>
        go_enter Try.func41, Try.ntmps41
        go_wp2_with (first
          | (go_at_call 46; refine (takesRegister_c _ _ _).mono ?_; rintro e w1 ⟨rfl, hw⟩; rw [hw]; clear hw w1; first | rw [q1] | rw [q2] | rw [q3])
          | (go_at_call 47; refine (IM.out _).mono ?_; rintro e w2 ⟨rfl, hb⟩; have HB : Hid (Below w.heap.size w w2) := (below_al2' _ _ _).trans (hb.mono (below_al2' _ _ _).size); clear hb))
        go_ret
        exact ⟨rfl, HB.out⟩
end Go.Proofs.Ytcdeckbobabdkaa
