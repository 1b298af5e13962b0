/-
  Proved: what insn's formOf, takesRegister, takesImm and takes answer.
-/
import Derived.Test.YtcdeckbobabdkaaIpart
namespace Go.Proofs.Ytcdeckbobabdkaa
open Go.RowKit
set_option linter.unusedVariables false
set_option linter.unusedSimpArgs false

/-- A form: which registers it has, its least and greatest number, their step, and which pieces tell its bits. -/
structure Fd where
  a : Bool
  b : Bool
  c : Bool
  lo : Int
  hi : Int
  st : Int
  fi : Nat
  la : Nat

def Fd.v (f : Fd) : Value := .agg #[.bool f.a, .bool f.b, .bool f.c, .int .i64 f.lo, .int .i64 f.hi, .int .i64 f.st, .int .i64 f.fi, .int .i64 f.la]

def fdU : Fd := ⟨true, false, false, 0, 1048575, 1, 0, 1⟩
def fdJ : Fd := ⟨true, false, false, -1048576, 1048574, 2, 1, 5⟩
def fdI : Fd := ⟨true, true, false, -2048, 2047, 1, 5, 6⟩
def fdH : Fd := ⟨true, true, false, 0, 31, 1, 6, 7⟩
def fdB : Fd := ⟨false, true, true, -4096, 4094, 2, 7, 11⟩
def fdS : Fd := ⟨false, true, true, -2048, 2047, 1, 11, 13⟩
def fdR : Fd := ⟨true, true, true, 0, 0, 1, 0, 0⟩
def fdE : Fd := ⟨false, false, false, 0, 0, 1, 0, 0⟩

/-- A form by its number. -/
def fdat (n : Nat) : Fd :=
  match n with
  | 0 => fdU
  | 1 => fdJ
  | 2 => fdI
  | 3 => fdH
  | 4 => fdB
  | 5 => fdS
  | 6 => fdR
  | _ => fdE

theorem sizeF : (Try.prog.info? 54).map (·.size) = some 8 := by kernel_rfl

theorem formOf_0 (w : World) : Calls Try.prog 14 #[.int .u8 0] w fun e w' => e = .returned fdU.v ∧ Below w.heap.size w w' := by
  go_enter Try.func14, Try.ntmps14
  go_wp2
  refine bodyPost_ret (results_cell_row rfl _ _ _ 54 _ (0, 0) _ rfl (At.new w _ _) Try.underlying54 rfl sizeF) rfl ?_
  exact ⟨rfl, below_alloc _ _⟩
theorem formOf_1 (w : World) : Calls Try.prog 14 #[.int .u8 1] w fun e w' => e = .returned fdJ.v ∧ Below w.heap.size w w' := by
  go_enter Try.func14, Try.ntmps14
  go_wp2
  refine bodyPost_ret (results_cell_row rfl _ _ _ 54 _ (0, 0) _ rfl (At.new w _ _) Try.underlying54 rfl sizeF) rfl ?_
  exact ⟨rfl, below_alloc _ _⟩
theorem formOf_2 (w : World) : Calls Try.prog 14 #[.int .u8 2] w fun e w' => e = .returned fdI.v ∧ Below w.heap.size w w' := by
  go_enter Try.func14, Try.ntmps14
  go_wp2
  refine bodyPost_ret (results_cell_row rfl _ _ _ 54 _ (0, 0) _ rfl (At.new w _ _) Try.underlying54 rfl sizeF) rfl ?_
  exact ⟨rfl, below_alloc _ _⟩
theorem formOf_3 (w : World) : Calls Try.prog 14 #[.int .u8 3] w fun e w' => e = .returned fdH.v ∧ Below w.heap.size w w' := by
  go_enter Try.func14, Try.ntmps14
  go_wp2
  refine bodyPost_ret (results_cell_row rfl _ _ _ 54 _ (0, 0) _ rfl (At.new w _ _) Try.underlying54 rfl sizeF) rfl ?_
  exact ⟨rfl, below_alloc _ _⟩
theorem formOf_4 (w : World) : Calls Try.prog 14 #[.int .u8 4] w fun e w' => e = .returned fdB.v ∧ Below w.heap.size w w' := by
  go_enter Try.func14, Try.ntmps14
  go_wp2
  refine bodyPost_ret (results_cell_row rfl _ _ _ 54 _ (0, 0) _ rfl (At.new w _ _) Try.underlying54 rfl sizeF) rfl ?_
  exact ⟨rfl, below_alloc _ _⟩
theorem formOf_5 (w : World) : Calls Try.prog 14 #[.int .u8 5] w fun e w' => e = .returned fdS.v ∧ Below w.heap.size w w' := by
  go_enter Try.func14, Try.ntmps14
  go_wp2
  refine bodyPost_ret (results_cell_row rfl _ _ _ 54 _ (0, 0) _ rfl (At.new w _ _) Try.underlying54 rfl sizeF) rfl ?_
  exact ⟨rfl, below_alloc _ _⟩
theorem formOf_6 (w : World) : Calls Try.prog 14 #[.int .u8 6] w fun e w' => e = .returned fdR.v ∧ Below w.heap.size w w' := by
  go_enter Try.func14, Try.ntmps14
  go_wp2
  refine bodyPost_ret (results_cell_row rfl _ _ _ 54 _ (0, 0) _ rfl (At.new w _ _) Try.underlying54 rfl sizeF) rfl ?_
  exact ⟨rfl, below_alloc _ _⟩
theorem formOf_7 (w : World) : Calls Try.prog 14 #[.int .u8 7] w fun e w' => e = .returned fdE.v ∧ Below w.heap.size w w' := by
  go_enter Try.func14, Try.ntmps14
  go_wp2
  refine bodyPost_ret (results_cell_row rfl _ _ _ 54 _ (0, 0) _ rfl (At.new w _ _) Try.underlying54 rfl sizeF) rfl ?_
  exact ⟨rfl, below_alloc _ _⟩
theorem formOf_c (n : Nat) (hn : n ≤ 7) (w : World) :
    Calls Try.prog 14 #[.int .u8 n] w fun e w' => e = .returned (fdat n).v ∧ Below w.heap.size w w' := by
  have h : n = 0 ∨ n = 1 ∨ n = 2 ∨ n = 3 ∨ n = 4 ∨ n = 5 ∨ n = 6 ∨ n = 7 := by omega
  rcases h with rfl | rfl | rfl | rfl | rfl | rfl | rfl | rfl
  · exact formOf_0 w
  · exact formOf_1 w
  · exact formOf_2 w
  · exact formOf_3 w
  · exact formOf_4 w
  · exact formOf_5 w
  · exact formOf_6 w
  · exact formOf_7 w

def regB (has : Bool) (n : Int) : Bool := if has then decide (0 ≤ n) && decide (n ≤ 31) else decide (n = 0)
def immB (lo hi st n : Int) : Bool := decide (lo ≤ n) && (decide (n ≤ hi) && decide (n.tmod st = 0))

theorem takesRegister_c (b : Bool) (n : Int) (w : World) :
    Calls Try.prog 46 #[.bool b, .int .i64 n] w fun e w' => e = .returned (.bool (regB b n)) ∧ w' = w := by
  cases b
  · by_cases h : n = 0
    · subst h
      go_enter Try.func46, Try.ntmps46
      go_wp2
      go_ret
      exact ⟨by simp [regB], rfl⟩
    · have hb : (n == 0) = false := by simpa using h
      go_enter Try.func46, Try.ntmps46
      go_wp2
      go_ret
      exact ⟨by simp [regB, h], rfl⟩
  · by_cases h1 : 0 ≤ n
    · go_enter Try.func46, Try.ntmps46
      go_wp2
      go_ret
      exact ⟨by simp [regB, h1], rfl⟩
    · have h2 : ¬ (0 ≤ n ∧ n ≤ 31) := by omega
      go_enter Try.func46, Try.ntmps46
      go_wp2
      go_ret
      exact ⟨by simp [regB] <;> omega, rfl⟩

theorem takesImm_c (b1 b2 b3 : Value) (lo hi st : Int) (f l : Value) (n : Int) (hs : 0 < st) (w : World) :
    Calls Try.prog 47 #[.agg #[b1, b2, b3, .int .i64 lo, .int .i64 hi, .int .i64 st, f, l], .int .i64 n] w fun e w' => e = .returned (.bool (immB lo hi st n)) ∧ Below w.heap.size w w' := by
  have hs1 : ¬ st = 0 := by omega
  have hs2 : (st == 0) = false := by simpa using hs1
  by_cases h1 : lo ≤ n
  · by_cases h2 : n ≤ hi
    · go_enter Try.func47, Try.ntmps47
      go_wp2
      go_ret
      refine ⟨?_, below_alloc _ _⟩
      by_cases h3 : n.tmod st = 0
      · simp [immB, h1, h2, h3]
      · have h4 : (n.tmod st == 0) = false := by simpa using h3
        simp [immB, h1, h2, h3]
    · go_enter Try.func47, Try.ntmps47
      go_wp2
      go_ret
      have e2 : decide (n ≤ hi) = false := decide_eq_false (by omega)
      exact ⟨by show Ending.returned (.bool false) = _; rw [immB, e2, Bool.false_and, Bool.and_false], below_alloc _ _⟩
  · go_enter Try.func47, Try.ntmps47
    go_wp2
    go_ret
    have e1 : decide (lo ≤ n) = false := decide_eq_false (by omega)
    exact ⟨by show Ending.returned (.bool false) = _; rw [immB, e1]; rfl, below_alloc _ _⟩
end Go.Proofs.Ytcdeckbobabdkaa
