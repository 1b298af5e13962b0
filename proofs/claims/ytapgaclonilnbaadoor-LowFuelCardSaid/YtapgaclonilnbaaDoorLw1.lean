/-
  Proved: what the machine's small functions answer: a register's word, a word set, an address, a block gone to, an end.
-/
import Derived.Test.YtapgaclonilnbaaDoorLms
namespace Go.Proofs.YtapgaclonilnbaaDoor
open Go.RowKit
set_option linter.unusedVariables false
set_option linter.unusedSimpArgs false

/-- Words. -/
def I32 (n : Int) : Prop := -2147483648 ≤ n ∧ n ≤ 2147483647

theorem conv_i32 (n : Int) : IntKind.i32.wrap n = wd n := by rw [IntKind.wrap_i32]; rfl
theorem conv_u32 (n : Int) : IntKind.u32.wrap n = wh n := by rw [IntKind.wrap_u32]; rfl

set_option maxHeartbeats 1000000 in
theorem cword_c {X : Cx} {c : Cl} {pb rb fb : Nat} {w : World} (h : CallIn X c pb rb fb w) (r : Int) (hr : bgB c.rg.length r = true) : Calls Tryd.prog 38 #[.pointer (some ⟨pb, 0, none⟩), .int .i64 r] w fun e w' => e = .returned (.int .i32 (cw c r)) ∧ w' = w := by
  have c1 := h.s.cell 1 (by omega)
  have c3 := h.s.cell 3 (by omega)
  simp only [clF] at c1 c3
  by_cases h1 : r = -1
  · subst h1
    rw [show cw c (-1) = 0 from rfl]
    clear hr
    go_enter Tryd.func38, Tryd.ntmps38
    go_wp2
    go_ret
    exact ⟨rfl, rfl⟩
  · by_cases h2 : r = -2
    · subst h2
      rw [show cw c (-2) = wd c.ba from rfl, ← wrap_wd]
      clear hr
      go_enter Tryd.func38, Tryd.ntmps38
      go_wp2
      go_ret
      exact ⟨rfl, rfl⟩
    · have hr2 : 0 ≤ r ∧ r < c.rg.length := by
        unfold bgB rdB rgB at hr
        simp only [Bool.or_eq_true, Bool.and_eq_true, decide_eq_true_eq] at hr
        omega
      obtain ⟨k, rfl⟩ : ∃ k : Nat, r = k := ⟨r.toNat, by omega⟩
      have hk : k < c.rg.length := by omega
      have c4 : w.cell? ⟨rb, k, none⟩ = some (.int .i32 (c.rg.getD k 0)) := h.r.cell k hk
      have e : cw c (k : Int) = c.rg.getD k 0 := by unfold cw; rw [if_neg h1, if_neg h2]; rfl
      rw [e]
      clear hr e
      generalize c.rg.getD k 0 = v at *
      go_enter Tryd.func38, Tryd.ntmps38
      go_wp2
      go_ret
      exact ⟨rfl, rfl⟩

set_option maxHeartbeats 1000000 in
theorem set_c {X : Cx} {c : Cl} {pb rb fb : Nat} {w : World} (h : CallIn X c pb rb fb w) (r v : Int) (h0 : 0 ≤ r) (h1 : r < c.rg.length) : Calls Tryd.prog 25 #[.pointer (some ⟨pb, 0, none⟩), .int .i64 r, .int .i32 v] w fun e w' => e = .returned (.tuple #[]) ∧ w' = w.setCell ⟨rb, r.toNat, none⟩ (.int .i32 v) := by
  obtain ⟨k, rfl⟩ : ∃ k : Nat, r = k := ⟨r.toNat, by omega⟩
  have c1 := h.s.cell 1 (by omega)
  simp only [clF] at c1
  have hk : k < c.rg.length := by omega
  have c4 := h.r.cell k hk
  have f4 := GZ.frozen h.r k
  rw [Int.toNat_natCast]
  generalize c.rg.getD k 0 = v at *
  go_enter Tryd.func25, Tryd.ntmps25
  go_wp2
  go_end0
  exact ⟨rfl, rfl⟩

set_option maxHeartbeats 1000000 in
theorem far_c {X : Cx} {c : Cl} {pb rb fb : Nat} {w : World} (h : CallIn X c pb rb fb w) (r n : Int) (hr : bgB c.rg.length r = true) : Calls Tryd.prog 43 #[.pointer (some ⟨pb, 0, none⟩), .int .i64 r, .int .i64 n] w fun e w' => e = .returned (.int .u32 (farA c r n)) ∧ w' = w := by
  have W := fun w (h : CallIn X c pb rb fb w) => cword_c h r hr
  have HW : Hid (Calls Tryd.prog 38 #[.pointer (some ⟨pb, 0, none⟩), .int .i64 r] w fun e w' => e = .returned (.int .i32 (cw c r)) ∧ w' = w) := W w h
  unfold farA
  rw [← conv_u32 (_ + _), ← conv_u32 (cw c r), ← conv_u32 n]
  clear W hr h
  generalize cw c r = x at *
  go_enter Tryd.func43, Tryd.ntmps43
  go_wp2_with (go_at_call 38; refine (HW.out).mono ?_; rintro e w1 ⟨rfl, hw⟩; rw [hw]; clear hw w1)
  go_ret
  exact ⟨rfl, rfl⟩

set_option maxHeartbeats 1000000 in
theorem goTo_c {X : Cx} {c : Cl} {pb rb fb : Nat} {w : World} (h : CallIn X c pb rb fb w) (b : Int) : Calls Tryd.prog 36 #[.pointer (some ⟨pb, 0, none⟩), .int .i64 b] w fun e w' => e = .returned (.tuple #[]) ∧ w' = (w.setCell ⟨pb, 4, none⟩ (.int .i64 b)).setCell ⟨pb, 5, none⟩ (.int .i64 0) := by
  have c4 := h.s.cell 4 (by omega)
  have c5 := h.s.cell 5 (by omega)
  simp only [clF] at c4 c5
  have f4 := h.s.frozen 4
  have f5 := h.s.frozen 5
  clear h
  go_enter Tryd.func36, Tryd.ntmps36
  go_wp2
  go_end0
  exact ⟨rfl, rfl⟩

set_option maxHeartbeats 1000000 in
theorem done_c (s : ByteArray) (a b : Int) (w : World) (ha : I32 a) : Calls Tryd.prog 41 #[.string s, .int .i32 a, .int .i64 b] w fun e w' => e = .returned (.int .i32 (dov s a (wd b))) ∧ Below w.heap.size w w' := by
  obtain ⟨f, D⟩ := dop_all s
  have hl := D.low a (wd b) ha.1 ha.2 (wd_in b).1 (wd_in b).2
  have HD : Hid (∀ w : World, Calls Tryd.prog 29 #[.string s, .int .i64 a, .int .i64 b] w fun e w' => e = .returned (.tuple #[.int .i64 (dov s a (wd b)), .bool f]) ∧ Below w.heap.size w w') := fun w => by
    have := pDo_c D a b w
    rwa [wd_of a ha] at this
  obtain ⟨a1, a2⟩ := ha
  generalize dov s a (wd b) = v at *
  obtain ⟨l1, l2⟩ := hl
  clear D
  go_enter Tryd.func41, Tryd.ntmps41
  go_wp2_with (go_at_call 29; refine (HD.out _).mono ?_; rintro e w1 ⟨rfl, hb⟩)
  go_ret
  exact ⟨rfl, hb⟩

/-- How a run ends in the midst of something. -/
def endV (k c : Int) : Value := .iface 48 (.agg #[.int .i64 k, .int .i64 c])
set_option maxHeartbeats 1000000 in
theorem stop_c (k c : Int) (w : World) : Calls Tryd.prog 17 #[.int .i64 k, .int .i64 c] w fun e w' => e = .panicked [{ v := endV k c, recovered := false }] ∧ w' = w := by
  have hp : (Instr.panic (.iface 48 (.agg #[.int .i64 k, .int .i64 c]))).run Tryd.prog w = .halt (.panic (.iface 48 (.agg #[.int .i64 k, .int .i64 c]))) w := rfl
  go_enter Tryd.func17, Tryd.ntmps17
  go_wp2
  exact ⟨rfl, rfl, rfl⟩

set_option maxHeartbeats 1000000 in
theorem trap_c (w : World) : Calls Tryd.prog 54 #[] w fun e w' => e = .panicked [{ v := endV 4 0, recovered := false }] ∧ w' = w := by
  have HE := fun w => stop_c 4 0 w
  go_enter Tryd.func54, Tryd.ntmps54
  go_wp2_with (go_at_call 17; refine (HE _).mono ?_; rintro e w1 ⟨rfl, hw⟩; rw [hw]; clear hw w1)
  exact ⟨rfl, rfl, rfl⟩
end Go.Proofs.YtapgaclonilnbaaDoor
