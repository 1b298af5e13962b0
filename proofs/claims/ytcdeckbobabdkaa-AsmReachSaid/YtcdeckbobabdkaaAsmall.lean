/-
  Proved: what asm's small functions answer: encodes, word, withImm, opposite, shortBytes.
-/
import Derived.Test.YtcdeckbobabdkaaAmap
import Derived.Test.YtcdeckbobabdkaaIopen
import Derived.Deep.QuietTactic
namespace Go.Proofs.Ytcdeckbobabdkaa
open Go.RowKit
set_option linter.unusedVariables false
set_option linter.unusedSimpArgs false
set_option maxRecDepth 20000

theorem encodes_c (s : ByteArray) (rd r1 r2 im : Int) (hs : s.size ≤ maxLen) (w : World) :
    Calls Try.prog 39 #[.agg #[.string s, .int .i64 rd, .int .i64 r1, .int .i64 r2, .int .i64 im]] w fun e w' => e = .returned (.bool (encF s.data.toList ⟨rd, r1, r2, im⟩).isSome) ∧ Below w.heap.size w w' := by
  have HS : Hid (s.size ≤ maxLen) := hs
  have B0 : Hid (Below w.heap.size w (w.alloc (.cells #[.string s, .int .i64 rd, .int .i64 r1, .int .i64 r2, .int .i64 im] 28))) := below_alloc _ _
  have a1 : At (w.alloc (.cells #[.string s, .int .i64 rd, .int .i64 r1, .int .i64 r2, .int .i64 im] 28)) w.heap.size #[.string s, .int .i64 rd, .int .i64 r1, .int .i64 r2, .int .i64 im] 28 := At.new _ _ _
  go_enter Try.func39, Try.ntmps39
  go_wp2_with (go_at_call 36; refine (enc_u _ _ _ _ _ HS.out rfl _).mono ?_; rintro e w1 ⟨rfl, hb⟩; have B1 : Hid (Below w.heap.size w w1) := below_next B0.out hb; clear hb; simp only [encV])
  go_ret
  exact ⟨rfl, B1.out⟩

theorem word_c (s : ByteArray) (rd r1 r2 im : Int) (hs : s.size ≤ maxLen) (w : World) :
    Calls Try.prog 21 #[.agg #[.string s, .int .i64 rd, .int .i64 r1, .int .i64 r2, .int .i64 im]] w fun e w' => e = .returned (.int .u32 ((encF s.data.toList ⟨rd, r1, r2, im⟩).getD 0)) ∧ Below w.heap.size w w' := by
  have HS : Hid (s.size ≤ maxLen) := hs
  have B0 : Hid (Below w.heap.size w (w.alloc (.cells #[.string s, .int .i64 rd, .int .i64 r1, .int .i64 r2, .int .i64 im] 28))) := below_alloc _ _
  have a1 : At (w.alloc (.cells #[.string s, .int .i64 rd, .int .i64 r1, .int .i64 r2, .int .i64 im] 28)) w.heap.size #[.string s, .int .i64 rd, .int .i64 r1, .int .i64 r2, .int .i64 im] 28 := At.new _ _ _
  go_enter Try.func21, Try.ntmps21
  go_wp2_with (go_at_call 36; refine (enc_u _ _ _ _ _ HS.out rfl _).mono ?_; rintro e w1 ⟨rfl, hb⟩; have B1 : Hid (Below w.heap.size w w1) := below_next B0.out hb; clear hb; simp only [encV])
  go_ret
  exact ⟨rfl, B1.out⟩

theorem sizeI5 : (Try.prog.info? 28).map (·.size) = some 5 := by kernel_rfl

theorem withImm_c (s : ByteArray) (rd r1 r2 im n : Int) (w : World) :
    Calls Try.prog 23 #[.agg #[.string s, .int .i64 rd, .int .i64 r1, .int .i64 r2, .int .i64 im], .int .i64 n] w fun e w' => e = .returned (.agg #[.string s, .int .i64 rd, .int .i64 r1, .int .i64 r2, .int .i64 n]) ∧ Below w.heap.size w w' := by
  have B0 : Hid (∀ A B : Obj, Below w.heap.size w ((w.alloc A).alloc B)) := fun A B => below_two w A B
  go_enter Try.func23, Try.ntmps23
  go_wp2
  refine bodyPost_ret (results_cell_row rfl _ _ _ 28 _ (0, 0) _ rfl (At.newS _ _ _ (by simp)) Try.underlying28 rfl sizeI5) rfl ?_
  exact ⟨rfl, B0.out _ _⟩

theorem shortBytes_c (y : Ln) (h5 : y.k = 5 → y.n ≤ 1048576) (w : World) :
    Calls Try.prog 30 #[.agg (lnC y).toArray] w fun e w' => e = .returned (.int .i64 (shB y)) ∧ Below w.heap.size w w' := by
  obtain ⟨k, s, ⟨rd, q1, q2, im⟩, lb, n⟩ := y
  simp only [lnC] at *
  have B0 : Hid (Below w.heap.size w (w.alloc (.cells #[.int .i64 k, .string s, .int .i64 rd, .int .i64 q1, .int .i64 q2, .int .i64 im, .string lb, .int .i64 n] 30))) := below_alloc _ _
  unfold shB
  simp only
  go_enter Try.func30, Try.ntmps30
  by_cases e1 : k = 2
  · subst e1
    go_wp2
    go_ret
    exact ⟨rfl, B0.out⟩
  by_cases e2 : k = 5
  · subst e2
    have h5' := h5 rfl
    go_wp2
    all_goals (go_ret; refine ⟨?_, B0.out⟩; show Ending.returned _ = _; congr 2; (try simp only [Array.getD]); (try simp); (try omega))
  · go_wp2
    go_ret
    exact ⟨by simp [e1, e2], B0.out⟩

def oppV (s : ByteArray) : Value := .string ⟨(opp s.data.toList).toArray⟩
theorem ba_eq {s : ByteArray} {t : List UInt8} (h : s.data.toList = t) : s = ⟨t.toArray⟩ := by
  subst h
  rfl
theorem toL (s : ByteArray) : s.toList = s.data.toList := ByteArray.toList_eq s
theorem ba_ne {s : ByteArray} {t : List UInt8} (h : ¬ s.data.toList = t) : (¬ s.toList = t) ∧ (s.toList == t) = false := by
  rw [toL]
  exact ⟨h, by simpa using h⟩

/-- The first pairs are not it. -/
def notF (s : ByteArray) (k : Nat) : Prop := ∀ j, j < k → ∀ p, oppT[j]? = some p → ¬ s.data.toList = p.1 ∧ ¬ s.data.toList = p.2

set_option maxHeartbeats 2000000 in
theorem opposite_c (s : ByteArray) (w : World) :
    Calls Try.prog 25 #[.string s] w fun e w' => e = .returned (oppV s) ∧ Below w.heap.size w w' := by
  go_enter Try.func25, Try.ntmps25
  go_wp2
  go_loopw [9] (fun iv wr => ∃ k : Nat, k ≤ 3 ∧ iv = .int .i64 (k : Int) ∧ notF s k ∧ Below w.heap.size w wr) (fun iv _ => 3 - (intOf iv).toNat)
  case atStart => exact ⟨0, by omega, rfl, fun j hj => absurd hj (by omega), Below.refl _ _⟩
  case round =>
    obtain ⟨k, hk, rfl, hn, hbl⟩ := hrel
    have NF : Hid (notF s k) := hn
    clear hn
    have hkk : k = 0 ∨ k = 1 ∨ k = 2 ∨ k = 3 := by omega
    rcases hkk with rfl | rfl | rfl | rfl
    · have BW : Hid (∀ cs, Below w.heap.size w (wr.alloc (.cells cs 87))) := fun cs => hbl.trans ((below_alloc _ _).mono hbl.size)
      clear hbl
      have IX : ∀ w, (Instr.index 88 (.agg #[.string ⟨#[98, 101, 113]⟩, .string ⟨#[98, 110, 101]⟩, .string ⟨#[98, 108, 116]⟩, .string ⟨#[98, 103, 101]⟩, .string ⟨#[98, 108, 116, 117]⟩, .string ⟨#[98, 103, 101, 117]⟩]) (.int .i64 0)).run Try.prog w = .ok (.agg #[.string ⟨#[98, 101, 113]⟩, .string ⟨#[98, 110, 101]⟩]) w := fun w => by kernel_rfl
      have IY : ∀ w, (Instr.index 88 (.agg #[.string ⟨#[98, 101, 113]⟩, .string ⟨#[98, 110, 101]⟩, .string ⟨#[98, 108, 116]⟩, .string ⟨#[98, 103, 101]⟩, .string ⟨#[98, 108, 116, 117]⟩, .string ⟨#[98, 103, 101, 117]⟩]) (.int .i64 ((0 : Nat) : Int))).run Try.prog w = .ok (.agg #[.string ⟨#[98, 101, 113]⟩, .string ⟨#[98, 110, 101]⟩]) w := fun w => by kernel_rfl
      by_cases e1 : s.data.toList = [98, 101, 113]
      · obtain rfl := ba_eq e1
        clear NF e1
        go_wp2
        go_ret
        exact ⟨rfl, BW.out _⟩
      by_cases e2 : s.data.toList = [98, 110, 101]
      · obtain rfl := ba_eq e2
        clear NF e1 e2
        go_wp2
        go_ret
        exact ⟨rfl, BW.out _⟩
      have NG : Hid (notF s 1) := fun j hj p hp => by
        rcases Nat.lt_or_ge j 0 with h | h
        · exact NF.out j h p hp
        · obtain rfl : j = 0 := by omega
          cases hp
          exact ⟨e1, e2⟩
      obtain ⟨f1, f2⟩ := ba_ne e1
      obtain ⟨f3, f4⟩ := ba_ne e2
      clear e1 e2 NF
      go_wp2
      go_roundw
      case rel => exact ⟨1, by omega, rfl, NG.out, BW.out _⟩
      case measure => simp [intOf]
    · have BW : Hid (∀ cs, Below w.heap.size w (wr.alloc (.cells cs 87))) := fun cs => hbl.trans ((below_alloc _ _).mono hbl.size)
      clear hbl
      have IX : ∀ w, (Instr.index 88 (.agg #[.string ⟨#[98, 101, 113]⟩, .string ⟨#[98, 110, 101]⟩, .string ⟨#[98, 108, 116]⟩, .string ⟨#[98, 103, 101]⟩, .string ⟨#[98, 108, 116, 117]⟩, .string ⟨#[98, 103, 101, 117]⟩]) (.int .i64 1)).run Try.prog w = .ok (.agg #[.string ⟨#[98, 108, 116]⟩, .string ⟨#[98, 103, 101]⟩]) w := fun w => by kernel_rfl
      have IY : ∀ w, (Instr.index 88 (.agg #[.string ⟨#[98, 101, 113]⟩, .string ⟨#[98, 110, 101]⟩, .string ⟨#[98, 108, 116]⟩, .string ⟨#[98, 103, 101]⟩, .string ⟨#[98, 108, 116, 117]⟩, .string ⟨#[98, 103, 101, 117]⟩]) (.int .i64 ((1 : Nat) : Int))).run Try.prog w = .ok (.agg #[.string ⟨#[98, 108, 116]⟩, .string ⟨#[98, 103, 101]⟩]) w := fun w => by kernel_rfl
      by_cases e1 : s.data.toList = [98, 108, 116]
      · obtain rfl := ba_eq e1
        clear NF e1
        go_wp2
        go_ret
        exact ⟨rfl, BW.out _⟩
      by_cases e2 : s.data.toList = [98, 103, 101]
      · obtain rfl := ba_eq e2
        clear NF e1 e2
        go_wp2
        go_ret
        exact ⟨rfl, BW.out _⟩
      have NG : Hid (notF s 2) := fun j hj p hp => by
        rcases Nat.lt_or_ge j 1 with h | h
        · exact NF.out j h p hp
        · obtain rfl : j = 1 := by omega
          cases hp
          exact ⟨e1, e2⟩
      obtain ⟨f1, f2⟩ := ba_ne e1
      obtain ⟨f3, f4⟩ := ba_ne e2
      clear e1 e2 NF
      go_wp2
      go_roundw
      case rel => exact ⟨2, by omega, rfl, NG.out, BW.out _⟩
      case measure => simp [intOf]
    · have BW : Hid (∀ cs, Below w.heap.size w (wr.alloc (.cells cs 87))) := fun cs => hbl.trans ((below_alloc _ _).mono hbl.size)
      clear hbl
      have IX : ∀ w, (Instr.index 88 (.agg #[.string ⟨#[98, 101, 113]⟩, .string ⟨#[98, 110, 101]⟩, .string ⟨#[98, 108, 116]⟩, .string ⟨#[98, 103, 101]⟩, .string ⟨#[98, 108, 116, 117]⟩, .string ⟨#[98, 103, 101, 117]⟩]) (.int .i64 2)).run Try.prog w = .ok (.agg #[.string ⟨#[98, 108, 116, 117]⟩, .string ⟨#[98, 103, 101, 117]⟩]) w := fun w => by kernel_rfl
      have IY : ∀ w, (Instr.index 88 (.agg #[.string ⟨#[98, 101, 113]⟩, .string ⟨#[98, 110, 101]⟩, .string ⟨#[98, 108, 116]⟩, .string ⟨#[98, 103, 101]⟩, .string ⟨#[98, 108, 116, 117]⟩, .string ⟨#[98, 103, 101, 117]⟩]) (.int .i64 ((2 : Nat) : Int))).run Try.prog w = .ok (.agg #[.string ⟨#[98, 108, 116, 117]⟩, .string ⟨#[98, 103, 101, 117]⟩]) w := fun w => by kernel_rfl
      by_cases e1 : s.data.toList = [98, 108, 116, 117]
      · obtain rfl := ba_eq e1
        clear NF e1
        go_wp2
        go_ret
        exact ⟨rfl, BW.out _⟩
      by_cases e2 : s.data.toList = [98, 103, 101, 117]
      · obtain rfl := ba_eq e2
        clear NF e1 e2
        go_wp2
        go_ret
        exact ⟨rfl, BW.out _⟩
      have NG : Hid (notF s 3) := fun j hj p hp => by
        rcases Nat.lt_or_ge j 2 with h | h
        · exact NF.out j h p hp
        · obtain rfl : j = 2 := by omega
          cases hp
          exact ⟨e1, e2⟩
      obtain ⟨f1, f2⟩ := ba_ne e1
      obtain ⟨f3, f4⟩ := ba_ne e2
      clear e1 e2 NF
      go_wp2
      go_roundw
      case rel => exact ⟨3, by omega, rfl, NG.out, BW.out _⟩
      case measure => simp [intOf]
    · have BW : Hid (Below w.heap.size w wr) := hbl
      clear hbl
      go_wp2
      go_ret
      refine ⟨?_, BW.out⟩
      have n0 := NF.out 0 (by omega) _ rfl
      have n1 := NF.out 1 (by omega) _ rfl
      have n2 := NF.out 2 (by omega) _ rfl
      simp only at n0 n1 n2
      unfold oppV opp
      rw [if_neg n0.1, if_neg n0.2, if_neg n1.1, if_neg n1.2, if_neg n2.1, if_neg n2.2]
      rfl
end Go.Proofs.Ytcdeckbobabdkaa
