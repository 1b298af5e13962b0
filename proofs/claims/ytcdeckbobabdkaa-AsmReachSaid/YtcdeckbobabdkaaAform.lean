/-
  Proved: what areFormed answers of any lines.
-/
import Derived.Test.YtcdeckbobabdkaaAmap
import Derived.Deep.QuietTactic
namespace Go.Proofs.Ytcdeckbobabdkaa
open Go.RowKit
set_option linter.unusedVariables false
set_option maxRecDepth 20000

set_option maxHeartbeats 2000000 in
theorem areFormed_c (l : List Ln) (v : Value) (w : World) (h : LsIn w l v) (hl : l.length ≤ 1000) :
    Calls Try.prog 16 #[v] w fun e w' => e = .returned (.bool (frmB l)) ∧ Below w.heap.size w w' := by
  obtain ⟨A, C, rfl, hr⟩ := h
  have R : Hid (RowsIn w 8 lnC l A) := hr
  clear hr
  go_enter Try.func16, Try.ntmps16
  go_wp2
  go_loopw [3, 8] (fun rv iv wr => ∃ (i : Nat) (r : Int), i ≤ l.length ∧ iv = .int .i64 (i : Int) ∧ rv = .int .i64 r ∧ 0 ≤ r ∧ r ≤ 1048576 ∧ frmB l = frm r (l.drop i) ∧ Below w.heap.size w wr) (fun _ iv _ => l.length - (intOf iv).toNat)
  case atStart => exact ⟨0, 1048576, by omega, rfl, rfl, by omega, by omega, rfl, Below.refl _ _⟩
  case round =>
    obtain ⟨i, r, hi, rfl, rfl, r0, r1, hf, hbl⟩ := hrel
    rcases Nat.lt_or_ge i l.length with hlt | hge
    · have hiz : (i : Int) < l.length := by omega
      obtain ⟨y, hy⟩ : ∃ y, l[i]? = some y := ⟨l[i], List.getElem?_eq_getElem hlt⟩
      obtain ⟨b1, o1, rfl, hb1, c0, c1, c2, c3, c4, c5, c6, c7⟩ := ln_cells R.out hbl i y hy
      have hd : l.drop i = y :: l.drop (i + 1) := by
        rw [List.drop_eq_getElem_cons hlt]
        congr 1
        exact (List.getElem?_eq_some_iff.1 hy).2
      rw [hd] at hf
      simp only [frm] at hf
      have HF : Hid (frmB l = _) := hf
      have BW : Hid (Below w.heap.size w (wr.alloc (.cells #[.int .i64 y.k, .string y.s, .int .i64 y.i.rd, .int .i64 y.i.r1, .int .i64 y.i.r2, .int .i64 y.i.im, .string y.lb, .int .i64 y.n] 30))) := hbl.trans ((below_alloc _ _).mono hbl.size)
      have a1 : At (wr.alloc (.cells #[.int .i64 y.k, .string y.s, .int .i64 y.i.rd, .int .i64 y.i.r1, .int .i64 y.i.r2, .int .i64 y.i.im, .string y.lb, .int .i64 y.n] 30)) wr.heap.size #[.int .i64 y.k, .string y.s, .int .i64 y.i.rd, .int .i64 y.i.r1, .int .i64 y.i.r2, .int .i64 y.i.im, .string y.lb, .int .i64 y.n] 30 := At.new _ _ _
      clear hf hd R hy hbl
      obtain ⟨k, s, ⟨rd, q1, q2, im⟩, lb, n⟩ := y
      simp only at *
      by_cases e1 : k < 1
      · have g1 : frmB l = false := by rw [HF.out, if_pos (Or.inl e1)]
        have G : Hid (frmB l = false) := g1
        clear HF g1
        go_wp2
        go_ret
        exact ⟨by rw [G.out]; rfl, BW.out⟩
      by_cases e2 : 5 < k
      · have G : Hid (frmB l = false) := (show _ = _ by rw [HF.out, if_pos (Or.inr e2)])
        clear HF
        go_wp2
        go_ret
        exact ⟨by rw [G.out]; rfl, BW.out⟩
      have e3 : ¬ (k < 1 ∨ 5 < k) := by omega
      by_cases e4 : k = 5
      · subst e4
        by_cases e5 : n ≤ 0
        · have G : Hid (frmB l = frm r (l.drop (i + 1))) := (show _ = _ by rw [HF.out, if_neg e3, if_pos (Or.inr e5)])
          clear HF
          go_wp2
          go_roundw
          case rel => exact ⟨i + 1, r, by omega, by congr 1, rfl, r0, r1, G.out, BW.out⟩
          case measure => simp [intOf]; omega
        by_cases e6 : r < n
        · have G : Hid (frmB l = false) := (show _ = _ by rw [HF.out, if_neg e3, if_neg (by omega), if_pos e6])
          clear HF
          go_wp2
          go_ret
          exact ⟨by rw [G.out]; rfl, BW.out⟩
        · have G : Hid (frmB l = frm (r - n) (l.drop (i + 1))) := (show _ = _ by rw [HF.out, if_neg e3, if_neg (by omega), if_neg e6])
          clear HF
          go_wp2
          go_roundw
          case rel => exact ⟨i + 1, r - n, by omega, by congr 1, rfl, by omega, by omega, G.out, BW.out⟩
          case measure => simp [intOf]; omega
      · have G : Hid (frmB l = frm r (l.drop (i + 1))) := (show _ = _ by rw [HF.out, if_neg e3, if_pos (Or.inl e4)])
        clear HF
        go_wp2
        go_roundw
        case rel => exact ⟨i + 1, r, by omega, by congr 1, rfl, r0, r1, G.out, BW.out⟩
        case measure => simp [intOf]; omega
    · have hiz : ¬ (i : Int) < l.length := by omega
      have G : Hid (frmB l = true) := (show _ = _ by rw [hf, List.drop_eq_nil_of_le hge]; rfl)
      clear hf
      have BW : Hid (Below w.heap.size w wr) := hbl
      clear hbl R
      go_wp2
      go_ret
      exact ⟨by rw [G.out]; rfl, BW.out⟩
end Go.Proofs.Ytcdeckbobabdkaa
