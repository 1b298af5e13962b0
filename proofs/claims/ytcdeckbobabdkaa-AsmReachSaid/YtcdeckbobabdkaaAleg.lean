/-
  Proved: what isLegal and areLegal answer of any lines.
-/
import Derived.Test.YtcdeckbobabdkaaAsmall
namespace Go.Proofs.Ytcdeckbobabdkaa
open Go.RowKit
set_option linter.unusedVariables false
set_option linter.unusedSimpArgs false
set_option maxRecDepth 20000

theorem opposite_t (s : ByteArray) : ∃ t : ByteArray, (t.data.toList = opp s.data.toList) ∧ ∀ w, Calls Try.prog 25 #[.string s] w fun e w' => e = .returned (.string t) ∧ Below w.heap.size w w' :=
  ⟨⟨(opp s.data.toList).toArray⟩, by simp, fun w => opposite_c s w⟩

/-- A line and its instruction in new memory. -/
theorem two_b {w : World} {A : Obj} : Below w.heap.size w (w.alloc A) := below_alloc _ _

set_option maxHeartbeats 2000000 in
theorem isLegal_c (y : Ln) (hy : LOk y) (w : World) :
    Calls Try.prog 29 #[.agg (lnC y).toArray] w fun e w' => e = .returned (.bool (leg y)) ∧ Below w.heap.size w w' := by
  have HS : Hid (y.s.size ≤ maxLen) := hy.1
  obtain ⟨t, ht, OC⟩ := opposite_t y.s
  have OC : Hid (∀ w, Calls Try.prog 25 #[.string y.s] w fun e w' => e = .returned (.string t) ∧ Below w.heap.size w w') := OC
  obtain ⟨k, s, ⟨rd, q1, q2, im⟩, lb, n⟩ := y
  simp only [lnC] at *
  clear hy
  have hs1 : (w.alloc (.cells #[.int .i64 k, .string s, .int .i64 rd, .int .i64 q1, .int .i64 q2, .int .i64 im, .string lb, .int .i64 n] 30)).heap.size = w.heap.size + 1 := by simp
  have B2 : Hid (∀ A B : Obj, Below w.heap.size w ((w.alloc A).alloc B)) := fun A B => below_two w A B
  have A2 : ∀ cs : Array Value, At ((w.alloc (.cells #[.int .i64 k, .string s, .int .i64 rd, .int .i64 q1, .int .i64 q2, .int .i64 im, .string lb, .int .i64 n] 30)).alloc (.cells cs 28)) (w.heap.size + 1) cs 28 := fun cs => At.newS _ _ _ hs1
  have A2 : Hid (∀ cs : Array Value, At ((w.alloc (.cells #[.int .i64 k, .string s, .int .i64 rd, .int .i64 q1, .int .i64 q2, .int .i64 im, .string lb, .int .i64 n] 30)).alloc (.cells cs 28)) (w.heap.size + 1) cs 28) := A2
  clear hs1
  unfold leg
  simp only [w0]
  by_cases e1 : k = 1
  · subst e1
    go_enter Try.func29, Try.ntmps29
    go_wp2_with (go_at_call 39; refine (encodes_c _ _ _ _ _ HS.out _).mono ?_; rintro e w1 ⟨rfl, hb⟩; have B1 : Hid (Below w.heap.size w w1) := below_next (B2.out _ _) hb; clear hb)
    go_ret
    exact ⟨rfl, B1.out⟩
  by_cases e3 : k = 3
  · subst e3
    by_cases e4 : opp s.data.toList = []
    · obtain rfl : t = ⟨#[]⟩ := ba_eq (ht.trans e4)
      rw [e4]
      clear e4 ht
      go_enter Try.func29, Try.ntmps29
      go_wp2_with (go_at_call 25; refine (OC.out _).mono ?_; rintro e w1 ⟨rfl, hb⟩; have B1 : Hid (Below w.heap.size w w1) := below_next (B2.out _ _) hb; clear hb)
      go_ret
      exact ⟨rfl, B1.out⟩
    · obtain ⟨f1, f2⟩ := ba_ne (s := t) (t := []) (by rw [ht]; exact e4)
      have hd : decide (opp s.data.toList ≠ []) = true := by simp [e4]
      rw [hd, Bool.true_and]
      clear e4 ht hd
      go_enter Try.func29, Try.ntmps29
      go_wp2_with (first | (go_at_call 25; refine (OC.out _).mono ?_; rintro e w1 ⟨rfl, hb⟩; have B1 : Hid (Below w.heap.size w w1) := below_next (B2.out _ _) hb; have a2 := (A2.out #[.string s, .int .i64 rd, .int .i64 q1, .int .i64 q2, .int .i64 im]).below hb (by simp); have d0 : w1.cell? ⟨w.heap.size + 1, 0, none⟩ = some (.string s) := a2.cell 0; have d1 : w1.cell? ⟨w.heap.size + 1, 1, none⟩ = some (.int .i64 rd) := a2.cell 1; have d2 : w1.cell? ⟨w.heap.size + 1, 2, none⟩ = some (.int .i64 q1) := a2.cell 2; have d3 : w1.cell? ⟨w.heap.size + 1, 3, none⟩ = some (.int .i64 q2) := a2.cell 3; have d4 : w1.cell? ⟨w.heap.size + 1, 4, none⟩ = some (.int .i64 im) := a2.cell 4; clear hb a2) | (go_at_call 23; refine (withImm_c _ _ _ _ _ _ _).mono ?_; rintro e w2 ⟨rfl, hb⟩; have B3 : Hid (Below w.heap.size w w2) := below_next B1.out hb; clear hb) | (go_at_call 39; refine (encodes_c _ _ _ _ _ HS.out _).mono ?_; rintro e w3 ⟨rfl, hb⟩; have B4 : Hid (Below w.heap.size w w3) := below_next B3.out hb; clear hb))
      go_ret
      exact ⟨rfl, B4.out⟩
  by_cases e5 : k = 4
  · subst e5
    by_cases e6 : s.data.toList = jalT
    · obtain rfl := ba_eq e6
      go_enter Try.func29, Try.ntmps29
      go_wp2_with (first | (go_at_call 23; refine (withImm_c _ _ _ _ _ _ _).mono ?_; rintro e w2 ⟨rfl, hb⟩; have B3 : Hid (Below w.heap.size w w2) := below_next (B2.out _ _) hb; clear hb) | (go_at_call 39; refine (encodes_c _ _ _ _ _ HS.out _).mono ?_; rintro e w3 ⟨rfl, hb⟩; have B4 : Hid (Below w.heap.size w w3) := below_next B3.out hb; clear hb))
      go_ret
      exact ⟨rfl, B4.out⟩
    · obtain ⟨f1, f2⟩ := ba_ne (s := s) (t := jalT) e6
      unfold jalT at f1 f2
      have hd : decide (s.data.toList = jalT) = false := by simp [e6]
      rw [hd, Bool.false_and]
      clear e6 hd
      go_enter Try.func29, Try.ntmps29
      go_wp2
      go_ret
      exact ⟨rfl, B2.out _ _⟩
  · rw [if_neg e1, if_neg e3, if_neg e5]
    go_enter Try.func29, Try.ntmps29
    go_wp2
    go_ret
    exact ⟨rfl, B2.out _ _⟩

set_option maxHeartbeats 2000000 in
theorem areLegal_c (l : List Ln) (v : Value) (w : World) (h : LsIn w l v) (hl : l.length ≤ 1000) (hok : ∀ y ∈ l, LOk y) :
    Calls Try.prog 18 #[v] w fun e w' => e = .returned (.bool (l.all leg)) ∧ Below w.heap.size w w' := by
  obtain ⟨A, C, rfl, hr⟩ := h
  have R : Hid (RowsIn w 8 lnC l A) := hr
  have OK : Hid (∀ y ∈ l, LOk y) := hok
  clear hr hok
  go_enter Try.func18, Try.ntmps18
  go_wp2
  go_loopw [7] (fun iv wr => ∃ (i : Nat), i ≤ l.length ∧ iv = .int .i64 (i : Int) ∧ (∀ y ∈ l.take i, leg y = true) ∧ Below w.heap.size w wr) (fun iv _ => l.length - (intOf iv).toNat)
  case atStart => exact ⟨0, by omega, rfl, (by simp), Below.refl _ _⟩
  case round =>
    obtain ⟨i, hi, rfl, hf, hbl⟩ := hrel
    rcases Nat.lt_or_ge i l.length with hlt | hge
    · have hiz : (i : Int) < l.length := by omega
      obtain ⟨y, hy⟩ : ∃ y, l[i]? = some y := ⟨l[i], List.getElem?_eq_getElem hlt⟩
      obtain ⟨b1, o1, rfl, hb1, c0, c1, c2, c3, c4, c5, c6, c7⟩ := ln_cells R.out hbl i y hy
      have LC : Hid (∀ w, Calls Try.prog 29 #[.agg (lnC y).toArray] w fun e w' => e = .returned (.bool (leg y)) ∧ Below w.heap.size w w') := fun w => isLegal_c y (OK.out y (List.mem_of_getElem? hy)) w
      have BW : Hid (∀ cs, Below w.heap.size w (wr.alloc (.cells cs 30))) := fun cs => hbl.trans ((below_alloc _ _).mono hbl.size)
      have ALL : Hid (leg y = false → l.all leg = false) := fun e => by
        rw [List.all_eq_false]
        exact ⟨y, List.mem_of_getElem? hy, by simp [e]⟩
      have NXT : Hid (leg y = true → ∀ z ∈ l.take (i + 1), leg z = true) := fun e z hz => by
        rw [List.take_add_one, hy] at hz
        rcases List.mem_append.1 hz with h | h
        · exact hf z h
        · simp at h
          subst h
          exact e
      clear R OK hbl hf hy
      obtain ⟨k, s, ⟨rd, q1, q2, im⟩, lb, n⟩ := y
      simp only [lnC] at *
      generalize leg _ = lg at *
      cases lg with
      | false =>
        have G := ALL.out rfl
        have G : Hid (l.all leg = false) := G
        clear ALL NXT
        go_wp2_with (go_at_call 29; refine (LC.out _).mono ?_; rintro e w1 ⟨rfl, hb⟩; have B1 : Hid (Below w.heap.size w w1) := (BW.out _).trans (hb.mono (BW.out _).size); clear hb)
        go_ret
        exact ⟨by rw [G.out]; rfl, B1.out⟩
      | true =>
        have G : Hid (∀ z ∈ l.take (i + 1), leg z = true) := NXT.out rfl
        clear ALL NXT
        go_wp2_with (go_at_call 29; refine (LC.out _).mono ?_; rintro e w1 ⟨rfl, hb⟩; have B1 : Hid (Below w.heap.size w w1) := (BW.out _).trans (hb.mono (BW.out _).size); clear hb)
        go_roundw
        case rel => exact ⟨i + 1, by omega, by congr 1, G.out, B1.out⟩
        case measure => simp [intOf]; omega
    · have hiz : ¬ (i : Int) < l.length := by omega
      have G : Hid (l.all leg = true) := (show _ = _ by rw [List.all_eq_true]; rw [List.take_of_length_le hge] at hf; exact hf)
      clear hf
      have BW : Hid (Below w.heap.size w wr) := hbl
      clear hbl R
      go_wp2
      go_ret
      exact ⟨by rw [G.out]; rfl, BW.out⟩
end Go.Proofs.Ytcdeckbobabdkaa
