/-
  Proved: what labelsOf answers of any lines.
-/
import Derived.Test.YtcdeckbobabdkaaAmap
import Derived.Deep.QuietTactic
namespace Go.Proofs.Ytcdeckbobabdkaa
open Go.RowKit Go.Maps
set_option linter.unusedVariables false
set_option linter.unusedSimpArgs false
set_option maxRecDepth 20000

theorem once_take {l : List Ln} (h : once l) (i : Nat) : once (l.take i) := by
  intro j y hj hk
  have hji : j < i := by
    rcases Nat.lt_or_ge j i with h1 | h1
    · exact h1
    · rw [List.getElem?_eq_none (by rw [List.length_take]; omega)] at hj; cases hj
  rw [List.getElem?_take_of_lt hji] at hj
  have := h j y hj hk
  rw [List.take_take, Nat.min_eq_left (by omega)]
  exact this
theorem once_snoc {l : List Ln} {i : Nat} {y : Ln} (hy : l[i]? = some y) (h : once (l.take i)) (hn : y.k = 2 → lbOf (l.take i) y.lb.data.toList = none) : once (l.take (i + 1)) := by
  intro j z hj hk
  have hji : j < i + 1 := by
    rcases Nat.lt_or_ge j (i + 1) with h1 | h1
    · exact h1
    · rw [List.getElem?_eq_none (by rw [List.length_take]; omega)] at hj; cases hj
  rw [List.getElem?_take_of_lt hji] at hj
  rw [List.take_take, Nat.min_eq_left (by omega)]
  rcases Nat.lt_or_ge j i with h1 | h1
  · have := h j z (by rw [List.getElem?_take_of_lt h1]; exact hj) hk
    rw [List.take_take, Nat.min_eq_left (by omega)] at this
    exact this
  · obtain rfl : j = i := by omega
    rw [hy] at hj
    cases hj
    exact hn hk

/-- All labels can be told. -/
def labOk (l : List Ln) : Prop := once l ∧ wants l

set_option maxHeartbeats 4000000 in
theorem labelsOf_c (l : List Ln) (v : Value) (w : World) (h : LsIn w l v) (hl : l.length ≤ 1000) (hok : ∀ y ∈ l, LOk y) :
    Calls Try.prog 17 #[v] w fun e w' => ((labOk l ∧ ∃ b, e = .returned (.tuple #[.map (some b), .bool true]) ∧ w.heap.size ≤ b ∧ MapL w' b 1000 (lbF l)) ∨ (¬ labOk l ∧ e = .returned (.tuple #[.map none, .bool false]))) ∧ Below w.heap.size w w' := by
  obtain ⟨A, C, rfl, hr⟩ := h
  have R : Hid (RowsIn w 8 lnC l A) := hr
  have OK : Hid (∀ y ∈ l, LOk y) := hok
  clear hr hok
  have hmm := @run_makeMap Try.prog
  go_enter Try.func17, Try.ntmps17
  go_wp2
  go_loopw [16] (fun iv wr => ∃ i : Nat, i ≤ l.length ∧ iv = .int .i64 (i : Int) ∧ MapL wr w.heap.size i (lbF (l.take i)) ∧ once (l.take i) ∧ Below w.heap.size w wr ∧ w.heap.size < wr.heap.size) (fun iv _ => l.length - (intOf iv).toNat)
  case atStart => exact ⟨0, by omega, rfl, MapL.made w, (fun j y hj => by simp at hj), below_alloc _ _, by simp⟩
  case round =>
    obtain ⟨i, hi, rfl, hm, hon, hbl, hsz⟩ := hrel
    rcases Nat.lt_or_ge i l.length with hlt | hge
    · have hiz : (i : Int) < l.length := by omega
      obtain ⟨y, hy⟩ : ∃ y, l[i]? = some y := ⟨l[i], List.getElem?_eq_getElem hlt⟩
      obtain ⟨b1, o1, rfl, hb1, c0, c1, c2, c3, c4, c5, c6, c7⟩ := ln_cells R.out hbl i y hy
      have hlb := (OK.out y (List.mem_of_getElem? hy)).2
      have HT : l.take (i + 1) = l.take i ++ [y] := by rw [List.take_add_one, hy]; rfl
      have hlen : (l.take i).length = i := by rw [List.length_take]; omega
      have hbw : Below w.heap.size w (wr.alloc (.cells (lnC y).toArray 30)) := hbl.trans ((below_alloc _ _).mono hbl.size)
      have hm1 : MapL (wr.alloc (.cells (lnC y).toArray 30)) w.heap.size i (lbF (l.take i)) := hm.below (below_alloc _ _)
      have ha1 : At (wr.alloc (.cells (lnC y).toArray 30)) wr.heap.size (lnC y).toArray 30 := At.new _ _ _
      by_cases e1 : y.k = 2
      · cases e2 : lbOf (l.take i) y.lb.data.toList with
        | some g =>
          have NO : Hid (¬ labOk l) := fun h => by
            have := h.1 i y hy e1
            rw [e2] at this
            cases this
          have lk2 := hm1.look2 hlb
          have hv : lbF (l.take i) y.lb.data.toList = some (g : Int) := by unfold lbF; rw [e2]; rfl
          rw [hv] at lk2
          simp only [Option.getD_some, Option.isSome_some] at lk2
          have BW : Hid (Below w.heap.size w (wr.alloc (.cells (lnC y).toArray 30))) := hbw
          clear hm hm1 hon hbl R OK hv e2 hbw hy HT
          obtain ⟨k, s, ⟨rd, q1, q2, im⟩, lb, n⟩ := y
          simp only [lnC] at *
          subst e1
          go_wp2
          go_ret2
          exact ⟨Or.inr ⟨NO.out, rfl⟩, BW.out⟩
        | none =>
          have lk2 := hm1.look2 hlb
          have hv : lbF (l.take i) y.lb.data.toList = none := by unfold lbF; rw [e2]; rfl
          rw [hv] at lk2
          simp only [Option.getD_none, Option.isSome_none] at lk2
          obtain ⟨w2, u1, u2, u3, u4⟩ := hm1.put (v := (i : Int)) hlb (by omega) (by omega)
          have MM : Hid (MapL w2 w.heap.size (i + 1) (lbF (l.take (i + 1)))) := (show MapL w2 w.heap.size (i + 1) _ by
            have := lbF_put (l.take i) y e1 e2
            rw [hlen] at this
            rw [HT, this]
            exact u2)
          have ON : Hid (once (l.take (i + 1))) := once_snoc hy hon fun _ => e2
          have BW : Hid (Below w.heap.size w w2) := hbw.trans (u3.below (by have := hm1.lt; omega) (fun b hb => by omega))
          have SZ : Hid (w.heap.size < w2.heap.size) := (show _ < _ by have := u2.lt; omega)
          clear hm hm1 hon hbl R OK hv e2 hbw hy HT u2 u3 u4
          obtain ⟨k, s, ⟨rd, q1, q2, im⟩, lb, n⟩ := y
          simp only [lnC] at *
          subst e1
          go_wp2
          go_roundw
          case rel => exact ⟨i + 1, by omega, by congr 1, MM.out, ON.out, BW.out, SZ.out⟩
          case measure => simp [intOf]; omega
      · have MM : Hid (MapL (wr.alloc (.cells (lnC y).toArray 30)) w.heap.size (i + 1) (lbF (l.take (i + 1)))) := (show MapL _ w.heap.size (i + 1) _ by rw [HT, lbF_skip _ _ e1]; exact hm1.mono (by omega))
        have ON : Hid (once (l.take (i + 1))) := once_snoc hy hon fun h => absurd h e1
        have BW : Hid (Below w.heap.size w (wr.alloc (.cells (lnC y).toArray 30))) := hbw
        have SZ : Hid (w.heap.size < (wr.alloc (.cells (lnC y).toArray 30)).heap.size) := (show _ < _ by have := hm1.lt; omega)
        clear hm hm1 hon hbl R OK hbw hy HT
        obtain ⟨k, s, ⟨rd, q1, q2, im⟩, lb, n⟩ := y
        simp only [lnC] at *
        go_wp2
        go_roundw
        case rel => exact ⟨i + 1, by omega, by congr 1, MM.out, ON.out, BW.out, SZ.out⟩
        case measure => simp [intOf]; omega
    · have hiz : ¬ (i : Int) < l.length := by omega
      rw [List.take_of_length_le hge] at hm hon
      have M0 : Hid (MapL wr w.heap.size i (lbF l)) := hm
      have ON : Hid (once l) := hon
      have hi2 : i ≤ 1000 := by omega
      clear hm hon
      have B0 : Hid (Below w.heap.size w wr) := hbl
      generalize hW : wr = W0 at *
      clear hW hbl
      have HI : Hid (i ≤ 1000) := hi2
      clear hi2 hi hge
      go_wp2
      go_loopw [39] (fun iv wr => ∃ j : Nat, j ≤ l.length ∧ iv = .int .i64 (j : Int) ∧ (∀ z ∈ l.take j, goes z = true → (lbOf l z.lb.data.toList).isSome = true) ∧ Below W0.heap.size W0 wr) (fun iv _ => l.length - (intOf iv).toNat)
      case atStart => exact ⟨0, by omega, rfl, (by simp), Below.refl _ _⟩
      case round =>
        obtain ⟨j, hj, rfl, hwa, hb2⟩ := hrel
        have hbA : Below w.heap.size w wr := B0.out.trans (hb2.mono B0.out.size)
        rcases Nat.lt_or_ge j l.length with hlt2 | hge2
        · have hjz : (j : Int) < l.length := by omega
          obtain ⟨y, hy⟩ : ∃ y, l[j]? = some y := ⟨l[j], List.getElem?_eq_getElem hlt2⟩
          obtain ⟨b1, o1, rfl, hb1, c0, c1, c2, c3, c4, c5, c6, c7⟩ := ln_cells R.out hbA j y hy
          have hlb := (OK.out y (List.mem_of_getElem? hy)).2
          have hm1 : MapL (wr.alloc (.cells (lnC y).toArray 30)) w.heap.size i (lbF l) := (M0.out.below hb2).below (below_alloc _ _)
          have B1 : Hid (Below W0.heap.size W0 (wr.alloc (.cells (lnC y).toArray 30))) := hb2.trans ((below_alloc _ _).mono hb2.size)
          have BA : Hid (Below w.heap.size w (wr.alloc (.cells (lnC y).toArray 30))) := hbA.trans ((below_alloc _ _).mono hbA.size)
          have lk2 := hm1.look2 hlb
          have NX : Hid ((goes y = true → (lbOf l y.lb.data.toList).isSome = true) → ∀ z ∈ l.take (j + 1), goes z = true → (lbOf l z.lb.data.toList).isSome = true) := fun h z hz => by
            rw [List.take_add_one, hy] at hz
            rcases List.mem_append.1 hz with h1 | h1
            · exact hwa z h1
            · simp at h1
              subst h1
              exact h
          have NO : Hid (goes y = true → lbOf l y.lb.data.toList = none → ¬ labOk l) := fun h1 h2 h => by
            have := h.2 y (List.mem_of_getElem? hy) h1
            rw [h2] at this
            cases this
          have hv : lbF l y.lb.data.toList = (lbOf l y.lb.data.toList).map Int.ofNat := rfl
          generalize lbOf l y.lb.data.toList = O at *
          rw [hv] at lk2
          clear hm1 hwa hb2 R M0 ON B0 hy hv hbA OK
          by_cases e1 : goes y = true
          · cases O with
            | none =>
              have N1 : Hid (¬ labOk l) := NO.out e1 rfl
              clear NO NX
              simp only [Option.map_none, Option.getD_none, Option.isSome_none] at lk2
              obtain ⟨k, s, ⟨rd, q1, q2, im⟩, lb, n⟩ := y
              simp only [lnC, goes, Bool.or_eq_true, decide_eq_true_eq] at *
              rcases e1 with rfl | rfl
              all_goals (
                go_wp2
                go_ret2
                exact ⟨Or.inr ⟨N1.out, rfl⟩, BA.out⟩)
            | some g =>
              have N1 := NX.out (fun _ => rfl)
              have N1 : Hid (∀ z ∈ l.take (j + 1), goes z = true → (lbOf l z.lb.data.toList).isSome = true) := N1
              clear NO NX
              simp only [Option.map_some, Option.getD_some, Option.isSome_some] at lk2
              obtain ⟨k, s, ⟨rd, q1, q2, im⟩, lb, n⟩ := y
              simp only [lnC, goes, Bool.or_eq_true, decide_eq_true_eq] at e1 c0 c1 c2 c3 c4 c5 c6 c7 lk2 B1
              rcases e1 with rfl | rfl
              all_goals (
                go_wp2
                go_roundw
                case rel => exact ⟨j + 1, by omega, by congr 1, N1.out, B1.out⟩
                case measure => simp [intOf]; omega)
          · have N1 := NX.out (fun h => absurd h e1)
            have N1 : Hid (∀ z ∈ l.take (j + 1), goes z = true → (lbOf l z.lb.data.toList).isSome = true) := N1
            clear NO NX lk2
            obtain ⟨k, s, ⟨rd, q1, q2, im⟩, lb, n⟩ := y
            simp only [lnC, goes, Bool.or_eq_true, decide_eq_true_eq, not_or] at e1 c0 c1 c2 c3 c4 c5 c6 c7 B1
            obtain ⟨e1, e2⟩ := e1
            have g3 : (k != 3) = true := by simpa using e1
            have g4 : (k != 4) = true := by simpa using e2
            go_wp2
            go_roundw
            case rel => exact ⟨j + 1, by omega, by congr 1, N1.out, B1.out⟩
            case measure => simp [intOf]; omega
        · have hjz : ¬ (j : Int) < l.length := by omega
          rw [List.take_of_length_le hge2] at hwa
          have LB : Hid (labOk l) := ⟨ON.out, fun y hy h => hwa y hy h⟩
          have MM : Hid (MapL wr w.heap.size 1000 (lbF l)) := (M0.out.below hb2).mono HI.out
          have BW : Hid (Below w.heap.size w wr) := hbA
          clear hwa hb2 hbA M0 B0 R OK
          go_wp2
          go_ret2
          exact ⟨Or.inl ⟨LB.out, _, rfl, Nat.le_refl _, MM.out⟩, BW.out⟩
end Go.Proofs.Ytcdeckbobabdkaa
