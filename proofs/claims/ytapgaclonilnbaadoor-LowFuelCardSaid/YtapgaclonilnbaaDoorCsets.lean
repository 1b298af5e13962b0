/-
  Proved: what the checker's sets, reads, begins and block answer.
-/
import Derived.Test.YtapgaclonilnbaaDoorCsmall
import Derived.Test.YtapgaclonilnbaaDoorPn
import Derived.OwnWalk
namespace Go.Proofs.YtapgaclonilnbaaDoor
open Go.RowKit
set_option linter.unusedVariables false
set_option linter.unusedSimpArgs false

/-- A checker, given the list, the map and the function that it looks through. -/
def ckV (lv mv fv : Value) : Value := .agg #[lv, mv, fv]
abbrev pt (b o : Nat) : Value := .pointer (some ⟨b, o, none⟩)

theorem setsB_step (rg : Int) (l : List Int) (k : Nat) (h : k < l.length) : setsB rg (l.take (k + 1)) = (setsB rg (l.take k) && rgB rg l[k]) := by
  unfold setsB
  rw [List.take_succ_eq_append_getElem h, List.all_append]
  simp
theorem setsB_all {rg : Int} {l : List Int} {k : Nat} (h : k < l.length) (hf : rgB rg l[k] = false) : setsB rg l = false := by
  unfold setsB
  rw [List.all_eq_false]
  exact ⟨l[k], List.getElem_mem h, by simpa using hf⟩

theorem kp_cell {w w' : World} {b o : Nat} {v : Value} (h : w.cell? ⟨b, o, none⟩ = some v) (k : Below w.heap.size w w') : w'.cell? ⟨b, o, none⟩ = some v := (k.cell (p := ⟨b, o, none⟩) (World.block_lt_of_cell? _ _ h)).trans h

set_option maxHeartbeats 1000000 in
theorem sets_c (lv mv : Value) (fb fo : Nat) (rg : Int) (l : List Int) (v : Value) (w : World) (hr : w.cell? ⟨fb, fo + 1, none⟩ = some (.int .i64 rg)) (hl : NosIn w l v) :
    Calls Tryd.prog 21 #[.agg #[lv, mv, .pointer (some ⟨fb, fo, none⟩)], v] w fun e w' => e = .returned (.bool (setsB rg l)) ∧ Below w.heap.size w w' := by
  obtain ⟨hl0, A, C, rfl, hn⟩ := hl.cells
  have HN : Hid (∀ i (h : i < l.length), ∃ b o, A = some ⟨b, o, none⟩ ∧ b < w.heap.size ∧ w.cell? ⟨b, o + i, none⟩ = some (.int .i64 l[i])) := hn
  have HR : Hid (w.cell? ⟨fb, fo + 1, none⟩ = some (.int .i64 rg)) := hr
  clear hn hl hr
  go_enter Tryd.func21, Tryd.ntmps21
  go_wp2
  go_loopw [9] (fun i wr => ∃ k : Nat, k ≤ l.length ∧ i = .int .i64 (k : Int) ∧ setsB rg (l.take k) = true ∧ Below w.heap.size w wr ∧ wr.cell? ⟨w.heap.size, 2, none⟩ = some (.pointer (some ⟨fb, fo, none⟩))) (fun i _ => l.length - (intOf i).toNat)
  case atStart => exact ⟨0, by omega, rfl, rfl, below_alloc _ _, (At.new w _ _).cell 2⟩
  case round =>
    obtain ⟨k, hk, rfl, hs, hB, hc⟩ := hrel
    have BB : Hid (Below w.heap.size w wr) := hB
    have HS : Hid (setsB rg (l.take k) = true) := hs
    have c1 : wr.cell? ⟨fb, fo + 1, none⟩ = some (.int .i64 rg) := kp_cell HR.out hB
    clear hB hs
    rcases Nat.lt_or_ge k l.length with hk' | hk'
    · have hkz : (k : Int) < l.length := by omega
      obtain ⟨b, o, rfl, hb, h0⟩ := HN.out k hk'
      have c0 : wr.cell? ⟨b, o + k, none⟩ = some (.int .i64 l[k]) := kp_cell h0 BB.out
      have ST : Hid (setsB rg (l.take (k + 1)) = (setsB rg (l.take k) && rgB rg l[k])) := setsB_step rg l k hk'
      have SA : Hid (rgB rg l[k] = false → setsB rg l = false) := setsB_all hk'
      clear h0
      generalize l[k] = x at *
      by_cases q1 : x < 0
      · have EE : Hid (setsB rg l = false) := (SA.out (by simp [rgB]; omega))
        go_wp2
        go_ret
        exact ⟨by rw [EE.out]; rfl, BB.out⟩
      · by_cases q2 : x < rg
        · have q3 : ¬ rg ≤ x := by omega
          go_wp2
          go_roundw
          case rel => exact ⟨k + 1, by omega, by go_num, by rw [ST.out, HS.out]; simp [rgB]; omega, BB.out, hc⟩
          case measure => simp [intOf]; omega
        · have q3 : rg ≤ x := by omega
          have EE : Hid (setsB rg l = false) := (SA.out (by simp [rgB]; omega))
          go_wp2
          go_ret
          exact ⟨by rw [EE.out]; rfl, BB.out⟩
    · have hkz : ¬ (k : Int) < l.length := by omega
      obtain rfl : k = l.length := by omega
      have EE : Hid (setsB rg l = true) := (by have := HS.out; rwa [List.take_length] at this : setsB rg l = true)
      go_wp2
      go_ret
      exact ⟨by rw [EE.out]; rfl, BB.out⟩

/-- One number in a row of its own. -/
theorem nos_one {w : World} (x : Int) : NosIn (w.alloc (.cells #[.int .i64 x] 3)) [x] (.slice (some ⟨w.heap.size, 0, none⟩) 1 1) := by
  refine ⟨by simp, _, 1, rfl, fun i hi => ?_⟩
  have hi : i = 0 := by simpa using hi
  subst hi
  exact ⟨w.heap.size, 0, [.int .i64 x], rfl, ⟨by simp, fun j v hj => by have := (At.new w #[.int .i64 x] 3).cell j; rw [show 0 + 0 * 1 + j = j by omega, this]; simpa using hj⟩, rfl⟩

theorem readsB_step (rg : Int) (l : List Int) (k : Nat) (h : k < l.length) : readsB rg (l.take (k + 1)) = (readsB rg (l.take k) && rdB rg l[k]) := by
  unfold readsB
  rw [List.take_succ_eq_append_getElem h, List.all_append]
  simp
theorem readsB_all {rg : Int} {l : List Int} {k : Nat} (h : k < l.length) (hf : rdB rg l[k] = false) : readsB rg l = false := by
  unfold readsB
  rw [List.all_eq_false]
  exact ⟨l[k], List.getElem_mem h, by simpa using hf⟩
theorem setsB_one (rg x : Int) : setsB rg [x] = rgB rg x := by simp [setsB]
theorem readsB_one (rg x : Int) : readsB rg [x] = rdB rg x := by simp [readsB]
theorem readsB_two (rg x y : Int) : readsB rg [x, y] = (rdB rg x && rdB rg y) := by simp [readsB]

set_option maxHeartbeats 1000000 in
theorem reads_c (lv mv : Value) (fb fo : Nat) (rg : Int) (l : List Int) (v : Value) (w : World) (hr : w.cell? ⟨fb, fo + 1, none⟩ = some (.int .i64 rg)) (hl : NosIn w l v) :
    Calls Tryd.prog 28 #[.agg #[lv, mv, .pointer (some ⟨fb, fo, none⟩)], v] w fun e w' => e = .returned (.bool (readsB rg l)) ∧ Below w.heap.size w w' := by
  obtain ⟨hl0, A, C, rfl, hn⟩ := hl.cells
  have HN : Hid (∀ i (h : i < l.length), ∃ b o, A = some ⟨b, o, none⟩ ∧ b < w.heap.size ∧ w.cell? ⟨b, o + i, none⟩ = some (.int .i64 l[i])) := hn
  have HR : Hid (w.cell? ⟨fb, fo + 1, none⟩ = some (.int .i64 rg)) := hr
  clear hn hl hr
  go_enter Tryd.func28, Tryd.ntmps28
  go_wp2
  go_loopw [9] (fun i wr => ∃ k : Nat, k ≤ l.length ∧ i = .int .i64 (k : Int) ∧ readsB rg (l.take k) = true ∧ Below w.heap.size w wr ∧ wr.cell? ⟨w.heap.size, 0, none⟩ = some lv ∧ wr.cell? ⟨w.heap.size, 1, none⟩ = some mv ∧ wr.cell? ⟨w.heap.size, 2, none⟩ = some (.pointer (some ⟨fb, fo, none⟩))) (fun i _ => l.length - (intOf i).toNat)
  case atStart => exact ⟨0, by omega, rfl, rfl, below_alloc _ _, (At.new w _ _).cell 0, (At.new w _ _).cell 1, (At.new w _ _).cell 2⟩
  case round =>
    obtain ⟨k, hk, rfl, hs, hB, hc0, hc1, hc⟩ := hrel
    have BB : Hid (Below w.heap.size w wr) := hB
    have HS : Hid (readsB rg (l.take k) = true) := hs
    have CR : Hid (wr.cell? ⟨fb, fo + 1, none⟩ = some (.int .i64 rg)) := kp_cell HR.out hB
    clear hB hs
    rcases Nat.lt_or_ge k l.length with hk' | hk'
    · have hkz : (k : Int) < l.length := by omega
      obtain ⟨b, o, rfl, hb, h0⟩ := HN.out k hk'
      have c0 : wr.cell? ⟨b, o + k, none⟩ = some (.int .i64 l[k]) := kp_cell h0 BB.out
      have ST : Hid (readsB rg (l.take (k + 1)) = (readsB rg (l.take k) && rdB rg l[k])) := readsB_step rg l k hk'
      have SA : Hid (rdB rg l[k] = false → readsB rg l = false) := readsB_all hk'
      clear h0
      generalize l[k] = x at *
      by_cases q1 : x = -1
      · subst q1
        go_wp2
        go_roundw
        case rel => exact ⟨k + 1, by omega, by go_num, by rw [ST.out, HS.out]; simp [rdB], BB.out, hc0, hc1, hc⟩
        case measure => simp [intOf]; omega
      · have q2 : (x != -1) = true := by simpa using q1
        have CC : Hid (Calls Tryd.prog 21 #[.agg #[lv, mv, .pointer (some ⟨fb, fo, none⟩)], .slice (some ⟨wr.heap.size, 0, none⟩) 1 1] (wr.alloc (.cells #[.int .i64 x] 3)) fun e w' => e = .returned (.bool (setsB rg [x])) ∧ Below (wr.alloc (.cells #[.int .i64 x] 3)).heap.size (wr.alloc (.cells #[.int .i64 x] 3)) w') :=
          sets_c lv mv fb fo rg [x] _ _ (kp_cell CR.out (below_alloc _ _)) (nos_one x)
        rw [setsB_one] at CC
        cases hq : rgB rg x with
        | true =>
          rw [hq] at CC
          go_wp2_with (go_at_call 21; refine CC.out.mono ?_; rintro e w1 ⟨rfl, hw⟩; have B1 : Hid (Below wr.heap.size wr w1) := below_next (below_alloc _ _) hw; clear hw)
          go_roundw
          case rel => exact ⟨k + 1, by omega, by go_num, by rw [ST.out, HS.out]; simp [rdB, hq], below_next BB.out B1.out, kp_cell hc0 B1.out, kp_cell hc1 B1.out, kp_cell hc B1.out⟩
          case measure => simp [intOf]; omega
        | false =>
          rw [hq] at CC
          have EE : Hid (readsB rg l = false) := (SA.out (by simp [rdB, hq, q1]))
          go_wp2_with (go_at_call 21; refine CC.out.mono ?_; rintro e w1 ⟨rfl, hw⟩; have B1 : Hid (Below wr.heap.size wr w1) := below_next (below_alloc _ _) hw; clear hw)
          go_ret
          exact ⟨by rw [EE.out]; rfl, below_next BB.out B1.out⟩
    · have hkz : ¬ (k : Int) < l.length := by omega
      obtain rfl : k = l.length := by omega
      have EE : Hid (readsB rg l = true) := (by have := HS.out; rwa [List.take_length] at this : readsB rg l = true)
      go_wp2
      go_ret
      exact ⟨by rw [EE.out]; rfl, BB.out⟩

theorem begins_c (lv mv : Value) (fb fo : Nat) (rg x : Int) (w : World) (hr : w.cell? ⟨fb, fo + 1, none⟩ = some (.int .i64 rg)) :
    Calls Tryd.prog 31 #[.agg #[lv, mv, .pointer (some ⟨fb, fo, none⟩)], .int .i64 x] w fun e w' => e = .returned (.bool (bgB rg x)) ∧ Below w.heap.size w w' := by
  by_cases q1 : x = -2
  · subst q1
    rw [show bgB rg (-2) = true by unfold bgB; rfl]
    go_enter Tryd.func31, Tryd.ntmps31
    go_wp2
    go_ret
    exact ⟨rfl, below_alloc _ _⟩
  · have q2 : (x == -2) = false := by simpa using q1
    have e : bgB rg x = readsB rg [x] := by rw [readsB_one]; unfold bgB; rw [decide_eq_false q1]; rfl
    have B0 : Hid (Below w.heap.size w (w.alloc (.cells #[lv, mv, .pointer (some ⟨fb, fo, none⟩)] 62))) := below_alloc _ _
    have CC := reads_c lv mv fb fo rg [x] _ _ (kp_cell (kp_cell hr B0.out) (below_alloc _ _)) (nos_one (w := w.alloc (.cells #[lv, mv, .pointer (some ⟨fb, fo, none⟩)] 62)) x)
    rw [show (w.alloc (.cells #[lv, mv, .pointer (some ⟨fb, fo, none⟩)] 62)).heap.size = w.heap.size + 1 by simp] at CC
    have CC : Hid _ := CC
    rw [e]
    generalize readsB rg [x] = q at *
    clear e hr
    go_enter Tryd.func31, Tryd.ntmps31
    go_wp2_with (go_at_call 28; refine Calls.mono (Hid.out CC) ?_; rintro e w1 ⟨rfl, hw⟩; have B1 : Hid (Below w.heap.size w w1) := below_next (below_next B0.out (below_alloc _ _)) hw; clear hw)
    go_ret
    exact ⟨rfl, B1.out⟩

theorem block_c (lv mv : Value) (fb fo : Nat) (nb : Nat) (A : Option Addr) (C : Nat) (n : Int) (w : World) (hr : w.cell? ⟨fb, fo + 6, none⟩ = some (.slice A nb C)) :
    Calls Tryd.prog 34 #[.agg #[lv, mv, .pointer (some ⟨fb, fo, none⟩)], .int .i64 n] w fun e w' => e = .returned (.bool (toB nb n)) ∧ Below w.heap.size w w' := by
  have c0 := kp_cell hr (below_alloc w (.cells #[lv, mv, .pointer (some ⟨fb, fo, none⟩)] 62))
  by_cases h1 : 0 ≤ n
  · by_cases h2 : n < nb
    · go_enter Tryd.func34, Tryd.ntmps34
      go_wp2
      go_ret
      exact ⟨by simp [toB, h1, h2], below_alloc _ _⟩
    · go_enter Tryd.func34, Tryd.ntmps34
      go_wp2
      go_ret
      exact ⟨by simp [toB, h1, h2] <;> omega, below_alloc _ _⟩
  · go_enter Tryd.func34, Tryd.ntmps34
    go_wp2
    go_ret
    exact ⟨by simp [toB, h1] <;> omega, below_alloc _ _⟩
end Go.Proofs.YtapgaclonilnbaaDoor
