/-
  Proved: where the word at an address lies: in a block of the heap that is in use, in a frame; else the run ends.
-/
import Derived.Test.YtapgaclonilnbaaDoorLw4
namespace Go.Proofs.YtapgaclonilnbaaDoor
open Go.RowKit
set_option linter.unusedVariables false
set_option linter.unusedSimpArgs false

theorem nAr_le (m : Mc) (a : Int) (i : Nat) (h : i < nAr m.cs a) (hi : i ≤ m.bl.length) : (callAt m i).ba ≤ a := by
  have h2 : i < m.cs.length := by rw [cs_len]; omega
  have := List.not_of_lt_findIdx (p := fun c : Cl => decide (a < c.ba)) (xs := m.cs) h
  rw [cs_at] at this
  simpa using this

theorem at_in {a : Int} {us : Nat → Nat → Bool} (h : wiA us a 1 (atOf a) = true) : 262144 ≤ a ∧ a < 273408 := by
  cases e : atOf a with
  | none => rw [e] at h; cases h
  | some c =>
    have h1 := ff_lt (atP a) 4 0 c e
    obtain ⟨_, hc, h3⟩ := h1
    unfold atP at h3
    simp only [Bool.and_eq_true, decide_eq_true_eq] at h3
    have : c = 0 ∨ c = 1 ∨ c = 2 ∨ c = 3 := by omega
    rcases this with rfl | rfl | rfl | rfl <;> simp [st, bl, sz] at h3 <;> omega

/-- Where a word lies. -/
def locV (X : Cx) (L : Ly) : Option Nat × Nat → Value
  | (none, k) => .pointer (some ⟨X.R, 10 + k, none⟩)
  | (some i, k) => .pointer (some ⟨L.fb i, k, none⟩)

section
variable {X : Cx} {m : Mc} {st : Int} {L : Ly} {w w' : World}

set_option maxHeartbeats 2000000 in
theorem at_c (h : MS X m st L w) (a : Int) (h0 : 0 ≤ a) (h1 : a ≤ 4294967295) (hn : m.bl.length ≤ 1000) (hs : ∀ i j, i ≤ j → j ≤ m.bl.length → (callAt m i).ba ≤ (callAt m j).ba) (hb : ∀ i, i ≤ m.bl.length → 0 ≤ (callAt m i).ba) :
    Calls Tryd.prog 42 #[.pointer (some ⟨X.R, 0, none⟩), .int .u32 a] w fun e w' => e = (match atL m a with | none => .panicked [{ v := endV 4 0, recovered := false }] | some p => .returned (locV X L p)) ∧ Below w.heap.size w w' := by
  have c9 := h.rr.cell 9 (by omega)
  simp only [rnF] at c9
  have WI := within_c h.hh a 1 h.tab
  have HT := fun w => trap_c w
  have hx : IntKind.i64.wrap a = a := wrap_in a ⟨by omega, by omega⟩
  by_cases q1 : a % 4 = 0 ∧ wiA m.us a 1 (atOf a) = true
  · have e1 : atL m a = some (none, ((a - 262144) / 4).toNat) := by unfold atL; rw [if_pos q1]
    rw [e1]
    obtain ⟨i1, i2⟩ := at_in q1.2
    rw [if_neg (by rw [Int.tmod_eq_emod_of_nonneg h0]; omega), q1.2] at WI
    have HW : Hid (Calls Tryd.prog 52 #[.pointer (some ⟨X.hb, 0, none⟩), .int .i64 a, .int .i64 1] w fun e w' => e = .returned (.bool true) ∧ Below w.heap.size w w') := WI
    obtain ⟨k, hk⟩ : ∃ k : Nat, (a - 262144) / 4 = (k : Int) := ⟨((a - 262144) / 4).toNat, by omega⟩
    have hk2 : (k : Int) < 2816 := by omega
    have hk3 : k < 2816 := by omega
    rw [hk, Int.toNat_natCast]
    show Calls _ _ _ _ fun e w' => e = .returned (.pointer (some ⟨X.R, 10 + k, none⟩)) ∧ Below w.heap.size w w'
    clear WI h e1 hs hb hn q1
    go_enter Tryd.func42, Tryd.ntmps42
    go_wp2_with (go_at_call 52; refine (HW.out).mono ?_; rintro e w1 ⟨rfl, hb⟩)
    go_ret
    exact ⟨rfl, hb⟩
  · have q2 : (if a.tmod 4 ≠ 0 ∨ (1 : Int) < 1 then false else wiA m.us a 1 (atOf a)) = false := by
      rw [Int.tmod_eq_emod_of_nonneg h0]
      by_cases e : a % 4 = 0
      · rw [if_neg (by omega)]
        by_cases e2 : wiA m.us a 1 (atOf a) = true
        · exact absurd ⟨e, e2⟩ q1
        · simpa using e2
      · rw [if_pos (Or.inl e)]
    rw [q2] at WI
    have HW : Hid (Calls Tryd.prog 52 #[.pointer (some ⟨X.hb, 0, none⟩), .int .i64 a, .int .i64 1] w fun e w' => e = .returned (.bool false) ∧ Below w.heap.size w w') := WI
    have HA : Hid (∀ w1, Below w.heap.size w w1 → Calls Tryd.prog 53 #[.pointer (some ⟨X.R, 0, none⟩), .int .u32 a] w1 fun e w' => e = .returned (.pointer (if nAr m.cs a = 0 then none else some ⟨L.pb (nAr m.cs a - 1), 0, none⟩)) ∧ nAr m.cs a ≤ m.bl.length + 1 ∧ Below w1.heap.size w1 w') := fun w1 hw => around_c (h.below hw) a hn hs
    by_cases q3 : nAr m.cs a = 0
    · have e1 : atL m a = none := by unfold atL; rw [if_neg q1, if_pos q3]
      rw [e1]
      rw [q3] at HA
      simp only [if_true] at HA
      show Calls _ _ _ _ fun e w' => e = .panicked [{ v := endV 4 0, recovered := false }] ∧ Below w.heap.size w w'
      clear WI h e1 hs hb hn q1 q2 q3
      go_enter Tryd.func42, Tryd.ntmps42
      go_wp2_with (first
        | (go_at_call 52; refine (HW.out).mono ?_; rintro e w1 ⟨rfl, hb⟩; have B1 : Hid (Below w.heap.size w w1) := hb; clear hb)
        | (go_at_call 53; refine (HA.out _ (B1.out)).mono ?_; rintro e w2 ⟨rfl, _, hb⟩; have B2 : Hid (Below w.heap.size w w2) := below_next B1.out hb; clear hb)
        | (go_at_call 54; refine (HT _).mono ?_; rintro e w3 ⟨rfl, hw⟩; rw [hw]; clear hw w3))
      exact ⟨rfl, rfl, B2.out⟩
    · obtain ⟨i, hi⟩ : ∃ i, nAr m.cs a = i + 1 := ⟨nAr m.cs a - 1, by omega⟩
      simp only [hi, if_false, Nat.add_sub_cancel, Nat.succ_ne_zero] at HA
      have hil : i ≤ m.bl.length ∨ m.bl.length < i := by omega
      rcases hil with hil | hil
      rotate_left
      · exfalso
        have : nAr m.cs a ≤ m.cs.length := List.findIdx_le_length
        rw [cs_len] at this
        omega
      have hle := nAr_le m a i (by omega) hil
      have hbi := hb i hil
      have hcl := h.at i hil
      have c3 := hcl.s.cell 3 (by omega)
      have c2 := hcl.s.cell 2 (by omega)
      simp only [clF] at c3 c2
      have HCL : Hid (∀ w2, Below w.heap.size w w2 → w2.cell? ⟨L.pb i, 3, none⟩ = some (.int .u32 (callAt m i).ba) ∧ w2.cell? ⟨L.pb i, 2, none⟩ = some (.slice (some ⟨L.fb i, 0, none⟩) (callAt m i).fr.length (callAt m i).fr.length)) := fun w2 hw => ⟨(hw.cell (p := ⟨L.pb i, 3, none⟩) hcl.s.lt).trans c3, (hw.cell (p := ⟨L.pb i, 2, none⟩) hcl.s.lt).trans c2⟩
      have e1 : atL m a = if a % 4 = 0 ∧ (a - (callAt m i).ba) / 4 < (callAt m i).fr.length then some (some i, ((a - (callAt m i).ba) / 4).toNat) else none := by unfold atL; rw [if_neg q1, if_neg q3, hi]; rfl
      rw [e1]
      clear WI h e1 hs hb hn q1 q2 q3 hcl c3 c2 hi
      generalize (callAt m i).ba = ba at *
      generalize (callAt m i).fr.length = n at *
      by_cases q4 : a % 4 = 0
      · obtain ⟨k, hk⟩ : ∃ k : Nat, (a - ba) / 4 = (k : Int) := ⟨((a - ba) / 4).toNat, by omega⟩
        have hd : (a - ba).tdiv 4 = (k : Int) := by rw [Int.tdiv_eq_ediv_of_nonneg (by omega)]; exact hk
        rw [hk, Int.toNat_natCast]
        by_cases q5 : k < n
        · have q6 : (k : Int) < n := by omega
          rw [if_pos ⟨q4, q6⟩]
          show Calls _ _ _ _ fun e w' => e = .returned (.pointer (some ⟨L.fb i, k, none⟩)) ∧ Below w.heap.size w w'
          go_enter Tryd.func42, Tryd.ntmps42
          go_wp2_with (first
            | (go_at_call 52; refine (HW.out).mono ?_; rintro e w1 ⟨rfl, hb⟩; have B1 : Hid (Below w.heap.size w w1) := hb; clear hb)
            | (go_at_call 53; refine (HA.out _ (B1.out)).mono ?_; rintro e w2 ⟨rfl, _, hb⟩; have B2 : Hid (Below w.heap.size w w2) := below_next B1.out hb; obtain ⟨d3, d2⟩ := HCL.out w2 B2.out; clear hb))
          go_ret
          exact ⟨rfl, B2.out⟩
        · have q6 : ¬ (k : Int) < n := by omega
          rw [if_neg fun h => q6 h.2]
          show Calls _ _ _ _ fun e w' => e = .panicked [{ v := endV 4 0, recovered := false }] ∧ Below w.heap.size w w'
          go_enter Tryd.func42, Tryd.ntmps42
          go_wp2_with (first
            | (go_at_call 52; refine (HW.out).mono ?_; rintro e w1 ⟨rfl, hb⟩; have B1 : Hid (Below w.heap.size w w1) := hb; clear hb)
            | (go_at_call 53; refine (HA.out _ (B1.out)).mono ?_; rintro e w2 ⟨rfl, _, hb⟩; have B2 : Hid (Below w.heap.size w w2) := below_next B1.out hb; obtain ⟨d3, d2⟩ := HCL.out w2 B2.out; clear hb)
            | (go_at_call 54; refine (HT _).mono ?_; rintro e w3 ⟨rfl, hw⟩; rw [hw]; clear hw w3))
          exact ⟨rfl, rfl, B2.out⟩
      · rw [if_neg fun h => q4 h.1]
        show Calls _ _ _ _ fun e w' => e = .panicked [{ v := endV 4 0, recovered := false }] ∧ Below w.heap.size w w'
        go_enter Tryd.func42, Tryd.ntmps42
        go_wp2_with (first
          | (go_at_call 52; refine (HW.out).mono ?_; rintro e w1 ⟨rfl, hb⟩; have B1 : Hid (Below w.heap.size w w1) := hb; clear hb)
          | (go_at_call 53; refine (HA.out _ (B1.out)).mono ?_; rintro e w2 ⟨rfl, _, hb⟩; have B2 : Hid (Below w.heap.size w w2) := below_next B1.out hb; obtain ⟨d3, d2⟩ := HCL.out w2 B2.out; clear hb)
          | (go_at_call 54; refine (HT _).mono ?_; rintro e w3 ⟨rfl, hw⟩; rw [hw]; clear hw w3))
        exact ⟨rfl, rfl, B2.out⟩
end
end Go.Proofs.YtapgaclonilnbaaDoor
