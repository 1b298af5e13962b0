/-
  Proved: what the small functions over heap's table of classes answer.
-/
import Derived.Test.YtapgaclonilnbaaDoorKit
import Derived.Laws.Rows
import Derived.Sort.WalkB12
namespace Go.Proofs.YtapgaclonilnbaaDoor
open Go.RowKit

def sz (i : Nat) : Nat := if i = 0 then 4 else if i = 1 then 16 else if i = 2 then 64 else 128
def bl (i : Nat) : Nat := if i = 0 then 64 else if i = 1 then 32 else if i = 2 then 16 else 8
def st (i : Nat) : Nat := if i = 0 then 262144 else if i = 1 then 263168 else if i = 2 then 265216 else 269312

def spanV (i : Nat) : Value := .agg #[.int .i64 (sz i : Int), .int .i64 (bl i : Int), .int .i64 (st i : Int)]

def spansC : Array Value := #[.int .i64 4, .int .i64 64, .int .i64 262144, .int .i64 16, .int .i64 32, .int .i64 263168, .int .i64 64, .int .i64 16, .int .i64 265216, .int .i64 128, .int .i64 8, .int .i64 269312]

/-- The table of classes lies in block 0. -/
def Tab (w : World) : Prop := ∃ t fr, w.heap[0]? = some (.cells spansC t fr)

theorem Tab.lt {w : World} (h : Tab w) : 0 < w.heap.size := by
  obtain ⟨t, fr, h⟩ := h
  exact (Array.getElem?_eq_some_iff.1 h).1

theorem Tab.below {w w' : World} {n : Nat} (h : Tab w) (k : Below n w w') (hn : 0 < n) : Tab w' := by
  obtain ⟨t, fr, h⟩ := h
  exact ⟨t, fr, (k.block 0 hn).trans h⟩

theorem bytes_c (a b c : Int) (w : World) (ha : 0 ≤ a) (ha' : a ≤ 128) : Calls Tryd.prog 62 #[.agg #[.int .i64 a, .int .i64 b, .int .i64 c]] w fun e w' => e = .returned (.int .i64 (4 * a)) ∧ Below w.heap.size w w' := by
  go_enter Tryd.func62, Tryd.ntmps62
  go_wp2
  go_ret
  exact ⟨rfl, below_alloc _ _⟩

theorem end_c (a b c : Int) (w : World) (ha : 0 ≤ a) (ha' : a ≤ 128) (hb : 0 ≤ b) (hb' : b ≤ 64) (hc : 0 ≤ c) (hc' : c ≤ 300000) : Calls Tryd.prog 68 #[.agg #[.int .i64 a, .int .i64 b, .int .i64 c]] w fun e w' => e = .returned (.int .i64 (c + b * (4 * a))) ∧ Below w.heap.size w w' := by
  have hm : 0 ≤ b * (4 * a) := Int.mul_nonneg hb (by omega)
  have hm' : b * (4 * a) ≤ 64 * (4 * a) := Int.mul_le_mul_of_nonneg_right hb' (by omega)
  go_enter Tryd.func68, Tryd.ntmps68
  go_wp2
  have hA := At.new w #[.int .i64 a, .int .i64 b, .int .i64 c] 79
  have hB := below_alloc w (.cells #[.int .i64 a, .int .i64 b, .int .i64 c] 79)
  generalize w.alloc (.cells #[.int .i64 a, .int .i64 b, .int .i64 c] 79) = w1 at *
  have e0 := fun x : After w1 => After.cell ((hA.cell 0).trans rfl) x
  have e1 := fun x : After w1 => After.cell ((hA.cell 1).trans rfl) x
  have e2 := fun x : After w1 => After.cell ((hA.cell 2).trans rfl) x
  have HB : Hid (Below w.heap.size w w1) := hB
  clear hA hB
  haveI := After.has w1
  refine wp_region_after (by kernel_rfl) (by kernel_rfl) ?_
  repeat (quiet_step ((go_at_call 62; exact Calls.after (bytes_c a b c _ ha ha'))))
  refine wpQuiet_nil ?_
  intro _ hw'
  obtain ⟨xq, hw''⟩ := hw'
  subst hw''
  have NN : Hid (Below w.heap.size w xq.w) := below_next HB.out xq.below
  go_wp2
  go_ret
  exact ⟨by show Ending.returned (Value.int .i64 (IntKind.i64.wrap (c + IntKind.i64.wrap (b * (4 * a))))) = _; rw [wrap_in (b * (4 * a)) ⟨by omega, by omega⟩, wrap_in (c + b * (4 * a)) ⟨by omega, by omega⟩], NN.out⟩

theorem clsA_c (a b c : Int) (x : Int) (B : Nat) (w : World) (hb : w.cell? ⟨B, 0, none⟩ = some (.int .i64 x)) : Calls Tryd.prog 69 #[.agg #[.int .i64 a, .int .i64 b, .int .i64 c], .pointer (some ⟨B, 0, none⟩)] w fun e w' => e = .returned (.bool (decide (0 ≤ x) && decide (x ≤ a))) ∧ Below w.heap.size w w' := by
  have hb' := cell_new (.cells #[.int .i64 a, .int .i64 b, .int .i64 c] 79) hb
  by_cases hx : 0 ≤ x
  · go_enter Tryd.func69, Tryd.ntmps69
    go_wp2
    go_ret
    exact ⟨by simp [hx], below_alloc _ _⟩
  · go_enter Tryd.func69, Tryd.ntmps69
    go_wp2
    go_ret
    exact ⟨by simp; omega, below_alloc _ _⟩

theorem clsB_c (a b c : Int) (x : Int) (B : Nat) (w : World) (ha : 0 ≤ a) (ha' : a ≤ 128) (hb : 0 ≤ b) (hb' : b ≤ 64) (hc : 0 ≤ c) (hc' : c ≤ 300000) (hw : w.cell? ⟨B, 0, none⟩ = some (.int .i64 x)) : Calls Tryd.prog 67 #[.agg #[.int .i64 a, .int .i64 b, .int .i64 c], .pointer (some ⟨B, 0, none⟩)] w fun e w' => e = .returned (.bool (decide (c ≤ x) && decide (x < c + b * (4 * a)))) ∧ Below w.heap.size w w' := by
  have hw' := cell_new (.cells #[.int .i64 a, .int .i64 b, .int .i64 c] 79) hw
  have E := fun w => end_c a b c w ha ha' hb hb' hc hc'
  generalize c + b * (4 * a) = m at *
  have hd : ∀ q : Bool, decide (c ≤ x) = q → Calls Tryd.prog 67 #[.agg #[.int .i64 a, .int .i64 b, .int .i64 c], .pointer (some ⟨B, 0, none⟩)] w fun e w' => e = .returned (.bool (q && decide (x < m))) ∧ Below w.heap.size w w' := by
    intro q hq
    cases q
    all_goals (
      go_enter Tryd.func67, Tryd.ntmps67
      go_wp2
      have hA := At.new w #[.int .i64 a, .int .i64 b, .int .i64 c] 79
      have hB := below_alloc w (.cells #[.int .i64 a, .int .i64 b, .int .i64 c] 79)
      generalize w.alloc (.cells #[.int .i64 a, .int .i64 b, .int .i64 c] 79) = w1 at *
      have e0 : ∀ x : After w1, x.w.cell? ⟨w.heap.size, 0, none⟩ = some (.int .i64 a) := fun x => After.cell ((hA.cell 0).trans rfl) x
      have e1 : ∀ x : After w1, x.w.cell? ⟨w.heap.size, 1, none⟩ = some (.int .i64 b) := fun x => After.cell ((hA.cell 1).trans rfl) x
      have e2 : ∀ x : After w1, x.w.cell? ⟨w.heap.size, 2, none⟩ = some (.int .i64 c) := fun x => After.cell ((hA.cell 2).trans rfl) x
      have e3 := fun x : After w1 => After.cell hw' x
      have HB : Hid (Below w.heap.size w w1) := hB
      clear hA hB hw'
      haveI := After.has w1
      refine wp_region_after (by kernel_rfl) (by kernel_rfl) ?_
      repeat (quiet_step ((go_at_call 68; exact Calls.after (E _))))
      refine wpQuiet_nil ?_
      intro _ hw'
      obtain ⟨xq, hw''⟩ := hw'
      subst hw''
      have NN : Hid (Below w.heap.size w xq.w) := below_next HB.out xq.below
      go_wp2
      go_ret
      exact ⟨by simp, NN.out⟩)
  exact hd _ rfl

def ffV : Option Nat → Value
  | none => .tuple #[.int .i64 0, .bool false]
  | some k => .tuple #[.int .i64 (k : Int), .bool true]

theorem span_index (k : Nat) (hk : k < 4) (w : World) : (Instr.index 80 (.agg spansC) (.int .i64 (k : Int))).run Tryd.prog w = .ok (spanV k) w := by
  rcases (by omega : k = 0 ∨ k = 1 ∨ k = 2 ∨ k = 3) with rfl | rfl | rfl | rfl <;> kernel_rfl

set_option maxHeartbeats 1000000 in
theorem first26_c (B : Nat) (p : Nat → Bool) (w : World) (ht : Tab w)
    (hcl : ∀ i, i < 4 → ∀ w', Below w.heap.size w w' → Calls Tryd.prog 69 #[spanV i, .pointer (some ⟨B, 0, none⟩)] w' fun e w'' => e = .returned (.bool (p i)) ∧ Below w'.heap.size w' w'') :
    Calls Tryd.prog 66 #[.func (.func 69) #[] #[.pointer (some ⟨B, 0, none⟩)]] w fun e w' => e = .returned (ffV (ff p 4 0)) ∧ Below w.heap.size w w' := by
  have CL : Hid (∀ i, i < 4 → ∀ w', Below w.heap.size w w' → Calls Tryd.prog 69 #[spanV i, .pointer (some ⟨B, 0, none⟩)] w' fun e w'' => e = .returned (.bool (p i)) ∧ Below w'.heap.size w' w'') := hcl
  clear hcl
  obtain ⟨tt, fr, hg⟩ := ht
  generalize hR : ff p 4 0 = R
  go_enter Tryd.func66, Tryd.ntmps66
  go_wp2_with (refine wpList_load_row rfl 80 _ rfl 0 rfl tt _ fr _ hg Tryd.underlying80 rfl (by kernel_rfl) ?_)
  clear hg
  go_loopw [7] (fun i wr => ∃ k : Nat, k ≤ 4 ∧ i = .int .i64 (k : Int) ∧ ff p (4 - k) k = R ∧ Below w.heap.size w wr) (fun i _ => 4 - (intOf i).toNat)
  case atStart => exact ⟨0, by omega, rfl, hR, Below.refl _ _⟩
  case round =>
    obtain ⟨k, hk, rfl, hr, hw⟩ := hrel
    have W : Hid (Below w.heap.size w wr) := hw
    have HR : Hid (ff p (4 - k) k = R) := hr
    have hx : (k : Int) < 4 → ∀ w, (Instr.index 80 (.agg spansC) (.int .i64 (k : Int))).run Tryd.prog w = .ok (.agg #[.int .i64 (sz k : Int), .int .i64 (bl k : Int), .int .i64 (st k : Int)]) w := fun h w => span_index k (by omega) w
    clear hr hR hw
    have hs : k < 4 → ff p (4 - k) k = if p k then some k else ff p (4 - (k + 1)) (k + 1) := fun h => by
      rw [show 4 - k = (4 - (k + 1)) + 1 by omega, ff]
    have HS : Hid (k < 4 → ff p (4 - k) k = if p k then some k else ff p (4 - (k + 1)) (k + 1)) := hs
    clear hs
    go_wp2_with (first
      | (go_at_call 69; refine (CL.out k (by omega) _ (below_next W.out (below_alloc _ _))).mono ?_; rintro e w' ⟨rfl, he⟩; have NN : Hid (Below w.heap.size w w') := below_next (below_next W.out (below_alloc _ _)) he; clear he)
      | go_in)
    · have hk' : (k : Int) < 4 := by assumption
      have h1 := HR.out
      rw [HS.out (by omega), if_pos (by assumption)] at h1
      subst h1
      go_ret2
      exact ⟨rfl, NN.out⟩
    · have hk' : (k : Int) < 4 := by assumption
      have hp : p k = false := by assumption
      go_roundw
      case rel =>
        refine ⟨k + 1, by omega, by go_num, ?_, NN.out⟩
        have h1 := HR.out
        rw [HS.out (by omega), hp] at h1
        simpa using h1
      case measure => simp [intOf]; omega
    · have hk' : 4 ≤ (k : Int) := by assumption
      have h1 := HR.out
      have h2 : k = 4 := by omega
      subst h2
      have h3 : R = none := h1.symm
      subst h3
      go_ret2
      exact ⟨rfl, W.out⟩

set_option maxHeartbeats 1000000 in
theorem first27_c (B : Nat) (p : Nat → Bool) (w : World) (ht : Tab w)
    (hcl : ∀ i, i < 4 → ∀ w', Below w.heap.size w w' → Calls Tryd.prog 67 #[spanV i, .pointer (some ⟨B, 0, none⟩)] w' fun e w'' => e = .returned (.bool (p i)) ∧ Below w'.heap.size w' w'') :
    Calls Tryd.prog 66 #[.func (.func 67) #[] #[.pointer (some ⟨B, 0, none⟩)]] w fun e w' => e = .returned (ffV (ff p 4 0)) ∧ Below w.heap.size w w' := by
  have CL : Hid (∀ i, i < 4 → ∀ w', Below w.heap.size w w' → Calls Tryd.prog 67 #[spanV i, .pointer (some ⟨B, 0, none⟩)] w' fun e w'' => e = .returned (.bool (p i)) ∧ Below w'.heap.size w' w'') := hcl
  clear hcl
  obtain ⟨tt, fr, hg⟩ := ht
  generalize hR : ff p 4 0 = R
  go_enter Tryd.func66, Tryd.ntmps66
  go_wp2_with (refine wpList_load_row rfl 80 _ rfl 0 rfl tt _ fr _ hg Tryd.underlying80 rfl (by kernel_rfl) ?_)
  clear hg
  go_loopw [7] (fun i wr => ∃ k : Nat, k ≤ 4 ∧ i = .int .i64 (k : Int) ∧ ff p (4 - k) k = R ∧ Below w.heap.size w wr) (fun i _ => 4 - (intOf i).toNat)
  case atStart => exact ⟨0, by omega, rfl, hR, Below.refl _ _⟩
  case round =>
    obtain ⟨k, hk, rfl, hr, hw⟩ := hrel
    have W : Hid (Below w.heap.size w wr) := hw
    have HR : Hid (ff p (4 - k) k = R) := hr
    have hx : (k : Int) < 4 → ∀ w, (Instr.index 80 (.agg spansC) (.int .i64 (k : Int))).run Tryd.prog w = .ok (.agg #[.int .i64 (sz k : Int), .int .i64 (bl k : Int), .int .i64 (st k : Int)]) w := fun h w => span_index k (by omega) w
    clear hr hR hw
    have hs : k < 4 → ff p (4 - k) k = if p k then some k else ff p (4 - (k + 1)) (k + 1) := fun h => by
      rw [show 4 - k = (4 - (k + 1)) + 1 by omega, ff]
    have HS : Hid (k < 4 → ff p (4 - k) k = if p k then some k else ff p (4 - (k + 1)) (k + 1)) := hs
    clear hs
    go_wp2_with (first
      | (go_at_call 67; refine (CL.out k (by omega) _ (below_next W.out (below_alloc _ _))).mono ?_; rintro e w' ⟨rfl, he⟩; have NN : Hid (Below w.heap.size w w') := below_next (below_next W.out (below_alloc _ _)) he; clear he)
      | go_in)
    · have hk' : (k : Int) < 4 := by assumption
      have h1 := HR.out
      rw [HS.out (by omega), if_pos (by assumption)] at h1
      subst h1
      go_ret2
      exact ⟨rfl, NN.out⟩
    · have hk' : (k : Int) < 4 := by assumption
      have hp : p k = false := by assumption
      go_roundw
      case rel =>
        refine ⟨k + 1, by omega, by go_num, ?_, NN.out⟩
        have h1 := HR.out
        rw [HS.out (by omega), hp] at h1
        simpa using h1
      case measure => simp [intOf]; omega
    · have hk' : 4 ≤ (k : Int) := by assumption
      have h1 := HR.out
      have h2 : k = 4 := by omega
      subst h2
      have h3 : R = none := h1.symm
      subst h3
      go_ret2
      exact ⟨rfl, W.out⟩

/-- The spans, as numbers. -/
theorem span_le (i : Nat) : sz i ≤ 128 ∧ bl i ≤ 64 ∧ st i ≤ 300000 ∧ 4 ≤ sz i ∧ 8 ≤ bl i ∧ 262144 ≤ st i := by
  unfold sz bl st
  split <;> (try split) <;> (try split) <;> omega

/-- The class of so many words. -/
def clsP (x : Int) (i : Nat) : Bool := decide (0 ≤ x) && decide (x ≤ (sz i : Int))
/-- The class of an address. -/
def atP (x : Int) (i : Nat) : Bool := decide ((st i : Int) ≤ x) && decide (x < (st i : Int) + (bl i : Int) * (4 * (sz i : Int)))

def clsOf (x : Int) : Option Nat := ff (clsP x) 4 0
def atOf (x : Int) : Option Nat := ff (atP x) 4 0

theorem firstA_c (x : Int) (B : Nat) (w : World) (ht : Tab w) (hb : w.cell? ⟨B, 0, none⟩ = some (.int .i64 x)) : Calls Tryd.prog 66 #[.func (.func 69) #[] #[.pointer (some ⟨B, 0, none⟩)]] w fun e w' => e = .returned (ffV (clsOf x)) ∧ Below w.heap.size w w' :=
  first26_c B (clsP x) w ht fun _ _ w' hw => clsA_c _ _ _ x B w' ((hw.cell (World.block_lt_of_cell? _ _ hb)).trans hb)

theorem firstB_c (x : Int) (B : Nat) (w : World) (ht : Tab w) (hb : w.cell? ⟨B, 0, none⟩ = some (.int .i64 x)) : Calls Tryd.prog 66 #[.func (.func 67) #[] #[.pointer (some ⟨B, 0, none⟩)]] w fun e w' => e = .returned (ffV (atOf x)) ∧ Below w.heap.size w w' :=
  first27_c B (atP x) w ht fun i _ w' hw => by
    have := span_le i
    exact clsB_c _ _ _ x B w' (by omega) (by omega) (by omega) (by omega) (by omega) (by omega) ((hw.cell (World.block_lt_of_cell? _ _ hb)).trans hb)
end Go.Proofs.YtapgaclonilnbaaDoor
