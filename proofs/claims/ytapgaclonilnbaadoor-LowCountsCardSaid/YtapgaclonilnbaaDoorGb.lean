/-
  Proved: what the small functions over heap's table of classes answer.
-/
import Derived.Test.YtapgaclonilnbaaDoorGa
import Derived.Laws.Rows
import Derived.Sort.WalkB12
namespace Go.Proofs.YtapgaclonilnbaaDoor
open Go.RowKit

def sz (i : Nat) : Nat := if i = 0 then 4 else if i = 1 then 16 else if i = 2 then 64 else 128
def bl (i : Nat) : Nat := if i = 0 then 64 else if i = 1 then 32 else if i = 2 then 16 else 8
def st (i : Nat) : Nat := if i = 0 then 262144 else if i = 1 then 263168 else if i = 2 then 265216 else 269312

def spanV (i : Nat) : Value := .agg #[.int .i64 (sz i : Int), .int .i64 (bl i : Int), .int .i64 (st i : Int)]

def spansC : Array Value := #[.int .i64 4, .int .i64 64, .int .i64 262144, .int .i64 16, .int .i64 32, .int .i64 263168, .int .i64 64, .int .i64 16, .int .i64 265216, .int .i64 128, .int .i64 8, .int .i64 269312]

/-- The table of classes lies in block 0. -/
def Tab (w : World) : Prop := ∃ t fr, w.heap[0]? = some (.cells spansC t fr)

theorem Tab.lt {w : World} (h : Tab w) : 0 < w.heap.size := by
  obtain ⟨t, fr, h⟩ := h
  exact (Array.getElem?_eq_some_iff.1 h).1

theorem Tab.below {w w' : World} {n : Nat} (h : Tab w) (k : Below n w w') (hn : 0 < n) : Tab w' := by
  obtain ⟨t, fr, h⟩ := h
  exact ⟨t, fr, (k.block 0 hn).trans h⟩

theorem bytes_c (a b c : Int) (w : World) (ha : 0 ≤ a) (ha' : a ≤ 128) : Calls Tryd.prog 62 #[.agg #[.int .i64 a, .int .i64 b, .int .i64 c]] w fun e w' => e = .returned (.int .i64 (4 * a)) ∧ Below w.heap.size w w' := by
  go_enter Tryd.func62, Tryd.ntmps62
  go_wp2
  go_ret
  exact ⟨rfl, below_alloc _ _⟩

theorem end_c (a b c : Int) (w : World) (ha : 0 ≤ a) (ha' : a ≤ 128) (hb : 0 ≤ b) (hb' : b ≤ 64) (hc : 0 ≤ c) (hc' : c ≤ 300000) : Calls Tryd.prog 68 #[.agg #[.int .i64 a, .int .i64 b, .int .i64 c]] w fun e w' => e = .returned (.int .i64 (c + b * (4 * a))) ∧ Below w.heap.size w w' := by
  have hm : 0 ≤ b * (4 * a) := Int.mul_nonneg hb (by omega)
  have hm' : b * (4 * a) ≤ 64 * (4 * a) := Int.mul_le_mul_of_nonneg_right hb' (by omega)
  go_enter Tryd.func68, Tryd.ntmps68
  go_wp2
  have hA := At.new w #[.int .i64 a, .int .i64 b, .int .i64 c] 79
  have hB := below_alloc w (.cells #[.int .i64 a, .int .i64 b, .int .i64 c] 79)
  generalize w.alloc (.cells #[.int .i64 a, .int .i64 b, .int .i64 c] 79) = w1 at *
  have e0 := fun x : After w1 => After.cell ((hA.cell 0).trans rfl) x
  have e1 := fun x : After w1 => After.cell ((hA.cell 1).trans rfl) x
  have e2 := fun x : After w1 => After.cell ((hA.cell 2).trans rfl) x
  have HB : Hid (Below w.heap.size w w1) := hB
  clear hA hB
  haveI := After.has w1
  refine wp_region_after (by kernel_rfl) (by kernel_rfl) ?_
  repeat (quiet_step ((go_at_call 62; exact Calls.after (bytes_c a b c _ ha ha'))))
  refine wpQuiet_nil ?_
  intro _ hw'
  obtain ⟨xq, hw''⟩ := hw'
  subst hw''
  have NN : Hid (Below w.heap.size w xq.w) := below_next HB.out xq.below
  go_wp2
  go_ret
  exact ⟨by show Ending.returned (Value.int .i64 (IntKind.i64.wrap (c + IntKind.i64.wrap (b * (4 * a))))) = _; rw [wrap_in (b * (4 * a)) ⟨by omega, by omega⟩, wrap_in (c + b * (4 * a)) ⟨by omega, by omega⟩], NN.out⟩

theorem clsA_c (a b c : Int) (x : Int) (B : Nat) (w : World) (hb : w.cell? ⟨B, 0, none⟩ = some (.int .i64 x)) : Calls Tryd.prog 69 #[.agg #[.int .i64 a, .int .i64 b, .int .i64 c], .pointer (some ⟨B, 0, none⟩)] w fun e w' => e = .returned (.bool (decide (0 ≤ x) && decide (x ≤ a))) ∧ Below w.heap.size w w' := by
  have hb' := cell_new (.cells #[.int .i64 a, .int .i64 b, .int .i64 c] 79) hb
  by_cases hx : 0 ≤ x
  · go_enter Tryd.func69, Tryd.ntmps69
    go_wp2
    go_ret
    exact ⟨by simp [hx], below_alloc _ _⟩
  · go_enter Tryd.func69, Tryd.ntmps69
    go_wp2
    go_ret
    exact ⟨by simp; omega, below_alloc _ _⟩

theorem clsB_c (a b c : Int) (x : Int) (B : Nat) (w : World) (ha : 0 ≤ a) (ha' : a ≤ 128) (hb : 0 ≤ b) (hb' : b ≤ 64) (hc : 0 ≤ c) (hc' : c ≤ 300000) (hw : w.cell? ⟨B, 0, none⟩ = some (.int .i64 x)) : Calls Tryd.prog 67 #[.agg #[.int .i64 a, .int .i64 b, .int .i64 c], .pointer (some ⟨B, 0, none⟩)] w fun e w' => e = .returned (.bool (decide (c ≤ x) && decide (x < c + b * (4 * a)))) ∧ Below w.heap.size w w' := by
  have hw' := cell_new (.cells #[.int .i64 a, .int .i64 b, .int .i64 c] 79) hw
  have E := fun w => end_c a b c w ha ha' hb hb' hc hc'
  generalize c + b * (4 * a) = m at *
  have hd : ∀ q : Bool, decide (c ≤ x) = q → Calls Tryd.prog 67 #[.agg #[.int .i64 a, .int .i64 b, .int .i64 c], .pointer (some ⟨B, 0, none⟩)] w fun e w' => e = .returned (.bool (q && decide (x < m))) ∧ Below w.heap.size w w' := by
    intro q hq
    cases q
    all_goals (
      go_enter Tryd.func67, Tryd.ntmps67
      go_wp2
      have hA := At.new w #[.int .i64 a, .int .i64 b, .int .i64 c] 79
      have hB := below_alloc w (.cells #[.int .i64 a, .int .i64 b, .int .i64 c] 79)
      generalize w.alloc (.cells #[.int .i64 a, .int .i64 b, .int .i64 c] 79) = w1 at *
      have e0 : ∀ x : After w1, x.w.cell? ⟨w.heap.size, 0, none⟩ = some (.int .i64 a) := fun x => After.cell ((hA.cell 0).trans rfl) x
      have e1 : ∀ x : After w1, x.w.cell? ⟨w.heap.size, 1, none⟩ = some (.int .i64 b) := fun x => After.cell ((hA.cell 1).trans rfl) x
      have e2 : ∀ x : After w1, x.w.cell? ⟨w.heap.size, 2, none⟩ = some (.int .i64 c) := fun x => After.cell ((hA.cell 2).trans rfl) x
      have e3 := fun x : After w1 => After.cell hw' x
      have HB : Hid (Below w.heap.size w w1) := hB
      clear hA hB hw'
      haveI := After.has w1
      refine wp_region_after (by kernel_rfl) (by kernel_rfl) ?_
      repeat (quiet_step ((go_at_call 68; exact Calls.after (E _))))
      refine wpQuiet_nil ?_
      intro _ hw'
      obtain ⟨xq, hw''⟩ := hw'
      subst hw''
      have NN : Hid (Below w.heap.size w xq.w) := below_next HB.out xq.below
      go_wp2
      go_ret
      exact ⟨by simp, NN.out⟩)
  exact hd _ rfl

def ffV : Option Nat → Value
  | none => .tuple #[.int .i64 0, .bool false]
  | some k => .tuple #[.int .i64 (k : Int), .bool true]

theorem span_index (k : Nat) (hk : k < 4) (w : World) : (Instr.index 80 (.agg spansC) (.int .i64 (k : Int))).run Tryd.prog w = .ok (spanV k) w := by
  rcases (by omega : k = 0 ∨ k = 1 ∨ k = 2 ∨ k = 3) with rfl | rfl | rfl | rfl <;> kernel_rfl

set_option maxHeartbeats 1000000 in
theorem first26_c (B : Nat) (p : Nat → Bool) (w : World) (ht : Tab w)
    (hcl : ∀ i, i < 4 → ∀ w', Below w.heap.size w w' → Calls Tryd.prog 69 #[spanV i, .pointer (some ⟨B, 0, none⟩)] w' fun e w'' => e = .returned (.bool (p i)) ∧ Below w'.heap.size w' w'') :
    Calls Tryd.prog 66 #[.func (.func 69) #[] #[.pointer (some ⟨B, 0, none⟩)]] w fun e w' => e = .returned (ffV (ff p 4 0)) ∧ Below w.heap.size w w' := by
  have CL : Hid (∀ i, i < 4 → ∀ w', Below w.heap.size w w' → Calls Tryd.prog 69 #[spanV i, .pointer (some ⟨B, 0, none⟩)] w' fun e w'' => e = .returned (.bool (p i)) ∧ Below w'.heap.size w' w'') := hcl
  clear hcl
  obtain ⟨tt, fr, hg⟩ := ht
  generalize hR : ff p 4 0 = R
  go_enter Tryd.func66, Tryd.ntmps66
  go_wp2_with (refine wpList_load_row rfl 80 _ rfl 0 rfl tt _ fr _ hg Tryd.underlying80 rfl (by kernel_rfl) ?_)
  clear hg
  go_loopw [7] (fun i wr => ∃ k : Nat, k ≤ 4 ∧ i = .int .i64 (k : Int) ∧ ff p (4 - k) k = R ∧ Below w.heap.size w wr) (fun i _ => 4 - (intOf i).toNat)
  case atStart => exact ⟨0, by omega, rfl, hR, Below.refl _ _⟩
  case round =>
    obtain ⟨k, hk, rfl, hr, hw⟩ := hrel
    have W : Hid (Below w.heap.size w wr) := hw
    have HR : Hid (ff p (4 - k) k = R) := hr
    have hx : (k : Int) < 4 → ∀ w, (Instr.index 80 (.agg spansC) (.int .i64 (k : Int))).run Tryd.prog w = .ok (.agg #[.int .i64 (sz k : Int), .int .i64 (bl k : Int), .int .i64 (st k : Int)]) w := fun h w => span_index k (by omega) w
    clear hr hR hw
    have hs : k < 4 → ff p (4 - k) k = if p k then some k else ff p (4 - (k + 1)) (k + 1) := fun h => by
      rw [show 4 - k = (4 - (k + 1)) + 1 by omega, ff]
    have HS : Hid (k < 4 → ff p (4 - k) k = if p k then some k else ff p (4 - (k + 1)) (k + 1)) := hs
    clear hs
    go_wp2_with (first
      | (go_at_call 69; refine (CL.out k (by omega) _ (below_next W.out (below_alloc _ _))).mono ?_; rintro e w' ⟨rfl, he⟩; have NN : Hid (Below w.heap.size w w') := below_next (below_next W.out (below_alloc _ _)) he; clear he)
      | go_in)
    · have hk' : (k : Int) < 4 := by assumption
      have h1 := HR.out
      rw [HS.out (by omega), if_pos (by assumption)] at h1
      subst h1
      go_ret2
      exact ⟨rfl, NN.out⟩
    · have hk' : (k : Int) < 4 := by assumption
      have hp : p k = false := by assumption
      go_roundw
      case rel =>
        refine ⟨k + 1, by omega, by go_num, ?_, NN.out⟩
        have h1 := HR.out
        rw [HS.out (by omega), hp] at h1
        simpa using h1
      case measure => simp [intOf]; omega
    · have hk' : 4 ≤ (k : Int) := by assumption
      have h1 := HR.out
      have h2 : k = 4 := by omega
      subst h2
      have h3 : R = none := h1.symm
      subst h3
      go_ret2
      exact ⟨rfl, W.out⟩

set_option maxHeartbeats 1000000 in
theorem first27_c (B : Nat) (p : Nat → Bool) (w : World) (ht : Tab w)
    (hcl : ∀ i, i < 4 → ∀ w', Below w.heap.size w w' → Calls Tryd.prog 67 #[spanV i, .pointer (some ⟨B, 0, none⟩)] w' fun e w'' => e = .returned (.bool (p i)) ∧ Below w'.heap.size w' w'') :
    Calls Tryd.prog 66 #[.func (.func 67) #[] #[.pointer (some ⟨B, 0, none⟩)]] w fun e w' => e = .returned (ffV (ff p 4 0)) ∧ Below w.heap.size w w' := by
  have CL : Hid (∀ i, i < 4 → ∀ w', Below w.heap.size w w' → Calls Tryd.prog 67 #[spanV i, .pointer (some ⟨B, 0, none⟩)] w' fun e w'' => e = .returned (.bool (p i)) ∧ Below w'.heap.size w' w'') := hcl
  clear hcl
  obtain ⟨tt, fr, hg⟩ := ht
  generalize hR : ff p 4 0 = R
  go_enter Tryd.func66, Tryd.ntmps66
  go_wp2_with (refine wpList_load_row rfl 80 _ rfl 0 rfl tt _ fr _ hg Tryd.underlying80 rfl (by kernel_rfl) ?_)
  clear hg
  go_loopw [7] (fun i wr => ∃ k : Nat, k ≤ 4 ∧ i = .int .i64 (k : Int) ∧ ff p (4 - k) k = R ∧ Below w.heap.size w wr) (fun i _ => 4 - (intOf i).toNat)
  case atStart => exact ⟨0, by omega, rfl, hR, Below.refl _ _⟩
  case round =>
    obtain ⟨k, hk, rfl, hr, hw⟩ := hrel
    have W : Hid (Below w.heap.size w wr) := hw
    have HR : Hid (ff p (4 - k) k = R) := hr
    have hx : (k : Int) < 4 → ∀ w, (Instr.index 80 (.agg spansC) (.int .i64 (k : Int))).run Tryd.prog w = .ok (.agg #[.int .i64 (sz k : Int), .int .i64 (bl k : Int), .int .i64 (st k : Int)]) w := fun h w => span_index k (by omega) w
    clear hr hR hw
    have hs : k < 4 → ff p (4 - k) k = if p k then some k else ff p (4 - (k + 1)) (k + 1) := fun h => by
      rw [show 4 - k = (4 - (k + 1)) + 1 by omega, ff]
    have HS : Hid (k < 4 → ff p (4 - k) k = if p k then some k else ff p (4 - (k + 1)) (k + 1)) := hs
    clear hs
    go_wp2_with (first
      | (go_at_call 67; refine (CL.out k (by omega) _ (below_next W.out (below_alloc _ _))).mono ?_; rintro e w' ⟨rfl, he⟩; have NN : Hid (Below w.heap.size w w') := below_next (below_next W.out (below_alloc _ _)) he; clear he)
      | go_in)
    · have hk' : (k : Int) < 4 := by assumption
      have h1 := HR.out
      rw [HS.out (by omega), if_pos (by assumption)] at h1
      subst h1
      go_ret2
      exact ⟨rfl, NN.out⟩
    · have hk' : (k : Int) < 4 := by assumption
      have hp : p k = false := by assumption
      go_roundw
      case rel =>
        refine ⟨k + 1, by omega, by go_num, ?_, NN.out⟩
        have h1 := HR.out
        rw [HS.out (by omega), hp] at h1
        simpa using h1
      case measure => simp [intOf]; omega
    · have hk' : 4 ≤ (k : Int) := by assumption
      have h1 := HR.out
      have h2 : k = 4 := by omega
      subst h2
      have h3 : R = none := h1.symm
      subst h3
      go_ret2
      exact ⟨rfl, W.out⟩

/-- The spans, as numbers. -/
theorem span_le (i : Nat) : sz i ≤ 128 ∧ bl i ≤ 64 ∧ st i ≤ 300000 ∧ 4 ≤ sz i ∧ 8 ≤ bl i ∧ 262144 ≤ st i := by
  unfold sz bl st
  split <;> (try split) <;> (try split) <;> omega

/-- The class of so many words. -/
def clsP (x : Int) (i : Nat) : Bool := decide (0 ≤ x) && decide (x ≤ (sz i : Int))
/-- The class of an address. -/
def atP (x : Int) (i : Nat) : Bool := decide ((st i : Int) ≤ x) && decide (x < (st i : Int) + (bl i : Int) * (4 * (sz i : Int)))

def clsOf (x : Int) : Option Nat := ff (clsP x) 4 0
def atOf (x : Int) : Option Nat := ff (atP x) 4 0

theorem firstA_c (x : Int) (B : Nat) (w : World) (ht : Tab w) (hb : w.cell? ⟨B, 0, none⟩ = some (.int .i64 x)) : Calls Tryd.prog 66 #[.func (.func 69) #[] #[.pointer (some ⟨B, 0, none⟩)]] w fun e w' => e = .returned (ffV (clsOf x)) ∧ Below w.heap.size w w' :=
  first26_c B (clsP x) w ht fun _ _ w' hw => clsA_c _ _ _ x B w' ((hw.cell (World.block_lt_of_cell? _ _ hb)).trans hb)

theorem firstB_c (x : Int) (B : Nat) (w : World) (ht : Tab w) (hb : w.cell? ⟨B, 0, none⟩ = some (.int .i64 x)) : Calls Tryd.prog 66 #[.func (.func 67) #[] #[.pointer (some ⟨B, 0, none⟩)]] w fun e w' => e = .returned (ffV (atOf x)) ∧ Below w.heap.size w w' :=
  first27_c B (atP x) w ht fun i _ w' hw => by
    have := span_le i
    exact clsB_c _ _ _ x B w' (by omega) (by omega) (by omega) (by omega) (by omega) (by omega) ((hw.cell (World.block_lt_of_cell? _ _ hb)).trans hb)
end Go.Proofs.YtapgaclonilnbaaDoor

/-
  Proved: what heap.Class and heap.find answer; and the reference's Class.
-/
namespace Go.Proofs.YtapgaclonilnbaaDoor
open Go.RowKit

def clsV : Option Nat → Value
  | none => .tuple #[.int .i64 0, .int .i64 0, .int .i64 0, .int .i64 2]
  | some k => .tuple #[.int .i64 (k : Int), .int .i64 (sz k : Int), .int .i64 (bl k : Int), .int .i64 0]

theorem Tab.cell {w : World} (h : Tab w) (j : Nat) : w.cell? ⟨0, j, none⟩ = spansC[j]? := by
  obtain ⟨t, fr, h⟩ := h
  simp [World.cell?, h]

theorem class_c (x : Int) (w : World) (ht : Tab w) : Calls Tryd.prog 65 #[.int .i64 x] w fun e w' => e = .returned (clsV (clsOf x)) ∧ Below w.heap.size w w' := by
  have T : Hid (Tab w) := ht
  have F : Hid (∀ B w, Tab w → w.cell? ⟨B, 0, none⟩ = some (.int .i64 x) → Calls Tryd.prog 66 #[.func (.func 69) #[] #[.pointer (some ⟨B, 0, none⟩)]] w fun e w' => e = .returned (ffV (clsOf x)) ∧ Below w.heap.size w w') := fun B w => firstA_c x B w
  have L := ff_lt (clsP x) 4 0
  change ∀ i, clsOf x = some i → _ at L
  clear ht
  generalize clsOf x = R at *
  cases R with
  | none =>
    unfold ffV at F
    go_enter Tryd.func65, Tryd.ntmps65
    go_wp2_with (first
      | (go_at_call 66; refine (F.out _ _ (T.out.below (below_alloc _ _) T.out.lt) (by go_simp)).mono ?_; rintro e w' ⟨rfl, he⟩; have NN : Hid (Below w.heap.size w w') := below_next (below_alloc _ _) he; clear he)
      | go_in)
    refine bodyPost_ret (v := clsV none) (by simp [results, Tryd.results65, go_sem, clsV]) rfl ⟨rfl, NN.out⟩
  | some k =>
    have hk := (L k rfl).2.1
    clear L
    rcases (by omega : k = 0 ∨ k = 1 ∨ k = 2 ∨ k = 3) with rfl | rfl | rfl | rfl
    all_goals (
      unfold ffV at F
      go_enter Tryd.func65, Tryd.ntmps65
      go_wp2_with (first
        | (go_at_call 66; refine (F.out _ _ (T.out.below (below_alloc _ _) T.out.lt) (by go_simp)).mono ?_; rintro e w' ⟨rfl, he⟩; have NN : Hid (Below w.heap.size w w') := below_next (below_alloc _ _) he; clear he)
        | go_in)
      have TT : Tab w' := T.out.below NN.out T.out.lt
      have t0 : w'.cell? ⟨0, 0, none⟩ = some (.int .i64 4) := (TT.cell 0).trans rfl
      have t1 : w'.cell? ⟨0, 1, none⟩ = some (.int .i64 64) := (TT.cell 1).trans rfl
      have t2 : w'.cell? ⟨0, 2, none⟩ = some (.int .i64 262144) := (TT.cell 2).trans rfl
      have t3 : w'.cell? ⟨0, 3, none⟩ = some (.int .i64 16) := (TT.cell 3).trans rfl
      have t4 : w'.cell? ⟨0, 4, none⟩ = some (.int .i64 32) := (TT.cell 4).trans rfl
      have t5 : w'.cell? ⟨0, 5, none⟩ = some (.int .i64 263168) := (TT.cell 5).trans rfl
      have t6 : w'.cell? ⟨0, 6, none⟩ = some (.int .i64 64) := (TT.cell 6).trans rfl
      have t7 : w'.cell? ⟨0, 7, none⟩ = some (.int .i64 16) := (TT.cell 7).trans rfl
      have t8 : w'.cell? ⟨0, 8, none⟩ = some (.int .i64 265216) := (TT.cell 8).trans rfl
      have t9 : w'.cell? ⟨0, 9, none⟩ = some (.int .i64 128) := (TT.cell 9).trans rfl
      have t10 : w'.cell? ⟨0, 10, none⟩ = some (.int .i64 8) := (TT.cell 10).trans rfl
      have t11 : w'.cell? ⟨0, 11, none⟩ = some (.int .i64 269312) := (TT.cell 11).trans rfl
      clear TT
      go_quiet (fail)
      go_wp2)
    all_goals exact bodyPost_ret (v := clsV (some _)) (by simp [results, Tryd.results65, go_sem, clsV, sz, bl]; done) rfl ⟨rfl, drew_below NN.out _⟩

theorem clsP_eq (x : Int) (i : Nat) (b : Bool) (h : (0 ≤ x ∧ x ≤ (sz i : Int)) ↔ b = true) : clsP x i = b := by
  have : clsP x i = true ↔ b = true := by rw [← h]; simp [clsP]
  cases b <;> simp_all

theorem clsOf_eq (x : Int) : clsOf x = if x < 0 ∨ 128 < x then none else if x ≤ 4 then some 0 else if x ≤ 16 then some 1 else if x ≤ 64 then some 2 else some 3 := by
  have s0 : sz 0 = 4 := rfl
  have s1 : sz 1 = 16 := rfl
  have s2 : sz 2 = 64 := rfl
  have s3 : sz 3 = 128 := rfl
  rcases (by omega : (x < 0) ∨ (128 < x) ∨ (0 ≤ x ∧ x ≤ 4) ∨ (4 < x ∧ x ≤ 16) ∨ (16 < x ∧ x ≤ 64) ∨ (64 < x ∧ x ≤ 128)) with h | h | h | h | h | h
  · have a0 := clsP_eq x 0 false (by simp; omega)
    have a1 := clsP_eq x 1 false (by simp; omega)
    have a2 := clsP_eq x 2 false (by simp; omega)
    have a3 := clsP_eq x 3 false (by simp; omega)
    rw [if_pos (by omega)]
    simp [clsOf, ff, a0, a1, a2, a3]
  · have a0 := clsP_eq x 0 false (by simp; omega)
    have a1 := clsP_eq x 1 false (by simp; omega)
    have a2 := clsP_eq x 2 false (by simp; omega)
    have a3 := clsP_eq x 3 false (by simp; omega)
    rw [if_pos (by omega)]
    simp [clsOf, ff, a0, a1, a2, a3]
  · have a0 := clsP_eq x 0 true (by simp; omega)
    rw [if_neg (by omega), if_pos (by omega)]
    simp [clsOf, ff, a0]
  · have a0 := clsP_eq x 0 false (by simp; omega)
    have a1 := clsP_eq x 1 true (by simp; omega)
    rw [if_neg (by omega), if_neg (by omega), if_pos (by omega)]
    simp [clsOf, ff, a0, a1]
  · have a0 := clsP_eq x 0 false (by simp; omega)
    have a1 := clsP_eq x 1 false (by simp; omega)
    have a2 := clsP_eq x 2 true (by simp; omega)
    rw [if_neg (by omega), if_neg (by omega), if_neg (by omega), if_pos (by omega)]
    simp [clsOf, ff, a0, a1, a2]
  · have a0 := clsP_eq x 0 false (by simp; omega)
    have a1 := clsP_eq x 1 false (by simp; omega)
    have a2 := clsP_eq x 2 false (by simp; omega)
    have a3 := clsP_eq x 3 true (by simp; omega)
    rw [if_neg (by omega), if_neg (by omega), if_neg (by omega), if_neg (by omega)]
    simp [clsOf, ff, a0, a1, a2, a3]

def placeV (x : Int) : Option Nat → Value
  | none => .tuple #[.agg #[.int .i64 0, .int .i64 0, .int .i64 0], .bool false]
  | some k => .tuple #[.agg #[.int .i64 (k : Int), .int .i64 ((x - st k) / (4 * (sz k : Int))), .int .i64 ((x - st k) % (4 * (sz k : Int)))], .bool true]

theorem find_c (x : Int) (w : World) (ht : Tab w) : Calls Tryd.prog 61 #[.int .i64 x] w fun e w' => e = .returned (placeV x (atOf x)) ∧ Below w.heap.size w w' := by
  have T : Hid (Tab w) := ht
  have F : Hid (∀ B w, Tab w → w.cell? ⟨B, 0, none⟩ = some (.int .i64 x) → Calls Tryd.prog 66 #[.func (.func 67) #[] #[.pointer (some ⟨B, 0, none⟩)]] w fun e w' => e = .returned (ffV (atOf x)) ∧ Below w.heap.size w w') := fun B w => firstB_c x B w
  have L := ff_lt (atP x) 4 0
  change ∀ i, atOf x = some i → _ at L
  clear ht
  generalize atOf x = R at *
  cases R with
  | none =>
    unfold ffV at F
    go_enter Tryd.func61, Tryd.ntmps61
    go_wp2_with ((go_at_call 66; refine (F.out _ _ (T.out.below (below_two _ _ _) T.out.lt) (by go_simp)).mono ?_; rintro e w' ⟨rfl, he⟩; have NN : Hid (Below w.heap.size w w') := below_next (below_two _ _ _) he; have AB : Hid (At w' w.heap.size #[.int .i64 x] 3) := ((At.new _ _ _).below (below_alloc _ _) (by simp)).below he (by simp; omega); have AP : Hid (At w' (w.heap.size + 1) #[.int .i64 0, .int .i64 0, .int .i64 0] 121) := (At.newS _ _ _ (by simp)).below he (by simp); clear he; have g0 : w'.cell? ⟨w.heap.size + 1, 0, none⟩ = some (.int .i64 0) := (AP.out.cell 0).trans rfl; have g1 : w'.cell? ⟨w.heap.size + 1, 1, none⟩ = some (.int .i64 0) := (AP.out.cell 1).trans rfl; have g2 : w'.cell? ⟨w.heap.size + 1, 2, none⟩ = some (.int .i64 0) := (AP.out.cell 2).trans rfl; have k0 := AP.out.frozen 0; have k1 := AP.out.frozen 1; have k2 := AP.out.frozen 2; have kl := AP.out.lt))
    exact bodyPost_ret (v := placeV x none) (by simp [results, Tryd.results61, go_sem, g0, g1, g2, placeV]) rfl ⟨rfl, ((NN.out.setCell (p := ⟨w.heap.size + 1, 0, none⟩) (by simp) _).setCell (p := ⟨w.heap.size + 1, 1, none⟩) (by simp) _).setCell (p := ⟨w.heap.size + 1, 2, none⟩) (by simp) _⟩
  | some k =>
    have hk := (L k rfl).2.1
    have hq := (L k rfl).2.2
    clear L
    rcases (by omega : k = 0 ∨ k = 1 ∨ k = 2 ∨ k = 3) with rfl | rfl | rfl | rfl
    · have hq' : 262144 ≤ x ∧ x < 263168 := by simpa [atP, st, bl, sz] using hq
      have hq1 := hq'.1
      have hq2 := hq'.2
      clear hq hq' hk
      unfold ffV at F
      go_enter Tryd.func61, Tryd.ntmps61
      go_wp2_with ((go_at_call 66; refine (F.out _ _ (T.out.below (below_two _ _ _) T.out.lt) (by go_simp)).mono ?_; rintro e w' ⟨rfl, he⟩; have NN : Hid (Below w.heap.size w w') := below_next (below_two _ _ _) he; have AB : Hid (At w' w.heap.size #[.int .i64 x] 3) := ((At.new _ _ _).below (below_alloc _ _) (by simp)).below he (by simp; omega); have AP : Hid (At w' (w.heap.size + 1) #[.int .i64 0, .int .i64 0, .int .i64 0] 121) := (At.newS _ _ _ (by simp)).below he (by simp); clear he))
      have TT : Tab w' := T.out.below NN.out T.out.lt
      have t0 : ∀ x : After w', x.w.cell? ⟨0, 0, none⟩ = some (.int .i64 4) := fun x => After.cell ((TT.cell 0).trans rfl) x
      have t1 : ∀ x : After w', x.w.cell? ⟨0, 1, none⟩ = some (.int .i64 64) := fun x => After.cell ((TT.cell 1).trans rfl) x
      have t2 : ∀ x : After w', x.w.cell? ⟨0, 2, none⟩ = some (.int .i64 262144) := fun x => After.cell ((TT.cell 2).trans rfl) x
      have e0 : ∀ y : After w', y.w.cell? ⟨w.heap.size, 0, none⟩ = some (.int .i64 x) := fun y => After.cell ((AB.out.cell 0).trans rfl) y
      clear TT
      haveI := After.has w'
      refine wp_region_after (by kernel_rfl) (by kernel_rfl) ?_
      repeat (quiet_step ((go_at_call 62; exact Calls.after (bytes_c 4 64 262144 _ (by omega) (by omega)))))
      refine wpQuiet_nil ?_
      intro _ hw'
      obtain ⟨xq, hw''⟩ := hw'
      subst hw''
      have AP : Hid (At xq.w (w.heap.size + 1) #[.int .i64 0, .int .i64 0, .int .i64 0] 121) := AP.out.below xq.below AP.out.lt
      have NN : Hid (Below w.heap.size w xq.w) := below_next NN.out xq.below
      clear AB t0 t1 t2 e0
      have g0 : xq.w.cell? ⟨w.heap.size + 1, 0, none⟩ = some (.int .i64 0) := (AP.out.cell 0).trans rfl; have g1 : xq.w.cell? ⟨w.heap.size + 1, 1, none⟩ = some (.int .i64 0) := (AP.out.cell 1).trans rfl; have g2 : xq.w.cell? ⟨w.heap.size + 1, 2, none⟩ = some (.int .i64 0) := (AP.out.cell 2).trans rfl; have k0 := AP.out.frozen 0; have k1 := AP.out.frozen 1; have k2 := AP.out.frozen 2; have kl := AP.out.lt
      go_wp2
      rw [wrap_in (x - 262144) ⟨by omega, by omega⟩]
      go_region_held3 (fun _ => True) (trivial) (fail)
      all_goals go_wp2
      rw [Int.tdiv_eq_ediv_of_nonneg (show 0 ≤ x - 262144 by omega), Int.tmod_eq_emod_of_nonneg (show 0 ≤ x - 262144 by omega), wrap_in ((x - 262144) / 16) ⟨by omega, by omega⟩]
      exact bodyPost_ret (v := placeV x (some 0)) (by simp [results, Tryd.results61, go_sem, g0, g1, g2, placeV, st, sz]) rfl ⟨rfl, (((NN.out.setCell (p := ⟨w.heap.size + 1, 0, none⟩) (by simp) _).setCell (p := ⟨w.heap.size + 1, 1, none⟩) (by simp) _).setCell (p := ⟨w.heap.size + 1, 2, none⟩) (by simp) _).drew⟩
    · have hq' : 263168 ≤ x ∧ x < 265216 := by simpa [atP, st, bl, sz] using hq
      have hq1 := hq'.1
      have hq2 := hq'.2
      clear hq hq' hk
      unfold ffV at F
      go_enter Tryd.func61, Tryd.ntmps61
      go_wp2_with ((go_at_call 66; refine (F.out _ _ (T.out.below (below_two _ _ _) T.out.lt) (by go_simp)).mono ?_; rintro e w' ⟨rfl, he⟩; have NN : Hid (Below w.heap.size w w') := below_next (below_two _ _ _) he; have AB : Hid (At w' w.heap.size #[.int .i64 x] 3) := ((At.new _ _ _).below (below_alloc _ _) (by simp)).below he (by simp; omega); have AP : Hid (At w' (w.heap.size + 1) #[.int .i64 0, .int .i64 0, .int .i64 0] 121) := (At.newS _ _ _ (by simp)).below he (by simp); clear he))
      have TT : Tab w' := T.out.below NN.out T.out.lt
      have t3 : ∀ x : After w', x.w.cell? ⟨0, 3, none⟩ = some (.int .i64 16) := fun x => After.cell ((TT.cell 3).trans rfl) x
      have t4 : ∀ x : After w', x.w.cell? ⟨0, 4, none⟩ = some (.int .i64 32) := fun x => After.cell ((TT.cell 4).trans rfl) x
      have t5 : ∀ x : After w', x.w.cell? ⟨0, 5, none⟩ = some (.int .i64 263168) := fun x => After.cell ((TT.cell 5).trans rfl) x
      have e0 : ∀ y : After w', y.w.cell? ⟨w.heap.size, 0, none⟩ = some (.int .i64 x) := fun y => After.cell ((AB.out.cell 0).trans rfl) y
      clear TT
      haveI := After.has w'
      refine wp_region_after (by kernel_rfl) (by kernel_rfl) ?_
      repeat (quiet_step ((go_at_call 62; exact Calls.after (bytes_c 16 32 263168 _ (by omega) (by omega)))))
      refine wpQuiet_nil ?_
      intro _ hw'
      obtain ⟨xq, hw''⟩ := hw'
      subst hw''
      have AP : Hid (At xq.w (w.heap.size + 1) #[.int .i64 0, .int .i64 0, .int .i64 0] 121) := AP.out.below xq.below AP.out.lt
      have NN : Hid (Below w.heap.size w xq.w) := below_next NN.out xq.below
      clear AB t3 t4 t5 e0
      have g0 : xq.w.cell? ⟨w.heap.size + 1, 0, none⟩ = some (.int .i64 0) := (AP.out.cell 0).trans rfl; have g1 : xq.w.cell? ⟨w.heap.size + 1, 1, none⟩ = some (.int .i64 0) := (AP.out.cell 1).trans rfl; have g2 : xq.w.cell? ⟨w.heap.size + 1, 2, none⟩ = some (.int .i64 0) := (AP.out.cell 2).trans rfl; have k0 := AP.out.frozen 0; have k1 := AP.out.frozen 1; have k2 := AP.out.frozen 2; have kl := AP.out.lt
      go_wp2
      rw [wrap_in (x - 263168) ⟨by omega, by omega⟩]
      go_region_held3 (fun _ => True) (trivial) (fail)
      all_goals go_wp2
      rw [Int.tdiv_eq_ediv_of_nonneg (show 0 ≤ x - 263168 by omega), Int.tmod_eq_emod_of_nonneg (show 0 ≤ x - 263168 by omega), wrap_in ((x - 263168) / 64) ⟨by omega, by omega⟩]
      exact bodyPost_ret (v := placeV x (some 1)) (by simp [results, Tryd.results61, go_sem, g0, g1, g2, placeV, st, sz]) rfl ⟨rfl, (((NN.out.setCell (p := ⟨w.heap.size + 1, 0, none⟩) (by simp) _).setCell (p := ⟨w.heap.size + 1, 1, none⟩) (by simp) _).setCell (p := ⟨w.heap.size + 1, 2, none⟩) (by simp) _).drew⟩
    · have hq' : 265216 ≤ x ∧ x < 269312 := by simpa [atP, st, bl, sz] using hq
      have hq1 := hq'.1
      have hq2 := hq'.2
      clear hq hq' hk
      unfold ffV at F
      go_enter Tryd.func61, Tryd.ntmps61
      go_wp2_with ((go_at_call 66; refine (F.out _ _ (T.out.below (below_two _ _ _) T.out.lt) (by go_simp)).mono ?_; rintro e w' ⟨rfl, he⟩; have NN : Hid (Below w.heap.size w w') := below_next (below_two _ _ _) he; have AB : Hid (At w' w.heap.size #[.int .i64 x] 3) := ((At.new _ _ _).below (below_alloc _ _) (by simp)).below he (by simp; omega); have AP : Hid (At w' (w.heap.size + 1) #[.int .i64 0, .int .i64 0, .int .i64 0] 121) := (At.newS _ _ _ (by simp)).below he (by simp); clear he))
      have TT : Tab w' := T.out.below NN.out T.out.lt
      have t6 : ∀ x : After w', x.w.cell? ⟨0, 6, none⟩ = some (.int .i64 64) := fun x => After.cell ((TT.cell 6).trans rfl) x
      have t7 : ∀ x : After w', x.w.cell? ⟨0, 7, none⟩ = some (.int .i64 16) := fun x => After.cell ((TT.cell 7).trans rfl) x
      have t8 : ∀ x : After w', x.w.cell? ⟨0, 8, none⟩ = some (.int .i64 265216) := fun x => After.cell ((TT.cell 8).trans rfl) x
      have e0 : ∀ y : After w', y.w.cell? ⟨w.heap.size, 0, none⟩ = some (.int .i64 x) := fun y => After.cell ((AB.out.cell 0).trans rfl) y
      clear TT
      haveI := After.has w'
      refine wp_region_after (by kernel_rfl) (by kernel_rfl) ?_
      repeat (quiet_step ((go_at_call 62; exact Calls.after (bytes_c 64 16 265216 _ (by omega) (by omega)))))
      refine wpQuiet_nil ?_
      intro _ hw'
      obtain ⟨xq, hw''⟩ := hw'
      subst hw''
      have AP : Hid (At xq.w (w.heap.size + 1) #[.int .i64 0, .int .i64 0, .int .i64 0] 121) := AP.out.below xq.below AP.out.lt
      have NN : Hid (Below w.heap.size w xq.w) := below_next NN.out xq.below
      clear AB t6 t7 t8 e0
      have g0 : xq.w.cell? ⟨w.heap.size + 1, 0, none⟩ = some (.int .i64 0) := (AP.out.cell 0).trans rfl; have g1 : xq.w.cell? ⟨w.heap.size + 1, 1, none⟩ = some (.int .i64 0) := (AP.out.cell 1).trans rfl; have g2 : xq.w.cell? ⟨w.heap.size + 1, 2, none⟩ = some (.int .i64 0) := (AP.out.cell 2).trans rfl; have k0 := AP.out.frozen 0; have k1 := AP.out.frozen 1; have k2 := AP.out.frozen 2; have kl := AP.out.lt
      go_wp2
      rw [wrap_in (x - 265216) ⟨by omega, by omega⟩]
      go_region_held3 (fun _ => True) (trivial) (fail)
      all_goals go_wp2
      rw [Int.tdiv_eq_ediv_of_nonneg (show 0 ≤ x - 265216 by omega), Int.tmod_eq_emod_of_nonneg (show 0 ≤ x - 265216 by omega), wrap_in ((x - 265216) / 256) ⟨by omega, by omega⟩]
      exact bodyPost_ret (v := placeV x (some 2)) (by simp [results, Tryd.results61, go_sem, g0, g1, g2, placeV, st, sz]) rfl ⟨rfl, (((NN.out.setCell (p := ⟨w.heap.size + 1, 0, none⟩) (by simp) _).setCell (p := ⟨w.heap.size + 1, 1, none⟩) (by simp) _).setCell (p := ⟨w.heap.size + 1, 2, none⟩) (by simp) _).drew⟩
    · have hq' : 269312 ≤ x ∧ x < 273408 := by simpa [atP, st, bl, sz] using hq
      have hq1 := hq'.1
      have hq2 := hq'.2
      clear hq hq' hk
      unfold ffV at F
      go_enter Tryd.func61, Tryd.ntmps61
      go_wp2_with ((go_at_call 66; refine (F.out _ _ (T.out.below (below_two _ _ _) T.out.lt) (by go_simp)).mono ?_; rintro e w' ⟨rfl, he⟩; have NN : Hid (Below w.heap.size w w') := below_next (below_two _ _ _) he; have AB : Hid (At w' w.heap.size #[.int .i64 x] 3) := ((At.new _ _ _).below (below_alloc _ _) (by simp)).below he (by simp; omega); have AP : Hid (At w' (w.heap.size + 1) #[.int .i64 0, .int .i64 0, .int .i64 0] 121) := (At.newS _ _ _ (by simp)).below he (by simp); clear he))
      have TT : Tab w' := T.out.below NN.out T.out.lt
      have t9 : ∀ x : After w', x.w.cell? ⟨0, 9, none⟩ = some (.int .i64 128) := fun x => After.cell ((TT.cell 9).trans rfl) x
      have t10 : ∀ x : After w', x.w.cell? ⟨0, 10, none⟩ = some (.int .i64 8) := fun x => After.cell ((TT.cell 10).trans rfl) x
      have t11 : ∀ x : After w', x.w.cell? ⟨0, 11, none⟩ = some (.int .i64 269312) := fun x => After.cell ((TT.cell 11).trans rfl) x
      have e0 : ∀ y : After w', y.w.cell? ⟨w.heap.size, 0, none⟩ = some (.int .i64 x) := fun y => After.cell ((AB.out.cell 0).trans rfl) y
      clear TT
      haveI := After.has w'
      refine wp_region_after (by kernel_rfl) (by kernel_rfl) ?_
      repeat (quiet_step ((go_at_call 62; exact Calls.after (bytes_c 128 8 269312 _ (by omega) (by omega)))))
      refine wpQuiet_nil ?_
      intro _ hw'
      obtain ⟨xq, hw''⟩ := hw'
      subst hw''
      have AP : Hid (At xq.w (w.heap.size + 1) #[.int .i64 0, .int .i64 0, .int .i64 0] 121) := AP.out.below xq.below AP.out.lt
      have NN : Hid (Below w.heap.size w xq.w) := below_next NN.out xq.below
      clear AB t9 t10 t11 e0
      have g0 : xq.w.cell? ⟨w.heap.size + 1, 0, none⟩ = some (.int .i64 0) := (AP.out.cell 0).trans rfl; have g1 : xq.w.cell? ⟨w.heap.size + 1, 1, none⟩ = some (.int .i64 0) := (AP.out.cell 1).trans rfl; have g2 : xq.w.cell? ⟨w.heap.size + 1, 2, none⟩ = some (.int .i64 0) := (AP.out.cell 2).trans rfl; have k0 := AP.out.frozen 0; have k1 := AP.out.frozen 1; have k2 := AP.out.frozen 2; have kl := AP.out.lt
      go_wp2
      rw [wrap_in (x - 269312) ⟨by omega, by omega⟩]
      go_region_held3 (fun _ => True) (trivial) (fail)
      all_goals go_wp2
      rw [Int.tdiv_eq_ediv_of_nonneg (show 0 ≤ x - 269312 by omega), Int.tmod_eq_emod_of_nonneg (show 0 ≤ x - 269312 by omega), wrap_in ((x - 269312) / 512) ⟨by omega, by omega⟩]
      exact bodyPost_ret (v := placeV x (some 3)) (by simp [results, Tryd.results61, go_sem, g0, g1, g2, placeV, st, sz]) rfl ⟨rfl, (((NN.out.setCell (p := ⟨w.heap.size + 1, 0, none⟩) (by simp) _).setCell (p := ⟨w.heap.size + 1, 1, none⟩) (by simp) _).setCell (p := ⟨w.heap.size + 1, 2, none⟩) (by simp) _).drew⟩
end Go.Proofs.YtapgaclonilnbaaDoor

/-
  Proved: what a heap is in memory; heap.New makes one in which no block is in use.
-/
namespace Go.Proofs.YtapgaclonilnbaaDoor
open Go.RowKit

/-- The lists of a heap, of the first k classes. -/
def sl (g : Nat → Nat) (k j : Nat) : Value := if j < k then .slice (some ⟨g j, 0, none⟩) (bl j) (bl j) else .slice none 0 0
def hC (g : Nat → Nat) (k : Nat) : Array Value := #[sl g k 0, sl g k 1, sl g k 2, sl g k 3]

/-- Which blocks of a class are in use, as cells. -/
def uC (us : Nat → Nat → Bool) (c : Nat) : Array Value := Array.ofFn fun k : Fin (bl c) => Value.bool (us c k)

theorem uC_get (us : Nat → Nat → Bool) (c k : Nat) (h : k < bl c) : (uC us c)[k]? = some (.bool (us c k)) := by
  simp [uC, h]

def upd (us : Nat → Nat → Bool) (c k : Nat) (v : Bool) : Nat → Nat → Bool := fun c' k' => if c' = c ∧ k' = k then v else us c' k'

theorem uC_set (us : Nat → Nat → Bool) (c k : Nat) (v : Bool) : (uC us c).setIfInBounds k (.bool v) = uC (upd us c k v) c := by
  apply Array.ext
  · simp [uC]
  · intro i h1 h2
    have hi : i < bl c := by simpa [uC] using h2
    rw [Array.getElem_setIfInBounds (by simpa [uC] using hi)]
    by_cases hk : k = i
    · subst hk; simp [uC, upd]
    · rw [if_neg hk]
      simp [uC, upd, Ne.symm hk]

theorem uC_far (us : Nat → Nat → Bool) (c k c' : Nat) (v : Bool) (h : c' ≠ c) : uC (upd us c k v) c' = uC us c' := by
  unfold uC upd
  simp [h]

/-- A heap in memory: its block, its lists' blocks, which are in use; all from a block on. -/
structure HIn (w : World) (hb : Nat) (g : Nat → Nat) (us : Nat → Nat → Bool) : Prop where
  head : At w hb (hC g 4) 77
  rows : ∀ c, c < 4 → At w (g c) (uC us c) 4
  after : ∀ c, c < 4 → hb < g c
  inc : ∀ c d, c < d → d < 4 → g c < g d

theorem HIn.keep {w w' : World} {hb : Nat} {g : Nat → Nat} {us : Nat → Nat → Bool} (h : HIn w hb g us) (k : ∀ b, b = hb ∨ (∃ c, c < 4 ∧ b = g c) → w'.heap[b]? = w.heap[b]?) : HIn w' hb g us :=
  ⟨(k hb (Or.inl rfl)).trans h.head, fun c hc => (k (g c) (Or.inr ⟨c, hc, rfl⟩)).trans (h.rows c hc), h.after, h.inc⟩

theorem HIn.below {w w' : World} {hb : Nat} {g : Nat → Nat} {us : Nat → Nat → Bool} (h : HIn w hb g us) (k : Below w.heap.size w w') : HIn w' hb g us :=
  h.keep fun b hb' => k.block b (by
    rcases hb' with rfl | ⟨c, hc, rfl⟩
    · exact h.head.lt
    · exact (h.rows c hc).lt)

theorem HIn.inj {w : World} {hb : Nat} {g : Nat → Nat} {us : Nat → Nat → Bool} (h : HIn w hb g us) {c d : Nat} (hc : c < 4) (hd : d < 4) (hn : c ≠ d) : g c ≠ g d := by
  rcases Nat.lt_or_gt_of_ne hn with h1 | h1
  · exact Nat.ne_of_lt (h.inc c d h1 hd)
  · exact Ne.symm (Nat.ne_of_lt (h.inc d c h1 hc))

theorem HIn.set {w : World} {hb : Nat} {g : Nat → Nat} {us : Nat → Nat → Bool} (h : HIn w hb g us) {c : Nat} (hc : c < 4) (k : Nat) (v : Bool) : HIn (w.setCell ⟨g c, k, none⟩ (.bool v)) hb g (upd us c k v) := by
  refine ⟨?_, fun d hd => ?_, h.after, h.inc⟩
  · exact (Below.heap_setCell w ⟨g c, k, none⟩ _ hb (by have := h.after c hc; show hb ≠ g c; omega)).trans h.head
  · by_cases hn : d = c
    · subst hn
      have := (h.rows d hd).set (j := k) (.bool v)
      rwa [uC_set] at this
    · rw [uC_far _ _ _ _ _ hn]
      exact (Below.heap_setCell w ⟨g c, k, none⟩ _ (g d) (by have := h.inj hd hc hn; exact this)).trans (h.rows d hd)

theorem HIn.cell {w : World} {hb : Nat} {g : Nat → Nat} {us : Nat → Nat → Bool} (h : HIn w hb g us) {c : Nat} (hc : c < 4) : w.cell? ⟨hb, c, none⟩ = some (.slice (some ⟨g c, 0, none⟩) (bl c) (bl c)) := by
  rw [h.head.cell]
  rcases (by omega : c = 0 ∨ c = 1 ∨ c = 2 ∨ c = 3) with rfl | rfl | rfl | rfl <;> simp [hC, sl]

theorem HIn.bit {w : World} {hb : Nat} {g : Nat → Nat} {us : Nat → Nat → Bool} (h : HIn w hb g us) {c k : Nat} (hc : c < 4) (hk : k < bl c) : w.cell? ⟨g c, k, none⟩ = some (.bool (us c k)) := by
  rw [(h.rows c hc).cell, uC_get _ _ _ hk]

theorem uC_none (c : Nat) : uC (fun _ _ => false) c = Array.replicate (bl c) (Value.bool false) := by
  apply Array.ext
  · simp [uC]
  · intro i h1 h2
    simp [uC]

theorem mk0 (w : World) : (Instr.makeSlice 74 (.int .i64 64) (.int .i64 64)).run Tryd.prog w = .ok (.slice (some ⟨w.heap.size, 0, none⟩) 64 64) (w.alloc (.cells (uC (fun _ _ => false) 0) 4)) := by rw [uC_none]; kernel_rfl
theorem mk1 (w : World) : (Instr.makeSlice 74 (.int .i64 32) (.int .i64 32)).run Tryd.prog w = .ok (.slice (some ⟨w.heap.size, 0, none⟩) 32 32) (w.alloc (.cells (uC (fun _ _ => false) 1) 4)) := by rw [uC_none]; kernel_rfl
theorem mk2 (w : World) : (Instr.makeSlice 74 (.int .i64 16) (.int .i64 16)).run Tryd.prog w = .ok (.slice (some ⟨w.heap.size, 0, none⟩) 16 16) (w.alloc (.cells (uC (fun _ _ => false) 2) 4)) := by rw [uC_none]; kernel_rfl
theorem mk3 (w : World) : (Instr.makeSlice 74 (.int .i64 8) (.int .i64 8)).run Tryd.prog w = .ok (.slice (some ⟨w.heap.size, 0, none⟩) 8 8) (w.alloc (.cells (uC (fun _ _ => false) 3) 4)) := by rw [uC_none]; kernel_rfl

theorem hC_step (g : Nat → Nat) (k b : Nat) (hk : k < 4) : (hC g k).setIfInBounds k (.slice (some ⟨b, 0, none⟩) (bl k) (bl k)) = hC (fun c => if c = k then b else g c) (k + 1) := by
  rcases (by omega : k = 0 ∨ k = 1 ∨ k = 2 ∨ k = 3) with rfl | rfl | rfl | rfl <;> simp [hC, sl]

theorem new_step (w wr w2 : World) (k : Nat) (hk : k < 4) (g : Nat → Nat) (h : Below w.heap.size w wr ∧ At wr w.heap.size (hC g k) 77 ∧ (∀ c, c < k → At wr (g c) (uC (fun _ _ => false) c) 4) ∧ (∀ c, c < k → w.heap.size < g c) ∧ (∀ c d, c < d → d < k → g c < g d)) (h2 : Below wr.heap.size wr w2) :
    ∃ g', Below w.heap.size w ((w2.setCell ⟨w.heap.size, k, none⟩ (.slice (some ⟨w2.heap.size, 0, none⟩) (bl k) (bl k))).alloc (.cells (uC (fun _ _ => false) k) 4)).drew ∧ At ((w2.setCell ⟨w.heap.size, k, none⟩ (.slice (some ⟨w2.heap.size, 0, none⟩) (bl k) (bl k))).alloc (.cells (uC (fun _ _ => false) k) 4)).drew w.heap.size (hC g' (k + 1)) 77 ∧ (∀ c, c < k + 1 → At ((w2.setCell ⟨w.heap.size, k, none⟩ (.slice (some ⟨w2.heap.size, 0, none⟩) (bl k) (bl k))).alloc (.cells (uC (fun _ _ => false) k) 4)).drew (g' c) (uC (fun _ _ => false) c) 4) ∧ (∀ c, c < k + 1 → w.heap.size < g' c) ∧ (∀ c d, c < d → d < k + 1 → g' c < g' d) := by
  obtain ⟨hB, hA, hR, hG, hI⟩ := h
  have l1 := hA.lt
  have l2 := h2.size
  have hS : (w2.setCell ⟨w.heap.size, k, none⟩ (.slice (some ⟨w2.heap.size, 0, none⟩) (bl k) (bl k))).heap.size = w2.heap.size := by simp [World.setCell]
  have hA2 := (hA.below h2 hA.lt).set (j := k) (.slice (some ⟨w2.heap.size, 0, none⟩) (bl k) (bl k))
  rw [hC_step g k _ hk] at hA2
  refine ⟨fun c => if c = k then w2.heap.size else g c, ?_, ?_, ?_, ?_, ?_⟩
  · exact (((below_next hB h2).setCell (Nat.le_refl _) _).alloc (by rw [hS]; omega) _).drew
  · exact hA2.below (below_alloc _ _).drew hA2.lt
  · intro c hc
    by_cases e : c = k
    · subst e
      simp only [if_true]
      exact At.newS _ _ _ hS
    · simp only [if_neg e]
      have a1 := hR c (by omega)
      have a2 := hG c (by omega)
      have a3 : At (w2.setCell ⟨w.heap.size, k, none⟩ (.slice (some ⟨w2.heap.size, 0, none⟩) (bl k) (bl k))) (g c) (uC (fun _ _ => false) c) 4 := (Below.heap_setCell w2 ⟨w.heap.size, k, none⟩ _ (g c) (by show g c ≠ w.heap.size; omega)).trans (a1.below h2 a1.lt)
      exact a3.below (below_alloc _ _).drew a3.lt
  · intro c hc
    by_cases e : c = k
    · simp only [if_pos e]; omega
    · simp only [if_neg e]; exact hG c (by omega)
  · intro c d hcd hd
    have hck : c ≠ k := by omega
    simp only [if_neg hck]
    by_cases e : d = k
    · simp only [if_pos e]
      have := (hR c (by omega)).lt
      omega
    · simp only [if_neg e]; exact hI c d hcd (by omega)

set_option maxHeartbeats 1000000 in
theorem new_c (w : World) (ht : Tab w) : Calls Tryd.prog 15 #[] w fun e w' => ∃ g, e = .returned (.pointer (some ⟨w.heap.size, 0, none⟩)) ∧ Below w.heap.size w w' ∧ HIn w' w.heap.size g (fun _ _ => false) := by
  have T : Hid (Tab w) := ht
  obtain ⟨tt, fr, hg⟩ := T.out.below (below_alloc w (.cells #[.slice none 0 0, .slice none 0 0, .slice none 0 0, .slice none 0 0] 77)) T.out.lt
  clear ht
  go_enter Tryd.func15, Tryd.ntmps15
  go_wp2_with (refine wpList_load_row rfl 80 _ rfl 0 rfl tt _ fr _ hg Tryd.underlying80 rfl (by kernel_rfl) ?_)
  clear hg
  have HA : Hid (At (w.alloc (.cells #[.slice none 0 0, .slice none 0 0, .slice none 0 0, .slice none 0 0] 77)) w.heap.size #[.slice none 0 0, .slice none 0 0, .slice none 0 0, .slice none 0 0] 77) := At.new _ _ _
  have HB : Hid (Below w.heap.size w (w.alloc (.cells #[.slice none 0 0, .slice none 0 0, .slice none 0 0, .slice none 0 0] 77))) := below_alloc _ _
  generalize w.alloc (.cells #[.slice none 0 0, .slice none 0 0, .slice none 0 0, .slice none 0 0] 77) = w1 at *
  go_loopw [7] (fun i wr => ∃ k : Nat, k ≤ 4 ∧ i = .int .i64 (k : Int) ∧ ∃ g : Nat → Nat, Below w.heap.size w wr ∧ At wr w.heap.size (hC g k) 77 ∧ (∀ c, c < k → At wr (g c) (uC (fun _ _ => false) c) 4) ∧ (∀ c, c < k → w.heap.size < g c) ∧ (∀ c d, c < d → d < k → g c < g d)) (fun i _ => 4 - (intOf i).toNat)
  case atStart => exact ⟨0, by omega, rfl, fun _ => 0, HB.out, HA.out, fun c h => by omega, fun c h => by omega, fun c d _ h => by omega⟩
  case round =>
    obtain ⟨k, hk, rfl, g, hB, hA, hR, hG, hI⟩ := hrel
    have RR : Hid (Below w.heap.size w wr ∧ At wr w.heap.size (hC g k) 77 ∧ (∀ c, c < k → At wr (g c) (uC (fun _ _ => false) c) 4) ∧ (∀ c, c < k → w.heap.size < g c) ∧ (∀ c d, c < d → d < k → g c < g d)) := ⟨hB, hA, hR, hG, hI⟩
    clear hB hR hG hI
    rcases (by omega : k = 0 ∨ k = 1 ∨ k = 2 ∨ k = 3 ∨ k = 4) with rfl | rfl | rfl | rfl | rfl
    · have hx : ∀ w, (Instr.index 80 (.agg spansC) (.int .i64 0)).run Tryd.prog w = .ok (.agg #[.int .i64 4, .int .i64 64, .int .i64 262144]) w := fun w => span_index 0 (by omega) w
      have hA1 := hA.below (below_alloc wr (.cells #[.int .i64 4, .int .i64 64, .int .i64 262144] 79)) hA.lt
      have hS := At.new wr #[.int .i64 4, .int .i64 64, .int .i64 262144] 79
      have g0 := hA1.frozen 0
      have g1 : World.cell? _ ⟨w.heap.size, 0, none⟩ = some (.slice none 0 0) := (hA1.cell 0).trans (by simp [hC, sl])
      have g2 : World.cell? _ ⟨wr.heap.size, 1, none⟩ = some (.int .i64 64) := (hS.cell 1).trans rfl
      have g3 := hA1.lt
      clear hA hA1 hS
      have mk := mk0
      go_wp2
      have hw2 := below_alloc wr (.cells #[.int .i64 4, .int .i64 64, .int .i64 262144] 79)
      generalize wr.alloc (.cells #[.int .i64 4, .int .i64 64, .int .i64 262144] 79) = w2 at *
      have ST : Hid _ := new_step w wr w2 0 (by omega) g RR.out hw2
      clear hw2
      have ne : w.heap.size ≠ wr.heap.size := Nat.ne_of_lt RR.out.2.1.lt
      have K1 : Hid (w2.cell? ⟨wr.heap.size, 1, none⟩ = some (.int .i64 64)) := g2
      have K2 : Hid (∀ o, (w2.alloc o).cell? ⟨wr.heap.size, 1, none⟩ = some (.int .i64 64)) := fun o => cell_new o g2
      have K3 : Hid (∀ o v, ((w2.setCell ⟨w.heap.size, 0, none⟩ v).alloc o).cell? ⟨wr.heap.size, 1, none⟩ = some (.int .i64 64)) := fun o v => cell_new o (by rw [World.cell?_setCell_far _ _ _ _ ne]; exact g2)
      go_region_held3 (fun w' => w'.cell? ⟨wr.heap.size, 1, none⟩ = some (.int .i64 64)) (first | exact K1.out | exact K2.out _ | exact K3.out _ _) (fail)
      all_goals go_wp2
      go_roundw
      case rel => exact ⟨1, by omega, rfl, ST.out⟩
      case measure => simp [intOf]
    · have hx : ∀ w, (Instr.index 80 (.agg spansC) (.int .i64 1)).run Tryd.prog w = .ok (.agg #[.int .i64 16, .int .i64 32, .int .i64 263168]) w := fun w => span_index 1 (by omega) w
      have hA1 := hA.below (below_alloc wr (.cells #[.int .i64 16, .int .i64 32, .int .i64 263168] 79)) hA.lt
      have hS := At.new wr #[.int .i64 16, .int .i64 32, .int .i64 263168] 79
      have g0 := hA1.frozen 1
      have g1 : World.cell? _ ⟨w.heap.size, 1, none⟩ = some (.slice none 0 0) := (hA1.cell 1).trans (by simp [hC, sl])
      have g2 : World.cell? _ ⟨wr.heap.size, 1, none⟩ = some (.int .i64 32) := (hS.cell 1).trans rfl
      have g3 := hA1.lt
      clear hA hA1 hS
      have mk := mk1
      go_wp2
      have hw2 := below_alloc wr (.cells #[.int .i64 16, .int .i64 32, .int .i64 263168] 79)
      generalize wr.alloc (.cells #[.int .i64 16, .int .i64 32, .int .i64 263168] 79) = w2 at *
      have ST : Hid _ := new_step w wr w2 1 (by omega) g RR.out hw2
      clear hw2
      have ne : w.heap.size ≠ wr.heap.size := Nat.ne_of_lt RR.out.2.1.lt
      have K1 : Hid (w2.cell? ⟨wr.heap.size, 1, none⟩ = some (.int .i64 32)) := g2
      have K2 : Hid (∀ o, (w2.alloc o).cell? ⟨wr.heap.size, 1, none⟩ = some (.int .i64 32)) := fun o => cell_new o g2
      have K3 : Hid (∀ o v, ((w2.setCell ⟨w.heap.size, 1, none⟩ v).alloc o).cell? ⟨wr.heap.size, 1, none⟩ = some (.int .i64 32)) := fun o v => cell_new o (by rw [World.cell?_setCell_far _ _ _ _ ne]; exact g2)
      go_region_held3 (fun w' => w'.cell? ⟨wr.heap.size, 1, none⟩ = some (.int .i64 32)) (first | exact K1.out | exact K2.out _ | exact K3.out _ _) (fail)
      all_goals go_wp2
      go_roundw
      case rel => exact ⟨2, by omega, rfl, ST.out⟩
      case measure => simp [intOf]
    · have hx : ∀ w, (Instr.index 80 (.agg spansC) (.int .i64 2)).run Tryd.prog w = .ok (.agg #[.int .i64 64, .int .i64 16, .int .i64 265216]) w := fun w => span_index 2 (by omega) w
      have hA1 := hA.below (below_alloc wr (.cells #[.int .i64 64, .int .i64 16, .int .i64 265216] 79)) hA.lt
      have hS := At.new wr #[.int .i64 64, .int .i64 16, .int .i64 265216] 79
      have g0 := hA1.frozen 2
      have g1 : World.cell? _ ⟨w.heap.size, 2, none⟩ = some (.slice none 0 0) := (hA1.cell 2).trans (by simp [hC, sl])
      have g2 : World.cell? _ ⟨wr.heap.size, 1, none⟩ = some (.int .i64 16) := (hS.cell 1).trans rfl
      have g3 := hA1.lt
      clear hA hA1 hS
      have mk := mk2
      go_wp2
      have hw2 := below_alloc wr (.cells #[.int .i64 64, .int .i64 16, .int .i64 265216] 79)
      generalize wr.alloc (.cells #[.int .i64 64, .int .i64 16, .int .i64 265216] 79) = w2 at *
      have ST : Hid _ := new_step w wr w2 2 (by omega) g RR.out hw2
      clear hw2
      have ne : w.heap.size ≠ wr.heap.size := Nat.ne_of_lt RR.out.2.1.lt
      have K1 : Hid (w2.cell? ⟨wr.heap.size, 1, none⟩ = some (.int .i64 16)) := g2
      have K2 : Hid (∀ o, (w2.alloc o).cell? ⟨wr.heap.size, 1, none⟩ = some (.int .i64 16)) := fun o => cell_new o g2
      have K3 : Hid (∀ o v, ((w2.setCell ⟨w.heap.size, 2, none⟩ v).alloc o).cell? ⟨wr.heap.size, 1, none⟩ = some (.int .i64 16)) := fun o v => cell_new o (by rw [World.cell?_setCell_far _ _ _ _ ne]; exact g2)
      go_region_held3 (fun w' => w'.cell? ⟨wr.heap.size, 1, none⟩ = some (.int .i64 16)) (first | exact K1.out | exact K2.out _ | exact K3.out _ _) (fail)
      all_goals go_wp2
      go_roundw
      case rel => exact ⟨3, by omega, rfl, ST.out⟩
      case measure => simp [intOf]
    · have hx : ∀ w, (Instr.index 80 (.agg spansC) (.int .i64 3)).run Tryd.prog w = .ok (.agg #[.int .i64 128, .int .i64 8, .int .i64 269312]) w := fun w => span_index 3 (by omega) w
      have hA1 := hA.below (below_alloc wr (.cells #[.int .i64 128, .int .i64 8, .int .i64 269312] 79)) hA.lt
      have hS := At.new wr #[.int .i64 128, .int .i64 8, .int .i64 269312] 79
      have g0 := hA1.frozen 3
      have g1 : World.cell? _ ⟨w.heap.size, 3, none⟩ = some (.slice none 0 0) := (hA1.cell 3).trans (by simp [hC, sl])
      have g2 : World.cell? _ ⟨wr.heap.size, 1, none⟩ = some (.int .i64 8) := (hS.cell 1).trans rfl
      have g3 := hA1.lt
      clear hA hA1 hS
      have mk := mk3
      go_wp2
      have hw2 := below_alloc wr (.cells #[.int .i64 128, .int .i64 8, .int .i64 269312] 79)
      generalize wr.alloc (.cells #[.int .i64 128, .int .i64 8, .int .i64 269312] 79) = w2 at *
      have ST : Hid _ := new_step w wr w2 3 (by omega) g RR.out hw2
      clear hw2
      have ne : w.heap.size ≠ wr.heap.size := Nat.ne_of_lt RR.out.2.1.lt
      have K1 : Hid (w2.cell? ⟨wr.heap.size, 1, none⟩ = some (.int .i64 8)) := g2
      have K2 : Hid (∀ o, (w2.alloc o).cell? ⟨wr.heap.size, 1, none⟩ = some (.int .i64 8)) := fun o => cell_new o g2
      have K3 : Hid (∀ o v, ((w2.setCell ⟨w.heap.size, 3, none⟩ v).alloc o).cell? ⟨wr.heap.size, 1, none⟩ = some (.int .i64 8)) := fun o v => cell_new o (by rw [World.cell?_setCell_far _ _ _ _ ne]; exact g2)
      go_region_held3 (fun w' => w'.cell? ⟨wr.heap.size, 1, none⟩ = some (.int .i64 8)) (first | exact K1.out | exact K2.out _ | exact K3.out _ _) (fail)
      all_goals go_wp2
      go_roundw
      case rel => exact ⟨4, by omega, rfl, ST.out⟩
      case measure => simp [intOf]
    · clear hA
      go_wp2
      go_ret
      exact ⟨g, rfl, RR.out.1, RR.out.2.1, RR.out.2.2.1, RR.out.2.2.2.1, RR.out.2.2.2.2⟩
end Go.Proofs.YtapgaclonilnbaaDoor

/-
  Proved: what heap.Alloc answers, and which block is in use then.
-/
namespace Go.Proofs.YtapgaclonilnbaaDoor
open Go.RowKit

theorem Kp.tab {F : Nat → Prop} {w w' : World} (h : Kp F w w') (ht : Tab w) (hf : ¬ F 0) : Tab w' := by
  have := h.2 0 ht.lt hf
  obtain ⟨t, fr, e⟩ := ht
  exact ⟨t, fr, this.trans e⟩

/-- The blocks of a heap's lists. -/
def Gs (g : Nat → Nat) (b : Nat) : Prop := ∃ c, c < 4 ∧ b = g c

theorem HIn.no0 {w : World} {hb : Nat} {g : Nat → Nat} {us : Nat → Nat → Bool} (h : HIn w hb g us) : ¬ Gs g 0 := by
  rintro ⟨c, hc, e⟩
  have := h.after c hc
  omega

theorem made_c {w : World} {hb : Nat} {g : Nat → Nat} {us : Nat → Nat → Bool} (h : HIn w hb g us) : Calls Tryd.prog 60 #[.pointer (some ⟨hb, 0, none⟩)] w fun e w' => e = .returned (.bool true) ∧ w' = w := by
  have c0 := h.cell (c := 0) (by omega)
  have b0 : bl 0 = 64 := rfl
  rw [b0] at c0
  clear h
  go_enter Tryd.func60, Tryd.ntmps60
  go_wp2
  go_ret
  exact ⟨rfl, rfl⟩

/-- The least block of a class that is not in use. -/
def fr (us : Nat → Nat → Bool) (c : Nat) : Option Nat := ff (fun k => !us c k) (bl c) 0

/-- What Alloc answers, and which blocks are in use then. -/
def alR (us : Nat → Nat → Bool) (c : Nat) : Option Nat → Int × Int × (Nat → Nat → Bool)
  | none => (0, 12, us)
  | some k => ((st c : Int) + (k : Int) * (4 * (sz c : Int)), 0, upd us c k true)

def alA (us : Nat → Nat → Bool) : Option Nat → Int × Int × (Nat → Nat → Bool)
  | none => (0, 2, us)
  | some c => alR us c (fr us c)

theorem fr_step (us : Nat → Nat → Bool) (c k n : Nat) (h : k < n) : ff (fun k => !us c k) (n - k) k = if us c k then ff (fun k => !us c k) (n - (k + 1)) (k + 1) else some k := by
  rw [show n - k = (n - (k + 1)) + 1 by omega, ff]
  cases us c k <;> simp

set_option maxHeartbeats 1000000 in
theorem alloc_c {w : World} {hb : Nat} {g : Nat → Nat} {us : Nat → Nat → Bool} (h : HIn w hb g us) (x : Int) (ht : Tab w) : Calls Tryd.prog 55 #[.pointer (some ⟨hb, 0, none⟩), .int .i64 x] w fun e w' =>
    e = .returned (.tuple #[.int .i64 (alA us (clsOf x)).1, .int .i64 (alA us (clsOf x)).2.1]) ∧ HIn w' hb g (alA us (clsOf x)).2.2 ∧ Kp (Gs g) w w' := by
  have H : Hid (HIn w hb g us) := h
  have T : Hid (Tab w) := ht
  have CL : Hid (∀ w, Tab w → Calls Tryd.prog 65 #[.int .i64 x] w fun e w' => e = .returned (clsV (clsOf x)) ∧ Below w.heap.size w w') := fun w ht => class_c x w ht
  have L := ff_lt (clsP x) 4 0
  change ∀ i, clsOf x = some i → _ at L
  clear h ht
  generalize clsOf x = R at *
  cases R with
  | none =>
    unfold clsV at CL
    go_enter Tryd.func55, Tryd.ntmps55
    go_wp2_with (first
      | (go_at_call 60; refine (made_c H.out).mono ?_; rintro e w0 ⟨rfl, hw⟩; rw [hw]; clear hw w0)
      | (go_at_call 65; refine (CL.out _ T.out).mono ?_; rintro e w1 ⟨rfl, he⟩; have NN : Hid (Below w.heap.size w w1) := he; clear he))
    go_ret2
    exact ⟨rfl, H.out.below NN.out, Kp.of_below NN.out⟩
  | some c =>
    have hc := (L c rfl).2.1
    clear L
    unfold clsV at CL
    rcases (by omega : c = 0 ∨ c = 1 ∨ c = 2 ∨ c = 3) with rfl | rfl | rfl | rfl
    · have CL : Hid (∀ w, Tab w → Calls Tryd.prog 65 #[.int .i64 x] w fun e w' => e = .returned (.tuple #[.int .i64 0, .int .i64 4, .int .i64 64, .int .i64 0]) ∧ Below w.heap.size w w') := CL.out
      show Calls Tryd.prog 55 #[.pointer (some ⟨hb, 0, none⟩), .int .i64 x] w fun e w' => e = .returned (.tuple #[.int .i64 (alR us 0 (fr us 0)).1, .int .i64 (alR us 0 (fr us 0)).2.1]) ∧ HIn w' hb g (alR us 0 (fr us 0)).2.2 ∧ Kp (Gs g) w w'
      generalize hR : fr us 0 = R
      go_enter Tryd.func55, Tryd.ntmps55
      go_wp2_with (first
        | (go_at_call 60; refine (made_c H.out).mono ?_; rintro e w0 ⟨rfl, hw⟩; rw [hw]; clear hw w0)
        | (go_at_call 65; refine (CL.out _ T.out).mono ?_; rintro e w1 ⟨rfl, he⟩; have NN : Hid (Below w.heap.size w w1) := he; clear he))
      have H1 : Hid (HIn w1 hb g us) := H.out.below NN.out
      have T1 : Hid (Tab w1) := T.out.below NN.out T.out.lt
      clear H T
      have hh : w1.cell? ⟨hb, 0, none⟩ = some (.slice (some ⟨g 0, 0, none⟩) 64 64) := H1.out.cell (c := 0) (by omega)
      go_loopw [25] (fun i wr => ∃ k : Nat, k ≤ 64 ∧ i = .int .i64 (k : Int) ∧ ff (fun k => !us 0 k) (64 - k) k = R ∧ wr = w1) (fun i _ => 64 - (intOf i).toNat)
      case atStart => exact ⟨0, by omega, rfl, hR, rfl⟩
      case round =>
        obtain ⟨k, hk, rfl, hr, hwr⟩ := hrel
        rw [hwr]
        clear hwr wr hR
        have HR : Hid (ff (fun k => !us 0 k) (64 - k) k = R) := hr
        clear hr
        rcases Nat.lt_or_ge k 64 with hk' | hk'
        · have hkz : (k : Int) < 64 := by omega
          have hbit : w1.cell? ⟨g 0, k, none⟩ = some (.bool (us 0 k)) := H1.out.bit (c := 0) (k := k) (by omega) hk'
          have hfz := (H1.out.rows 0 (by omega)).frozen k
          have hlt := (H1.out.rows 0 (by omega)).lt
          have HS : Hid (ff (fun k => !us 0 k) (64 - k) k = if us 0 k then ff (fun k => !us 0 k) (64 - (k + 1)) (k + 1) else some k) := fr_step us 0 k 64 hk'
          generalize hu : us 0 k = u at hbit HS
          cases u with
          | true =>
            go_wp2
            go_roundw
            case rel =>
              refine ⟨k + 1, by omega, by go_num, ?_, trivial⟩
              have h1 := HR.out
              rw [HS.out, if_pos rfl] at h1
              exact h1
            case measure => simp [intOf]; omega
          | false =>
            have h1 := HR.out
            rw [HS.out, if_neg (by simp)] at h1
            subst h1
            have H2 : Hid (HIn (w1.setCell ⟨g 0, k, none⟩ (.bool true)) hb g (upd us 0 k true)) := H1.out.set (c := 0) (by omega) k true
            have N2 : Hid (Kp (Gs g) w (w1.setCell ⟨g 0, k, none⟩ (.bool true))) := (Kp.of_below NN.out).trans (Kp.set w1 k (.bool true) ⟨0, by omega, rfl⟩)
            have T2 : Hid (Tab (w1.setCell ⟨g 0, k, none⟩ (.bool true))) := (Kp.set (F := Gs g) w1 k (.bool true) ⟨0, by omega, rfl⟩).tab T1.out H1.out.no0
            go_wp2
            generalize w1.setCell ⟨g 0, k, none⟩ (.bool true) = w2 at *
            have t0 : ∀ y : After w2, y.w.cell? ⟨0, 0, none⟩ = some (.int .i64 4) := fun y => After.cell ((T2.out.cell 0).trans rfl) y
            have t1 : ∀ y : After w2, y.w.cell? ⟨0, 1, none⟩ = some (.int .i64 64) := fun y => After.cell ((T2.out.cell 1).trans rfl) y
            have t2 : ∀ y : After w2, y.w.cell? ⟨0, 2, none⟩ = some (.int .i64 262144) := fun y => After.cell ((T2.out.cell 2).trans rfl) y
            clear hh hbit hfz hlt
            haveI := After.has w2
            refine wp_region_after (by kernel_rfl) (by kernel_rfl) ?_
            repeat (quiet_step ((go_at_call 62; exact Calls.after (bytes_c 4 64 262144 _ (by omega) (by omega)))))
            refine wpQuiet_nil ?_
            intro _ hw'
            obtain ⟨xq, hw''⟩ := hw'
            subst hw''
            have H3 : Hid (HIn xq.w hb g (upd us 0 k true)) := H2.out.below xq.below
            have N3 : Hid (Kp (Gs g) w xq.w) := N2.out.trans (Kp.of_below xq.below)
            clear t0 t1 t2
            go_wp2
            rw [wrap_in ((k : Int) * 16) ⟨by omega, by omega⟩, wrap_in (262144 + (k : Int) * 16) ⟨by omega, by omega⟩]
            go_ret2
            exact ⟨rfl, H3.out, N3.out⟩
        · have hkz : ¬ (k : Int) < 64 := by omega
          have h1 := HR.out
          obtain rfl : k = 64 := by omega
          have h3 : R = none := h1.symm
          subst h3
          go_wp2
          go_ret2
          exact ⟨rfl, H1.out, Kp.of_below NN.out⟩
    · have CL : Hid (∀ w, Tab w → Calls Tryd.prog 65 #[.int .i64 x] w fun e w' => e = .returned (.tuple #[.int .i64 1, .int .i64 16, .int .i64 32, .int .i64 0]) ∧ Below w.heap.size w w') := CL.out
      show Calls Tryd.prog 55 #[.pointer (some ⟨hb, 0, none⟩), .int .i64 x] w fun e w' => e = .returned (.tuple #[.int .i64 (alR us 1 (fr us 1)).1, .int .i64 (alR us 1 (fr us 1)).2.1]) ∧ HIn w' hb g (alR us 1 (fr us 1)).2.2 ∧ Kp (Gs g) w w'
      generalize hR : fr us 1 = R
      go_enter Tryd.func55, Tryd.ntmps55
      go_wp2_with (first
        | (go_at_call 60; refine (made_c H.out).mono ?_; rintro e w0 ⟨rfl, hw⟩; rw [hw]; clear hw w0)
        | (go_at_call 65; refine (CL.out _ T.out).mono ?_; rintro e w1 ⟨rfl, he⟩; have NN : Hid (Below w.heap.size w w1) := he; clear he))
      have H1 : Hid (HIn w1 hb g us) := H.out.below NN.out
      have T1 : Hid (Tab w1) := T.out.below NN.out T.out.lt
      clear H T
      have hh : w1.cell? ⟨hb, 1, none⟩ = some (.slice (some ⟨g 1, 0, none⟩) 32 32) := H1.out.cell (c := 1) (by omega)
      go_loopw [25] (fun i wr => ∃ k : Nat, k ≤ 32 ∧ i = .int .i64 (k : Int) ∧ ff (fun k => !us 1 k) (32 - k) k = R ∧ wr = w1) (fun i _ => 32 - (intOf i).toNat)
      case atStart => exact ⟨0, by omega, rfl, hR, rfl⟩
      case round =>
        obtain ⟨k, hk, rfl, hr, hwr⟩ := hrel
        rw [hwr]
        clear hwr wr hR
        have HR : Hid (ff (fun k => !us 1 k) (32 - k) k = R) := hr
        clear hr
        rcases Nat.lt_or_ge k 32 with hk' | hk'
        · have hkz : (k : Int) < 32 := by omega
          have hbit : w1.cell? ⟨g 1, k, none⟩ = some (.bool (us 1 k)) := H1.out.bit (c := 1) (k := k) (by omega) hk'
          have hfz := (H1.out.rows 1 (by omega)).frozen k
          have hlt := (H1.out.rows 1 (by omega)).lt
          have HS : Hid (ff (fun k => !us 1 k) (32 - k) k = if us 1 k then ff (fun k => !us 1 k) (32 - (k + 1)) (k + 1) else some k) := fr_step us 1 k 32 hk'
          generalize hu : us 1 k = u at hbit HS
          cases u with
          | true =>
            go_wp2
            go_roundw
            case rel =>
              refine ⟨k + 1, by omega, by go_num, ?_, trivial⟩
              have h1 := HR.out
              rw [HS.out, if_pos rfl] at h1
              exact h1
            case measure => simp [intOf]; omega
          | false =>
            have h1 := HR.out
            rw [HS.out, if_neg (by simp)] at h1
            subst h1
            have H2 : Hid (HIn (w1.setCell ⟨g 1, k, none⟩ (.bool true)) hb g (upd us 1 k true)) := H1.out.set (c := 1) (by omega) k true
            have N2 : Hid (Kp (Gs g) w (w1.setCell ⟨g 1, k, none⟩ (.bool true))) := (Kp.of_below NN.out).trans (Kp.set w1 k (.bool true) ⟨1, by omega, rfl⟩)
            have T2 : Hid (Tab (w1.setCell ⟨g 1, k, none⟩ (.bool true))) := (Kp.set (F := Gs g) w1 k (.bool true) ⟨1, by omega, rfl⟩).tab T1.out H1.out.no0
            go_wp2
            generalize w1.setCell ⟨g 1, k, none⟩ (.bool true) = w2 at *
            have t0 : ∀ y : After w2, y.w.cell? ⟨0, 3, none⟩ = some (.int .i64 16) := fun y => After.cell ((T2.out.cell 3).trans rfl) y
            have t1 : ∀ y : After w2, y.w.cell? ⟨0, 4, none⟩ = some (.int .i64 32) := fun y => After.cell ((T2.out.cell 4).trans rfl) y
            have t2 : ∀ y : After w2, y.w.cell? ⟨0, 5, none⟩ = some (.int .i64 263168) := fun y => After.cell ((T2.out.cell 5).trans rfl) y
            clear hh hbit hfz hlt
            haveI := After.has w2
            refine wp_region_after (by kernel_rfl) (by kernel_rfl) ?_
            repeat (quiet_step ((go_at_call 62; exact Calls.after (bytes_c 16 32 263168 _ (by omega) (by omega)))))
            refine wpQuiet_nil ?_
            intro _ hw'
            obtain ⟨xq, hw''⟩ := hw'
            subst hw''
            have H3 : Hid (HIn xq.w hb g (upd us 1 k true)) := H2.out.below xq.below
            have N3 : Hid (Kp (Gs g) w xq.w) := N2.out.trans (Kp.of_below xq.below)
            clear t0 t1 t2
            go_wp2
            rw [wrap_in ((k : Int) * 64) ⟨by omega, by omega⟩, wrap_in (263168 + (k : Int) * 64) ⟨by omega, by omega⟩]
            go_ret2
            exact ⟨rfl, H3.out, N3.out⟩
        · have hkz : ¬ (k : Int) < 32 := by omega
          have h1 := HR.out
          obtain rfl : k = 32 := by omega
          have h3 : R = none := h1.symm
          subst h3
          go_wp2
          go_ret2
          exact ⟨rfl, H1.out, Kp.of_below NN.out⟩
    · have CL : Hid (∀ w, Tab w → Calls Tryd.prog 65 #[.int .i64 x] w fun e w' => e = .returned (.tuple #[.int .i64 2, .int .i64 64, .int .i64 16, .int .i64 0]) ∧ Below w.heap.size w w') := CL.out
      show Calls Tryd.prog 55 #[.pointer (some ⟨hb, 0, none⟩), .int .i64 x] w fun e w' => e = .returned (.tuple #[.int .i64 (alR us 2 (fr us 2)).1, .int .i64 (alR us 2 (fr us 2)).2.1]) ∧ HIn w' hb g (alR us 2 (fr us 2)).2.2 ∧ Kp (Gs g) w w'
      generalize hR : fr us 2 = R
      go_enter Tryd.func55, Tryd.ntmps55
      go_wp2_with (first
        | (go_at_call 60; refine (made_c H.out).mono ?_; rintro e w0 ⟨rfl, hw⟩; rw [hw]; clear hw w0)
        | (go_at_call 65; refine (CL.out _ T.out).mono ?_; rintro e w1 ⟨rfl, he⟩; have NN : Hid (Below w.heap.size w w1) := he; clear he))
      have H1 : Hid (HIn w1 hb g us) := H.out.below NN.out
      have T1 : Hid (Tab w1) := T.out.below NN.out T.out.lt
      clear H T
      have hh : w1.cell? ⟨hb, 2, none⟩ = some (.slice (some ⟨g 2, 0, none⟩) 16 16) := H1.out.cell (c := 2) (by omega)
      go_loopw [25] (fun i wr => ∃ k : Nat, k ≤ 16 ∧ i = .int .i64 (k : Int) ∧ ff (fun k => !us 2 k) (16 - k) k = R ∧ wr = w1) (fun i _ => 16 - (intOf i).toNat)
      case atStart => exact ⟨0, by omega, rfl, hR, rfl⟩
      case round =>
        obtain ⟨k, hk, rfl, hr, hwr⟩ := hrel
        rw [hwr]
        clear hwr wr hR
        have HR : Hid (ff (fun k => !us 2 k) (16 - k) k = R) := hr
        clear hr
        rcases Nat.lt_or_ge k 16 with hk' | hk'
        · have hkz : (k : Int) < 16 := by omega
          have hbit : w1.cell? ⟨g 2, k, none⟩ = some (.bool (us 2 k)) := H1.out.bit (c := 2) (k := k) (by omega) hk'
          have hfz := (H1.out.rows 2 (by omega)).frozen k
          have hlt := (H1.out.rows 2 (by omega)).lt
          have HS : Hid (ff (fun k => !us 2 k) (16 - k) k = if us 2 k then ff (fun k => !us 2 k) (16 - (k + 1)) (k + 1) else some k) := fr_step us 2 k 16 hk'
          generalize hu : us 2 k = u at hbit HS
          cases u with
          | true =>
            go_wp2
            go_roundw
            case rel =>
              refine ⟨k + 1, by omega, by go_num, ?_, trivial⟩
              have h1 := HR.out
              rw [HS.out, if_pos rfl] at h1
              exact h1
            case measure => simp [intOf]; omega
          | false =>
            have h1 := HR.out
            rw [HS.out, if_neg (by simp)] at h1
            subst h1
            have H2 : Hid (HIn (w1.setCell ⟨g 2, k, none⟩ (.bool true)) hb g (upd us 2 k true)) := H1.out.set (c := 2) (by omega) k true
            have N2 : Hid (Kp (Gs g) w (w1.setCell ⟨g 2, k, none⟩ (.bool true))) := (Kp.of_below NN.out).trans (Kp.set w1 k (.bool true) ⟨2, by omega, rfl⟩)
            have T2 : Hid (Tab (w1.setCell ⟨g 2, k, none⟩ (.bool true))) := (Kp.set (F := Gs g) w1 k (.bool true) ⟨2, by omega, rfl⟩).tab T1.out H1.out.no0
            go_wp2
            generalize w1.setCell ⟨g 2, k, none⟩ (.bool true) = w2 at *
            have t0 : ∀ y : After w2, y.w.cell? ⟨0, 6, none⟩ = some (.int .i64 64) := fun y => After.cell ((T2.out.cell 6).trans rfl) y
            have t1 : ∀ y : After w2, y.w.cell? ⟨0, 7, none⟩ = some (.int .i64 16) := fun y => After.cell ((T2.out.cell 7).trans rfl) y
            have t2 : ∀ y : After w2, y.w.cell? ⟨0, 8, none⟩ = some (.int .i64 265216) := fun y => After.cell ((T2.out.cell 8).trans rfl) y
            clear hh hbit hfz hlt
            haveI := After.has w2
            refine wp_region_after (by kernel_rfl) (by kernel_rfl) ?_
            repeat (quiet_step ((go_at_call 62; exact Calls.after (bytes_c 64 16 265216 _ (by omega) (by omega)))))
            refine wpQuiet_nil ?_
            intro _ hw'
            obtain ⟨xq, hw''⟩ := hw'
            subst hw''
            have H3 : Hid (HIn xq.w hb g (upd us 2 k true)) := H2.out.below xq.below
            have N3 : Hid (Kp (Gs g) w xq.w) := N2.out.trans (Kp.of_below xq.below)
            clear t0 t1 t2
            go_wp2
            rw [wrap_in ((k : Int) * 256) ⟨by omega, by omega⟩, wrap_in (265216 + (k : Int) * 256) ⟨by omega, by omega⟩]
            go_ret2
            exact ⟨rfl, H3.out, N3.out⟩
        · have hkz : ¬ (k : Int) < 16 := by omega
          have h1 := HR.out
          obtain rfl : k = 16 := by omega
          have h3 : R = none := h1.symm
          subst h3
          go_wp2
          go_ret2
          exact ⟨rfl, H1.out, Kp.of_below NN.out⟩
    · have CL : Hid (∀ w, Tab w → Calls Tryd.prog 65 #[.int .i64 x] w fun e w' => e = .returned (.tuple #[.int .i64 3, .int .i64 128, .int .i64 8, .int .i64 0]) ∧ Below w.heap.size w w') := CL.out
      show Calls Tryd.prog 55 #[.pointer (some ⟨hb, 0, none⟩), .int .i64 x] w fun e w' => e = .returned (.tuple #[.int .i64 (alR us 3 (fr us 3)).1, .int .i64 (alR us 3 (fr us 3)).2.1]) ∧ HIn w' hb g (alR us 3 (fr us 3)).2.2 ∧ Kp (Gs g) w w'
      generalize hR : fr us 3 = R
      go_enter Tryd.func55, Tryd.ntmps55
      go_wp2_with (first
        | (go_at_call 60; refine (made_c H.out).mono ?_; rintro e w0 ⟨rfl, hw⟩; rw [hw]; clear hw w0)
        | (go_at_call 65; refine (CL.out _ T.out).mono ?_; rintro e w1 ⟨rfl, he⟩; have NN : Hid (Below w.heap.size w w1) := he; clear he))
      have H1 : Hid (HIn w1 hb g us) := H.out.below NN.out
      have T1 : Hid (Tab w1) := T.out.below NN.out T.out.lt
      clear H T
      have hh : w1.cell? ⟨hb, 3, none⟩ = some (.slice (some ⟨g 3, 0, none⟩) 8 8) := H1.out.cell (c := 3) (by omega)
      go_loopw [25] (fun i wr => ∃ k : Nat, k ≤ 8 ∧ i = .int .i64 (k : Int) ∧ ff (fun k => !us 3 k) (8 - k) k = R ∧ wr = w1) (fun i _ => 8 - (intOf i).toNat)
      case atStart => exact ⟨0, by omega, rfl, hR, rfl⟩
      case round =>
        obtain ⟨k, hk, rfl, hr, hwr⟩ := hrel
        rw [hwr]
        clear hwr wr hR
        have HR : Hid (ff (fun k => !us 3 k) (8 - k) k = R) := hr
        clear hr
        rcases Nat.lt_or_ge k 8 with hk' | hk'
        · have hkz : (k : Int) < 8 := by omega
          have hbit : w1.cell? ⟨g 3, k, none⟩ = some (.bool (us 3 k)) := H1.out.bit (c := 3) (k := k) (by omega) hk'
          have hfz := (H1.out.rows 3 (by omega)).frozen k
          have hlt := (H1.out.rows 3 (by omega)).lt
          have HS : Hid (ff (fun k => !us 3 k) (8 - k) k = if us 3 k then ff (fun k => !us 3 k) (8 - (k + 1)) (k + 1) else some k) := fr_step us 3 k 8 hk'
          generalize hu : us 3 k = u at hbit HS
          cases u with
          | true =>
            go_wp2
            go_roundw
            case rel =>
              refine ⟨k + 1, by omega, by go_num, ?_, trivial⟩
              have h1 := HR.out
              rw [HS.out, if_pos rfl] at h1
              exact h1
            case measure => simp [intOf]; omega
          | false =>
            have h1 := HR.out
            rw [HS.out, if_neg (by simp)] at h1
            subst h1
            have H2 : Hid (HIn (w1.setCell ⟨g 3, k, none⟩ (.bool true)) hb g (upd us 3 k true)) := H1.out.set (c := 3) (by omega) k true
            have N2 : Hid (Kp (Gs g) w (w1.setCell ⟨g 3, k, none⟩ (.bool true))) := (Kp.of_below NN.out).trans (Kp.set w1 k (.bool true) ⟨3, by omega, rfl⟩)
            have T2 : Hid (Tab (w1.setCell ⟨g 3, k, none⟩ (.bool true))) := (Kp.set (F := Gs g) w1 k (.bool true) ⟨3, by omega, rfl⟩).tab T1.out H1.out.no0
            go_wp2
            generalize w1.setCell ⟨g 3, k, none⟩ (.bool true) = w2 at *
            have t0 : ∀ y : After w2, y.w.cell? ⟨0, 9, none⟩ = some (.int .i64 128) := fun y => After.cell ((T2.out.cell 9).trans rfl) y
            have t1 : ∀ y : After w2, y.w.cell? ⟨0, 10, none⟩ = some (.int .i64 8) := fun y => After.cell ((T2.out.cell 10).trans rfl) y
            have t2 : ∀ y : After w2, y.w.cell? ⟨0, 11, none⟩ = some (.int .i64 269312) := fun y => After.cell ((T2.out.cell 11).trans rfl) y
            clear hh hbit hfz hlt
            haveI := After.has w2
            refine wp_region_after (by kernel_rfl) (by kernel_rfl) ?_
            repeat (quiet_step ((go_at_call 62; exact Calls.after (bytes_c 128 8 269312 _ (by omega) (by omega)))))
            refine wpQuiet_nil ?_
            intro _ hw'
            obtain ⟨xq, hw''⟩ := hw'
            subst hw''
            have H3 : Hid (HIn xq.w hb g (upd us 3 k true)) := H2.out.below xq.below
            have N3 : Hid (Kp (Gs g) w xq.w) := N2.out.trans (Kp.of_below xq.below)
            clear t0 t1 t2
            go_wp2
            rw [wrap_in ((k : Int) * 512) ⟨by omega, by omega⟩, wrap_in (269312 + (k : Int) * 512) ⟨by omega, by omega⟩]
            go_ret2
            exact ⟨rfl, H3.out, N3.out⟩
        · have hkz : ¬ (k : Int) < 8 := by omega
          have h1 := HR.out
          obtain rfl : k = 8 := by omega
          have h3 : R = none := h1.symm
          subst h3
          go_wp2
          go_ret2
          exact ⟨rfl, H1.out, Kp.of_below NN.out⟩
end Go.Proofs.YtapgaclonilnbaaDoor

/-
  Proved: what heap.Free answers, and which blocks are in use then.
-/
namespace Go.Proofs.YtapgaclonilnbaaDoor
open Go.RowKit

/-- An address's block, and how far behind its beginning it lies. -/
def kOf (x : Int) (c : Nat) : Nat := ((x - st c) / (4 * (sz c : Int))).toNat
def rOf (x : Int) (c : Nat) : Nat := ((x - st c) % (4 * (sz c : Int))).toNat

theorem k_of (x : Int) (c : Nat) (h : atP x c = true) : (x - st c) / (4 * (sz c : Int)) = (kOf x c : Int) ∧ kOf x c < bl c ∧ (x - st c) % (4 * (sz c : Int)) = (rOf x c : Int) ∧ rOf x c < 4 * sz c := by
  simp only [atP, Bool.and_eq_true, decide_eq_true_eq] at h
  have hz := span_le c
  have h0 : 0 ≤ (x - st c) / (4 * (sz c : Int)) := Int.ediv_nonneg (by omega) (by omega)
  have h1 : (x - st c) / (4 * (sz c : Int)) < bl c := Int.ediv_lt_of_lt_mul (by omega) (by omega)
  have h2 : 0 ≤ (x - st c) % (4 * (sz c : Int)) := Int.emod_nonneg _ (by omega)
  have h3 : (x - st c) % (4 * (sz c : Int)) < 4 * (sz c : Int) := Int.emod_lt_of_pos _ (by omega)
  unfold kOf rOf
  omega

/-- What Free answers, and which blocks are in use then. -/
def frR (us : Nat → Nat → Bool) (c k r : Nat) : Int × (Nat → Nat → Bool) := if r = 0 ∧ us c k = true then (0, upd us c k false) else (13, us)

def frA (us : Nat → Nat → Bool) (x : Int) : Option Nat → Int × (Nat → Nat → Bool)
  | none => (13, us)
  | some c => frR us c (kOf x c) (rOf x c)

set_option maxHeartbeats 1000000 in
set_option maxHeartbeats 1000000 in
set_option maxHeartbeats 1000000 in
set_option maxHeartbeats 1000000 in
theorem free_c {w : World} {hb : Nat} {g : Nat → Nat} {us : Nat → Nat → Bool} (h : HIn w hb g us) (x : Int) (ht : Tab w) : Calls Tryd.prog 56 #[.pointer (some ⟨hb, 0, none⟩), .int .i64 x] w fun e w' =>
    e = .returned (.int .i64 (frA us x (atOf x)).1) ∧ HIn w' hb g (frA us x (atOf x)).2 ∧ Kp (Gs g) w w' := by
  have H : Hid (HIn w hb g us) := h
  have T : Hid (Tab w) := ht
  have L := ff_lt (atP x) 4 0
  change ∀ i, atOf x = some i → _ at L
  have CL : Hid (∀ w, Tab w → Calls Tryd.prog 61 #[.int .i64 x] w fun e w' => e = .returned (placeV x (atOf x)) ∧ Below w.heap.size w w') := fun w ht => find_c x w ht
  clear h ht
  generalize atOf x = R at *
  cases R with
  | none =>
    unfold placeV at CL
    go_enter Tryd.func56, Tryd.ntmps56
    go_wp2_with (first
      | (go_at_call 60; refine (made_c H.out).mono ?_; rintro e w0 ⟨rfl, hw⟩; rw [hw]; clear hw w0)
      | (go_at_call 61; refine (CL.out _ T.out).mono ?_; rintro e w1 ⟨rfl, he⟩; have NN : Hid (Below w.heap.size w w1) := he; clear he))
    have hP : At (w1.alloc (.cells #[.int .i64 0, .int .i64 0, .int .i64 0] 121)) w1.heap.size #[.int .i64 0, .int .i64 0, .int .i64 0] 121 := At.new _ _ _
    have N2 : Hid (Below w.heap.size w (w1.alloc (.cells #[.int .i64 0, .int .i64 0, .int .i64 0] 121))) := below_next NN.out (below_alloc _ _)
    have H2 : Hid (HIn (w1.alloc (.cells #[.int .i64 0, .int .i64 0, .int .i64 0] 121)) hb g us) := H.out.below N2.out
    have hn1 : hb < w1.heap.size := Nat.lt_of_lt_of_le H.out.head.lt NN.out.size
    generalize w1.alloc (.cells #[.int .i64 0, .int .i64 0, .int .i64 0] 121) = w2 at *
    have p0 := hP.cell 0
    have p1 := hP.cell 1
    have p2 := hP.cell 2
    simp at p0 p1 p2
    clear hP
    go_quiet (fail)
    go_wp2
    go_ret
    exact ⟨rfl, H2.out.below (below_drewN _ _), (Kp.of_below N2.out).drewN _⟩
  | some c =>
    have hc := (L c rfl).2.1
    obtain ⟨e1, e2, e3, e4⟩ := k_of x c (L c rfl).2.2
    clear L
    unfold placeV at CL
    simp only [e1, e3] at CL
    show Calls Tryd.prog 56 #[.pointer (some ⟨hb, 0, none⟩), .int .i64 x] w fun e w' => e = .returned (.int .i64 (frR us c (kOf x c) (rOf x c)).1) ∧ HIn w' hb g (frR us c (kOf x c) (rOf x c)).2 ∧ Kp (Gs g) w w'
    clear e1 e3
    generalize kOf x c = k at *
    generalize rOf x c = r at *
    have hcz : (c : Int) < 4 := by omega
    have hkz : (k : Int) < bl c := by omega
    have hbl := span_le c
    go_enter Tryd.func56, Tryd.ntmps56
    go_wp2_with (first
      | (go_at_call 60; refine (made_c H.out).mono ?_; rintro e w0 ⟨rfl, hw⟩; rw [hw]; clear hw w0)
      | (go_at_call 61; refine (CL.out _ T.out).mono ?_; rintro e w1 ⟨rfl, he⟩; have NN : Hid (Below w.heap.size w w1) := he; clear he))
    have hP : At (w1.alloc (.cells #[.int .i64 (c : Int), .int .i64 (k : Int), .int .i64 (r : Int)] 121)) w1.heap.size #[.int .i64 (c : Int), .int .i64 (k : Int), .int .i64 (r : Int)] 121 := At.new _ _ _
    have N2 : Hid (Below w.heap.size w (w1.alloc (.cells #[.int .i64 (c : Int), .int .i64 (k : Int), .int .i64 (r : Int)] 121))) := below_next NN.out (below_alloc _ _)
    have H2 : Hid (HIn (w1.alloc (.cells #[.int .i64 (c : Int), .int .i64 (k : Int), .int .i64 (r : Int)] 121)) hb g us) := H.out.below N2.out
    have hn1 : hb < w1.heap.size := Nat.lt_of_lt_of_le H.out.head.lt NN.out.size
    generalize w1.alloc (.cells #[.int .i64 (c : Int), .int .i64 (k : Int), .int .i64 (r : Int)] 121) = w2 at *
    have p0 := hP.cell 0
    have p1 := hP.cell 1
    have p2 := hP.cell 2
    simp at p0 p1 p2
    clear hP
    have hh : w2.cell? ⟨hb, c, none⟩ = some (.slice (some ⟨g c, 0, none⟩) (bl c) (bl c)) := H2.out.cell (by omega)
    have hbit : w2.cell? ⟨g c, k, none⟩ = some (.bool (us c k)) := H2.out.bit (by omega) e2
    have hfz := (H2.out.rows c (by omega)).frozen k
    have hlt := (H2.out.rows c (by omega)).lt
    have hn2 : hb ≠ g c := Nat.ne_of_lt (H2.out.after c (by omega))
    have hn3 : w1.heap.size ≠ g c := Nat.ne_of_gt (Nat.lt_of_lt_of_le (H.out.rows c (by omega)).lt NN.out.size)
    by_cases hr : r = 0
    · subst hr
      generalize hu : us c k = u at hbit
      cases u with
      | false =>
        have FR : frR us c k 0 = (13, us) := by simp [frR, hu]
        go_quiet (fail)
        go_wp2
        go_ret
        exact ⟨by rw [FR]; rfl, by rw [FR]; exact H2.out.below (below_drewN _ _), (Kp.of_below N2.out).drewN _⟩
      | true =>
        have FR : frR us c k 0 = (0, upd us c k false) := by simp [frR, hu]
        go_quiet (fail)
        go_wp2
        have S1 : Hid ((w2.drewN nq).drew.cell? ⟨w1.heap.size, 0, none⟩ = some (.int .i64 (c : Int)) ∧ (w2.drewN nq).drew.cell? ⟨w1.heap.size, 1, none⟩ = some (.int .i64 (k : Int)) ∧ (w2.drewN nq).drew.cell? ⟨hb, c, none⟩ = some (.slice (some ⟨g c, 0, none⟩) (bl c) (bl c))) := ⟨p0, p1, hh⟩
        have S2 : Hid (∀ (W : World) (v : Value), (W.cell? ⟨w1.heap.size, 0, none⟩ = some (.int .i64 (c : Int)) ∧ W.cell? ⟨w1.heap.size, 1, none⟩ = some (.int .i64 (k : Int)) ∧ W.cell? ⟨hb, c, none⟩ = some (.slice (some ⟨g c, 0, none⟩) (bl c) (bl c))) → ((W.setCell ⟨g c, k, none⟩ v).cell? ⟨w1.heap.size, 0, none⟩ = some (.int .i64 (c : Int)) ∧ (W.setCell ⟨g c, k, none⟩ v).cell? ⟨w1.heap.size, 1, none⟩ = some (.int .i64 (k : Int)) ∧ (W.setCell ⟨g c, k, none⟩ v).cell? ⟨hb, c, none⟩ = some (.slice (some ⟨g c, 0, none⟩) (bl c) (bl c)))) := fun W v h => ⟨by rw [World.cell?_setCell_far _ _ _ _ (Ne.symm hn3)]; exact h.1, by rw [World.cell?_setCell_far _ _ _ _ (Ne.symm hn3)]; exact h.2.1, by rw [World.cell?_setCell_far _ _ _ _ (Ne.symm hn2)]; exact h.2.2⟩
        go_region_held3 (fun w' => w'.cell? ⟨w1.heap.size, 0, none⟩ = some (.int .i64 (c : Int)) ∧ w'.cell? ⟨w1.heap.size, 1, none⟩ = some (.int .i64 (k : Int)) ∧ w'.cell? ⟨hb, c, none⟩ = some (.slice (some ⟨g c, 0, none⟩) (bl c) (bl c)))
          (first | exact S1.out | exact S2.out _ _ (by assumption) | exact S2.out _ _ S1.out) (fail)
        all_goals go_wp2
        go_ret
        exact ⟨by rw [FR]; rfl, by rw [FR]; exact (H2.out.below (below_drewN _ _)).set (by omega) k false, ((Kp.of_below N2.out).drewN _).trans (Kp.set _ k _ ⟨c, by omega, rfl⟩)⟩
    · have FR : frR us c k r = (13, us) := by simp [frR, hr]
      have hrz : ((r : Int) == 0) = false := by simpa using hr
      go_quiet (fail)
      go_wp2
      go_ret
      exact ⟨by rw [FR]; rfl, by rw [FR]; exact H2.out.below (below_drewN _ _), (Kp.of_below N2.out).drewN _⟩
end Go.Proofs.YtapgaclonilnbaaDoor

/-
  Proved: what heap.Live and heap.Within answer.
-/
namespace Go.Proofs.YtapgaclonilnbaaDoor
open Go.RowKit

/-- How many of the first n blocks of a class are in use. -/
def wiR (us : Nat → Nat → Bool) (n : Int) (c k r : Nat) : Bool := us c k && decide (n ≤ ((4 * (sz c : Int) - r) / 4))

def wiA (us : Nat → Nat → Bool) (x n : Int) : Option Nat → Bool
  | none => false
  | some c => wiR us n c (kOf x c) (rOf x c)

set_option maxHeartbeats 1000000 in
theorem within_c {w : World} {hb : Nat} {g : Nat → Nat} {us : Nat → Nat → Bool} (h : HIn w hb g us) (x n : Int) (ht : Tab w) : Calls Tryd.prog 52 #[.pointer (some ⟨hb, 0, none⟩), .int .i64 x, .int .i64 n] w fun e w' =>
    e = .returned (.bool (if x.tmod 4 ≠ 0 ∨ n < 1 then false else wiA us x n (atOf x))) ∧ Below w.heap.size w w' := by
  have H : Hid (HIn w hb g us) := h
  have T : Hid (Tab w) := ht
  clear h ht
  by_cases hx : x.tmod 4 = 0
  · by_cases hn : n < 1
    · rw [if_pos (Or.inr hn)]
      go_enter Tryd.func52, Tryd.ntmps52
      go_wp2_with (go_at_call 60; refine (made_c H.out).mono ?_; rintro e w0 ⟨rfl, hw⟩; rw [hw]; clear hw w0)
      go_ret
      exact ⟨rfl, Below.refl _ _⟩
    · rw [if_neg (by omega)]
      have hn' : 1 ≤ n := by omega
      have L := ff_lt (atP x) 4 0
      change ∀ i, atOf x = some i → _ at L
      have CL : Hid (∀ w, Tab w → Calls Tryd.prog 61 #[.int .i64 x] w fun e w' => e = .returned (placeV x (atOf x)) ∧ Below w.heap.size w w') := fun w ht => find_c x w ht
      generalize atOf x = R at *
      cases R with
      | none =>
        unfold placeV at CL
        go_enter Tryd.func52, Tryd.ntmps52
        go_wp2_with (first
      | (go_at_call 60; refine (made_c H.out).mono ?_; rintro e w0 ⟨rfl, hw⟩; rw [hw]; clear hw w0)
      | (go_at_call 61; refine (CL.out _ T.out).mono ?_; rintro e w1 ⟨rfl, he⟩; have NN : Hid (Below w.heap.size w w1) := he; clear he))
        have hP : At (w1.alloc (.cells #[.int .i64 0, .int .i64 0, .int .i64 0] 121)) w1.heap.size #[.int .i64 0, .int .i64 0, .int .i64 0] 121 := At.new _ _ _
        have N2 : Hid (Below w.heap.size w (w1.alloc (.cells #[.int .i64 0, .int .i64 0, .int .i64 0] 121))) := below_next NN.out (below_alloc _ _)
        have H2 : Hid (HIn (w1.alloc (.cells #[.int .i64 0, .int .i64 0, .int .i64 0] 121)) hb g us) := H.out.below N2.out
        have T2 : Hid (Tab (w1.alloc (.cells #[.int .i64 0, .int .i64 0, .int .i64 0] 121))) := T.out.below N2.out T.out.lt
        have hn1 : hb < w1.heap.size := Nat.lt_of_lt_of_le H.out.head.lt NN.out.size
        generalize w1.alloc (.cells #[.int .i64 0, .int .i64 0, .int .i64 0] 121) = w2 at *
        have p0 := hP.cell 0
        have p1 := hP.cell 1
        have p2 := hP.cell 2
        simp at p0 p1 p2
        clear hP
        go_quiet (fail)
        go_wp2
        go_ret
        exact ⟨rfl, drew_below N2.out _⟩
      | some c =>
        have hc := (L c rfl).2.1
        obtain ⟨e1, e2, e3, e4⟩ := k_of x c (L c rfl).2.2
        clear L
        unfold placeV at CL
        simp only [e1, e3] at CL
        show Calls Tryd.prog 52 #[.pointer (some ⟨hb, 0, none⟩), .int .i64 x, .int .i64 n] w fun e w' => e = .returned (.bool (wiR us n c (kOf x c) (rOf x c))) ∧ Below w.heap.size w w'
        clear e1 e3
        generalize kOf x c = k at *
        generalize rOf x c = r at *
        have hcz : (c : Int) < 4 := by omega
        have hkz : (k : Int) < bl c := by omega
        have hbl := span_le c
        generalize hu : us c k = u
        cases u with
        | false =>
          have FR : wiR us n c k r = false := by simp [wiR, hu]
          rw [FR]
          go_enter Tryd.func52, Tryd.ntmps52
          go_wp2_with (first
      | (go_at_call 60; refine (made_c H.out).mono ?_; rintro e w0 ⟨rfl, hw⟩; rw [hw]; clear hw w0)
      | (go_at_call 61; refine (CL.out _ T.out).mono ?_; rintro e w1 ⟨rfl, he⟩; have NN : Hid (Below w.heap.size w w1) := he; clear he))
          have hP : At (w1.alloc (.cells #[.int .i64 (c : Int), .int .i64 (k : Int), .int .i64 (r : Int)] 121)) w1.heap.size #[.int .i64 (c : Int), .int .i64 (k : Int), .int .i64 (r : Int)] 121 := At.new _ _ _
          have N2 : Hid (Below w.heap.size w (w1.alloc (.cells #[.int .i64 (c : Int), .int .i64 (k : Int), .int .i64 (r : Int)] 121))) := below_next NN.out (below_alloc _ _)
          have H2 : Hid (HIn (w1.alloc (.cells #[.int .i64 (c : Int), .int .i64 (k : Int), .int .i64 (r : Int)] 121)) hb g us) := H.out.below N2.out
          have T2 : Hid (Tab (w1.alloc (.cells #[.int .i64 (c : Int), .int .i64 (k : Int), .int .i64 (r : Int)] 121))) := T.out.below N2.out T.out.lt
          have hn1 : hb < w1.heap.size := Nat.lt_of_lt_of_le H.out.head.lt NN.out.size
          generalize w1.alloc (.cells #[.int .i64 (c : Int), .int .i64 (k : Int), .int .i64 (r : Int)] 121) = w2 at *
          have p0 := hP.cell 0
          have p1 := hP.cell 1
          have p2 := hP.cell 2
          simp at p0 p1 p2
          clear hP
          have hh : w2.cell? ⟨hb, c, none⟩ = some (.slice (some ⟨g c, 0, none⟩) (bl c) (bl c)) := H2.out.cell (by omega)
          have hbit : w2.cell? ⟨g c, k, none⟩ = some (.bool (us c k)) := H2.out.bit (by omega) e2
          rw [hu] at hbit
          go_quiet (fail)
          go_wp2
          go_ret
          exact ⟨rfl, drew_below N2.out _⟩
        | true =>
          have FR : wiR us n c k r = decide (n ≤ ((4 * (sz c : Int) - r) / 4)) := by simp [wiR, hu]
          rw [FR]
          clear FR
          rcases (by omega : c = 0 ∨ c = 1 ∨ c = 2 ∨ c = 3) with rfl | rfl | rfl | rfl
          · have CL : Hid (∀ w, Tab w → Calls Tryd.prog 61 #[.int .i64 x] w fun e w' => e = .returned (.tuple #[.agg #[.int .i64 0, .int .i64 (k : Int), .int .i64 (r : Int)], .bool true]) ∧ Below w.heap.size w w') := CL.out
            have e4 : r < 16 := e4
            have e2 : k < 64 := e2
            have hkz : (k : Int) < 64 := hkz
            show Calls Tryd.prog 52 #[.pointer (some ⟨hb, 0, none⟩), .int .i64 x, .int .i64 n] w fun e w' => e = .returned (.bool (decide (n ≤ ((16 - (r : Int)) / 4)))) ∧ Below w.heap.size w w'
            go_enter Tryd.func52, Tryd.ntmps52
            go_wp2_with (first
      | (go_at_call 60; refine (made_c H.out).mono ?_; rintro e w0 ⟨rfl, hw⟩; rw [hw]; clear hw w0)
      | (go_at_call 61; refine (CL.out _ T.out).mono ?_; rintro e w1 ⟨rfl, he⟩; have NN : Hid (Below w.heap.size w w1) := he; clear he))
            have hP : At (w1.alloc (.cells #[.int .i64 0, .int .i64 (k : Int), .int .i64 (r : Int)] 121)) w1.heap.size #[.int .i64 0, .int .i64 (k : Int), .int .i64 (r : Int)] 121 := At.new _ _ _
            have N2 : Hid (Below w.heap.size w (w1.alloc (.cells #[.int .i64 0, .int .i64 (k : Int), .int .i64 (r : Int)] 121))) := below_next NN.out (below_alloc _ _)
            have H2 : Hid (HIn (w1.alloc (.cells #[.int .i64 0, .int .i64 (k : Int), .int .i64 (r : Int)] 121)) hb g us) := H.out.below N2.out
            have T2 : Hid (Tab (w1.alloc (.cells #[.int .i64 0, .int .i64 (k : Int), .int .i64 (r : Int)] 121))) := T.out.below N2.out T.out.lt
            have hn1 : hb < w1.heap.size := Nat.lt_of_lt_of_le H.out.head.lt NN.out.size
            generalize w1.alloc (.cells #[.int .i64 0, .int .i64 (k : Int), .int .i64 (r : Int)] 121) = w2 at *
            have p0 := hP.cell 0
            have p1 := hP.cell 1
            have p2 := hP.cell 2
            simp at p0 p1 p2
            clear hP
            have hh : w2.cell? ⟨hb, 0, none⟩ = some (.slice (some ⟨g 0, 0, none⟩) 64 64) := H2.out.cell (c := 0) (by omega)
            have hbit : w2.cell? ⟨g 0, k, none⟩ = some (.bool (us 0 k)) := H2.out.bit (c := 0) (by omega) e2
            rw [hu] at hbit
            go_quiet (fail)
            go_wp2
            have N3 : Hid (Below w.heap.size w (w2.drewN nq)) := drew_below N2.out _
            have t0 : (w2.drewN nq).cell? ⟨0, 0, none⟩ = some (.int .i64 4) := (T2.out.cell 0).trans rfl
            have t1 : (w2.drewN nq).cell? ⟨0, 1, none⟩ = some (.int .i64 64) := (T2.out.cell 1).trans rfl
            have t2 : (w2.drewN nq).cell? ⟨0, 2, none⟩ = some (.int .i64 262144) := (T2.out.cell 2).trans rfl
            have q0 : (w2.drewN nq).cell? ⟨w1.heap.size, 0, none⟩ = some (.int .i64 0) := p0
            have q2 : (w2.drewN nq).cell? ⟨w1.heap.size, 2, none⟩ = some (.int .i64 (r : Int)) := p2
            clear hh hbit p0 p1 p2
            generalize w2.drewN nq = w3 at *
            have t0 := After.cell t0
            have t1 := After.cell t1
            have t2 := After.cell t2
            have q0 := After.cell q0
            have q2 := After.cell q2
            haveI := After.has w3
            refine wp_region_after (by kernel_rfl) (by kernel_rfl) ?_
            repeat (quiet_step ((go_at_call 62; exact Calls.after (bytes_c 4 64 262144 _ (by omega) (by omega)))))
            refine wpQuiet_nil ?_
            intro _ hw'
            obtain ⟨xq, hw''⟩ := hw'
            subst hw''
            have N4 : Hid (Below w.heap.size w xq.w) := below_next N3.out xq.below
            clear t0 t1 t2 q0 q2
            go_wp2
            rw [wrap_in (16 - (r : Int)) ⟨by omega, by omega⟩, Int.tdiv_eq_ediv_of_nonneg (show 0 ≤ 16 - (r : Int) by omega), wrap_in ((16 - (r : Int)) / 4) ⟨by omega, by omega⟩]
            go_ret
            exact ⟨rfl, N4.out⟩
          · have CL : Hid (∀ w, Tab w → Calls Tryd.prog 61 #[.int .i64 x] w fun e w' => e = .returned (.tuple #[.agg #[.int .i64 1, .int .i64 (k : Int), .int .i64 (r : Int)], .bool true]) ∧ Below w.heap.size w w') := CL.out
            have e4 : r < 64 := e4
            have e2 : k < 32 := e2
            have hkz : (k : Int) < 32 := hkz
            show Calls Tryd.prog 52 #[.pointer (some ⟨hb, 0, none⟩), .int .i64 x, .int .i64 n] w fun e w' => e = .returned (.bool (decide (n ≤ ((64 - (r : Int)) / 4)))) ∧ Below w.heap.size w w'
            go_enter Tryd.func52, Tryd.ntmps52
            go_wp2_with (first
      | (go_at_call 60; refine (made_c H.out).mono ?_; rintro e w0 ⟨rfl, hw⟩; rw [hw]; clear hw w0)
      | (go_at_call 61; refine (CL.out _ T.out).mono ?_; rintro e w1 ⟨rfl, he⟩; have NN : Hid (Below w.heap.size w w1) := he; clear he))
            have hP : At (w1.alloc (.cells #[.int .i64 1, .int .i64 (k : Int), .int .i64 (r : Int)] 121)) w1.heap.size #[.int .i64 1, .int .i64 (k : Int), .int .i64 (r : Int)] 121 := At.new _ _ _
            have N2 : Hid (Below w.heap.size w (w1.alloc (.cells #[.int .i64 1, .int .i64 (k : Int), .int .i64 (r : Int)] 121))) := below_next NN.out (below_alloc _ _)
            have H2 : Hid (HIn (w1.alloc (.cells #[.int .i64 1, .int .i64 (k : Int), .int .i64 (r : Int)] 121)) hb g us) := H.out.below N2.out
            have T2 : Hid (Tab (w1.alloc (.cells #[.int .i64 1, .int .i64 (k : Int), .int .i64 (r : Int)] 121))) := T.out.below N2.out T.out.lt
            have hn1 : hb < w1.heap.size := Nat.lt_of_lt_of_le H.out.head.lt NN.out.size
            generalize w1.alloc (.cells #[.int .i64 1, .int .i64 (k : Int), .int .i64 (r : Int)] 121) = w2 at *
            have p0 := hP.cell 0
            have p1 := hP.cell 1
            have p2 := hP.cell 2
            simp at p0 p1 p2
            clear hP
            have hh : w2.cell? ⟨hb, 1, none⟩ = some (.slice (some ⟨g 1, 0, none⟩) 32 32) := H2.out.cell (c := 1) (by omega)
            have hbit : w2.cell? ⟨g 1, k, none⟩ = some (.bool (us 1 k)) := H2.out.bit (c := 1) (by omega) e2
            rw [hu] at hbit
            go_quiet (fail)
            go_wp2
            have N3 : Hid (Below w.heap.size w (w2.drewN nq)) := drew_below N2.out _
            have t0 : (w2.drewN nq).cell? ⟨0, 3, none⟩ = some (.int .i64 16) := (T2.out.cell 3).trans rfl
            have t1 : (w2.drewN nq).cell? ⟨0, 4, none⟩ = some (.int .i64 32) := (T2.out.cell 4).trans rfl
            have t2 : (w2.drewN nq).cell? ⟨0, 5, none⟩ = some (.int .i64 263168) := (T2.out.cell 5).trans rfl
            have q0 : (w2.drewN nq).cell? ⟨w1.heap.size, 0, none⟩ = some (.int .i64 1) := p0
            have q2 : (w2.drewN nq).cell? ⟨w1.heap.size, 2, none⟩ = some (.int .i64 (r : Int)) := p2
            clear hh hbit p0 p1 p2
            generalize w2.drewN nq = w3 at *
            have t0 := After.cell t0
            have t1 := After.cell t1
            have t2 := After.cell t2
            have q0 := After.cell q0
            have q2 := After.cell q2
            haveI := After.has w3
            refine wp_region_after (by kernel_rfl) (by kernel_rfl) ?_
            repeat (quiet_step ((go_at_call 62; exact Calls.after (bytes_c 16 32 263168 _ (by omega) (by omega)))))
            refine wpQuiet_nil ?_
            intro _ hw'
            obtain ⟨xq, hw''⟩ := hw'
            subst hw''
            have N4 : Hid (Below w.heap.size w xq.w) := below_next N3.out xq.below
            clear t0 t1 t2 q0 q2
            go_wp2
            rw [wrap_in (64 - (r : Int)) ⟨by omega, by omega⟩, Int.tdiv_eq_ediv_of_nonneg (show 0 ≤ 64 - (r : Int) by omega), wrap_in ((64 - (r : Int)) / 4) ⟨by omega, by omega⟩]
            go_ret
            exact ⟨rfl, N4.out⟩
          · have CL : Hid (∀ w, Tab w → Calls Tryd.prog 61 #[.int .i64 x] w fun e w' => e = .returned (.tuple #[.agg #[.int .i64 2, .int .i64 (k : Int), .int .i64 (r : Int)], .bool true]) ∧ Below w.heap.size w w') := CL.out
            have e4 : r < 256 := e4
            have e2 : k < 16 := e2
            have hkz : (k : Int) < 16 := hkz
            show Calls Tryd.prog 52 #[.pointer (some ⟨hb, 0, none⟩), .int .i64 x, .int .i64 n] w fun e w' => e = .returned (.bool (decide (n ≤ ((256 - (r : Int)) / 4)))) ∧ Below w.heap.size w w'
            go_enter Tryd.func52, Tryd.ntmps52
            go_wp2_with (first
      | (go_at_call 60; refine (made_c H.out).mono ?_; rintro e w0 ⟨rfl, hw⟩; rw [hw]; clear hw w0)
      | (go_at_call 61; refine (CL.out _ T.out).mono ?_; rintro e w1 ⟨rfl, he⟩; have NN : Hid (Below w.heap.size w w1) := he; clear he))
            have hP : At (w1.alloc (.cells #[.int .i64 2, .int .i64 (k : Int), .int .i64 (r : Int)] 121)) w1.heap.size #[.int .i64 2, .int .i64 (k : Int), .int .i64 (r : Int)] 121 := At.new _ _ _
            have N2 : Hid (Below w.heap.size w (w1.alloc (.cells #[.int .i64 2, .int .i64 (k : Int), .int .i64 (r : Int)] 121))) := below_next NN.out (below_alloc _ _)
            have H2 : Hid (HIn (w1.alloc (.cells #[.int .i64 2, .int .i64 (k : Int), .int .i64 (r : Int)] 121)) hb g us) := H.out.below N2.out
            have T2 : Hid (Tab (w1.alloc (.cells #[.int .i64 2, .int .i64 (k : Int), .int .i64 (r : Int)] 121))) := T.out.below N2.out T.out.lt
            have hn1 : hb < w1.heap.size := Nat.lt_of_lt_of_le H.out.head.lt NN.out.size
            generalize w1.alloc (.cells #[.int .i64 2, .int .i64 (k : Int), .int .i64 (r : Int)] 121) = w2 at *
            have p0 := hP.cell 0
            have p1 := hP.cell 1
            have p2 := hP.cell 2
            simp at p0 p1 p2
            clear hP
            have hh : w2.cell? ⟨hb, 2, none⟩ = some (.slice (some ⟨g 2, 0, none⟩) 16 16) := H2.out.cell (c := 2) (by omega)
            have hbit : w2.cell? ⟨g 2, k, none⟩ = some (.bool (us 2 k)) := H2.out.bit (c := 2) (by omega) e2
            rw [hu] at hbit
            go_quiet (fail)
            go_wp2
            have N3 : Hid (Below w.heap.size w (w2.drewN nq)) := drew_below N2.out _
            have t0 : (w2.drewN nq).cell? ⟨0, 6, none⟩ = some (.int .i64 64) := (T2.out.cell 6).trans rfl
            have t1 : (w2.drewN nq).cell? ⟨0, 7, none⟩ = some (.int .i64 16) := (T2.out.cell 7).trans rfl
            have t2 : (w2.drewN nq).cell? ⟨0, 8, none⟩ = some (.int .i64 265216) := (T2.out.cell 8).trans rfl
            have q0 : (w2.drewN nq).cell? ⟨w1.heap.size, 0, none⟩ = some (.int .i64 2) := p0
            have q2 : (w2.drewN nq).cell? ⟨w1.heap.size, 2, none⟩ = some (.int .i64 (r : Int)) := p2
            clear hh hbit p0 p1 p2
            generalize w2.drewN nq = w3 at *
            have t0 := After.cell t0
            have t1 := After.cell t1
            have t2 := After.cell t2
            have q0 := After.cell q0
            have q2 := After.cell q2
            haveI := After.has w3
            refine wp_region_after (by kernel_rfl) (by kernel_rfl) ?_
            repeat (quiet_step ((go_at_call 62; exact Calls.after (bytes_c 64 16 265216 _ (by omega) (by omega)))))
            refine wpQuiet_nil ?_
            intro _ hw'
            obtain ⟨xq, hw''⟩ := hw'
            subst hw''
            have N4 : Hid (Below w.heap.size w xq.w) := below_next N3.out xq.below
            clear t0 t1 t2 q0 q2
            go_wp2
            rw [wrap_in (256 - (r : Int)) ⟨by omega, by omega⟩, Int.tdiv_eq_ediv_of_nonneg (show 0 ≤ 256 - (r : Int) by omega), wrap_in ((256 - (r : Int)) / 4) ⟨by omega, by omega⟩]
            go_ret
            exact ⟨rfl, N4.out⟩
          · have CL : Hid (∀ w, Tab w → Calls Tryd.prog 61 #[.int .i64 x] w fun e w' => e = .returned (.tuple #[.agg #[.int .i64 3, .int .i64 (k : Int), .int .i64 (r : Int)], .bool true]) ∧ Below w.heap.size w w') := CL.out
            have e4 : r < 512 := e4
            have e2 : k < 8 := e2
            have hkz : (k : Int) < 8 := hkz
            show Calls Tryd.prog 52 #[.pointer (some ⟨hb, 0, none⟩), .int .i64 x, .int .i64 n] w fun e w' => e = .returned (.bool (decide (n ≤ ((512 - (r : Int)) / 4)))) ∧ Below w.heap.size w w'
            go_enter Tryd.func52, Tryd.ntmps52
            go_wp2_with (first
      | (go_at_call 60; refine (made_c H.out).mono ?_; rintro e w0 ⟨rfl, hw⟩; rw [hw]; clear hw w0)
      | (go_at_call 61; refine (CL.out _ T.out).mono ?_; rintro e w1 ⟨rfl, he⟩; have NN : Hid (Below w.heap.size w w1) := he; clear he))
            have hP : At (w1.alloc (.cells #[.int .i64 3, .int .i64 (k : Int), .int .i64 (r : Int)] 121)) w1.heap.size #[.int .i64 3, .int .i64 (k : Int), .int .i64 (r : Int)] 121 := At.new _ _ _
            have N2 : Hid (Below w.heap.size w (w1.alloc (.cells #[.int .i64 3, .int .i64 (k : Int), .int .i64 (r : Int)] 121))) := below_next NN.out (below_alloc _ _)
            have H2 : Hid (HIn (w1.alloc (.cells #[.int .i64 3, .int .i64 (k : Int), .int .i64 (r : Int)] 121)) hb g us) := H.out.below N2.out
            have T2 : Hid (Tab (w1.alloc (.cells #[.int .i64 3, .int .i64 (k : Int), .int .i64 (r : Int)] 121))) := T.out.below N2.out T.out.lt
            have hn1 : hb < w1.heap.size := Nat.lt_of_lt_of_le H.out.head.lt NN.out.size
            generalize w1.alloc (.cells #[.int .i64 3, .int .i64 (k : Int), .int .i64 (r : Int)] 121) = w2 at *
            have p0 := hP.cell 0
            have p1 := hP.cell 1
            have p2 := hP.cell 2
            simp at p0 p1 p2
            clear hP
            have hh : w2.cell? ⟨hb, 3, none⟩ = some (.slice (some ⟨g 3, 0, none⟩) 8 8) := H2.out.cell (c := 3) (by omega)
            have hbit : w2.cell? ⟨g 3, k, none⟩ = some (.bool (us 3 k)) := H2.out.bit (c := 3) (by omega) e2
            rw [hu] at hbit
            go_quiet (fail)
            go_wp2
            have N3 : Hid (Below w.heap.size w (w2.drewN nq)) := drew_below N2.out _
            have t0 : (w2.drewN nq).cell? ⟨0, 9, none⟩ = some (.int .i64 128) := (T2.out.cell 9).trans rfl
            have t1 : (w2.drewN nq).cell? ⟨0, 10, none⟩ = some (.int .i64 8) := (T2.out.cell 10).trans rfl
            have t2 : (w2.drewN nq).cell? ⟨0, 11, none⟩ = some (.int .i64 269312) := (T2.out.cell 11).trans rfl
            have q0 : (w2.drewN nq).cell? ⟨w1.heap.size, 0, none⟩ = some (.int .i64 3) := p0
            have q2 : (w2.drewN nq).cell? ⟨w1.heap.size, 2, none⟩ = some (.int .i64 (r : Int)) := p2
            clear hh hbit p0 p1 p2
            generalize w2.drewN nq = w3 at *
            have t0 := After.cell t0
            have t1 := After.cell t1
            have t2 := After.cell t2
            have q0 := After.cell q0
            have q2 := After.cell q2
            haveI := After.has w3
            refine wp_region_after (by kernel_rfl) (by kernel_rfl) ?_
            repeat (quiet_step ((go_at_call 62; exact Calls.after (bytes_c 128 8 269312 _ (by omega) (by omega)))))
            refine wpQuiet_nil ?_
            intro _ hw'
            obtain ⟨xq, hw''⟩ := hw'
            subst hw''
            have N4 : Hid (Below w.heap.size w xq.w) := below_next N3.out xq.below
            clear t0 t1 t2 q0 q2
            go_wp2
            rw [wrap_in (512 - (r : Int)) ⟨by omega, by omega⟩, Int.tdiv_eq_ediv_of_nonneg (show 0 ≤ 512 - (r : Int) by omega), wrap_in ((512 - (r : Int)) / 4) ⟨by omega, by omega⟩]
            go_ret
            exact ⟨rfl, N4.out⟩
  · rw [if_pos (Or.inl hx)]
    go_enter Tryd.func52, Tryd.ntmps52
    go_wp2_with (go_at_call 60; refine (made_c H.out).mono ?_; rintro e w0 ⟨rfl, hw⟩; rw [hw]; clear hw w0)
    go_ret
    exact ⟨rfl, Below.refl _ _⟩
end Go.Proofs.YtapgaclonilnbaaDoor
