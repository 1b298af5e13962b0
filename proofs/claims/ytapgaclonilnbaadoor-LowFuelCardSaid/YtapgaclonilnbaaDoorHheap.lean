/-
  Proved: what a heap is in memory; heap.New makes one in which no block is in use.
-/
import Derived.Test.YtapgaclonilnbaaDoorHclass
namespace Go.Proofs.YtapgaclonilnbaaDoor
open Go.RowKit

/-- The lists of a heap, of the first k classes. -/
def sl (g : Nat → Nat) (k j : Nat) : Value := if j < k then .slice (some ⟨g j, 0, none⟩) (bl j) (bl j) else .slice none 0 0
def hC (g : Nat → Nat) (k : Nat) : Array Value := #[sl g k 0, sl g k 1, sl g k 2, sl g k 3]

/-- Which blocks of a class are in use, as cells. -/
def uC (us : Nat → Nat → Bool) (c : Nat) : Array Value := Array.ofFn fun k : Fin (bl c) => Value.bool (us c k)

theorem uC_get (us : Nat → Nat → Bool) (c k : Nat) (h : k < bl c) : (uC us c)[k]? = some (.bool (us c k)) := by
  simp [uC, h]

def upd (us : Nat → Nat → Bool) (c k : Nat) (v : Bool) : Nat → Nat → Bool := fun c' k' => if c' = c ∧ k' = k then v else us c' k'

theorem uC_set (us : Nat → Nat → Bool) (c k : Nat) (v : Bool) : (uC us c).setIfInBounds k (.bool v) = uC (upd us c k v) c := by
  apply Array.ext
  · simp [uC]
  · intro i h1 h2
    have hi : i < bl c := by simpa [uC] using h2
    rw [Array.getElem_setIfInBounds (by simpa [uC] using hi)]
    by_cases hk : k = i
    · subst hk; simp [uC, upd]
    · rw [if_neg hk]
      simp [uC, upd, Ne.symm hk]

theorem uC_far (us : Nat → Nat → Bool) (c k c' : Nat) (v : Bool) (h : c' ≠ c) : uC (upd us c k v) c' = uC us c' := by
  unfold uC upd
  simp [h]

/-- A heap in memory: its block, its lists' blocks, which are in use; all from a block on. -/
structure HIn (w : World) (hb : Nat) (g : Nat → Nat) (us : Nat → Nat → Bool) : Prop where
  head : At w hb (hC g 4) 77
  rows : ∀ c, c < 4 → At w (g c) (uC us c) 4
  after : ∀ c, c < 4 → hb < g c
  inc : ∀ c d, c < d → d < 4 → g c < g d

theorem HIn.keep {w w' : World} {hb : Nat} {g : Nat → Nat} {us : Nat → Nat → Bool} (h : HIn w hb g us) (k : ∀ b, b = hb ∨ (∃ c, c < 4 ∧ b = g c) → w'.heap[b]? = w.heap[b]?) : HIn w' hb g us :=
  ⟨(k hb (Or.inl rfl)).trans h.head, fun c hc => (k (g c) (Or.inr ⟨c, hc, rfl⟩)).trans (h.rows c hc), h.after, h.inc⟩

theorem HIn.below {w w' : World} {hb : Nat} {g : Nat → Nat} {us : Nat → Nat → Bool} (h : HIn w hb g us) (k : Below w.heap.size w w') : HIn w' hb g us :=
  h.keep fun b hb' => k.block b (by
    rcases hb' with rfl | ⟨c, hc, rfl⟩
    · exact h.head.lt
    · exact (h.rows c hc).lt)

theorem HIn.inj {w : World} {hb : Nat} {g : Nat → Nat} {us : Nat → Nat → Bool} (h : HIn w hb g us) {c d : Nat} (hc : c < 4) (hd : d < 4) (hn : c ≠ d) : g c ≠ g d := by
  rcases Nat.lt_or_gt_of_ne hn with h1 | h1
  · exact Nat.ne_of_lt (h.inc c d h1 hd)
  · exact Ne.symm (Nat.ne_of_lt (h.inc d c h1 hc))

theorem HIn.set {w : World} {hb : Nat} {g : Nat → Nat} {us : Nat → Nat → Bool} (h : HIn w hb g us) {c : Nat} (hc : c < 4) (k : Nat) (v : Bool) : HIn (w.setCell ⟨g c, k, none⟩ (.bool v)) hb g (upd us c k v) := by
  refine ⟨?_, fun d hd => ?_, h.after, h.inc⟩
  · exact (Below.heap_setCell w ⟨g c, k, none⟩ _ hb (by have := h.after c hc; show hb ≠ g c; omega)).trans h.head
  · by_cases hn : d = c
    · subst hn
      have := (h.rows d hd).set (j := k) (.bool v)
      rwa [uC_set] at this
    · rw [uC_far _ _ _ _ _ hn]
      exact (Below.heap_setCell w ⟨g c, k, none⟩ _ (g d) (by have := h.inj hd hc hn; exact this)).trans (h.rows d hd)

theorem HIn.cell {w : World} {hb : Nat} {g : Nat → Nat} {us : Nat → Nat → Bool} (h : HIn w hb g us) {c : Nat} (hc : c < 4) : w.cell? ⟨hb, c, none⟩ = some (.slice (some ⟨g c, 0, none⟩) (bl c) (bl c)) := by
  rw [h.head.cell]
  rcases (by omega : c = 0 ∨ c = 1 ∨ c = 2 ∨ c = 3) with rfl | rfl | rfl | rfl <;> simp [hC, sl]

theorem HIn.bit {w : World} {hb : Nat} {g : Nat → Nat} {us : Nat → Nat → Bool} (h : HIn w hb g us) {c k : Nat} (hc : c < 4) (hk : k < bl c) : w.cell? ⟨g c, k, none⟩ = some (.bool (us c k)) := by
  rw [(h.rows c hc).cell, uC_get _ _ _ hk]

theorem uC_none (c : Nat) : uC (fun _ _ => false) c = Array.replicate (bl c) (Value.bool false) := by
  apply Array.ext
  · simp [uC]
  · intro i h1 h2
    simp [uC]

theorem mk0 (w : World) : (Instr.makeSlice 74 (.int .i64 64) (.int .i64 64)).run Tryd.prog w = .ok (.slice (some ⟨w.heap.size, 0, none⟩) 64 64) (w.alloc (.cells (uC (fun _ _ => false) 0) 4)) := by rw [uC_none]; kernel_rfl
theorem mk1 (w : World) : (Instr.makeSlice 74 (.int .i64 32) (.int .i64 32)).run Tryd.prog w = .ok (.slice (some ⟨w.heap.size, 0, none⟩) 32 32) (w.alloc (.cells (uC (fun _ _ => false) 1) 4)) := by rw [uC_none]; kernel_rfl
theorem mk2 (w : World) : (Instr.makeSlice 74 (.int .i64 16) (.int .i64 16)).run Tryd.prog w = .ok (.slice (some ⟨w.heap.size, 0, none⟩) 16 16) (w.alloc (.cells (uC (fun _ _ => false) 2) 4)) := by rw [uC_none]; kernel_rfl
theorem mk3 (w : World) : (Instr.makeSlice 74 (.int .i64 8) (.int .i64 8)).run Tryd.prog w = .ok (.slice (some ⟨w.heap.size, 0, none⟩) 8 8) (w.alloc (.cells (uC (fun _ _ => false) 3) 4)) := by rw [uC_none]; kernel_rfl

theorem hC_step (g : Nat → Nat) (k b : Nat) (hk : k < 4) : (hC g k).setIfInBounds k (.slice (some ⟨b, 0, none⟩) (bl k) (bl k)) = hC (fun c => if c = k then b else g c) (k + 1) := by
  rcases (by omega : k = 0 ∨ k = 1 ∨ k = 2 ∨ k = 3) with rfl | rfl | rfl | rfl <;> simp [hC, sl]

theorem new_step (w wr w2 : World) (k : Nat) (hk : k < 4) (g : Nat → Nat) (h : Below w.heap.size w wr ∧ At wr w.heap.size (hC g k) 77 ∧ (∀ c, c < k → At wr (g c) (uC (fun _ _ => false) c) 4) ∧ (∀ c, c < k → w.heap.size < g c) ∧ (∀ c d, c < d → d < k → g c < g d)) (h2 : Below wr.heap.size wr w2) :
    ∃ g', Below w.heap.size w ((w2.setCell ⟨w.heap.size, k, none⟩ (.slice (some ⟨w2.heap.size, 0, none⟩) (bl k) (bl k))).alloc (.cells (uC (fun _ _ => false) k) 4)).drew ∧ At ((w2.setCell ⟨w.heap.size, k, none⟩ (.slice (some ⟨w2.heap.size, 0, none⟩) (bl k) (bl k))).alloc (.cells (uC (fun _ _ => false) k) 4)).drew w.heap.size (hC g' (k + 1)) 77 ∧ (∀ c, c < k + 1 → At ((w2.setCell ⟨w.heap.size, k, none⟩ (.slice (some ⟨w2.heap.size, 0, none⟩) (bl k) (bl k))).alloc (.cells (uC (fun _ _ => false) k) 4)).drew (g' c) (uC (fun _ _ => false) c) 4) ∧ (∀ c, c < k + 1 → w.heap.size < g' c) ∧ (∀ c d, c < d → d < k + 1 → g' c < g' d) := by
  obtain ⟨hB, hA, hR, hG, hI⟩ := h
  have l1 := hA.lt
  have l2 := h2.size
  have hS : (w2.setCell ⟨w.heap.size, k, none⟩ (.slice (some ⟨w2.heap.size, 0, none⟩) (bl k) (bl k))).heap.size = w2.heap.size := by simp [World.setCell]
  have hA2 := (hA.below h2 hA.lt).set (j := k) (.slice (some ⟨w2.heap.size, 0, none⟩) (bl k) (bl k))
  rw [hC_step g k _ hk] at hA2
  refine ⟨fun c => if c = k then w2.heap.size else g c, ?_, ?_, ?_, ?_, ?_⟩
  · exact (((below_next hB h2).setCell (Nat.le_refl _) _).alloc (by rw [hS]; omega) _).drew
  · exact hA2.below (below_alloc _ _).drew hA2.lt
  · intro c hc
    by_cases e : c = k
    · subst e
      simp only [if_true]
      exact At.newS _ _ _ hS
    · simp only [if_neg e]
      have a1 := hR c (by omega)
      have a2 := hG c (by omega)
      have a3 : At (w2.setCell ⟨w.heap.size, k, none⟩ (.slice (some ⟨w2.heap.size, 0, none⟩) (bl k) (bl k))) (g c) (uC (fun _ _ => false) c) 4 := (Below.heap_setCell w2 ⟨w.heap.size, k, none⟩ _ (g c) (by show g c ≠ w.heap.size; omega)).trans (a1.below h2 a1.lt)
      exact a3.below (below_alloc _ _).drew a3.lt
  · intro c hc
    by_cases e : c = k
    · simp only [if_pos e]; omega
    · simp only [if_neg e]; exact hG c (by omega)
  · intro c d hcd hd
    have hck : c ≠ k := by omega
    simp only [if_neg hck]
    by_cases e : d = k
    · simp only [if_pos e]
      have := (hR c (by omega)).lt
      omega
    · simp only [if_neg e]; exact hI c d hcd (by omega)

set_option maxHeartbeats 1000000 in
theorem new_c (w : World) (ht : Tab w) : Calls Tryd.prog 15 #[] w fun e w' => ∃ g, e = .returned (.pointer (some ⟨w.heap.size, 0, none⟩)) ∧ Below w.heap.size w w' ∧ HIn w' w.heap.size g (fun _ _ => false) := by
  have T : Hid (Tab w) := ht
  obtain ⟨tt, fr, hg⟩ := T.out.below (below_alloc w (.cells #[.slice none 0 0, .slice none 0 0, .slice none 0 0, .slice none 0 0] 77)) T.out.lt
  clear ht
  go_enter Tryd.func15, Tryd.ntmps15
  go_wp2_with (refine wpList_load_row rfl 80 _ rfl 0 rfl tt _ fr _ hg Tryd.underlying80 rfl (by kernel_rfl) ?_)
  clear hg
  have HA : Hid (At (w.alloc (.cells #[.slice none 0 0, .slice none 0 0, .slice none 0 0, .slice none 0 0] 77)) w.heap.size #[.slice none 0 0, .slice none 0 0, .slice none 0 0, .slice none 0 0] 77) := At.new _ _ _
  have HB : Hid (Below w.heap.size w (w.alloc (.cells #[.slice none 0 0, .slice none 0 0, .slice none 0 0, .slice none 0 0] 77))) := below_alloc _ _
  generalize w.alloc (.cells #[.slice none 0 0, .slice none 0 0, .slice none 0 0, .slice none 0 0] 77) = w1 at *
  go_loopw [7] (fun i wr => ∃ k : Nat, k ≤ 4 ∧ i = .int .i64 (k : Int) ∧ ∃ g : Nat → Nat, Below w.heap.size w wr ∧ At wr w.heap.size (hC g k) 77 ∧ (∀ c, c < k → At wr (g c) (uC (fun _ _ => false) c) 4) ∧ (∀ c, c < k → w.heap.size < g c) ∧ (∀ c d, c < d → d < k → g c < g d)) (fun i _ => 4 - (intOf i).toNat)
  case atStart => exact ⟨0, by omega, rfl, fun _ => 0, HB.out, HA.out, fun c h => by omega, fun c h => by omega, fun c d _ h => by omega⟩
  case round =>
    obtain ⟨k, hk, rfl, g, hB, hA, hR, hG, hI⟩ := hrel
    have RR : Hid (Below w.heap.size w wr ∧ At wr w.heap.size (hC g k) 77 ∧ (∀ c, c < k → At wr (g c) (uC (fun _ _ => false) c) 4) ∧ (∀ c, c < k → w.heap.size < g c) ∧ (∀ c d, c < d → d < k → g c < g d)) := ⟨hB, hA, hR, hG, hI⟩
    clear hB hR hG hI
    rcases (by omega : k = 0 ∨ k = 1 ∨ k = 2 ∨ k = 3 ∨ k = 4) with rfl | rfl | rfl | rfl | rfl
    · have hx : ∀ w, (Instr.index 80 (.agg spansC) (.int .i64 0)).run Tryd.prog w = .ok (.agg #[.int .i64 4, .int .i64 64, .int .i64 262144]) w := fun w => span_index 0 (by omega) w
      have hA1 := hA.below (below_alloc wr (.cells #[.int .i64 4, .int .i64 64, .int .i64 262144] 79)) hA.lt
      have hS := At.new wr #[.int .i64 4, .int .i64 64, .int .i64 262144] 79
      have g0 := hA1.frozen 0
      have g1 : World.cell? _ ⟨w.heap.size, 0, none⟩ = some (.slice none 0 0) := (hA1.cell 0).trans (by simp [hC, sl])
      have g2 : World.cell? _ ⟨wr.heap.size, 1, none⟩ = some (.int .i64 64) := (hS.cell 1).trans rfl
      have g3 := hA1.lt
      clear hA hA1 hS
      have mk := mk0
      go_wp2
      have hw2 := below_alloc wr (.cells #[.int .i64 4, .int .i64 64, .int .i64 262144] 79)
      generalize wr.alloc (.cells #[.int .i64 4, .int .i64 64, .int .i64 262144] 79) = w2 at *
      have ST : Hid _ := new_step w wr w2 0 (by omega) g RR.out hw2
      clear hw2
      have ne : w.heap.size ≠ wr.heap.size := Nat.ne_of_lt RR.out.2.1.lt
      have K1 : Hid (w2.cell? ⟨wr.heap.size, 1, none⟩ = some (.int .i64 64)) := g2
      have K2 : Hid (∀ o, (w2.alloc o).cell? ⟨wr.heap.size, 1, none⟩ = some (.int .i64 64)) := fun o => cell_new o g2
      have K3 : Hid (∀ o v, ((w2.setCell ⟨w.heap.size, 0, none⟩ v).alloc o).cell? ⟨wr.heap.size, 1, none⟩ = some (.int .i64 64)) := fun o v => cell_new o (by rw [World.cell?_setCell_far _ _ _ _ ne]; exact g2)
      go_region_held3 (fun w' => w'.cell? ⟨wr.heap.size, 1, none⟩ = some (.int .i64 64)) (first | exact K1.out | exact K2.out _ | exact K3.out _ _) (fail)
      all_goals go_wp2
      go_roundw
      case rel => exact ⟨1, by omega, rfl, ST.out⟩
      case measure => simp [intOf]
    · have hx : ∀ w, (Instr.index 80 (.agg spansC) (.int .i64 1)).run Tryd.prog w = .ok (.agg #[.int .i64 16, .int .i64 32, .int .i64 263168]) w := fun w => span_index 1 (by omega) w
      have hA1 := hA.below (below_alloc wr (.cells #[.int .i64 16, .int .i64 32, .int .i64 263168] 79)) hA.lt
      have hS := At.new wr #[.int .i64 16, .int .i64 32, .int .i64 263168] 79
      have g0 := hA1.frozen 1
      have g1 : World.cell? _ ⟨w.heap.size, 1, none⟩ = some (.slice none 0 0) := (hA1.cell 1).trans (by simp [hC, sl])
      have g2 : World.cell? _ ⟨wr.heap.size, 1, none⟩ = some (.int .i64 32) := (hS.cell 1).trans rfl
      have g3 := hA1.lt
      clear hA hA1 hS
      have mk := mk1
      go_wp2
      have hw2 := below_alloc wr (.cells #[.int .i64 16, .int .i64 32, .int .i64 263168] 79)
      generalize wr.alloc (.cells #[.int .i64 16, .int .i64 32, .int .i64 263168] 79) = w2 at *
      have ST : Hid _ := new_step w wr w2 1 (by omega) g RR.out hw2
      clear hw2
      have ne : w.heap.size ≠ wr.heap.size := Nat.ne_of_lt RR.out.2.1.lt
      have K1 : Hid (w2.cell? ⟨wr.heap.size, 1, none⟩ = some (.int .i64 32)) := g2
      have K2 : Hid (∀ o, (w2.alloc o).cell? ⟨wr.heap.size, 1, none⟩ = some (.int .i64 32)) := fun o => cell_new o g2
      have K3 : Hid (∀ o v, ((w2.setCell ⟨w.heap.size, 1, none⟩ v).alloc o).cell? ⟨wr.heap.size, 1, none⟩ = some (.int .i64 32)) := fun o v => cell_new o (by rw [World.cell?_setCell_far _ _ _ _ ne]; exact g2)
      go_region_held3 (fun w' => w'.cell? ⟨wr.heap.size, 1, none⟩ = some (.int .i64 32)) (first | exact K1.out | exact K2.out _ | exact K3.out _ _) (fail)
      all_goals go_wp2
      go_roundw
      case rel => exact ⟨2, by omega, rfl, ST.out⟩
      case measure => simp [intOf]
    · have hx : ∀ w, (Instr.index 80 (.agg spansC) (.int .i64 2)).run Tryd.prog w = .ok (.agg #[.int .i64 64, .int .i64 16, .int .i64 265216]) w := fun w => span_index 2 (by omega) w
      have hA1 := hA.below (below_alloc wr (.cells #[.int .i64 64, .int .i64 16, .int .i64 265216] 79)) hA.lt
      have hS := At.new wr #[.int .i64 64, .int .i64 16, .int .i64 265216] 79
      have g0 := hA1.frozen 2
      have g1 : World.cell? _ ⟨w.heap.size, 2, none⟩ = some (.slice none 0 0) := (hA1.cell 2).trans (by simp [hC, sl])
      have g2 : World.cell? _ ⟨wr.heap.size, 1, none⟩ = some (.int .i64 16) := (hS.cell 1).trans rfl
      have g3 := hA1.lt
      clear hA hA1 hS
      have mk := mk2
      go_wp2
      have hw2 := below_alloc wr (.cells #[.int .i64 64, .int .i64 16, .int .i64 265216] 79)
      generalize wr.alloc (.cells #[.int .i64 64, .int .i64 16, .int .i64 265216] 79) = w2 at *
      have ST : Hid _ := new_step w wr w2 2 (by omega) g RR.out hw2
      clear hw2
      have ne : w.heap.size ≠ wr.heap.size := Nat.ne_of_lt RR.out.2.1.lt
      have K1 : Hid (w2.cell? ⟨wr.heap.size, 1, none⟩ = some (.int .i64 16)) := g2
      have K2 : Hid (∀ o, (w2.alloc o).cell? ⟨wr.heap.size, 1, none⟩ = some (.int .i64 16)) := fun o => cell_new o g2
      have K3 : Hid (∀ o v, ((w2.setCell ⟨w.heap.size, 2, none⟩ v).alloc o).cell? ⟨wr.heap.size, 1, none⟩ = some (.int .i64 16)) := fun o v => cell_new o (by rw [World.cell?_setCell_far _ _ _ _ ne]; exact g2)
      go_region_held3 (fun w' => w'.cell? ⟨wr.heap.size, 1, none⟩ = some (.int .i64 16)) (first | exact K1.out | exact K2.out _ | exact K3.out _ _) (fail)
      all_goals go_wp2
      go_roundw
      case rel => exact ⟨3, by omega, rfl, ST.out⟩
      case measure => simp [intOf]
    · have hx : ∀ w, (Instr.index 80 (.agg spansC) (.int .i64 3)).run Tryd.prog w = .ok (.agg #[.int .i64 128, .int .i64 8, .int .i64 269312]) w := fun w => span_index 3 (by omega) w
      have hA1 := hA.below (below_alloc wr (.cells #[.int .i64 128, .int .i64 8, .int .i64 269312] 79)) hA.lt
      have hS := At.new wr #[.int .i64 128, .int .i64 8, .int .i64 269312] 79
      have g0 := hA1.frozen 3
      have g1 : World.cell? _ ⟨w.heap.size, 3, none⟩ = some (.slice none 0 0) := (hA1.cell 3).trans (by simp [hC, sl])
      have g2 : World.cell? _ ⟨wr.heap.size, 1, none⟩ = some (.int .i64 8) := (hS.cell 1).trans rfl
      have g3 := hA1.lt
      clear hA hA1 hS
      have mk := mk3
      go_wp2
      have hw2 := below_alloc wr (.cells #[.int .i64 128, .int .i64 8, .int .i64 269312] 79)
      generalize wr.alloc (.cells #[.int .i64 128, .int .i64 8, .int .i64 269312] 79) = w2 at *
      have ST : Hid _ := new_step w wr w2 3 (by omega) g RR.out hw2
      clear hw2
      have ne : w.heap.size ≠ wr.heap.size := Nat.ne_of_lt RR.out.2.1.lt
      have K1 : Hid (w2.cell? ⟨wr.heap.size, 1, none⟩ = some (.int .i64 8)) := g2
      have K2 : Hid (∀ o, (w2.alloc o).cell? ⟨wr.heap.size, 1, none⟩ = some (.int .i64 8)) := fun o => cell_new o g2
      have K3 : Hid (∀ o v, ((w2.setCell ⟨w.heap.size, 3, none⟩ v).alloc o).cell? ⟨wr.heap.size, 1, none⟩ = some (.int .i64 8)) := fun o v => cell_new o (by rw [World.cell?_setCell_far _ _ _ _ ne]; exact g2)
      go_region_held3 (fun w' => w'.cell? ⟨wr.heap.size, 1, none⟩ = some (.int .i64 8)) (first | exact K1.out | exact K2.out _ | exact K3.out _ _) (fail)
      all_goals go_wp2
      go_roundw
      case rel => exact ⟨4, by omega, rfl, ST.out⟩
      case measure => simp [intOf]
    · clear hA
      go_wp2
      go_ret
      exact ⟨g, rfl, RR.out.1, RR.out.2.1, RR.out.2.2.1, RR.out.2.2.2.1, RR.out.2.2.2.2⟩
end Go.Proofs.YtapgaclonilnbaaDoor
