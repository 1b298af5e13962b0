/-
  Proved: rows of truths, and of numbers, in the making side by side; what can be come to.
-/
import Derived.Test.YtmmgdiecmokipaaGdata
import Derived.Deep.OwnRows
namespace Go.Proofs.Ytmmgdiecmokipaa
open Go.RowKit

def bC (p : Nat → Bool) (n : Nat) : Array Value := ((List.range n).map fun j => Value.bool (p j)).toArray
/-- n truths in a block. -/
def BR (w : World) (b n : Nat) (p : Nat → Bool) : Prop := At w b (bC p n) 4
/-- One more is true. -/
def up (p : Nat → Bool) (i : Nat) : Nat → Bool := fun j => if j = i then true else p j

theorem up_self (p : Nat → Bool) (i : Nat) : up p i i = true := by simp [up]
theorem up_of (p : Nat → Bool) (i j : Nat) (h : p j = true) : up p i j = true := by unfold up; split <;> simp [h]
theorem up_ne (p : Nat → Bool) (i j : Nat) (h : j ≠ i) : up p i j = p j := by unfold up; rw [if_neg h]

theorem bC_get (p : Nat → Bool) (n i : Nat) : (bC p n)[i]? = if i < n then some (.bool (p i)) else none := by
  unfold bC
  rw [List.getElem?_toArray, List.getElem?_map]
  split
  · rw [List.getElem?_range (by assumption)]; rfl
  · rw [List.getElem?_eq_none (by simp; omega)]; rfl

theorem bC_size (p : Nat → Bool) (n : Nat) : (bC p n).size = n := by simp [bC]

theorem bC_set (p : Nat → Bool) (n j : Nat) (h : j < n) : (bC p n).setIfInBounds j (.bool true) = bC (up p j) n := by
  apply Array.ext_getElem?
  intro i
  rw [Array.getElem?_setIfInBounds, bC_get, bC_get, bC_size]
  by_cases e : j = i
  · subst e
    simp [up, h]
  · rw [if_neg e, up_ne _ _ _ (fun h => e h.symm)]

theorem bC_made (n : Nat) : madeCells #[.bool false] n = bC (fun _ => false) n := by
  apply Array.ext_getElem?
  intro i
  rw [bC_get]
  split
  · rename_i h
    rw [Array.getElem?_eq_getElem (by rw [size_madeCells]; exact h)]
    simp [madeCells, Nat.mod_one]
  · rename_i h
    rw [Array.getElem?_eq_none (by rw [size_madeCells]; omega)]

theorem BR.lt {w : World} {b n : Nat} {p : Nat → Bool} (h : BR w b n p) : b < w.heap.size := At.lt h
theorem BR.cell {w : World} {b n : Nat} {p : Nat → Bool} (h : BR w b n p) (j : Nat) (hj : j < n) : w.cell? ⟨b, j, none⟩ = some (.bool (p j)) := by
  refine (At.cell h j).trans ?_
  rw [bC_get, if_pos hj]
theorem BR.set {w : World} {b n : Nat} {p : Nat → Bool} (h : BR w b n p) (j : Nat) (hj : j < n) : BR (w.setCell ⟨b, j, none⟩ (.bool true)) b n (up p j) := by
  have := At.set (j := j) h (.bool true)
  rw [bC_set p n j hj] at this
  exact this
theorem BR.frozen {w : World} {b n : Nat} {p : Nat → Bool} (h : BR w b n p) (j : Nat) : w.frozen? ⟨b, j, none⟩ = false := At.frozen h j
theorem BR.made (w : World) (n : Nat) : BR (w.alloc (.cells (madeCells #[.bool false] n) 4)) w.heap.size n (fun _ => false) := by
  rw [bC_made]
  exact At.new w _ _

theorem set_other (w : World) (b j : Nat) (u : Value) (c : Nat) (h : c ≠ b) : (w.setCell ⟨b, j, none⟩ u).heap[c]? = w.heap[c]? := by
  unfold World.setCell
  show (w.heap.modify b _)[c]? = _
  rw [Array.getElem?_modify, if_neg (fun e => h e.symm)]

theorem set_size (w : World) (a : Addr) (u : Value) : (w.setCell a u).heap.size = w.heap.size := by
  unfold World.setCell
  simp

theorem ON.move {base : Nat} {l : List Nat} {v : Value} {w w' : World} (h : ON base l v w) (hs : w.heap.size ≤ w'.heap.size) (hk : ∀ b, v.ownBlock = some b → w'.heap[b]? = w.heap[b]?) : ON base l v w' := by
  refine ⟨Nat.le_trans h.1 hs, h.2.1, ?_⟩
  rcases h.2.2 with h4 | ⟨g, cap, cur, rfl, e2, e3, e4⟩
  · exact Or.inl h4
  · exact Or.inr ⟨g, cap, cur, rfl, e2, (hk g rfl).trans e3, e4⟩

theorem ON.blk {base : Nat} {l : List Nat} {v : Value} {w : World} (h : ON base l v w) {b : Nat} (hb : v.ownBlock = some b) : base ≤ b ∧ b < w.heap.size ∧ ∃ cs, At w b cs 3 := by
  obtain ⟨h1, cs, h2⟩ := OwnB.at h hb
  exact ⟨h1, h2.lt, cs, h2⟩

theorem ON.one {w : World} {B : Nat} (y : Nat) (h : At w B #[.int .i64 (y : Int)] 3) : ON B [y] (.slice (some ⟨B, 0, none⟩) 1 1) w :=
  ⟨Nat.le_of_lt h.lt, rfl, Or.inr ⟨B, 1, _, rfl, Nat.le_refl _, h, Nat.le_refl _, by decide, rfl, rfl⟩⟩

theorem ON.lower {base base' : Nat} {l : List Nat} {v : Value} {w : World} (h : ON base l v w) (hb : base' ≤ base) : ON base' l v w := OwnB.lower h hb

/-- A row of numbers stays where a row of truths turns. -/
theorem ON.setB {base : Nat} {l : List Nat} {v : Value} {w : World} {b n : Nat} {p : Nat → Bool} (h : ON base l v w) (hb : BR w b n p) (j : Nat) (u : Value) : ON base l v (w.setCell ⟨b, j, none⟩ u) :=
  h.move (by rw [set_size]; exact Nat.le_refl _) fun c hc => by
    obtain ⟨_, _, cs, h2⟩ := h.blk hc
    exact set_other _ _ _ _ _ (At.type h2 hb (by decide))

/-- Nothing below has turned. -/
theorem below_set {n : Nat} {w wr : World} (h : Below n w wr) {b j : Nat} (hb : n ≤ b) (u : Value) : Below n w (wr.setCell ⟨b, j, none⟩ u) :=
  ⟨h.os, h.tape, h.output, by rw [set_size]; exact h.size, fun c hc => (set_other _ _ _ _ _ (by omega)).trans (h.block c hc)⟩

/-- A row of truths and a row of numbers, both of one's own. -/
def WK (w : World) (n : Nat) (p : Nat → Bool) (L : List Nat) (v : Value) (wr : World) : Prop := Below w.heap.size w wr ∧ BR wr w.heap.size n p ∧ ON (w.heap.size + 1) L v wr

theorem WK.below {w : World} {n : Nat} {p : Nat → Bool} {L : List Nat} {v : Value} {wr w' : World} (h : WK w n p L v wr) (k : Below wr.heap.size wr w') : WK w n p L v w' :=
  ⟨below_next h.1 k, At.below h.2.1 k (BR.lt h.2.1), h.2.2.below k⟩
theorem WK.set {w : World} {n : Nat} {p : Nat → Bool} {L : List Nat} {v : Value} {wr : World} (h : WK w n p L v wr) (j : Nat) (hj : j < n) : WK w n (up p j) L v (wr.setCell ⟨w.heap.size, j, none⟩ (.bool true)) :=
  ⟨below_set h.1 (Nat.le_refl _) _, h.2.1.set j hj, h.2.2.setB h.2.1 _ _⟩
theorem WK.app {w : World} {n : Nat} {p : Nat → Bool} {L L' : List Nat} {v v' : Value} {wr w' : World} (h : WK w n p L v wr) (h1 : ON (w.heap.size + 1) L' v' w') (h2 : Below (w.heap.size + 1) wr w') : WK w n p L' v' w' :=
  ⟨h.1.trans (h2.mono (by omega)), At.below h.2.1 h2 (by omega), h1⟩

/-- What can be come to from the block 0, but not over one. -/
def Rch (g : Nat → List Nat) (wo : Int) (j : Nat) : Prop := wo ≠ 0 ∧ ∀ S : Nat → Prop, S 0 → (∀ a b, S a → b ∈ g a → (b : Int) ≠ wo → S b) → S j

theorem Rch.zero {g : Nat → List Nat} {wo : Int} (h : wo ≠ 0) : Rch g wo 0 := ⟨h, fun _ h0 _ => h0⟩
theorem Rch.step {g : Nat → List Nat} {wo : Int} {a b : Nat} (h : Rch g wo a) (hb : b ∈ g a) (hw : (b : Int) ≠ wo) : Rch g wo b := ⟨h.1, fun S h0 hs => hs a b (h.2 S h0 hs) hb hw⟩
end Go.Proofs.Ytmmgdiecmokipaa
