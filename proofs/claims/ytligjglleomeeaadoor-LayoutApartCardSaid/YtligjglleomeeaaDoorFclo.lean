/-
  Proved: what fold.Plain's closure does with a place, and eachPlace with an instruction: the locals of whose own memory a place is made are no longer told plain.
-/
import Derived.Test.YtligjglleomeeaaDoorFparts
namespace Go.Proofs.YtligjglleomeeaaDoor
open Go.RowKit

def bC (p : Nat → Bool) (n : Nat) : Array Value := ((List.range n).map fun j => Value.bool (p j)).toArray
/-- n truths in a block. -/
def BR (w : World) (b n : Nat) (p : Nat → Bool) : Prop := At w b (bC p n) 4
/-- One of them anew. -/
def pb (p : Nat → Bool) (i : Nat) (x : Bool) : Nat → Bool := fun j => if j = i then x else p j

theorem bC_get (p : Nat → Bool) (n i : Nat) : (bC p n)[i]? = if i < n then some (.bool (p i)) else none := by
  unfold bC
  rw [List.getElem?_toArray, List.getElem?_map]
  split
  · rw [List.getElem?_range (by assumption)]; rfl
  · rw [List.getElem?_eq_none (by simp; omega)]; rfl
theorem bC_size (p : Nat → Bool) (n : Nat) : (bC p n).size = n := by simp [bC]
theorem bC_set (p : Nat → Bool) (n j : Nat) (h : j < n) (x : Bool) : (bC p n).setIfInBounds j (.bool x) = bC (pb p j x) n := by
  apply Array.ext_getElem?
  intro i
  rw [Array.getElem?_setIfInBounds, bC_get, bC_get, bC_size]
  by_cases e : j = i
  · subst e
    simp [pb, h]
  · have e' : ¬ i = j := fun h => e h.symm
    rw [if_neg e]
    simp [pb, e']
theorem bC_made (n : Nat) : madeCells #[.bool false] n = bC (fun _ => false) n := by
  apply Array.ext_getElem?
  intro i
  rw [bC_get]
  split
  · rename_i h
    rw [Array.getElem?_eq_getElem (by rw [size_madeCells]; exact h)]
    simp [madeCells, Nat.mod_one]
  · rename_i h
    rw [Array.getElem?_eq_none (by rw [size_madeCells]; omega)]
theorem bC_ext {p q : Nat → Bool} {n : Nat} (h : ∀ k, k < n → p k = q k) : bC p n = bC q n := by
  unfold bC
  congr 1
  exact List.map_congr_left fun k hk => by rw [h k (List.mem_range.1 hk)]

theorem BR.lt {w : World} {b n : Nat} {p : Nat → Bool} (h : BR w b n p) : b < w.heap.size := At.lt h
theorem BR.cell {w : World} {b n : Nat} {p : Nat → Bool} (h : BR w b n p) (j : Nat) (hj : j < n) : w.cell? ⟨b, j, none⟩ = some (.bool (p j)) := by
  refine (At.cell h j).trans ?_
  rw [bC_get, if_pos hj]
theorem BR.set {w : World} {b n : Nat} {p : Nat → Bool} (h : BR w b n p) (j : Nat) (hj : j < n) (x : Bool) : BR (w.setCell ⟨b, j, none⟩ (.bool x)) b n (pb p j x) := by
  have := At.set (j := j) h (.bool x)
  rw [bC_set p n j hj] at this
  exact this
theorem BR.frozen {w : World} {b n : Nat} {p : Nat → Bool} (h : BR w b n p) (j : Nat) : w.frozen? ⟨b, j, none⟩ = false := At.frozen h j
theorem BR.made (w : World) (n : Nat) : BR (w.alloc (.cells (madeCells #[.bool false] n) 4)) w.heap.size n (fun _ => false) := by
  rw [bC_made]
  exact At.new w _ _
theorem BR.ext {w : World} {b n : Nat} {p q : Nat → Bool} (h : BR w b n p) (e : ∀ k, k < n → p k = q k) : BR w b n q := by
  unfold BR at *
  rw [← bC_ext e]
  exact h

/-- What Plain holds: the truths in rb, their variable in bx. -/
def PB (w : World) (bx rb n : Nat) (g : Nat → Bool) : Prop := At w bx #[.slice (some ⟨rb, 0, none⟩) n n] 34 ∧ BR w rb n g
theorem PB.ext {w : World} {bx rb n : Nat} {p q : Nat → Bool} (h : PB w bx rb n p) (e : ∀ k, k < n → p k = q k) : PB w bx rb n q := ⟨h.1, h.2.ext e⟩
theorem PB.ne {w : World} {bx rb n : Nat} {p : Nat → Bool} (h : PB w bx rb n p) : bx ≠ rb := At.type h.1 h.2 (by decide)
theorem PB.below {w w' : World} {bx rb n : Nat} {p : Nat → Bool} (h : PB w bx rb n p) (k : Below w.heap.size w w') : PB w' bx rb n p := ⟨h.1.below k h.1.lt, At.below h.2 k h.2.lt⟩
theorem PB.set {w : World} {bx rb n : Nat} {g : Nat → Bool} (h : PB w bx rb n g) (j : Nat) (hj : j < n) (x : Bool) : PB (w.setCell ⟨rb, j, none⟩ (.bool x)) bx rb n (pb g j x) :=
  ⟨(Kp.set (F := fun c => c = rb) w j _ rfl).at h.1 h.ne, h.2.set j hj x⟩

theorem md_far {p : Pl} {n : Nat} (h : p.l < 0 ∨ (n : Int) ≤ p.l) (k : Nat) (hk : k < n) : mdf p k = false := by
  have : ¬ p.l = (k : Int) := by omega
  simp [mdf, this]
theorem md_held {p : Pl} (h : bgh p = true) (k : Int) : mdf p k = false := by
  obtain ⟨l, st⟩ := p
  cases st with
  | nil => simp [bgh] at h
  | cons s st => simp [bgh] at h; simp [mdf, h]
theorem md_own {p : Pl} (h : bgh p = false) (k : Int) : mdf p k = decide (p.l = k) := by
  obtain ⟨l, st⟩ := p
  cases st with
  | nil => simp [mdf]
  | cons s st => simp [bgh] at h; simp [mdf, h]

set_option maxHeartbeats 1000000 in
theorem clo_c (p : Pl) (b o : Nat) (pv : Value) (bx rb n : Nat) (g : Nat → Bool) (w : World) (hr : RowAt w b o [.int .i64 p.l, pv]) (hs : StsIn w p.st pv) (hp : PB w bx rb n g) :
    Calls Tryd.prog 11 #[.pointer (some ⟨b, o, none⟩), .pointer (some ⟨bx, 0, none⟩)] w fun e w' => e = .returned (.tuple #[]) ∧ PB w' bx rb n (fun k => g k && !mdf p k) ∧ Kp (fun c => c = rb) w w' := by
  have BC : Hid (∀ m, Calls Tryd.prog 12 #[.pointer (some ⟨b, o, none⟩)] (w.drewN m) fun e w' => e = .returned (.bool (bgh p)) ∧ w' = w.drewN m) := fun m => begins_c p b o pv _ (hr.below (below_drewN w m)) (hs.below (below_drewN w m))
  have P1 : Hid (PB w bx rb n g) := hp
  have cx : w.cell? ⟨bx, 0, none⟩ = some (.slice (some ⟨rb, 0, none⟩) n n) := hp.1.cell 0
  have hb := hr.1
  have hbx := hp.1.lt
  have c0 := hr.2 0 _ rfl
  simp only [Nat.add_zero] at c0
  by_cases h1 : p.l < 0
  · have E : Hid (PB w bx rb n (fun k => g k && !mdf p k)) := hp.ext fun k hk => by rw [md_far (Or.inl h1) k hk]; simp
    clear hp hr hs BC
    generalize p.l = l at *
    have h1' : decide (0 ≤ l) = false := by simpa using h1
    go_enter Tryd.func11, Tryd.ntmps11
    go_wp2
    go_quiet (fail)
    go_wp2
    go_end0
    exact ⟨rfl, E.out, (Kp.refl _ _).drewN _⟩
  · by_cases h2 : p.l < (n : Int)
    · cases h3 : bgh p with
      | true =>
        have E : Hid (PB w bx rb n (fun k => g k && !mdf p k)) := hp.ext fun k hk => by rw [md_held h3]; simp
        rw [h3] at BC
        clear hp hr hs h3
        generalize p.l = l at *
        have h1' : decide (0 ≤ l) = true := by simp; omega
        have h2' : decide (l < (n : Int)) = true := by simp; omega
        go_enter Tryd.func11, Tryd.ntmps11
        go_wp2
        go_quiet ((go_at_call 12; exact Calls.quiet_of_same (BC.out _)))
        go_wp2
        go_end0
        exact ⟨rfl, E.out, (Kp.refl _ _).drewN _⟩
      | false =>
        obtain ⟨j, hj⟩ : ∃ j : Nat, p.l = (j : Int) := ⟨p.l.toNat, by omega⟩
        have hjn : j < n := by omega
        have E : Hid (PB (w.setCell ⟨rb, j, none⟩ (.bool false)) bx rb n (fun k => g k && !mdf p k)) := (hp.set j hjn false).ext fun k hk => by
          rw [md_own h3, hj]
          unfold pb
          by_cases e : k = j
          · subst e; simp
          · rw [if_neg e]
            have : ¬ (j : Int) = (k : Int) := by omega
            simp [this]
        have fz := hp.2.frozen j
        have cj := hp.2.cell j hjn
        have hrb := hp.2.lt
        rw [h3] at BC
        rw [hj] at c0 h1 h2
        clear hp hr hs h3 hj
        have h1' : decide ((0 : Int) ≤ (j : Int)) = true := by simp
        have h2' : decide ((j : Int) < (n : Int)) = true := by simp; omega
        go_enter Tryd.func11, Tryd.ntmps11
        go_wp2
        go_quiet ((go_at_call 12; exact Calls.quiet_of_same (BC.out _)))
        go_wp2
        go_region
        go_wp2
        go_end0
        exact ⟨rfl, E.out, ((Kp.refl _ _).drewN _).trans (Kp.set _ _ _ rfl)⟩
    · have E : Hid (PB w bx rb n (fun k => g k && !mdf p k)) := hp.ext fun k hk => by rw [md_far (Or.inr (by omega)) k hk]; simp
      clear hp hr hs BC
      generalize p.l = l at *
      have h1' : decide (0 ≤ l) = true := by simp; omega
      have h2' : decide (l < (n : Int)) = false := by simp; omega
      go_enter Tryd.func11, Tryd.ntmps11
      go_wp2
      go_quiet (fail)
      go_wp2
      go_end0
      exact ⟨rfl, E.out, (Kp.refl _ _).drewN _⟩
end Go.Proofs.YtligjglleomeeaaDoor
