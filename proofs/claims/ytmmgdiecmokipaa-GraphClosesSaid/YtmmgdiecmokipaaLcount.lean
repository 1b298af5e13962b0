/-
  Proved (pure): ways are as many as those that come, told both ways.
-/
import Derived.Test.YtmmgdiecmokipaaLfew
namespace Go.Proofs.Ytmmgdiecmokipaa

/-- The sum of the first ones. -/
def sm (f : Nat → Nat) : Nat → Nat
  | 0 => 0
  | k + 1 => sm f k + f k

theorem sm_congr {f g : Nat → Nat} {n : Nat} (h : ∀ x, x < n → f x = g x) : sm f n = sm g n := by
  induction n with
  | zero => rfl
  | succ n ih => simp only [sm]; rw [ih fun x hx => h x (by omega), h n (by omega)]
theorem sm_add (f g : Nat → Nat) (n : Nat) : sm (fun x => f x + g x) n = sm f n + sm g n := by
  induction n with
  | zero => rfl
  | succ n ih => simp only [sm]; rw [ih]; omega
theorem sm_zero (n : Nat) : sm (fun _ => 0) n = 0 := by
  induction n with
  | zero => rfl
  | succ n ih => simp only [sm]; rw [ih]
theorem sm_swap (f : Nat → Nat → Nat) (m n : Nat) : sm (fun x => sm (fun a => f x a) m) n = sm (fun a => sm (fun x => f x a) n) m := by
  induction n with
  | zero => simp only [sm]; rw [sm_zero]
  | succ n ih => simp only [sm]; rw [ih, sm_add]
theorem sm_le {f : Nat → Nat} {n c : Nat} (h : ∀ x, f x ≤ c) : sm f n ≤ n * c := by
  induction n with
  | zero => simp [sm]
  | succ n ih => simp only [sm]; have := h n; rw [Nat.succ_mul]; omega
theorem sm_mono (f : Nat → Nat) {a b : Nat} (h : a ≤ b) (hz : ∀ x, a ≤ x → f x = 0) : sm f b = sm f a := by
  induction b with
  | zero => obtain rfl : a = 0 := by omega
            rfl
  | succ b ih =>
    by_cases e : a = b + 1
    · subst e; rfl
    · simp only [sm]
      rw [ih (by omega), hz b (by omega)]
      rfl
theorem sm_one {p q : Nat → Bool} {n y : Nat} (hy : y < n) (hp : p y = false) (hq : q y = true) (h : ∀ x, x ≠ y → q x = p x) : sm (fun x => if q x then 1 else 0) n = sm (fun x => if p x then 1 else 0) n + 1 := by
  induction n with
  | zero => omega
  | succ n ih =>
    simp only [sm]
    by_cases e : y = n
    · subst e
      rw [hp, hq, sm_congr (g := fun x => if p x then 1 else 0) fun x hx => by rw [h x (by omega)]]
      simp
    · rw [ih (by omega), h n (fun e2 => e e2.symm)]
      omega

/-- How many there are of a list, each once. -/
def dst (n : Nat) (l : List Nat) : Nat := sm (fun y => if l.contains y then 1 else 0) n

theorem dst_in {n y : Nat} {l : List Nat} (hy : y < n) (h : y ∉ l) : dst n (l ++ [y]) = dst n l + 1 := by
  unfold dst
  refine sm_one (p := fun y => l.contains y) (q := fun x => (l ++ [y]).contains x) hy ?_ ?_ fun x hx => ?_
  · rw [List.contains_eq_mem]; exact decide_eq_false h
  · simp
  · simp [hx]
theorem dst_same {n y : Nat} {l : List Nat} (h : y ∈ l) : dst n (l ++ [y]) = dst n l := by
  unfold dst
  refine sm_congr fun x _ => ?_
  by_cases e : x = y
  · subst e
    simp [h]
  · simp [e]
theorem dst_le (n : Nat) (l : List Nat) : dst n l ≤ n := by
  have := sm_le (f := fun y => if l.contains y then 1 else 0) (n := n) (c := 1) fun x => by split <;> omega
  simpa [dst] using this

theorem fr_sum (n : Nat) (to : List (List Int)) (x k : Nat) : (frT n to x k).length = sm (fun a => if (wy n to a).contains x then 1 else 0) k := by
  induction k with
  | zero => simp [frT, sm]
  | succ k ih =>
    simp only [sm]
    rw [fr_step, List.length_append, ih]
    congr 1
    split <;> rfl

/-- Told both ways alike. -/
theorem both_ways (n : Nat) (to : List (List Int)) : sm (fun x => (fr n to x).length) n = sm (fun a => dst n (wy n to a)) (min n to.length) := by
  have e1 : sm (fun x => (fr n to x).length) n = sm (fun a => dst n (wy n to a)) n := by
    rw [sm_congr (f := fun x => (fr n to x).length) (g := fun x => sm (fun a => if (wy n to a).contains x then 1 else 0) n) fun x _ => fr_sum n to x n]
    exact sm_swap _ n n
  rw [e1]
  by_cases h : n ≤ to.length
  · rw [Nat.min_eq_left h]
  · rw [Nat.min_eq_right (by omega)]
    refine sm_mono _ (by omega) fun a ha => ?_
    have : wy n to a = [] := by
      unfold wy
      rw [List.getD_eq_getElem?_getD, List.getElem?_eq_none (by omega)]
      rfl
    rw [this]
    unfold dst
    simp [sm_zero]

/-- What can be come to is the block 0, or one comes to it that can be come to. -/
theorem came_from {n : Nat} {to : List (List Int)} {i : Nat} (h0 : 0 < n) (hr : Rch (wy n to) (-1) i) : i = 0 ∨ ∃ a ∈ fr n to i, Rch (wy n to) (-1) a := by
  have key : Rch (wy n to) (-1) i ∧ i < n ∧ (i = 0 ∨ ∃ a ∈ fr n to i, Rch (wy n to) (-1) a) := hr.2 (fun x => Rch (wy n to) (-1) x ∧ x < n ∧ (x = 0 ∨ ∃ a ∈ fr n to x, Rch (wy n to) (-1) a)) ⟨Rch.zero (by decide), h0, Or.inl rfl⟩ fun a b ha hb hne => ⟨ha.1.step hb hne, wy_lt n to a b hb, Or.inr ⟨a, by
    unfold fr frT
    refine List.mem_filter.2 ⟨by simpa using ha.2.1, ?_⟩
    rw [List.contains_eq_mem]
    exact decide_eq_true hb, ha.1⟩⟩
  exact key.2.2

theorem fr_sorted (n : Nat) (to : List (List Int)) (i : Nat) : (fr n to i).Pairwise (· < ·) := by
  unfold fr frT
  exact List.Pairwise.filter _ List.pairwise_lt_range

theorem fr_lt (n : Nat) (to : List (List Int)) (i x : Nat) (h : x ∈ fr n to i) : x < n := by
  have := (List.mem_filter.1 h).1
  simpa using this

/-- Has one that can be come to come? -/
noncomputable def cam (n : Nat) (to : List (List Int)) (i k : Nat) : Bool := decide (i = 0) || ((fr n to i).take k).any fun a => rb n to (-1) a

theorem cam_step (n : Nat) (to : List (List Int)) (i k : Nat) (hk : k < (fr n to i).length) : cam n to i (k + 1) = (cam n to i k || rb n to (-1) (fr n to i)[k]) := by
  unfold cam
  rw [List.take_succ_eq_append_getElem hk, List.any_append, Bool.or_assoc]
  simp

theorem cam_all {n : Nat} {to : List (List Int)} {i : Nat} (h0 : 0 < n) (h : rb n to (-1) i = true) : cam n to i (fr n to i).length = true := by
  unfold cam
  rw [List.take_of_length_le (Nat.le_refl _)]
  rcases came_from h0 ((rb_iff _ _ _ _).1 h) with e | ⟨a, ha, hr⟩
  · simp [e]
  · rw [Bool.or_eq_true]
    exact Or.inr (List.any_eq_true.2 ⟨a, ha, (rb_iff _ _ _ _).2 hr⟩)
end Go.Proofs.Ytmmgdiecmokipaa
