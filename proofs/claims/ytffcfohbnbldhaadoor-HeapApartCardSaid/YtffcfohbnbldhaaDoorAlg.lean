/-
  Proved: plain facts of the heap's blocks: an address and its block, the least block that is not in use, how many are in use.
-/
import Derived.Test.YtffcfohbnbldhaaDoorLive
namespace Go.Proofs.YtffcfohbnbldhaaDoor
open Go.RowKit

/-- The address of a block. -/
def adr (c k : Nat) : Int := (st c : Int) + (k : Int) * (4 * (sz c : Int))

theorem ff_first (p : Nat → Bool) (n k i : Nat) (h : ∀ j, k ≤ j → j < i → p j = false) (hi : p i = true) (hk : k ≤ i) (hn : i < k + n) : ff p n k = some i := by
  induction n generalizing k with
  | zero => omega
  | succ n ih =>
    unfold ff
    by_cases e : k = i
    · subst e; rw [if_pos hi]
    · rw [h k (Nat.le_refl _) (by omega)]
      simp only [Bool.false_eq_true, if_false]
      exact ih (k + 1) (fun j h1 h2 => h j (by omega) h2) (by omega) (by omega)

theorem ff_none (p : Nat → Bool) (n k : Nat) (h : ∀ j, k ≤ j → j < k + n → p j = false) : ff p n k = none := by
  induction n generalizing k with
  | zero => rfl
  | succ n ih =>
    unfold ff
    rw [h k (Nat.le_refl _) (by omega)]
    simp only [Bool.false_eq_true, if_false]
    exact ih (k + 1) (fun j h1 h2 => h j (by omega) (by omega))

theorem atP_false (x : Int) (i : Nat) (h : x < st i ∨ (st i : Int) + (bl i : Int) * (4 * (sz i : Int)) ≤ x) : atP x i = false := by
  unfold atP
  rcases h with h | h
  · rw [decide_eq_false (by omega)]; rfl
  · rw [decide_eq_false (p := x < (st i : Int) + (bl i : Int) * (4 * (sz i : Int))) (by omega)]; simp

theorem atP_true (x : Int) (i : Nat) (h : st i ≤ x) (h' : x < (st i : Int) + (bl i : Int) * (4 * (sz i : Int))) : atP x i = true := by
  unfold atP
  rw [decide_eq_true h, decide_eq_true h']
  rfl

/-- The end of a class is where the next one begins. -/
theorem st_next (i : Nat) (h : i < 3) : (st i : Int) + (bl i : Int) * (4 * (sz i : Int)) = st (i + 1) := by
  rcases (by omega : i = 0 ∨ i = 1 ∨ i = 2) with rfl | rfl | rfl <;> rfl

theorem st_mono (i j : Nat) (h : i ≤ j) : st i ≤ st j := by
  unfold st
  repeat' split
  all_goals omega

theorem at_in (x : Int) (c : Nat) (hc : c < 4) (h : st c ≤ x) (h' : x < (st c : Int) + (bl c : Int) * (4 * (sz c : Int))) : atOf x = some c := by
  refine ff_first (atP x) 4 0 c (fun j _ hj => atP_false x j (Or.inr ?_)) (atP_true x c h h') (Nat.zero_le _) (by omega)
  have := st_next j (by omega)
  have := st_mono (j + 1) c (by omega)
  omega

theorem adr_in (c k : Nat) (hk : k < bl c) : (st c : Int) ≤ adr c k ∧ adr c k + 4 * (sz c : Int) ≤ (st c : Int) + (bl c : Int) * (4 * (sz c : Int)) := by
  have hz := span_le c
  unfold adr
  have h1 : 0 ≤ (k : Int) * (4 * (sz c : Int)) := Int.mul_nonneg (by omega) (by omega)
  have h2 : ((k : Int) + 1) * (4 * (sz c : Int)) ≤ (bl c : Int) * (4 * (sz c : Int)) := Int.mul_le_mul_of_nonneg_right (by omega) (by omega)
  rw [Int.add_mul, Int.one_mul] at h2
  omega

theorem at_adr (c k : Nat) (hc : c < 4) (hk : k < bl c) (r : Nat) (hr : r < 4 * sz c) : atOf (adr c k + r) = some c ∧ kOf (adr c k + r) c = k ∧ rOf (adr c k + r) c = r := by
  have hz := span_le c
  have h1 := adr_in c k hk
  refine ⟨at_in _ c hc (by omega) (by omega), ?_, ?_⟩
  · unfold kOf adr
    rw [show (st c : Int) + (k : Int) * (4 * (sz c : Int)) + r - st c = r + (k : Int) * (4 * (sz c : Int)) by omega, Int.add_mul_ediv_right _ _ (by omega), Int.ediv_eq_zero_of_lt (by omega) (by omega)]
    omega
  · unfold rOf adr
    rw [show (st c : Int) + (k : Int) * (4 * (sz c : Int)) + r - st c = r + (k : Int) * (4 * (sz c : Int)) by omega, Int.add_mul_emod_self_right, Int.emod_eq_of_lt (by omega) (by omega)]
    omega

theorem at_adr0 (c k : Nat) (hc : c < 4) (hk : k < bl c) : atOf (adr c k) = some c ∧ kOf (adr c k) c = k ∧ rOf (adr c k) c = 0 := by
  have := at_adr c k hc hk 0 (by have := span_le c; omega)
  simpa using this

/-- An address of a block is one, and its block's. -/
theorem of_at (x : Int) (c : Nat) (h : atOf x = some c) : c < 4 ∧ kOf x c < bl c ∧ rOf x c < 4 * sz c ∧ x = adr c (kOf x c) + rOf x c := by
  have h1 := ff_lt (atP x) 4 0 c h
  obtain ⟨e1, e2, e3, e4⟩ := k_of x c h1.2.2
  refine ⟨by omega, e2, e4, ?_⟩
  have := Int.mul_ediv_add_emod (x - st c) (4 * (sz c : Int))
  unfold adr
  rw [e1, e3, Int.mul_comm] at this
  omega

theorem adr_inj (c k d l : Nat) (hc : c < 4) (hd : d < 4) (hk : k < bl c) (hl : l < bl d) (h : adr c k = adr d l) : c = d ∧ k = l := by
  have h1 := at_adr0 c k hc hk
  have h2 := at_adr0 d l hd hl
  rw [h] at h1
  have e : c = d := Option.some.inj (h1.1.symm.trans h2.1)
  subst e
  exact ⟨rfl, h1.2.1.symm.trans h2.2.1⟩

theorem cnt_congr {us vs : Nat → Nat → Bool} {c n : Nat} (h : ∀ k, k < n → us c k = vs c k) : cnt us c n = cnt vs c n := by
  induction n with
  | zero => rfl
  | succ n ih => simp only [cnt]; rw [ih (fun k hk => h k (by omega)), h n (by omega)]

theorem cnt_all {us : Nat → Nat → Bool} {c n : Nat} (h : ∀ k, k < n → us c k = true) : cnt us c n = n := by
  induction n with
  | zero => rfl
  | succ n ih => simp only [cnt]; rw [ih (fun k hk => h k (by omega)), h n (by omega)]; rfl

theorem cnt_free {us : Nat → Nat → Bool} {c n : Nat} (k : Nat) (hk : k < n) (h : us c k = true) : cnt (upd us c k false) c n + 1 = cnt us c n := by
  induction n with
  | zero => omega
  | succ n ih =>
    simp only [cnt]
    by_cases e : k = n
    · subst e
      rw [cnt_congr (us := upd us c k false) (vs := us) (fun j hj => by simp [upd]; intro e; omega), h]
      simp [upd]
    · have h1 := ih (by omega)
      have h2 : upd us c k false c n = us c n := by simp [upd, Ne.symm e]
      rw [h2]
      omega

theorem cnt_take {us : Nat → Nat → Bool} {c n : Nat} (k : Nat) (hk : k < n) (h : us c k = false) : cnt (upd us c k true) c n = cnt us c n + 1 := by
  induction n with
  | zero => omega
  | succ n ih =>
    simp only [cnt]
    by_cases e : k = n
    · subst e
      rw [cnt_congr (us := upd us c k true) (vs := us) (fun j hj => by simp [upd]; intro e; omega), h]
      simp [upd]
    · have h1 := ih (by omega)
      have h2 : upd us c k true c n = us c n := by simp [upd, Ne.symm e]
      rw [h2]
      omega

/-- Where no block of a class is left, all are in use; else one is found that is not. -/
theorem fr_none {us : Nat → Nat → Bool} {c : Nat} (h : fr us c = none) : ∀ k, k < bl c → us c k = true := by
  have key : ∀ n k, ff (fun k => !us c k) n k = none → ∀ j, k ≤ j → j < k + n → us c j = true := by
    intro n
    induction n with
    | zero => intro k _ j _ _; omega
    | succ n ih =>
      intro k hk j h1 h2
      unfold ff at hk
      by_cases e : us c k = true
      · rw [e] at hk
        simp only [Bool.not_true, Bool.false_eq_true, if_false] at hk
        by_cases e2 : j = k
        · subst e2; exact e
        · exact ih (k + 1) hk j (by omega) (by omega)
      · simp [e] at hk
  intro k hk
  exact key (bl c) 0 h k (Nat.zero_le _) (by omega)

theorem fr_some {us : Nat → Nat → Bool} {c k : Nat} (h : fr us c = some k) : k < bl c ∧ us c k = false := by
  have := ff_lt _ _ _ _ h
  exact ⟨by omega, by simpa using this.2.2⟩
end Go.Proofs.YtffcfohbnbldhaaDoor
