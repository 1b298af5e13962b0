/-
  Proved: the document's Type and the program's answer the same, where borrows are not allowed, and where the types within one another can be counted by an int.
-/
import Derived.Test.YtjdkoahbahecoaaGreatDoorRTypeW
namespace Go.Proofs.YtjdkoahbahecoaaGreatDoor
open Go.RowKit

/-- How many types lie within one another. -/
def dep : T → Nat
  | .mk _ _ _ [] => 1
  | .mk _ _ _ (e :: _) => 1 + dep e

theorem bad1_false (is : List It) : ∀ (N : Nat) (t : T) (d : Int), SizeOf.sizeOf t < N → bad1 is false (ins t d) = rb1 is t false := by
  intro N
  induction N with
  | zero => intro t d h; omega
  | succ N ih =>
    intro t d h
    obtain ⟨k, s, n, es⟩ := t
    cases es with
    | nil =>
      rw [ins, rb1, bad1, bad1]
      simp only [Bool.false_and]
      split
      · rename_i h0; exact h0.symm
      · rfl
    | cons e es =>
      have hl := T.lt_mk k s n (e :: es) 0 (by simp)
      simp only [List.getElem_cons_zero] at hl
      rw [ins, rb1, bad1]
      simp only [Bool.false_and]
      split
      · split
        · exact ih e _ (by omega)
        · rfl
      · rfl

theorem bad1_deep (is : List It) (refs : Bool) : ∀ (N : Nat) (t : T) (d : Int), SizeOf.sizeOf t < N → 1 ≤ d → d + (dep t : Int) ≤ 9223372036854775808 → bad1 is refs (ins t d) = rb1 is t false := by
  intro N
  induction N with
  | zero => intro t d h; omega
  | succ N ih =>
    intro t d h hd hb
    have h0 : decide (d = 0) = false := decide_eq_false (by omega)
    obtain ⟨k, s, n, es⟩ := t
    cases es with
    | nil =>
      rw [ins, rb1, bad1, bad1]
      simp only [h0, Bool.and_false]
      split
      · rename_i h0; exact h0.symm
      · rfl
    | cons e es =>
      have hl := T.lt_mk k s n (e :: es) 0 (by simp)
      simp only [List.getElem_cons_zero] at hl
      rw [dep] at hb
      have hde : 1 ≤ dep e := by obtain ⟨_, _, _, es'⟩ := e; cases es' <;> rw [dep] <;> omega
      have hw : wrap64 (d + 1) = d + 1 := by unfold wrap64; omega
      rw [ins, rb1, bad1, hw]
      simp only [h0, Bool.and_false]
      split
      · split
        · exact ih e _ (by omega) (by omega) (by omega)
        · rfl
      · rfl

theorem bad2_all (is : List It) : ∀ (N : Nat) (t : T) (d : Int), SizeOf.sizeOf t < N → bad2 is (ins t d) = rb2 is t := by
  intro N
  induction N with
  | zero => intro t d h; omega
  | succ N ih =>
    intro t d h
    obtain ⟨k, s, n, es⟩ := t
    cases es with
    | nil => rw [ins, rb2, bad2, bad2, Bool.and_true]
    | cons e es =>
      have hl := T.lt_mk k s n (e :: es) 0 (by simp)
      simp only [List.getElem_cons_zero] at hl
      rw [ins, rb2, bad2]
      congr 1
      split
      · exact ih e _ (by omega)
      · rfl

theorem rT_eq (is : List It) (t : T) (refs : Bool) (h : refs = true → dep t ≤ 9223372036854775807) : rT is t refs = tyE is t refs := by
  have h1 : bad1 is refs (ins t 0) = rb1 is t refs := by
    cases refs with
    | false => exact bad1_false is _ t 0 (Nat.lt_succ_self _)
    | true =>
      have hd := h rfl
      obtain ⟨k, s, n, es⟩ := t
      cases es with
      | nil =>
        rw [ins, rb1, bad1, bad1]
        simp only [decide_true, Bool.and_self]
        split
        · rename_i h0; exact h0.symm
        · rfl
      | cons e es =>
        rw [dep] at hd
        rw [ins, rb1, bad1]
        simp only [decide_true, Bool.and_self]
        split
        · split
          · have hw : wrap64 ((0 : Int) + 1) = 1 := by unfold wrap64; omega
            rw [hw]
            exact bad1_deep is true _ e 1 (Nat.lt_succ_self _) (by omega) (by omega)
          · rfl
        · rfl
  unfold rT tyE
  rw [h1, bad2_all is _ t 0 (Nat.lt_succ_self _)]

end Go.Proofs.YtjdkoahbahecoaaGreatDoor
