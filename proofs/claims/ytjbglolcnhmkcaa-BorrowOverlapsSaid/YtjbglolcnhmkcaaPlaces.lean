/-
  Proved: a place's root and steps as plain data; the program's way to hold two steps against each other and the document's answer alike.
-/
import Derived.Test.YtjbglolcnhmkcaaTrees
namespace Go.Proofs.Ytjbglolcnhmkcaa
open Go.RowKit

/-- Does a tree of this kind lead from its first kid's place to another one? -/
def isSt (k : Int) : Bool := decide (k = 12) || decide (k = 13) || decide (k = 7)

/-- A place's root. -/
def rootX : X → X
  | .mk k n s [] ts => .mk k n s [] ts
  | .mk k n s (e :: ks) ts => if isSt k = true then rootX e else .mk k n s (e :: ks) ts

/-- A place's other trees, from the outermost inwards. -/
def outX : X → List X
  | .mk _ _ _ [] _ => []
  | .mk k n s (e :: ks) ts => if isSt k = true then .mk k n s (e :: ks) ts :: outX e else []

/-- How many first kids stand in one another. -/
def dpt : X → Nat
  | .mk _ _ _ [] _ => 0
  | .mk _ _ _ (e :: _) _ => dpt e + 1

theorem outX_len : ∀ x : X, (outX x).length ≤ dpt x
  | .mk _ _ _ [] _ => by simp [outX]
  | .mk k n s (e :: ks) ts => by
    rw [outX, dpt]
    split
    · have := outX_len e
      simp
      omega
    · simp

theorem outX_st : ∀ x : X, ∀ y ∈ outX x, isSt y.k = true
  | .mk _ _ _ [] _ => by simp [outX]
  | .mk k n s (e :: ks) ts => by
    rw [outX]
    split
    · rename_i h
      intro y hy
      rcases List.mem_cons.1 hy with rfl | hy
      · exact h
      · exact outX_st e y hy
    · simp

/-- The program's step. -/
def stp : X → Int × Int × Bool
  | .mk k n _ ks _ => if k = 12 then (12, n, true) else
    match ks with
    | _ :: e :: _ => if k = 13 ∧ e.k = 1 then (13, e.n, true) else (k, 0, false)
    | _ => (k, 0, false)

/-- The document's step. -/
def rst : X → Int × Int
  | .mk k n _ ks _ => if k = 12 then (1, n) else if k = 13 then
      match ks with
      | _ :: e :: _ => if e.k = 1 then (2, e.n) else (3, 0)
      | _ => (3, 0)
    else (4, 0)

def prt (s t : Int × Int × Bool) : Bool := decide (s.1 = t.1) && s.2.2 && t.2.2 && !decide (s = t)
def rprt (s t : Int × Int) : Bool := decide (s.1 = t.1) && decide (s.1 ≤ 2) && !decide (s.2 = t.2)

/-- The two steps in other words: one of four. -/
theorem two_steps (x : X) (h : isSt x.k = true) : (∃ n, stp x = (12, n, true) ∧ rst x = (1, n)) ∨ (∃ n, stp x = (13, n, true) ∧ rst x = (2, n)) ∨ (stp x = (13, 0, false) ∧ rst x = (3, 0)) ∨ (stp x = (7, 0, false) ∧ rst x = (4, 0)) := by
  obtain ⟨k, n, s, ks, ts⟩ := x
  simp only [isSt, Bool.or_eq_true, decide_eq_true_eq] at h
  rcases h with (h | h) | h
  · subst h
    exact Or.inl ⟨n, rfl, rfl⟩
  · subst h
    refine Or.inr ?_
    match ks with
    | [] => exact Or.inr (Or.inl ⟨rfl, rfl⟩)
    | [_] => exact Or.inr (Or.inl ⟨rfl, rfl⟩)
    | _ :: e :: _ =>
      by_cases he : e.k = 1
      · exact Or.inl ⟨e.n, by simp [stp, he], by simp [rst, he]⟩
      · exact Or.inr (Or.inl ⟨by simp [stp, he], by simp [rst, he]⟩)
  · subst h
    refine Or.inr (Or.inr (Or.inr ?_))
    match ks with
    | [] => exact ⟨rfl, rfl⟩
    | [_] => exact ⟨rfl, rfl⟩
    | _ :: e :: _ => exact ⟨by simp [stp], by simp [rst]⟩

theorem prt_eq (x y : X) (hx : isSt x.k = true) (hy : isSt y.k = true) : prt (stp x) (stp y) = rprt (rst x) (rst y) := by
  rcases two_steps x hx with ⟨n, a, b⟩ | ⟨n, a, b⟩ | ⟨a, b⟩ | ⟨a, b⟩ <;> rcases two_steps y hy with ⟨m, c, d⟩ | ⟨m, c, d⟩ | ⟨c, d⟩ | ⟨c, d⟩ <;> rw [a, b, c, d] <;> simp [prt, rprt]

/-- Are two of what stands side by side unlike, as is asked? -/
def anyOf {α : Type} (f : α → α → Bool) : List α → List α → Bool
  | a :: l, b :: m => f a b || anyOf f l m
  | _, _ => false

theorem anyOf_map (l m : List X) (hl : ∀ y ∈ l, isSt y.k = true) (hm : ∀ y ∈ m, isSt y.k = true) : anyOf prt (l.map stp) (m.map stp) = anyOf rprt (l.map rst) (m.map rst) := by
  induction l generalizing m with
  | nil => simp [anyOf]
  | cons a l ih =>
    cases m with
    | nil => simp [anyOf]
    | cons b m =>
      simp only [List.map_cons, anyOf]
      rw [prt_eq a b (hl a (by simp)) (hm b (by simp)), ih m (fun y hy => hl y (by simp [hy])) (fun y hy => hm y (by simp [hy]))]

theorem anyOf_drop {α : Type} (f : α → α → Bool) (l m : List α) (i : Nat) (h1 : i < l.length) (h2 : i < m.length) : anyOf f (l.drop i) (m.drop i) = (f (l[i]'h1) (m[i]'h2) || anyOf f (l.drop (i + 1)) (m.drop (i + 1))) := by
  rw [List.drop_eq_getElem_cons h1, List.drop_eq_getElem_cons h2, anyOf]

theorem anyOf_end {α : Type} (f : α → α → Bool) (l m : List α) (i : Nat) (h : l.length ≤ i ∨ m.length ≤ i) : anyOf f (l.drop i) (m.drop i) = false := by
  rcases h with h | h
  · rw [List.drop_eq_nil_of_le h, anyOf.eq_2]
    simp
  · rw [List.drop_eq_nil_of_le h]
    cases l.drop i <;> simp [anyOf]

/-- The program's steps, from the root outwards, and the document's. -/
def stps (x : X) : List (Int × Int × Bool) := (outX x).reverse.map stp
def rsts (x : X) : List (Int × Int) := (outX x).reverse.map rst

/-- Is there a root? -/
def isPl (x : X) : Bool := decide ((rootX x).k = 4)

/-- Do two places overlap? -/
def ovl (a b : X) : Bool := isPl a && isPl b && decide ((rootX a).n = (rootX b).n) && !anyOf prt (stps a) (stps b)

theorem ovl_ref (a b : X) : ovl a b = (isPl a && isPl b && decide ((rootX a).n = (rootX b).n) && !anyOf rprt (rsts a) (rsts b)) := by
  rw [ovl, stps, stps, anyOf_map _ _ (fun y hy => outX_st a y (by simpa using hy)) (fun y hy => outX_st b y (by simpa using hy))]
  rfl

end Go.Proofs.Ytjbglolcnhmkcaa
