/-
  Proved: of blocks that go one to the next, with one way past some, the order and the nearest ones.
-/
import Derived.Test.YtmmgdiecmokipaaGdfs
namespace Go.Proofs.Ytmmgdiecmokipaa
open Go.RowKit

/-- Block i goes to i + 1; a to b, too, if that is further. -/
def lineRow (a b i : Nat) : List Int := if i = a ∧ a + 1 < b then [((i + 1 : Nat) : Int), (b : Int)] else [((i + 1 : Nat) : Int)]
def lineTo (a b n : Nat) : List (List Int) := (List.range (n - 1)).map (lineRow a b)

theorem line_get (a b n i : Nat) : (lineTo a b n).getD i [] = if i < n - 1 then lineRow a b i else [] := by
  unfold lineTo
  rw [List.getD_eq_getElem?_getD, List.getElem?_map]
  split
  · rw [List.getElem?_range (by assumption)]; rfl
  · rw [List.getElem?_eq_none (by simp; omega)]; rfl

theorem line_wy (a b n i j : Nat) (hb : b < n) (hi : i + 1 < n) : j ∈ wy n (lineTo a b n) i ↔ j = i + 1 ∨ (i = a ∧ a + 1 < b ∧ j = b) := by
  unfold wy
  rw [line_get, if_pos (by omega)]
  unfold lineRow keep
  split
  · rename_i h
    rw [List.filter_cons_of_pos (by simp; omega), List.filter_cons_of_pos (by simp; omega)]
    simp only [List.filter_nil, List.map_cons, List.map_nil, List.mem_cons, List.not_mem_nil, or_false]
    constructor
    · rintro (h1 | h1)
      · left; omega
      · right; refine ⟨h.1, h.2, by omega⟩
    · rintro (h1 | h1)
      · left; omega
      · right; omega
  · rename_i h
    rw [List.filter_cons_of_pos (by simp; omega)]
    simp only [List.filter_nil, List.map_cons, List.map_nil, List.mem_cons, List.not_mem_nil, or_false]
    constructor
    · intro h1; left; omega
    · rintro (h1 | h1)
      · omega
      · exact absurd ⟨h1.1, h1.2.1⟩ h

theorem line_end (a b n i : Nat) (hi : n ≤ i + 1) : wy n (lineTo a b n) i = [] := by
  unfold wy
  rw [line_get, if_neg (by omega)]
  rfl

theorem near_edge {g : Nat → List Nat} {i d : Nat} (h : Dom g d i) (he : i ∈ g d) : Near g i d :=
  ⟨h, fun e hd hn => ⟨hn, hd.2.1, fun hr => hd.2.2 (hr.step he (by have := hd.1; omega))⟩⟩

theorem line_rch (a b n i : Nat) (hb : b < n) (hi : i < n) : Rch (wy n (lineTo a b n)) (-1) i := by
  induction i with
  | zero => exact Rch.zero (by decide)
  | succ i ih => exact (ih (by omega)).step ((line_wy a b n i (i + 1) hb hi).2 (Or.inl rfl)) (by omega)

/-- The nearest one of a line. -/
def lineD (a b i : Nat) : Int := if i = b ∧ a + 1 < b then (a : Int) else (i : Int) - 1

theorem line_dom (a b n i : Nat) (hab : a ≤ b) (hb : b < n) (h0 : 0 < i) (hi : i < n) : dm n (lineTo a b n) i = lineD a b i := by
  obtain ⟨d, _, h1, h2⟩ := dm_near n (lineTo a b n) i h0 hi (line_rch a b n i hb hi)
  rw [h1]
  have out : ∀ (e : Nat) (S : Nat → Prop), S 0 → (∀ x y, S x → x + 1 < n → (y = x + 1 ∨ (x = a ∧ a + 1 < b ∧ y = b)) → y ≠ e → S y) → ¬ S i → ¬ Rch (wy n (lineTo a b n)) (e : Int) i := fun e S s0 ss si hr => si (hr.2 S s0 fun x y hx hy hw => by
    rcases Nat.lt_or_ge (x + 1) n with h | h
    · exact ss x y hx h ((line_wy a b n x y hb h).1 hy) (by omega)
    · rw [line_end a b n x h] at hy
      simp at hy)
  unfold lineD
  by_cases hsp : i = b ∧ a + 1 < b
  · rw [if_pos hsp]
    obtain ⟨rfl, hsp⟩ := hsp
    have hD : Dom (wy n (lineTo a i n)) a i := ⟨by omega, line_rch a i n a hb (by omega), by
      by_cases ha : a = 0
      · subst ha; exact fun h => h.1 rfl
      · refine out a (fun x => x < a) (by omega) (fun x y hx _ hy hn => ?_) (by omega)
        rcases hy with h | h <;> omega⟩
    have := near_one h2 (near_edge hD ((line_wy a i n a i hb (by omega)).2 (Or.inr ⟨rfl, hsp, rfl⟩)))
    omega
  · rw [if_neg hsp]
    have hD : Dom (wy n (lineTo a b n)) (i - 1) i := ⟨by omega, line_rch a b n (i - 1) hb (by omega), by
      by_cases h1 : i - 1 = 0
      · rw [h1]; exact fun h => h.1 rfl
      · by_cases h3 : i < b ∧ a + 1 < b
        · refine out (i - 1) (fun x => x < i - 1 ∨ b ≤ x) (by omega) (fun x y hx _ hy hn => ?_) (by omega)
          rcases hy with h | h <;> omega
        · refine out (i - 1) (fun x => x < i - 1) (by omega) (fun x y hx _ hy hn => ?_) (by omega)
          rcases hy with h | h <;> omega⟩
    have := near_one h2 (near_edge hD ((line_wy a b n (i - 1) i hb (by omega)).2 (Or.inl (by omega))))
    omega

theorem line_dom0 (a b n : Nat) : dm n (lineTo a b n) 0 = -1 := dm_none n _ 0 (fun h => by have := h.1; omega)

/-- The walk along a line. -/
theorem line_lv (a b n : Nat) (hb : b < n) (k : Nat) : ∀ (i f : Nat) (p : Nat → Bool) (out : List Nat), i + k + 1 = n → k + 1 ≤ f → (∀ x, i ≤ x → x < n → p x = false) → (∀ x, i ≤ x → x < n → (lv (wy n (lineTo a b n)) f i (p, out)).1 x = true) ∧ (lv (wy n (lineTo a b n)) f i (p, out)).2 = out ++ ((List.range (k + 1)).map fun j => n - 1 - j) := by
  induction k with
  | zero =>
    intro i f p out hi hf hp
    obtain ⟨f, rfl⟩ : ∃ m, f = m + 1 := ⟨f - 1, by omega⟩
    have e : lv (wy n (lineTo a b n)) (f + 1) i (p, out) = (up p i, out ++ [i]) := by
      simp only [lv]
      rw [line_end a b n i (by omega)]
      rfl
    rw [e]
    refine ⟨fun x h1 h2 => ?_, ?_⟩
    · obtain rfl : x = i := by omega
      exact up_self _ _
    · show out ++ [i] = _
      rw [show i = n - 1 - 0 by omega]
      rfl
  | succ k ih =>
    intro i f p out hi hf hp
    obtain ⟨f, rfl⟩ : ∃ m, f = m + 1 := ⟨f - 1, by omega⟩
    obtain ⟨h1, h2⟩ := ih (i + 1) f (up p i) out (by omega) (by omega) (fun x hx hx2 => by rw [up_ne _ _ _ (by omega)]; exact hp x (by omega) hx2)
    have hm := lv_mono (wy n (lineTo a b n)) f (i + 1) (up p i, out) i (up_self _ _)
    have e : lv (wy n (lineTo a b n)) (f + 1) i (p, out) = ((lv (wy n (lineTo a b n)) f (i + 1) (up p i, out)).1, (lv (wy n (lineTo a b n)) f (i + 1) (up p i, out)).2 ++ [i]) := by
      show ((lf (wy n (lineTo a b n)) f (wy n (lineTo a b n) i) (up p i, out)).1, (lf (wy n (lineTo a b n)) f (wy n (lineTo a b n) i) (up p i, out)).2 ++ [i]) = _
      have e2 : lf (wy n (lineTo a b n)) f (wy n (lineTo a b n) i) (up p i, out) = lv (wy n (lineTo a b n)) f (i + 1) (up p i, out) := by
        have e3 : wy n (lineTo a b n) i = if i = a ∧ a + 1 < b then [i + 1, b] else [i + 1] := by
          unfold wy
          rw [line_get, if_pos (by omega)]
          unfold lineRow keep
          split
          · rename_i h
            rw [List.filter_cons_of_pos (by simp; omega), List.filter_cons_of_pos (by simp; omega)]
            rfl
          · rw [List.filter_cons_of_pos (by simp; omega)]
            rfl
        rw [e3]
        have hpi : (up p i, out).1 (i + 1) = false := by
          show up p i (i + 1) = false
          rw [up_ne _ _ _ (by omega)]
          exact hp _ (by omega) (by omega)
        split
        · rename_i h
          show (if (if (up p i, out).1 (i + 1) then (up p i, out) else lv (wy n (lineTo a b n)) f (i + 1) (up p i, out)).1 b then (if (up p i, out).1 (i + 1) then (up p i, out) else lv (wy n (lineTo a b n)) f (i + 1) (up p i, out)) else lv (wy n (lineTo a b n)) f b (if (up p i, out).1 (i + 1) then (up p i, out) else lv (wy n (lineTo a b n)) f (i + 1) (up p i, out))) = _
          rw [hpi]
          simp only [Bool.false_eq_true, if_false]
          rw [h1 b (by omega) hb]
          simp
        · show (if (up p i, out).1 (i + 1) then (up p i, out) else lv (wy n (lineTo a b n)) f (i + 1) (up p i, out)) = _
          rw [hpi]
          simp
      rw [e2]
    rw [e]
    refine ⟨fun x hx hx2 => ?_, ?_⟩
    · by_cases e4 : x = i
      · subst e4; exact hm
      · exact h1 x (by omega) hx2
    · show (lv (wy n (lineTo a b n)) f (i + 1) (up p i, out)).2 ++ [i] = _
      rw [h2, List.append_assoc, List.range_succ (n := k + 1), List.map_append]
      congr 2
      show [i] = [n - 1 - (k + 1)]
      congr 1
      omega

theorem line_ord (a b n : Nat) (hb : b < n) : ord n (lineTo a b n) = List.range n := by
  rw [ord, if_neg (by omega)]
  have := (line_lv a b n hb (n - 1) 0 n (fun _ => false) [] (by omega) (by omega) (fun _ _ _ => rfl)).2
  rw [this]
  apply List.ext_getElem
  · simp; omega
  · intro i h1 h2
    simp at h1 h2 ⊢
    omega
end Go.Proofs.Ytmmgdiecmokipaa
