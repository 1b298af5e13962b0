/-
  Proved: the text of a type, as plain data, and how long it can be.
-/
import Derived.Test.YtdpmdonneoadbaaDoorTrees
import Derived.Lib.ItoaNum
namespace Go.Proofs.YtdpmdonneoadbaaDoor
open Go.RowKit

def ofL (l : List UInt8) : ByteArray := ⟨l.toArray⟩

theorem ofL_append (a b : List UInt8) : ofL a ++ ofL b = ofL (a ++ b) := by
  apply WideShapes.bytes_inj
  rw [← ByteArray.toList_eq, ← ByteArray.toList_eq]
  simp [ofL, ByteArray.toList_eq]

theorem ofL_size (l : List UInt8) : (ofL l).size = l.length := by simp [ofL, ByteArray.size]

theorem ofL_data (s : ByteArray) : ofL s.data.toList = s := by
  apply WideShapes.bytes_inj
  simp [ofL]

/-- The words of the types 1 to 8. -/
def wordOf (k : Int) : List UInt8 :=
  if k = 1 then [40, 41] else if k = 2 then [98, 111, 111, 108] else if k = 3 then [105, 56] else if k = 4 then [105, 49, 54] else if k = 5 then [105, 51, 50] else if k = 6 then [117, 56] else if k = 7 then [117, 49, 54] else [117, 51, 50]

/-- What is written where nothing is held. -/
def inner (k : Int) (s : ByteArray) : List UInt8 := if 1 ≤ k ∧ k ≤ 8 then wordOf k else if k = 9 then s.data.toList else [63]

def opn (k : Int) : List UInt8 := if k = 10 then [91] else if k = 11 then [66, 111, 120, 60] else if k = 13 then [38, 109, 117, 116, 32] else [38]
def cls (k n : Int) : List UInt8 := if k = 10 then [59, 32] ++ Lib.itoa n ++ [93] else if k = 11 then [62] else []

def holdsB (k : Int) (l : Nat) : Bool := decide (10 ≤ k) && decide (k ≤ 13) && decide (0 < l)

/-- The text of a type. -/
def T.text : T → List UInt8
  | .mk k s _ [] => inner k s
  | .mk k s n (e :: es) => if holdsB k (e :: es).length then opn k ++ T.text e ++ cls k n else inner k s

theorem T.text_nil (k : Int) (s : ByteArray) (n : Int) : T.text (.mk k s n []) = inner k s := by rw [T.text]
theorem T.text_cons (k : Int) (s : ByteArray) (n : Int) (e : T) (es : List T) : T.text (.mk k s n (e :: es)) = if holdsB k (e :: es).length then opn k ++ T.text e ++ cls k n else inner k s := by rw [T.text]

theorem text_inner (k : Int) (s : ByteArray) (n : Int) (es : List T) (h : holdsB k es.length = false) : (T.mk k s n es).text = inner k s := by
  cases es with
  | nil => exact T.text_nil k s n
  | cons e es => rw [T.text_cons, h]; rfl

/-- How many types stand in one another. -/
def T.deepT : T → Nat
  | .mk _ _ _ [] => 0
  | .mk _ _ _ (e :: _) => T.deepT e + 1

/-- How many letters their names have together. -/
def T.big : T → Nat
  | .mk _ s _ [] => s.size
  | .mk _ s _ (e :: _) => s.size + T.big e

theorem inner_len (k : Int) (s : ByteArray) : (inner k s).length ≤ s.size + 4 := by
  unfold inner wordOf
  have : s.data.toList.length = s.size := Array.length_toList
  split
  · repeat (first | (split) | (simp))
    all_goals simp
  · split
    · omega
    · simp

theorem opn_len (k : Int) : (opn k).length ≤ 5 := by
  unfold opn
  repeat (first | (split) | (simp))
  all_goals simp

theorem nDigits_le (u : Nat) (h : u < 10 ^ 20) : Lib.nDigits u ≤ 20 := by
  rcases Nat.lt_or_ge (Lib.nDigits u) 21 with h1 | h1
  · omega
  · have hp := Lib.nDigits_pos u
    have : ∀ m u : Nat, m + 1 ≤ Lib.nDigits u → 10 ^ m ≤ u ∨ m = 0 := by
      intro m
      induction m with
      | zero => intro u _; exact Or.inr rfl
      | succ m ih =>
        intro u hu
        by_cases hs : u < 10
        · rw [Lib.nDigits_small hs] at hu; omega
        · rw [Lib.nDigits_big hs] at hu
          rcases ih (u / 10) (by omega) with h2 | h2
          · left; rw [Nat.pow_succ]; omega
          · subst h2; left; omega
    rcases this 20 u (by omega) with h2 | h2 <;> omega

theorem itoa_len (n : Int) (h0 : -9223372036854775808 ≤ n) (h1 : n ≤ 9223372036854775807) : (Lib.itoa n).length ≤ 21 := by
  unfold Lib.itoa
  split
  · have := nDigits_le n.natAbs (by omega)
    simp [Lib.decDigits_length]; omega
  · have := nDigits_le n.toNat (by omega)
    rw [Lib.decDigits_length]; omega

theorem cls_len (k n : Int) (h0 : -9223372036854775808 ≤ n) (h1 : n ≤ 9223372036854775807) : (cls k n).length ≤ 24 := by
  have := itoa_len n h0 h1
  unfold cls
  split
  · simp; omega
  · split <;> simp

/-- Every number of the chain fits its type. -/
def T.fits : T → Prop
  | .mk _ _ n [] => -9223372036854775808 ≤ n ∧ n ≤ 9223372036854775807
  | .mk _ _ n (e :: _) => (-9223372036854775808 ≤ n ∧ n ≤ 9223372036854775807) ∧ T.fits e

theorem T.fits_n {k : Int} {s : ByteArray} {n : Int} {es : List T} (h : T.fits (.mk k s n es)) : -9223372036854775808 ≤ n ∧ n ≤ 9223372036854775807 := by
  cases es with
  | nil => exact h
  | cons e es => exact h.1

theorem T.text_len : ∀ t : T, t.fits → t.text.length ≤ t.big + 40 * (t.deepT + 1)
  | .mk k s n [], _ => by
    have := inner_len k s
    rw [T.text_nil]
    simp only [T.big, T.deepT]
    omega
  | .mk k s n (e :: es), h => by
    have h1 := inner_len k s
    have h2 := opn_len k
    have h3 := cls_len k n h.1.1 h.1.2
    have h4 := T.text_len e h.2
    rw [T.text_cons]
    simp only [T.big, T.deepT]
    split
    · simp only [List.length_append]; omega
    · omega

end Go.Proofs.YtdpmdonneoadbaaDoor
