/-
  Defined: what lexing answers, over lists of bytes: blanks, names, ints, signs, words, numbers, and the tokens of a text or the first error and its place.
-/
import Derived.Test.YtbfelkcaakpdiaaDoorChecked
namespace Go.Proofs.YtbfelkcaakpdiaaDoor

abbrev Bs := List UInt8

/-- A string with these bytes. -/
def ofL (l : Bs) : ByteArray := ⟨l.toArray⟩

def isBl (c : UInt8) : Bool := (c.toNat : Int) == 32 || (c.toNat : Int) == 9 || (c.toNat : Int) == 10 || (c.toNat : Int) == 13
def isLn (c : UInt8) : Bool := (c.toNat : Int) != 10
def isLet (c : UInt8) : Bool := decide (97 ≤ (c.toNat : Int)) && decide ((c.toNat : Int) ≤ 122) || decide (65 ≤ (c.toNat : Int)) && decide ((c.toNat : Int) ≤ 90) || (c.toNat : Int) == 95
def isDig (c : UInt8) : Bool := decide (48 ≤ (c.toNat : Int)) && decide ((c.toNat : Int) ≤ 57)
def isOn (c : UInt8) : Bool := isLet c || isDig c

/-- How many bytes from the beginning on are such. -/
def run (p : UInt8 → Bool) : Bs → Nat
  | [] => 0
  | c :: r => if p c then run p r + 1 else 0

/-- How many bytes of blanks stand at the beginning; 'true': within a remark. -/
def skip : Bool → Bs → Nat
  | _, [] => 0
  | true, c :: r => if isLn c then skip true r + 1 else skip false r + 1
  | false, c :: r => if isBl c then skip false r + 1 else if c = 47 ∧ r.head? = some 47 then skip true r + 1 else 0

def signsL : List Bs := [[45, 62], [61, 62], [58, 58], [61, 61], [33, 61], [60, 61], [62, 61], [38, 38], [124, 124], [60, 60], [62, 62], [40], [41], [123], [125], [91], [93], [60], [62], [43], [45], [42], [47], [37], [38], [124], [94], [33], [61], [44], [59], [58], [46]]

def signAt (l : Bs) (i : Nat) : Bool := (signsL.getD i []).isPrefixOf l

/-- The length of the first sign from the i-th on that stands at the beginning. -/
def signFrom (l : Bs) : List Bs → Nat
  | [] => 0
  | s :: r => if s.isPrefixOf l then s.length else signFrom l r
def signLen (l : Bs) : Nat := signFrom l signsL

def wordsL : List Bs := [[102, 110], [115, 116, 114, 117, 99, 116], [101, 110, 117, 109], [99, 111, 110, 115, 116], [108, 101, 116], [109, 117, 116], [105, 102], [101, 108, 115, 101], [109, 97, 116, 99, 104], [119, 104, 105, 108, 101], [108, 111, 111, 112], [98, 114, 101, 97, 107], [99, 111, 110, 116, 105, 110, 117, 101], [114, 101, 116, 117, 114, 110], [116, 114, 117, 101], [102, 97, 108, 115, 101], [97, 115]]
def isWord (l : Bs) : Bool := wordsL.contains l

def suffL : List Bs := [[], [105, 56], [105, 49, 54], [105, 51, 50], [117, 56], [117, 49, 54], [117, 51, 50]]
def isSuff (l : Bs) : Bool := suffL.contains l

/-- Digits that a number may be written with. -/
def plain (d : Bs) : Bool := decide (0 < d.length) && decide (d.length ≤ 10) && (decide (d.length = 1) || decide (d.head? ≠ some 48))

def val (d : Bs) : Nat := d.foldl (fun v c => v * 10 + (c.toNat - 48)) 0

def num (l : Bs) : Option (Nat × Bs) :=
  if plain (l.take (run isDig l)) && isSuff (l.drop (run isDig l)) then
    if val (l.take (run isDig l)) ≤ 4294967295 then some (val (l.take (run isDig l)), l.drop (run isDig l)) else none
  else none

/-- The token at the beginning: its error (20, 21; 0: none), kind and length. -/
def tok (l : Bs) : Nat × Nat × Nat :=
  match l with
  | [] => (20, 0, 0)
  | c :: _ =>
    if isLet c then
      if 40 < run isOn l then (20, 0, run isOn l) else (0, (if isWord (l.take (run isOn l)) then 3 else 1), run isOn l)
    else if isDig c then
      match num (l.take (run isOn l)) with
      | none => (21, 0, run isOn l)
      | some _ => (0, 2, run isOn l)
    else if 0 < signLen l then (0, 4, signLen l) else (20, 0, 0)

/-- A token: its kind, its text, where it begins. -/
abbrev Tok := Nat × Bs × Nat

/-- What lexing answers: tokens, a place, an error's number. -/
abbrev Ans := List Tok × Nat × Nat

/-- The tokens from a place on, at which no blank stands; 'acc': those ahead of it. -/
def lexF : Nat → Bs → Nat → List Tok → Ans
  | 0, _, _, acc => (acc, 0, 0)
  | f + 1, l, a, acc =>
    if l.length = 0 then (acc, 0, 0)
    else if (tok l).1 ≠ 0 then ([], a, (tok l).1)
    else lexF f (l.drop ((tok l).2.2 + skip false (l.drop (tok l).2.2))) (a + ((tok l).2.2 + skip false (l.drop (tok l).2.2))) (acc ++ [((tok l).2.1, l.take (tok l).2.2, a)])

def lexAll (l : Bs) : Ans := lexF (l.length + 1) (l.drop (skip false l)) (skip false l) []

def lex (l : Bs) : Ans := if 65536 < l.length then ([], 0, 3) else lexAll l

/-- The cells in which tokens lie. -/
def cellsT : List Tok → List Value
  | [] => []
  | t :: r => .int .i64 (t.1 : Int) :: .string (ofL t.2.1) :: .int .i64 (t.2.2 : Int) :: cellsT r

/-- The bytes l lie in block b from cell o on. -/
structure BA (w : World) (b o : Nat) (l : Bs) : Prop where
  lt : b < w.heap.size
  cell : ∀ i (h : i < l.length), w.cell? ⟨b, o + i, none⟩ = some (.int .u8 (l[i].toNat : Int))

end Go.Proofs.YtbfelkcaakpdiaaDoor
