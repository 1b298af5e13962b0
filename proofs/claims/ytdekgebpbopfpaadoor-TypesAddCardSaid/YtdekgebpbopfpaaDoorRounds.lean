/-
  Proved: a struct within itself, through structs and arrays, has no words; through a Box it has two (plain data).
-/
import Derived.Test.YtdekgebpbopfpaaDoorWords
namespace Go.Proofs.YtdekgebpbopfpaaDoor

/-- The name of a struct by its number. -/
def nm (i : Nat) : ByteArray := ⟨#[UInt8.ofNat (65 + i)]⟩

/-- The type of its second field. -/
def yT (m : Nat) (boxed : Bool) (i : Nat) : T :=
  if boxed = true ∧ i = 0 then .mk 11 ⟨#[]⟩ 0 [.mk 9 (nm ((i + 1) % m)) 0 []]
  else if i % 2 = 1 then .mk 10 ⟨#[]⟩ 2 [.mk 9 (nm ((i + 1) % m)) 0 []]
  else .mk 9 (nm ((i + 1) % m)) 0 []

def itm (m : Nat) (boxed : Bool) (i : Nat) : It := .mk 2 (nm i) [(⟨#[120]⟩, .mk 6 ⟨#[]⟩ 0 []), (⟨#[121]⟩, yT m boxed i)] []

def its (m : Nat) (boxed : Bool) : List It := (List.range m).map (itm m boxed)

def ansB : Option Nat → Bool → Bool
  | none, false => true
  | some 2, true => true
  | _, _ => false

theorem ans1 : (ansB (wrd (its 1 true) (.mk 9 (nm 0) 0 [])) true) = true := by decide +kernel
theorem ans2 : (ansB (wrd (its 1 false) (.mk 9 (nm 0) 0 [])) false) = true := by decide +kernel
theorem ans : ∀ m, m < 8 → ∀ b, ansB (wrd (its (m + 1) b) (.mk 9 (nm 0) 0 [])) b = true := by decide +kernel
end Go.Proofs.YtdekgebpbopfpaaDoor
