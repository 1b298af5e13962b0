/-
  DERIVED. GIVEN WITH THE SEED: THE CARDS: each row of YtdpmdonneoadbaaDoorRows.lean that lists a variable, with what it lists TIED to the program's text (the seventh form; the later family's looks); each row that meets fmt, with fmt's text TOLD by the authors' own Lean function (tested against real Go, not proved from fmt's source: count such statements apart). THE CARD IS WHAT COUNTS. Prove the row's statement (the work); the ties are given (YtdpmdonneoadbaaDoorTie.lean); close each card by the builder's one call (the guide's Derived/Test/ToyasCard.lean, 'card_holds'). Laid BY PROGRAM, IN A SANDBOX (cutbox-door.mjs). By AI agents, Wed Nov 11 2026. No macro, syntax, notation, axiom, sorry.
-/
import Derived.Test.YtdpmdonneoadbaaDoorRows
import GoSem.ClaimSeven
namespace Go.Proofs.YtdpmdonneoadbaaDoor
namespace Rows

/-- THE TIED CARD OF 'ferrulelaw04.ShowTypes'. -/
def showTypesCard : Claim7 := { stood := { row := showTypesRow, standIns := [], harness := (true, "8114d6eacf66497cd8f3aa27a379d26bda6f08fc92dafeb9ed0a42fefbf1cfe6"), looks := false }, kinds := [], alts := [], laidByText := true, laidKinds := [.data, .data, .data, .data], laidTests := true, laidLooks := .later }
def ShowTypesCardSaid : Prop := Claim7.holds Tryd.pinned (.plain (OpenSpec.ofChange showTypesSpec)) showTypesCard

/-- THE SECOND FORM's CARD OF 'ferrulelaw04.ShowTypes'. -/
def showTypesUptoCard : Claim7 := { stood := { row := showTypesUptoRow, standIns := [], harness := (true, "8114d6eacf66497cd8f3aa27a379d26bda6f08fc92dafeb9ed0a42fefbf1cfe6"), looks := false }, kinds := [], alts := [], laidByText := true, laidKinds := [.data, .data, .data, .data], laidTests := true, laidLooks := .later }
def ShowTypesUptoCardSaid : Prop := Claim7.holds Tryd.pinned (.plain (OpenSpec.upto showTypesSpec)) showTypesUptoCard
end Rows
end Go.Proofs.YtdpmdonneoadbaaDoor
