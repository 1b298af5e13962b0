/-
  DERIVED. GIVEN WITH THE SEED: THE CARDS: each row of YtdekgebpbopfpaaDoorRows.lean that lists a variable, with what it lists TIED to the program's text (the seventh form; the later family's looks); each row that meets fmt, with fmt's text TOLD by the authors' own Lean function (tested against real Go, not proved from fmt's source: count such statements apart). THE CARD IS WHAT COUNTS. Prove the row's statement (the work); the ties are given (YtdekgebpbopfpaaDoorTie.lean); close each card by the builder's one call (the guide's Derived/Test/ToyasCard.lean, 'card_holds'). Laid BY PROGRAM, IN A SANDBOX (cutbox-door.mjs). By AI agents, Wed Nov 11 2026. No macro, syntax, notation, axiom, sorry.
-/
import Derived.Test.YtdekgebpbopfpaaDoorRows
import GoSem.ClaimSeven
namespace Go.Proofs.YtdekgebpbopfpaaDoor
namespace Rows

/-- THE TIED CARD OF 'ferrulelaw05.TypesAdd'. -/
def typesAddCard : Claim7 := { stood := { row := typesAddRow, standIns := [], harness := (true, "8dbd47e8cb376faeba0fd1b5157d18a2216f132ea61703e26c551774c3747de8"), looks := false }, kinds := [], alts := [], laidByText := true, laidKinds := [.data], laidTests := true, laidLooks := .later }
def TypesAddCardSaid : Prop := Claim7.holds Tryd.pinned (.plain (OpenSpec.ofChange typesAddSpec)) typesAddCard

/-- THE TIED CARD OF 'ferrulelaw05.TypesEnums'. -/
def typesEnumsCard : Claim7 := { stood := { row := typesEnumsRow, standIns := [], harness := (true, "8dbd47e8cb376faeba0fd1b5157d18a2216f132ea61703e26c551774c3747de8"), looks := false }, kinds := [], alts := [], laidByText := true, laidKinds := [.data], laidTests := true, laidLooks := .later }
def TypesEnumsCardSaid : Prop := Claim7.holds Tryd.pinned (.plain (OpenSpec.ofChange typesEnumsSpec)) typesEnumsCard

/-- THE TIED CARD OF 'ferrulelaw05.TypesRound'. -/
def typesRoundCard : Claim7 := { stood := { row := typesRoundRow, standIns := [], harness := (true, "8dbd47e8cb376faeba0fd1b5157d18a2216f132ea61703e26c551774c3747de8"), looks := false }, kinds := [], alts := [], laidByText := true, laidKinds := [.data], laidTests := true, laidLooks := .later }
def TypesRoundCardSaid : Prop := Claim7.holds Tryd.pinned (.plain (OpenSpec.ofChange typesRoundSpec)) typesRoundCard

/-- THE SECOND FORM's CARD OF 'ferrulelaw05.TypesAdd'. -/
def typesAddUptoCard : Claim7 := { stood := { row := typesAddUptoRow, standIns := [], harness := (true, "8dbd47e8cb376faeba0fd1b5157d18a2216f132ea61703e26c551774c3747de8"), looks := false }, kinds := [], alts := [], laidByText := true, laidKinds := [.data], laidTests := true, laidLooks := .later }
def TypesAddUptoCardSaid : Prop := Claim7.holds Tryd.pinned (.plain (OpenSpec.upto typesAddSpec)) typesAddUptoCard

/-- THE SECOND FORM's CARD OF 'ferrulelaw05.TypesEnums'. -/
def typesEnumsUptoCard : Claim7 := { stood := { row := typesEnumsUptoRow, standIns := [], harness := (true, "8dbd47e8cb376faeba0fd1b5157d18a2216f132ea61703e26c551774c3747de8"), looks := false }, kinds := [], alts := [], laidByText := true, laidKinds := [.data], laidTests := true, laidLooks := .later }
def TypesEnumsUptoCardSaid : Prop := Claim7.holds Tryd.pinned (.plain (OpenSpec.upto typesEnumsSpec)) typesEnumsUptoCard

/-- THE SECOND FORM's CARD OF 'ferrulelaw05.TypesRound'. -/
def typesRoundUptoCard : Claim7 := { stood := { row := typesRoundUptoRow, standIns := [], harness := (true, "8dbd47e8cb376faeba0fd1b5157d18a2216f132ea61703e26c551774c3747de8"), looks := false }, kinds := [], alts := [], laidByText := true, laidKinds := [.data], laidTests := true, laidLooks := .later }
def TypesRoundUptoCardSaid : Prop := Claim7.holds Tryd.pinned (.plain (OpenSpec.upto typesRoundSpec)) typesRoundUptoCard
end Rows
end Go.Proofs.YtdekgebpbopfpaaDoor
