/-
  DERIVED. GIVEN WITH THE SEED: THE CARDS: each row of YtapgaclonilnbaaDoorRows.lean that lists a variable, with what it lists TIED to the program's text (the seventh form; the later family's looks); each row that meets fmt, with fmt's text TOLD by the authors' own Lean function (tested against real Go, not proved from fmt's source: count such statements apart). THE CARD IS WHAT COUNTS. Prove the row's statement (the work); the ties are given (YtapgaclonilnbaaDoorTie.lean); close each card by the builder's one call (the guide's Derived/Test/ToyasCard.lean, 'card_holds'). Laid BY PROGRAM, IN A SANDBOX (cutbox-door.mjs). By AI agents, Wed Nov 11 2026. No macro, syntax, notation, axiom, sorry.
-/
import Derived.Test.YtapgaclonilnbaaDoorRows
import GoSem.ClaimSeven
namespace Go.Proofs.YtapgaclonilnbaaDoor
namespace Rows

/-- THE TIED CARD OF 'ferrulelaw17.LowFuel'. -/
def lowFuelCard : Claim7 := { stood := { row := lowFuelRow, standIns := [], harness := (true, "2b6017a0ff0d5dd6b0eabc8625ca9db51c2d4e4457e555f72626ea52d29f44e6"), looks := true }, kinds := [], alts := [], laidByText := true, laidKinds := [.wider], laidTests := true, laidLooks := .later }
def LowFuelCardSaid : Prop := Claim7.holds Tryd.pinned (.plain (OpenSpec.ofChange lowFuelSpec)) lowFuelCard

/-- THE TIED CARD OF 'ferrulelaw17.LowCounts'. -/
def lowCountsCard : Claim7 := { stood := { row := lowCountsRow, standIns := [], harness := (true, "2b6017a0ff0d5dd6b0eabc8625ca9db51c2d4e4457e555f72626ea52d29f44e6"), looks := true }, kinds := [], alts := [], laidByText := true, laidKinds := [.wider], laidTests := true, laidLooks := .later }
def LowCountsCardSaid : Prop := Claim7.holds Tryd.pinned (.plain (OpenSpec.ofChange lowCountsSpec)) lowCountsCard

/-- THE TIED CARD OF 'ferrulelaw17.LowFrames'. -/
def lowFramesCard : Claim7 := { stood := { row := lowFramesRow, standIns := [], harness := (true, "2b6017a0ff0d5dd6b0eabc8625ca9db51c2d4e4457e555f72626ea52d29f44e6"), looks := true }, kinds := [], alts := [], laidByText := true, laidKinds := [.wider], laidTests := true, laidLooks := .later }
def LowFramesCardSaid : Prop := Claim7.holds Tryd.pinned (.plain (OpenSpec.ofChange lowFramesSpec)) lowFramesCard

/-- THE SECOND FORM's CARD OF 'ferrulelaw17.LowFuel'. -/
def lowFuelUptoCard : Claim7 := { stood := { row := lowFuelUptoRow, standIns := [], harness := (true, "2b6017a0ff0d5dd6b0eabc8625ca9db51c2d4e4457e555f72626ea52d29f44e6"), looks := true }, kinds := [], alts := [], laidByText := true, laidKinds := [.wider], laidTests := true, laidLooks := .later }
def LowFuelUptoCardSaid : Prop := Claim7.holds Tryd.pinned (.plain (OpenSpec.upto lowFuelSpec)) lowFuelUptoCard

/-- THE SECOND FORM's CARD OF 'ferrulelaw17.LowCounts'. -/
def lowCountsUptoCard : Claim7 := { stood := { row := lowCountsUptoRow, standIns := [], harness := (true, "2b6017a0ff0d5dd6b0eabc8625ca9db51c2d4e4457e555f72626ea52d29f44e6"), looks := true }, kinds := [], alts := [], laidByText := true, laidKinds := [.wider], laidTests := true, laidLooks := .later }
def LowCountsUptoCardSaid : Prop := Claim7.holds Tryd.pinned (.plain (OpenSpec.upto lowCountsSpec)) lowCountsUptoCard

/-- THE SECOND FORM's CARD OF 'ferrulelaw17.LowFrames'. -/
def lowFramesUptoCard : Claim7 := { stood := { row := lowFramesUptoRow, standIns := [], harness := (true, "2b6017a0ff0d5dd6b0eabc8625ca9db51c2d4e4457e555f72626ea52d29f44e6"), looks := true }, kinds := [], alts := [], laidByText := true, laidKinds := [.wider], laidTests := true, laidLooks := .later }
def LowFramesUptoCardSaid : Prop := Claim7.holds Tryd.pinned (.plain (OpenSpec.upto lowFramesSpec)) lowFramesUptoCard
end Rows
end Go.Proofs.YtapgaclonilnbaaDoor
