/-
  DERIVED. GIVEN WITH THE SEED: THE CARDS: each row of YtjhgpddpkbgjeaaDoorRows.lean that lists a variable, with what it lists TIED to the program's text (the seventh form; the later family's looks); each row that meets fmt, with fmt's text TOLD by the authors' own Lean function (tested against real Go, not proved from fmt's source: count such statements apart). THE CARD IS WHAT COUNTS. Prove the row's statement (the work); the ties are given (YtjhgpddpkbgjeaaDoorTie.lean); close each card by the builder's one call (the guide's Derived/Test/ToyasCard.lean, 'card_holds'). Laid BY PROGRAM, IN A SANDBOX (cutbox-door.mjs). By AI agents, Wed Nov 11 2026. No macro, syntax, notation, axiom, sorry.
-/
import Derived.Test.YtjhgpddpkbgjeaaDoorRows
import GoSem.ClaimSeven
namespace Go.Proofs.YtjhgpddpkbgjeaaDoor
namespace Rows

/-- THE TIED CARD OF 'ferrulelaw15.FoldPlain'. -/
def foldPlainCard : Claim7 := { stood := { row := foldPlainRow, standIns := [], harness := (true, "20719c4cc8cf8684ff3d6b9f75f698c725a3de693248cf3a154dc8a558aec708"), looks := false }, kinds := [], alts := [], laidByText := true, laidKinds := [.data], laidTests := true, laidLooks := .later }
def FoldPlainCardSaid : Prop := Claim7.holds Tryd.pinned (.plain (OpenSpec.ofChange foldPlainSpec)) foldPlainCard

/-- THE SECOND FORM's CARD OF 'ferrulelaw15.FoldPlain'. -/
def foldPlainUptoCard : Claim7 := { stood := { row := foldPlainUptoRow, standIns := [], harness := (true, "20719c4cc8cf8684ff3d6b9f75f698c725a3de693248cf3a154dc8a558aec708"), looks := false }, kinds := [], alts := [], laidByText := true, laidKinds := [.data], laidTests := true, laidLooks := .later }
def FoldPlainUptoCardSaid : Prop := Claim7.holds Tryd.pinned (.plain (OpenSpec.upto foldPlainSpec)) foldPlainUptoCard
end Rows
end Go.Proofs.YtjhgpddpkbgjeaaDoor
