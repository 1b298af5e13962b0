/-
  DERIVED. GIVEN WITH THE SEED: THE CARDS: each row of YtjdkoahbahecoaaDoorRows.lean that lists a variable, with what it lists TIED to the program's text (the seventh form; the later family's looks); each row that meets fmt, with fmt's text TOLD by the authors' own Lean function (tested against real Go, not proved from fmt's source: count such statements apart). THE CARD IS WHAT COUNTS. Prove the row's statement (the work); the ties are given (YtjdkoahbahecoaaDoorTie.lean); close each card by the builder's one call (the guide's Derived/Test/ToyasCard.lean, 'card_holds'). Laid BY PROGRAM, IN A SANDBOX (cutbox-door.mjs). By AI agents, Wed Nov 11 2026. No macro, syntax, notation, axiom, sorry.
-/
import Derived.Test.YtjdkoahbahecoaaDoorRows
import GoSem.ClaimSeven
namespace Go.Proofs.YtjdkoahbahecoaaDoor
namespace Rows

/-- THE TIED CARD OF 'ferrulelaw06.NamesWords'. -/
def namesWordsCard : Claim7 := { stood := { row := namesWordsRow, standIns := [], harness := (true, "9824913b83a8f5caa54e6fe1abad246201923a79e1e54b7857b606750e05bdda"), looks := true }, kinds := [], alts := [], laidByText := true, laidKinds := [.handle, .data, .data], laidTests := true, laidLooks := .later }
def NamesWordsCardSaid : Prop := Claim7.holds Tryd.pinned (.plain (OpenSpec.ofChange namesWordsSpec)) namesWordsCard

/-- THE TIED CARD OF 'ferrulelaw06.NamesInner'. -/
def namesInnerCard : Claim7 := { stood := { row := namesInnerRow, standIns := [], harness := (true, "9824913b83a8f5caa54e6fe1abad246201923a79e1e54b7857b606750e05bdda"), looks := true }, kinds := [], alts := [], laidByText := true, laidKinds := [.data], laidTests := true, laidLooks := .later }
def NamesInnerCardSaid : Prop := Claim7.holds Tryd.pinned (.plain (OpenSpec.ofChange namesInnerSpec)) namesInnerCard

/-- THE SECOND FORM's CARD OF 'ferrulelaw06.NamesWords'. -/
def namesWordsUptoCard : Claim7 := { stood := { row := namesWordsUptoRow, standIns := [], harness := (true, "9824913b83a8f5caa54e6fe1abad246201923a79e1e54b7857b606750e05bdda"), looks := true }, kinds := [], alts := [], laidByText := true, laidKinds := [.handle, .data, .data], laidTests := true, laidLooks := .later }
def NamesWordsUptoCardSaid : Prop := Claim7.holds Tryd.pinned (.plain (OpenSpec.upto namesWordsSpec)) namesWordsUptoCard

/-- THE SECOND FORM's CARD OF 'ferrulelaw06.NamesInner'. -/
def namesInnerUptoCard : Claim7 := { stood := { row := namesInnerUptoRow, standIns := [], harness := (true, "9824913b83a8f5caa54e6fe1abad246201923a79e1e54b7857b606750e05bdda"), looks := true }, kinds := [], alts := [], laidByText := true, laidKinds := [.data], laidTests := true, laidLooks := .later }
def NamesInnerUptoCardSaid : Prop := Claim7.holds Tryd.pinned (.plain (OpenSpec.upto namesInnerSpec)) namesInnerUptoCard
end Rows
end Go.Proofs.YtjdkoahbahecoaaDoor
