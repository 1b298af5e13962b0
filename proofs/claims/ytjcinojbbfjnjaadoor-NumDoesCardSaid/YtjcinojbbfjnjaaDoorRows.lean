/-
  NARROWER THAN 'FOR EVERY INPUT', by the rows' own cells (each row's printed sentence says how): NumTells: laid · NumDoes: laid · NumFits: laid · NumWraps: laid · NumShifts: laid.
  DERIVED. THE GIVEN ROWS OF THIS SEAT. 5 by the template 'for every input the law returns true; each argument reads behind the call as it read before'; 0 by the template 'total and deterministic' (their statements: YtjcinojbbfjnjaaDoorTotals.lean).
  GIVEN WITH THE SEED: the statements are not yours to turn. If you find one false, say at which input.
  Laid BY PROGRAM, IN A SANDBOX (cutbox-rows.mjs): the forced cells as the released guide's own fill.sh prints them over the translation e96977cb85df15a7… (all of the seat's roots in one cut). By AI agents, Wed Nov 11 2026. No macro, syntax, notation, axiom, sorry.
-/
import Derived.Test.YtjcinojbbfjnjaaDoorChecked
import GoSem.Claim
import GoSem.ClaimJoined
import GoSem.ClaimMapViews
import Derived.JoinedTies
import Derived.KernelRfl
namespace Go.Proofs.YtjcinojbbfjnjaaDoor
/- THE CELL 'sum', in the pinned program and in every row, IS THE sha256 OF THE DUMP (.gsa) THAT YtjcinojbbfjnjaaDoorProg.lean LOADS. Nothing in Lean hashes anything: it is a label: what it is worth is what the hold of that sum in a sandbox is worth. -/
noncomputable def Tryd.pinned : Pinned := { name := "ytjcinojbbfjnjaadoor", sum := "e96977cb85df15a711e789aeb3c90038e73af393d0bfb7a1428887422ad50549", checked := Tryd.checked }
namespace Rows
def none {H : Type} : Left H := { results := [], args := [] }

/- WHAT THE LISTED PACKAGE-LEVEL VARIABLES READ AS WHEN THE CALL BEGINS. Each datum BY PROGRAM (the guide's laid-datum.mjs) off the statement by which the dump's own 'gosem.cut.vars' lays the variable. In a bare row this is a premise. The card (YtjcinojbbfjnjaaDoorCards.lean) ties it to the program's text. -/
def laid_ferrule_num_shapes {H : Type} : DataW H := .agg [.agg [.lit (.int .i64 0), .lit (.bool false)], .agg [.lit (.int .i64 0), .lit (.bool false)], .agg [.lit (.int .i64 0), .lit (.bool false)], .agg [.lit (.int .i64 8), .lit (.bool true)], .agg [.lit (.int .i64 16), .lit (.bool true)], .agg [.lit (.int .i64 32), .lit (.bool true)], .agg [.lit (.int .i64 8), .lit (.bool false)], .agg [.lit (.int .i64 16), .lit (.bool false)], .agg [.lit (.int .i64 32), .lit (.bool false)]]

/-- 'ferrulelaw01.NumTells': WHATEVER THE INPUT: true; the input reads as it did. -/
def numTellsSpec : ChangeSpec := { name := "numTells", fn := fun _ => fun
  | [d1, d2] => { results := [.lit (.bool true)], args := [d1, d2] }
  | _ => none }
def numTellsRow : OpenClaim := { program := "ytjcinojbbfjnjaadoor", sum := "e96977cb85df15a711e789aeb3c90038e73af393d0bfb7a1428887422ad50549", func := "ferrule/ferrulelaw01.NumTells", spec := "numTells", named := ["ferrule/num.shapes"], apart := false, laid := [("ferrule/num.shapes", laid_ferrule_num_shapes)] }
def NumTellsSaid : Prop := numTellsRow.holds Tryd.pinned (OpenSpec.ofChange numTellsSpec)

/-- ITS FALSE NEIGHBOUR: 'it returns false'. Refute it at one input. -/
def numTellsWrong : ChangeSpec := { name := "numTells", fn := fun _ => fun
  | [d1, d2] => { results := [.lit (.bool false)], args := [d1, d2] }
  | _ => none }
def NumTellsWrongFalsely : Prop := numTellsRow.holds Tryd.pinned (OpenSpec.ofChange numTellsWrong)

/-- 'ferrulelaw01.NumDoes': WHATEVER THE INPUT: true; the input reads as it did. -/
def numDoesSpec : ChangeSpec := { name := "numDoes", fn := fun _ => fun
  | [d] => { results := [.lit (.bool true)], args := [d] }
  | _ => none }
def numDoesRow : OpenClaim := { program := "ytjcinojbbfjnjaadoor", sum := "e96977cb85df15a711e789aeb3c90038e73af393d0bfb7a1428887422ad50549", func := "ferrule/ferrulelaw01.NumDoes", spec := "numDoes", named := ["ferrule/num.shapes"], apart := false, laid := [("ferrule/num.shapes", laid_ferrule_num_shapes)] }
def NumDoesSaid : Prop := numDoesRow.holds Tryd.pinned (OpenSpec.ofChange numDoesSpec)

/-- ITS FALSE NEIGHBOUR: 'it returns false'. Refute it at one input. -/
def numDoesWrong : ChangeSpec := { name := "numDoes", fn := fun _ => fun
  | [d] => { results := [.lit (.bool false)], args := [d] }
  | _ => none }
def NumDoesWrongFalsely : Prop := numDoesRow.holds Tryd.pinned (OpenSpec.ofChange numDoesWrong)

/-- 'ferrulelaw01.NumFits': WHATEVER THE INPUT: true; the input reads as it did. -/
def numFitsSpec : ChangeSpec := { name := "numFits", fn := fun _ => fun
  | [d1, d2, d3] => { results := [.lit (.bool true)], args := [d1, d2, d3] }
  | _ => none }
def numFitsRow : OpenClaim := { program := "ytjcinojbbfjnjaadoor", sum := "e96977cb85df15a711e789aeb3c90038e73af393d0bfb7a1428887422ad50549", func := "ferrule/ferrulelaw01.NumFits", spec := "numFits", named := ["ferrule/num.shapes"], apart := false, laid := [("ferrule/num.shapes", laid_ferrule_num_shapes)] }
def NumFitsSaid : Prop := numFitsRow.holds Tryd.pinned (OpenSpec.ofChange numFitsSpec)

/-- ITS FALSE NEIGHBOUR: 'it returns false'. Refute it at one input. -/
def numFitsWrong : ChangeSpec := { name := "numFits", fn := fun _ => fun
  | [d1, d2, d3] => { results := [.lit (.bool false)], args := [d1, d2, d3] }
  | _ => none }
def NumFitsWrongFalsely : Prop := numFitsRow.holds Tryd.pinned (OpenSpec.ofChange numFitsWrong)

/-- 'ferrulelaw01.NumWraps': WHATEVER THE INPUT: true; the input reads as it did. -/
def numWrapsSpec : ChangeSpec := { name := "numWraps", fn := fun _ => fun
  | [d1, d2, d3] => { results := [.lit (.bool true)], args := [d1, d2, d3] }
  | _ => none }
def numWrapsRow : OpenClaim := { program := "ytjcinojbbfjnjaadoor", sum := "e96977cb85df15a711e789aeb3c90038e73af393d0bfb7a1428887422ad50549", func := "ferrule/ferrulelaw01.NumWraps", spec := "numWraps", named := ["ferrule/num.shapes"], apart := false, laid := [("ferrule/num.shapes", laid_ferrule_num_shapes)] }
def NumWrapsSaid : Prop := numWrapsRow.holds Tryd.pinned (OpenSpec.ofChange numWrapsSpec)

/-- ITS FALSE NEIGHBOUR: 'it returns false'. Refute it at one input. -/
def numWrapsWrong : ChangeSpec := { name := "numWraps", fn := fun _ => fun
  | [d1, d2, d3] => { results := [.lit (.bool false)], args := [d1, d2, d3] }
  | _ => none }
def NumWrapsWrongFalsely : Prop := numWrapsRow.holds Tryd.pinned (OpenSpec.ofChange numWrapsWrong)

/-- 'ferrulelaw01.NumShifts': WHATEVER THE INPUT: true; the input reads as it did. -/
def numShiftsSpec : ChangeSpec := { name := "numShifts", fn := fun _ => fun
  | [d1, d2, d3] => { results := [.lit (.bool true)], args := [d1, d2, d3] }
  | _ => none }
def numShiftsRow : OpenClaim := { program := "ytjcinojbbfjnjaadoor", sum := "e96977cb85df15a711e789aeb3c90038e73af393d0bfb7a1428887422ad50549", func := "ferrule/ferrulelaw01.NumShifts", spec := "numShifts", named := ["ferrule/num.shapes"], apart := false, laid := [("ferrule/num.shapes", laid_ferrule_num_shapes)] }
def NumShiftsSaid : Prop := numShiftsRow.holds Tryd.pinned (OpenSpec.ofChange numShiftsSpec)

/-- ITS FALSE NEIGHBOUR: 'it returns false'. Refute it at one input. -/
def numShiftsWrong : ChangeSpec := { name := "numShifts", fn := fun _ => fun
  | [d1, d2, d3] => { results := [.lit (.bool false)], args := [d1, d2, d3] }
  | _ => none }
def NumShiftsWrongFalsely : Prop := numShiftsRow.holds Tryd.pinned (OpenSpec.ofChange numShiftsWrong)

/- THE SECOND FORM. 'bulk': how many values and letters a reading holds, each counted each time it is reached (what is shared counts as often as it is met; a slice's spare places count too). A statement '..UptoSaid' is the law's where the arguments, and the package variables that the reading takes, are together of bulk at most 1048576: NARROWER than '..Said'. Prove '..Said' where nothing that the law and all that it calls make is longer than what came in: it says more and counts as full. Else prove '..UptoSaid'. A law counts once. -/
mutual
def uptoBulk {H : Type} : DataW H → Nat
  | .lit (.string bytes) => bytes.length + 1
  | .lit _ => 1
  | .nil => 1
  | .ptr d => uptoBulk d + 1
  | .slice elems spare => uptoBulkAll elems + uptoBulkAll spare + 1
  | .agg parts => uptoBulkAll parts + 1
  | .iface _ d => uptoBulk d + 1
  | .map entries => uptoBulkEntries entries + 1
  | .held _ => 1
def uptoBulkAll {H : Type} : List (DataW H) → Nat
  | [] => 0
  | d :: r => uptoBulk d + uptoBulkAll r
def uptoBulkEntries {H : Type} : List (Lit × DataW H) → Nat
  | [] => 0
  | x :: r => uptoBulkEntry x + uptoBulkEntries r
def uptoBulkEntry {H : Type} : Lit × DataW H → Nat
  | (.string bytes, d) => bytes.length + uptoBulk d + 1
  | (_, d) => uptoBulk d + 1
 end
def uptoSmall : (H : Type) → List (DataW H) → Bool := fun _ ds => decide (uptoBulkAll ds ≤ 1048576)
def OpenSpec.upto (s : _root_.Go.ChangeSpec) : _root_.Go.OpenSpec := { _root_.Go.OpenSpec.ofChange s with cond := some uptoSmall }

/-- 'ferrulelaw01.NumTells', WHERE WHAT IT READS IS OF BULK AT MOST 1048576: true; the input reads as it did. -/
def numTellsUptoRow : OpenClaim := { program := "ytjcinojbbfjnjaadoor", sum := "e96977cb85df15a711e789aeb3c90038e73af393d0bfb7a1428887422ad50549", func := "ferrule/ferrulelaw01.NumTells", spec := "numTells", named := ["ferrule/num.shapes"], apart := false, laid := [("ferrule/num.shapes", laid_ferrule_num_shapes)], narrowed := true }
def NumTellsUptoSaid : Prop := numTellsUptoRow.holds Tryd.pinned (OpenSpec.upto numTellsSpec)

/-- 'ferrulelaw01.NumDoes', WHERE WHAT IT READS IS OF BULK AT MOST 1048576: true; the input reads as it did. -/
def numDoesUptoRow : OpenClaim := { program := "ytjcinojbbfjnjaadoor", sum := "e96977cb85df15a711e789aeb3c90038e73af393d0bfb7a1428887422ad50549", func := "ferrule/ferrulelaw01.NumDoes", spec := "numDoes", named := ["ferrule/num.shapes"], apart := false, laid := [("ferrule/num.shapes", laid_ferrule_num_shapes)], narrowed := true }
def NumDoesUptoSaid : Prop := numDoesUptoRow.holds Tryd.pinned (OpenSpec.upto numDoesSpec)

/-- 'ferrulelaw01.NumFits', WHERE WHAT IT READS IS OF BULK AT MOST 1048576: true; the input reads as it did. -/
def numFitsUptoRow : OpenClaim := { program := "ytjcinojbbfjnjaadoor", sum := "e96977cb85df15a711e789aeb3c90038e73af393d0bfb7a1428887422ad50549", func := "ferrule/ferrulelaw01.NumFits", spec := "numFits", named := ["ferrule/num.shapes"], apart := false, laid := [("ferrule/num.shapes", laid_ferrule_num_shapes)], narrowed := true }
def NumFitsUptoSaid : Prop := numFitsUptoRow.holds Tryd.pinned (OpenSpec.upto numFitsSpec)

/-- 'ferrulelaw01.NumWraps', WHERE WHAT IT READS IS OF BULK AT MOST 1048576: true; the input reads as it did. -/
def numWrapsUptoRow : OpenClaim := { program := "ytjcinojbbfjnjaadoor", sum := "e96977cb85df15a711e789aeb3c90038e73af393d0bfb7a1428887422ad50549", func := "ferrule/ferrulelaw01.NumWraps", spec := "numWraps", named := ["ferrule/num.shapes"], apart := false, laid := [("ferrule/num.shapes", laid_ferrule_num_shapes)], narrowed := true }
def NumWrapsUptoSaid : Prop := numWrapsUptoRow.holds Tryd.pinned (OpenSpec.upto numWrapsSpec)

/-- 'ferrulelaw01.NumShifts', WHERE WHAT IT READS IS OF BULK AT MOST 1048576: true; the input reads as it did. -/
def numShiftsUptoRow : OpenClaim := { program := "ytjcinojbbfjnjaadoor", sum := "e96977cb85df15a711e789aeb3c90038e73af393d0bfb7a1428887422ad50549", func := "ferrule/ferrulelaw01.NumShifts", spec := "numShifts", named := ["ferrule/num.shapes"], apart := false, laid := [("ferrule/num.shapes", laid_ferrule_num_shapes)], narrowed := true }
def NumShiftsUptoSaid : Prop := numShiftsUptoRow.holds Tryd.pinned (OpenSpec.upto numShiftsSpec)

end Rows
end Go.Proofs.YtjcinojbbfjnjaaDoor
