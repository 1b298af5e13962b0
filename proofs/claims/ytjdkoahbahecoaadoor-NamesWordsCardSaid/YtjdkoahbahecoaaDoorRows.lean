/-
  NARROWER THAN 'FOR EVERY INPUT', by the rows' own cells (each row's printed sentence says how): NamesWords: loops, laid · NamesInner: laid.
  DERIVED. THE GIVEN ROWS OF THIS SEAT. 2 by the template 'for every input the law returns true; each argument reads behind the call as it read before'; 0 by the template 'total and deterministic' (their statements: YtjdkoahbahecoaaDoorTotals.lean).
  GIVEN WITH THE SEED: the statements are not yours to turn. If you find one false, say at which input.
  Laid BY PROGRAM, IN A SANDBOX (cutbox-rows.mjs): the forced cells as the released guide's own fill.sh prints them over the translation 2e19cbdca5350353… (all of the seat's roots in one cut). By AI agents, Wed Nov 11 2026. No macro, syntax, notation, axiom, sorry.
-/
import Derived.Test.YtjdkoahbahecoaaDoorChecked
import GoSem.Claim
import GoSem.ClaimJoined
import GoSem.ClaimMapViews
import Derived.JoinedTies
import Derived.KernelRfl
namespace Go.Proofs.YtjdkoahbahecoaaDoor
/- THE CELL 'sum', in the pinned program and in every row, IS THE sha256 OF THE DUMP (.gsa) THAT YtjdkoahbahecoaaDoorProg.lean LOADS. Nothing in Lean hashes anything: it is a label: what it is worth is what the hold of that sum in a sandbox is worth. -/
noncomputable def Tryd.pinned : Pinned := { name := "ytjdkoahbahecoaadoor", sum := "2e19cbdca53503533c99e0a39f7d926ede31ee5ea5898379b49c8b4a92934109", checked := Tryd.checked }
namespace Rows
def none {H : Type} : Left H := { results := [], args := [] }

/- WHAT THE LISTED PACKAGE-LEVEL VARIABLES READ AS WHEN THE CALL BEGINS. Each datum BY PROGRAM (the guide's laid-datum.mjs) off the statement by which the dump's own 'gosem.cut.vars' lays the variable. In a bare row this is a premise. The card (YtjdkoahbahecoaaDoorCards.lean) ties it to the program's text. -/
def laid_errors_errorType {H : Type} : DataW H := .iface "internal/reflectlite.rtype" (.agg [.ptr (.lit (.string [101, 114, 114, 111, 114]))])
def laid_ferrule_num_shapes {H : Type} : DataW H := .agg [.agg [.lit (.int .i64 0), .lit (.bool false)], .agg [.lit (.int .i64 0), .lit (.bool false)], .agg [.lit (.int .i64 0), .lit (.bool false)], .agg [.lit (.int .i64 8), .lit (.bool true)], .agg [.lit (.int .i64 16), .lit (.bool true)], .agg [.lit (.int .i64 32), .lit (.bool true)], .agg [.lit (.int .i64 8), .lit (.bool false)], .agg [.lit (.int .i64 16), .lit (.bool false)], .agg [.lit (.int .i64 32), .lit (.bool false)]]
def laid_ferrule_types_tooMuch {H : Type} : DataW H := .agg [.lit (.int .i64 513), .lit (.int .i64 0), .lit (.int .i64 0)]

/-- 'ferrulelaw06.NamesWords': WHATEVER THE INPUT: true; the input reads as it did. -/
def namesWordsSpec : ChangeSpec := { name := "namesWords", fn := fun _ => fun
  | [d] => { results := [.lit (.bool true)], args := [d] }
  | _ => none }
def namesWordsRow : OpenClaim := { program := "ytjdkoahbahecoaadoor", sum := "2e19cbdca53503533c99e0a39f7d926ede31ee5ea5898379b49c8b4a92934109", func := "ferrule/ferrulelaw06.NamesWords", spec := "namesWords", inPlace := ["internal/reflectlite.ValueOf", "(internal/reflectlite.Value).Type", "(internal/reflectlite.Value).IsNil", "internal/reflectlite.TypeOf", "(internal/reflectlite.Value).Elem", "(internal/reflectlite.Value).Set"], unfollowed := true, recurses := true, named := ["ferrule/types.tooMuch", "ferrule/num.shapes", "errors.errorType"], loops := true, apart := false, laid := [("errors.errorType", laid_errors_errorType), ("ferrule/num.shapes", laid_ferrule_num_shapes), ("ferrule/types.tooMuch", laid_ferrule_types_tooMuch)] }
def NamesWordsSaid : Prop := namesWordsRow.holds Tryd.pinned (OpenSpec.ofChange namesWordsSpec)

/-- ITS FALSE NEIGHBOUR: 'it returns false'. Refute it at one input. -/
def namesWordsWrong : ChangeSpec := { name := "namesWords", fn := fun _ => fun
  | [d] => { results := [.lit (.bool false)], args := [d] }
  | _ => none }
def NamesWordsWrongFalsely : Prop := namesWordsRow.holds Tryd.pinned (OpenSpec.ofChange namesWordsWrong)

/-- 'ferrulelaw06.NamesInner': WHATEVER THE INPUT: true; the input reads as it did. -/
def namesInnerSpec : ChangeSpec := { name := "namesInner", fn := fun _ => fun
  | [d1, d2, d3] => { results := [.lit (.bool true)], args := [d1, d2, d3] }
  | _ => none }
def namesInnerRow : OpenClaim := { program := "ytjdkoahbahecoaadoor", sum := "2e19cbdca53503533c99e0a39f7d926ede31ee5ea5898379b49c8b4a92934109", func := "ferrule/ferrulelaw06.NamesInner", spec := "namesInner", unfollowed := true, recurses := true, named := ["ferrule/types.tooMuch"], apart := false, laid := [("ferrule/types.tooMuch", laid_ferrule_types_tooMuch)] }
def NamesInnerSaid : Prop := namesInnerRow.holds Tryd.pinned (OpenSpec.ofChange namesInnerSpec)

/-- ITS FALSE NEIGHBOUR: 'it returns false'. Refute it at one input. -/
def namesInnerWrong : ChangeSpec := { name := "namesInner", fn := fun _ => fun
  | [d1, d2, d3] => { results := [.lit (.bool false)], args := [d1, d2, d3] }
  | _ => none }
def NamesInnerWrongFalsely : Prop := namesInnerRow.holds Tryd.pinned (OpenSpec.ofChange namesInnerWrong)

/- THE SECOND FORM. 'bulk': how many values and letters a reading holds, each counted each time it is reached (what is shared counts as often as it is met; a slice's spare places count too). A statement '..UptoSaid' is the law's where the arguments, and the package variables that the reading takes, are together of bulk at most 1048576: NARROWER than '..Said'. Prove '..Said' where nothing that the law and all that it calls make is longer than what came in: it says more and counts as full. Else prove '..UptoSaid'. A law counts once. -/
mutual
def uptoBulk {H : Type} : DataW H → Nat
  | .lit (.string bytes) => bytes.length + 1
  | .lit _ => 1
  | .nil => 1
  | .ptr d => uptoBulk d + 1
  | .slice elems spare => uptoBulkAll elems + uptoBulkAll spare + 1
  | .agg parts => uptoBulkAll parts + 1
  | .iface _ d => uptoBulk d + 1
  | .map entries => uptoBulkEntries entries + 1
  | .held _ => 1
def uptoBulkAll {H : Type} : List (DataW H) → Nat
  | [] => 0
  | d :: r => uptoBulk d + uptoBulkAll r
def uptoBulkEntries {H : Type} : List (Lit × DataW H) → Nat
  | [] => 0
  | x :: r => uptoBulkEntry x + uptoBulkEntries r
def uptoBulkEntry {H : Type} : Lit × DataW H → Nat
  | (.string bytes, d) => bytes.length + uptoBulk d + 1
  | (_, d) => uptoBulk d + 1
 end
def uptoSmall : (H : Type) → List (DataW H) → Bool := fun _ ds => decide (uptoBulkAll ds ≤ 1048576)
def OpenSpec.upto (s : _root_.Go.ChangeSpec) : _root_.Go.OpenSpec := { _root_.Go.OpenSpec.ofChange s with cond := some uptoSmall }

/-- 'ferrulelaw06.NamesWords', WHERE WHAT IT READS IS OF BULK AT MOST 1048576: true; the input reads as it did. -/
def namesWordsUptoRow : OpenClaim := { program := "ytjdkoahbahecoaadoor", sum := "2e19cbdca53503533c99e0a39f7d926ede31ee5ea5898379b49c8b4a92934109", func := "ferrule/ferrulelaw06.NamesWords", spec := "namesWords", inPlace := ["internal/reflectlite.ValueOf", "(internal/reflectlite.Value).Type", "(internal/reflectlite.Value).IsNil", "internal/reflectlite.TypeOf", "(internal/reflectlite.Value).Elem", "(internal/reflectlite.Value).Set"], unfollowed := true, recurses := true, named := ["ferrule/types.tooMuch", "ferrule/num.shapes", "errors.errorType"], loops := true, apart := false, laid := [("errors.errorType", laid_errors_errorType), ("ferrule/num.shapes", laid_ferrule_num_shapes), ("ferrule/types.tooMuch", laid_ferrule_types_tooMuch)], narrowed := true }
def NamesWordsUptoSaid : Prop := namesWordsUptoRow.holds Tryd.pinned (OpenSpec.upto namesWordsSpec)

/-- 'ferrulelaw06.NamesInner', WHERE WHAT IT READS IS OF BULK AT MOST 1048576: true; the input reads as it did. -/
def namesInnerUptoRow : OpenClaim := { program := "ytjdkoahbahecoaadoor", sum := "2e19cbdca53503533c99e0a39f7d926ede31ee5ea5898379b49c8b4a92934109", func := "ferrule/ferrulelaw06.NamesInner", spec := "namesInner", unfollowed := true, recurses := true, named := ["ferrule/types.tooMuch"], apart := false, laid := [("ferrule/types.tooMuch", laid_ferrule_types_tooMuch)], narrowed := true }
def NamesInnerUptoSaid : Prop := namesInnerUptoRow.holds Tryd.pinned (OpenSpec.upto namesInnerSpec)

end Rows
end Go.Proofs.YtjdkoahbahecoaaDoor
