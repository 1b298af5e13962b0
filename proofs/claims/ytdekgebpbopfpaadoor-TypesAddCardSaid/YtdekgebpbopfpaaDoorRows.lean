/-
  NARROWER THAN 'FOR EVERY INPUT', by the rows' own cells (each row's printed sentence says how): TypesAdd: loops, laid · TypesEnums: laid · TypesRound: laid.
  DERIVED. THE GIVEN ROWS OF THIS SEAT. 3 by the template 'for every input the law returns true; each argument reads behind the call as it read before'; 0 by the template 'total and deterministic' (their statements: YtdekgebpbopfpaaDoorTotals.lean).
  GIVEN WITH THE SEED: the statements are not yours to turn. If you find one false, say at which input.
  Laid BY PROGRAM, IN A SANDBOX (cutbox-rows.mjs): the forced cells as the released guide's own fill.sh prints them over the translation dfa2e35593d8e055… (all of the seat's roots in one cut). By AI agents, Wed Nov 11 2026. No macro, syntax, notation, axiom, sorry.
-/
import Derived.Test.YtdekgebpbopfpaaDoorChecked
import GoSem.Claim
import GoSem.ClaimJoined
import GoSem.ClaimMapViews
import Derived.JoinedTies
import Derived.KernelRfl
namespace Go.Proofs.YtdekgebpbopfpaaDoor
/- THE CELL 'sum', in the pinned program and in every row, IS THE sha256 OF THE DUMP (.gsa) THAT YtdekgebpbopfpaaDoorProg.lean LOADS. Nothing in Lean hashes anything: it is a label: what it is worth is what the hold of that sum in a sandbox is worth. -/
noncomputable def Tryd.pinned : Pinned := { name := "ytdekgebpbopfpaadoor", sum := "dfa2e35593d8e055ba8c4f4c1a3cc4b76fe14470d80c1f76d4d8403783865a2f", checked := Tryd.checked }
namespace Rows
def none {H : Type} : Left H := { results := [], args := [] }

/- WHAT THE LISTED PACKAGE-LEVEL VARIABLES READ AS WHEN THE CALL BEGINS. Each datum BY PROGRAM (the guide's laid-datum.mjs) off the statement by which the dump's own 'gosem.cut.vars' lays the variable. In a bare row this is a premise. The card (YtdekgebpbopfpaaDoorCards.lean) ties it to the program's text. -/
def laid_ferrule_types_tooMuch {H : Type} : DataW H := .agg [.lit (.int .i64 513), .lit (.int .i64 0), .lit (.int .i64 0)]

/-- 'ferrulelaw05.TypesAdd': WHATEVER THE INPUT: true; the input reads as it did. -/
def typesAddSpec : ChangeSpec := { name := "typesAdd", fn := fun _ => fun
  | [d1, d2, d3] => { results := [.lit (.bool true)], args := [d1, d2, d3] }
  | _ => none }
def typesAddRow : OpenClaim := { program := "ytdekgebpbopfpaadoor", sum := "dfa2e35593d8e055ba8c4f4c1a3cc4b76fe14470d80c1f76d4d8403783865a2f", func := "ferrule/ferrulelaw05.TypesAdd", spec := "typesAdd", unfollowed := true, recurses := true, named := ["ferrule/types.tooMuch"], loops := true, apart := false, laid := [("ferrule/types.tooMuch", laid_ferrule_types_tooMuch)] }
def TypesAddSaid : Prop := typesAddRow.holds Tryd.pinned (OpenSpec.ofChange typesAddSpec)

/-- ITS FALSE NEIGHBOUR: 'it returns false'. Refute it at one input. -/
def typesAddWrong : ChangeSpec := { name := "typesAdd", fn := fun _ => fun
  | [d1, d2, d3] => { results := [.lit (.bool false)], args := [d1, d2, d3] }
  | _ => none }
def TypesAddWrongFalsely : Prop := typesAddRow.holds Tryd.pinned (OpenSpec.ofChange typesAddWrong)

/-- 'ferrulelaw05.TypesEnums': WHATEVER THE INPUT: true; the input reads as it did. -/
def typesEnumsSpec : ChangeSpec := { name := "typesEnums", fn := fun _ => fun
  | [d1, d2] => { results := [.lit (.bool true)], args := [d1, d2] }
  | _ => none }
def typesEnumsRow : OpenClaim := { program := "ytdekgebpbopfpaadoor", sum := "dfa2e35593d8e055ba8c4f4c1a3cc4b76fe14470d80c1f76d4d8403783865a2f", func := "ferrule/ferrulelaw05.TypesEnums", spec := "typesEnums", unfollowed := true, recurses := true, named := ["ferrule/types.tooMuch"], apart := false, laid := [("ferrule/types.tooMuch", laid_ferrule_types_tooMuch)] }
def TypesEnumsSaid : Prop := typesEnumsRow.holds Tryd.pinned (OpenSpec.ofChange typesEnumsSpec)

/-- ITS FALSE NEIGHBOUR: 'it returns false'. Refute it at one input. -/
def typesEnumsWrong : ChangeSpec := { name := "typesEnums", fn := fun _ => fun
  | [d1, d2] => { results := [.lit (.bool false)], args := [d1, d2] }
  | _ => none }
def TypesEnumsWrongFalsely : Prop := typesEnumsRow.holds Tryd.pinned (OpenSpec.ofChange typesEnumsWrong)

/-- 'ferrulelaw05.TypesRound': WHATEVER THE INPUT: true; the input reads as it did. -/
def typesRoundSpec : ChangeSpec := { name := "typesRound", fn := fun _ => fun
  | [d1, d2] => { results := [.lit (.bool true)], args := [d1, d2] }
  | _ => none }
def typesRoundRow : OpenClaim := { program := "ytdekgebpbopfpaadoor", sum := "dfa2e35593d8e055ba8c4f4c1a3cc4b76fe14470d80c1f76d4d8403783865a2f", func := "ferrule/ferrulelaw05.TypesRound", spec := "typesRound", unfollowed := true, recurses := true, named := ["ferrule/types.tooMuch"], apart := false, laid := [("ferrule/types.tooMuch", laid_ferrule_types_tooMuch)] }
def TypesRoundSaid : Prop := typesRoundRow.holds Tryd.pinned (OpenSpec.ofChange typesRoundSpec)

/-- ITS FALSE NEIGHBOUR: 'it returns false'. Refute it at one input. -/
def typesRoundWrong : ChangeSpec := { name := "typesRound", fn := fun _ => fun
  | [d1, d2] => { results := [.lit (.bool false)], args := [d1, d2] }
  | _ => none }
def TypesRoundWrongFalsely : Prop := typesRoundRow.holds Tryd.pinned (OpenSpec.ofChange typesRoundWrong)

/- THE SECOND FORM. 'bulk': how many values and letters a reading holds, each counted each time it is reached (what is shared counts as often as it is met; a slice's spare places count too). A statement '..UptoSaid' is the law's where the arguments, and the package variables that the reading takes, are together of bulk at most 1048576: NARROWER than '..Said'. Prove '..Said' where nothing that the law and all that it calls make is longer than what came in: it says more and counts as full. Else prove '..UptoSaid'. A law counts once. -/
mutual
def uptoBulk {H : Type} : DataW H → Nat
  | .lit (.string bytes) => bytes.length + 1
  | .lit _ => 1
  | .nil => 1
  | .ptr d => uptoBulk d + 1
  | .slice elems spare => uptoBulkAll elems + uptoBulkAll spare + 1
  | .agg parts => uptoBulkAll parts + 1
  | .iface _ d => uptoBulk d + 1
  | .map entries => uptoBulkEntries entries + 1
  | .held _ => 1
def uptoBulkAll {H : Type} : List (DataW H) → Nat
  | [] => 0
  | d :: r => uptoBulk d + uptoBulkAll r
def uptoBulkEntries {H : Type} : List (Lit × DataW H) → Nat
  | [] => 0
  | x :: r => uptoBulkEntry x + uptoBulkEntries r
def uptoBulkEntry {H : Type} : Lit × DataW H → Nat
  | (.string bytes, d) => bytes.length + uptoBulk d + 1
  | (_, d) => uptoBulk d + 1
 end
def uptoSmall : (H : Type) → List (DataW H) → Bool := fun _ ds => decide (uptoBulkAll ds ≤ 1048576)
def OpenSpec.upto (s : _root_.Go.ChangeSpec) : _root_.Go.OpenSpec := { _root_.Go.OpenSpec.ofChange s with cond := some uptoSmall }

/-- 'ferrulelaw05.TypesAdd', WHERE WHAT IT READS IS OF BULK AT MOST 1048576: true; the input reads as it did. -/
def typesAddUptoRow : OpenClaim := { program := "ytdekgebpbopfpaadoor", sum := "dfa2e35593d8e055ba8c4f4c1a3cc4b76fe14470d80c1f76d4d8403783865a2f", func := "ferrule/ferrulelaw05.TypesAdd", spec := "typesAdd", unfollowed := true, recurses := true, named := ["ferrule/types.tooMuch"], loops := true, apart := false, laid := [("ferrule/types.tooMuch", laid_ferrule_types_tooMuch)], narrowed := true }
def TypesAddUptoSaid : Prop := typesAddUptoRow.holds Tryd.pinned (OpenSpec.upto typesAddSpec)

/-- 'ferrulelaw05.TypesEnums', WHERE WHAT IT READS IS OF BULK AT MOST 1048576: true; the input reads as it did. -/
def typesEnumsUptoRow : OpenClaim := { program := "ytdekgebpbopfpaadoor", sum := "dfa2e35593d8e055ba8c4f4c1a3cc4b76fe14470d80c1f76d4d8403783865a2f", func := "ferrule/ferrulelaw05.TypesEnums", spec := "typesEnums", unfollowed := true, recurses := true, named := ["ferrule/types.tooMuch"], apart := false, laid := [("ferrule/types.tooMuch", laid_ferrule_types_tooMuch)], narrowed := true }
def TypesEnumsUptoSaid : Prop := typesEnumsUptoRow.holds Tryd.pinned (OpenSpec.upto typesEnumsSpec)

/-- 'ferrulelaw05.TypesRound', WHERE WHAT IT READS IS OF BULK AT MOST 1048576: true; the input reads as it did. -/
def typesRoundUptoRow : OpenClaim := { program := "ytdekgebpbopfpaadoor", sum := "dfa2e35593d8e055ba8c4f4c1a3cc4b76fe14470d80c1f76d4d8403783865a2f", func := "ferrule/ferrulelaw05.TypesRound", spec := "typesRound", unfollowed := true, recurses := true, named := ["ferrule/types.tooMuch"], apart := false, laid := [("ferrule/types.tooMuch", laid_ferrule_types_tooMuch)], narrowed := true }
def TypesRoundUptoSaid : Prop := typesRoundUptoRow.holds Tryd.pinned (OpenSpec.upto typesRoundSpec)

end Rows
end Go.Proofs.YtdekgebpbopfpaaDoor
