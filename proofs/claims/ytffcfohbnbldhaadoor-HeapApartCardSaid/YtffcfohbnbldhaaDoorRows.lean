/-
  NARROWER THAN 'FOR EVERY INPUT', by the rows' own cells (each row's printed sentence says how): HeapPlays: laid · HeapNobody: laid · HeapApart: laid · HeapFills: laid · HeapClasses: laid.
  DERIVED. THE GIVEN ROWS OF THIS SEAT. 5 by the template 'for every input the law returns true; each argument reads behind the call as it read before'; 0 by the template 'total and deterministic' (their statements: YtffcfohbnbldhaaDoorTotals.lean).
  GIVEN WITH THE SEED: the statements are not yours to turn. If you find one false, say at which input.
  Laid BY PROGRAM, IN A SANDBOX (cutbox-rows.mjs): the forced cells as the released guide's own fill.sh prints them over the translation a2010906b49992be… (all of the seat's roots in one cut). By AI agents, Wed Nov 11 2026. No macro, syntax, notation, axiom, sorry.
-/
import Derived.Test.YtffcfohbnbldhaaDoorChecked
import GoSem.Claim
import GoSem.ClaimJoined
import GoSem.ClaimMapViews
import Derived.JoinedTies
import Derived.KernelRfl
namespace Go.Proofs.YtffcfohbnbldhaaDoor
/- THE CELL 'sum', in the pinned program and in every row, IS THE sha256 OF THE DUMP (.gsa) THAT YtffcfohbnbldhaaDoorProg.lean LOADS. Nothing in Lean hashes anything: it is a label: what it is worth is what the hold of that sum in a sandbox is worth. -/
noncomputable def Tryd.pinned : Pinned := { name := "ytffcfohbnbldhaadoor", sum := "a2010906b49992be4dedc4616a8c35a9793ab91fa2c5f3cb682171b2a5716d22", checked := Tryd.checked }
namespace Rows
def none {H : Type} : Left H := { results := [], args := [] }

/- WHAT THE LISTED PACKAGE-LEVEL VARIABLES READ AS WHEN THE CALL BEGINS. Each datum BY PROGRAM (the guide's laid-datum.mjs) off the statement by which the dump's own 'gosem.cut.vars' lays the variable. In a bare row this is a premise. The card (YtffcfohbnbldhaaDoorCards.lean) ties it to the program's text. -/
def laid_ferrule_heap_spans {H : Type} : DataW H := .agg [.agg [.lit (.int .i64 4), .lit (.int .i64 64), .lit (.int .i64 262144)], .agg [.lit (.int .i64 16), .lit (.int .i64 32), .lit (.int .i64 263168)], .agg [.lit (.int .i64 64), .lit (.int .i64 16), .lit (.int .i64 265216)], .agg [.lit (.int .i64 128), .lit (.int .i64 8), .lit (.int .i64 269312)]]

/-- 'ferrulelaw09.HeapPlays': WHATEVER THE INPUT: true; the input reads as it did. -/
def heapPlaysSpec : ChangeSpec := { name := "heapPlays", fn := fun _ => fun
  | [d] => { results := [.lit (.bool true)], args := [d] }
  | _ => none }
def heapPlaysRow : OpenClaim := { program := "ytffcfohbnbldhaadoor", sum := "a2010906b49992be4dedc4616a8c35a9793ab91fa2c5f3cb682171b2a5716d22", func := "ferrule/ferrulelaw09.HeapPlays", spec := "heapPlays", unfollowed := true, recurses := true, named := ["ferrule/heap.spans"], apart := false, laid := [("ferrule/heap.spans", laid_ferrule_heap_spans)] }
def HeapPlaysSaid : Prop := heapPlaysRow.holds Tryd.pinned (OpenSpec.ofChange heapPlaysSpec)

/-- ITS FALSE NEIGHBOUR: 'it returns false'. Refute it at one input. -/
def heapPlaysWrong : ChangeSpec := { name := "heapPlays", fn := fun _ => fun
  | [d] => { results := [.lit (.bool false)], args := [d] }
  | _ => none }
def HeapPlaysWrongFalsely : Prop := heapPlaysRow.holds Tryd.pinned (OpenSpec.ofChange heapPlaysWrong)

/-- 'ferrulelaw09.HeapNobody': WHATEVER THE INPUT: true; the input reads as it did. -/
def heapNobodySpec : ChangeSpec := { name := "heapNobody", fn := fun _ => fun
  | [d] => { results := [.lit (.bool true)], args := [d] }
  | _ => none }
def heapNobodyRow : OpenClaim := { program := "ytffcfohbnbldhaadoor", sum := "a2010906b49992be4dedc4616a8c35a9793ab91fa2c5f3cb682171b2a5716d22", func := "ferrule/ferrulelaw09.HeapNobody", spec := "heapNobody", unfollowed := true, recurses := true, named := ["ferrule/heap.spans"], apart := false, laid := [("ferrule/heap.spans", laid_ferrule_heap_spans)] }
def HeapNobodySaid : Prop := heapNobodyRow.holds Tryd.pinned (OpenSpec.ofChange heapNobodySpec)

/-- ITS FALSE NEIGHBOUR: 'it returns false'. Refute it at one input. -/
def heapNobodyWrong : ChangeSpec := { name := "heapNobody", fn := fun _ => fun
  | [d] => { results := [.lit (.bool false)], args := [d] }
  | _ => none }
def HeapNobodyWrongFalsely : Prop := heapNobodyRow.holds Tryd.pinned (OpenSpec.ofChange heapNobodyWrong)

/-- 'ferrulelaw09.HeapApart': WHATEVER THE INPUT: true; the input reads as it did. -/
def heapApartSpec : ChangeSpec := { name := "heapApart", fn := fun _ => fun
  | [d1, d2] => { results := [.lit (.bool true)], args := [d1, d2] }
  | _ => none }
def heapApartRow : OpenClaim := { program := "ytffcfohbnbldhaadoor", sum := "a2010906b49992be4dedc4616a8c35a9793ab91fa2c5f3cb682171b2a5716d22", func := "ferrule/ferrulelaw09.HeapApart", spec := "heapApart", unfollowed := true, recurses := true, named := ["ferrule/heap.spans"], apart := false, laid := [("ferrule/heap.spans", laid_ferrule_heap_spans)] }
def HeapApartSaid : Prop := heapApartRow.holds Tryd.pinned (OpenSpec.ofChange heapApartSpec)

/-- ITS FALSE NEIGHBOUR: 'it returns false'. Refute it at one input. -/
def heapApartWrong : ChangeSpec := { name := "heapApart", fn := fun _ => fun
  | [d1, d2] => { results := [.lit (.bool false)], args := [d1, d2] }
  | _ => none }
def HeapApartWrongFalsely : Prop := heapApartRow.holds Tryd.pinned (OpenSpec.ofChange heapApartWrong)

/-- 'ferrulelaw09.HeapFills': WHATEVER THE INPUT: true; the input reads as it did. -/
def heapFillsSpec : ChangeSpec := { name := "heapFills", fn := fun _ => fun
  | [d1, d2] => { results := [.lit (.bool true)], args := [d1, d2] }
  | _ => none }
def heapFillsRow : OpenClaim := { program := "ytffcfohbnbldhaadoor", sum := "a2010906b49992be4dedc4616a8c35a9793ab91fa2c5f3cb682171b2a5716d22", func := "ferrule/ferrulelaw09.HeapFills", spec := "heapFills", unfollowed := true, recurses := true, named := ["ferrule/heap.spans"], apart := false, laid := [("ferrule/heap.spans", laid_ferrule_heap_spans)] }
def HeapFillsSaid : Prop := heapFillsRow.holds Tryd.pinned (OpenSpec.ofChange heapFillsSpec)

/-- ITS FALSE NEIGHBOUR: 'it returns false'. Refute it at one input. -/
def heapFillsWrong : ChangeSpec := { name := "heapFills", fn := fun _ => fun
  | [d1, d2] => { results := [.lit (.bool false)], args := [d1, d2] }
  | _ => none }
def HeapFillsWrongFalsely : Prop := heapFillsRow.holds Tryd.pinned (OpenSpec.ofChange heapFillsWrong)

/-- 'ferrulelaw09.HeapClasses': WHATEVER THE INPUT: true; the input reads as it did. -/
def heapClassesSpec : ChangeSpec := { name := "heapClasses", fn := fun _ => fun
  | [d1, d2] => { results := [.lit (.bool true)], args := [d1, d2] }
  | _ => none }
def heapClassesRow : OpenClaim := { program := "ytffcfohbnbldhaadoor", sum := "a2010906b49992be4dedc4616a8c35a9793ab91fa2c5f3cb682171b2a5716d22", func := "ferrule/ferrulelaw09.HeapClasses", spec := "heapClasses", unfollowed := true, recurses := true, named := ["ferrule/heap.spans"], apart := false, laid := [("ferrule/heap.spans", laid_ferrule_heap_spans)] }
def HeapClassesSaid : Prop := heapClassesRow.holds Tryd.pinned (OpenSpec.ofChange heapClassesSpec)

/-- ITS FALSE NEIGHBOUR: 'it returns false'. Refute it at one input. -/
def heapClassesWrong : ChangeSpec := { name := "heapClasses", fn := fun _ => fun
  | [d1, d2] => { results := [.lit (.bool false)], args := [d1, d2] }
  | _ => none }
def HeapClassesWrongFalsely : Prop := heapClassesRow.holds Tryd.pinned (OpenSpec.ofChange heapClassesWrong)

/- THE SECOND FORM. 'bulk': how many values and letters a reading holds, each counted each time it is reached (what is shared counts as often as it is met; a slice's spare places count too). A statement '..UptoSaid' is the law's where the arguments, and the package variables that the reading takes, are together of bulk at most 1048576: NARROWER than '..Said'. Prove '..Said' where nothing that the law and all that it calls make is longer than what came in: it says more and counts as full. Else prove '..UptoSaid'. A law counts once. -/
mutual
def uptoBulk {H : Type} : DataW H → Nat
  | .lit (.string bytes) => bytes.length + 1
  | .lit _ => 1
  | .nil => 1
  | .ptr d => uptoBulk d + 1
  | .slice elems spare => uptoBulkAll elems + uptoBulkAll spare + 1
  | .agg parts => uptoBulkAll parts + 1
  | .iface _ d => uptoBulk d + 1
  | .map entries => uptoBulkEntries entries + 1
  | .held _ => 1
def uptoBulkAll {H : Type} : List (DataW H) → Nat
  | [] => 0
  | d :: r => uptoBulk d + uptoBulkAll r
def uptoBulkEntries {H : Type} : List (Lit × DataW H) → Nat
  | [] => 0
  | x :: r => uptoBulkEntry x + uptoBulkEntries r
def uptoBulkEntry {H : Type} : Lit × DataW H → Nat
  | (.string bytes, d) => bytes.length + uptoBulk d + 1
  | (_, d) => uptoBulk d + 1
 end
def uptoSmall : (H : Type) → List (DataW H) → Bool := fun _ ds => decide (uptoBulkAll ds ≤ 1048576)
def OpenSpec.upto (s : _root_.Go.ChangeSpec) : _root_.Go.OpenSpec := { _root_.Go.OpenSpec.ofChange s with cond := some uptoSmall }

/-- 'ferrulelaw09.HeapPlays', WHERE WHAT IT READS IS OF BULK AT MOST 1048576: true; the input reads as it did. -/
def heapPlaysUptoRow : OpenClaim := { program := "ytffcfohbnbldhaadoor", sum := "a2010906b49992be4dedc4616a8c35a9793ab91fa2c5f3cb682171b2a5716d22", func := "ferrule/ferrulelaw09.HeapPlays", spec := "heapPlays", unfollowed := true, recurses := true, named := ["ferrule/heap.spans"], apart := false, laid := [("ferrule/heap.spans", laid_ferrule_heap_spans)], narrowed := true }
def HeapPlaysUptoSaid : Prop := heapPlaysUptoRow.holds Tryd.pinned (OpenSpec.upto heapPlaysSpec)

/-- 'ferrulelaw09.HeapNobody', WHERE WHAT IT READS IS OF BULK AT MOST 1048576: true; the input reads as it did. -/
def heapNobodyUptoRow : OpenClaim := { program := "ytffcfohbnbldhaadoor", sum := "a2010906b49992be4dedc4616a8c35a9793ab91fa2c5f3cb682171b2a5716d22", func := "ferrule/ferrulelaw09.HeapNobody", spec := "heapNobody", unfollowed := true, recurses := true, named := ["ferrule/heap.spans"], apart := false, laid := [("ferrule/heap.spans", laid_ferrule_heap_spans)], narrowed := true }
def HeapNobodyUptoSaid : Prop := heapNobodyUptoRow.holds Tryd.pinned (OpenSpec.upto heapNobodySpec)

/-- 'ferrulelaw09.HeapApart', WHERE WHAT IT READS IS OF BULK AT MOST 1048576: true; the input reads as it did. -/
def heapApartUptoRow : OpenClaim := { program := "ytffcfohbnbldhaadoor", sum := "a2010906b49992be4dedc4616a8c35a9793ab91fa2c5f3cb682171b2a5716d22", func := "ferrule/ferrulelaw09.HeapApart", spec := "heapApart", unfollowed := true, recurses := true, named := ["ferrule/heap.spans"], apart := false, laid := [("ferrule/heap.spans", laid_ferrule_heap_spans)], narrowed := true }
def HeapApartUptoSaid : Prop := heapApartUptoRow.holds Tryd.pinned (OpenSpec.upto heapApartSpec)

/-- 'ferrulelaw09.HeapFills', WHERE WHAT IT READS IS OF BULK AT MOST 1048576: true; the input reads as it did. -/
def heapFillsUptoRow : OpenClaim := { program := "ytffcfohbnbldhaadoor", sum := "a2010906b49992be4dedc4616a8c35a9793ab91fa2c5f3cb682171b2a5716d22", func := "ferrule/ferrulelaw09.HeapFills", spec := "heapFills", unfollowed := true, recurses := true, named := ["ferrule/heap.spans"], apart := false, laid := [("ferrule/heap.spans", laid_ferrule_heap_spans)], narrowed := true }
def HeapFillsUptoSaid : Prop := heapFillsUptoRow.holds Tryd.pinned (OpenSpec.upto heapFillsSpec)

/-- 'ferrulelaw09.HeapClasses', WHERE WHAT IT READS IS OF BULK AT MOST 1048576: true; the input reads as it did. -/
def heapClassesUptoRow : OpenClaim := { program := "ytffcfohbnbldhaadoor", sum := "a2010906b49992be4dedc4616a8c35a9793ab91fa2c5f3cb682171b2a5716d22", func := "ferrule/ferrulelaw09.HeapClasses", spec := "heapClasses", unfollowed := true, recurses := true, named := ["ferrule/heap.spans"], apart := false, laid := [("ferrule/heap.spans", laid_ferrule_heap_spans)], narrowed := true }
def HeapClassesUptoSaid : Prop := heapClassesUptoRow.holds Tryd.pinned (OpenSpec.upto heapClassesSpec)

end Rows
end Go.Proofs.YtffcfohbnbldhaaDoor
