/-
  No cell of these rows narrows 'for every input' (looked for: loops, veiled, ifaces, maps, wideKeys, modest, calm, conditions, laid).
  DERIVED. THE GIVEN ROWS OF THIS SEAT. 4 by the template 'for every input the law returns true; each argument reads behind the call as it read before'; 0 by the template 'total and deterministic' (their statements: YtoagebclnaggjaaTotals.lean).
  GIVEN WITH THE SEED: the statements are not yours to turn. If you find one false, say at which input.
  Laid BY PROGRAM, IN A SANDBOX (cutbox-rows.mjs): the forced cells as the released guide's own fill.sh prints them over the translation ac296e6bd90a260b… (all of the seat's roots in one cut). By AI agents, Wed Nov 11 2026. No macro, syntax, notation, axiom, sorry.
-/
import Derived.Test.YtoagebclnaggjaaChecked
import GoSem.Claim
import GoSem.ClaimJoined
import GoSem.ClaimMapViews
import Derived.JoinedTies
import Derived.KernelRfl
namespace Go.Proofs.Ytoagebclnaggjaa
/- THE CELL 'sum', in the pinned program and in every row, IS THE sha256 OF THE DUMP (.gsa) THAT YtoagebclnaggjaaProg.lean LOADS. Nothing in Lean hashes anything: it is a label: what it is worth is what the hold of that sum in a sandbox is worth. -/
noncomputable def Try.pinned : Pinned := { name := "ytoagebclnaggjaa", sum := "ac296e6bd90a260bd0b5cbd11e3fc1ab4e1f9427683ce93d75db3031f8e190eb", checked := Try.checked }
namespace Rows
def none {H : Type} : Left H := { results := [], args := [] }

/-- 'ferrulelaw20.ShuffleMoves': WHATEVER THE INPUT: true; the input reads as it did. -/
def shuffleMovesSpec : ChangeSpec := { name := "shuffleMoves", fn := fun _ => fun
  | [d1, d2] => { results := [.lit (.bool true)], args := [d1, d2] }
  | _ => none }
def shuffleMovesRow : OpenClaim := { program := "ytoagebclnaggjaa", sum := "ac296e6bd90a260bd0b5cbd11e3fc1ab4e1f9427683ce93d75db3031f8e190eb", func := "ferrule/ferrulelaw20.ShuffleMoves", spec := "shuffleMoves", unfollowed := true, recurses := true, apart := false }
def ShuffleMovesSaid : Prop := shuffleMovesRow.holds Try.pinned (OpenSpec.ofChange shuffleMovesSpec)

/-- ITS FALSE NEIGHBOUR: 'it returns false'. Refute it at one input. -/
def shuffleMovesWrong : ChangeSpec := { name := "shuffleMoves", fn := fun _ => fun
  | [d1, d2] => { results := [.lit (.bool false)], args := [d1, d2] }
  | _ => none }
def ShuffleMovesWrongFalsely : Prop := shuffleMovesRow.holds Try.pinned (OpenSpec.ofChange shuffleMovesWrong)

/-- 'ferrulelaw20.ShuffleFew': WHATEVER THE INPUT: true; the input reads as it did. -/
def shuffleFewSpec : ChangeSpec := { name := "shuffleFew", fn := fun _ => fun
  | [d1, d2] => { results := [.lit (.bool true)], args := [d1, d2] }
  | _ => none }
def shuffleFewRow : OpenClaim := { program := "ytoagebclnaggjaa", sum := "ac296e6bd90a260bd0b5cbd11e3fc1ab4e1f9427683ce93d75db3031f8e190eb", func := "ferrule/ferrulelaw20.ShuffleFew", spec := "shuffleFew", unfollowed := true, recurses := true, apart := false }
def ShuffleFewSaid : Prop := shuffleFewRow.holds Try.pinned (OpenSpec.ofChange shuffleFewSpec)

/-- ITS FALSE NEIGHBOUR: 'it returns false'. Refute it at one input. -/
def shuffleFewWrong : ChangeSpec := { name := "shuffleFew", fn := fun _ => fun
  | [d1, d2] => { results := [.lit (.bool false)], args := [d1, d2] }
  | _ => none }
def ShuffleFewWrongFalsely : Prop := shuffleFewRow.holds Try.pinned (OpenSpec.ofChange shuffleFewWrong)

/-- 'ferrulelaw20.ShuffleCircle': WHATEVER THE INPUT: true; the input reads as it did. -/
def shuffleCircleSpec : ChangeSpec := { name := "shuffleCircle", fn := fun _ => fun
  | [d1, d2] => { results := [.lit (.bool true)], args := [d1, d2] }
  | _ => none }
def shuffleCircleRow : OpenClaim := { program := "ytoagebclnaggjaa", sum := "ac296e6bd90a260bd0b5cbd11e3fc1ab4e1f9427683ce93d75db3031f8e190eb", func := "ferrule/ferrulelaw20.ShuffleCircle", spec := "shuffleCircle", unfollowed := true, recurses := true, apart := false }
def ShuffleCircleSaid : Prop := shuffleCircleRow.holds Try.pinned (OpenSpec.ofChange shuffleCircleSpec)

/-- ITS FALSE NEIGHBOUR: 'it returns false'. Refute it at one input. -/
def shuffleCircleWrong : ChangeSpec := { name := "shuffleCircle", fn := fun _ => fun
  | [d1, d2] => { results := [.lit (.bool false)], args := [d1, d2] }
  | _ => none }
def ShuffleCircleWrongFalsely : Prop := shuffleCircleRow.holds Try.pinned (OpenSpec.ofChange shuffleCircleWrong)

/-- 'ferrulelaw20.ShuffleStill': WHATEVER THE INPUT: true; the input reads as it did. -/
def shuffleStillSpec : ChangeSpec := { name := "shuffleStill", fn := fun _ => fun
  | [d1, d2] => { results := [.lit (.bool true)], args := [d1, d2] }
  | _ => none }
def shuffleStillRow : OpenClaim := { program := "ytoagebclnaggjaa", sum := "ac296e6bd90a260bd0b5cbd11e3fc1ab4e1f9427683ce93d75db3031f8e190eb", func := "ferrule/ferrulelaw20.ShuffleStill", spec := "shuffleStill", unfollowed := true, recurses := true, apart := false }
def ShuffleStillSaid : Prop := shuffleStillRow.holds Try.pinned (OpenSpec.ofChange shuffleStillSpec)

/-- ITS FALSE NEIGHBOUR: 'it returns false'. Refute it at one input. -/
def shuffleStillWrong : ChangeSpec := { name := "shuffleStill", fn := fun _ => fun
  | [d1, d2] => { results := [.lit (.bool false)], args := [d1, d2] }
  | _ => none }
def ShuffleStillWrongFalsely : Prop := shuffleStillRow.holds Try.pinned (OpenSpec.ofChange shuffleStillWrong)

/- THE SECOND FORM. 'bulk': how many values and letters a reading holds, each counted each time it is reached (what is shared counts as often as it is met; a slice's spare places count too). A statement '..UptoSaid' is the law's where the arguments, and the package variables that the reading takes, are together of bulk at most 1048576: NARROWER than '..Said'. Prove '..Said' where nothing that the law and all that it calls make is longer than what came in: it says more and counts as full. Else prove '..UptoSaid'. A law counts once. -/
mutual
def uptoBulk {H : Type} : DataW H → Nat
  | .lit (.string bytes) => bytes.length + 1
  | .lit _ => 1
  | .nil => 1
  | .ptr d => uptoBulk d + 1
  | .slice elems spare => uptoBulkAll elems + uptoBulkAll spare + 1
  | .agg parts => uptoBulkAll parts + 1
  | .iface _ d => uptoBulk d + 1
  | .map entries => uptoBulkEntries entries + 1
  | .held _ => 1
def uptoBulkAll {H : Type} : List (DataW H) → Nat
  | [] => 0
  | d :: r => uptoBulk d + uptoBulkAll r
def uptoBulkEntries {H : Type} : List (Lit × DataW H) → Nat
  | [] => 0
  | x :: r => uptoBulkEntry x + uptoBulkEntries r
def uptoBulkEntry {H : Type} : Lit × DataW H → Nat
  | (.string bytes, d) => bytes.length + uptoBulk d + 1
  | (_, d) => uptoBulk d + 1
 end
def uptoSmall : (H : Type) → List (DataW H) → Bool := fun _ ds => decide (uptoBulkAll ds ≤ 1048576)
def OpenSpec.upto (s : _root_.Go.ChangeSpec) : _root_.Go.OpenSpec := { _root_.Go.OpenSpec.ofChange s with cond := some uptoSmall }

/-- 'ferrulelaw20.ShuffleMoves', WHERE WHAT IT READS IS OF BULK AT MOST 1048576: true; the input reads as it did. -/
def shuffleMovesUptoRow : OpenClaim := { program := "ytoagebclnaggjaa", sum := "ac296e6bd90a260bd0b5cbd11e3fc1ab4e1f9427683ce93d75db3031f8e190eb", func := "ferrule/ferrulelaw20.ShuffleMoves", spec := "shuffleMoves", unfollowed := true, recurses := true, apart := false, narrowed := true }
def ShuffleMovesUptoSaid : Prop := shuffleMovesUptoRow.holds Try.pinned (OpenSpec.upto shuffleMovesSpec)

/-- 'ferrulelaw20.ShuffleFew', WHERE WHAT IT READS IS OF BULK AT MOST 1048576: true; the input reads as it did. -/
def shuffleFewUptoRow : OpenClaim := { program := "ytoagebclnaggjaa", sum := "ac296e6bd90a260bd0b5cbd11e3fc1ab4e1f9427683ce93d75db3031f8e190eb", func := "ferrule/ferrulelaw20.ShuffleFew", spec := "shuffleFew", unfollowed := true, recurses := true, apart := false, narrowed := true }
def ShuffleFewUptoSaid : Prop := shuffleFewUptoRow.holds Try.pinned (OpenSpec.upto shuffleFewSpec)

/-- 'ferrulelaw20.ShuffleCircle', WHERE WHAT IT READS IS OF BULK AT MOST 1048576: true; the input reads as it did. -/
def shuffleCircleUptoRow : OpenClaim := { program := "ytoagebclnaggjaa", sum := "ac296e6bd90a260bd0b5cbd11e3fc1ab4e1f9427683ce93d75db3031f8e190eb", func := "ferrule/ferrulelaw20.ShuffleCircle", spec := "shuffleCircle", unfollowed := true, recurses := true, apart := false, narrowed := true }
def ShuffleCircleUptoSaid : Prop := shuffleCircleUptoRow.holds Try.pinned (OpenSpec.upto shuffleCircleSpec)

/-- 'ferrulelaw20.ShuffleStill', WHERE WHAT IT READS IS OF BULK AT MOST 1048576: true; the input reads as it did. -/
def shuffleStillUptoRow : OpenClaim := { program := "ytoagebclnaggjaa", sum := "ac296e6bd90a260bd0b5cbd11e3fc1ab4e1f9427683ce93d75db3031f8e190eb", func := "ferrule/ferrulelaw20.ShuffleStill", spec := "shuffleStill", unfollowed := true, recurses := true, apart := false, narrowed := true }
def ShuffleStillUptoSaid : Prop := shuffleStillUptoRow.holds Try.pinned (OpenSpec.upto shuffleStillSpec)

end Rows
end Go.Proofs.Ytoagebclnaggjaa
