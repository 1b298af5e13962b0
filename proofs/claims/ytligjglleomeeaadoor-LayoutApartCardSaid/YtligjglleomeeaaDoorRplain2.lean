/-
  Plain facts: when a local is plain, over functions of the middle form as data.
-/
import Derived.Test.YtligjglleomeeaaDoorMopen
import Derived.OwnWalk
import Derived.Deep.RegionWith
namespace Go.Proofs.YtligjglleomeeaaDoor
open Go.RowKit

/-- Is a place made of a local's own memory? -/
def mdf (p : Pl) (k : Int) : Bool := decide (p.l = k) && (match p.st with | [] => true | s :: _ => decide (s.k ≠ 3))

theorem infoBool : (Tryd.prog.info? 4).map (fun i => (i.zero, i.size, i.bytes)) = some (some (.bool false), 1, 1) := by kernel_rfl

/-- Is a local's own memory a place of an instruction? -/
def tch (x : Ins) (k : Int) : Bool := ((decide (x.op = 3) || decide (x.op = 4) || decide (x.op = 5) || decide (x.op = 6) || decide (x.op = 9)) && mdf x.p k) || (decide (x.op = 5) && mdf x.q k)
def clr (k : Int) (l : List Ins) : Bool := l.all fun x => !tch x k
def clrs (k : Int) (l : List Bk) : Bool := l.all fun b => clr k b.li
/-- Is a local plain? -/
def pln (f : Fm) (k : Nat) : Bool := decide (f.lo.getD k 0 = 1) && clrs k f.bs

theorem clr_step (k : Int) (l : List Ins) (j : Nat) (h : j < l.length) : clr k (l.take (j + 1)) = (clr k (l.take j) && !tch l[j] k) := by
  unfold clr
  rw [List.take_succ_eq_append_getElem h, List.all_append]
  simp
theorem clrs_step (k : Int) (l : List Bk) (j : Nat) (h : j < l.length) : clrs k (l.take (j + 1)) = (clrs k (l.take j) && clr k l[j].li) := by
  unfold clrs
  rw [List.take_succ_eq_append_getElem h, List.all_append]
  simp

end Go.Proofs.YtligjglleomeeaaDoor
