/-
  Proved: what placed.way answers; a line's words, as the document tells them.
-/
import Derived.Test.YtcdeckbobabdkaaAplace
import Derived.Test.YtcdeckbobabdkaaAmul
import Derived.Test.YtcdeckbobabdkaaAsmall
import Derived.BigQuiet
namespace Go.Proofs.Ytcdeckbobabdkaa
open Go.RowKit
set_option linter.unusedVariables false
set_option linter.unusedSimpArgs false
set_option maxRecDepth 20000

/-- One word of a branch or a jump. -/
def e1 (s : Tx) (i : Ins) : Int := (encF s i).getD 0
/-- The words of one line. -/
def wdsP (l : List Ln) (L : Nat → Bool) (k : Nat) : List Int :=
  match l[k]? with
  | none => []
  | some y =>
    if y.k = 1 then [e1 y.s.data.toList y.i]
    else if y.k = 5 then List.replicate y.n.toNat 19
    else if y.k = 4 then [e1 y.s.data.toList (w0 y.i (way l L k))]
    else if y.k = 3 then (if L k then [e1 (opp y.s.data.toList) (w0 y.i 8), e1 jalT ⟨0, 0, 0, way l L k - 4⟩] else [e1 y.s.data.toList (w0 y.i (way l L k))])
    else []

/-- placed in memory. -/
def plV (l : List Ln) (mb ab : Nat) : Value := .agg #[.map (some mb), .slice (some ⟨ab, 0, none⟩) (l.length + 1) (l.length + 1)]
/-- .. -/
def PlIn (w : World) (l : List Ln) (mb ab : Nat) (L : Nat → Bool) : Prop := MapL w mb 1000 (lbF l) ∧ IZ w ab (l.length + 1) (atP l L)
theorem PlIn.below {w w' : World} {l : List Ln} {mb ab : Nat} {L : Nat → Bool} (h : PlIn w l mb ab L) (k : Below w.heap.size w w') : PlIn w' l mb ab L := ⟨h.1.below k, IZ.below h.2 k (GZ.lt h.2)⟩

set_option maxHeartbeats 1000000 in
theorem pway_c (l : List Ln) (mb ab k : Nat) (L : Nat → Bool) (y : Ln) (hy : l[k]? = some y) (ok : LOk y) (w : World) (h : PlIn w l mb ab L) (hsm : Sml l) (hl : l.length ≤ 1000) :
    Calls Try.prog 24 #[plV l mb ab, .int .i64 (k : Int), .agg (lnC y).toArray] w fun e w' => e = .returned (.int .i64 (way l L k)) ∧ Below w.heap.size w w' := by
  have hk := (List.getElem?_eq_some_iff.1 hy).1
  have hg := goal_in l k hk
  unfold plV
  have p1 := atP_in hsm L (p := goal l k) (by omega)
  have p2 := atP_in hsm L (p := k) (by omega)
  have B2 : ∀ (A B : Obj) n, Below w.heap.size w (((w.alloc A).alloc B).drewN n) := fun A B n => drew_below (below_two w A B) n
  have HB2 : Hid (∀ (A B : Obj) n, Below w.heap.size w (((w.alloc A).alloc B).drewN n)) := B2
  have LK : ∀ (A B : Obj) n, (Instr.lookup 40 (.map (some mb)) (.string y.lb) false).run Try.prog (((w.alloc A).alloc B).drewN n) = .ok (.int .i64 (goal l k : Int)) (((w.alloc A).alloc B).drewN n) := fun A B n => by
    have := (h.1.below (B2 A B n)).look1 ok.2
    rw [goal_at hy] at this
    exact this
  have g1 : w.cell? ⟨ab, goal l k, none⟩ = some (.int .i64 (atP l L (goal l k))) := GZ.cell h.2 _ (by omega)
  have g2 : w.cell? ⟨ab, k, none⟩ = some (.int .i64 (atP l L k)) := GZ.cell h.2 _ (by omega)
  have z1 : ab < w.heap.size := GZ.lt h.2
  have wz : IntKind.i64.wrap (atP l L (goal l k) - atP l L k) = way l L k := wrap_in _ (by omega)
  have hi1 : (goal l k : Int) < (l.length : Int) + 1 := by omega
  have hi2 : (k : Int) < (l.length : Int) + 1 := by omega
  clear h hy ok hsm p1 p2 hg B2 hk
  generalize goal l k = g at *
  generalize atP l L g = pg at *
  generalize atP l L k = pk at *
  generalize way l L k = wy at *
  obtain ⟨k0, s, ⟨rd, q1, q2, im⟩, lb, n0⟩ := y
  simp only [lnC] at *
  go_enter Try.func24, Try.ntmps24
  go_wp2
  go_quiet (fail)
  go_wp2
  go_ret
  exact ⟨by rw [← wz]; rfl, HB2.out _ _ _⟩
end Go.Proofs.Ytcdeckbobabdkaa
