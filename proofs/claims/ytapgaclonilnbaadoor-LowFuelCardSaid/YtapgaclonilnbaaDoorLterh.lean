/-
  Proved: what the machine's memory is behind a block that is gone to; the cells that a block's end reads.
-/
import Derived.Test.YtapgaclonilnbaaDoorLinh
namespace Go.Proofs.YtapgaclonilnbaaDoor
open Go.RowKit
set_option linter.unusedVariables false
set_option linter.unusedSimpArgs false

section
variable {X : Cx} {m : Mc} {st : Int} {L : Ly} {w w' : World} {t : Le} {tb tq : Nat} {tv : Value}

/-- The cells that a block's end reads. -/
def TI (X : Cx) (pn tb tq : Nat) (t : Le) (tv : Value) (w' : World) : Prop :=
  w'.cell? ⟨X.R, 7, none⟩ = some (.pointer (some ⟨pn, 0, none⟩)) ∧ w'.cell? ⟨tb, tq + 1, none⟩ = some (.int .i64 t.a) ∧ w'.cell? ⟨tb, tq + 2, none⟩ = some (.int .i64 t.b) ∧ w'.cell? ⟨tb, tq + 3, none⟩ = some (.int .i64 t.to) ∧ w'.cell? ⟨tb, tq + 4, none⟩ = some (.int .i64 t.el) ∧ w'.cell? ⟨tb, tq + 5, none⟩ = some (.string t.tx) ∧ w'.cell? ⟨tb, tq + 6, none⟩ = some tv

theorem MS.ti (h : MS X m st L w) (hx : RowAt X.wz tb tq (leC t tv)) : TI X (L.pb m.bl.length) tb tq t tv w := by
  have c := fun j v (e : (leC t tv)[j]? = some v) => (h.bz.cell (p := ⟨tb, tq + j, none⟩) hx.1).trans (hx.at j e)
  exact ⟨h.rr.cell 7 (by omega), c 1 _ rfl, c 2 _ rfl, c 3 _ rfl, c 4 _ rfl, c 5 _ rfl, c 6 _ rfl⟩
theorem TI.below {pn : Nat} (h : TI X pn tb tq t tv w) (k : Below w.heap.size w w') : TI X pn tb tq t tv w' := by
  obtain ⟨h0, h1, h2, h3, h4, h5, h6⟩ := h
  have c := fun (p : Addr) v (e : w.cell? p = some v) => (k.cell (p := p) (World.block_lt_of_cell? _ _ e)).trans e
  exact ⟨c _ _ h0, c _ _ h1, c _ _ h2, c _ _ h3, c _ _ h4, c _ _ h5, c _ _ h6⟩

/-- A block is gone to. -/
theorem MS.gone (h : MS X m st L w) (b : Int) (hb : 0 ≤ b) : MS X { m with nw := goC m.nw b } st L ((w.setCell ⟨L.pb m.bl.length, 4, none⟩ (.int .i64 b)).setCell ⟨L.pb m.bl.length, 5, none⟩ (.int .i64 0)) := by
  have hr := (h.ro.s _ (Nat.lt_succ_self m.bl.length)).1
  refine h.stand b.toNat 0 ((Kp.set (F := fun c => L.ro c = 10 + 3 * m.bl.length) w 4 _ hr).trans (Kp.set (F := fun c => L.ro c = 10 + 3 * m.bl.length) _ 5 _ hr)) (((GZ.set h.now.s 4 (by omega) _).set 5 (by omega) _).ext fun i hi => ?_)
  unfold pu
  rcases i with _ | _ | _ | _ | _ | _ | i
  · rfl
  · rfl
  · rfl
  · rfl
  · show Value.int .i64 b = Value.int .i64 (b.toNat : Int)
    rw [Int.toNat_of_nonneg hb]
  · rfl
  · omega
end
end Go.Proofs.YtapgaclonilnbaaDoor
