/-
  Proved: what low.Run answers.
-/
import Derived.Test.YtapgaclonilnbaaDoorLrn
namespace Go.Proofs.YtapgaclonilnbaaDoor
open Go.RowKit
set_option linter.unusedVariables false
set_option linter.unusedSimpArgs false

/-- A run: how it ended, what was printed, how many steps. -/
def runE (l : List Lf) (ip : List Int) (fuel : Nat) : (Int × Int) × List Int × Nat := if chk l = true then runS l ip fuel else ((5, 0), [], 0)

/-- What Run answers. -/
def RunR (w : World) (r : (Int × Int) × List Int × Nat) (e : Ending) (w' : World) : Prop :=
  ∃ pv, e = .returned (.tuple #[.agg #[.int .i64 r.1.1, .int .i64 r.1.2, pv], .int .i64 (r.2.2 : Int)]) ∧ Below w.heap.size w w' ∧ OwnB 3 1 noC w.heap.size r.2.1 pv w'

theorem OwnB.older {e : TypeId} {base base' : Nat} {l : List Int} {v : Value} {w : World} (h : OwnB e 1 noC base l v w) (hb : base' ≤ base) : OwnB e 1 noC base' l v w := by
  refine ⟨Nat.le_trans hb h.1, h.2.1, ?_⟩
  rcases h.2.2 with h4 | ⟨g, cap, cur, e1, e2, e3⟩
  · exact Or.inl h4
  · exact Or.inr ⟨g, cap, cur, e1, Nat.le_trans hb e2, e3⟩

set_option maxRecDepth 20000 in
set_option maxHeartbeats 4000000 in
theorem run_no (l : List Lf) (lA : Option Addr) (lC : Nat) (iv : Value) (fu : Int) (w : World) (hl : LfsIn w l (.slice lA l.length lC)) (hc : ¬ chk l = true) :
    Calls Tryd.prog 6 #[.slice lA l.length lC, iv, .int .i64 fu] w fun e w' => RunR w ((5, 0), [], 0) e w' := by
  have B0 := below_alloc w (.cells #[.int .i64 0, .int .i64 0, .slice none 0 0] 26)
  have A0 := At.new w #[.int .i64 0, .int .i64 0, .slice none 0 0] 26
  have HC : Hid (Calls Tryd.prog 8 #[.slice lA l.length lC] (w.alloc (.cells #[.int .i64 0, .int .i64 0, .slice none 0 0] 26)) fun e w' => e = .returned (.int .i64 10) ∧ Below (w.alloc (.cells #[.int .i64 0, .int .i64 0, .slice none 0 0] 26)).heap.size (w.alloc (.cells #[.int .i64 0, .int .i64 0, .slice none 0 0] 26)) w') := by
    have := check_c l lA lC _ (hl.below B0)
    unfold chkE at this
    rw [if_neg hc] at this
    exact this
  have HB : Hid (Below w.heap.size w (w.alloc (.cells #[.int .i64 0, .int .i64 0, .slice none 0 0] 26))) := B0
  have HA : Hid (At (w.alloc (.cells #[.int .i64 0, .int .i64 0, .slice none 0 0] 26)) w.heap.size #[.int .i64 0, .int .i64 0, .slice none 0 0] 26) := A0
  have KF : Hid (∀ w', Below (w.alloc (.cells #[.int .i64 0, .int .i64 0, .slice none 0 0] 26)).heap.size (w.alloc (.cells #[.int .i64 0, .int .i64 0, .slice none 0 0] 26)) w' → w'.cell? ⟨w.heap.size, 0, none⟩ = some (.int .i64 0) ∧ w'.cell? ⟨w.heap.size, 1, none⟩ = some (.int .i64 0) ∧ w'.cell? ⟨w.heap.size, 2, none⟩ = some (.slice none 0 0) ∧ w'.frozen? ⟨w.heap.size, 0, none⟩ = false ∧ w'.frozen? ⟨w.heap.size, 1, none⟩ = false ∧ w'.frozen? ⟨w.heap.size, 2, none⟩ = false) := fun w' hb => by
    have a1 := A0.below hb A0.lt
    exact ⟨by rw [a1.cell]; rfl, by rw [a1.cell]; rfl, by rw [a1.cell]; rfl, a1.frozen 0, a1.frozen 1, a1.frozen 2⟩
  have KB : Hid (∀ w', Below (w.alloc (.cells #[.int .i64 0, .int .i64 0, .slice none 0 0] 26)).heap.size (w.alloc (.cells #[.int .i64 0, .int .i64 0, .slice none 0 0] 26)) w' → At w' w.heap.size #[.int .i64 0, .int .i64 0, .slice none 0 0] 26) := fun w' hb => A0.below hb A0.lt
  clear hl hc A0 B0
  go_enter Tryd.func6, Tryd.ntmps6
  go_wp2_with (go_at_call 8; refine (HC.out).mono ?_; rintro e w1 ⟨rfl, hb1⟩; have B1 : Hid (Below (w.alloc (.cells #[.int .i64 0, .int .i64 0, .slice none 0 0] 26)).heap.size (w.alloc (.cells #[.int .i64 0, .int .i64 0, .slice none 0 0] 26)) w1) := hb1; obtain ⟨d0, d1, d2, f0, f1, f2⟩ := KF.out w1 hb1; clear hb1)
  have a3 := ((KB.out w1 B1.out).set (j := 0) (.int .i64 5)).set (j := 1) (.int .i64 0)
  have a4 := a3.set (j := 2) (.slice none 0 0)
  have e0 : (((w1.setCell ⟨w.heap.size, 0, none⟩ (.int .i64 5)).setCell ⟨w.heap.size, 1, none⟩ (.int .i64 0)).setCell ⟨w.heap.size, 2, none⟩ (.slice none 0 0)).cell? ⟨w.heap.size, 0, none⟩ = some (.int .i64 5) := by rw [a4.cell]; rfl
  have e1 : (((w1.setCell ⟨w.heap.size, 0, none⟩ (.int .i64 5)).setCell ⟨w.heap.size, 1, none⟩ (.int .i64 0)).setCell ⟨w.heap.size, 2, none⟩ (.slice none 0 0)).cell? ⟨w.heap.size, 1, none⟩ = some (.int .i64 0) := by rw [a4.cell]; rfl
  have e2 : (((w1.setCell ⟨w.heap.size, 0, none⟩ (.int .i64 5)).setCell ⟨w.heap.size, 1, none⟩ (.int .i64 0)).setCell ⟨w.heap.size, 2, none⟩ (.slice none 0 0)).cell? ⟨w.heap.size, 2, none⟩ = some (.slice none 0 0) := by rw [a4.cell]; rfl
  have hB : Below w.heap.size w (((w1.setCell ⟨w.heap.size, 0, none⟩ (.int .i64 5)).setCell ⟨w.heap.size, 1, none⟩ (.int .i64 0)).setCell ⟨w.heap.size, 2, none⟩ (.slice none 0 0)) := (((below_next HB.out B1.out).setCell (Nat.le_refl _) _).setCell (Nat.le_refl _) _).setCell (Nat.le_refl _) _
  generalize ((w1.setCell ⟨w.heap.size, 0, none⟩ (.int .i64 5)).setCell ⟨w.heap.size, 1, none⟩ (.int .i64 0)).setCell ⟨w.heap.size, 2, none⟩ (.slice none 0 0) = w9 at *
  refine ⟨rfl, .tuple #[.agg #[.int .i64 5, .int .i64 0, .slice none 0 0], .int .i64 0], ?_, ?_⟩
  · simp [results, Tryd.results6, go_sem, e0, e1, e2]
  · exact ⟨.slice none 0 0, rfl, hB, hB.size, by simp, Or.inl ⟨rfl, rfl⟩⟩
end Go.Proofs.YtapgaclonilnbaaDoor
