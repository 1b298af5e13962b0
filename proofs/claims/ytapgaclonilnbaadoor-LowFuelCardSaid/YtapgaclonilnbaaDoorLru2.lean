/-
  Proved: what low.Run answers where Check is content.
-/
import Derived.Test.YtapgaclonilnbaaDoorLru
namespace Go.Proofs.YtapgaclonilnbaaDoor
open Go.RowKit
set_option linter.unusedVariables false
set_option linter.unusedSimpArgs false

/-- The machine was made. -/
def NR (l : List Lf) (ip : List Int) (fu : Int) (w : World) (e : Ending) (w' : World) : Prop :=
  ∃ R, e = .returned (.pointer (some ⟨R, 0, none⟩)) ∧ Below w.heap.size w w' ∧ ∃ (X : Cx) (L : Ly), X.l = l ∧ X.fu = fu ∧ X.wz = w ∧ X.R = R ∧ MX X ⟨[], fun _ _ => false, fun _ => 0, ip, [], 0⟩ (.pointer none) 0 L w'

/-- What is left of the run. -/
def ER (R : Nat) (base : World) (out : List Int) (st : Int) (w' : World) : Prop :=
  ∃ pv, w'.cell? ⟨R, 4, none⟩ = some (.int .i64 st) ∧ w'.cell? ⟨R, 5, none⟩ = some pv ∧ OwnB 3 1 noC base.heap.size out pv w' ∧ Below base.heap.size base w'

set_option maxRecDepth 20000 in
set_option maxHeartbeats 4000000 in
theorem run_yes (l : List Lf) (lA : Option Addr) (lC : Nat) (ip : List Int) (iv : Value) (fu : Nat) (hf6 : fu ≤ 1000000) (w : World) (ht : Tab w) (hl : LfsIn w l (.slice lA l.length lC)) (hi : InpIn w ip iv) (hc : chk l = true) :
    Calls Tryd.prog 6 #[.slice lA l.length lC, iv, .int .i64 (fu : Int)] w fun e w' => RunR w (runS l ip fu) e w' := by
  have B0 := below_alloc w (.cells #[.int .i64 0, .int .i64 0, .slice none 0 0] 26)
  have A0 := At.new w #[.int .i64 0, .int .i64 0, .slice none 0 0] 26
  generalize hW : w.alloc (.cells #[.int .i64 0, .int .i64 0, .slice none 0 0] 26) = W at *
  have HC : Hid (Calls Tryd.prog 8 #[.slice lA l.length lC] W fun e w' => e = .returned (.int .i64 0) ∧ Below W.heap.size W w') := by
    have := check_c l lA lC _ (hl.below B0)
    unfold chkE at this
    rw [if_pos hc] at this
    exact this
  obtain ⟨IA, IC, rfl, hi2⟩ := id hi
  have HN : Hid (∀ w', Below W.heap.size W w' → Calls Tryd.prog 10 #[.slice lA l.length lC, .slice IA ip.length IC, .int .i64 (fu : Int)] w' fun e w2 => NR l ip fu w' e w2) := fun w' hb => by
    have hb2 := below_next B0 hb
    refine (newRun_c l lA lC ip _ fu w' (ht.below hb2 ht.lt) (hl.below hb2) (by obtain ⟨A, C, e, h1, h2, h3⟩ := hi; exact ⟨A, C, e, h1, h2, h3.below hb2 fun _ _ => id⟩)).mono ?_
    rintro e w2 ⟨X, L, q1, q2, q3, q4, q5⟩
    exact ⟨X.R, q4, by have := q5.bz; rw [q3] at this; exact this, X, L, q1, q2, q3, rfl, q5⟩
  have HE : Hid (∀ w1 w2 R, NR l ip fu w1 (.returned (.pointer (some ⟨R, 0, none⟩))) w2 → Calls Tryd.prog 11 #[.pointer (some ⟨R, 0, none⟩)] w2 fun e w' => e = .returned (.agg #[.int .i64 (runS l ip fu).1.1, .int .i64 (runS l ip fu).1.2]) ∧ ER R w1 (runS l ip fu).2.1 ((runS l ip fu).2.2 : Int) w') := fun w1 w2 R h => by
    obtain ⟨R', e1, -, X, L, q1, q2, q3, q4, q5⟩ := h
    cases e1
    have := toTheEnd_c (by rw [q1]; exact hc) q5 fu q2 hf6
    rw [q1, q4] at this
    refine this.mono ?_
    rintro e w' ⟨rfl, hE⟩
    obtain ⟨pv, r1, r2, r3, r4⟩ := hE
    rw [q4] at r1 r2
    rw [q3] at r3 r4
    exact ⟨rfl, pv, r1, r2, r3, r4⟩
  have HB : Hid (Below w.heap.size w W) := B0
  have KB : Hid (∀ w', Below W.heap.size W w' → At w' w.heap.size #[.int .i64 0, .int .i64 0, .slice none 0 0] 26) := fun w' hb => A0.below hb A0.lt
  have HW : Hid (w.alloc (.cells #[.int .i64 0, .int .i64 0, .slice none 0 0] 26) = W) := hW
  clear hl hc A0 B0 hi hi2 ht
  obtain ⟨r, hr⟩ : ∃ r, r = runS l ip fu := ⟨_, rfl⟩
  rw [← hr] at HE ⊢
  clear hr
  go_enter Tryd.func6, Tryd.ntmps6
  go_wp2_with (first
    | (go_at_call 8; (try rw [hW]); refine (HC.out).mono ?_; rintro e w1 ⟨rfl, hb1⟩; have B1 : Hid (Below W.heap.size W w1) := hb1; clear hb1)
    | (go_at_call 10; refine (HN.out _ B1.out).mono ?_; rintro e w2 ⟨R, rfl, hb2, hn2⟩; have N2 : Hid (NR l ip fu w1 (.returned (.pointer (some ⟨R, 0, none⟩))) w2) := ⟨R, rfl, hb2, hn2⟩; clear hb2 hn2)
    | (go_at_call 11; refine (HE.out _ _ _ N2.out).mono ?_; rintro e w3 ⟨rfl, pv, hp⟩; have P3 : Hid (w3.cell? ⟨R, 4, none⟩ = some (.int .i64 r.2.2) ∧ w3.cell? ⟨R, 5, none⟩ = some pv ∧ OwnB 3 1 noC w1.heap.size r.2.1 pv w3 ∧ Below w1.heap.size w1 w3) := hp; clear hp))
  obtain ⟨c4, c5, ho, h3⟩ := P3.out
  obtain ⟨pA, pC, epv, -⟩ := OwnB.shape noC_len ho
  have hR : w1.heap.size ≤ R := by
    obtain ⟨R', e1, -, X, L, -, -, q3, q4, q5⟩ := N2.out
    cases e1
    rcases Nat.lt_or_ge R w1.heap.size with e | e
    · have h1 := q5.zz R (by rw [q3]; exact e)
      have h2 := q5.ro.r
      rw [q4] at h2
      omega
    · exact e
  have hR2 : R < w3.heap.size := World.block_lt_of_cell? _ _ c4
  have h13 := below_next B1.out h3
  have a6 := (KB.out w3 h13).below (below_alloc w3 (.cells #[.int .i64 r.1.1, .int .i64 r.1.2] 48)) (KB.out w3 h13).lt
  have ww : w.heap.size < W.heap.size := by have := (KB.out W (Below.refl _ _)).lt; exact this
  have s1 := B1.out.size
  have s3 := h3.size
  have b4 := below_alloc w3 (.cells #[.int .i64 r.1.1, .int .i64 r.1.2] 48)
  have k4 := (b4.cell (p := ⟨R, 4, none⟩) hR2).trans c4
  have k5 := (b4.cell (p := ⟨R, 5, none⟩) hR2).trans c5
  have k9 := At.new w3 #[.int .i64 r.1.1, .int .i64 r.1.2] 48
  have m0 : (w3.alloc (.cells #[.int .i64 r.1.1, .int .i64 r.1.2] 48)).cell? ⟨w3.heap.size, 0, none⟩ = some (.int .i64 r.1.1) := by rw [k9.cell]; rfl
  have m1 : (w3.alloc (.cells #[.int .i64 r.1.1, .int .i64 r.1.2] 48)).cell? ⟨w3.heap.size, 1, none⟩ = some (.int .i64 r.1.2) := by rw [k9.cell]; rfl
  have hB4 : Below w.heap.size w (w3.alloc (.cells #[.int .i64 r.1.1, .int .i64 r.1.2] 48)) := (below_next HB.out h13).trans (b4.mono (by have := HB.out.size; omega))
  have ho4 := (ho.below b4).older (base' := w.heap.size) (by omega)
  have hov : ∀ b, pv.ownBlock = some b → w1.heap.size ≤ b := fun b hb => (ho.at hb).1
  generalize w3.alloc (.cells #[.int .i64 r.1.1, .int .i64 r.1.2] 48) = w4 at *
  have n6 : ¬ R = w.heap.size := by omega
  have n7 : ¬ w.heap.size = R := by omega
  have d0 : w4.cell? ⟨w.heap.size, 0, none⟩ = some (.int .i64 0) := by rw [a6.cell]; rfl
  have d1 : w4.cell? ⟨w.heap.size, 1, none⟩ = some (.int .i64 0) := by rw [a6.cell]; rfl
  have d2 : w4.cell? ⟨w.heap.size, 2, none⟩ = some (.slice none 0 0) := by rw [a6.cell]; rfl
  have f0 := a6.frozen 0
  have f1 := a6.frozen 1
  have f2 := a6.frozen 2
  have FIN : Hid (RunR w r (.returned (.tuple #[.agg #[.int .i64 r.1.1, .int .i64 r.1.2, pv], .int .i64 (r.2.2 : Int)])) (((w4.setCell ⟨w.heap.size, 0, none⟩ (.int .i64 r.1.1)).setCell ⟨w.heap.size, 1, none⟩ (.int .i64 r.1.2)).setCell ⟨w.heap.size, 2, none⟩ pv)) := by
    have k : Kp (fun b => b = w.heap.size) w4 (((w4.setCell ⟨w.heap.size, 0, none⟩ (.int .i64 r.1.1)).setCell ⟨w.heap.size, 1, none⟩ (.int .i64 r.1.2)).setCell ⟨w.heap.size, 2, none⟩ pv) := ((Kp.set (F := fun b => b = w.heap.size) _ 0 _ rfl).trans (Kp.set (F := fun b => b = w.heap.size) _ 1 _ rfl)).trans (Kp.set (F := fun b => b = w.heap.size) _ 2 _ rfl)
    exact ⟨pv, rfl, ((hB4.setCell (Nat.le_refl _) _).setCell (Nat.le_refl _) _).setCell (Nat.le_refl _) _, ho4.but k fun b hb e => by have := hov b hb; omega⟩
  have a9 := ((a6.set (j := 0) (.int .i64 r.1.1)).set (j := 1) (.int .i64 r.1.2)).set (j := 2) pv
  have e0 : (((w4.setCell ⟨w.heap.size, 0, none⟩ (.int .i64 r.1.1)).setCell ⟨w.heap.size, 1, none⟩ (.int .i64 r.1.2)).setCell ⟨w.heap.size, 2, none⟩ pv).cell? ⟨w.heap.size, 0, none⟩ = some (.int .i64 r.1.1) := by rw [a9.cell]; rfl
  have e1 : (((w4.setCell ⟨w.heap.size, 0, none⟩ (.int .i64 r.1.1)).setCell ⟨w.heap.size, 1, none⟩ (.int .i64 r.1.2)).setCell ⟨w.heap.size, 2, none⟩ pv).cell? ⟨w.heap.size, 1, none⟩ = some (.int .i64 r.1.2) := by rw [a9.cell]; rfl
  have e2 : (((w4.setCell ⟨w.heap.size, 0, none⟩ (.int .i64 r.1.1)).setCell ⟨w.heap.size, 1, none⟩ (.int .i64 r.1.2)).setCell ⟨w.heap.size, 2, none⟩ pv).cell? ⟨w.heap.size, 2, none⟩ = some pv := by rw [a9.cell]; rfl
  have FF : Hid (∀ w9, w9 = ((w4.setCell ⟨w.heap.size, 0, none⟩ (.int .i64 r.1.1)).setCell ⟨w.heap.size, 1, none⟩ (.int .i64 r.1.2)).setCell ⟨w.heap.size, 2, none⟩ pv → w9.cell? ⟨w.heap.size, 0, none⟩ = some (.int .i64 r.1.1) ∧ w9.cell? ⟨w.heap.size, 1, none⟩ = some (.int .i64 r.1.2) ∧ w9.cell? ⟨w.heap.size, 2, none⟩ = some pv ∧ RunR w r (.returned (.tuple #[.agg #[.int .i64 r.1.1, .int .i64 r.1.2, pv], .int .i64 (r.2.2 : Int)])) w9) := fun w9 e => by rw [e]; exact ⟨e0, e1, e2, FIN.out⟩
  clear e0 e1 e2 a9 FIN a6 k9 ho4 hov hB4 b4 ho h3 h13 c4 c5 P3 N2 HC HN HE KB HW hW B1 HB s1 s3 ww hR hR2
  generalize w3.heap.size = b9 at *
  subst epv
  generalize w.heap.size = b6 at *
  go_region
  go_wp2
  obtain ⟨e0, e1, e2, e3⟩ := FF.out _ rfl
  generalize ((w4.setCell ⟨b6, 0, none⟩ (.int .i64 r.1.1)).setCell ⟨b6, 1, none⟩ (.int .i64 r.1.2)).setCell ⟨b6, 2, none⟩ (.slice pA r.2.1.length pC) = w9 at *
  refine ⟨rfl, .tuple #[.agg #[.int .i64 r.1.1, .int .i64 r.1.2, .slice pA r.2.1.length pC], .int .i64 (r.2.2 : Int)], ?_, ?_⟩
  · simp [results, Tryd.results6, go_sem, e0, e1, e2]
  · obtain ⟨pv, q1, q2, q3⟩ := e3
    exact ⟨pv, q1, q2.drew, q3.below (below_drew _)⟩

theorem prun_c (l : List Lf) (lA : Option Addr) (lC : Nat) (ip : List Int) (iv : Value) (fu : Nat) (hf6 : fu ≤ 1000000) (w : World) (ht : Tab w) (hl : LfsIn w l (.slice lA l.length lC)) (hi : InpIn w ip iv) :
    Calls Tryd.prog 6 #[.slice lA l.length lC, iv, .int .i64 (fu : Int)] w fun e w' => RunR w (runE l ip fu) e w' := by
  unfold runE
  by_cases hc : chk l = true
  · rw [if_pos hc]
    exact run_yes l lA lC ip iv fu hf6 w ht hl hi hc
  · rw [if_neg hc]
    exact run_no l lA lC iv fu w hl hc
end Go.Proofs.YtapgaclonilnbaaDoor
