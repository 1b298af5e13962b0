/-
  Proved: what place answers: the document's first error, or where all lines stand.
-/
import Derived.Test.YtcdeckbobabdkaaAlong
import Derived.Test.YtcdeckbobabdkaaAleg
import Derived.Test.YtcdeckbobabdkaaAform
import Derived.Test.YtcdeckbobabdkaaIdec
namespace Go.Proofs.Ytcdeckbobabdkaa
open Go.RowKit
set_option linter.unusedVariables false
set_option linter.unusedSimpArgs false
set_option maxRecDepth 20000

/-- How many bytes all have, grown, fit. -/
def fitsP (l : List Ln) : Prop := ∃ L, Lst l L ∧ atP l L l.length ≤ 65536
/-- The error. -/
noncomputable def errP (l : List Ln) : Int :=
  @ite _ (frmB l = true) (Classical.propDecidable _) (@ite _ (labOk l) (Classical.propDecidable _) (@ite _ (l.all leg = true) (Classical.propDecidable _) (@ite _ (fitsP l) (Classical.propDecidable _) 0 72) 70) 71) 10
theorem errP_10 {l : List Ln} (h : ¬ frmB l = true) : errP l = 10 := by unfold errP; rw [if_neg h]
theorem errP_71 {l : List Ln} (h : frmB l = true) (h2 : ¬ labOk l) : errP l = 71 := by unfold errP; rw [if_pos h, if_neg h2]
theorem errP_70 {l : List Ln} (h : frmB l = true) (h2 : labOk l) (h3 : ¬ l.all leg = true) : errP l = 70 := by unfold errP; rw [if_pos h, if_pos h2, if_neg h3]
theorem errP_72 {l : List Ln} (h : frmB l = true) (h2 : labOk l) (h3 : l.all leg = true) (h4 : ¬ fitsP l) : errP l = 72 := by unfold errP; rw [if_pos h, if_pos h2, if_pos h3, if_neg h4]
theorem errP_0 {l : List Ln} (h : frmB l = true) (h2 : labOk l) (h3 : l.all leg = true) (h4 : fitsP l) : errP l = 0 := by unfold errP; rw [if_pos h, if_pos h2, if_pos h3, if_pos h4]
theorem errP_cases (l : List Ln) : (errP l = 10 ∧ ¬ frmB l = true) ∨ (errP l = 71 ∧ frmB l = true ∧ ¬ labOk l) ∨ (errP l = 70 ∧ frmB l = true ∧ labOk l ∧ ¬ l.all leg = true) ∨ (errP l = 72 ∧ frmB l = true ∧ labOk l ∧ l.all leg = true ∧ ¬ fitsP l) ∨ (errP l = 0 ∧ frmB l = true ∧ labOk l ∧ l.all leg = true ∧ fitsP l) := by
  by_cases h : frmB l = true
  · by_cases h2 : labOk l
    · by_cases h3 : l.all leg = true
      · by_cases h4 : fitsP l
        · exact Or.inr (Or.inr (Or.inr (Or.inr ⟨errP_0 h h2 h3 h4, h, h2, h3, h4⟩)))
        · exact Or.inr (Or.inr (Or.inr (Or.inl ⟨errP_72 h h2 h3 h4, h, h2, h3, h4⟩)))
      · exact Or.inr (Or.inr (Or.inl ⟨errP_70 h h2 h3, h, h2, h3⟩))
    · exact Or.inr (Or.inl ⟨errP_71 h h2, h, h2⟩)
  · exact Or.inl ⟨errP_10 h, h⟩
/-- The longs tell whether it fits. -/
theorem fits_of {l : List Ln} {L : Nat → Bool} (hL : Low l L) (h : Clo l L ∨ 65536 < atP l L l.length) : (¬ fitsP l ∧ 65536 < atP l L l.length) ∨ (fitsP l ∧ Lst l L ∧ atP l L l.length ≤ 65536) := by
  by_cases hs : 65536 < atP l L l.length
  · refine Or.inl ⟨fun ⟨M, h1, h2⟩ => ?_, hs⟩
    have := hL.size h1.2 l.length
    omega
  · have hc := h.resolve_right hs
    exact Or.inr ⟨⟨L, ⟨hL, hc⟩, by omega⟩, ⟨hL, hc⟩, by omega⟩

theorem sizeP : (Try.prog.info? 42).map (·.size) = some 2 := by kernel_rfl

/-- What place tells. -/
def PlcR (l : List Ln) (B : Nat) (pv : Value) (w' : World) : Prop :=
  (errP l ≠ 0 ∧ pv = .agg #[.map none, .slice none 0 0]) ∨
  (errP l = 0 ∧ ∃ mb ab L, pv = .agg #[.map (some mb), .slice (some ⟨ab, 0, none⟩) (l.length + 1) (l.length + 1)] ∧ MapL w' mb 1000 (lbF l) ∧ IZ w' ab (l.length + 1) (atP l L) ∧ Lst l L ∧ atP l L l.length ≤ 65536 ∧ B ≤ ab ∧ B ≤ mb)

set_option maxHeartbeats 4000000 in
theorem place_c (l : List Ln) (v : Value) (w : World) (h : LsIn w l v) (hl : l.length ≤ 1000) (hok : ∀ y ∈ l, LOk y) :
    Calls Try.prog 10 #[v] w fun e w' => ∃ pv, e = .returned (.tuple #[pv, .int .i64 (errP l)]) ∧ PlcR l w.heap.size pv w' ∧ Below w.heap.size w w' := by
  obtain ⟨A, C, rfl, hr⟩ := h
  have LV : Hid (LsIn w l (.slice A l.length C)) := ⟨A, C, rfl, hr⟩
  have OK : Hid (∀ y ∈ l, LOk y) := hok
  clear hr hok
  have b1 : Hid (Below w.heap.size w (w.alloc (.cells #[.map none, .slice none 0 0] 42))) := below_alloc _ _
  have a1 : Hid (At (w.alloc (.cells #[.map none, .slice none 0 0] 42)) w.heap.size #[.map none, .slice none 0 0] 42) := At.new _ _ _
  have z1 : Hid (w.heap.size + 1 = (w.alloc (.cells #[.map none, .slice none 0 0] 42)).heap.size) := (show _ = _ by simp)
  rcases errP_cases l with ⟨he, h1⟩ | ⟨he, h1, h2⟩ | ⟨he, h1, h2, h3⟩ | ⟨he, h1, h2, h3, h4⟩ | ⟨he, h1, h2, h3, h4⟩
  · have FC : Hid (∀ w', Below w.heap.size w w' → Calls Try.prog 16 #[.slice A l.length C] w' fun e w'' => e = .returned (.bool false) ∧ Below w'.heap.size w' w'') := fun w' hb => by
      have := areFormed_c l _ w' (LV.out.below hb) hl
      rw [Bool.not_eq_true] at h1
      rw [h1] at this
      exact this
    have PR : Hid (∀ w', PlcR l w.heap.size (.agg #[.map none, .slice none 0 0]) w') := fun w' => Or.inl ⟨by rw [he]; decide, rfl⟩
    rw [he]
    clear he h1
    go_enter Try.func10, Try.ntmps10
    go_wp2_with (first | (go_at_call 16; refine (FC.out _ b1.out).mono ?_; rintro e w2 ⟨rfl, hb⟩; have B2 : Hid (Below w.heap.size w w2) := b1.out.trans (hb.mono b1.out.size); have A2 : Hid (At w2 w.heap.size #[.map none, .slice none 0 0] 42) := a1.out.below hb a1.out.lt; have c0 : w2.cell? ⟨w.heap.size, 0, none⟩ = some (.map none) := A2.out.cell 0; have c1 : w2.cell? ⟨w.heap.size, 1, none⟩ = some (.slice none 0 0) := A2.out.cell 1; have f0 := A2.out.frozen 0; have f1 := A2.out.frozen 1; clear hb))
    refine bodyPost_ret (res2 rfl _ _ w.heap.size 42 #[.map none, .slice none 0 0] (0, 0) _ rfl (At.set (j := 1) (At.set (j := 0) A2.out _) _) Try.underlying42 rfl sizeP) rfl ?_
    exact ⟨_, rfl, PR.out _, B2.out.trans (Kp.below ((Kp.set (F := fun c => c = w.heap.size) _ (b := w.heap.size) 0 _ rfl).trans (Kp.set (F := fun c => c = w.heap.size) _ (b := w.heap.size) 1 _ rfl)) B2.out.size fun b hb => by omega)⟩
  · have FC : Hid (∀ w', Below w.heap.size w w' → Calls Try.prog 16 #[.slice A l.length C] w' fun e w'' => e = .returned (.bool true) ∧ Below w'.heap.size w' w'') := fun w' hb => by
      have := areFormed_c l _ w' (LV.out.below hb) hl
      rw [h1] at this
      exact this
    have LC : Hid (∀ w', Below w.heap.size w w' → Calls Try.prog 17 #[.slice A l.length C] w' fun e w'' => e = .returned (.tuple #[.map none, .bool false]) ∧ Below w'.heap.size w' w'') := fun w' hb => (labelsOf_c l _ w' (LV.out.below hb) hl OK.out).mono fun e w'' h => ⟨(h.1.resolve_left fun q => h2 q.1).2, h.2⟩
    have PR : Hid (∀ w', PlcR l w.heap.size (.agg #[.map none, .slice none 0 0]) w') := fun w' => Or.inl ⟨by rw [he]; decide, rfl⟩
    rw [he]
    clear he h1 h2
    go_enter Try.func10, Try.ntmps10
    go_wp2_with (first | (go_at_call 16; refine (FC.out _ b1.out).mono ?_; rintro e w2 ⟨rfl, hb⟩; have B2 : Hid (Below w.heap.size w w2) := b1.out.trans (hb.mono b1.out.size); have A2 : Hid (At w2 w.heap.size #[.map none, .slice none 0 0] 42) := a1.out.below hb a1.out.lt; clear hb) | (go_at_call 17; refine (LC.out _ B2.out).mono ?_; rintro e w3 ⟨rfl, hb⟩; have B3 : Hid (Below w.heap.size w w3) := B2.out.trans (hb.mono B2.out.size); have A3 : Hid (At w3 w.heap.size #[.map none, .slice none 0 0] 42) := A2.out.below hb A2.out.lt; have c0 : w3.cell? ⟨w.heap.size, 0, none⟩ = some (.map none) := A3.out.cell 0; have c1 : w3.cell? ⟨w.heap.size, 1, none⟩ = some (.slice none 0 0) := A3.out.cell 1; have f0 := A3.out.frozen 0; have f1 := A3.out.frozen 1; clear hb))
    refine bodyPost_ret (res2 rfl _ _ w.heap.size 42 #[.map none, .slice none 0 0] (0, 0) _ rfl (At.set (j := 1) (At.set (j := 0) A3.out _) _) Try.underlying42 rfl sizeP) rfl ?_
    exact ⟨_, rfl, PR.out _, B3.out.trans (Kp.below ((Kp.set (F := fun c => c = w.heap.size) _ (b := w.heap.size) 0 _ rfl).trans (Kp.set (F := fun c => c = w.heap.size) _ (b := w.heap.size) 1 _ rfl)) B3.out.size fun b hb => by omega)⟩
  · have FC : Hid (∀ w', Below w.heap.size w w' → Calls Try.prog 16 #[.slice A l.length C] w' fun e w'' => e = .returned (.bool true) ∧ Below w'.heap.size w' w'') := fun w' hb => by
      have := areFormed_c l _ w' (LV.out.below hb) hl
      rw [h1] at this
      exact this
    have LC : Hid (∀ w', Below w.heap.size w w' → Calls Try.prog 17 #[.slice A l.length C] w' fun e w'' => ∃ b, e = .returned (.tuple #[.map (some b), .bool true]) ∧ w'.heap.size ≤ b ∧ MapL w'' b 1000 (lbF l) ∧ Below w'.heap.size w' w'') := fun w' hb => (labelsOf_c l _ w' (LV.out.below hb) hl OK.out).mono fun e w'' h => by
      obtain ⟨_, b, q1, q2, q3⟩ := h.1.resolve_right fun q => q.1 h2
      exact ⟨b, q1, q2, q3, h.2⟩
    have GC : Hid (∀ w', Below w.heap.size w w' → Calls Try.prog 18 #[.slice A l.length C] w' fun e w'' => e = .returned (.bool false) ∧ Below w'.heap.size w' w'') := fun w' hb => by
      have := areLegal_c l _ w' (LV.out.below hb) hl OK.out
      rw [Bool.not_eq_true] at h3
      rw [h3] at this
      exact this
    have PR : Hid (∀ w', PlcR l w.heap.size (.agg #[.map none, .slice none 0 0]) w') := fun w' => Or.inl ⟨by rw [he]; decide, rfl⟩
    rw [he]
    clear he h1 h2 h3
    go_enter Try.func10, Try.ntmps10
    go_wp2_with (first | (go_at_call 16; refine (FC.out _ b1.out).mono ?_; rintro e w2 ⟨rfl, hb⟩; have B2 : Hid (Below w.heap.size w w2) := b1.out.trans (hb.mono b1.out.size); have A2 : Hid (At w2 w.heap.size #[.map none, .slice none 0 0] 42) := a1.out.below hb a1.out.lt; clear hb) | (go_at_call 17; refine (LC.out _ B2.out).mono ?_; rintro e w3 ⟨mb, rfl, hmb, hM, hb⟩; have B3 : Hid (Below w.heap.size w w3) := B2.out.trans (hb.mono B2.out.size); have A3 : Hid (At w3 w.heap.size #[.map none, .slice none 0 0] 42) := A2.out.below hb A2.out.lt; have M3 : Hid (MapL w3 mb 1000 (lbF l)) := hM; have MG : Hid (w.heap.size + 1 ≤ mb) := (show _ ≤ _ by have := b1.out.size; have := A2.out.lt; omega); clear hb hM hmb) | (go_at_call 18; refine (GC.out _ B3.out).mono ?_; rintro e w4 ⟨rfl, hb⟩; have B4 : Hid (Below w.heap.size w w4) := B3.out.trans (hb.mono B3.out.size); have A4 : Hid (At w4 w.heap.size #[.map none, .slice none 0 0] 42) := A3.out.below hb A3.out.lt; have c0 : w4.cell? ⟨w.heap.size, 0, none⟩ = some (.map none) := A4.out.cell 0; have c1 : w4.cell? ⟨w.heap.size, 1, none⟩ = some (.slice none 0 0) := A4.out.cell 1; have f0 := A4.out.frozen 0; have f1 := A4.out.frozen 1; have M4 : Hid (MapL w4 mb 1000 (lbF l)) := M3.out.below hb; clear hb))
    refine bodyPost_ret (res2 rfl _ _ w.heap.size 42 #[.map none, .slice none 0 0] (0, 0) _ rfl (At.set (j := 1) (At.set (j := 0) A4.out _) _) Try.underlying42 rfl sizeP) rfl ?_
    exact ⟨_, rfl, PR.out _, B4.out.trans (Kp.below ((Kp.set (F := fun c => c = w.heap.size) _ (b := w.heap.size) 0 _ rfl).trans (Kp.set (F := fun c => c = w.heap.size) _ (b := w.heap.size) 1 _ rfl)) B4.out.size fun b hb => by omega)⟩
  · have FC : Hid (∀ w', Below w.heap.size w w' → Calls Try.prog 16 #[.slice A l.length C] w' fun e w'' => e = .returned (.bool true) ∧ Below w'.heap.size w' w'') := fun w' hb => by
      have := areFormed_c l _ w' (LV.out.below hb) hl
      rw [h1] at this
      exact this
    have LC : Hid (∀ w', Below w.heap.size w w' → Calls Try.prog 17 #[.slice A l.length C] w' fun e w'' => ∃ b, e = .returned (.tuple #[.map (some b), .bool true]) ∧ w'.heap.size ≤ b ∧ MapL w'' b 1000 (lbF l) ∧ Below w'.heap.size w' w'') := fun w' hb => (labelsOf_c l _ w' (LV.out.below hb) hl OK.out).mono fun e w'' h => by
      obtain ⟨_, b, q1, q2, q3⟩ := h.1.resolve_right fun q => q.1 h2
      exact ⟨b, q1, q2, q3, h.2⟩
    have GC : Hid (∀ w', Below w.heap.size w w' → Calls Try.prog 18 #[.slice A l.length C] w' fun e w'' => e = .returned (.bool true) ∧ Below w'.heap.size w' w'') := fun w' hb => by
      have := areLegal_c l _ w' (LV.out.below hb) hl OK.out
      rw [h3] at this
      exact this
    have SM := frm_sml h1
    have OC : Hid (∀ mb w', Below w.heap.size w w' → MapL w' mb 1000 (lbF l) → Calls Try.prog 20 #[.slice A l.length C, .map (some mb)] w' fun e w'' => ∃ rb L, e = .returned (.slice (some ⟨rb, 0, none⟩) l.length l.length) ∧ w'.heap.size ≤ rb ∧ BZ w'' rb l.length L ∧ Low l L ∧ (Clo l L ∨ 65536 < atP l L l.length) ∧ Below w'.heap.size w' w'') := fun mb w' hb hM => longOnes_c l _ mb w' (LV.out.below hb) hM hl SM OK.out
    have PC : Hid (∀ rb L w', Below w.heap.size w w' → BZ w' rb l.length L → Calls Try.prog 19 #[.slice A l.length C, .slice (some ⟨rb, 0, none⟩) l.length l.length] w' fun e w'' => ∃ ab, e = .returned (.slice (some ⟨ab, 0, none⟩) (l.length + 1) (l.length + 1)) ∧ w'.heap.size ≤ ab ∧ IZ w'' ab (l.length + 1) (atP l L) ∧ Below w'.heap.size w' w'') := fun rb L w' hb hB => placesOf_c l _ rb l.length L w' (LV.out.below hb) hB hl SM
    have FITS : Hid (∀ L, Low l L → (Clo l L ∨ 65536 < atP l L l.length) → 65536 < atP l L l.length) := fun L q1 q2 => ((fits_of q1 q2).resolve_right fun q => h4 q.1).2
    have PR : Hid (∀ w', PlcR l w.heap.size (.agg #[.map none, .slice none 0 0]) w') := fun w' => Or.inl ⟨by rw [he]; decide, rfl⟩
    rw [he]
    clear he h1 h2 h3 h4 SM
    go_enter Try.func10, Try.ntmps10
    go_wp2_with (first | (go_at_call 16; refine (FC.out _ b1.out).mono ?_; rintro e w2 ⟨rfl, hb⟩; have B2 : Hid (Below w.heap.size w w2) := b1.out.trans (hb.mono b1.out.size); have A2 : Hid (At w2 w.heap.size #[.map none, .slice none 0 0] 42) := a1.out.below hb a1.out.lt; clear hb) | (go_at_call 17; refine (LC.out _ B2.out).mono ?_; rintro e w3 ⟨mb, rfl, hmb, hM, hb⟩; have B3 : Hid (Below w.heap.size w w3) := B2.out.trans (hb.mono B2.out.size); have A3 : Hid (At w3 w.heap.size #[.map none, .slice none 0 0] 42) := A2.out.below hb A2.out.lt; have M3 : Hid (MapL w3 mb 1000 (lbF l)) := hM; have MG : Hid (w.heap.size + 1 ≤ mb) := (show _ ≤ _ by have := b1.out.size; have := A2.out.lt; omega); clear hb hM hmb) | (go_at_call 18; refine (GC.out _ B3.out).mono ?_; rintro e w4 ⟨rfl, hb⟩; have B4 : Hid (Below w.heap.size w w4) := B3.out.trans (hb.mono B3.out.size); have A4 : Hid (At w4 w.heap.size #[.map none, .slice none 0 0] 42) := A3.out.below hb A3.out.lt; have M4 : Hid (MapL w4 mb 1000 (lbF l)) := M3.out.below hb; clear hb) | (go_at_call 20; refine (OC.out mb _ B4.out M4.out).mono ?_; rintro e w5 ⟨rb, L, rfl, hrb, hbz, hlow, hclo, hb⟩; have B5 : Hid (Below w.heap.size w w5) := B4.out.trans (hb.mono B4.out.size); have A5 : Hid (At w5 w.heap.size #[.map none, .slice none 0 0] 42) := A4.out.below hb A4.out.lt; have M5 : Hid (MapL w5 mb 1000 (lbF l)) := M4.out.below hb; have Z5 : Hid (BZ w5 rb l.length L) := hbz; have FT : Hid (65536 < atP l L l.length) := (show _ from FITS.out L hlow hclo); clear hb hrb hbz hlow hclo) | (go_at_call 19; refine (PC.out rb L _ B5.out Z5.out).mono ?_; rintro e w6 ⟨ab, rfl, hab, hz, hb⟩; have B6 : Hid (Below w.heap.size w w6) := B5.out.trans (hb.mono B5.out.size); have A6 : Hid (At w6 w.heap.size #[.map none, .slice none 0 0] 42) := A5.out.below hb A5.out.lt; have c0 : w6.cell? ⟨w.heap.size, 0, none⟩ = some (.map none) := A6.out.cell 0; have c1 : w6.cell? ⟨w.heap.size, 1, none⟩ = some (.slice none 0 0) := A6.out.cell 1; have f0 := A6.out.frozen 0; have f1 := A6.out.frozen 1; have M6 : Hid (MapL w6 mb 1000 (lbF l)) := M5.out.below hb; have I6 : Hid (IZ w6 ab (l.length + 1) (atP l L)) := hz; have ABG : Hid (w.heap.size + 1 ≤ ab) := (show _ ≤ _ by have := A5.out.lt; omega); have cN : w6.cell? ⟨ab, l.length, none⟩ = some (.int .i64 (atP l L l.length)) := GZ.cell hz l.length (by omega); have hft := FT.out; clear hb hab hz))
    refine bodyPost_ret (res2 rfl _ _ w.heap.size 42 #[.map none, .slice none 0 0] (0, 0) _ rfl (At.set (j := 1) (At.set (j := 0) A6.out _) _) Try.underlying42 rfl sizeP) rfl ?_
    exact ⟨_, rfl, PR.out _, B6.out.trans (Kp.below ((Kp.set (F := fun c => c = w.heap.size) _ (b := w.heap.size) 0 _ rfl).trans (Kp.set (F := fun c => c = w.heap.size) _ (b := w.heap.size) 1 _ rfl)) B6.out.size fun b hb => by omega)⟩
  · have FC : Hid (∀ w', Below w.heap.size w w' → Calls Try.prog 16 #[.slice A l.length C] w' fun e w'' => e = .returned (.bool true) ∧ Below w'.heap.size w' w'') := fun w' hb => by
      have := areFormed_c l _ w' (LV.out.below hb) hl
      rw [h1] at this
      exact this
    have LC : Hid (∀ w', Below w.heap.size w w' → Calls Try.prog 17 #[.slice A l.length C] w' fun e w'' => ∃ b, e = .returned (.tuple #[.map (some b), .bool true]) ∧ w'.heap.size ≤ b ∧ MapL w'' b 1000 (lbF l) ∧ Below w'.heap.size w' w'') := fun w' hb => (labelsOf_c l _ w' (LV.out.below hb) hl OK.out).mono fun e w'' h => by
      obtain ⟨_, b, q1, q2, q3⟩ := h.1.resolve_right fun q => q.1 h2
      exact ⟨b, q1, q2, q3, h.2⟩
    have GC : Hid (∀ w', Below w.heap.size w w' → Calls Try.prog 18 #[.slice A l.length C] w' fun e w'' => e = .returned (.bool true) ∧ Below w'.heap.size w' w'') := fun w' hb => by
      have := areLegal_c l _ w' (LV.out.below hb) hl OK.out
      rw [h3] at this
      exact this
    have SM := frm_sml h1
    have OC : Hid (∀ mb w', Below w.heap.size w w' → MapL w' mb 1000 (lbF l) → Calls Try.prog 20 #[.slice A l.length C, .map (some mb)] w' fun e w'' => ∃ rb L, e = .returned (.slice (some ⟨rb, 0, none⟩) l.length l.length) ∧ w'.heap.size ≤ rb ∧ BZ w'' rb l.length L ∧ Low l L ∧ (Clo l L ∨ 65536 < atP l L l.length) ∧ Below w'.heap.size w' w'') := fun mb w' hb hM => longOnes_c l _ mb w' (LV.out.below hb) hM hl SM OK.out
    have PC : Hid (∀ rb L w', Below w.heap.size w w' → BZ w' rb l.length L → Calls Try.prog 19 #[.slice A l.length C, .slice (some ⟨rb, 0, none⟩) l.length l.length] w' fun e w'' => ∃ ab, e = .returned (.slice (some ⟨ab, 0, none⟩) (l.length + 1) (l.length + 1)) ∧ w'.heap.size ≤ ab ∧ IZ w'' ab (l.length + 1) (atP l L) ∧ Below w'.heap.size w' w'') := fun rb L w' hb hB => placesOf_c l _ rb l.length L w' (LV.out.below hb) hB hl SM
    have FITS : Hid (∀ L, Low l L → (Clo l L ∨ 65536 < atP l L l.length) → Lst l L ∧ atP l L l.length ≤ 65536) := fun L q1 q2 => ((fits_of q1 q2).resolve_left fun q => q.1 h4).2
    have HE : Hid (errP l = 0) := he
    rw [he]
    clear he h1 h2 h3 h4 SM
    go_enter Try.func10, Try.ntmps10
    go_wp2_with (first | (go_at_call 16; refine (FC.out _ b1.out).mono ?_; rintro e w2 ⟨rfl, hb⟩; have B2 : Hid (Below w.heap.size w w2) := b1.out.trans (hb.mono b1.out.size); have A2 : Hid (At w2 w.heap.size #[.map none, .slice none 0 0] 42) := a1.out.below hb a1.out.lt; clear hb) | (go_at_call 17; refine (LC.out _ B2.out).mono ?_; rintro e w3 ⟨mb, rfl, hmb, hM, hb⟩; have B3 : Hid (Below w.heap.size w w3) := B2.out.trans (hb.mono B2.out.size); have A3 : Hid (At w3 w.heap.size #[.map none, .slice none 0 0] 42) := A2.out.below hb A2.out.lt; have M3 : Hid (MapL w3 mb 1000 (lbF l)) := hM; have MG : Hid (w.heap.size + 1 ≤ mb) := (show _ ≤ _ by have := b1.out.size; have := A2.out.lt; omega); clear hb hM hmb) | (go_at_call 18; refine (GC.out _ B3.out).mono ?_; rintro e w4 ⟨rfl, hb⟩; have B4 : Hid (Below w.heap.size w w4) := B3.out.trans (hb.mono B3.out.size); have A4 : Hid (At w4 w.heap.size #[.map none, .slice none 0 0] 42) := A3.out.below hb A3.out.lt; have M4 : Hid (MapL w4 mb 1000 (lbF l)) := M3.out.below hb; clear hb) | (go_at_call 20; refine (OC.out mb _ B4.out M4.out).mono ?_; rintro e w5 ⟨rb, L, rfl, hrb, hbz, hlow, hclo, hb⟩; have B5 : Hid (Below w.heap.size w w5) := B4.out.trans (hb.mono B4.out.size); have A5 : Hid (At w5 w.heap.size #[.map none, .slice none 0 0] 42) := A4.out.below hb A4.out.lt; have M5 : Hid (MapL w5 mb 1000 (lbF l)) := M4.out.below hb; have Z5 : Hid (BZ w5 rb l.length L) := hbz; have FT : Hid (Lst l L ∧ atP l L l.length ≤ 65536) := (show _ from FITS.out L hlow hclo); clear hb hrb hbz hlow hclo) | (go_at_call 19; refine (PC.out rb L _ B5.out Z5.out).mono ?_; rintro e w6 ⟨ab, rfl, hab, hz, hb⟩; have B6 : Hid (Below w.heap.size w w6) := B5.out.trans (hb.mono B5.out.size); have A6 : Hid (At w6 w.heap.size #[.map none, .slice none 0 0] 42) := A5.out.below hb A5.out.lt; have c0 : w6.cell? ⟨w.heap.size, 0, none⟩ = some (.map none) := A6.out.cell 0; have c1 : w6.cell? ⟨w.heap.size, 1, none⟩ = some (.slice none 0 0) := A6.out.cell 1; have f0 := A6.out.frozen 0; have f1 := A6.out.frozen 1; have M6 : Hid (MapL w6 mb 1000 (lbF l)) := M5.out.below hb; have I6 : Hid (IZ w6 ab (l.length + 1) (atP l L)) := hz; have ABG : Hid (w.heap.size + 1 ≤ ab) := (show _ ≤ _ by have := A5.out.lt; omega); have cN : w6.cell? ⟨ab, l.length, none⟩ = some (.int .i64 (atP l L l.length)) := GZ.cell hz l.length (by omega); have hft := FT.out; clear hb hab hz))
    refine bodyPost_ret (res2 rfl _ _ w.heap.size 42 #[.map (some mb), .slice (some ⟨ab, 0, none⟩) (l.length + 1) (l.length + 1)] (0, 0) _ rfl (At.set (j := 1) (At.set (j := 0) A6.out _) _) Try.underlying42 rfl sizeP) rfl ?_
    have K6 := (Kp.set (F := fun c => c = w.heap.size) w6 (b := w.heap.size) 0 (.map (some mb)) rfl).trans (Kp.set (F := fun c => c = w.heap.size) _ (b := w.heap.size) 1 (.slice (some ⟨ab, 0, none⟩) (l.length + 1) (l.length + 1)) rfl)
    exact ⟨_, rfl, Or.inr ⟨HE.out, mb, ab, L, rfl, M6.out.stay (K6.2 mb M6.out.lt (by have := MG.out; omega)), GZ.kp I6.out K6 (by have := ABG.out; omega), FT.out.1, FT.out.2, by have := ABG.out; omega, by have := MG.out; omega⟩, B6.out.trans (Kp.below K6 B6.out.size fun b hb => by omega)⟩
end Go.Proofs.Ytcdeckbobabdkaa
