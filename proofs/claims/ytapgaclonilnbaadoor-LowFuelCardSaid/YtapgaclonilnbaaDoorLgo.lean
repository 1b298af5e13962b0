/-
  Proved: what goOn does: one step, a block's end or an instruction; without fuel the run ends.
-/
import Derived.Test.YtapgaclonilnbaaDoorLinh
namespace Go.Proofs.YtapgaclonilnbaaDoor
open Go.RowKit
set_option linter.unusedVariables false
set_option linter.unusedSimpArgs false

section
variable {X : Cx} {m : Mc} {st : Int} {L : Ly} {w w' : World}

set_option maxRecDepth 20000 in
set_option maxHeartbeats 2000000 in
theorem goOn_fuel (h : MS X m st L w) (hst : X.fu ≤ st) :
    Calls Tryd.prog 19 #[.pointer (some ⟨X.R, 0, none⟩)] w fun e w' => e = .panicked [{ v := endV 0 0, recovered := false }] ∧ MS X m st L w' := by
  have c3 : w.cell? ⟨X.R, 3, none⟩ = some (.int .i64 X.fu) := h.rr.cell 3 (by omega)
  have c4 : w.cell? ⟨X.R, 4, none⟩ = some (.int .i64 st) := h.rr.cell 4 (by omega)
  have HM : Hid (∀ w', Below w.heap.size w w' → MS X m st L w') := fun w' hb => h.below hb
  have HT := fun w => stop_c 0 0 w
  clear h
  go_enter Tryd.func19, Tryd.ntmps19
  go_wp2
  go_quiet (fail)
  go_wp2_with (go_at_call 17; refine (HT _).mono ?_; rintro e w3 ⟨rfl, hw⟩; rw [hw]; clear hw w3)
  exact ⟨rfl, rfl, HM.out _ (below_drewN _ _)⟩

theorem MS.next (h : MS X m st L w) : MS X { m with nw := { m.nw with nx := m.nw.nx + 1 } } st L (w.setCell ⟨L.pb m.bl.length, 5, none⟩ (.int .i64 ((m.nw.nx : Int) + 1))) := by
  have hr := (h.ro.s _ (Nat.lt_succ_self m.bl.length)).1
  refine h.stand m.nw.bk (m.nw.nx + 1) (Kp.set (F := fun c => L.ro c = 10 + 3 * m.bl.length) w 5 _ hr) ((GZ.set h.now.s 5 (by omega) _).ext fun i hi => ?_)
  unfold pu
  rcases i with _ | _ | _ | _ | _ | _ | i
  · rfl
  · rfl
  · rfl
  · rfl
  · rfl
  · show Value.int .i64 ((m.nw.nx : Int) + 1) = Value.int .i64 ((m.nw.nx + 1 : Nat) : Int)
    rw [Int.natCast_add]; rfl
  · omega

set_option maxRecDepth 20000 in
set_option maxHeartbeats 4000000 in
theorem goOn_T_ok (h : MS X m st L w) (hst : ¬ X.fu ≤ st) (hfu : X.fu ≤ 1000000) (hs0 : 0 ≤ st) (hk : m.nw.fn < X.l.length) (hb : m.nw.bk < X.l[m.nw.fn].bs.length) (hbs : X.l[m.nw.fn].bs.length ≤ 281474976710656) (fb fo : Nat) (pv : Value) (BC bb bo : Nat) (lA : Option Addr) (lC : Nat) (tv : Value) (g1 : fpV X m.nw.fn = .pointer (some ⟨fb, fo, none⟩)) (g2 : RowAt X.wz fb fo (lfC X.l[m.nw.fn] pv (.slice (some ⟨bb, bo, none⟩) X.l[m.nw.fn].bs.length BC)))
    (g3 : RowAt X.wz bb (bo + m.nw.bk * 8) (.slice lA X.l[m.nw.fn].bs[m.nw.bk].li.length lC :: leC X.l[m.nw.fn].bs[m.nw.bk].tm tv)) (hnx : m.nw.nx = X.l[m.nw.fn].bs[m.nw.bk].li.length) (K : World → Prop) (TC : ∀ w', MS X m (st + 1) L w' → Calls Tryd.prog 26 #[.pointer (some ⟨X.R, 0, none⟩), .pointer (some ⟨bb, bo + m.nw.bk * 8 + 1, none⟩)] w' fun e w2 => e = .returned (.tuple #[]) ∧ K w2) :
    Calls Tryd.prog 19 #[.pointer (some ⟨X.R, 0, none⟩)] w fun e w' => e = .returned (.tuple #[]) ∧ K w' := by
  have c3 : w.cell? ⟨X.R, 3, none⟩ = some (.int .i64 X.fu) := h.rr.cell 3 (by omega)
  have c4 : w.cell? ⟨X.R, 4, none⟩ = some (.int .i64 st) := h.rr.cell 4 (by omega)
  have f4 : w.frozen? ⟨X.R, 4, none⟩ = false := h.rr.frozen 4
  obtain ⟨pn, hpn⟩ : ∃ pn, pn = L.pb m.bl.length := ⟨_, rfl⟩
  have PN : Hid (pn = L.pb m.bl.length) := hpn
  have H1 : Hid (∀ q, MS X m (st + 1) L ((w.drewN q).setCell ⟨X.R, 4, none⟩ (.int .i64 (st + 1)))) := fun q => (h.below (below_drewN w q)).steps (st + 1)
  have HC : Hid (∀ w', MS X m (st + 1) L w' → w'.cell? ⟨X.R, 7, none⟩ = some (.pointer (some ⟨pn, 0, none⟩)) ∧ w'.cell? ⟨pn, 0, none⟩ = some (.pointer (some ⟨fb, fo, none⟩)) ∧ w'.cell? ⟨pn, 4, none⟩ = some (.int .i64 (m.nw.bk : Int)) ∧ w'.cell? ⟨pn, 5, none⟩ = some (.int .i64 (m.nw.nx : Int)) ∧ w'.frozen? ⟨pn, 5, none⟩ = false ∧ w'.cell? ⟨fb, fo + 6, none⟩ = some (.slice (some ⟨bb, bo, none⟩) X.l[m.nw.fn].bs.length BC) ∧ w'.cell? ⟨bb, bo + m.nw.bk * 8, none⟩ = some (.slice lA X.l[m.nw.fn].bs[m.nw.bk].li.length lC)) := fun w' hw => by
    rw [hpn]
    exact ⟨hw.rr.cell 7 (by omega), by rw [← g1]; exact hw.now.s.cell 0 (by omega), hw.now.s.cell 4 (by omega), hw.now.s.cell 5 (by omega), hw.now.s.frozen 5, (hw.bz.cell (p := ⟨fb, fo + 6, none⟩) g2.1).trans (g2.at 6 rfl), (hw.bz.cell (p := ⟨bb, bo + m.nw.bk * 8 + 0, none⟩) g3.1).trans (g3.at 0 rfl)⟩
  have hbz : (m.nw.bk : Int) < X.l[m.nw.fn].bs.length := by omega
  have hw1 : IntKind.i64.wrap (st + 1) = st + 1 := wrap_in _ ⟨by omega, by omega⟩
  have TC : Hid (∀ w', MS X m (st + 1) L w' → Calls Tryd.prog 26 #[.pointer (some ⟨X.R, 0, none⟩), .pointer (some ⟨bb, bo + m.nw.bk * 8 + 1, none⟩)] w' fun e w2 => e = .returned (.tuple #[]) ∧ K w2) := TC
  rw [← hnx] at HC
  clear h g1 g2 g3 hpn

  go_enter Tryd.func19, Tryd.ntmps19
  go_wp2
  go_quiet (fail)
  go_wp2
  have M1 : Hid (MS X m (st + 1) L ((w.drewN nq).setCell ⟨X.R, 4, none⟩ (.int .i64 (st + 1)))) := H1.out _
  clear c3 c4 f4 H1
  generalize (w.drewN nq).setCell ⟨X.R, 4, none⟩ (.int .i64 (st + 1)) = w1 at *
  obtain ⟨k7, k0, k4, k5, kf, k6, k8⟩ := HC.out w1 M1.out
  go_quiet (fail)
  go_wp2
  generalize nq = nqa at *
  go_quiet (fail)
  have M2 : Hid (∀ q, MS X m (st + 1) L (w1.drewN q)) := fun q => M1.out.below (below_drewN _ _)
  go_wp2_with (go_at_call 26; refine (TC.out _ (by first | exact M2.out _ | exact M1.out)).mono ?_; rintro e w3 ⟨rfl, hk3⟩)
  refine bodyPost_ret (results_none rfl _ _ _) rfl ?_
  exact ⟨rfl, hk3⟩

set_option maxRecDepth 20000 in
set_option maxHeartbeats 4000000 in
theorem goOn_T_no (h : MS X m st L w) (hst : ¬ X.fu ≤ st) (hfu : X.fu ≤ 1000000) (hs0 : 0 ≤ st) (hk : m.nw.fn < X.l.length) (hb : m.nw.bk < X.l[m.nw.fn].bs.length) (hbs : X.l[m.nw.fn].bs.length ≤ 281474976710656) (fb fo : Nat) (pv : Value) (BC bb bo : Nat) (lA : Option Addr) (lC : Nat) (tv : Value) (g1 : fpV X m.nw.fn = .pointer (some ⟨fb, fo, none⟩)) (g2 : RowAt X.wz fb fo (lfC X.l[m.nw.fn] pv (.slice (some ⟨bb, bo, none⟩) X.l[m.nw.fn].bs.length BC)))
    (g3 : RowAt X.wz bb (bo + m.nw.bk * 8) (.slice lA X.l[m.nw.fn].bs[m.nw.bk].li.length lC :: leC X.l[m.nw.fn].bs[m.nw.bk].tm tv)) (hnx : m.nw.nx = X.l[m.nw.fn].bs[m.nw.bk].li.length) (K : World → Prop) (p : List PanicEntry) (TC : ∀ w', MS X m (st + 1) L w' → Calls Tryd.prog 26 #[.pointer (some ⟨X.R, 0, none⟩), .pointer (some ⟨bb, bo + m.nw.bk * 8 + 1, none⟩)] w' fun e w2 => e = .panicked p ∧ K w2) :
    Calls Tryd.prog 19 #[.pointer (some ⟨X.R, 0, none⟩)] w fun e w' => e = .panicked p ∧ K w' := by
  have c3 : w.cell? ⟨X.R, 3, none⟩ = some (.int .i64 X.fu) := h.rr.cell 3 (by omega)
  have c4 : w.cell? ⟨X.R, 4, none⟩ = some (.int .i64 st) := h.rr.cell 4 (by omega)
  have f4 : w.frozen? ⟨X.R, 4, none⟩ = false := h.rr.frozen 4
  obtain ⟨pn, hpn⟩ : ∃ pn, pn = L.pb m.bl.length := ⟨_, rfl⟩
  have PN : Hid (pn = L.pb m.bl.length) := hpn
  have H1 : Hid (∀ q, MS X m (st + 1) L ((w.drewN q).setCell ⟨X.R, 4, none⟩ (.int .i64 (st + 1)))) := fun q => (h.below (below_drewN w q)).steps (st + 1)
  have HC : Hid (∀ w', MS X m (st + 1) L w' → w'.cell? ⟨X.R, 7, none⟩ = some (.pointer (some ⟨pn, 0, none⟩)) ∧ w'.cell? ⟨pn, 0, none⟩ = some (.pointer (some ⟨fb, fo, none⟩)) ∧ w'.cell? ⟨pn, 4, none⟩ = some (.int .i64 (m.nw.bk : Int)) ∧ w'.cell? ⟨pn, 5, none⟩ = some (.int .i64 (m.nw.nx : Int)) ∧ w'.frozen? ⟨pn, 5, none⟩ = false ∧ w'.cell? ⟨fb, fo + 6, none⟩ = some (.slice (some ⟨bb, bo, none⟩) X.l[m.nw.fn].bs.length BC) ∧ w'.cell? ⟨bb, bo + m.nw.bk * 8, none⟩ = some (.slice lA X.l[m.nw.fn].bs[m.nw.bk].li.length lC)) := fun w' hw => by
    rw [hpn]
    exact ⟨hw.rr.cell 7 (by omega), by rw [← g1]; exact hw.now.s.cell 0 (by omega), hw.now.s.cell 4 (by omega), hw.now.s.cell 5 (by omega), hw.now.s.frozen 5, (hw.bz.cell (p := ⟨fb, fo + 6, none⟩) g2.1).trans (g2.at 6 rfl), (hw.bz.cell (p := ⟨bb, bo + m.nw.bk * 8 + 0, none⟩) g3.1).trans (g3.at 0 rfl)⟩
  have hbz : (m.nw.bk : Int) < X.l[m.nw.fn].bs.length := by omega
  have hw1 : IntKind.i64.wrap (st + 1) = st + 1 := wrap_in _ ⟨by omega, by omega⟩
  have TC : Hid (∀ w', MS X m (st + 1) L w' → Calls Tryd.prog 26 #[.pointer (some ⟨X.R, 0, none⟩), .pointer (some ⟨bb, bo + m.nw.bk * 8 + 1, none⟩)] w' fun e w2 => e = .panicked p ∧ K w2) := TC
  rw [← hnx] at HC
  clear h g1 g2 g3 hpn

  go_enter Tryd.func19, Tryd.ntmps19
  go_wp2
  go_quiet (fail)
  go_wp2
  have M1 : Hid (MS X m (st + 1) L ((w.drewN nq).setCell ⟨X.R, 4, none⟩ (.int .i64 (st + 1)))) := H1.out _
  clear c3 c4 f4 H1
  generalize (w.drewN nq).setCell ⟨X.R, 4, none⟩ (.int .i64 (st + 1)) = w1 at *
  obtain ⟨k7, k0, k4, k5, kf, k6, k8⟩ := HC.out w1 M1.out
  go_quiet (fail)
  go_wp2
  generalize nq = nqa at *
  go_quiet (fail)
  have M2 : Hid (∀ q, MS X m (st + 1) L (w1.drewN q)) := fun q => M1.out.below (below_drewN _ _)
  go_wp2_with (go_at_call 26; refine (TC.out _ (by first | exact M2.out _ | exact M1.out)).mono ?_; rintro e w3 ⟨rfl, hk3⟩)
  exact ⟨rfl, rfl, hk3⟩
end
end Go.Proofs.YtapgaclonilnbaaDoor
