/-
  Proved: what goOn does: one step, a block's end or an instruction; without fuel the run ends.
-/
import Derived.Test.YtapgaclonilnbaaDoorGh
import Derived.Test.YtapgaclonilnbaaDoorGk
import Derived.Test.YtapgaclonilnbaaDoorGl
namespace Go.Proofs.YtapgaclonilnbaaDoor
open Go.RowKit
set_option linter.unusedVariables false
set_option linter.unusedSimpArgs false

section
variable {X : Cx} {m : Mc} {st : Int} {L : Ly} {w w' : World}

set_option maxRecDepth 20000 in
set_option maxHeartbeats 2000000 in
theorem goOn_fuel (h : MS X m st L w) (hst : X.fu ≤ st) :
    Calls Tryd.prog 19 #[.pointer (some ⟨X.R, 0, none⟩)] w fun e w' => e = .panicked [{ v := endV 0 0, recovered := false }] ∧ MS X m st L w' := by
  have c3 : w.cell? ⟨X.R, 3, none⟩ = some (.int .i64 X.fu) := h.rr.cell 3 (by omega)
  have c4 : w.cell? ⟨X.R, 4, none⟩ = some (.int .i64 st) := h.rr.cell 4 (by omega)
  have HM : Hid (∀ w', Below w.heap.size w w' → MS X m st L w') := fun w' hb => h.below hb
  have HT := fun w => stop_c 0 0 w
  clear h
  go_enter Tryd.func19, Tryd.ntmps19
  go_wp2
  go_quiet (fail)
  go_wp2_with (go_at_call 17; refine (HT _).mono ?_; rintro e w3 ⟨rfl, hw⟩; rw [hw]; clear hw w3)
  exact ⟨rfl, rfl, HM.out _ (below_drewN _ _)⟩

theorem MS.next (h : MS X m st L w) : MS X { m with nw := { m.nw with nx := m.nw.nx + 1 } } st L (w.setCell ⟨L.pb m.bl.length, 5, none⟩ (.int .i64 ((m.nw.nx : Int) + 1))) := by
  have hr := (h.ro.s _ (Nat.lt_succ_self m.bl.length)).1
  refine h.stand m.nw.bk (m.nw.nx + 1) (Kp.set (F := fun c => L.ro c = 10 + 3 * m.bl.length) w 5 _ hr) ((GZ.set h.now.s 5 (by omega) _).ext fun i hi => ?_)
  unfold pu
  rcases i with _ | _ | _ | _ | _ | _ | i
  · rfl
  · rfl
  · rfl
  · rfl
  · rfl
  · show Value.int .i64 ((m.nw.nx : Int) + 1) = Value.int .i64 ((m.nw.nx + 1 : Nat) : Int)
    rw [Int.natCast_add]; rfl
  · omega

set_option maxRecDepth 20000 in
set_option maxHeartbeats 4000000 in
theorem goOn_T_ok (h : MS X m st L w) (hst : ¬ X.fu ≤ st) (hfu : X.fu ≤ 1000000) (hs0 : 0 ≤ st) (hk : m.nw.fn < X.l.length) (hb : m.nw.bk < X.l[m.nw.fn].bs.length) (hbs : X.l[m.nw.fn].bs.length ≤ 281474976710656) (fb fo : Nat) (pv : Value) (BC bb bo : Nat) (lA : Option Addr) (lC : Nat) (tv : Value) (g1 : fpV X m.nw.fn = .pointer (some ⟨fb, fo, none⟩)) (g2 : RowAt X.wz fb fo (lfC X.l[m.nw.fn] pv (.slice (some ⟨bb, bo, none⟩) X.l[m.nw.fn].bs.length BC)))
    (g3 : RowAt X.wz bb (bo + m.nw.bk * 8) (.slice lA X.l[m.nw.fn].bs[m.nw.bk].li.length lC :: leC X.l[m.nw.fn].bs[m.nw.bk].tm tv)) (hnx : m.nw.nx = X.l[m.nw.fn].bs[m.nw.bk].li.length) (K : World → Prop) (TC : ∀ w', MS X m (st + 1) L w' → Calls Tryd.prog 26 #[.pointer (some ⟨X.R, 0, none⟩), .pointer (some ⟨bb, bo + m.nw.bk * 8 + 1, none⟩)] w' fun e w2 => e = .returned (.tuple #[]) ∧ K w2) :
    Calls Tryd.prog 19 #[.pointer (some ⟨X.R, 0, none⟩)] w fun e w' => e = .returned (.tuple #[]) ∧ K w' := by
  have c3 : w.cell? ⟨X.R, 3, none⟩ = some (.int .i64 X.fu) := h.rr.cell 3 (by omega)
  have c4 : w.cell? ⟨X.R, 4, none⟩ = some (.int .i64 st) := h.rr.cell 4 (by omega)
  have f4 : w.frozen? ⟨X.R, 4, none⟩ = false := h.rr.frozen 4
  obtain ⟨pn, hpn⟩ : ∃ pn, pn = L.pb m.bl.length := ⟨_, rfl⟩
  have PN : Hid (pn = L.pb m.bl.length) := hpn
  have H1 : Hid (∀ q, MS X m (st + 1) L ((w.drewN q).setCell ⟨X.R, 4, none⟩ (.int .i64 (st + 1)))) := fun q => (h.below (below_drewN w q)).steps (st + 1)
  have HC : Hid (∀ w', MS X m (st + 1) L w' → w'.cell? ⟨X.R, 7, none⟩ = some (.pointer (some ⟨pn, 0, none⟩)) ∧ w'.cell? ⟨pn, 0, none⟩ = some (.pointer (some ⟨fb, fo, none⟩)) ∧ w'.cell? ⟨pn, 4, none⟩ = some (.int .i64 (m.nw.bk : Int)) ∧ w'.cell? ⟨pn, 5, none⟩ = some (.int .i64 (m.nw.nx : Int)) ∧ w'.frozen? ⟨pn, 5, none⟩ = false ∧ w'.cell? ⟨fb, fo + 6, none⟩ = some (.slice (some ⟨bb, bo, none⟩) X.l[m.nw.fn].bs.length BC) ∧ w'.cell? ⟨bb, bo + m.nw.bk * 8, none⟩ = some (.slice lA X.l[m.nw.fn].bs[m.nw.bk].li.length lC)) := fun w' hw => by
    rw [hpn]
    exact ⟨hw.rr.cell 7 (by omega), by rw [← g1]; exact hw.now.s.cell 0 (by omega), hw.now.s.cell 4 (by omega), hw.now.s.cell 5 (by omega), hw.now.s.frozen 5, (hw.bz.cell (p := ⟨fb, fo + 6, none⟩) g2.1).trans (g2.at 6 rfl), (hw.bz.cell (p := ⟨bb, bo + m.nw.bk * 8 + 0, none⟩) g3.1).trans (g3.at 0 rfl)⟩
  have hbz : (m.nw.bk : Int) < X.l[m.nw.fn].bs.length := by omega
  have hw1 : IntKind.i64.wrap (st + 1) = st + 1 := wrap_in _ ⟨by omega, by omega⟩
  have TC : Hid (∀ w', MS X m (st + 1) L w' → Calls Tryd.prog 26 #[.pointer (some ⟨X.R, 0, none⟩), .pointer (some ⟨bb, bo + m.nw.bk * 8 + 1, none⟩)] w' fun e w2 => e = .returned (.tuple #[]) ∧ K w2) := TC
  rw [← hnx] at HC
  clear h g1 g2 g3 hpn

  go_enter Tryd.func19, Tryd.ntmps19
  go_wp2
  go_quiet (fail)
  go_wp2
  have M1 : Hid (MS X m (st + 1) L ((w.drewN nq).setCell ⟨X.R, 4, none⟩ (.int .i64 (st + 1)))) := H1.out _
  clear c3 c4 f4 H1
  generalize (w.drewN nq).setCell ⟨X.R, 4, none⟩ (.int .i64 (st + 1)) = w1 at *
  obtain ⟨k7, k0, k4, k5, kf, k6, k8⟩ := HC.out w1 M1.out
  go_quiet (fail)
  go_wp2
  generalize nq = nqa at *
  go_quiet (fail)
  have M2 : Hid (∀ q, MS X m (st + 1) L (w1.drewN q)) := fun q => M1.out.below (below_drewN _ _)
  go_wp2_with (go_at_call 26; refine (TC.out _ (by first | exact M2.out _ | exact M1.out)).mono ?_; rintro e w3 ⟨rfl, hk3⟩)
  refine bodyPost_ret (results_none rfl _ _ _) rfl ?_
  exact ⟨rfl, hk3⟩

set_option maxRecDepth 20000 in
set_option maxHeartbeats 4000000 in
theorem goOn_T_no (h : MS X m st L w) (hst : ¬ X.fu ≤ st) (hfu : X.fu ≤ 1000000) (hs0 : 0 ≤ st) (hk : m.nw.fn < X.l.length) (hb : m.nw.bk < X.l[m.nw.fn].bs.length) (hbs : X.l[m.nw.fn].bs.length ≤ 281474976710656) (fb fo : Nat) (pv : Value) (BC bb bo : Nat) (lA : Option Addr) (lC : Nat) (tv : Value) (g1 : fpV X m.nw.fn = .pointer (some ⟨fb, fo, none⟩)) (g2 : RowAt X.wz fb fo (lfC X.l[m.nw.fn] pv (.slice (some ⟨bb, bo, none⟩) X.l[m.nw.fn].bs.length BC)))
    (g3 : RowAt X.wz bb (bo + m.nw.bk * 8) (.slice lA X.l[m.nw.fn].bs[m.nw.bk].li.length lC :: leC X.l[m.nw.fn].bs[m.nw.bk].tm tv)) (hnx : m.nw.nx = X.l[m.nw.fn].bs[m.nw.bk].li.length) (K : World → Prop) (p : List PanicEntry) (TC : ∀ w', MS X m (st + 1) L w' → Calls Tryd.prog 26 #[.pointer (some ⟨X.R, 0, none⟩), .pointer (some ⟨bb, bo + m.nw.bk * 8 + 1, none⟩)] w' fun e w2 => e = .panicked p ∧ K w2) :
    Calls Tryd.prog 19 #[.pointer (some ⟨X.R, 0, none⟩)] w fun e w' => e = .panicked p ∧ K w' := by
  have c3 : w.cell? ⟨X.R, 3, none⟩ = some (.int .i64 X.fu) := h.rr.cell 3 (by omega)
  have c4 : w.cell? ⟨X.R, 4, none⟩ = some (.int .i64 st) := h.rr.cell 4 (by omega)
  have f4 : w.frozen? ⟨X.R, 4, none⟩ = false := h.rr.frozen 4
  obtain ⟨pn, hpn⟩ : ∃ pn, pn = L.pb m.bl.length := ⟨_, rfl⟩
  have PN : Hid (pn = L.pb m.bl.length) := hpn
  have H1 : Hid (∀ q, MS X m (st + 1) L ((w.drewN q).setCell ⟨X.R, 4, none⟩ (.int .i64 (st + 1)))) := fun q => (h.below (below_drewN w q)).steps (st + 1)
  have HC : Hid (∀ w', MS X m (st + 1) L w' → w'.cell? ⟨X.R, 7, none⟩ = some (.pointer (some ⟨pn, 0, none⟩)) ∧ w'.cell? ⟨pn, 0, none⟩ = some (.pointer (some ⟨fb, fo, none⟩)) ∧ w'.cell? ⟨pn, 4, none⟩ = some (.int .i64 (m.nw.bk : Int)) ∧ w'.cell? ⟨pn, 5, none⟩ = some (.int .i64 (m.nw.nx : Int)) ∧ w'.frozen? ⟨pn, 5, none⟩ = false ∧ w'.cell? ⟨fb, fo + 6, none⟩ = some (.slice (some ⟨bb, bo, none⟩) X.l[m.nw.fn].bs.length BC) ∧ w'.cell? ⟨bb, bo + m.nw.bk * 8, none⟩ = some (.slice lA X.l[m.nw.fn].bs[m.nw.bk].li.length lC)) := fun w' hw => by
    rw [hpn]
    exact ⟨hw.rr.cell 7 (by omega), by rw [← g1]; exact hw.now.s.cell 0 (by omega), hw.now.s.cell 4 (by omega), hw.now.s.cell 5 (by omega), hw.now.s.frozen 5, (hw.bz.cell (p := ⟨fb, fo + 6, none⟩) g2.1).trans (g2.at 6 rfl), (hw.bz.cell (p := ⟨bb, bo + m.nw.bk * 8 + 0, none⟩) g3.1).trans (g3.at 0 rfl)⟩
  have hbz : (m.nw.bk : Int) < X.l[m.nw.fn].bs.length := by omega
  have hw1 : IntKind.i64.wrap (st + 1) = st + 1 := wrap_in _ ⟨by omega, by omega⟩
  have TC : Hid (∀ w', MS X m (st + 1) L w' → Calls Tryd.prog 26 #[.pointer (some ⟨X.R, 0, none⟩), .pointer (some ⟨bb, bo + m.nw.bk * 8 + 1, none⟩)] w' fun e w2 => e = .panicked p ∧ K w2) := TC
  rw [← hnx] at HC
  clear h g1 g2 g3 hpn

  go_enter Tryd.func19, Tryd.ntmps19
  go_wp2
  go_quiet (fail)
  go_wp2
  have M1 : Hid (MS X m (st + 1) L ((w.drewN nq).setCell ⟨X.R, 4, none⟩ (.int .i64 (st + 1)))) := H1.out _
  clear c3 c4 f4 H1
  generalize (w.drewN nq).setCell ⟨X.R, 4, none⟩ (.int .i64 (st + 1)) = w1 at *
  obtain ⟨k7, k0, k4, k5, kf, k6, k8⟩ := HC.out w1 M1.out
  go_quiet (fail)
  go_wp2
  generalize nq = nqa at *
  go_quiet (fail)
  have M2 : Hid (∀ q, MS X m (st + 1) L (w1.drewN q)) := fun q => M1.out.below (below_drewN _ _)
  go_wp2_with (go_at_call 26; refine (TC.out _ (by first | exact M2.out _ | exact M1.out)).mono ?_; rintro e w3 ⟨rfl, hk3⟩)
  exact ⟨rfl, rfl, hk3⟩
end
end Go.Proofs.YtapgaclonilnbaaDoor

/-
  Proved: what goOn does at an instruction.
-/
namespace Go.Proofs.YtapgaclonilnbaaDoor
open Go.RowKit
set_option linter.unusedVariables false
set_option linter.unusedSimpArgs false

section
variable {P : Program} {ops : Array Oper} {Q : Exit → Act → World → Prop} {md : Region.Mode} {R : Nat → World → Prop} {S : World → Prop} {need : Nat → Bool}
/-- Who does not need it waits, through others too. -/
def waitsU (md : Region.Mode) (ops : Array Oper) (need : Nat → Bool) (i : Nat) : Bool := (List.range ops.size).all fun j => need j || reach md ops 12 j i

theorem wpAnyN_takeU {i : Nat} {oi : Oper} {v : Value} {fuel : Nat} {listed : Array Bool} {a : Act} {w : World} (hi : ops[i]? = some oi)
    (hs : Region.noSelect ops = true) (hf : Region.free md ops listed i = true) (hr : (Region.ready md ops listed).contains i = true) (hn : waitsU md ops need i = true) (hc : closedB md ops listed = true)
    (hQ : ∀ c a w, Q (.panic c) (a.put oi.dst v) w → Q (.panic c) a w) (hy : YieldsIf P ops S oi v a) (hS : S w)
    (h : wpAnyN P md ops Q S need fuel (listed.setIfInBounds i true) (a.put oi.dst v) w) : wpAnyN P md ops Q S need (fuel + 1) listed a w :=
  anyR.firstT 12 hi (Region.noSelect_spec hs) hQ (fun _ hS _ => hS) (fun j oj ho hno w' hR => hR (by
    cases e : need j with
    | true => rfl
    | false =>
      have hlt : j < ops.size := (Array.getElem?_eq_some_iff.1 ho).1
      have h1 := List.all_eq_true.1 hn j (by simpa using hlt)
      rw [e, hno] at h1
      cases h1)) fuel listed a w (closed_of hc) (Region.free_spec hi hf) (by simpa using hr) hy hS h

theorem tkU {i : Nat} {oi : Oper} {v : Value} {fuel : Nat} {listed : Array Bool} {a : Act} {w : World} (hi : ops[i]? = some oi)
    (hy : YieldsIf P ops S oi v a) (hS : S w) (h : wpAnyN P md ops Q S need fuel (listed.setIfInBounds i true) (a.put oi.dst v) w)
    (hs : Region.noSelect ops = true := by kernel_rfl) (hf : Region.free md ops listed i = true := by kernel_rfl) (hr : (Region.ready md ops listed).contains i = true := by kernel_rfl) (hn : waitsU md ops need i = true := by kernel_rfl)
    (hc : closedB md ops listed = true := by kernel_rfl) (hQ : ∀ c a w, Q (.panic c) (a.put oi.dst v) w → Q (.panic c) a w := by exact fun _ _ _ h => h) : wpAnyN P md ops Q S need (fuel + 1) listed a w :=
  wpAnyN_takeU hi hs hf hr hn hc hQ hy hS h

end

section
variable {X : Cx} {m : Mc} {st : Int} {L : Ly} {w w' : World}

set_option maxRecDepth 20000 in
set_option maxHeartbeats 4000000 in
theorem goOn_I_ok (h : MS X m st L w) (hst : ¬ X.fu ≤ st) (hfu : X.fu ≤ 1000000) (hs0 : 0 ≤ st) (hk : m.nw.fn < X.l.length) (hb : m.nw.bk < X.l[m.nw.fn].bs.length) (hbs : X.l[m.nw.fn].bs.length ≤ 281474976710656) (fb fo : Nat) (pv : Value) (BC bb bo : Nat) (lA : Option Addr) (lC : Nat) (tv : Value) (g1 : fpV X m.nw.fn = .pointer (some ⟨fb, fo, none⟩)) (g2 : RowAt X.wz fb fo (lfC X.l[m.nw.fn] pv (.slice (some ⟨bb, bo, none⟩) X.l[m.nw.fn].bs.length BC)))
    (g3 : RowAt X.wz bb (bo + m.nw.bk * 8) (.slice lA X.l[m.nw.fn].bs[m.nw.bk].li.length lC :: leC X.l[m.nw.fn].bs[m.nw.bk].tm tv)) (hnx : m.nw.nx < X.l[m.nw.fn].bs[m.nw.bk].li.length) (hll : X.l[m.nw.fn].bs[m.nw.bk].li.length ≤ 281474976710656) (ib io : Nat) (hlA : lA = some ⟨ib, io, none⟩) (K : World → Prop) (IC : ∀ w', MS X { m with nw := { m.nw with nx := m.nw.nx + 1 } } (st + 1) L w' → Calls Tryd.prog 27 #[.pointer (some ⟨X.R, 0, none⟩), .pointer (some ⟨ib, io + m.nw.nx * 8, none⟩)] w' fun e w2 => e = .returned (.tuple #[]) ∧ K w2) :
    Calls Tryd.prog 19 #[.pointer (some ⟨X.R, 0, none⟩)] w fun e w' => e = .returned (.tuple #[]) ∧ K w' := by
  have c3 : w.cell? ⟨X.R, 3, none⟩ = some (.int .i64 X.fu) := h.rr.cell 3 (by omega)
  have c4 : w.cell? ⟨X.R, 4, none⟩ = some (.int .i64 st) := h.rr.cell 4 (by omega)
  have f4 : w.frozen? ⟨X.R, 4, none⟩ = false := h.rr.frozen 4
  obtain ⟨pn, hpn⟩ : ∃ pn, pn = L.pb m.bl.length := ⟨_, rfl⟩
  have PN : Hid (pn = L.pb m.bl.length) := hpn
  have H1 : Hid (∀ q, MS X m (st + 1) L ((w.drewN q).setCell ⟨X.R, 4, none⟩ (.int .i64 (st + 1)))) := fun q => (h.below (below_drewN w q)).steps (st + 1)
  have HC : Hid (∀ w', MS X m (st + 1) L w' → w'.cell? ⟨X.R, 7, none⟩ = some (.pointer (some ⟨pn, 0, none⟩)) ∧ w'.cell? ⟨pn, 0, none⟩ = some (.pointer (some ⟨fb, fo, none⟩)) ∧ w'.cell? ⟨pn, 4, none⟩ = some (.int .i64 (m.nw.bk : Int)) ∧ w'.cell? ⟨pn, 5, none⟩ = some (.int .i64 (m.nw.nx : Int)) ∧ w'.frozen? ⟨pn, 5, none⟩ = false ∧ w'.cell? ⟨fb, fo + 6, none⟩ = some (.slice (some ⟨bb, bo, none⟩) X.l[m.nw.fn].bs.length BC) ∧ w'.cell? ⟨bb, bo + m.nw.bk * 8, none⟩ = some (.slice lA X.l[m.nw.fn].bs[m.nw.bk].li.length lC)) := fun w' hw => by
    rw [hpn]
    exact ⟨hw.rr.cell 7 (by omega), by rw [← g1]; exact hw.now.s.cell 0 (by omega), hw.now.s.cell 4 (by omega), hw.now.s.cell 5 (by omega), hw.now.s.frozen 5, (hw.bz.cell (p := ⟨fb, fo + 6, none⟩) g2.1).trans (g2.at 6 rfl), (hw.bz.cell (p := ⟨bb, bo + m.nw.bk * 8 + 0, none⟩) g3.1).trans (g3.at 0 rfl)⟩
  have hbz : (m.nw.bk : Int) < X.l[m.nw.fn].bs.length := by omega
  have hw1 : IntKind.i64.wrap (st + 1) = st + 1 := wrap_in _ ⟨by omega, by omega⟩
  have IC : Hid (∀ w', MS X { m with nw := { m.nw with nx := m.nw.nx + 1 } } (st + 1) L w' → Calls Tryd.prog 27 #[.pointer (some ⟨X.R, 0, none⟩), .pointer (some ⟨ib, io + m.nw.nx * 8, none⟩)] w' fun e w2 => e = .returned (.tuple #[]) ∧ K w2) := IC
  have HD : Hid (∀ w', MS X { m with nw := { m.nw with nx := m.nw.nx + 1 } } (st + 1) L w' → w'.cell? ⟨X.R, 7, none⟩ = some (.pointer (some ⟨pn, 0, none⟩)) ∧ w'.cell? ⟨pn, 5, none⟩ = some (.int .i64 ((m.nw.nx : Int) + 1)) ∧ w'.cell? ⟨bb, bo + m.nw.bk * 8, none⟩ = some (.slice (some ⟨ib, io, none⟩) X.l[m.nw.fn].bs[m.nw.bk].li.length lC)) := fun w' hw => by
    rw [hpn]
    have hc5 := hw.now.s.cell 5 (by omega)
    simp only [clF, Int.natCast_add, Int.cast_ofNat_Int] at hc5
    exact ⟨hw.rr.cell 7 (by omega), hc5, (hw.bz.cell (p := ⟨bb, bo + m.nw.bk * 8 + 0, none⟩) g3.1).trans (g3.at 0 (by rw [hlA]; rfl))⟩
  rw [hlA] at HC
  have hnz : (m.nw.nx : Int) < X.l[m.nw.fn].bs[m.nw.bk].li.length := by omega
  have hne : ¬ m.nw.nx = X.l[m.nw.fn].bs[m.nw.bk].li.length := by omega
  have hnez : ¬ (m.nw.nx : Int) = X.l[m.nw.fn].bs[m.nw.bk].li.length := by omega
  have hwn : IntKind.i64.wrap (m.nw.nx : Int) = (m.nw.nx : Int) := wrap_in _ ⟨by omega, by omega⟩
  have hwn1 : IntKind.i64.wrap ((m.nw.nx : Int) + 1) = (m.nw.nx : Int) + 1 := wrap_in _ ⟨by omega, by omega⟩
  have hwn2 : (m.nw.nx : Int) + 1 - 1 = (m.nw.nx : Int) := by omega
  clear hlA
  clear h g1 g2 g3 hpn

  go_enter Tryd.func19, Tryd.ntmps19
  go_wp2
  go_quiet (fail)
  go_wp2
  have M1 : Hid (MS X m (st + 1) L ((w.drewN nq).setCell ⟨X.R, 4, none⟩ (.int .i64 (st + 1)))) := H1.out _
  clear c3 c4 f4 H1
  generalize (w.drewN nq).setCell ⟨X.R, 4, none⟩ (.int .i64 (st + 1)) = w1 at *
  obtain ⟨k7, k0, k4, k5, kf, k6, k8⟩ := HC.out w1 M1.out
  go_quiet (fail)
  go_wp2
  generalize nq = nqa at *
  go_quiet (fail)
  have M2 : Hid (∀ q, MS X m (st + 1) L (w1.drewN q)) := fun q => M1.out.below (below_drewN _ _)
  go_wp2
  have M3 : Hid (∀ q, MS X { m with nw := { m.nw with nx := m.nw.nx + 1 } } (st + 1) L ((w1.drewN q).setCell ⟨pn, 5, none⟩ (.int .i64 ((m.nw.nx : Int) + 1)))) := fun q => (by rw [PN.out]; exact (M2.out q).next)
  have M4 : Hid (MS X { m with nw := { m.nw with nx := m.nw.nx + 1 } } (st + 1) L ((w1.drewN (nqa + nq)).setCell ⟨pn, 5, none⟩ (.int .i64 ((m.nw.nx : Int) + 1)))) := M3.out _
  clear M3
  clear k7 k0 k4 k5 kf k6 k8 M1 M2
  generalize ((w1.drewN (nqa + nq)).setCell ⟨pn, 5, none⟩ (.int .i64 ((m.nw.nx : Int) + 1))) = w2 at *
  have S7F : Hid (w2.drew.cell? ⟨X.R, 7, none⟩ = some (.pointer (some ⟨pn, 0, none⟩)) ∧ w2.drew.cell? ⟨pn, 5, none⟩ = some (.int .i64 ((m.nw.nx : Int) + 1)) ∧ w2.drew.cell? ⟨bb, bo + m.nw.bk * 8, none⟩ = some (.slice (some ⟨ib, io, none⟩) X.l[m.nw.fn].bs[m.nw.bk].li.length lC)) := (HD.out w2.drew (M4.out.below (below_drew _)))
  have M4 : Hid (MS X { m with nw := { m.nw with nx := m.nw.nx + 1 } } (st + 1) L w2.drew) := M4.out.below (below_drew _)
  refine wp_region_N (fun w' => w'.cell? ⟨X.R, 7, none⟩ = some (.pointer (some ⟨pn, 0, none⟩)) ∧ w'.cell? ⟨pn, 5, none⟩ = some (.int .i64 ((m.nw.nx : Int) + 1)) ∧ w'.cell? ⟨bb, bo + m.nw.bk * 8, none⟩ = some (.slice (some ⟨ib, io, none⟩) X.l[m.nw.fn].bs[m.nw.bk].li.length lC)) (fun i => i != 14) mixedE ((S7F.out)) ?_
  intro S0
  generalize w2.drew = wq at *
  refine tkU (i := 0) (v := ?_) rfl (Or.inl ⟨by rfl, ?_⟩) S0 ?_
  rotate_left
  · intro w' hS'
    obtain ⟨h0, h1, h2⟩ := hS'
    (try go_simp)
    first | done | exact rfl | exact ⟨rfl, rfl⟩
  (try simp only [Act.put, qA, qC, qD, qE, qF])
  refine tkU (i := 1) (v := ?_) rfl (Or.inl ⟨by rfl, ?_⟩) S0 ?_
  rotate_left
  · intro w' hS'
    obtain ⟨h0, h1, h2⟩ := hS'
    (try go_simp)
    first | done | exact rfl | exact ⟨rfl, rfl⟩
  (try simp only [Act.put, qA, qB, qC, qD, qE, qF])
  refine tkU (i := 2) (v := ?_) rfl (Or.inl ⟨by rfl, ?_⟩) S0 ?_
  rotate_left
  · intro w' hS'
    obtain ⟨h0, h1, h2⟩ := hS'
    (try go_simp)
    first | done | exact rfl | exact ⟨rfl, rfl⟩
  (try simp only [Act.put, qA, qB, qC, qD, qE, qF])
  refine tkU (i := 3) (v := ?_) rfl (Or.inl ⟨by rfl, ?_⟩) S0 ?_
  rotate_left
  · intro w' hS'
    obtain ⟨h0, h1, h2⟩ := hS'
    (try go_simp)
    first | done | exact rfl | exact ⟨rfl, rfl⟩
  (try simp only [Act.put, qA, qB, qC, qD, qE, qF])
  refine tkU (i := 4) (v := ?_) rfl (Or.inl ⟨by rfl, ?_⟩) S0 ?_
  rotate_left
  · intro w' hS'
    obtain ⟨h0, h1, h2⟩ := hS'
    (try go_simp)
    first | done | exact rfl | exact ⟨rfl, rfl⟩
  (try simp only [Act.put, qA, qB, qC, qD, qE, qF])
  refine tkU (i := 5) (v := ?_) rfl (Or.inl ⟨by rfl, ?_⟩) S0 ?_
  rotate_left
  · intro w' hS'
    obtain ⟨h0, h1, h2⟩ := hS'
    (try go_simp)
    first | done | exact rfl | exact ⟨rfl, rfl⟩
  (try simp only [Act.put, qA, qB, qC, qD, qE, qF])
  refine tkU (i := 6) (v := ?_) rfl (Or.inl ⟨by rfl, ?_⟩) S0 ?_
  rotate_left
  · intro w' hS'
    obtain ⟨h0, h1, h2⟩ := hS'
    (try go_simp)
    first | done | exact rfl | exact ⟨rfl, rfl⟩
  (try simp only [Act.put, qA, qB, qC, qD, qE, qF])
  refine tkU (i := 7) (v := ?_) rfl (Or.inl ⟨by rfl, ?_⟩) S0 ?_
  rotate_left
  · intro w' hS'
    obtain ⟨h0, h1, h2⟩ := hS'
    (try go_simp)
    first | done | exact rfl | exact ⟨rfl, rfl⟩
  (try simp only [Act.put, qA, qB, qC, qD, qE, qF])
  refine tkU (i := 8) (v := ?_) rfl (Or.inl ⟨by rfl, ?_⟩) S0 ?_
  rotate_left
  · intro w' hS'
    obtain ⟨h0, h1, h2⟩ := hS'
    (try go_simp)
    first | done | exact rfl | exact ⟨rfl, rfl⟩
  (try simp only [Act.put, qA, qB, qC, qD, qE, qF])
  refine tkU (i := 9) (v := ?_) rfl (Or.inl ⟨by rfl, ?_⟩) S0 ?_
  rotate_left
  · intro w' hS'
    obtain ⟨h0, h1, h2⟩ := hS'
    (try go_simp)
    first | done | exact rfl | exact ⟨rfl, rfl⟩
  (try simp only [Act.put, qA, qB, qC, qD, qE, qF])
  refine tkU (i := 10) (v := ?_) rfl (Or.inl ⟨by rfl, ?_⟩) S0 ?_
  rotate_left
  · intro w' hS'
    obtain ⟨h0, h1, h2⟩ := hS'
    (try go_simp)
    first | done | exact rfl | exact ⟨rfl, rfl⟩
  (try simp only [Act.put, qA, qB, qC, qD, qE, qF])
  refine tkU (i := 11) (v := ?_) rfl (Or.inl ⟨by rfl, ?_⟩) S0 ?_
  rotate_left
  · intro w' hS'
    obtain ⟨h0, h1, h2⟩ := hS'
    (try go_simp)
    first | done | exact rfl | exact ⟨rfl, rfl⟩
  (try simp only [Act.put, qA, qB, qC, qD, qE, qF])
  refine tkU (i := 12) (v := ?_) rfl (Or.inl ⟨by rfl, ?_⟩) S0 ?_
  rotate_left
  · intro w' hS'
    obtain ⟨h0, h1, h2⟩ := hS'
    (try go_simp)
    first | done | exact rfl | exact ⟨rfl, rfl⟩
  (try simp only [Act.put, qA, qB, qC, qD, qE, qF])
  refine tkU (i := 13) (v := ?_) rfl (Or.inl ⟨by rfl, ?_⟩) S0 ?_
  rotate_left
  · intro w' hS'
    obtain ⟨h0, h1, h2⟩ := hS'
    (try go_simp)
    first | done | exact rfl | exact ⟨rfl, rfl⟩
  (try simp only [Act.put, qA, qB, qC, qD, qE, qF])
  refine wpAnyN_one (i := 14) (by kernel_rfl) rfl (fun K' hK => ?_)
  go_simp
  refine Calls.mono (IC.out _ M4.out) ?_
  rintro e w7 ⟨rfl, hk7⟩
  go_wp2_with fail
  refine hK _ _ (fun h => by cases h) ?_
  clear hK K'
  (try simp only [Act.put, qA, qB, qC, qD, qE, qF])
  have S15 := S0
  refine wpAnyN_done (by kernel_rfl) ?_ _
  go_wp2
  go_end0
  exact ⟨rfl, hk7⟩

set_option maxRecDepth 20000 in
set_option maxHeartbeats 4000000 in
theorem goOn_I_no (h : MS X m st L w) (hst : ¬ X.fu ≤ st) (hfu : X.fu ≤ 1000000) (hs0 : 0 ≤ st) (hk : m.nw.fn < X.l.length) (hb : m.nw.bk < X.l[m.nw.fn].bs.length) (hbs : X.l[m.nw.fn].bs.length ≤ 281474976710656) (fb fo : Nat) (pv : Value) (BC bb bo : Nat) (lA : Option Addr) (lC : Nat) (tv : Value) (g1 : fpV X m.nw.fn = .pointer (some ⟨fb, fo, none⟩)) (g2 : RowAt X.wz fb fo (lfC X.l[m.nw.fn] pv (.slice (some ⟨bb, bo, none⟩) X.l[m.nw.fn].bs.length BC)))
    (g3 : RowAt X.wz bb (bo + m.nw.bk * 8) (.slice lA X.l[m.nw.fn].bs[m.nw.bk].li.length lC :: leC X.l[m.nw.fn].bs[m.nw.bk].tm tv)) (hnx : m.nw.nx < X.l[m.nw.fn].bs[m.nw.bk].li.length) (hll : X.l[m.nw.fn].bs[m.nw.bk].li.length ≤ 281474976710656) (ib io : Nat) (hlA : lA = some ⟨ib, io, none⟩) (K : World → Prop) (p : List PanicEntry) (IC : ∀ w', MS X { m with nw := { m.nw with nx := m.nw.nx + 1 } } (st + 1) L w' → Calls Tryd.prog 27 #[.pointer (some ⟨X.R, 0, none⟩), .pointer (some ⟨ib, io + m.nw.nx * 8, none⟩)] w' fun e w2 => e = .panicked p ∧ K w2) :
    Calls Tryd.prog 19 #[.pointer (some ⟨X.R, 0, none⟩)] w fun e w' => e = .panicked p ∧ K w' := by
  have c3 : w.cell? ⟨X.R, 3, none⟩ = some (.int .i64 X.fu) := h.rr.cell 3 (by omega)
  have c4 : w.cell? ⟨X.R, 4, none⟩ = some (.int .i64 st) := h.rr.cell 4 (by omega)
  have f4 : w.frozen? ⟨X.R, 4, none⟩ = false := h.rr.frozen 4
  obtain ⟨pn, hpn⟩ : ∃ pn, pn = L.pb m.bl.length := ⟨_, rfl⟩
  have PN : Hid (pn = L.pb m.bl.length) := hpn
  have H1 : Hid (∀ q, MS X m (st + 1) L ((w.drewN q).setCell ⟨X.R, 4, none⟩ (.int .i64 (st + 1)))) := fun q => (h.below (below_drewN w q)).steps (st + 1)
  have HC : Hid (∀ w', MS X m (st + 1) L w' → w'.cell? ⟨X.R, 7, none⟩ = some (.pointer (some ⟨pn, 0, none⟩)) ∧ w'.cell? ⟨pn, 0, none⟩ = some (.pointer (some ⟨fb, fo, none⟩)) ∧ w'.cell? ⟨pn, 4, none⟩ = some (.int .i64 (m.nw.bk : Int)) ∧ w'.cell? ⟨pn, 5, none⟩ = some (.int .i64 (m.nw.nx : Int)) ∧ w'.frozen? ⟨pn, 5, none⟩ = false ∧ w'.cell? ⟨fb, fo + 6, none⟩ = some (.slice (some ⟨bb, bo, none⟩) X.l[m.nw.fn].bs.length BC) ∧ w'.cell? ⟨bb, bo + m.nw.bk * 8, none⟩ = some (.slice lA X.l[m.nw.fn].bs[m.nw.bk].li.length lC)) := fun w' hw => by
    rw [hpn]
    exact ⟨hw.rr.cell 7 (by omega), by rw [← g1]; exact hw.now.s.cell 0 (by omega), hw.now.s.cell 4 (by omega), hw.now.s.cell 5 (by omega), hw.now.s.frozen 5, (hw.bz.cell (p := ⟨fb, fo + 6, none⟩) g2.1).trans (g2.at 6 rfl), (hw.bz.cell (p := ⟨bb, bo + m.nw.bk * 8 + 0, none⟩) g3.1).trans (g3.at 0 rfl)⟩
  have hbz : (m.nw.bk : Int) < X.l[m.nw.fn].bs.length := by omega
  have hw1 : IntKind.i64.wrap (st + 1) = st + 1 := wrap_in _ ⟨by omega, by omega⟩
  have IC : Hid (∀ w', MS X { m with nw := { m.nw with nx := m.nw.nx + 1 } } (st + 1) L w' → Calls Tryd.prog 27 #[.pointer (some ⟨X.R, 0, none⟩), .pointer (some ⟨ib, io + m.nw.nx * 8, none⟩)] w' fun e w2 => e = .panicked p ∧ K w2) := IC
  have HD : Hid (∀ w', MS X { m with nw := { m.nw with nx := m.nw.nx + 1 } } (st + 1) L w' → w'.cell? ⟨X.R, 7, none⟩ = some (.pointer (some ⟨pn, 0, none⟩)) ∧ w'.cell? ⟨pn, 5, none⟩ = some (.int .i64 ((m.nw.nx : Int) + 1)) ∧ w'.cell? ⟨bb, bo + m.nw.bk * 8, none⟩ = some (.slice (some ⟨ib, io, none⟩) X.l[m.nw.fn].bs[m.nw.bk].li.length lC)) := fun w' hw => by
    rw [hpn]
    have hc5 := hw.now.s.cell 5 (by omega)
    simp only [clF, Int.natCast_add, Int.cast_ofNat_Int] at hc5
    exact ⟨hw.rr.cell 7 (by omega), hc5, (hw.bz.cell (p := ⟨bb, bo + m.nw.bk * 8 + 0, none⟩) g3.1).trans (g3.at 0 (by rw [hlA]; rfl))⟩
  rw [hlA] at HC
  have hnz : (m.nw.nx : Int) < X.l[m.nw.fn].bs[m.nw.bk].li.length := by omega
  have hne : ¬ m.nw.nx = X.l[m.nw.fn].bs[m.nw.bk].li.length := by omega
  have hnez : ¬ (m.nw.nx : Int) = X.l[m.nw.fn].bs[m.nw.bk].li.length := by omega
  have hwn : IntKind.i64.wrap (m.nw.nx : Int) = (m.nw.nx : Int) := wrap_in _ ⟨by omega, by omega⟩
  have hwn1 : IntKind.i64.wrap ((m.nw.nx : Int) + 1) = (m.nw.nx : Int) + 1 := wrap_in _ ⟨by omega, by omega⟩
  have hwn2 : (m.nw.nx : Int) + 1 - 1 = (m.nw.nx : Int) := by omega
  clear hlA
  clear h g1 g2 g3 hpn

  go_enter Tryd.func19, Tryd.ntmps19
  go_wp2
  go_quiet (fail)
  go_wp2
  have M1 : Hid (MS X m (st + 1) L ((w.drewN nq).setCell ⟨X.R, 4, none⟩ (.int .i64 (st + 1)))) := H1.out _
  clear c3 c4 f4 H1
  generalize (w.drewN nq).setCell ⟨X.R, 4, none⟩ (.int .i64 (st + 1)) = w1 at *
  obtain ⟨k7, k0, k4, k5, kf, k6, k8⟩ := HC.out w1 M1.out
  go_quiet (fail)
  go_wp2
  generalize nq = nqa at *
  go_quiet (fail)
  have M2 : Hid (∀ q, MS X m (st + 1) L (w1.drewN q)) := fun q => M1.out.below (below_drewN _ _)
  go_wp2
  have M3 : Hid (∀ q, MS X { m with nw := { m.nw with nx := m.nw.nx + 1 } } (st + 1) L ((w1.drewN q).setCell ⟨pn, 5, none⟩ (.int .i64 ((m.nw.nx : Int) + 1)))) := fun q => (by rw [PN.out]; exact (M2.out q).next)
  have M4 : Hid (MS X { m with nw := { m.nw with nx := m.nw.nx + 1 } } (st + 1) L ((w1.drewN (nqa + nq)).setCell ⟨pn, 5, none⟩ (.int .i64 ((m.nw.nx : Int) + 1)))) := M3.out _
  clear M3
  clear k7 k0 k4 k5 kf k6 k8 M1 M2
  generalize ((w1.drewN (nqa + nq)).setCell ⟨pn, 5, none⟩ (.int .i64 ((m.nw.nx : Int) + 1))) = w2 at *
  have S7F : Hid (w2.drew.cell? ⟨X.R, 7, none⟩ = some (.pointer (some ⟨pn, 0, none⟩)) ∧ w2.drew.cell? ⟨pn, 5, none⟩ = some (.int .i64 ((m.nw.nx : Int) + 1)) ∧ w2.drew.cell? ⟨bb, bo + m.nw.bk * 8, none⟩ = some (.slice (some ⟨ib, io, none⟩) X.l[m.nw.fn].bs[m.nw.bk].li.length lC)) := (HD.out w2.drew (M4.out.below (below_drew _)))
  have M4 : Hid (MS X { m with nw := { m.nw with nx := m.nw.nx + 1 } } (st + 1) L w2.drew) := M4.out.below (below_drew _)
  refine wp_region_N (fun w' => w'.cell? ⟨X.R, 7, none⟩ = some (.pointer (some ⟨pn, 0, none⟩)) ∧ w'.cell? ⟨pn, 5, none⟩ = some (.int .i64 ((m.nw.nx : Int) + 1)) ∧ w'.cell? ⟨bb, bo + m.nw.bk * 8, none⟩ = some (.slice (some ⟨ib, io, none⟩) X.l[m.nw.fn].bs[m.nw.bk].li.length lC)) (fun i => i != 14) mixedE ((S7F.out)) ?_
  intro S0
  generalize w2.drew = wq at *
  refine tkU (i := 0) (v := ?_) rfl (Or.inl ⟨by rfl, ?_⟩) S0 ?_
  rotate_left
  · intro w' hS'
    obtain ⟨h0, h1, h2⟩ := hS'
    (try go_simp)
    first | done | exact rfl | exact ⟨rfl, rfl⟩
  (try simp only [Act.put, qA, qC, qD, qE, qF])
  refine tkU (i := 1) (v := ?_) rfl (Or.inl ⟨by rfl, ?_⟩) S0 ?_
  rotate_left
  · intro w' hS'
    obtain ⟨h0, h1, h2⟩ := hS'
    (try go_simp)
    first | done | exact rfl | exact ⟨rfl, rfl⟩
  (try simp only [Act.put, qA, qB, qC, qD, qE, qF])
  refine tkU (i := 2) (v := ?_) rfl (Or.inl ⟨by rfl, ?_⟩) S0 ?_
  rotate_left
  · intro w' hS'
    obtain ⟨h0, h1, h2⟩ := hS'
    (try go_simp)
    first | done | exact rfl | exact ⟨rfl, rfl⟩
  (try simp only [Act.put, qA, qB, qC, qD, qE, qF])
  refine tkU (i := 3) (v := ?_) rfl (Or.inl ⟨by rfl, ?_⟩) S0 ?_
  rotate_left
  · intro w' hS'
    obtain ⟨h0, h1, h2⟩ := hS'
    (try go_simp)
    first | done | exact rfl | exact ⟨rfl, rfl⟩
  (try simp only [Act.put, qA, qB, qC, qD, qE, qF])
  refine tkU (i := 4) (v := ?_) rfl (Or.inl ⟨by rfl, ?_⟩) S0 ?_
  rotate_left
  · intro w' hS'
    obtain ⟨h0, h1, h2⟩ := hS'
    (try go_simp)
    first | done | exact rfl | exact ⟨rfl, rfl⟩
  (try simp only [Act.put, qA, qB, qC, qD, qE, qF])
  refine tkU (i := 5) (v := ?_) rfl (Or.inl ⟨by rfl, ?_⟩) S0 ?_
  rotate_left
  · intro w' hS'
    obtain ⟨h0, h1, h2⟩ := hS'
    (try go_simp)
    first | done | exact rfl | exact ⟨rfl, rfl⟩
  (try simp only [Act.put, qA, qB, qC, qD, qE, qF])
  refine tkU (i := 6) (v := ?_) rfl (Or.inl ⟨by rfl, ?_⟩) S0 ?_
  rotate_left
  · intro w' hS'
    obtain ⟨h0, h1, h2⟩ := hS'
    (try go_simp)
    first | done | exact rfl | exact ⟨rfl, rfl⟩
  (try simp only [Act.put, qA, qB, qC, qD, qE, qF])
  refine tkU (i := 7) (v := ?_) rfl (Or.inl ⟨by rfl, ?_⟩) S0 ?_
  rotate_left
  · intro w' hS'
    obtain ⟨h0, h1, h2⟩ := hS'
    (try go_simp)
    first | done | exact rfl | exact ⟨rfl, rfl⟩
  (try simp only [Act.put, qA, qB, qC, qD, qE, qF])
  refine tkU (i := 8) (v := ?_) rfl (Or.inl ⟨by rfl, ?_⟩) S0 ?_
  rotate_left
  · intro w' hS'
    obtain ⟨h0, h1, h2⟩ := hS'
    (try go_simp)
    first | done | exact rfl | exact ⟨rfl, rfl⟩
  (try simp only [Act.put, qA, qB, qC, qD, qE, qF])
  refine tkU (i := 9) (v := ?_) rfl (Or.inl ⟨by rfl, ?_⟩) S0 ?_
  rotate_left
  · intro w' hS'
    obtain ⟨h0, h1, h2⟩ := hS'
    (try go_simp)
    first | done | exact rfl | exact ⟨rfl, rfl⟩
  (try simp only [Act.put, qA, qB, qC, qD, qE, qF])
  refine tkU (i := 10) (v := ?_) rfl (Or.inl ⟨by rfl, ?_⟩) S0 ?_
  rotate_left
  · intro w' hS'
    obtain ⟨h0, h1, h2⟩ := hS'
    (try go_simp)
    first | done | exact rfl | exact ⟨rfl, rfl⟩
  (try simp only [Act.put, qA, qB, qC, qD, qE, qF])
  refine tkU (i := 11) (v := ?_) rfl (Or.inl ⟨by rfl, ?_⟩) S0 ?_
  rotate_left
  · intro w' hS'
    obtain ⟨h0, h1, h2⟩ := hS'
    (try go_simp)
    first | done | exact rfl | exact ⟨rfl, rfl⟩
  (try simp only [Act.put, qA, qB, qC, qD, qE, qF])
  refine tkU (i := 12) (v := ?_) rfl (Or.inl ⟨by rfl, ?_⟩) S0 ?_
  rotate_left
  · intro w' hS'
    obtain ⟨h0, h1, h2⟩ := hS'
    (try go_simp)
    first | done | exact rfl | exact ⟨rfl, rfl⟩
  (try simp only [Act.put, qA, qB, qC, qD, qE, qF])
  refine tkU (i := 13) (v := ?_) rfl (Or.inl ⟨by rfl, ?_⟩) S0 ?_
  rotate_left
  · intro w' hS'
    obtain ⟨h0, h1, h2⟩ := hS'
    (try go_simp)
    first | done | exact rfl | exact ⟨rfl, rfl⟩
  (try simp only [Act.put, qA, qB, qC, qD, qE, qF])
  refine wpAnyN_one (i := 14) (by kernel_rfl) rfl (fun K' hK => ?_)
  go_simp
  refine Calls.mono (IC.out _ M4.out) ?_
  rintro e w7 ⟨rfl, hk7⟩
  exact ⟨rfl, rfl, hk7⟩
end
end Go.Proofs.YtapgaclonilnbaaDoor

/-
  Proved: what a block's end does, whichever it is; what a step does.
-/
namespace Go.Proofs.YtapgaclonilnbaaDoor
open Go.RowKit
set_option linter.unusedVariables false
set_option linter.unusedSimpArgs false

section
variable {X : Cx} {m : Mc} {st : Int} {L : Ly} {w w' : World}

/-- What comes of a step: the machine, main's end, or an end by a panic. -/
def GoR (X : Cx) (out : List Int) (st : Int) (r : Sx) (e : Ending) (w' : World) : Prop :=
  match r with
  | .inl m' => e = .returned (.tuple #[]) ∧ ∃ L, MS X m' st L w'
  | .inr k => (k = (1, 0) ∧ e = .returned (.tuple #[]) ∧ ∃ z nv L, z.cs = [] ∧ z.out = out ∧ MX X z nv st L w') ∨ (k ≠ (1, 0) ∧ e = .panicked [{ v := endV k.1 k.2, recovered := false }] ∧ ∃ z nv L, z.out = out ∧ MX X z nv st L w')

theorem InR.go {out : List Int} {r : Sx} {e : Ending} (h : InR X out st r e w') : GoR X out st r e w' := by
  cases r with
  | inl m' => exact h
  | inr k => exact Or.inr ⟨h.2.1, h.1, h.2.2⟩

theorem lbs_len {w : World} {l : List Lf} {v : Value} (h : LfsIn w l v) (k : Nat) (hk : k < l.length) : l[k].bs.length ≤ 281474976710656 := by
  obtain ⟨-, A, C, -, hr⟩ := h
  obtain ⟨b, o, cs, -, -, pv, bv, -, -, -, h4⟩ := hr k hk
  exact h4.1

theorem blk_get (l : List Lf) (c : Cl) (h1 : c.fn < l.length) (h2 : c.bk < l[c.fn].bs.length) : blkO l c = l[c.fn].bs[c.bk] := by
  unfold blkO
  rw [fnO_get l c.fn h1, List.getD_eq_getElem?_getD, List.getElem?_eq_getElem h2]
  rfl
theorem CW.bk2 {l : List Lf} {c : Cl} (h : CW l c) : c.bk < (l[c.fn]'h.fn).bs.length := by
  have := h.bk
  rwa [fnO_get l c.fn h.fn] at this

theorem toB_le {nb : Nat} {n : Int} (h : toB nb n = true) : 0 ≤ n := by
  unfold toB at h
  simp only [Bool.and_eq_true, decide_eq_true_eq] at h
  exact h.1

set_option maxHeartbeats 2000000 in
theorem rterm_c (hc : chk X.l = true) (h : WF X.l m) (hs : MS X m st L w) {t : Le} {tb tq : Nat} {tv : Value} (hx : RowAt X.wz tb tq (leC t tv)) (hargs : NosIn X.wz t.args tv) (ht : termB (fnO X.l m.nw.fn).rg (fnO X.l m.nw.fn).an (fnO X.l m.nw.fn).bs.length t = true) :
    Calls Tryd.prog 26 #[.pointer (some ⟨X.R, 0, none⟩), .pointer (some ⟨tb, tq, none⟩)] w fun e w' => GoR X m.out st (termS X.l m t) e w' := by
  have hw := h.cw
  have hl := h.ldb
  have hfn := hw.fn
  rw [← hw.rgz hc] at ht
  unfold termB at ht
  by_cases h1 : t.k = 1
  · simp only [h1, if_true] at ht
    have e : termS X.l m t = .inl { m with nw := goC m.nw t.to } := by unfold termS; simp [h1]
    rw [e]
    exact ter_1 hs hx h1 (toB_le ht)
  by_cases h2 : t.k = 2
  · simp [h2] at ht
    obtain ⟨⟨⟨⟨a1, a2⟩, a3⟩, a4⟩, a5⟩ := ht
    cases hq : cmpv t.tx (cw m.nw t.a) (cw m.nw t.b) with
    | true =>
      have e : termS X.l m t = .inl { m with nw := goC m.nw t.to } := by unfold termS; simp [h2, hq]
      rw [e]
      exact ter_2t hs hx h2 a1 a2 a3 hq (toB_le a4)
    | false =>
      have e : termS X.l m t = .inl { m with nw := goC m.nw t.el } := by unfold termS; simp [h2, hq]
      rw [e]
      exact ter_2f hs hx h2 a1 a2 a3 hq (toB_le a5)
  by_cases h3 : t.k = 3
  · simp [h3] at ht
    obtain ⟨a1, a2⟩ := ht
    have ha : ∀ r ∈ t.args, rdB m.nw.rg.length r = true := fun r hr => by unfold readsB at a2; exact List.all_eq_true.1 a2 r hr
    have h8 : t.args.length ≤ 8 := by
      have := (form_parts (ck_fn hc hw.fn).1).2.2.2.1
      omega
    rcases List.eq_nil_or_concat m.bl with hb | ⟨bl, c, hb⟩
    · have e : termS X.l m t = .inr (1, 0) := by unfold termS leaveS; simp [h3, hb]
      rw [e]
      exact (ter_3a hs hx h3 hargs ha h8 hw.fn X.l[m.nw.fn].qu rfl (by omega) hb).mono fun e w' ⟨q1, z, nv, L, q2, q3, q4⟩ => Or.inl ⟨rfl, q1, z, nv, L, q2, q3, q4⟩
    · rw [List.concat_eq_append] at hb
      have el : m.bl.length = bl.length + 1 := by simp [hb]
      have hn := h.n
      have ec : callAt m bl.length = c := by
        rw [at_lt m _ (by omega)]
        simp [hb]
      have hcc := h.c bl.length (by omega)
      have hlk := h.k bl.length (by omega)
      rw [← el, at_nw] at hlk
      rw [ec] at hcc hlk
      obtain ⟨j, j1, j2, j3, j4⟩ := hlk
      have hmem : (blkO X.l c).li.getD j noLo ∈ (blkO X.l c).li := by rw [List.getD_eq_getElem?_getD, List.getElem?_eq_getElem j2]; exact List.getElem_mem j2
      have hib := (ck_blk hc hcc).1 _ hmem
      have hib : callB X.l (fnO X.l c.fn).rg ((blkO X.l c).li.getD j noLo) = true := by
        generalize (blkO X.l c).li.getD j noLo = x at hib j3
        unfold instrB at hib
        simpa [j3] using hib
      have eb := blk_get X.l c hcc.fn hcc.bk2
      have eg : (blkO X.l c).li.getD j noLo = (blkO X.l c).li[j] := by rw [List.getD_eq_getElem?_getD, List.getElem?_eq_getElem j2]; rfl
      have hset := (callB_regs hib).2
      have hdl : (((blkO X.l c).li.getD j noLo).dsts.length : Int) = (fnO X.l m.nw.fn).an := by
        unfold callB at hib
        rw [j4] at hib
        simp only [Bool.and_eq_true, decide_eq_true_eq, Int.toNat_natCast] at hib
        exact hib.1.1.2
      rw [eg] at hset hdl
      have e : termS X.l m t = .inl ⟨bl, setsR c (blkO X.l c).li[j].dsts (t.args.map (cw m.nw)), m.us, m.wo, m.ip, m.out, if (X.l[m.nw.fn]'hw.fn).qu then m.ld else m.ld - 1⟩ := by
        unfold termS leaveS
        have e1 : m.bl.getLast? = some c := by simp [hb]
        have e2 : m.bl.dropLast = bl := by simp [hb]
        have e3 : c.nx - 1 = j := by omega
        simp only [h3, e1, e2, e3, eg, fnO_get X.l m.nw.fn hw.fn]
        rfl
      rw [e]
      have key : (blkO X.l c).li[j].dsts = (((X.l[c.fn]'hcc.fn).bs[c.bk]'(hcc.bk2)).li[j]'(by rw [← eb]; exact j2)).dsts := by
        simp only [eb]
      rw [key] at hset hdl ⊢
      exact ter_3b hs hx h3 hargs ha h8 hw.fn X.l[m.nw.fn].qu rfl (by omega) bl c hb (by omega) hcc.fn hcc.bk2 j j1 (by rw [← eb]; exact j2) (lbs_len hs.hl c.fn hcc.fn) (by omega) fun r hr => by
        unfold setsB at hset
        have := List.all_eq_true.1 hset r hr
        rw [← hcc.rgz hc] at this
        unfold rgB at this
        simpa using this
  simp [h1, h2, h3] at ht
  have e : termS X.l m t = .inr (1, 101) := by unfold termS; simp [h1, h2, h3]
  rw [e]
  exact (ter_4 hs hx ht).mono fun e w' ⟨q1, q2⟩ => Or.inr ⟨by decide, q1, q2⟩
end
end Go.Proofs.YtapgaclonilnbaaDoor

/-
  Proved: what a step of low's machine does.
-/
namespace Go.Proofs.YtapgaclonilnbaaDoor
open Go.RowKit
set_option linter.unusedVariables false
set_option linter.unusedSimpArgs false

section
variable {X : Cx} {m : Mc} {st : Int} {L : Ly} {w w' : World}

theorem li_len {w : World} {l : List Lo} {v : Value} (h : SlIn w 8 LoIn l v) : l.length ≤ 281474976710656 := h.1

set_option maxHeartbeats 2000000 in
theorem go_c (hc : chk X.l = true) (h : WF X.l m) (hs : MS X m st L w) (hst : ¬ X.fu ≤ st) (hfu : X.fu ≤ 1000000) (hs0 : 0 ≤ st) (hout : m.out.length ≤ 10000000) :
    Calls Tryd.prog 19 #[.pointer (some ⟨X.R, 0, none⟩)] w fun e w' => GoR X m.out (st + 1) (stepS X.l m) e w' := by
  have hw := h.cw
  have hfn := hw.fn
  have hbk := hw.bk2
  obtain ⟨c1, c2⟩ := ck_blk hc hw
  have eb := blk_get X.l m.nw hfn hbk
  have hbs := lbs_len hs.hl m.nw.fn hfn
  obtain ⟨fb, fo, pv, BC, bb, bo, lA, lC, tv, g1, g2, g3, g4, g5⟩ := blk_at hs.hl m.nw.fn hfn m.nw.bk hbk
  have hnx := hw.nx
  rw [eb] at c1 c2 hnx
  by_cases hn : m.nw.nx = X.l[m.nw.fn].bs[m.nw.bk].li.length
  · have e : stepS X.l m = termS X.l m X.l[m.nw.fn].bs[m.nw.bk].tm := by
      unfold stepS
      rw [eb, if_pos (by omega)]
    rw [e]
    have hx : RowAt X.wz bb (bo + m.nw.bk * 8 + 1) (leC X.l[m.nw.fn].bs[m.nw.bk].tm tv) := ⟨g3.1, fun j v e => by have := g3.2 (j + 1) v e; rwa [show bo + m.nw.bk * 8 + (j + 1) = bo + m.nw.bk * 8 + 1 + j by omega] at this⟩
    have TC : ∀ w', MS X m (st + 1) L w' → Calls Tryd.prog 26 #[.pointer (some ⟨X.R, 0, none⟩), .pointer (some ⟨bb, bo + m.nw.bk * 8 + 1, none⟩)] w' fun e w2 => GoR X m.out (st + 1) (termS X.l m X.l[m.nw.fn].bs[m.nw.bk].tm) e w2 := fun w' hs' => rterm_c hc h hs' hx g5 c2
    cases hr : termS X.l m X.l[m.nw.fn].bs[m.nw.bk].tm with
    | inl m' =>
      rw [hr] at TC
      exact goOn_T_ok hs hst hfu hs0 hfn hbk hbs fb fo pv BC bb bo lA lC tv g1 g2 g3 hn (fun w' => ∃ L, MS X m' (st + 1) L w') TC
    | inr k =>
      rw [hr] at TC
      by_cases hk : k = (1, 0)
      · refine (goOn_T_ok hs hst hfu hs0 hfn hbk hbs fb fo pv BC bb bo lA lC tv g1 g2 g3 hn (fun w' => ∃ z nv L, z.cs = [] ∧ z.out = m.out ∧ MX X z nv (st + 1) L w') fun w' hs' => (TC w' hs').mono fun e w2 q => ?_).mono fun e w2 q => Or.inl ⟨hk, q⟩
        rcases q with q | q
        · exact q.2
        · exact absurd hk q.1
      · refine (goOn_T_no hs hst hfu hs0 hfn hbk hbs fb fo pv BC bb bo lA lC tv g1 g2 g3 hn (fun w' => ∃ z nv L, z.out = m.out ∧ MX X z nv (st + 1) L w') _ fun w' hs' => (TC w' hs').mono fun e w2 q => ?_).mono fun e w2 q => Or.inr ⟨hk, q⟩
        rcases q with q | q
        · exact absurd q.1 hk
        · exact q.2
  · have hlt : m.nw.nx < X.l[m.nw.fn].bs[m.nw.bk].li.length := by omega
    obtain ⟨n1, n2⟩ := next_in h (by rw [eb]; omega)
    obtain ⟨ib, io, av, dv, hlA, hx, htx, hav, hdv⟩ := ins_at g4 m.nw.nx hlt
    have eg : (blkO X.l m.nw).li.getD m.nw.nx noLo = X.l[m.nw.fn].bs[m.nw.bk].li[m.nw.nx] := by
      rw [eb, List.getD_eq_getElem?_getD, List.getElem?_eq_getElem hlt]
      rfl
    rw [eg] at n1
    have hib := c1 _ (by rw [eb] at n1; exact n1)
    have e : stepS X.l m = instrS X.l { m with nw := { m.nw with nx := m.nw.nx + 1 } } X.l[m.nw.fn].bs[m.nw.bk].li[m.nw.nx] := by
      unfold stepS
      rw [if_neg (by rw [eb]; omega), eg]
    rw [e]
    have IC : ∀ w', MS X { m with nw := { m.nw with nx := m.nw.nx + 1 } } (st + 1) L w' → Calls Tryd.prog 27 #[.pointer (some ⟨X.R, 0, none⟩), .pointer (some ⟨ib, io + m.nw.nx * 8, none⟩)] w' fun e w2 => InR X m.out (st + 1) (instrS X.l { m with nw := { m.nw with nx := m.nw.nx + 1 } } X.l[m.nw.fn].bs[m.nw.bk].li[m.nw.nx]) e w2 := fun w' hs' => ins_c hc n2 hs' hx htx hav hib hout
    cases hr : instrS X.l { m with nw := { m.nw with nx := m.nw.nx + 1 } } X.l[m.nw.fn].bs[m.nw.bk].li[m.nw.nx] with
    | inl m' =>
      rw [hr] at IC
      exact goOn_I_ok hs hst hfu hs0 hfn hbk hbs fb fo pv BC bb bo lA lC tv g1 g2 g3 hlt (li_len g4) ib io hlA (fun w' => ∃ L, MS X m' (st + 1) L w') IC
    | inr k =>
      rw [hr] at IC
      refine (goOn_I_no hs hst hfu hs0 hfn hbk hbs fb fo pv BC bb bo lA lC tv g1 g2 g3 hlt (li_len g4) ib io hlA (fun w' => k ≠ (1, 0) ∧ ∃ z nv L, z.out = m.out ∧ MX X z nv (st + 1) L w') _ IC).mono fun e w2 q => Or.inr ⟨q.2.1, q.1, q.2.2⟩
end
end Go.Proofs.YtapgaclonilnbaaDoor
