/-
  Proved: what goOn does at an instruction.
-/
import Derived.Test.YtapgaclonilnbaaDoorLgo
namespace Go.Proofs.YtapgaclonilnbaaDoor
open Go.RowKit
set_option linter.unusedVariables false
set_option linter.unusedSimpArgs false

section
variable {P : Program} {ops : Array Oper} {Q : Exit → Act → World → Prop} {md : Region.Mode} {R : Nat → World → Prop} {S : World → Prop} {need : Nat → Bool}
/-- Who does not need it waits, through others too. -/
def waitsU (md : Region.Mode) (ops : Array Oper) (need : Nat → Bool) (i : Nat) : Bool := (List.range ops.size).all fun j => need j || reach md ops 12 j i

theorem wpAnyN_takeU {i : Nat} {oi : Oper} {v : Value} {fuel : Nat} {listed : Array Bool} {a : Act} {w : World} (hi : ops[i]? = some oi)
    (hs : Region.noSelect ops = true) (hf : Region.free md ops listed i = true) (hr : (Region.ready md ops listed).contains i = true) (hn : waitsU md ops need i = true) (hc : closedB md ops listed = true)
    (hQ : ∀ c a w, Q (.panic c) (a.put oi.dst v) w → Q (.panic c) a w) (hy : YieldsIf P ops S oi v a) (hS : S w)
    (h : wpAnyN P md ops Q S need fuel (listed.setIfInBounds i true) (a.put oi.dst v) w) : wpAnyN P md ops Q S need (fuel + 1) listed a w :=
  anyR.firstT 12 hi (Region.noSelect_spec hs) hQ (fun _ hS _ => hS) (fun j oj ho hno w' hR => hR (by
    cases e : need j with
    | true => rfl
    | false =>
      have hlt : j < ops.size := (Array.getElem?_eq_some_iff.1 ho).1
      have h1 := List.all_eq_true.1 hn j (by simpa using hlt)
      rw [e, hno] at h1
      cases h1)) fuel listed a w (closed_of hc) (Region.free_spec hi hf) (by simpa using hr) hy hS h

end

section
variable {X : Cx} {m : Mc} {st : Int} {L : Ly} {w w' : World}

set_option maxRecDepth 20000 in
set_option maxHeartbeats 4000000 in
theorem goOn_I_ok (h : MS X m st L w) (hst : ¬ X.fu ≤ st) (hfu : X.fu ≤ 1000000) (hs0 : 0 ≤ st) (hk : m.nw.fn < X.l.length) (hb : m.nw.bk < X.l[m.nw.fn].bs.length) (hbs : X.l[m.nw.fn].bs.length ≤ 281474976710656) (fb fo : Nat) (pv : Value) (BC bb bo : Nat) (lA : Option Addr) (lC : Nat) (tv : Value) (g1 : fpV X m.nw.fn = .pointer (some ⟨fb, fo, none⟩)) (g2 : RowAt X.wz fb fo (lfC X.l[m.nw.fn] pv (.slice (some ⟨bb, bo, none⟩) X.l[m.nw.fn].bs.length BC)))
    (g3 : RowAt X.wz bb (bo + m.nw.bk * 8) (.slice lA X.l[m.nw.fn].bs[m.nw.bk].li.length lC :: leC X.l[m.nw.fn].bs[m.nw.bk].tm tv)) (hnx : m.nw.nx < X.l[m.nw.fn].bs[m.nw.bk].li.length) (hll : X.l[m.nw.fn].bs[m.nw.bk].li.length ≤ 281474976710656) (ib io : Nat) (hlA : lA = some ⟨ib, io, none⟩) (K : World → Prop) (IC : ∀ w', MS X { m with nw := { m.nw with nx := m.nw.nx + 1 } } (st + 1) L w' → Calls Tryd.prog 27 #[.pointer (some ⟨X.R, 0, none⟩), .pointer (some ⟨ib, io + m.nw.nx * 8, none⟩)] w' fun e w2 => e = .returned (.tuple #[]) ∧ K w2) :
    Calls Tryd.prog 19 #[.pointer (some ⟨X.R, 0, none⟩)] w fun e w' => e = .returned (.tuple #[]) ∧ K w' := by
  have c3 : w.cell? ⟨X.R, 3, none⟩ = some (.int .i64 X.fu) := h.rr.cell 3 (by omega)
  have c4 : w.cell? ⟨X.R, 4, none⟩ = some (.int .i64 st) := h.rr.cell 4 (by omega)
  have f4 : w.frozen? ⟨X.R, 4, none⟩ = false := h.rr.frozen 4
  obtain ⟨pn, hpn⟩ : ∃ pn, pn = L.pb m.bl.length := ⟨_, rfl⟩
  have PN : Hid (pn = L.pb m.bl.length) := hpn
  have H1 : Hid (∀ q, MS X m (st + 1) L ((w.drewN q).setCell ⟨X.R, 4, none⟩ (.int .i64 (st + 1)))) := fun q => (h.below (below_drewN w q)).steps (st + 1)
  have HC : Hid (∀ w', MS X m (st + 1) L w' → w'.cell? ⟨X.R, 7, none⟩ = some (.pointer (some ⟨pn, 0, none⟩)) ∧ w'.cell? ⟨pn, 0, none⟩ = some (.pointer (some ⟨fb, fo, none⟩)) ∧ w'.cell? ⟨pn, 4, none⟩ = some (.int .i64 (m.nw.bk : Int)) ∧ w'.cell? ⟨pn, 5, none⟩ = some (.int .i64 (m.nw.nx : Int)) ∧ w'.frozen? ⟨pn, 5, none⟩ = false ∧ w'.cell? ⟨fb, fo + 6, none⟩ = some (.slice (some ⟨bb, bo, none⟩) X.l[m.nw.fn].bs.length BC) ∧ w'.cell? ⟨bb, bo + m.nw.bk * 8, none⟩ = some (.slice lA X.l[m.nw.fn].bs[m.nw.bk].li.length lC)) := fun w' hw => by
    rw [hpn]
    exact ⟨hw.rr.cell 7 (by omega), by rw [← g1]; exact hw.now.s.cell 0 (by omega), hw.now.s.cell 4 (by omega), hw.now.s.cell 5 (by omega), hw.now.s.frozen 5, (hw.bz.cell (p := ⟨fb, fo + 6, none⟩) g2.1).trans (g2.at 6 rfl), (hw.bz.cell (p := ⟨bb, bo + m.nw.bk * 8 + 0, none⟩) g3.1).trans (g3.at 0 rfl)⟩
  have hbz : (m.nw.bk : Int) < X.l[m.nw.fn].bs.length := by omega
  have hw1 : IntKind.i64.wrap (st + 1) = st + 1 := wrap_in _ ⟨by omega, by omega⟩
  have IC : Hid (∀ w', MS X { m with nw := { m.nw with nx := m.nw.nx + 1 } } (st + 1) L w' → Calls Tryd.prog 27 #[.pointer (some ⟨X.R, 0, none⟩), .pointer (some ⟨ib, io + m.nw.nx * 8, none⟩)] w' fun e w2 => e = .returned (.tuple #[]) ∧ K w2) := IC
  have HD : Hid (∀ w', MS X { m with nw := { m.nw with nx := m.nw.nx + 1 } } (st + 1) L w' → w'.cell? ⟨X.R, 7, none⟩ = some (.pointer (some ⟨pn, 0, none⟩)) ∧ w'.cell? ⟨pn, 5, none⟩ = some (.int .i64 ((m.nw.nx : Int) + 1)) ∧ w'.cell? ⟨bb, bo + m.nw.bk * 8, none⟩ = some (.slice (some ⟨ib, io, none⟩) X.l[m.nw.fn].bs[m.nw.bk].li.length lC)) := fun w' hw => by
    rw [hpn]
    have hc5 := hw.now.s.cell 5 (by omega)
    simp only [clF, Int.natCast_add, Int.cast_ofNat_Int] at hc5
    exact ⟨hw.rr.cell 7 (by omega), hc5, (hw.bz.cell (p := ⟨bb, bo + m.nw.bk * 8 + 0, none⟩) g3.1).trans (g3.at 0 (by rw [hlA]; rfl))⟩
  rw [hlA] at HC
  have hnz : (m.nw.nx : Int) < X.l[m.nw.fn].bs[m.nw.bk].li.length := by omega
  have hne : ¬ m.nw.nx = X.l[m.nw.fn].bs[m.nw.bk].li.length := by omega
  have hnez : ¬ (m.nw.nx : Int) = X.l[m.nw.fn].bs[m.nw.bk].li.length := by omega
  have hwn : IntKind.i64.wrap (m.nw.nx : Int) = (m.nw.nx : Int) := wrap_in _ ⟨by omega, by omega⟩
  have hwn1 : IntKind.i64.wrap ((m.nw.nx : Int) + 1) = (m.nw.nx : Int) + 1 := wrap_in _ ⟨by omega, by omega⟩
  have hwn2 : (m.nw.nx : Int) + 1 - 1 = (m.nw.nx : Int) := by omega
  clear hlA
  clear h g1 g2 g3 hpn

  go_enter Tryd.func19, Tryd.ntmps19
  go_wp2
  go_quiet (fail)
  go_wp2
  have M1 : Hid (MS X m (st + 1) L ((w.drewN nq).setCell ⟨X.R, 4, none⟩ (.int .i64 (st + 1)))) := H1.out _
  clear c3 c4 f4 H1
  generalize (w.drewN nq).setCell ⟨X.R, 4, none⟩ (.int .i64 (st + 1)) = w1 at *
  obtain ⟨k7, k0, k4, k5, kf, k6, k8⟩ := HC.out w1 M1.out
  go_quiet (fail)
  go_wp2
  generalize nq = nqa at *
  go_quiet (fail)
  have M2 : Hid (∀ q, MS X m (st + 1) L (w1.drewN q)) := fun q => M1.out.below (below_drewN _ _)
  go_wp2
  have M3 : Hid (∀ q, MS X { m with nw := { m.nw with nx := m.nw.nx + 1 } } (st + 1) L ((w1.drewN q).setCell ⟨pn, 5, none⟩ (.int .i64 ((m.nw.nx : Int) + 1)))) := fun q => (by rw [PN.out]; exact (M2.out q).next)
  have M4 : Hid (MS X { m with nw := { m.nw with nx := m.nw.nx + 1 } } (st + 1) L ((w1.drewN (nqa + nq)).setCell ⟨pn, 5, none⟩ (.int .i64 ((m.nw.nx : Int) + 1)))) := M3.out _
  clear M3
  clear k7 k0 k4 k5 kf k6 k8 M1 M2
  generalize ((w1.drewN (nqa + nq)).setCell ⟨pn, 5, none⟩ (.int .i64 ((m.nw.nx : Int) + 1))) = w2 at *
  have S7F : Hid (w2.drew.cell? ⟨X.R, 7, none⟩ = some (.pointer (some ⟨pn, 0, none⟩)) ∧ w2.drew.cell? ⟨pn, 5, none⟩ = some (.int .i64 ((m.nw.nx : Int) + 1)) ∧ w2.drew.cell? ⟨bb, bo + m.nw.bk * 8, none⟩ = some (.slice (some ⟨ib, io, none⟩) X.l[m.nw.fn].bs[m.nw.bk].li.length lC)) := (HD.out w2.drew (M4.out.below (below_drew _)))
  have M4 : Hid (MS X { m with nw := { m.nw with nx := m.nw.nx + 1 } } (st + 1) L w2.drew) := M4.out.below (below_drew _)
  refine wp_region_N (fun w' => w'.cell? ⟨X.R, 7, none⟩ = some (.pointer (some ⟨pn, 0, none⟩)) ∧ w'.cell? ⟨pn, 5, none⟩ = some (.int .i64 ((m.nw.nx : Int) + 1)) ∧ w'.cell? ⟨bb, bo + m.nw.bk * 8, none⟩ = some (.slice (some ⟨ib, io, none⟩) X.l[m.nw.fn].bs[m.nw.bk].li.length lC)) (fun i => i != 14) mixedE ((S7F.out)) ?_
  intro S0
  generalize w2.drew = wq at *
  refine wpAnyN_takeU (i := 0) (v := ?_) rfl (by kernel_rfl) (by kernel_rfl) (by kernel_rfl) (by kernel_rfl) (by kernel_rfl) (fun _ _ _ h => h) (Or.inl ⟨by rfl, ?_⟩) S0 ?_
  rotate_left
  · intro w' hS'
    obtain ⟨h0, h1, h2⟩ := hS'
    (try go_simp)
    first | done | exact rfl | exact ⟨rfl, rfl⟩
  (try simp only [Act.put, List.getElem_toArray, List.getElem_cons_zero, List.setIfInBounds_toArray, List.set_cons_zero, List.set_cons_succ])
  refine wpAnyN_takeU (i := 1) (v := ?_) rfl (by kernel_rfl) (by kernel_rfl) (by kernel_rfl) (by kernel_rfl) (by kernel_rfl) (fun _ _ _ h => h) (Or.inl ⟨by rfl, ?_⟩) S0 ?_
  rotate_left
  · intro w' hS'
    obtain ⟨h0, h1, h2⟩ := hS'
    (try go_simp)
    first | done | exact rfl | exact ⟨rfl, rfl⟩
  (try simp only [Act.put, List.getElem_toArray, List.getElem_cons_succ, List.getElem_cons_zero, List.setIfInBounds_toArray, List.set_cons_zero, List.set_cons_succ])
  refine wpAnyN_takeU (i := 2) (v := ?_) rfl (by kernel_rfl) (by kernel_rfl) (by kernel_rfl) (by kernel_rfl) (by kernel_rfl) (fun _ _ _ h => h) (Or.inl ⟨by rfl, ?_⟩) S0 ?_
  rotate_left
  · intro w' hS'
    obtain ⟨h0, h1, h2⟩ := hS'
    (try go_simp)
    first | done | exact rfl | exact ⟨rfl, rfl⟩
  (try simp only [Act.put, List.getElem_toArray, List.getElem_cons_succ, List.getElem_cons_zero, List.setIfInBounds_toArray, List.set_cons_zero, List.set_cons_succ])
  refine wpAnyN_takeU (i := 3) (v := ?_) rfl (by kernel_rfl) (by kernel_rfl) (by kernel_rfl) (by kernel_rfl) (by kernel_rfl) (fun _ _ _ h => h) (Or.inl ⟨by rfl, ?_⟩) S0 ?_
  rotate_left
  · intro w' hS'
    obtain ⟨h0, h1, h2⟩ := hS'
    (try go_simp)
    first | done | exact rfl | exact ⟨rfl, rfl⟩
  (try simp only [Act.put, List.getElem_toArray, List.getElem_cons_succ, List.getElem_cons_zero, List.setIfInBounds_toArray, List.set_cons_zero, List.set_cons_succ])
  refine wpAnyN_takeU (i := 4) (v := ?_) rfl (by kernel_rfl) (by kernel_rfl) (by kernel_rfl) (by kernel_rfl) (by kernel_rfl) (fun _ _ _ h => h) (Or.inl ⟨by rfl, ?_⟩) S0 ?_
  rotate_left
  · intro w' hS'
    obtain ⟨h0, h1, h2⟩ := hS'
    (try go_simp)
    first | done | exact rfl | exact ⟨rfl, rfl⟩
  (try simp only [Act.put, List.getElem_toArray, List.getElem_cons_succ, List.getElem_cons_zero, List.setIfInBounds_toArray, List.set_cons_zero, List.set_cons_succ])
  refine wpAnyN_takeU (i := 5) (v := ?_) rfl (by kernel_rfl) (by kernel_rfl) (by kernel_rfl) (by kernel_rfl) (by kernel_rfl) (fun _ _ _ h => h) (Or.inl ⟨by rfl, ?_⟩) S0 ?_
  rotate_left
  · intro w' hS'
    obtain ⟨h0, h1, h2⟩ := hS'
    (try go_simp)
    first | done | exact rfl | exact ⟨rfl, rfl⟩
  (try simp only [Act.put, List.getElem_toArray, List.getElem_cons_succ, List.getElem_cons_zero, List.setIfInBounds_toArray, List.set_cons_zero, List.set_cons_succ])
  refine wpAnyN_takeU (i := 6) (v := ?_) rfl (by kernel_rfl) (by kernel_rfl) (by kernel_rfl) (by kernel_rfl) (by kernel_rfl) (fun _ _ _ h => h) (Or.inl ⟨by rfl, ?_⟩) S0 ?_
  rotate_left
  · intro w' hS'
    obtain ⟨h0, h1, h2⟩ := hS'
    (try go_simp)
    first | done | exact rfl | exact ⟨rfl, rfl⟩
  (try simp only [Act.put, List.getElem_toArray, List.getElem_cons_succ, List.getElem_cons_zero, List.setIfInBounds_toArray, List.set_cons_zero, List.set_cons_succ])
  refine wpAnyN_takeU (i := 7) (v := ?_) rfl (by kernel_rfl) (by kernel_rfl) (by kernel_rfl) (by kernel_rfl) (by kernel_rfl) (fun _ _ _ h => h) (Or.inl ⟨by rfl, ?_⟩) S0 ?_
  rotate_left
  · intro w' hS'
    obtain ⟨h0, h1, h2⟩ := hS'
    (try go_simp)
    first | done | exact rfl | exact ⟨rfl, rfl⟩
  (try simp only [Act.put, List.getElem_toArray, List.getElem_cons_succ, List.getElem_cons_zero, List.setIfInBounds_toArray, List.set_cons_zero, List.set_cons_succ])
  refine wpAnyN_takeU (i := 8) (v := ?_) rfl (by kernel_rfl) (by kernel_rfl) (by kernel_rfl) (by kernel_rfl) (by kernel_rfl) (fun _ _ _ h => h) (Or.inl ⟨by rfl, ?_⟩) S0 ?_
  rotate_left
  · intro w' hS'
    obtain ⟨h0, h1, h2⟩ := hS'
    (try go_simp)
    first | done | exact rfl | exact ⟨rfl, rfl⟩
  (try simp only [Act.put, List.getElem_toArray, List.getElem_cons_succ, List.getElem_cons_zero, List.setIfInBounds_toArray, List.set_cons_zero, List.set_cons_succ])
  refine wpAnyN_takeU (i := 9) (v := ?_) rfl (by kernel_rfl) (by kernel_rfl) (by kernel_rfl) (by kernel_rfl) (by kernel_rfl) (fun _ _ _ h => h) (Or.inl ⟨by rfl, ?_⟩) S0 ?_
  rotate_left
  · intro w' hS'
    obtain ⟨h0, h1, h2⟩ := hS'
    (try go_simp)
    first | done | exact rfl | exact ⟨rfl, rfl⟩
  (try simp only [Act.put, List.getElem_toArray, List.getElem_cons_succ, List.getElem_cons_zero, List.setIfInBounds_toArray, List.set_cons_zero, List.set_cons_succ])
  refine wpAnyN_takeU (i := 10) (v := ?_) rfl (by kernel_rfl) (by kernel_rfl) (by kernel_rfl) (by kernel_rfl) (by kernel_rfl) (fun _ _ _ h => h) (Or.inl ⟨by rfl, ?_⟩) S0 ?_
  rotate_left
  · intro w' hS'
    obtain ⟨h0, h1, h2⟩ := hS'
    (try go_simp)
    first | done | exact rfl | exact ⟨rfl, rfl⟩
  (try simp only [Act.put, List.getElem_toArray, List.getElem_cons_succ, List.getElem_cons_zero, List.setIfInBounds_toArray, List.set_cons_zero, List.set_cons_succ])
  refine wpAnyN_takeU (i := 11) (v := ?_) rfl (by kernel_rfl) (by kernel_rfl) (by kernel_rfl) (by kernel_rfl) (by kernel_rfl) (fun _ _ _ h => h) (Or.inl ⟨by rfl, ?_⟩) S0 ?_
  rotate_left
  · intro w' hS'
    obtain ⟨h0, h1, h2⟩ := hS'
    (try go_simp)
    first | done | exact rfl | exact ⟨rfl, rfl⟩
  (try simp only [Act.put, List.getElem_toArray, List.getElem_cons_succ, List.getElem_cons_zero, List.setIfInBounds_toArray, List.set_cons_zero, List.set_cons_succ])
  refine wpAnyN_takeU (i := 12) (v := ?_) rfl (by kernel_rfl) (by kernel_rfl) (by kernel_rfl) (by kernel_rfl) (by kernel_rfl) (fun _ _ _ h => h) (Or.inl ⟨by rfl, ?_⟩) S0 ?_
  rotate_left
  · intro w' hS'
    obtain ⟨h0, h1, h2⟩ := hS'
    (try go_simp)
    first | done | exact rfl | exact ⟨rfl, rfl⟩
  (try simp only [Act.put, List.getElem_toArray, List.getElem_cons_succ, List.getElem_cons_zero, List.setIfInBounds_toArray, List.set_cons_zero, List.set_cons_succ])
  refine wpAnyN_takeU (i := 13) (v := ?_) rfl (by kernel_rfl) (by kernel_rfl) (by kernel_rfl) (by kernel_rfl) (by kernel_rfl) (fun _ _ _ h => h) (Or.inl ⟨by rfl, ?_⟩) S0 ?_
  rotate_left
  · intro w' hS'
    obtain ⟨h0, h1, h2⟩ := hS'
    (try go_simp)
    first | done | exact rfl | exact ⟨rfl, rfl⟩
  (try simp only [Act.put, List.getElem_toArray, List.getElem_cons_succ, List.getElem_cons_zero, List.setIfInBounds_toArray, List.set_cons_zero, List.set_cons_succ])
  refine wpAnyN_one (i := 14) (by kernel_rfl) rfl (fun K' hK => ?_)
  go_simp
  refine Calls.mono (IC.out _ M4.out) ?_
  rintro e w7 ⟨rfl, hk7⟩
  go_wp2_with fail
  refine hK _ _ (fun h => by cases h) ?_
  clear hK K'
  (try simp only [Act.put, List.getElem_toArray, List.getElem_cons_succ, List.getElem_cons_zero, List.setIfInBounds_toArray, List.set_cons_zero, List.set_cons_succ])
  have S15 := S0
  refine wpAnyN_done (by kernel_rfl) ?_ _
  go_wp2
  go_end0
  exact ⟨rfl, hk7⟩

set_option maxRecDepth 20000 in
set_option maxHeartbeats 4000000 in
theorem goOn_I_no (h : MS X m st L w) (hst : ¬ X.fu ≤ st) (hfu : X.fu ≤ 1000000) (hs0 : 0 ≤ st) (hk : m.nw.fn < X.l.length) (hb : m.nw.bk < X.l[m.nw.fn].bs.length) (hbs : X.l[m.nw.fn].bs.length ≤ 281474976710656) (fb fo : Nat) (pv : Value) (BC bb bo : Nat) (lA : Option Addr) (lC : Nat) (tv : Value) (g1 : fpV X m.nw.fn = .pointer (some ⟨fb, fo, none⟩)) (g2 : RowAt X.wz fb fo (lfC X.l[m.nw.fn] pv (.slice (some ⟨bb, bo, none⟩) X.l[m.nw.fn].bs.length BC)))
    (g3 : RowAt X.wz bb (bo + m.nw.bk * 8) (.slice lA X.l[m.nw.fn].bs[m.nw.bk].li.length lC :: leC X.l[m.nw.fn].bs[m.nw.bk].tm tv)) (hnx : m.nw.nx < X.l[m.nw.fn].bs[m.nw.bk].li.length) (hll : X.l[m.nw.fn].bs[m.nw.bk].li.length ≤ 281474976710656) (ib io : Nat) (hlA : lA = some ⟨ib, io, none⟩) (K : World → Prop) (p : List PanicEntry) (IC : ∀ w', MS X { m with nw := { m.nw with nx := m.nw.nx + 1 } } (st + 1) L w' → Calls Tryd.prog 27 #[.pointer (some ⟨X.R, 0, none⟩), .pointer (some ⟨ib, io + m.nw.nx * 8, none⟩)] w' fun e w2 => e = .panicked p ∧ K w2) :
    Calls Tryd.prog 19 #[.pointer (some ⟨X.R, 0, none⟩)] w fun e w' => e = .panicked p ∧ K w' := by
  have c3 : w.cell? ⟨X.R, 3, none⟩ = some (.int .i64 X.fu) := h.rr.cell 3 (by omega)
  have c4 : w.cell? ⟨X.R, 4, none⟩ = some (.int .i64 st) := h.rr.cell 4 (by omega)
  have f4 : w.frozen? ⟨X.R, 4, none⟩ = false := h.rr.frozen 4
  obtain ⟨pn, hpn⟩ : ∃ pn, pn = L.pb m.bl.length := ⟨_, rfl⟩
  have PN : Hid (pn = L.pb m.bl.length) := hpn
  have H1 : Hid (∀ q, MS X m (st + 1) L ((w.drewN q).setCell ⟨X.R, 4, none⟩ (.int .i64 (st + 1)))) := fun q => (h.below (below_drewN w q)).steps (st + 1)
  have HC : Hid (∀ w', MS X m (st + 1) L w' → w'.cell? ⟨X.R, 7, none⟩ = some (.pointer (some ⟨pn, 0, none⟩)) ∧ w'.cell? ⟨pn, 0, none⟩ = some (.pointer (some ⟨fb, fo, none⟩)) ∧ w'.cell? ⟨pn, 4, none⟩ = some (.int .i64 (m.nw.bk : Int)) ∧ w'.cell? ⟨pn, 5, none⟩ = some (.int .i64 (m.nw.nx : Int)) ∧ w'.frozen? ⟨pn, 5, none⟩ = false ∧ w'.cell? ⟨fb, fo + 6, none⟩ = some (.slice (some ⟨bb, bo, none⟩) X.l[m.nw.fn].bs.length BC) ∧ w'.cell? ⟨bb, bo + m.nw.bk * 8, none⟩ = some (.slice lA X.l[m.nw.fn].bs[m.nw.bk].li.length lC)) := fun w' hw => by
    rw [hpn]
    exact ⟨hw.rr.cell 7 (by omega), by rw [← g1]; exact hw.now.s.cell 0 (by omega), hw.now.s.cell 4 (by omega), hw.now.s.cell 5 (by omega), hw.now.s.frozen 5, (hw.bz.cell (p := ⟨fb, fo + 6, none⟩) g2.1).trans (g2.at 6 rfl), (hw.bz.cell (p := ⟨bb, bo + m.nw.bk * 8 + 0, none⟩) g3.1).trans (g3.at 0 rfl)⟩
  have hbz : (m.nw.bk : Int) < X.l[m.nw.fn].bs.length := by omega
  have hw1 : IntKind.i64.wrap (st + 1) = st + 1 := wrap_in _ ⟨by omega, by omega⟩
  have IC : Hid (∀ w', MS X { m with nw := { m.nw with nx := m.nw.nx + 1 } } (st + 1) L w' → Calls Tryd.prog 27 #[.pointer (some ⟨X.R, 0, none⟩), .pointer (some ⟨ib, io + m.nw.nx * 8, none⟩)] w' fun e w2 => e = .panicked p ∧ K w2) := IC
  have HD : Hid (∀ w', MS X { m with nw := { m.nw with nx := m.nw.nx + 1 } } (st + 1) L w' → w'.cell? ⟨X.R, 7, none⟩ = some (.pointer (some ⟨pn, 0, none⟩)) ∧ w'.cell? ⟨pn, 5, none⟩ = some (.int .i64 ((m.nw.nx : Int) + 1)) ∧ w'.cell? ⟨bb, bo + m.nw.bk * 8, none⟩ = some (.slice (some ⟨ib, io, none⟩) X.l[m.nw.fn].bs[m.nw.bk].li.length lC)) := fun w' hw => by
    rw [hpn]
    have hc5 := hw.now.s.cell 5 (by omega)
    simp only [clF, Int.natCast_add, Int.cast_ofNat_Int] at hc5
    exact ⟨hw.rr.cell 7 (by omega), hc5, (hw.bz.cell (p := ⟨bb, bo + m.nw.bk * 8 + 0, none⟩) g3.1).trans (g3.at 0 (by rw [hlA]; rfl))⟩
  rw [hlA] at HC
  have hnz : (m.nw.nx : Int) < X.l[m.nw.fn].bs[m.nw.bk].li.length := by omega
  have hne : ¬ m.nw.nx = X.l[m.nw.fn].bs[m.nw.bk].li.length := by omega
  have hnez : ¬ (m.nw.nx : Int) = X.l[m.nw.fn].bs[m.nw.bk].li.length := by omega
  have hwn : IntKind.i64.wrap (m.nw.nx : Int) = (m.nw.nx : Int) := wrap_in _ ⟨by omega, by omega⟩
  have hwn1 : IntKind.i64.wrap ((m.nw.nx : Int) + 1) = (m.nw.nx : Int) + 1 := wrap_in _ ⟨by omega, by omega⟩
  have hwn2 : (m.nw.nx : Int) + 1 - 1 = (m.nw.nx : Int) := by omega
  clear hlA
  clear h g1 g2 g3 hpn

  go_enter Tryd.func19, Tryd.ntmps19
  go_wp2
  go_quiet (fail)
  go_wp2
  have M1 : Hid (MS X m (st + 1) L ((w.drewN nq).setCell ⟨X.R, 4, none⟩ (.int .i64 (st + 1)))) := H1.out _
  clear c3 c4 f4 H1
  generalize (w.drewN nq).setCell ⟨X.R, 4, none⟩ (.int .i64 (st + 1)) = w1 at *
  obtain ⟨k7, k0, k4, k5, kf, k6, k8⟩ := HC.out w1 M1.out
  go_quiet (fail)
  go_wp2
  generalize nq = nqa at *
  go_quiet (fail)
  have M2 : Hid (∀ q, MS X m (st + 1) L (w1.drewN q)) := fun q => M1.out.below (below_drewN _ _)
  go_wp2
  have M3 : Hid (∀ q, MS X { m with nw := { m.nw with nx := m.nw.nx + 1 } } (st + 1) L ((w1.drewN q).setCell ⟨pn, 5, none⟩ (.int .i64 ((m.nw.nx : Int) + 1)))) := fun q => (by rw [PN.out]; exact (M2.out q).next)
  have M4 : Hid (MS X { m with nw := { m.nw with nx := m.nw.nx + 1 } } (st + 1) L ((w1.drewN (nqa + nq)).setCell ⟨pn, 5, none⟩ (.int .i64 ((m.nw.nx : Int) + 1)))) := M3.out _
  clear M3
  clear k7 k0 k4 k5 kf k6 k8 M1 M2
  generalize ((w1.drewN (nqa + nq)).setCell ⟨pn, 5, none⟩ (.int .i64 ((m.nw.nx : Int) + 1))) = w2 at *
  have S7F : Hid (w2.drew.cell? ⟨X.R, 7, none⟩ = some (.pointer (some ⟨pn, 0, none⟩)) ∧ w2.drew.cell? ⟨pn, 5, none⟩ = some (.int .i64 ((m.nw.nx : Int) + 1)) ∧ w2.drew.cell? ⟨bb, bo + m.nw.bk * 8, none⟩ = some (.slice (some ⟨ib, io, none⟩) X.l[m.nw.fn].bs[m.nw.bk].li.length lC)) := (HD.out w2.drew (M4.out.below (below_drew _)))
  have M4 : Hid (MS X { m with nw := { m.nw with nx := m.nw.nx + 1 } } (st + 1) L w2.drew) := M4.out.below (below_drew _)
  refine wp_region_N (fun w' => w'.cell? ⟨X.R, 7, none⟩ = some (.pointer (some ⟨pn, 0, none⟩)) ∧ w'.cell? ⟨pn, 5, none⟩ = some (.int .i64 ((m.nw.nx : Int) + 1)) ∧ w'.cell? ⟨bb, bo + m.nw.bk * 8, none⟩ = some (.slice (some ⟨ib, io, none⟩) X.l[m.nw.fn].bs[m.nw.bk].li.length lC)) (fun i => i != 14) mixedE ((S7F.out)) ?_
  intro S0
  generalize w2.drew = wq at *
  refine wpAnyN_takeU (i := 0) (v := ?_) rfl (by kernel_rfl) (by kernel_rfl) (by kernel_rfl) (by kernel_rfl) (by kernel_rfl) (fun _ _ _ h => h) (Or.inl ⟨by rfl, ?_⟩) S0 ?_
  rotate_left
  · intro w' hS'
    obtain ⟨h0, h1, h2⟩ := hS'
    (try go_simp)
    first | done | exact rfl | exact ⟨rfl, rfl⟩
  (try simp only [Act.put, List.getElem_toArray, List.getElem_cons_zero, List.setIfInBounds_toArray, List.set_cons_zero, List.set_cons_succ])
  refine wpAnyN_takeU (i := 1) (v := ?_) rfl (by kernel_rfl) (by kernel_rfl) (by kernel_rfl) (by kernel_rfl) (by kernel_rfl) (fun _ _ _ h => h) (Or.inl ⟨by rfl, ?_⟩) S0 ?_
  rotate_left
  · intro w' hS'
    obtain ⟨h0, h1, h2⟩ := hS'
    (try go_simp)
    first | done | exact rfl | exact ⟨rfl, rfl⟩
  (try simp only [Act.put, List.getElem_toArray, List.getElem_cons_succ, List.getElem_cons_zero, List.setIfInBounds_toArray, List.set_cons_zero, List.set_cons_succ])
  refine wpAnyN_takeU (i := 2) (v := ?_) rfl (by kernel_rfl) (by kernel_rfl) (by kernel_rfl) (by kernel_rfl) (by kernel_rfl) (fun _ _ _ h => h) (Or.inl ⟨by rfl, ?_⟩) S0 ?_
  rotate_left
  · intro w' hS'
    obtain ⟨h0, h1, h2⟩ := hS'
    (try go_simp)
    first | done | exact rfl | exact ⟨rfl, rfl⟩
  (try simp only [Act.put, List.getElem_toArray, List.getElem_cons_succ, List.getElem_cons_zero, List.setIfInBounds_toArray, List.set_cons_zero, List.set_cons_succ])
  refine wpAnyN_takeU (i := 3) (v := ?_) rfl (by kernel_rfl) (by kernel_rfl) (by kernel_rfl) (by kernel_rfl) (by kernel_rfl) (fun _ _ _ h => h) (Or.inl ⟨by rfl, ?_⟩) S0 ?_
  rotate_left
  · intro w' hS'
    obtain ⟨h0, h1, h2⟩ := hS'
    (try go_simp)
    first | done | exact rfl | exact ⟨rfl, rfl⟩
  (try simp only [Act.put, List.getElem_toArray, List.getElem_cons_succ, List.getElem_cons_zero, List.setIfInBounds_toArray, List.set_cons_zero, List.set_cons_succ])
  refine wpAnyN_takeU (i := 4) (v := ?_) rfl (by kernel_rfl) (by kernel_rfl) (by kernel_rfl) (by kernel_rfl) (by kernel_rfl) (fun _ _ _ h => h) (Or.inl ⟨by rfl, ?_⟩) S0 ?_
  rotate_left
  · intro w' hS'
    obtain ⟨h0, h1, h2⟩ := hS'
    (try go_simp)
    first | done | exact rfl | exact ⟨rfl, rfl⟩
  (try simp only [Act.put, List.getElem_toArray, List.getElem_cons_succ, List.getElem_cons_zero, List.setIfInBounds_toArray, List.set_cons_zero, List.set_cons_succ])
  refine wpAnyN_takeU (i := 5) (v := ?_) rfl (by kernel_rfl) (by kernel_rfl) (by kernel_rfl) (by kernel_rfl) (by kernel_rfl) (fun _ _ _ h => h) (Or.inl ⟨by rfl, ?_⟩) S0 ?_
  rotate_left
  · intro w' hS'
    obtain ⟨h0, h1, h2⟩ := hS'
    (try go_simp)
    first | done | exact rfl | exact ⟨rfl, rfl⟩
  (try simp only [Act.put, List.getElem_toArray, List.getElem_cons_succ, List.getElem_cons_zero, List.setIfInBounds_toArray, List.set_cons_zero, List.set_cons_succ])
  refine wpAnyN_takeU (i := 6) (v := ?_) rfl (by kernel_rfl) (by kernel_rfl) (by kernel_rfl) (by kernel_rfl) (by kernel_rfl) (fun _ _ _ h => h) (Or.inl ⟨by rfl, ?_⟩) S0 ?_
  rotate_left
  · intro w' hS'
    obtain ⟨h0, h1, h2⟩ := hS'
    (try go_simp)
    first | done | exact rfl | exact ⟨rfl, rfl⟩
  (try simp only [Act.put, List.getElem_toArray, List.getElem_cons_succ, List.getElem_cons_zero, List.setIfInBounds_toArray, List.set_cons_zero, List.set_cons_succ])
  refine wpAnyN_takeU (i := 7) (v := ?_) rfl (by kernel_rfl) (by kernel_rfl) (by kernel_rfl) (by kernel_rfl) (by kernel_rfl) (fun _ _ _ h => h) (Or.inl ⟨by rfl, ?_⟩) S0 ?_
  rotate_left
  · intro w' hS'
    obtain ⟨h0, h1, h2⟩ := hS'
    (try go_simp)
    first | done | exact rfl | exact ⟨rfl, rfl⟩
  (try simp only [Act.put, List.getElem_toArray, List.getElem_cons_succ, List.getElem_cons_zero, List.setIfInBounds_toArray, List.set_cons_zero, List.set_cons_succ])
  refine wpAnyN_takeU (i := 8) (v := ?_) rfl (by kernel_rfl) (by kernel_rfl) (by kernel_rfl) (by kernel_rfl) (by kernel_rfl) (fun _ _ _ h => h) (Or.inl ⟨by rfl, ?_⟩) S0 ?_
  rotate_left
  · intro w' hS'
    obtain ⟨h0, h1, h2⟩ := hS'
    (try go_simp)
    first | done | exact rfl | exact ⟨rfl, rfl⟩
  (try simp only [Act.put, List.getElem_toArray, List.getElem_cons_succ, List.getElem_cons_zero, List.setIfInBounds_toArray, List.set_cons_zero, List.set_cons_succ])
  refine wpAnyN_takeU (i := 9) (v := ?_) rfl (by kernel_rfl) (by kernel_rfl) (by kernel_rfl) (by kernel_rfl) (by kernel_rfl) (fun _ _ _ h => h) (Or.inl ⟨by rfl, ?_⟩) S0 ?_
  rotate_left
  · intro w' hS'
    obtain ⟨h0, h1, h2⟩ := hS'
    (try go_simp)
    first | done | exact rfl | exact ⟨rfl, rfl⟩
  (try simp only [Act.put, List.getElem_toArray, List.getElem_cons_succ, List.getElem_cons_zero, List.setIfInBounds_toArray, List.set_cons_zero, List.set_cons_succ])
  refine wpAnyN_takeU (i := 10) (v := ?_) rfl (by kernel_rfl) (by kernel_rfl) (by kernel_rfl) (by kernel_rfl) (by kernel_rfl) (fun _ _ _ h => h) (Or.inl ⟨by rfl, ?_⟩) S0 ?_
  rotate_left
  · intro w' hS'
    obtain ⟨h0, h1, h2⟩ := hS'
    (try go_simp)
    first | done | exact rfl | exact ⟨rfl, rfl⟩
  (try simp only [Act.put, List.getElem_toArray, List.getElem_cons_succ, List.getElem_cons_zero, List.setIfInBounds_toArray, List.set_cons_zero, List.set_cons_succ])
  refine wpAnyN_takeU (i := 11) (v := ?_) rfl (by kernel_rfl) (by kernel_rfl) (by kernel_rfl) (by kernel_rfl) (by kernel_rfl) (fun _ _ _ h => h) (Or.inl ⟨by rfl, ?_⟩) S0 ?_
  rotate_left
  · intro w' hS'
    obtain ⟨h0, h1, h2⟩ := hS'
    (try go_simp)
    first | done | exact rfl | exact ⟨rfl, rfl⟩
  (try simp only [Act.put, List.getElem_toArray, List.getElem_cons_succ, List.getElem_cons_zero, List.setIfInBounds_toArray, List.set_cons_zero, List.set_cons_succ])
  refine wpAnyN_takeU (i := 12) (v := ?_) rfl (by kernel_rfl) (by kernel_rfl) (by kernel_rfl) (by kernel_rfl) (by kernel_rfl) (fun _ _ _ h => h) (Or.inl ⟨by rfl, ?_⟩) S0 ?_
  rotate_left
  · intro w' hS'
    obtain ⟨h0, h1, h2⟩ := hS'
    (try go_simp)
    first | done | exact rfl | exact ⟨rfl, rfl⟩
  (try simp only [Act.put, List.getElem_toArray, List.getElem_cons_succ, List.getElem_cons_zero, List.setIfInBounds_toArray, List.set_cons_zero, List.set_cons_succ])
  refine wpAnyN_takeU (i := 13) (v := ?_) rfl (by kernel_rfl) (by kernel_rfl) (by kernel_rfl) (by kernel_rfl) (by kernel_rfl) (fun _ _ _ h => h) (Or.inl ⟨by rfl, ?_⟩) S0 ?_
  rotate_left
  · intro w' hS'
    obtain ⟨h0, h1, h2⟩ := hS'
    (try go_simp)
    first | done | exact rfl | exact ⟨rfl, rfl⟩
  (try simp only [Act.put, List.getElem_toArray, List.getElem_cons_succ, List.getElem_cons_zero, List.setIfInBounds_toArray, List.set_cons_zero, List.set_cons_succ])
  refine wpAnyN_one (i := 14) (by kernel_rfl) rfl (fun K' hK => ?_)
  go_simp
  refine Calls.mono (IC.out _ M4.out) ?_
  rintro e w7 ⟨rfl, hk7⟩
  exact ⟨rfl, rfl, hk7⟩
end
end Go.Proofs.YtapgaclonilnbaaDoor
