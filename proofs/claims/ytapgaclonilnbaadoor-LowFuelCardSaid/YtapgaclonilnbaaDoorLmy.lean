/-
  Proved: one call less on the list; the machine's cells one by one; where blocks and instructions lie.
-/
import Derived.Test.YtapgaclonilnbaaDoorLent
namespace Go.Proofs.YtapgaclonilnbaaDoor
open Go.RowKit
set_option linter.unusedVariables false
set_option linter.unusedSimpArgs false

theorem OwnB.trunc {e : TypeId} {base n m C : Nat} {l : List Nat} {p : Nat} {A : Option Addr} {w : World} (h : OwnB e 1 ptC base (l ++ [p]) (.slice A n C) w) (hm : m = l.length) : OwnB e 1 ptC base l (.slice A m C) w := by
  obtain ⟨h1, h2, h3⟩ := h
  subst hm
  refine ⟨h1, by rw [flat_len ptC_len], ?_⟩
  rcases h3 with ⟨e1, e2⟩ | ⟨g, cap, cur, e1, e2, e3, e4, e5, e6, e7⟩
  · simp at e2
  · injection e1 with a1 a2 a3
    subst a1 a2 a3
    refine Or.inr ⟨g, C, cur, rfl, e2, e3, by simp at e4; omega, e5, e6, ?_⟩
    have := congrArg (List.take (l.length * 1)) e7
    rw [List.take_take] at this
    simp only [List.length_append, List.length_singleton, List.flatMap_append, Nat.mul_one] at this
    rw [Nat.min_eq_left (by omega)] at this
    rw [Nat.mul_one, this]
    rw [List.take_append_of_le_length (by rw [flat_len ptC_len]; omega), List.take_of_length_le (by rw [flat_len ptC_len]; omega)]

section
variable {X : Cx} {z : Mh} {m : Mc} {nv : Value} {st : Int} {L : Ly} {w w' : World}

theorem MX.cell (h : MX X z nv st L w) (j : Nat) (v : Value) (z' : Mh) (nv' : Value) (st' : Int) (hz : z'.cs = z.cs ∧ z'.us = z.us ∧ z'.ip = z.ip ∧ z'.out = z.out) (hj : j < 2826)
    (e : ∀ i, i < 2826 → (if i = j then v else rnG X z st L.cv L.pv L.iv nv i) = rnG X z' st' L.cv L.pv L.iv nv' i) : MX X z' nv' st' L (w.setCell ⟨X.R, j, none⟩ v) := by
  have q := h.stay (P := fun x => x = 0) (Kp.set w j v h.ro.r)
  obtain ⟨z1, z2, z3, z4⟩ := hz
  refine ⟨h.tb, q.bz (by show ¬ _ = _; omega), h.hl, q.mp (by show ¬ _ = _; omega), (h.rr.set j hj _).ext fun i hi => ?_, by rw [z2]; exact q.hh (fun c hc => by show ¬ _ = _; omega), by rw [z1]; exact q.cc (by show ¬ _ = _; omega), by rw [z4]; exact q.pp (by show ¬ _ = _; omega), by rw [z3]; exact h.ii, fun i hi => ?_, by rw [z1]; exact h.ro, h.zz⟩
  · have := e i hi
    unfold pu
    exact this
  · have hi2 : i < z.cs.length := by rw [← z1]; exact hi
    have e2 : z'.cs[i] = z.cs[i] := by simp only [z1]
    rw [e2]
    exact q.kk i hi2 (by show ¬ _ = _; omega) (by show ¬ _ = _; omega) (by show ¬ _ = _; omega)

theorem MX.loud (h : MX X z nv st L w) (n : Int) : MX X { z with ld := n } nv st L (w.setCell ⟨X.R, 8, none⟩ (.int .i64 n)) := by
  refine h.cell 8 _ _ _ _ ⟨rfl, rfl, rfl, rfl⟩ (by omega) fun i hi => ?_
  by_cases e : i = 8
  · subst e; rfl
  · rw [if_neg e]
    rcases i with _ | _ | _ | _ | _ | _ | _ | _ | _ | _ | i <;> first | rfl | omega
theorem MX.now (h : MX X z nv st L w) (v : Value) : MX X z v st L (w.setCell ⟨X.R, 7, none⟩ v) := by
  refine h.cell 7 _ _ _ _ ⟨rfl, rfl, rfl, rfl⟩ (by omega) fun i hi => ?_
  by_cases e : i = 7
  · subst e; rfl
  · rw [if_neg e]
    rcases i with _ | _ | _ | _ | _ | _ | _ | _ | _ | _ | i <;> first | rfl | omega

/-- The list of calls. -/
theorem MX.calls (h : MX X z nv st L w) (h0 : 0 < z.cs.length) : ∃ B C, L.cv = .slice (some ⟨B, 0, none⟩) z.cs.length C ∧ z.cs.length ≤ C ∧ B ≠ X.R ∧ ∀ i, i < z.cs.length → w.cell? ⟨B, i, none⟩ = some (.pointer (some ⟨L.pb i, 0, none⟩)) := by
  obtain ⟨A, C, e, h1⟩ := OwnB.shape ptC_len h.cc
  obtain ⟨B, rfl, _, _, hc, hr⟩ := h1 (by simpa using h0)
  simp only [List.length_map, List.length_range] at e hc
  refine ⟨B, C, e, hc, fun e2 => ?_, fun i hi => ?_⟩
  · have := h.ro.c B (by rw [e]; rfl)
    have := h.ro.r
    rw [e2] at *
    omega
  · have := hr.cell (j := 0) (u := .pointer (some ⟨L.pb i, 0, none⟩)) i (by simpa using hi) (by simp [ptC])
    simpa using this

/-- The last call leaves the list. -/
theorem MX.pop {cs : List Cl} {c : Cl} (h : MX X z nv st L w) (hz : z.cs = cs ++ [c]) {A : Option Addr} {C : Nat} (hc : L.cv = .slice A (cs.length + 1) C) : MX X { z with cs := cs } nv st { L with cv := .slice A cs.length C } (w.setCell ⟨X.R, 6, none⟩ (.slice A cs.length C)) := by
  have el : z.cs.length = cs.length + 1 := by rw [hz]; simp
  have q := h.stay (P := fun x => x = 0) (Kp.set w 6 (.slice A cs.length C) h.ro.r)
  have hcc := q.cc (by show ¬ _ = _; omega)
  rw [el, List.range_succ, List.map_append, hc] at hcc
  refine ⟨h.tb, q.bz (by show ¬ _ = _; omega), h.hl, q.mp (by show ¬ _ = _; omega), (h.rr.set 6 (by omega) _).ext fun i hi => ?_, q.hh (fun c hc => by show ¬ _ = _; omega), hcc.trunc (by simp), q.pp (by show ¬ _ = _; omega), h.ii, fun i hi => ?_, ?_, h.zz⟩
  · unfold pu
    by_cases e : i = 6
    · subst e; rfl
    · rw [if_neg e]
      rcases i with _ | _ | _ | _ | _ | _ | _ | _ | _ | _ | i <;> first | rfl | omega
  · have hi : i < cs.length := hi
    have hi2 : i < z.cs.length := by omega
    have e2 : z.cs[i]'hi2 = cs[i] := by
      simp only [hz]
      exact List.getElem_append_left hi
    have := q.kk i hi2 (by show ¬ _ = _; omega) (by show ¬ _ = _; omega) (by show ¬ _ = _; omega)
    rwa [e2] at this
  · have hr := h.ro
    refine ⟨hr.r, hr.h, hr.g, fun b hb => hr.c b ?_, hr.p, hr.m, fun i hi => hr.s i ?_⟩
    · rw [hc]
      cases A with
      | none => cases hb
      | some a => exact hb
    · have : i < cs.length := hi
      omega
end

/-- Where a block of a function lies. -/
theorem blk_at {X : Cx} (hl : LfsIn X.wz X.l (.slice X.lA X.l.length X.lC)) (k : Nat) (hk : k < X.l.length) (b : Nat) (hb : b < X.l[k].bs.length) :
    ∃ fb fo pv BC bb bo lA lC tv, fpV X k = .pointer (some ⟨fb, fo, none⟩) ∧ RowAt X.wz fb fo (lfC X.l[k] pv (.slice (some ⟨bb, bo, none⟩) X.l[k].bs.length BC)) ∧ RowAt X.wz bb (bo + b * 8) (.slice lA X.l[k].bs[b].li.length lC :: leC X.l[k].bs[b].tm tv) ∧ SlIn X.wz 8 LoIn X.l[k].bs[b].li (.slice lA X.l[k].bs[b].li.length lC) ∧ NosIn X.wz X.l[k].bs[b].tm.args tv := by
  obtain ⟨_, A, C, e, hr⟩ := hl
  cases e
  obtain ⟨fb, o, cs, e1, e2, pv, bv, rfl, _, e3, e4⟩ := hr k hk
  obtain ⟨_, BA, BC, rfl, hbs⟩ := e4
  obtain ⟨bb, bo, cs2, rfl, e6, lv, av, rfl, e7, e8⟩ := hbs b hb
  have e7' := e7
  obtain ⟨_, lA, lC, rfl, _⟩ := e7
  exact ⟨fb, o + k * 7, pv, BC, bb, bo, lA, lC, av, by rw [fpV, e1]; rfl, e2, e6, e7', e8⟩

/-- .. and an instruction. -/
theorem ins_at {w : World} {l : List Lo} {A : Option Addr} {C : Nat} (h : SlIn w 8 LoIn l (.slice A l.length C)) (j : Nat) (hj : j < l.length) : ∃ ib io av dv, A = some ⟨ib, io, none⟩ ∧ RowAt w ib (io + j * 8) (loC l[j] av dv) ∧ l[j].tx.size ≤ maxLen ∧ NosIn w l[j].args av ∧ NosIn w l[j].dsts dv := by
  obtain ⟨_, A', C', e, hr⟩ := h
  cases e
  obtain ⟨b, o, cs, rfl, e2, av, dv, rfl, h1, h2, h3⟩ := hr j hj
  exact ⟨b, o, av, dv, rfl, e2, h1, h2, h3⟩
end Go.Proofs.YtapgaclonilnbaaDoor
