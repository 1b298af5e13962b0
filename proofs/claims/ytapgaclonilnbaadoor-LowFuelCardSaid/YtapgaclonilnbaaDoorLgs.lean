/-
  Proved: what a step of low's machine does.
-/
import Derived.Test.YtapgaclonilnbaaDoorLgt
import Derived.Test.YtapgaclonilnbaaDoorLgo
namespace Go.Proofs.YtapgaclonilnbaaDoor
open Go.RowKit
set_option linter.unusedVariables false
set_option linter.unusedSimpArgs false

section
variable {X : Cx} {m : Mc} {st : Int} {L : Ly} {w w' : World}

theorem li_len {w : World} {l : List Lo} {v : Value} (h : SlIn w 8 LoIn l v) : l.length ≤ 281474976710656 := h.1

set_option maxHeartbeats 2000000 in
theorem go_c (hc : chk X.l = true) (h : WF X.l m) (hs : MS X m st L w) (hst : ¬ X.fu ≤ st) (hfu : X.fu ≤ 1000000) (hs0 : 0 ≤ st) (hout : m.out.length ≤ 10000000) :
    Calls Tryd.prog 19 #[.pointer (some ⟨X.R, 0, none⟩)] w fun e w' => GoR X m.out (st + 1) (stepS X.l m) e w' := by
  have hw := h.cw
  have hfn := hw.fn
  have hbk := hw.bk2
  obtain ⟨c1, c2⟩ := ck_blk hc hw
  have eb := blk_get X.l m.nw hfn hbk
  have hbs := lbs_len hs.hl m.nw.fn hfn
  obtain ⟨fb, fo, pv, BC, bb, bo, lA, lC, tv, g1, g2, g3, g4, g5⟩ := blk_at hs.hl m.nw.fn hfn m.nw.bk hbk
  have hnx := hw.nx
  rw [eb] at c1 c2 hnx
  by_cases hn : m.nw.nx = X.l[m.nw.fn].bs[m.nw.bk].li.length
  · have e : stepS X.l m = termS X.l m X.l[m.nw.fn].bs[m.nw.bk].tm := by
      unfold stepS
      rw [eb, if_pos (by omega)]
    rw [e]
    have hx : RowAt X.wz bb (bo + m.nw.bk * 8 + 1) (leC X.l[m.nw.fn].bs[m.nw.bk].tm tv) := ⟨g3.1, fun j v e => by have := g3.2 (j + 1) v e; rwa [show bo + m.nw.bk * 8 + (j + 1) = bo + m.nw.bk * 8 + 1 + j by omega] at this⟩
    have TC : ∀ w', MS X m (st + 1) L w' → Calls Tryd.prog 26 #[.pointer (some ⟨X.R, 0, none⟩), .pointer (some ⟨bb, bo + m.nw.bk * 8 + 1, none⟩)] w' fun e w2 => GoR X m.out (st + 1) (termS X.l m X.l[m.nw.fn].bs[m.nw.bk].tm) e w2 := fun w' hs' => rterm_c hc h hs' hx g5 c2
    cases hr : termS X.l m X.l[m.nw.fn].bs[m.nw.bk].tm with
    | inl m' =>
      rw [hr] at TC
      exact goOn_T_ok hs hst hfu hs0 hfn hbk hbs fb fo pv BC bb bo lA lC tv g1 g2 g3 hn (fun w' => ∃ L, MS X m' (st + 1) L w') TC
    | inr k =>
      rw [hr] at TC
      by_cases hk : k = (1, 0)
      · refine (goOn_T_ok hs hst hfu hs0 hfn hbk hbs fb fo pv BC bb bo lA lC tv g1 g2 g3 hn (fun w' => ∃ z nv L, z.cs = [] ∧ z.out = m.out ∧ MX X z nv (st + 1) L w') fun w' hs' => (TC w' hs').mono fun e w2 q => ?_).mono fun e w2 q => Or.inl ⟨hk, q⟩
        rcases q with q | q
        · exact q.2
        · exact absurd hk q.1
      · refine (goOn_T_no hs hst hfu hs0 hfn hbk hbs fb fo pv BC bb bo lA lC tv g1 g2 g3 hn (fun w' => ∃ z nv L, z.out = m.out ∧ MX X z nv (st + 1) L w') _ fun w' hs' => (TC w' hs').mono fun e w2 q => ?_).mono fun e w2 q => Or.inr ⟨hk, q⟩
        rcases q with q | q
        · exact absurd q.1 hk
        · exact q.2
  · have hlt : m.nw.nx < X.l[m.nw.fn].bs[m.nw.bk].li.length := by omega
    obtain ⟨n1, n2⟩ := next_in h (by rw [eb]; omega)
    obtain ⟨ib, io, av, dv, hlA, hx, htx, hav, hdv⟩ := ins_at g4 m.nw.nx hlt
    have eg : (blkO X.l m.nw).li.getD m.nw.nx noLo = X.l[m.nw.fn].bs[m.nw.bk].li[m.nw.nx] := by
      rw [eb, List.getD_eq_getElem?_getD, List.getElem?_eq_getElem hlt]
      rfl
    rw [eg] at n1
    have hib := c1 _ (by rw [eb] at n1; exact n1)
    have e : stepS X.l m = instrS X.l { m with nw := { m.nw with nx := m.nw.nx + 1 } } X.l[m.nw.fn].bs[m.nw.bk].li[m.nw.nx] := by
      unfold stepS
      rw [if_neg (by rw [eb]; omega), eg]
    rw [e]
    have IC : ∀ w', MS X { m with nw := { m.nw with nx := m.nw.nx + 1 } } (st + 1) L w' → Calls Tryd.prog 27 #[.pointer (some ⟨X.R, 0, none⟩), .pointer (some ⟨ib, io + m.nw.nx * 8, none⟩)] w' fun e w2 => InR X m.out (st + 1) (instrS X.l { m with nw := { m.nw with nx := m.nw.nx + 1 } } X.l[m.nw.fn].bs[m.nw.bk].li[m.nw.nx]) e w2 := fun w' hs' => ins_c hc n2 hs' hx htx hav hib hout
    cases hr : instrS X.l { m with nw := { m.nw with nx := m.nw.nx + 1 } } X.l[m.nw.fn].bs[m.nw.bk].li[m.nw.nx] with
    | inl m' =>
      rw [hr] at IC
      exact goOn_I_ok hs hst hfu hs0 hfn hbk hbs fb fo pv BC bb bo lA lC tv g1 g2 g3 hlt (li_len g4) ib io hlA (fun w' => ∃ L, MS X m' (st + 1) L w') IC
    | inr k =>
      rw [hr] at IC
      refine (goOn_I_no hs hst hfu hs0 hfn hbk hbs fb fo pv BC bb bo lA lC tv g1 g2 g3 hlt (li_len g4) ib io hlA (fun w' => k ≠ (1, 0) ∧ ∃ z nv L, z.out = m.out ∧ MX X z nv (st + 1) L w') _ IC).mono fun e w2 q => Or.inr ⟨q.2.1, q.1, q.2.2⟩
end
end Go.Proofs.YtapgaclonilnbaaDoor
