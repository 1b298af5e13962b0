/-
  Proved: what a block's end does, whichever it is; what a step does.
-/
import Derived.Test.YtapgaclonilnbaaDoorLgc
import Derived.Test.YtapgaclonilnbaaDoorLter1
import Derived.Test.YtapgaclonilnbaaDoorLter2t
import Derived.Test.YtapgaclonilnbaaDoorLter2f
import Derived.Test.YtapgaclonilnbaaDoorLter3a
import Derived.Test.YtapgaclonilnbaaDoorLter3b
import Derived.Test.YtapgaclonilnbaaDoorLter4
import Derived.Test.YtapgaclonilnbaaDoorLgoi
namespace Go.Proofs.YtapgaclonilnbaaDoor
open Go.RowKit
set_option linter.unusedVariables false
set_option linter.unusedSimpArgs false

section
variable {X : Cx} {m : Mc} {st : Int} {L : Ly} {w w' : World}

/-- What comes of a step: the machine, main's end, or an end by a panic. -/
def GoR (X : Cx) (out : List Int) (st : Int) (r : Sx) (e : Ending) (w' : World) : Prop :=
  match r with
  | .inl m' => e = .returned (.tuple #[]) ∧ ∃ L, MS X m' st L w'
  | .inr k => (k = (1, 0) ∧ e = .returned (.tuple #[]) ∧ ∃ z nv L, z.cs = [] ∧ z.out = out ∧ MX X z nv st L w') ∨ (k ≠ (1, 0) ∧ e = .panicked [{ v := endV k.1 k.2, recovered := false }] ∧ ∃ z nv L, z.out = out ∧ MX X z nv st L w')

theorem InR.go {out : List Int} {r : Sx} {e : Ending} (h : InR X out st r e w') : GoR X out st r e w' := by
  cases r with
  | inl m' => exact h
  | inr k => exact Or.inr ⟨h.2.1, h.1, h.2.2⟩

theorem lbs_len {w : World} {l : List Lf} {v : Value} (h : LfsIn w l v) (k : Nat) (hk : k < l.length) : l[k].bs.length ≤ 281474976710656 := by
  obtain ⟨-, A, C, -, hr⟩ := h
  obtain ⟨b, o, cs, -, -, pv, bv, -, -, -, h4⟩ := hr k hk
  exact h4.1

theorem blk_get (l : List Lf) (c : Cl) (h1 : c.fn < l.length) (h2 : c.bk < l[c.fn].bs.length) : blkO l c = l[c.fn].bs[c.bk] := by
  unfold blkO
  rw [fnO_get l c.fn h1, List.getD_eq_getElem?_getD, List.getElem?_eq_getElem h2]
  rfl
theorem CW.bk2 {l : List Lf} {c : Cl} (h : CW l c) : c.bk < (l[c.fn]'h.fn).bs.length := by
  have := h.bk
  rwa [fnO_get l c.fn h.fn] at this

theorem toB_le {nb : Nat} {n : Int} (h : toB nb n = true) : 0 ≤ n := by
  unfold toB at h
  simp only [Bool.and_eq_true, decide_eq_true_eq] at h
  exact h.1

set_option maxHeartbeats 2000000 in
theorem rterm_c (hc : chk X.l = true) (h : WF X.l m) (hs : MS X m st L w) {t : Le} {tb tq : Nat} {tv : Value} (hx : RowAt X.wz tb tq (leC t tv)) (hargs : NosIn X.wz t.args tv) (ht : termB (fnO X.l m.nw.fn).rg (fnO X.l m.nw.fn).an (fnO X.l m.nw.fn).bs.length t = true) :
    Calls Tryd.prog 26 #[.pointer (some ⟨X.R, 0, none⟩), .pointer (some ⟨tb, tq, none⟩)] w fun e w' => GoR X m.out st (termS X.l m t) e w' := by
  have hw := h.cw
  have hl := h.ldb
  have hfn := hw.fn
  rw [← hw.rgz hc] at ht
  unfold termB at ht
  by_cases h1 : t.k = 1
  · simp only [h1, if_true] at ht
    have e : termS X.l m t = .inl { m with nw := goC m.nw t.to } := by unfold termS; simp [h1]
    rw [e]
    exact ter_1 hs hx h1 (toB_le ht)
  by_cases h2 : t.k = 2
  · simp [h2] at ht
    obtain ⟨⟨⟨⟨a1, a2⟩, a3⟩, a4⟩, a5⟩ := ht
    cases hq : cmpv t.tx (cw m.nw t.a) (cw m.nw t.b) with
    | true =>
      have e : termS X.l m t = .inl { m with nw := goC m.nw t.to } := by unfold termS; simp [h2, hq]
      rw [e]
      exact ter_2t hs hx h2 a1 a2 a3 hq (toB_le a4)
    | false =>
      have e : termS X.l m t = .inl { m with nw := goC m.nw t.el } := by unfold termS; simp [h2, hq]
      rw [e]
      exact ter_2f hs hx h2 a1 a2 a3 hq (toB_le a5)
  by_cases h3 : t.k = 3
  · simp [h3] at ht
    obtain ⟨a1, a2⟩ := ht
    have ha : ∀ r ∈ t.args, rdB m.nw.rg.length r = true := fun r hr => by unfold readsB at a2; exact List.all_eq_true.1 a2 r hr
    have h8 : t.args.length ≤ 8 := by
      have := (form_parts (ck_fn hc hw.fn).1).2.2.2.1
      omega
    rcases List.eq_nil_or_concat m.bl with hb | ⟨bl, c, hb⟩
    · have e : termS X.l m t = .inr (1, 0) := by unfold termS leaveS; simp [h3, hb]
      rw [e]
      exact (ter_3a hs hx h3 hargs ha h8 hw.fn X.l[m.nw.fn].qu rfl (by omega) hb).mono fun e w' ⟨q1, z, nv, L, q2, q3, q4⟩ => Or.inl ⟨rfl, q1, z, nv, L, q2, q3, q4⟩
    · rw [List.concat_eq_append] at hb
      have el : m.bl.length = bl.length + 1 := by simp [hb]
      have hn := h.n
      have ec : callAt m bl.length = c := by
        rw [at_lt m _ (by omega)]
        simp [hb]
      have hcc := h.c bl.length (by omega)
      have hlk := h.k bl.length (by omega)
      rw [← el, at_nw] at hlk
      rw [ec] at hcc hlk
      obtain ⟨j, j1, j2, j3, j4⟩ := hlk
      have hmem : (blkO X.l c).li.getD j noLo ∈ (blkO X.l c).li := by rw [List.getD_eq_getElem?_getD, List.getElem?_eq_getElem j2]; exact List.getElem_mem j2
      have hib := (ck_blk hc hcc).1 _ hmem
      have hib : callB X.l (fnO X.l c.fn).rg ((blkO X.l c).li.getD j noLo) = true := by
        generalize (blkO X.l c).li.getD j noLo = x at hib j3
        unfold instrB at hib
        simpa [j3] using hib
      have eb := blk_get X.l c hcc.fn hcc.bk2
      have eg : (blkO X.l c).li.getD j noLo = (blkO X.l c).li[j] := by rw [List.getD_eq_getElem?_getD, List.getElem?_eq_getElem j2]; rfl
      have hset := (callB_regs hib).2
      have hdl : (((blkO X.l c).li.getD j noLo).dsts.length : Int) = (fnO X.l m.nw.fn).an := by
        unfold callB at hib
        rw [j4] at hib
        simp only [Bool.and_eq_true, decide_eq_true_eq, Int.toNat_natCast] at hib
        exact hib.1.1.2
      rw [eg] at hset hdl
      have e : termS X.l m t = .inl ⟨bl, setsR c (blkO X.l c).li[j].dsts (t.args.map (cw m.nw)), m.us, m.wo, m.ip, m.out, if (X.l[m.nw.fn]'hw.fn).qu then m.ld else m.ld - 1⟩ := by
        unfold termS leaveS
        have e1 : m.bl.getLast? = some c := by simp [hb]
        have e2 : m.bl.dropLast = bl := by simp [hb]
        have e3 : c.nx - 1 = j := by omega
        simp only [h3, e1, e2, e3, eg, fnO_get X.l m.nw.fn hw.fn]
        rfl
      rw [e]
      have key : (blkO X.l c).li[j].dsts = (((X.l[c.fn]'hcc.fn).bs[c.bk]'(hcc.bk2)).li[j]'(by rw [← eb]; exact j2)).dsts := by
        simp only [eb]
      rw [key] at hset hdl ⊢
      exact ter_3b hs hx h3 hargs ha h8 hw.fn X.l[m.nw.fn].qu rfl (by omega) bl c hb (by omega) hcc.fn hcc.bk2 j j1 (by rw [← eb]; exact j2) (lbs_len hs.hl c.fn hcc.fn) (by omega) fun r hr => by
        unfold setsB at hset
        have := List.all_eq_true.1 hset r hr
        rw [← hcc.rgz hc] at this
        unfold rgB at this
        simpa using this
  simp [h1, h2, h3] at ht
  have e : termS X.l m t = .inr (1, 101) := by unfold termS; simp [h1, h2, h3]
  rw [e]
  exact (ter_4 hs hx ht).mono fun e w' ⟨q1, q2⟩ => Or.inr ⟨by decide, q1, q2⟩
end
end Go.Proofs.YtapgaclonilnbaaDoor
