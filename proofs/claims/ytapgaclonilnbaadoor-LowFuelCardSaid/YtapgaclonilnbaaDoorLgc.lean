/-
  Proved: what an instruction does, whichever it is.
-/
import Derived.Test.YtapgaclonilnbaaDoorLst2
import Derived.Test.YtapgaclonilnbaaDoorLins1
import Derived.Test.YtapgaclonilnbaaDoorLins2
import Derived.Test.YtapgaclonilnbaaDoorLins3
import Derived.Test.YtapgaclonilnbaaDoorLins4
import Derived.Test.YtapgaclonilnbaaDoorLins5n
import Derived.Test.YtapgaclonilnbaaDoorLins5s
import Derived.Test.YtapgaclonilnbaaDoorLins6n
import Derived.Test.YtapgaclonilnbaaDoorLins6s
import Derived.Test.YtapgaclonilnbaaDoorLins7
import Derived.Test.YtapgaclonilnbaaDoorLins7f
import Derived.Test.YtapgaclonilnbaaDoorLins8
import Derived.Test.YtapgaclonilnbaaDoorLins9
import Derived.Test.YtapgaclonilnbaaDoorLins10a
import Derived.Test.YtapgaclonilnbaaDoorLins10b
import Derived.Test.YtapgaclonilnbaaDoorLins11a
import Derived.Test.YtapgaclonilnbaaDoorLins11b
namespace Go.Proofs.YtapgaclonilnbaaDoor
open Go.RowKit
set_option linter.unusedVariables false
set_option linter.unusedSimpArgs false

section
variable {X : Cx} {m : Mc} {st : Int} {L : Ly} {w w' : World}

/-- What comes of an instruction. -/
def InR (X : Cx) (out : List Int) (st : Int) (r : Sx) (e : Ending) (w' : World) : Prop :=
  match r with
  | .inl m' => e = .returned (.tuple #[]) ∧ ∃ L, MS X m' st L w'
  | .inr k => e = .panicked [{ v := endV k.1 k.2, recovered := false }] ∧ k ≠ (1, 0) ∧ ∃ z nv L, z.out = out ∧ MX X z nv st L w'

theorem InR.pan {out : List Int} {a b : Int} {f : FuncId} {args : Array Value} (hab : (a, b) ≠ ((1 : Int), (0 : Int))) (h : Calls Tryd.prog f args w fun e w' => e = .panicked [{ v := endV a b, recovered := false }] ∧ ∃ z nv L, z.out = out ∧ MX X z nv st L w') : Calls Tryd.prog f args w fun e w' => InR X out st (.inr (a, b)) e w' :=
  h.mono fun e w' ⟨h1, h2⟩ => ⟨h1, hab, h2⟩

set_option maxHeartbeats 2000000 in
theorem ins_c (hc : chk X.l = true) (h : WF X.l m) (hs : MS X m st L w) {x : Lo} {ib io : Nat} {av dv : Value} (hx : RowAt X.wz ib io (loC x av dv)) (htx : x.tx.size ≤ maxLen) (hav : NosIn X.wz x.args av) (hib : instrB X.l (fnO X.l m.nw.fn).rg x = true) (hout : m.out.length ≤ 10000000) :
    Calls Tryd.prog 27 #[.pointer (some ⟨X.R, 0, none⟩), .pointer (some ⟨ib, io, none⟩)] w fun e w' => InR X m.out st (instrS X.l m x) e w' := by
  have hw := h.cw
  have h32 : ∀ r, I32 (cw m.nw r) := fun r => hw.cw r
  have hn : m.bl.length ≤ 1000 := by have := h.n; omega
  have hf : ∀ i, i ≤ m.bl.length → (callAt m i).fr.length ≤ 65536 := fun i hi => (h.c i hi).frz hc
  have hup := h.up
  have hb0 : ∀ i, i ≤ m.bl.length → 0 ≤ (callAt m i).ba := fun i hi => by have := h.ba hf i hi; omega
  rw [← hw.rgz hc] at hib
  unfold instrB at hib
  by_cases h1 : x.op = 1
  · have e : instrS X.l m x = .inl (setN m x.d (wd x.n)) := by unfold instrS; simp [h1]
    rw [e]
    exact ins_1 hs hx h1 (by simpa [h1] using hib)
  by_cases h2 : x.op = 2
  · have e : instrS X.l m x = .inl (setN m x.d (cw m.nw x.a)) := by unfold instrS; simp [h2]
    rw [e]
    simp [h2] at hib
    exact ins_2 hs hx h2 hib.1 hib.2
  by_cases h3 : x.op = 3
  · have e : instrS X.l m x = .inl (setN m x.d (dov x.tx (cw m.nw x.a) (cw m.nw x.b))) := by unfold instrS; simp [h3]
    rw [e]
    simp [h3] at hib
    exact ins_3 hs hx h3 hib.1.1.2 hib.1.2 hib.2 h32
  by_cases h4 : x.op = 4
  · have e : instrS X.l m x = .inl (setN m x.d (dov x.tx (cw m.nw x.a) (wd x.n))) := by unfold instrS; simp [h4]
    rw [e]
    simp [h4] at hib
    exact ins_4 hs hx h4 hib.1.2 hib.2 h32
  by_cases h5 : x.op = 5
  · simp [h5] at hib
    cases hq : atL m (farA m.nw x.a x.n) with
    | none =>
      have e : instrS X.l m x = .inr (4, 0) := by unfold instrS; simp [h5, hq, trapS]
      rw [e]
      exact InR.pan (by decide) (ins_5n hs hx h5 hib.2 hn hup hb0 hq)
    | some p =>
      have e : instrS X.l m x = .inl (setN m x.d (ldL m p)) := by unfold instrS; simp [h5, hq]
      rw [e]
      exact ins_5s hs hx h5 hib.1.2 hib.2 hn hup hb0 p hq
  by_cases h6 : x.op = 6
  · simp [h6] at hib
    cases hq : atL m (farA m.nw x.a x.n) with
    | none =>
      have e : instrS X.l m x = .inr (4, 0) := by unfold instrS; simp [h6, hq, trapS]
      rw [e]
      exact InR.pan (by decide) (ins_6n hs hx h6 hib.1.2 hn hup hb0 hq)
    | some p =>
      have e : instrS X.l m x = .inl (stL m (cw m.nw x.b) p) := by unfold instrS; simp [h6, hq]
      rw [e]
      exact ins_6s hs hx h6 hib.1.2 hn hup hb0 hib.2 p hq
  by_cases h7 : x.op = 7
  · have e : instrS X.l m x = enterS X.l m ((byN X.l x.tx.data.toList).getD 0).toNat (x.args.map (cw m.nw)) := by unfold instrS; simp [h7]
    rw [e]
    simp [h7] at hib
    unfold callB at hib
    split at hib
    · cases hib
    · rename_i z hz
      obtain ⟨k, rfl, hk, -⟩ := byN_some hz
      simp only [Bool.and_eq_true, decide_eq_true_eq, Int.toNat_natCast] at hib
      obtain ⟨⟨⟨a1, a2⟩, a3⟩, a4⟩ := hib
      have ha : ∀ r ∈ x.args, rdB m.nw.rg.length r = true := fun r hr => by unfold readsB at a3; exact List.all_eq_true.1 a3 r hr
      obtain ⟨f1, f2⟩ := ck_fn hc hk
      obtain ⟨p1, p2, p3, p4, p5⟩ := form_parts f1
      rw [hz]
      simp only [Option.getD_some, Int.toNat_natCast]
      have eg : X.l.getD k noF = X.l[k] := fnO_get X.l k hk
      have ef : fnO X.l k = X.l[k] := fnO_get X.l k hk
      rw [eg] at a1
      rw [ef] at f1 f2 p1 p2 p3 p4 p5
      by_cases hfull : ((fnO X.l k).qu = false ∧ 48 ≤ m.ld) ∨ 392 ≤ m.cs.length
      · have e2 : enterS X.l m k (x.args.map (cw m.nw)) = .inr (2, 0) := by unfold enterS; rw [if_pos hfull]
        rw [e2]
        rw [ef, cs_len] at hfull
        exact InR.pan (by decide) (ins_7f hs hx h7 htx hav k hk hz ha (by omega) X.l[k].qu rfl hfull)
      · have e2 : enterS X.l m k (x.args.map (cw m.nw)) = .inl { m with bl := m.cs, nw := newC X.l k (roomB m) (x.args.map (cw m.nw)), ld := if (fnO X.l k).qu then m.ld else m.ld + 1 } := by unfold enterS; rw [if_neg hfull]
        rw [e2]
        rw [ef, cs_len] at hfull
        have hset : ∀ r ∈ X.l[k].pa, 0 ≤ r ∧ r < X.l[k].rg := fun r hr => by
          unfold blocksB setsB at f2
          simp only [Bool.and_eq_true] at f2
          exact rg_lt (List.all_eq_true.1 f2.1 r hr)
        have hl := h.ldb
        have := ins_7 hs hx h7 htx hav k hk hz ha X.l[k].rg.toNat X.l[k].fr.toNat (by omega) (by omega) (by omega) (by omega) (hw.frz hc) (by omega) (by omega) (fun r hr => by have := hset r hr; omega) X.l[k].qu rfl (fun q => by
          by_cases q2 : 48 ≤ m.ld
          · exact absurd (Or.inl ⟨q, q2⟩) hfull
          · exact q2) (by omega) (by omega)
        unfold newC
        rw [ef]
        exact this
  by_cases h8 : x.op = 8
  · have e : instrS X.l m x = .inl { m with out := m.out ++ [if x.n = 1 then wh (cw m.nw x.a) else cw m.nw x.a] } := by unfold instrS; simp [h8]
    rw [e]
    simp [h8] at hib
    exact ins_8 hs hx h8 hib h32 hout
  by_cases h9 : x.op = 9
  · have e : instrS X.l m x = .inl (setN { m with ip := m.ip.drop 1 } x.d (wd (m.ip.getD 0 0))) := by unfold instrS; simp [h9]
    rw [e]
    simp [h9] at hib
    exact ins_9 hs hx h9 hib
  by_cases h10 : x.op = 10
  · simp [h10] at hib
    by_cases hal : (alA m.us (clsOf x.n)).2.1 = 0
    · have e : instrS X.l m x = .inl (setN { m with us := (alA m.us (clsOf x.n)).2.2 } x.d (wd (alA m.us (clsOf x.n)).1)) := by unfold instrS; simp [h10, hal]
      rw [e]
      exact ins_10a hs hx h10 hib.2 hal
    · have e : instrS X.l m x = .inr (3, 0) := by unfold instrS; simp [h10, hal]
      rw [e]
      exact InR.pan (by decide) (ins_10b hs hx h10 hal)
  by_cases h11 : x.op = 11
  · simp [h11] at hib
    by_cases hfr : (frA m.us (wh (cw m.nw x.a)) (atOf (wh (cw m.nw x.a)))).1 = 0
    · have e : instrS X.l m x = .inl { m with us := (frA m.us (wh (cw m.nw x.a)) (atOf (wh (cw m.nw x.a)))).2 } := by unfold instrS; simp [h11, hfr]
      rw [e]
      exact ins_11a hs hx h11 hib hfr
    · have e : instrS X.l m x = .inr (4, 0) := by unfold instrS; simp [h11, hfr, trapS]
      rw [e]
      exact InR.pan (by decide) (ins_11b hs hx h11 hib hfr)
  simp [h1, h2, h3, h4, h5, h6, h7, h8, h9, h10, h11] at hib
end
end Go.Proofs.YtapgaclonilnbaaDoor
