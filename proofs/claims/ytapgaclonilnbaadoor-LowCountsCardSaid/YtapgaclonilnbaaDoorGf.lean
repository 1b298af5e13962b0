/-
  Proved: what enter does to the machine: one call more, with the words that it is passed; too many calls end the run.
-/
import Derived.Test.YtapgaclonilnbaaDoorGd
import Derived.Test.YtapgaclonilnbaaDoorGa
import Derived.Test.YtapgaclonilnbaaDoorGe
import Derived.Deep.Cut
import Derived.Deep.CutRange
namespace Go.Proofs.YtapgaclonilnbaaDoor
open Go.RowKit
set_option linter.unusedVariables false
set_option linter.unusedSimpArgs false

section
variable {P : Program} {ops : Array Oper} {Q : Exit → Act → World → Prop} {md : Region.Mode} {S : World → Prop} {need : Nat → Bool}
theorem wpAnyN_two {i0 : Nat} {i1 : Nat} {o0 : Oper} {o1 : Oper} {fuel : Nat} {listed : Array Bool} {a : Act} {w : World} (hr : Region.ready md ops listed = [i0, i1]) (ho0 : ops[i0]? = some o0) (ho1 : ops[i1]? = some o1)
    (h0 : ∀ K' : Act → World → Prop, (∀ a w, (need i0 = true → S w) → wpAnyN P md ops Q S need fuel (listed.setIfInBounds i0 true) a w → K' a w) → if Region.wanted o0 (yielded ops a.tmps) = true then Oper.wp P o0 a w K' Q else K' (a.put o0.dst undef) w) (h1 : ∀ K' : Act → World → Prop, (∀ a w, (need i1 = true → S w) → wpAnyN P md ops Q S need fuel (listed.setIfInBounds i1 true) a w → K' a w) → if Region.wanted o1 (yielded ops a.tmps) = true then Oper.wp P o1 a w K' Q else K' (a.put o1.dst undef) w) : wpAnyN P md ops Q S need (fuel + 1) listed a w := by
  refine ⟨fun h => (by rw [hr] at h; cases h), fun j hj => ?_⟩
  rw [hr] at hj
  simp only [List.mem_cons, List.not_mem_nil, or_false] at hj
  rcases hj with rfl | rfl
  · exact wpOp_step ho0 (fun K' hK => h0 K' (fun a w p q => hK a w ⟨p, q⟩))
  · exact wpOp_step ho1 (fun K' hK => h1 K' (fun a w p q => hK a w ⟨p, q⟩))
theorem wpAnyN_three {i0 : Nat} {i1 : Nat} {i2 : Nat} {o0 : Oper} {o1 : Oper} {o2 : Oper} {fuel : Nat} {listed : Array Bool} {a : Act} {w : World} (hr : Region.ready md ops listed = [i0, i1, i2]) (ho0 : ops[i0]? = some o0) (ho1 : ops[i1]? = some o1) (ho2 : ops[i2]? = some o2)
    (h0 : ∀ K' : Act → World → Prop, (∀ a w, (need i0 = true → S w) → wpAnyN P md ops Q S need fuel (listed.setIfInBounds i0 true) a w → K' a w) → if Region.wanted o0 (yielded ops a.tmps) = true then Oper.wp P o0 a w K' Q else K' (a.put o0.dst undef) w) (h1 : ∀ K' : Act → World → Prop, (∀ a w, (need i1 = true → S w) → wpAnyN P md ops Q S need fuel (listed.setIfInBounds i1 true) a w → K' a w) → if Region.wanted o1 (yielded ops a.tmps) = true then Oper.wp P o1 a w K' Q else K' (a.put o1.dst undef) w) (h2 : ∀ K' : Act → World → Prop, (∀ a w, (need i2 = true → S w) → wpAnyN P md ops Q S need fuel (listed.setIfInBounds i2 true) a w → K' a w) → if Region.wanted o2 (yielded ops a.tmps) = true then Oper.wp P o2 a w K' Q else K' (a.put o2.dst undef) w) : wpAnyN P md ops Q S need (fuel + 1) listed a w := by
  refine ⟨fun h => (by rw [hr] at h; cases h), fun j hj => ?_⟩
  rw [hr] at hj
  simp only [List.mem_cons, List.not_mem_nil, or_false] at hj
  rcases hj with rfl | rfl | rfl
  · exact wpOp_step ho0 (fun K' hK => h0 K' (fun a w p q => hK a w ⟨p, q⟩))
  · exact wpOp_step ho1 (fun K' hK => h1 K' (fun a w p q => hK a w ⟨p, q⟩))
  · exact wpOp_step ho2 (fun K' hK => h2 K' (fun a w p q => hK a w ⟨p, q⟩))
end

theorem mixedE : Tryd.prog.follows .mixedOrders = true := by kernel_rfl
theorem infoPc : (Tryd.prog.info? 52).map (fun i => (i.zero, i.size, i.bytes)) = some (some (.pointer none), 1, 8) := by kernel_rfl
theorem ptC_one (a : Nat) : ∀ u ∈ ptC a, u.oneCell' = true := by intro u hu; simp [ptC] at hu; subst hu; rfl

theorem setsR_nil (c : Cl) : setsR c [] [] = c := rfl
theorem setsR_snoc (c : Cl) : ∀ (a b : List Int) (r v : Int), a.length = b.length → setsR c (a ++ [r]) (b ++ [v]) = setR (setsR c a b) r v := by
  intro a
  induction a generalizing c with
  | nil => intro b r v h; cases b with
    | nil => rfl
    | cons _ _ => simp at h
  | cons x a ih => intro b r v h; cases b with
    | nil => simp at h
    | cons y b => exact ih _ b r v (by simpa using h)
theorem setsR_same (c : Cl) : ∀ (a b : List Int), (setsR c a b).fn = c.fn ∧ (setsR c a b).fr = c.fr ∧ (setsR c a b).ba = c.ba ∧ (setsR c a b).bk = c.bk ∧ (setsR c a b).nx = c.nx ∧ (setsR c a b).rg.length = c.rg.length := by
  intro a
  induction a generalizing c with
  | nil => intro b; cases b <;> exact ⟨rfl, rfl, rfl, rfl, rfl, rfl⟩
  | cons x a ih => intro b; cases b with
    | nil => exact ⟨rfl, rfl, rfl, rfl, rfl, rfl⟩
    | cons y b =>
      obtain ⟨h1, h2, h3, h4, h5, h6⟩ := ih (setR c x y) b
      exact ⟨h1, h2, h3, h4, h5, h6.trans (by simp [setR])⟩

/-- A word of a call's registers. -/
theorem CallIn.rset {X : Cx} {c : Cl} {pb rb fb : Nat} {w : World} (h : CallIn X c pb rb fb w) (n1 : pb ≠ rb) (n2 : fb ≠ rb) (r : Nat) (hr : r < c.rg.length) (v : Int) : CallIn X (setR c (r : Int) v) pb rb fb (w.setCell ⟨rb, r, none⟩ (.int .i32 v)) := by
  have e : (setR c (r : Int) v).rg = c.rg.set r v := by simp [setR]
  have el : (setR c (r : Int) v).rg.length = c.rg.length := by rw [e]; simp
  have k := Kp.set (F := fun b => b = rb) w r (.int .i32 v) rfl
  refine ⟨(h.s.kp k n1).ext fun i hi => ?_, ?_, GZ.kp h.f k n2⟩
  · rcases i with _ | _ | _ | _ | _ | _ | i <;> first | rfl | (show Value.slice _ c.rg.length c.rg.length = Value.slice _ (setR c (r : Int) v).rg.length (setR c (r : Int) v).rg.length; rw [el]; done) | omega
  · refine WZ.ext (f := pu (fun i => c.rg.getD i 0) r v) ?_ fun i hi => ?_
    · rw [el]; exact h.r.set r hr v
    · rw [e]; exact (getD_set _ _ _ _ hr).symm

section
variable {X : Cx} {z : Mh} {nv : Value} {st : Int} {L : Ly} {w w' : World}
/-- Where a function lies. -/
theorem MX.fn (h : MX X z nv st L w) (k : Nat) (hk : k < X.l.length) : ∃ fb fo pv bv, fpV X k = .pointer (some ⟨fb, fo, none⟩) ∧ RowAt X.wz fb fo (lfC X.l[k] pv bv) ∧ NosIn X.wz X.l[k].pa pv ∧ LbsIn X.wz X.l[k].bs bv := by
  obtain ⟨_, A, C, e, hr⟩ := h.hl
  cases e
  obtain ⟨b, o, cs, e1, e2, pv, bv, rfl, _, e3, e4⟩ := hr k hk
  exact ⟨b, o + k * 7, pv, bv, by rw [fpV, e1]; rfl, e2, e3, e4⟩

/-- The words that a call is passed. -/
def AIn (X : Cx) (w : World) (l : List Int) (v : Value) : Prop := ∃ A C, v = .slice A l.length C ∧ ∀ i (h : i < l.length), ∃ b o, A = some ⟨b, o, none⟩ ∧ b < w.heap.size ∧ b ≠ X.R ∧ w.cell? ⟨b, o + i, none⟩ = some (.int .i32 (l[i]'h))

/-- A call that was made. -/
def CR (X : Cx) (z : Mh) (nv : Value) (st : Int) (L : Ly) (w : World) (c : Cl) (wx : World) : Prop :=
  ∃ pb rb fb, CallIn X c pb rb fb wx ∧ GZ 56 wx X.R 2826 (rnG X z st L.cv L.pv L.iv (.pointer (some ⟨pb, 0, none⟩))) ∧ Kp (fun b => b = X.R ∨ w.heap.size ≤ b) w wx ∧ w.heap.size ≤ pb ∧ w.heap.size ≤ rb ∧ w.heap.size ≤ fb ∧ pb ≠ rb ∧ pb ≠ fb ∧ rb ≠ fb

theorem CR.mk (h : MX X z nv st L w) {k rg fr pb rb fb : Nat} {ba : Int} {wx : World} (hB : Below w.heap.size w wx) (hA : At wx pb #[fpV X k, .slice (some ⟨rb, 0, none⟩) rg rg, .slice (some ⟨fb, 0, none⟩) fr fr, .int .u32 ba, .int .i64 0, .int .i64 0] 85) (hr : WZ wx rb rg (fun _ => 0)) (hf : WZ wx fb fr (fun _ => 0))
    (h1 : w.heap.size ≤ pb ∧ w.heap.size ≤ rb ∧ w.heap.size ≤ fb ∧ pb ≠ rb ∧ pb ≠ fb ∧ rb ≠ fb) : CR X z nv st L w ⟨k, List.replicate rg 0, List.replicate fr 0, ba, 0, 0⟩ (wx.setCell ⟨X.R, 7, none⟩ (.pointer (some ⟨pb, 0, none⟩))) := by
  have hR := h.rr.lt
  obtain ⟨a1, a2, a3, a4, a5, a6⟩ := h1
  have kk := Kp.set (F := fun b => b = X.R) wx 7 (.pointer (some ⟨pb, 0, none⟩)) rfl
  have c0 : CallIn X ⟨k, List.replicate rg 0, List.replicate fr 0, ba, 0, 0⟩ pb rb fb wx := by
    refine ⟨⟨_, hA, fun i hi => ?_⟩, ?_, ?_⟩
    · rcases i with _ | _ | _ | _ | _ | _ | i <;> first | rfl | (simp [clF]; done) | omega
    · show WZ wx rb (List.replicate rg (0 : Int)).length _
      rw [List.length_replicate]
      exact hr.ext fun i hi => by simp [List.getD_eq_getElem?_getD, List.getElem?_replicate, hi]
    · show WZ wx fb (List.replicate fr (0 : Int)).length _
      rw [List.length_replicate]
      exact hf.ext fun i hi => by simp [List.getD_eq_getElem?_getD, List.getElem?_replicate, hi]
  refine ⟨pb, rb, fb, c0.kp kk (by omega) (by omega) (by omega), ?_, (Kp.of_below hB).trans (kk.mono fun b hb => Or.inl hb), a1, a2, a3, a4, a5, a6⟩
  refine ((h.rr.beW hB).set 7 (by omega) _).ext fun i hi => ?_
  unfold pu
  by_cases e : i = 7
  · subst e; rfl
  · rw [if_neg e]
    rcases i with _ | _ | _ | _ | _ | _ | _ | _ | _ | _ | i <;> first | rfl | omega

theorem GZ.same {t : TypeId} {B n : Nat} {f : Nat → Value} (h : GZ t w B n f) (e : w'.heap[B]? = w.heap[B]?) : GZ t w' B n f := by
  obtain ⟨cs, h1, h2⟩ := h
  exact ⟨cs, e.trans h1, h2⟩

/-- The call on the list. -/
theorem ent_six (h : MX X z nv st L w) {c : Cl} {pb rb fb : Nat} {wr w5 : World} {o : Obj} {v5 : Value} (hC : CallIn X c pb rb fb wr) (hG : GZ 56 wr X.R 2826 (rnG X z st L.cv L.pv L.iv (.pointer (some ⟨pb, 0, none⟩)))) (hK : Kp (fun b => b = X.R ∨ w.heap.size ≤ b) w wr)
    (np : w.heap.size ≤ pb ∧ w.heap.size ≤ rb ∧ w.heap.size ≤ fb ∧ pb ≠ rb ∧ pb ≠ fb ∧ rb ≠ fb)
    (ho : OwnB 52 1 ptC X.wz.heap.size ((List.range z.cs.length).map L.pb ++ [pb]) v5 w5) (hb : Below X.wz.heap.size (wr.alloc o) w5) (hk : ∀ k, k < (wr.alloc o).heap.size → L.cv.ownBlock ≠ some k → w5.heap[k]? = (wr.alloc o).heap[k]?) (hv : ∀ b, v5.ownBlock = some b → L.cv.ownBlock = some b ∨ (wr.alloc o).heap.size ≤ b) :
    GZ 56 (w5.setCell ⟨X.R, 6, none⟩ v5) X.R 2826 (rnG X z st v5 L.pv L.iv (.pointer (some ⟨pb, 0, none⟩))) ∧ Kp (fun b => L.ro b = 0 ∨ L.ro b = 6) w (w5.setCell ⟨X.R, 6, none⟩ v5) ∧ CallIn X c pb rb fb (w5.setCell ⟨X.R, 6, none⟩ v5) ∧
    OwnB 52 1 ptC X.wz.heap.size ((List.range z.cs.length).map L.pb ++ [pb]) v5 (w5.setCell ⟨X.R, 6, none⟩ v5) ∧ ∀ b, v5.ownBlock = some b → L.cv.ownBlock = some b ∨ (w.heap.size ≤ b ∧ b ≠ pb ∧ b ≠ rb ∧ b ≠ fb) := by
  obtain ⟨a1, a2, a3, a4, a5, a6⟩ := np
  have hR := h.rr.lt
  have b0 := below_alloc wr o
  have z0 := b0.size
  have own : ∀ b, L.cv.ownBlock = some b → b < w.heap.size ∧ b ≠ X.R := fun b hb => by
    obtain ⟨_, cs, ha⟩ := h.cc.at hb
    exact ⟨ha.lt, fun e => by have := h.ro.c b hb; have := h.ro.r; rw [e] at *; omega⟩
  have k5 : Kp (fun b => L.cv.ownBlock = some b) (wr.alloc o) w5 := ⟨hb.mono (Nat.zero_le _), fun b h1 h2 => hk b h1 h2⟩
  have k6 := Kp.set (F := fun b => b = X.R) w5 6 v5 rfl
  have g5 := (hG.beW b0).kp k5 fun e => (own _ e).2 rfl
  have lp := hC.s.lt
  have lr := GZ.lt hC.r
  have lf := GZ.lt hC.f
  have hV : ∀ b, v5.ownBlock = some b → L.cv.ownBlock = some b ∨ (w.heap.size ≤ b ∧ b ≠ pb ∧ b ≠ rb ∧ b ≠ fb) := fun b hb2 => by
    have := hK.1.size
    rcases hv b hb2 with e | e
    · exact Or.inl e
    · exact Or.inr ⟨by omega, by omega, by omega, by omega⟩
  refine ⟨?_, ?_, ?_, ?_, hV⟩
  · refine (g5.set 6 (by omega) _).ext fun i hi => ?_
    unfold pu
    by_cases e : i = 6
    · subst e; rfl
    · rw [if_neg e]
      rcases i with _ | _ | _ | _ | _ | _ | _ | _ | _ | _ | i <;> first | rfl | omega
  · have e1 : Kp (fun b => b = X.R ∨ w.heap.size ≤ b ∨ L.cv.ownBlock = some b) w (w5.setCell ⟨X.R, 6, none⟩ v5) :=
      (((hK.mono fun b hb => hb.elim Or.inl fun e => Or.inr (Or.inl e)).trans (Kp.of_below b0)).trans (k5.mono fun b hb => Or.inr (Or.inr hb))).trans (k6.mono fun b hb => Or.inl hb)
    refine ⟨e1.1, fun b hb hn => e1.2 b hb fun e => hn ?_⟩
    rcases e with e | e | e
    · subst e; exact Or.inl h.ro.r
    · omega
    · exact Or.inr (h.ro.c b e)
  · refine ((hC.below b0).kp k5 (fun e => ?_) (fun e => ?_) fun e => ?_).kp k6 (fun e => ?_) (fun e => ?_) fun e => ?_
    · have := (own _ e).1; omega
    · have := (own _ e).1; omega
    · have := (own _ e).1; omega
    · omega
    · omega
    · omega
  · refine OwnB.but ho k6 fun b hb2 e => ?_
    subst e
    rcases hV _ hb2 with e | e
    · exact (own _ e).2 rfl
    · omega

set_option maxRecDepth 20000 in
set_option maxHeartbeats 8000000 in
theorem enter_true (h : MX X z nv st L w) (k : Nat) (hk : k < X.l.length) (rg fr : Nat) (hrgE : X.l[k].rg = (rg : Int)) (hfrE : X.l[k].fr = (fr : Int)) (hrg : rg ≤ 65536) (hfr : fr ≤ 65536) (ba : Int)
    (hRM : ∀ w', Below w.heap.size w w' → Calls Tryd.prog 24 #[.pointer (some ⟨X.R, 0, none⟩)] w' fun e w2 => e = .returned (.int .u32 ba) ∧ Below w'.heap.size w' w2)
    (vs : List Int) (av : Value) (ha : AIn X w vs av) (hlen : X.l[k].pa.length = vs.length) (hl8 : vs.length ≤ 8) (hpa : ∀ r ∈ X.l[k].pa, 0 ≤ r ∧ r < rg) (hq : X.l[k].qu = true) (hldb : -1000 ≤ z.ld ∧ z.ld ≤ 1000) (hn : z.cs.length < 392) :
    Calls Tryd.prog 18 #[.pointer (some ⟨X.R, 0, none⟩), fpV X k, av] w fun e w' => e = .returned (.tuple #[]) ∧ ∃ L' p, L'.pb z.cs.length = p ∧ MX X { z with cs := z.cs ++ [setsR ⟨k, List.replicate rg 0, List.replicate fr 0, ba, 0, 0⟩ X.l[k].pa vs], ld := z.ld } (.pointer (some ⟨p, 0, none⟩)) st L' w' := by
  obtain ⟨fb0, fo, pv, bv, hfp, hrow, hpn, -⟩ := h.fn k hk
  obtain ⟨-, PA, PC, rfl, hpc⟩ := hpn.cells
  obtain ⟨AA, AC, rfl, hac⟩ := ha
  have hsz := h.bz.size
  have hRz : X.wz.heap.size ≤ X.R := by
    rcases Nat.lt_or_ge X.R X.wz.heap.size with e | e
    · have := h.zz _ e; have := h.ro.r; omega
    · exact e
  -- old cells stay
  have OC : Hid (∀ w' : World, Kp (fun b => b = X.R ∨ w.heap.size ≤ b) w w' → ∀ b j u, b < X.wz.heap.size → X.wz.cell? ⟨b, j, none⟩ = some u → w'.cell? ⟨b, j, none⟩ = some u) := fun w' kk b j u hb hu => by
    have e1 := kk.2 b (by omega) (by omega)
    have e2 := h.bz.block b hb
    rw [← hu]
    unfold World.cell?
    rw [e1, e2]
  have FC : Hid (∀ w' : World, Kp (fun b => b = X.R ∨ w.heap.size ≤ b) w w' → w'.cell? ⟨fb0, fo + 1, none⟩ = some (.int .i64 (rg : Int)) ∧ w'.cell? ⟨fb0, fo + 2, none⟩ = some (.slice PA vs.length PC) ∧ w'.cell? ⟨fb0, fo + 4, none⟩ = some (.int .i64 (fr : Int)) ∧ w'.cell? ⟨fb0, fo + 5, none⟩ = some (.bool true)) := fun w' kk => by
    have r1 := hrow.at 1 (v := .int .i64 X.l[k].rg) rfl
    have r2 := hrow.at 2 (v := .slice PA X.l[k].pa.length PC) rfl
    have r4 := hrow.at 4 (v := .int .i64 X.l[k].fr) rfl
    have r5 := hrow.at 5 (v := .bool X.l[k].qu) rfl
    rw [hrgE] at r1
    rw [hlen] at r2
    rw [hfrE] at r4
    rw [hq] at r5
    exact ⟨OC.out w' kk _ _ _ hrow.1 r1, OC.out w' kk _ _ _ hrow.1 r2, OC.out w' kk _ _ _ hrow.1 r4, OC.out w' kk _ _ _ hrow.1 r5⟩
  have FC6 : Hid (∀ w' : World, Kp (fun b => L.ro b = 0 ∨ L.ro b = 6) w w' → w'.cell? ⟨fb0, fo + 5, none⟩ = some (.bool true)) := fun w' kk => by
    have r5 := hrow.at 5 (v := .bool X.l[k].qu) rfl
    rw [hq] at r5
    have hb0 := hrow.1
    have e1 := kk.2 fb0 (by omega) fun e => by
      have := h.zz fb0 hb0; omega
    have e2 := h.bz.block fb0 hb0
    rw [← r5]
    unfold World.cell?
    rw [e1, e2]
  have PC2 : Hid (∀ i (hi : i < X.l[k].pa.length), ∃ b o, PA = some ⟨b, o, none⟩ ∧ ∀ w', Kp (fun b => b = X.R ∨ w.heap.size ≤ b) w w' → w'.cell? ⟨b, o + i, none⟩ = some (.int .i64 (X.l[k].pa[i]'hi))) := fun i hi => by
    obtain ⟨b, o, e, hb, hc⟩ := hpc i hi
    exact ⟨b, o, e, fun w' kk => OC.out w' kk _ _ _ hb hc⟩
  have AC2 : Hid (∀ i (hi : i < vs.length), ∃ b o, AA = some ⟨b, o, none⟩ ∧ ∀ w', Kp (fun b => b = X.R ∨ w.heap.size ≤ b) w w' → w'.cell? ⟨b, o + i, none⟩ = some (.int .i32 (vs[i]'hi))) := fun i hi => by
    obtain ⟨b, o, e, hb, hne, hc⟩ := hac i hi
    refine ⟨b, o, e, fun w' kk => ?_⟩
    rw [← hc]
    unfold World.cell?
    rw [kk.2 b hb (by omega)]
  obtain ⟨cA, cC, ecv, -⟩ := OwnB.shape ptC_len h.cc
  obtain ⟨cn, hcn⟩ : ∃ cn, cn = ((List.range z.cs.length).map L.pb).length := ⟨_, rfl⟩
  rw [← hcn] at ecv
  have HCN : Hid (cn = z.cs.length) := hcn.trans (by simp)
  have hcn2 : cn < 392 := by have := HCN.out; omega
  clear hcn
  have hcz : ¬ 392 ≤ (cn : Int) := by omega
  have HH : Hid (MX X z nv st L w) := h
  have FP : Hid (fpV X k = .pointer (some ⟨fb0, fo, none⟩)) := hfp
  have EV : Hid (L.cv = .slice cA cn cC) := ecv
  have RM : Hid (∀ w' : World, Below w.heap.size w w' → Calls Tryd.prog 24 #[.pointer (some ⟨X.R, 0, none⟩)] w' fun e w2 => e = .returned (.int .u32 ba) ∧ Below w'.heap.size w' w2) := hRM
  have SS : Hid (∀ w' : World, Below w.heap.size w w' → w'.cell? ⟨fb0, fo + 1, none⟩ = some (.int .i64 (rg : Int)) ∧ w'.cell? ⟨fb0, fo + 4, none⟩ = some (.int .i64 (fr : Int)) ∧ w'.cell? ⟨X.R, 7, none⟩ = some nv ∧ w'.frozen? ⟨X.R, 7, none⟩ = false) := fun w' hb => by
    have kk : Kp (fun b => b = X.R ∨ w.heap.size ≤ b) w w' := Kp.of_below hb
    have g := h.rr.beW hb
    exact ⟨(FC.out w' kk).1, (FC.out w' kk).2.2.1, g.cell 7 (by omega), g.frozen 7⟩
  have HP : Hid (∀ r ∈ X.l[k].pa, 0 ≤ r ∧ r < rg) := hpa
  have LN : Hid (X.l[k].pa.length = vs.length) := hlen
  have c6 : w.cell? ⟨X.R, 6, none⟩ = some (.slice cA cn cC) := by have := h.rr.cell 6 (by omega); rw [← ecv]; exact this
  have c8 : w.cell? ⟨X.R, 8, none⟩ = some (.int .i64 z.ld) := h.rr.cell 8 (by omega)
  have c5 := (FC.out w (Kp.refl _ _)).2.2.2
  have mR : ∀ w : World, (Instr.makeSlice 81 (.int .i64 (rg : Int)) (.int .i64 (rg : Int))).run Tryd.prog w = _ := fun w => make_w rg (by omega) w
  have mF : ∀ w : World, (Instr.makeSlice 81 (.int .i64 (fr : Int)) (.int .i64 (fr : Int))).run Tryd.prog w = _ := fun w => make_w fr (by omega) w
  obtain ⟨pa, hpaE⟩ : ∃ pa, pa = X.l[k].pa := ⟨_, rfl⟩
  rw [← hpaE] at PC2 HP LN ⊢
  rw [hfp]
  clear h hfp hrow hpn hpc hac ecv hRM hpa hlen hrgE hfrE hq hpaE hsz hRz hk hn
  go_enter Tryd.func18, Tryd.ntmps18
  go_upto_region 2 with fail
  clear c6 c8 c5
  go_cut [] from 29 to 47 (fun wx => CR X z nv st L w ⟨k, List.replicate rg 0, List.replicate fr 0, ba, 0, 0⟩ wx)
  case first =>
    refine wp_region_N (fun w' => w'.cell? ⟨fb0, fo + 1, none⟩ = some (.int .i64 (rg : Int)) ∧ w'.cell? ⟨fb0, fo + 4, none⟩ = some (.int .i64 (fr : Int)) ∧ w'.cell? ⟨X.R, 7, none⟩ = some nv ∧ w'.frozen? ⟨X.R, 7, none⟩ = false) (fun i => i != 18) mixedE (SS.out _ (below_drew _)) ?_
    intro S0
    have B0 : Hid (Below w.heap.size w w.drew) := below_drew _
    generalize w.drew = wd at *
    refine tkO (i := 0) (v := ?_) rfl (Or.inl ⟨by rfl, ?_⟩) S0 ?_
    rotate_left
    · intro w' hS'
      obtain ⟨h0, h1, h2, h3⟩ := hS'
      (try go_simp)
      first | done | exact rfl | exact ⟨rfl, rfl⟩
    (try simp only [Act.put, qA, qC, qD, qE, qF])
    refine tkO (i := 1) (v := ?_) rfl (Or.inl ⟨by rfl, ?_⟩) S0 ?_
    rotate_left
    · intro w' hS'
      obtain ⟨h0, h1, h2, h3⟩ := hS'
      (try go_simp)
      first | done | exact rfl | exact ⟨rfl, rfl⟩
    (try simp only [Act.put, qA, qB, qC, qD, qE, qF])
    refine tkO (i := 2) (v := ?_) rfl (Or.inl ⟨by rfl, ?_⟩) S0 ?_
    rotate_left
    · intro w' hS'
      obtain ⟨h0, h1, h2, h3⟩ := hS'
      (try go_simp)
      first | done | exact rfl | exact ⟨rfl, rfl⟩
    (try simp only [Act.put, qA, qB, qC, qD, qE, qF])
    refine tkO (i := 3) (v := ?_) rfl (Or.inl ⟨by rfl, ?_⟩) S0 ?_
    rotate_left
    · intro w' hS'
      obtain ⟨h0, h1, h2, h3⟩ := hS'
      (try go_simp)
      first | done | exact rfl | exact ⟨rfl, rfl⟩
    (try simp only [Act.put, qA, qB, qC, qD, qE, qF])
    refine tkO (i := 4) (v := ?_) rfl (Or.inl ⟨by rfl, ?_⟩) S0 ?_
    rotate_left
    · intro w' hS'
      obtain ⟨h0, h1, h2, h3⟩ := hS'
      (try go_simp)
      first | done | exact rfl | exact ⟨rfl, rfl⟩
    (try simp only [Act.put, qA, qB, qC, qD, qE, qF])
    refine tkO (i := 5) (v := ?_) rfl (Or.inl ⟨by rfl, ?_⟩) S0 ?_
    rotate_left
    · intro w' hS'
      obtain ⟨h0, h1, h2, h3⟩ := hS'
      (try go_simp)
      first | done | exact rfl | exact ⟨rfl, rfl⟩
    (try simp only [Act.put, qA, qB, qC, qD, qE, qF])
    refine tkO (i := 7) (v := ?_) rfl (Or.inl ⟨by rfl, ?_⟩) S0 ?_
    rotate_left
    · intro w' hS'
      obtain ⟨h0, h1, h2, h3⟩ := hS'
      (try go_simp)
      first | done | exact rfl | exact ⟨rfl, rfl⟩
    (try simp only [Act.put, qA, qB, qC, qD, qE, qF])
    refine tkO (i := 8) (v := ?_) rfl (Or.inl ⟨by rfl, ?_⟩) S0 ?_
    rotate_left
    · intro w' hS'
      obtain ⟨h0, h1, h2, h3⟩ := hS'
      (try go_simp)
      first | done | exact rfl | exact ⟨rfl, rfl⟩
    (try simp only [Act.put, qA, qB, qC, qD, qE, qF])
    refine tkO (i := 9) (v := ?_) rfl (Or.inl ⟨by rfl, ?_⟩) S0 ?_
    rotate_left
    · intro w' hS'
      obtain ⟨h0, h1, h2, h3⟩ := hS'
      (try go_simp)
      first | done | exact rfl | exact ⟨rfl, rfl⟩
    (try simp only [Act.put, qA, qB, qC, qD, qE, qF])
    refine tkO (i := 10) (v := ?_) rfl (Or.inl ⟨by rfl, ?_⟩) S0 ?_
    rotate_left
    · intro w' hS'
      obtain ⟨h0, h1, h2, h3⟩ := hS'
      (try go_simp)
      first | done | exact rfl | exact ⟨rfl, rfl⟩
    (try simp only [Act.put, qA, qB, qC, qD, qE, qF])
    refine tkO (i := 12) (v := ?_) rfl (Or.inl ⟨by rfl, ?_⟩) S0 ?_
    rotate_left
    · intro w' hS'
      obtain ⟨h0, h1, h2, h3⟩ := hS'
      (try go_simp)
      first | done | exact rfl | exact ⟨rfl, rfl⟩
    (try simp only [Act.put, qA, qB, qC, qD, qE, qF])
    refine wpAnyN_three (i0 := 6) (i1 := 11) (i2 := 13) (by kernel_rfl) rfl rfl rfl (fun K hK => ?_) (fun K hK => ?_) (fun K hK => ?_)
    · go_simp
      have M0 : Below wd.heap.size wd (wd.alloc (.cells (madeCells #[.int .i32 0] rg) 21)) := below_alloc _ _
      have A6 : Hid (WZ (wd.alloc (.cells (madeCells #[.int .i32 0] rg) 21)) wd.heap.size rg (fun _ => 0)) := WZ.made _ _
      have n6 : w.heap.size ≤ wd.heap.size := B0.out.size
      have B0 : Hid (Below w.heap.size w (wd.alloc (.cells (madeCells #[.int .i32 0] rg) 21))) := below_next B0.out M0
      refine hK _ _ (fun _ => SS.out _ B0.out) ?_
      clear hK K M0
      (try simp only [Act.put, qA, qB, qC, qD, qE, qF])
      generalize wd.alloc (.cells (madeCells #[.int .i32 0] rg) 21) = W6 at *
      generalize wd.heap.size = rb at *
      have l6 := GZ.lt A6.out
      have S0 := SS.out _ B0.out
      refine wpAnyN_two (i0 := 11) (i1 := 13) (by kernel_rfl) rfl rfl (fun K hK => ?_) (fun K hK => ?_)
      · go_simp
        have M0 : Below W6.heap.size W6 (W6.alloc (.cells (madeCells #[.int .i32 0] fr) 21)) := below_alloc _ _
        have A6 : Hid (WZ (W6.alloc (.cells (madeCells #[.int .i32 0] fr) 21)) rb rg (fun _ => 0)) := GZ.beW A6.out M0
        have A11 : Hid (WZ (W6.alloc (.cells (madeCells #[.int .i32 0] fr) 21)) W6.heap.size fr (fun _ => 0)) := WZ.made _ _
        have n11 : w.heap.size ≤ W6.heap.size ∧ rb < W6.heap.size := ⟨B0.out.size, l6⟩
        have B0 : Hid (Below w.heap.size w (W6.alloc (.cells (madeCells #[.int .i32 0] fr) 21))) := below_next B0.out M0
        refine hK _ _ (fun _ => SS.out _ B0.out) ?_
        clear hK K M0
        (try simp only [Act.put, qA, qB, qC, qD, qE, qF])
        generalize W6.alloc (.cells (madeCells #[.int .i32 0] fr) 21) = W6_11 at *
        generalize W6.heap.size = fb at *
        have l6 := GZ.lt A6.out
        have l11 := GZ.lt A11.out
        have S0 := SS.out _ B0.out
        refine wpAnyN_one (i := 13) (by kernel_rfl) rfl (fun K hK => ?_)
        go_simp
        refine Calls.mono (RM.out _ B0.out) ?_
        rintro e W6_11_13 ⟨rfl, M0⟩
        have A6 : Hid (WZ W6_11_13 rb rg (fun _ => 0)) := GZ.beW A6.out M0
        have A11 : Hid (WZ W6_11_13 fb fr (fun _ => 0)) := GZ.beW A11.out M0
        have B0 : Hid (Below w.heap.size w W6_11_13) := below_next B0.out M0
        have l6 := GZ.lt A6.out
        have l11 := GZ.lt A11.out
        go_wp2_with fail
        refine hK _ _ (fun _ => SS.out _ B0.out) ?_
        clear hK K M0
        (try simp only [Act.put, qA, qB, qC, qD, qE, qF])
        have S0 := SS.out _ B0.out
        refine tkO (i := 14) (v := ?_) rfl (Or.inl ⟨by rfl, ?_⟩) S0 ?_
        rotate_left
        · intro w' hS'
          obtain ⟨h0, h1, h2, h3⟩ := hS'
          (try go_simp)
          first | done | exact rfl | exact ⟨rfl, rfl⟩
        (try simp only [Act.put, qA, qB, qC, qD, qE, qF])
        refine wpAnyN_one (i := 15) (by kernel_rfl) rfl (fun K hK => ?_)
        go_simp
        have M0 : Below W6_11_13.heap.size W6_11_13 (W6_11_13.alloc (.cells #[.pointer (some ⟨fb0, fo, none⟩), .slice (some ⟨rb, 0, none⟩) rg rg, .slice (some ⟨fb, 0, none⟩) fr fr, .int .u32 ba, .int .i64 0, .int .i64 0] 85)) := below_alloc _ _
        have A6 : Hid (WZ (W6_11_13.alloc (.cells #[.pointer (some ⟨fb0, fo, none⟩), .slice (some ⟨rb, 0, none⟩) rg rg, .slice (some ⟨fb, 0, none⟩) fr fr, .int .u32 ba, .int .i64 0, .int .i64 0] 85)) rb rg (fun _ => 0)) := GZ.beW A6.out M0
        have A11 : Hid (WZ (W6_11_13.alloc (.cells #[.pointer (some ⟨fb0, fo, none⟩), .slice (some ⟨rb, 0, none⟩) rg rg, .slice (some ⟨fb, 0, none⟩) fr fr, .int .u32 ba, .int .i64 0, .int .i64 0] 85)) fb fr (fun _ => 0)) := GZ.beW A11.out M0
        have AB : Hid (At (W6_11_13.alloc (.cells #[.pointer (some ⟨fb0, fo, none⟩), .slice (some ⟨rb, 0, none⟩) rg rg, .slice (some ⟨fb, 0, none⟩) fr fr, .int .u32 ba, .int .i64 0, .int .i64 0] 85)) W6_11_13.heap.size #[.pointer (some ⟨fb0, fo, none⟩), .slice (some ⟨rb, 0, none⟩) rg rg, .slice (some ⟨fb, 0, none⟩) fr fr, .int .u32 ba, .int .i64 0, .int .i64 0] 85) := At.new _ _ _
        have n15 : w.heap.size ≤ W6_11_13.heap.size ∧ rb < W6_11_13.heap.size ∧ fb < W6_11_13.heap.size := ⟨B0.out.size, l6, l11⟩
        have B0 : Hid (Below w.heap.size w (W6_11_13.alloc (.cells #[.pointer (some ⟨fb0, fo, none⟩), .slice (some ⟨rb, 0, none⟩) rg rg, .slice (some ⟨fb, 0, none⟩) fr fr, .int .u32 ba, .int .i64 0, .int .i64 0] 85))) := below_next B0.out M0
        refine hK _ _ (fun _ => SS.out _ B0.out) ?_
        clear hK K M0
        (try simp only [Act.put, qA, qB, qC, qD, qE, qF])
        generalize W6_11_13.alloc (.cells #[.pointer (some ⟨fb0, fo, none⟩), .slice (some ⟨rb, 0, none⟩) rg rg, .slice (some ⟨fb, 0, none⟩) fr fr, .int .u32 ba, .int .i64 0, .int .i64 0] 85) = W6_11_13_15 at *
        generalize W6_11_13.heap.size = pb at *
        have S0 := SS.out _ B0.out
        refine wpAnyN_one (i := 16) (by kernel_rfl) rfl (fun K hK => ?_)
        go_simp
        refine hK _ _ (fun _ => S0) ?_
        clear hK K
        (try simp only [Act.put, qA, qB, qC, qD, qE, qF])
        refine wpAnyN_one (i := 17) (by kernel_rfl) rfl (fun K hK => ?_)
        go_simp
        refine hK _ _ (fun _ => S0) ?_
        clear hK K
        (try simp only [Act.put, qA, qB, qC, qD, qE, qF])
        refine wpAnyN_one (i := 18) (by kernel_rfl) rfl (fun K hK => ?_)
        obtain ⟨_, _, s7, s8⟩ := S0
        go_simp
        refine hK _ _ (fun h => by cases h) ?_
        clear hK K
        (try simp only [Act.put, qA, qB, qC, qD, qE, qF])
        refine wpAnyN_done (by kernel_rfl) ?_ _
        go_wp2_with fail
        go_meet
        case rel => exact CR.mk HH.out B0.out (by rw [FP.out]; exact AB.out) A6.out A11.out (by omega)
      · go_simp
        refine Calls.mono (RM.out _ B0.out) ?_
        rintro e W6_13 ⟨rfl, M0⟩
        have A6 : Hid (WZ W6_13 rb rg (fun _ => 0)) := GZ.beW A6.out M0
        have B0 : Hid (Below w.heap.size w W6_13) := below_next B0.out M0
        have l6 := GZ.lt A6.out
        go_wp2_with fail
        refine hK _ _ (fun _ => SS.out _ B0.out) ?_
        clear hK K M0
        (try simp only [Act.put, qA, qB, qC, qD, qE, qF])
        have S0 := SS.out _ B0.out
        refine wpAnyN_one (i := 11) (by kernel_rfl) rfl (fun K hK => ?_)
        go_simp
        have M0 : Below W6_13.heap.size W6_13 (W6_13.alloc (.cells (madeCells #[.int .i32 0] fr) 21)) := below_alloc _ _
        have A6 : Hid (WZ (W6_13.alloc (.cells (madeCells #[.int .i32 0] fr) 21)) rb rg (fun _ => 0)) := GZ.beW A6.out M0
        have A11 : Hid (WZ (W6_13.alloc (.cells (madeCells #[.int .i32 0] fr) 21)) W6_13.heap.size fr (fun _ => 0)) := WZ.made _ _
        have n11 : w.heap.size ≤ W6_13.heap.size ∧ rb < W6_13.heap.size := ⟨B0.out.size, l6⟩
        have B0 : Hid (Below w.heap.size w (W6_13.alloc (.cells (madeCells #[.int .i32 0] fr) 21))) := below_next B0.out M0
        refine hK _ _ (fun _ => SS.out _ B0.out) ?_
        clear hK K M0
        (try simp only [Act.put, qA, qB, qC, qD, qE, qF])
        generalize W6_13.alloc (.cells (madeCells #[.int .i32 0] fr) 21) = W6_13_11 at *
        generalize W6_13.heap.size = fb at *
        have l6 := GZ.lt A6.out
        have l11 := GZ.lt A11.out
        have S0 := SS.out _ B0.out
        refine tkO (i := 14) (v := ?_) rfl (Or.inl ⟨by rfl, ?_⟩) S0 ?_
        rotate_left
        · intro w' hS'
          obtain ⟨h0, h1, h2, h3⟩ := hS'
          (try go_simp)
          first | done | exact rfl | exact ⟨rfl, rfl⟩
        (try simp only [Act.put, qA, qB, qC, qD, qE, qF])
        refine wpAnyN_one (i := 15) (by kernel_rfl) rfl (fun K hK => ?_)
        go_simp
        have M0 : Below W6_13_11.heap.size W6_13_11 (W6_13_11.alloc (.cells #[.pointer (some ⟨fb0, fo, none⟩), .slice (some ⟨rb, 0, none⟩) rg rg, .slice (some ⟨fb, 0, none⟩) fr fr, .int .u32 ba, .int .i64 0, .int .i64 0] 85)) := below_alloc _ _
        have A6 : Hid (WZ (W6_13_11.alloc (.cells #[.pointer (some ⟨fb0, fo, none⟩), .slice (some ⟨rb, 0, none⟩) rg rg, .slice (some ⟨fb, 0, none⟩) fr fr, .int .u32 ba, .int .i64 0, .int .i64 0] 85)) rb rg (fun _ => 0)) := GZ.beW A6.out M0
        have A11 : Hid (WZ (W6_13_11.alloc (.cells #[.pointer (some ⟨fb0, fo, none⟩), .slice (some ⟨rb, 0, none⟩) rg rg, .slice (some ⟨fb, 0, none⟩) fr fr, .int .u32 ba, .int .i64 0, .int .i64 0] 85)) fb fr (fun _ => 0)) := GZ.beW A11.out M0
        have AB : Hid (At (W6_13_11.alloc (.cells #[.pointer (some ⟨fb0, fo, none⟩), .slice (some ⟨rb, 0, none⟩) rg rg, .slice (some ⟨fb, 0, none⟩) fr fr, .int .u32 ba, .int .i64 0, .int .i64 0] 85)) W6_13_11.heap.size #[.pointer (some ⟨fb0, fo, none⟩), .slice (some ⟨rb, 0, none⟩) rg rg, .slice (some ⟨fb, 0, none⟩) fr fr, .int .u32 ba, .int .i64 0, .int .i64 0] 85) := At.new _ _ _
        have n15 : w.heap.size ≤ W6_13_11.heap.size ∧ rb < W6_13_11.heap.size ∧ fb < W6_13_11.heap.size := ⟨B0.out.size, l6, l11⟩
        have B0 : Hid (Below w.heap.size w (W6_13_11.alloc (.cells #[.pointer (some ⟨fb0, fo, none⟩), .slice (some ⟨rb, 0, none⟩) rg rg, .slice (some ⟨fb, 0, none⟩) fr fr, .int .u32 ba, .int .i64 0, .int .i64 0] 85))) := below_next B0.out M0
        refine hK _ _ (fun _ => SS.out _ B0.out) ?_
        clear hK K M0
        (try simp only [Act.put, qA, qB, qC, qD, qE, qF])
        generalize W6_13_11.alloc (.cells #[.pointer (some ⟨fb0, fo, none⟩), .slice (some ⟨rb, 0, none⟩) rg rg, .slice (some ⟨fb, 0, none⟩) fr fr, .int .u32 ba, .int .i64 0, .int .i64 0] 85) = W6_13_11_15 at *
        generalize W6_13_11.heap.size = pb at *
        have S0 := SS.out _ B0.out
        refine wpAnyN_one (i := 16) (by kernel_rfl) rfl (fun K hK => ?_)
        go_simp
        refine hK _ _ (fun _ => S0) ?_
        clear hK K
        (try simp only [Act.put, qA, qB, qC, qD, qE, qF])
        refine wpAnyN_one (i := 17) (by kernel_rfl) rfl (fun K hK => ?_)
        go_simp
        refine hK _ _ (fun _ => S0) ?_
        clear hK K
        (try simp only [Act.put, qA, qB, qC, qD, qE, qF])
        refine wpAnyN_one (i := 18) (by kernel_rfl) rfl (fun K hK => ?_)
        obtain ⟨_, _, s7, s8⟩ := S0
        go_simp
        refine hK _ _ (fun h => by cases h) ?_
        clear hK K
        (try simp only [Act.put, qA, qB, qC, qD, qE, qF])
        refine wpAnyN_done (by kernel_rfl) ?_ _
        go_wp2_with fail
        go_meet
        case rel => exact CR.mk HH.out B0.out (by rw [FP.out]; exact AB.out) A6.out A11.out (by omega)
    · go_simp
      have M0 : Below wd.heap.size wd (wd.alloc (.cells (madeCells #[.int .i32 0] fr) 21)) := below_alloc _ _
      have A11 : Hid (WZ (wd.alloc (.cells (madeCells #[.int .i32 0] fr) 21)) wd.heap.size fr (fun _ => 0)) := WZ.made _ _
      have n11 : w.heap.size ≤ wd.heap.size := B0.out.size
      have B0 : Hid (Below w.heap.size w (wd.alloc (.cells (madeCells #[.int .i32 0] fr) 21))) := below_next B0.out M0
      refine hK _ _ (fun _ => SS.out _ B0.out) ?_
      clear hK K M0
      (try simp only [Act.put, qA, qB, qC, qD, qE, qF])
      generalize wd.alloc (.cells (madeCells #[.int .i32 0] fr) 21) = W11 at *
      generalize wd.heap.size = fb at *
      have l11 := GZ.lt A11.out
      have S0 := SS.out _ B0.out
      refine wpAnyN_two (i0 := 6) (i1 := 13) (by kernel_rfl) rfl rfl (fun K hK => ?_) (fun K hK => ?_)
      · go_simp
        have M0 : Below W11.heap.size W11 (W11.alloc (.cells (madeCells #[.int .i32 0] rg) 21)) := below_alloc _ _
        have A11 : Hid (WZ (W11.alloc (.cells (madeCells #[.int .i32 0] rg) 21)) fb fr (fun _ => 0)) := GZ.beW A11.out M0
        have A6 : Hid (WZ (W11.alloc (.cells (madeCells #[.int .i32 0] rg) 21)) W11.heap.size rg (fun _ => 0)) := WZ.made _ _
        have n6 : w.heap.size ≤ W11.heap.size ∧ fb < W11.heap.size := ⟨B0.out.size, l11⟩
        have B0 : Hid (Below w.heap.size w (W11.alloc (.cells (madeCells #[.int .i32 0] rg) 21))) := below_next B0.out M0
        refine hK _ _ (fun _ => SS.out _ B0.out) ?_
        clear hK K M0
        (try simp only [Act.put, qA, qB, qC, qD, qE, qF])
        generalize W11.alloc (.cells (madeCells #[.int .i32 0] rg) 21) = W11_6 at *
        generalize W11.heap.size = rb at *
        have l11 := GZ.lt A11.out
        have l6 := GZ.lt A6.out
        have S0 := SS.out _ B0.out
        refine wpAnyN_one (i := 13) (by kernel_rfl) rfl (fun K hK => ?_)
        go_simp
        refine Calls.mono (RM.out _ B0.out) ?_
        rintro e W11_6_13 ⟨rfl, M0⟩
        have A11 : Hid (WZ W11_6_13 fb fr (fun _ => 0)) := GZ.beW A11.out M0
        have A6 : Hid (WZ W11_6_13 rb rg (fun _ => 0)) := GZ.beW A6.out M0
        have B0 : Hid (Below w.heap.size w W11_6_13) := below_next B0.out M0
        have l11 := GZ.lt A11.out
        have l6 := GZ.lt A6.out
        go_wp2_with fail
        refine hK _ _ (fun _ => SS.out _ B0.out) ?_
        clear hK K M0
        (try simp only [Act.put, qA, qB, qC, qD, qE, qF])
        have S0 := SS.out _ B0.out
        refine tkO (i := 14) (v := ?_) rfl (Or.inl ⟨by rfl, ?_⟩) S0 ?_
        rotate_left
        · intro w' hS'
          obtain ⟨h0, h1, h2, h3⟩ := hS'
          (try go_simp)
          first | done | exact rfl | exact ⟨rfl, rfl⟩
        (try simp only [Act.put, qA, qB, qC, qD, qE, qF])
        refine wpAnyN_one (i := 15) (by kernel_rfl) rfl (fun K hK => ?_)
        go_simp
        have M0 : Below W11_6_13.heap.size W11_6_13 (W11_6_13.alloc (.cells #[.pointer (some ⟨fb0, fo, none⟩), .slice (some ⟨rb, 0, none⟩) rg rg, .slice (some ⟨fb, 0, none⟩) fr fr, .int .u32 ba, .int .i64 0, .int .i64 0] 85)) := below_alloc _ _
        have A6 : Hid (WZ (W11_6_13.alloc (.cells #[.pointer (some ⟨fb0, fo, none⟩), .slice (some ⟨rb, 0, none⟩) rg rg, .slice (some ⟨fb, 0, none⟩) fr fr, .int .u32 ba, .int .i64 0, .int .i64 0] 85)) rb rg (fun _ => 0)) := GZ.beW A6.out M0
        have A11 : Hid (WZ (W11_6_13.alloc (.cells #[.pointer (some ⟨fb0, fo, none⟩), .slice (some ⟨rb, 0, none⟩) rg rg, .slice (some ⟨fb, 0, none⟩) fr fr, .int .u32 ba, .int .i64 0, .int .i64 0] 85)) fb fr (fun _ => 0)) := GZ.beW A11.out M0
        have AB : Hid (At (W11_6_13.alloc (.cells #[.pointer (some ⟨fb0, fo, none⟩), .slice (some ⟨rb, 0, none⟩) rg rg, .slice (some ⟨fb, 0, none⟩) fr fr, .int .u32 ba, .int .i64 0, .int .i64 0] 85)) W11_6_13.heap.size #[.pointer (some ⟨fb0, fo, none⟩), .slice (some ⟨rb, 0, none⟩) rg rg, .slice (some ⟨fb, 0, none⟩) fr fr, .int .u32 ba, .int .i64 0, .int .i64 0] 85) := At.new _ _ _
        have n15 : w.heap.size ≤ W11_6_13.heap.size ∧ rb < W11_6_13.heap.size ∧ fb < W11_6_13.heap.size := ⟨B0.out.size, l6, l11⟩
        have B0 : Hid (Below w.heap.size w (W11_6_13.alloc (.cells #[.pointer (some ⟨fb0, fo, none⟩), .slice (some ⟨rb, 0, none⟩) rg rg, .slice (some ⟨fb, 0, none⟩) fr fr, .int .u32 ba, .int .i64 0, .int .i64 0] 85))) := below_next B0.out M0
        refine hK _ _ (fun _ => SS.out _ B0.out) ?_
        clear hK K M0
        (try simp only [Act.put, qA, qB, qC, qD, qE, qF])
        generalize W11_6_13.alloc (.cells #[.pointer (some ⟨fb0, fo, none⟩), .slice (some ⟨rb, 0, none⟩) rg rg, .slice (some ⟨fb, 0, none⟩) fr fr, .int .u32 ba, .int .i64 0, .int .i64 0] 85) = W11_6_13_15 at *
        generalize W11_6_13.heap.size = pb at *
        have S0 := SS.out _ B0.out
        refine wpAnyN_one (i := 16) (by kernel_rfl) rfl (fun K hK => ?_)
        go_simp
        refine hK _ _ (fun _ => S0) ?_
        clear hK K
        (try simp only [Act.put, qA, qB, qC, qD, qE, qF])
        refine wpAnyN_one (i := 17) (by kernel_rfl) rfl (fun K hK => ?_)
        go_simp
        refine hK _ _ (fun _ => S0) ?_
        clear hK K
        (try simp only [Act.put, qA, qB, qC, qD, qE, qF])
        refine wpAnyN_one (i := 18) (by kernel_rfl) rfl (fun K hK => ?_)
        obtain ⟨_, _, s7, s8⟩ := S0
        go_simp
        refine hK _ _ (fun h => by cases h) ?_
        clear hK K
        (try simp only [Act.put, qA, qB, qC, qD, qE, qF])
        refine wpAnyN_done (by kernel_rfl) ?_ _
        go_wp2_with fail
        go_meet
        case rel => exact CR.mk HH.out B0.out (by rw [FP.out]; exact AB.out) A6.out A11.out (by omega)
      · go_simp
        refine Calls.mono (RM.out _ B0.out) ?_
        rintro e W11_13 ⟨rfl, M0⟩
        have A11 : Hid (WZ W11_13 fb fr (fun _ => 0)) := GZ.beW A11.out M0
        have B0 : Hid (Below w.heap.size w W11_13) := below_next B0.out M0
        have l11 := GZ.lt A11.out
        go_wp2_with fail
        refine hK _ _ (fun _ => SS.out _ B0.out) ?_
        clear hK K M0
        (try simp only [Act.put, qA, qB, qC, qD, qE, qF])
        have S0 := SS.out _ B0.out
        refine wpAnyN_one (i := 6) (by kernel_rfl) rfl (fun K hK => ?_)
        go_simp
        have M0 : Below W11_13.heap.size W11_13 (W11_13.alloc (.cells (madeCells #[.int .i32 0] rg) 21)) := below_alloc _ _
        have A11 : Hid (WZ (W11_13.alloc (.cells (madeCells #[.int .i32 0] rg) 21)) fb fr (fun _ => 0)) := GZ.beW A11.out M0
        have A6 : Hid (WZ (W11_13.alloc (.cells (madeCells #[.int .i32 0] rg) 21)) W11_13.heap.size rg (fun _ => 0)) := WZ.made _ _
        have n6 : w.heap.size ≤ W11_13.heap.size ∧ fb < W11_13.heap.size := ⟨B0.out.size, l11⟩
        have B0 : Hid (Below w.heap.size w (W11_13.alloc (.cells (madeCells #[.int .i32 0] rg) 21))) := below_next B0.out M0
        refine hK _ _ (fun _ => SS.out _ B0.out) ?_
        clear hK K M0
        (try simp only [Act.put, qA, qB, qC, qD, qE, qF])
        generalize W11_13.alloc (.cells (madeCells #[.int .i32 0] rg) 21) = W11_13_6 at *
        generalize W11_13.heap.size = rb at *
        have l11 := GZ.lt A11.out
        have l6 := GZ.lt A6.out
        have S0 := SS.out _ B0.out
        refine tkO (i := 14) (v := ?_) rfl (Or.inl ⟨by rfl, ?_⟩) S0 ?_
        rotate_left
        · intro w' hS'
          obtain ⟨h0, h1, h2, h3⟩ := hS'
          (try go_simp)
          first | done | exact rfl | exact ⟨rfl, rfl⟩
        (try simp only [Act.put, qA, qB, qC, qD, qE, qF])
        refine wpAnyN_one (i := 15) (by kernel_rfl) rfl (fun K hK => ?_)
        go_simp
        have M0 : Below W11_13_6.heap.size W11_13_6 (W11_13_6.alloc (.cells #[.pointer (some ⟨fb0, fo, none⟩), .slice (some ⟨rb, 0, none⟩) rg rg, .slice (some ⟨fb, 0, none⟩) fr fr, .int .u32 ba, .int .i64 0, .int .i64 0] 85)) := below_alloc _ _
        have A6 : Hid (WZ (W11_13_6.alloc (.cells #[.pointer (some ⟨fb0, fo, none⟩), .slice (some ⟨rb, 0, none⟩) rg rg, .slice (some ⟨fb, 0, none⟩) fr fr, .int .u32 ba, .int .i64 0, .int .i64 0] 85)) rb rg (fun _ => 0)) := GZ.beW A6.out M0
        have A11 : Hid (WZ (W11_13_6.alloc (.cells #[.pointer (some ⟨fb0, fo, none⟩), .slice (some ⟨rb, 0, none⟩) rg rg, .slice (some ⟨fb, 0, none⟩) fr fr, .int .u32 ba, .int .i64 0, .int .i64 0] 85)) fb fr (fun _ => 0)) := GZ.beW A11.out M0
        have AB : Hid (At (W11_13_6.alloc (.cells #[.pointer (some ⟨fb0, fo, none⟩), .slice (some ⟨rb, 0, none⟩) rg rg, .slice (some ⟨fb, 0, none⟩) fr fr, .int .u32 ba, .int .i64 0, .int .i64 0] 85)) W11_13_6.heap.size #[.pointer (some ⟨fb0, fo, none⟩), .slice (some ⟨rb, 0, none⟩) rg rg, .slice (some ⟨fb, 0, none⟩) fr fr, .int .u32 ba, .int .i64 0, .int .i64 0] 85) := At.new _ _ _
        have n15 : w.heap.size ≤ W11_13_6.heap.size ∧ rb < W11_13_6.heap.size ∧ fb < W11_13_6.heap.size := ⟨B0.out.size, l6, l11⟩
        have B0 : Hid (Below w.heap.size w (W11_13_6.alloc (.cells #[.pointer (some ⟨fb0, fo, none⟩), .slice (some ⟨rb, 0, none⟩) rg rg, .slice (some ⟨fb, 0, none⟩) fr fr, .int .u32 ba, .int .i64 0, .int .i64 0] 85))) := below_next B0.out M0
        refine hK _ _ (fun _ => SS.out _ B0.out) ?_
        clear hK K M0
        (try simp only [Act.put, qA, qB, qC, qD, qE, qF])
        generalize W11_13_6.alloc (.cells #[.pointer (some ⟨fb0, fo, none⟩), .slice (some ⟨rb, 0, none⟩) rg rg, .slice (some ⟨fb, 0, none⟩) fr fr, .int .u32 ba, .int .i64 0, .int .i64 0] 85) = W11_13_6_15 at *
        generalize W11_13_6.heap.size = pb at *
        have S0 := SS.out _ B0.out
        refine wpAnyN_one (i := 16) (by kernel_rfl) rfl (fun K hK => ?_)
        go_simp
        refine hK _ _ (fun _ => S0) ?_
        clear hK K
        (try simp only [Act.put, qA, qB, qC, qD, qE, qF])
        refine wpAnyN_one (i := 17) (by kernel_rfl) rfl (fun K hK => ?_)
        go_simp
        refine hK _ _ (fun _ => S0) ?_
        clear hK K
        (try simp only [Act.put, qA, qB, qC, qD, qE, qF])
        refine wpAnyN_one (i := 18) (by kernel_rfl) rfl (fun K hK => ?_)
        obtain ⟨_, _, s7, s8⟩ := S0
        go_simp
        refine hK _ _ (fun h => by cases h) ?_
        clear hK K
        (try simp only [Act.put, qA, qB, qC, qD, qE, qF])
        refine wpAnyN_done (by kernel_rfl) ?_ _
        go_wp2_with fail
        go_meet
        case rel => exact CR.mk HH.out B0.out (by rw [FP.out]; exact AB.out) A6.out A11.out (by omega)
    · go_simp
      refine Calls.mono (RM.out _ B0.out) ?_
      rintro e W13 ⟨rfl, M0⟩
      have B0 : Hid (Below w.heap.size w W13) := below_next B0.out M0
      go_wp2_with fail
      refine hK _ _ (fun _ => SS.out _ B0.out) ?_
      clear hK K M0
      (try simp only [Act.put, qA, qB, qC, qD, qE, qF])
      have S0 := SS.out _ B0.out
      refine wpAnyN_two (i0 := 6) (i1 := 11) (by kernel_rfl) rfl rfl (fun K hK => ?_) (fun K hK => ?_)
      · go_simp
        have M0 : Below W13.heap.size W13 (W13.alloc (.cells (madeCells #[.int .i32 0] rg) 21)) := below_alloc _ _
        have A6 : Hid (WZ (W13.alloc (.cells (madeCells #[.int .i32 0] rg) 21)) W13.heap.size rg (fun _ => 0)) := WZ.made _ _
        have n6 : w.heap.size ≤ W13.heap.size := B0.out.size
        have B0 : Hid (Below w.heap.size w (W13.alloc (.cells (madeCells #[.int .i32 0] rg) 21))) := below_next B0.out M0
        refine hK _ _ (fun _ => SS.out _ B0.out) ?_
        clear hK K M0
        (try simp only [Act.put, qA, qB, qC, qD, qE, qF])
        generalize W13.alloc (.cells (madeCells #[.int .i32 0] rg) 21) = W13_6 at *
        generalize W13.heap.size = rb at *
        have l6 := GZ.lt A6.out
        have S0 := SS.out _ B0.out
        refine wpAnyN_one (i := 11) (by kernel_rfl) rfl (fun K hK => ?_)
        go_simp
        have M0 : Below W13_6.heap.size W13_6 (W13_6.alloc (.cells (madeCells #[.int .i32 0] fr) 21)) := below_alloc _ _
        have A6 : Hid (WZ (W13_6.alloc (.cells (madeCells #[.int .i32 0] fr) 21)) rb rg (fun _ => 0)) := GZ.beW A6.out M0
        have A11 : Hid (WZ (W13_6.alloc (.cells (madeCells #[.int .i32 0] fr) 21)) W13_6.heap.size fr (fun _ => 0)) := WZ.made _ _
        have n11 : w.heap.size ≤ W13_6.heap.size ∧ rb < W13_6.heap.size := ⟨B0.out.size, l6⟩
        have B0 : Hid (Below w.heap.size w (W13_6.alloc (.cells (madeCells #[.int .i32 0] fr) 21))) := below_next B0.out M0
        refine hK _ _ (fun _ => SS.out _ B0.out) ?_
        clear hK K M0
        (try simp only [Act.put, qA, qB, qC, qD, qE, qF])
        generalize W13_6.alloc (.cells (madeCells #[.int .i32 0] fr) 21) = W13_6_11 at *
        generalize W13_6.heap.size = fb at *
        have l6 := GZ.lt A6.out
        have l11 := GZ.lt A11.out
        have S0 := SS.out _ B0.out
        refine tkO (i := 14) (v := ?_) rfl (Or.inl ⟨by rfl, ?_⟩) S0 ?_
        rotate_left
        · intro w' hS'
          obtain ⟨h0, h1, h2, h3⟩ := hS'
          (try go_simp)
          first | done | exact rfl | exact ⟨rfl, rfl⟩
        (try simp only [Act.put, qA, qB, qC, qD, qE, qF])
        refine wpAnyN_one (i := 15) (by kernel_rfl) rfl (fun K hK => ?_)
        go_simp
        have M0 : Below W13_6_11.heap.size W13_6_11 (W13_6_11.alloc (.cells #[.pointer (some ⟨fb0, fo, none⟩), .slice (some ⟨rb, 0, none⟩) rg rg, .slice (some ⟨fb, 0, none⟩) fr fr, .int .u32 ba, .int .i64 0, .int .i64 0] 85)) := below_alloc _ _
        have A6 : Hid (WZ (W13_6_11.alloc (.cells #[.pointer (some ⟨fb0, fo, none⟩), .slice (some ⟨rb, 0, none⟩) rg rg, .slice (some ⟨fb, 0, none⟩) fr fr, .int .u32 ba, .int .i64 0, .int .i64 0] 85)) rb rg (fun _ => 0)) := GZ.beW A6.out M0
        have A11 : Hid (WZ (W13_6_11.alloc (.cells #[.pointer (some ⟨fb0, fo, none⟩), .slice (some ⟨rb, 0, none⟩) rg rg, .slice (some ⟨fb, 0, none⟩) fr fr, .int .u32 ba, .int .i64 0, .int .i64 0] 85)) fb fr (fun _ => 0)) := GZ.beW A11.out M0
        have AB : Hid (At (W13_6_11.alloc (.cells #[.pointer (some ⟨fb0, fo, none⟩), .slice (some ⟨rb, 0, none⟩) rg rg, .slice (some ⟨fb, 0, none⟩) fr fr, .int .u32 ba, .int .i64 0, .int .i64 0] 85)) W13_6_11.heap.size #[.pointer (some ⟨fb0, fo, none⟩), .slice (some ⟨rb, 0, none⟩) rg rg, .slice (some ⟨fb, 0, none⟩) fr fr, .int .u32 ba, .int .i64 0, .int .i64 0] 85) := At.new _ _ _
        have n15 : w.heap.size ≤ W13_6_11.heap.size ∧ rb < W13_6_11.heap.size ∧ fb < W13_6_11.heap.size := ⟨B0.out.size, l6, l11⟩
        have B0 : Hid (Below w.heap.size w (W13_6_11.alloc (.cells #[.pointer (some ⟨fb0, fo, none⟩), .slice (some ⟨rb, 0, none⟩) rg rg, .slice (some ⟨fb, 0, none⟩) fr fr, .int .u32 ba, .int .i64 0, .int .i64 0] 85))) := below_next B0.out M0
        refine hK _ _ (fun _ => SS.out _ B0.out) ?_
        clear hK K M0
        (try simp only [Act.put, qA, qB, qC, qD, qE, qF])
        generalize W13_6_11.alloc (.cells #[.pointer (some ⟨fb0, fo, none⟩), .slice (some ⟨rb, 0, none⟩) rg rg, .slice (some ⟨fb, 0, none⟩) fr fr, .int .u32 ba, .int .i64 0, .int .i64 0] 85) = W13_6_11_15 at *
        generalize W13_6_11.heap.size = pb at *
        have S0 := SS.out _ B0.out
        refine wpAnyN_one (i := 16) (by kernel_rfl) rfl (fun K hK => ?_)
        go_simp
        refine hK _ _ (fun _ => S0) ?_
        clear hK K
        (try simp only [Act.put, qA, qB, qC, qD, qE, qF])
        refine wpAnyN_one (i := 17) (by kernel_rfl) rfl (fun K hK => ?_)
        go_simp
        refine hK _ _ (fun _ => S0) ?_
        clear hK K
        (try simp only [Act.put, qA, qB, qC, qD, qE, qF])
        refine wpAnyN_one (i := 18) (by kernel_rfl) rfl (fun K hK => ?_)
        obtain ⟨_, _, s7, s8⟩ := S0
        go_simp
        refine hK _ _ (fun h => by cases h) ?_
        clear hK K
        (try simp only [Act.put, qA, qB, qC, qD, qE, qF])
        refine wpAnyN_done (by kernel_rfl) ?_ _
        go_wp2_with fail
        go_meet
        case rel => exact CR.mk HH.out B0.out (by rw [FP.out]; exact AB.out) A6.out A11.out (by omega)
      · go_simp
        have M0 : Below W13.heap.size W13 (W13.alloc (.cells (madeCells #[.int .i32 0] fr) 21)) := below_alloc _ _
        have A11 : Hid (WZ (W13.alloc (.cells (madeCells #[.int .i32 0] fr) 21)) W13.heap.size fr (fun _ => 0)) := WZ.made _ _
        have n11 : w.heap.size ≤ W13.heap.size := B0.out.size
        have B0 : Hid (Below w.heap.size w (W13.alloc (.cells (madeCells #[.int .i32 0] fr) 21))) := below_next B0.out M0
        refine hK _ _ (fun _ => SS.out _ B0.out) ?_
        clear hK K M0
        (try simp only [Act.put, qA, qB, qC, qD, qE, qF])
        generalize W13.alloc (.cells (madeCells #[.int .i32 0] fr) 21) = W13_11 at *
        generalize W13.heap.size = fb at *
        have l11 := GZ.lt A11.out
        have S0 := SS.out _ B0.out
        refine wpAnyN_one (i := 6) (by kernel_rfl) rfl (fun K hK => ?_)
        go_simp
        have M0 : Below W13_11.heap.size W13_11 (W13_11.alloc (.cells (madeCells #[.int .i32 0] rg) 21)) := below_alloc _ _
        have A11 : Hid (WZ (W13_11.alloc (.cells (madeCells #[.int .i32 0] rg) 21)) fb fr (fun _ => 0)) := GZ.beW A11.out M0
        have A6 : Hid (WZ (W13_11.alloc (.cells (madeCells #[.int .i32 0] rg) 21)) W13_11.heap.size rg (fun _ => 0)) := WZ.made _ _
        have n6 : w.heap.size ≤ W13_11.heap.size ∧ fb < W13_11.heap.size := ⟨B0.out.size, l11⟩
        have B0 : Hid (Below w.heap.size w (W13_11.alloc (.cells (madeCells #[.int .i32 0] rg) 21))) := below_next B0.out M0
        refine hK _ _ (fun _ => SS.out _ B0.out) ?_
        clear hK K M0
        (try simp only [Act.put, qA, qB, qC, qD, qE, qF])
        generalize W13_11.alloc (.cells (madeCells #[.int .i32 0] rg) 21) = W13_11_6 at *
        generalize W13_11.heap.size = rb at *
        have l11 := GZ.lt A11.out
        have l6 := GZ.lt A6.out
        have S0 := SS.out _ B0.out
        refine tkO (i := 14) (v := ?_) rfl (Or.inl ⟨by rfl, ?_⟩) S0 ?_
        rotate_left
        · intro w' hS'
          obtain ⟨h0, h1, h2, h3⟩ := hS'
          (try go_simp)
          first | done | exact rfl | exact ⟨rfl, rfl⟩
        (try simp only [Act.put, qA, qB, qC, qD, qE, qF])
        refine wpAnyN_one (i := 15) (by kernel_rfl) rfl (fun K hK => ?_)
        go_simp
        have M0 : Below W13_11_6.heap.size W13_11_6 (W13_11_6.alloc (.cells #[.pointer (some ⟨fb0, fo, none⟩), .slice (some ⟨rb, 0, none⟩) rg rg, .slice (some ⟨fb, 0, none⟩) fr fr, .int .u32 ba, .int .i64 0, .int .i64 0] 85)) := below_alloc _ _
        have A6 : Hid (WZ (W13_11_6.alloc (.cells #[.pointer (some ⟨fb0, fo, none⟩), .slice (some ⟨rb, 0, none⟩) rg rg, .slice (some ⟨fb, 0, none⟩) fr fr, .int .u32 ba, .int .i64 0, .int .i64 0] 85)) rb rg (fun _ => 0)) := GZ.beW A6.out M0
        have A11 : Hid (WZ (W13_11_6.alloc (.cells #[.pointer (some ⟨fb0, fo, none⟩), .slice (some ⟨rb, 0, none⟩) rg rg, .slice (some ⟨fb, 0, none⟩) fr fr, .int .u32 ba, .int .i64 0, .int .i64 0] 85)) fb fr (fun _ => 0)) := GZ.beW A11.out M0
        have AB : Hid (At (W13_11_6.alloc (.cells #[.pointer (some ⟨fb0, fo, none⟩), .slice (some ⟨rb, 0, none⟩) rg rg, .slice (some ⟨fb, 0, none⟩) fr fr, .int .u32 ba, .int .i64 0, .int .i64 0] 85)) W13_11_6.heap.size #[.pointer (some ⟨fb0, fo, none⟩), .slice (some ⟨rb, 0, none⟩) rg rg, .slice (some ⟨fb, 0, none⟩) fr fr, .int .u32 ba, .int .i64 0, .int .i64 0] 85) := At.new _ _ _
        have n15 : w.heap.size ≤ W13_11_6.heap.size ∧ rb < W13_11_6.heap.size ∧ fb < W13_11_6.heap.size := ⟨B0.out.size, l6, l11⟩
        have B0 : Hid (Below w.heap.size w (W13_11_6.alloc (.cells #[.pointer (some ⟨fb0, fo, none⟩), .slice (some ⟨rb, 0, none⟩) rg rg, .slice (some ⟨fb, 0, none⟩) fr fr, .int .u32 ba, .int .i64 0, .int .i64 0] 85))) := below_next B0.out M0
        refine hK _ _ (fun _ => SS.out _ B0.out) ?_
        clear hK K M0
        (try simp only [Act.put, qA, qB, qC, qD, qE, qF])
        generalize W13_11_6.alloc (.cells #[.pointer (some ⟨fb0, fo, none⟩), .slice (some ⟨rb, 0, none⟩) rg rg, .slice (some ⟨fb, 0, none⟩) fr fr, .int .u32 ba, .int .i64 0, .int .i64 0] 85) = W13_11_6_15 at *
        generalize W13_11_6.heap.size = pb at *
        have S0 := SS.out _ B0.out
        refine wpAnyN_one (i := 16) (by kernel_rfl) rfl (fun K hK => ?_)
        go_simp
        refine hK _ _ (fun _ => S0) ?_
        clear hK K
        (try simp only [Act.put, qA, qB, qC, qD, qE, qF])
        refine wpAnyN_one (i := 17) (by kernel_rfl) rfl (fun K hK => ?_)
        go_simp
        refine hK _ _ (fun _ => S0) ?_
        clear hK K
        (try simp only [Act.put, qA, qB, qC, qD, qE, qF])
        refine wpAnyN_one (i := 18) (by kernel_rfl) rfl (fun K hK => ?_)
        obtain ⟨_, _, s7, s8⟩ := S0
        go_simp
        refine hK _ _ (fun h => by cases h) ?_
        clear hK K
        (try simp only [Act.put, qA, qB, qC, qD, qE, qF])
        refine wpAnyN_done (by kernel_rfl) ?_ _
        go_wp2_with fail
        go_meet
        case rel => exact CR.mk HH.out B0.out (by rw [FP.out]; exact AB.out) A6.out A11.out (by omega)
  case rest =>
    rename World => wb
    obtain ⟨pb, rb, fb, hC, hG, hK, n1, n2, n3, n4, n5, n6⟩ := hcut
    have NP : Hid (w.heap.size ≤ pb ∧ w.heap.size ≤ rb ∧ w.heap.size ≤ fb ∧ pb ≠ rb ∧ pb ≠ fb ∧ rb ≠ fb) := ⟨n1, n2, n3, n4, n5, n6⟩
    have CC : Hid (CallIn X ⟨k, List.replicate rg 0, List.replicate fr 0, ba, 0, 0⟩ pb rb fb wb) := hC
    have GG : Hid (GZ 56 wb X.R 2826 (rnG X z st L.cv L.pv L.iv (.pointer (some ⟨pb, 0, none⟩)))) := hG
    have KK : Hid (Kp (fun b => b = X.R ∨ w.heap.size ≤ b) w wb) := hK
    have c2 := (FC.out wb hK).2.1
    clear hC hG hK n1 n2 n3 n4 n5 n6 mR mF
    go_wp2
    clear c2
    go_loopw [52] (fun iv wr => ∃ i : Nat, i ≤ vs.length ∧ iv = .int .i64 (i : Int) ∧ CallIn X (setsR ⟨k, List.replicate rg 0, List.replicate fr 0, ba, 0, 0⟩ (pa.take i) (vs.take i)) pb rb fb wr ∧ GZ 56 wr X.R 2826 (rnG X z st L.cv L.pv L.iv (.pointer (some ⟨pb, 0, none⟩))) ∧ Kp (fun b => b = X.R ∨ w.heap.size ≤ b) w wr) (fun iv _ => vs.length - (intOf iv).toNat)
    case atStart => exact ⟨0, by omega, rfl, CC.out, GG.out, KK.out⟩
    case round =>
      obtain ⟨i, hi, rfl, hC, hG, hK⟩ := hrel
      have CI : Hid (CallIn X (setsR ⟨k, List.replicate rg 0, List.replicate fr 0, ba, 0, 0⟩ (pa.take i) (vs.take i)) pb rb fb wr) := hC
      have GI : Hid (GZ 56 wr X.R 2826 (rnG X z st L.cv L.pv L.iv (.pointer (some ⟨pb, 0, none⟩)))) := hG
      have KI : Hid (Kp (fun b => b = X.R ∨ w.heap.size ≤ b) w wr) := hK
      clear hC hG hK CC GG KK
      rcases Nat.lt_or_ge i vs.length with hi' | hi'
      · have hiz : (i : Int) < vs.length := by omega
        have hip : i < pa.length := by rw [LN.out]; exact hi'
        obtain ⟨pb2, po, rfl, hpcell⟩ := PC2.out i hip
        obtain ⟨ab, ao, rfl, hacell⟩ := AC2.out i hi'
        have cr := hpcell wr KI.out
        have ca := hacell wr KI.out
        obtain ⟨r0, r1⟩ := HP.out pa[i] (List.getElem_mem hip)
        obtain ⟨rn, hrn⟩ : ∃ rn : Nat, pa[i] = (rn : Int) := ⟨pa[i].toNat, by omega⟩
        have hlr : (setsR ⟨k, List.replicate rg 0, List.replicate fr 0, ba, 0, 0⟩ (pa.take i) (vs.take i)).rg.length = rg := (setsR_same _ _ _).2.2.2.2.2.trans (List.length_replicate ..)
        have SN : setsR ⟨k, List.replicate rg 0, List.replicate fr 0, ba, 0, 0⟩ (pa.take (i + 1)) (vs.take (i + 1)) = setR (setsR ⟨k, List.replicate rg 0, List.replicate fr 0, ba, 0, 0⟩ (pa.take i) (vs.take i)) (rn : Int) vs[i] := by
          rw [List.take_succ_eq_append_getElem hip, List.take_succ_eq_append_getElem hi', hrn]
          exact setsR_snoc _ _ _ _ _ (by simp; omega)
        have np := NP.out
        have C2 : Hid (CallIn X (setsR ⟨k, List.replicate rg 0, List.replicate fr 0, ba, 0, 0⟩ (pa.take (i + 1)) (vs.take (i + 1))) pb rb fb (wr.drew.setCell ⟨rb, rn, none⟩ (.int .i32 vs[i]))) := by
          show CallIn _ _ _ _ _ _
          rw [SN]
          exact (CI.out.below (below_drew _)).rset np.2.2.2.1 (fun e => np.2.2.2.2.2 e.symm) rn (by rw [hlr]; omega) _
        have G2 : Hid (GZ 56 (wr.drew.setCell ⟨rb, rn, none⟩ (.int .i32 vs[i])) X.R 2826 (rnG X z st L.cv L.pv L.iv (.pointer (some ⟨pb, 0, none⟩)))) := (GI.out.beW (below_drew _)).kp (Kp.set (F := fun b => b = rb) _ rn _ rfl) (by have := HH.out.rr.lt; omega)
        have K2 : Hid (Kp (fun b => b = X.R ∨ w.heap.size ≤ b) w (wr.drew.setCell ⟨rb, rn, none⟩ (.int .i32 vs[i]))) := (KI.out.drew).trans (Kp.set _ rn _ (Or.inr np.2.1))
        have SC : Hid (Calls Tryd.prog 25 #[.pointer (some ⟨pb, 0, none⟩), .int .i64 (rn : Int), .int .i32 vs[i]] wr.drew fun e w' => e = .returned (.tuple #[]) ∧ w' = wr.drew.setCell ⟨rb, rn, none⟩ (.int .i32 vs[i])) := by
          have := set_c (CI.out.below (below_drew wr)) (rn : Int) vs[i] (by omega) (by rw [hlr]; omega)
          rwa [Int.toNat_natCast] at this
        rw [hrn] at cr
        have S6 : Hid (wr.drew.cell? ⟨X.R, 7, none⟩ = some (.pointer (some ⟨pb, 0, none⟩)) ∧ wr.drew.cell? ⟨ab, ao + i, none⟩ = some (.int .i32 vs[i])) := by
          refine ⟨(GI.out.beW (below_drew wr)).cell 7 (by omega), ?_⟩
          exact hacell wr.drew KI.out.drew
        have S6N : Hid ((wr.drew.setCell ⟨rb, rn, none⟩ (.int .i32 vs[i])).cell? ⟨X.R, 7, none⟩ = some (.pointer (some ⟨pb, 0, none⟩)) ∧ (wr.drew.setCell ⟨rb, rn, none⟩ (.int .i32 vs[i])).cell? ⟨ab, ao + i, none⟩ = some (.int .i32 vs[i])) := ⟨G2.out.cell 7 (by omega), hacell _ K2.out⟩
        clear SN hlr r0 r1 hrn hpcell hacell np ca
        generalize vs[i] = v at *
        go_wp2
        refine wp_region_N (fun w' => w'.cell? ⟨X.R, 7, none⟩ = some (.pointer (some ⟨pb, 0, none⟩)) ∧ w'.cell? ⟨ab, ao + i, none⟩ = some (.int .i32 v)) (fun _ => true) mixedE (S6.out) ?_
        intro S0
        refine tkO (i := 0) (v := ?_) rfl (Or.inl ⟨by rfl, ?_⟩) S0 ?_
        rotate_left
        · intro w' hS'
          obtain ⟨h0, h1⟩ := hS'
          (try go_simp)
          first | done | exact rfl | exact ⟨rfl, rfl⟩
        (try simp only [Act.put, qA, qC, qD, qE, qF])
        refine tkO (i := 1) (v := ?_) rfl (Or.inl ⟨by rfl, ?_⟩) S0 ?_
        rotate_left
        · intro w' hS'
          obtain ⟨h0, h1⟩ := hS'
          (try go_simp)
          first | done | exact rfl | exact ⟨rfl, rfl⟩
        (try simp only [Act.put, qA, qB, qC, qD, qE, qF])
        refine tkO (i := 2) (v := ?_) rfl (Or.inl ⟨by rfl, ?_⟩) S0 ?_
        rotate_left
        · intro w' hS'
          obtain ⟨h0, h1⟩ := hS'
          (try go_simp)
          first | done | exact rfl | exact ⟨rfl, rfl⟩
        (try simp only [Act.put, qA, qB, qC, qD, qE, qF])
        refine tkO (i := 3) (v := ?_) rfl (Or.inl ⟨by rfl, ?_⟩) S0 ?_
        rotate_left
        · intro w' hS'
          obtain ⟨h0, h1⟩ := hS'
          (try go_simp)
          first | done | exact rfl | exact ⟨rfl, rfl⟩
        (try simp only [Act.put, qA, qB, qC, qD, qE, qF])
        refine tkO (i := 4) (v := ?_) rfl (Or.inl ⟨by rfl, ?_⟩) S0 ?_
        rotate_left
        · intro w' hS'
          obtain ⟨h0, h1⟩ := hS'
          (try go_simp)
          first | done | exact rfl | exact ⟨rfl, rfl⟩
        (try simp only [Act.put, qA, qB, qC, qD, qE, qF])
        refine tkO (i := 5) (v := ?_) rfl (Or.inl ⟨by rfl, ?_⟩) S0 ?_
        rotate_left
        · intro w' hS'
          obtain ⟨h0, h1⟩ := hS'
          (try go_simp)
          first | done | exact rfl | exact ⟨rfl, rfl⟩
        (try simp only [Act.put, qA, qB, qC, qD, qE, qF])
        refine tkO (i := 6) (v := ?_) rfl (Or.inl ⟨by rfl, ?_⟩) S0 ?_
        rotate_left
        · intro w' hS'
          obtain ⟨h0, h1⟩ := hS'
          (try go_simp)
          first | done | exact rfl | exact ⟨rfl, rfl⟩
        (try simp only [Act.put, qA, qB, qC, qD, qE, qF])
        refine tkO (i := 7) (v := ?_) rfl (Or.inl ⟨by rfl, ?_⟩) S0 ?_
        rotate_left
        · intro w' hS'
          obtain ⟨h0, h1⟩ := hS'
          (try go_simp)
          first | done | exact rfl | exact ⟨rfl, rfl⟩
        (try simp only [Act.put, qA, qB, qC, qD, qE, qF])
        refine tkO (i := 8) (v := ?_) rfl (Or.inl ⟨by rfl, ?_⟩) S0 ?_
        rotate_left
        · intro w' hS'
          obtain ⟨h0, h1⟩ := hS'
          (try go_simp)
          first | done | exact rfl | exact ⟨rfl, rfl⟩
        (try simp only [Act.put, qA, qB, qC, qD, qE, qF])
        refine wpAnyN_one (i := 9) (by kernel_rfl) rfl (fun K hK => ?_)
        go_simp
        refine Calls.mono SC.out ?_
        rintro e w7 ⟨rfl, hw7⟩
        rw [hw7]
        clear hw7 w7
        go_wp2_with fail
        refine hK _ _ (fun _ => S6N.out) ?_
        clear hK K
        (try simp only [Act.put, qA, qB, qC, qD, qE, qF])
        have S10 := S0
        refine wpAnyN_done (by kernel_rfl) ?_ _
        go_wp2
        go_roundw
        case rel => exact ⟨i + 1, by omega, by go_num, C2.out, G2.out, K2.out⟩
        case measure => simp [intOf]; omega
      · have hiz : ¬ (i : Int) < vs.length := by omega
        obtain rfl : i = vs.length := by omega
        have CI : Hid (CallIn X (setsR ⟨k, List.replicate rg 0, List.replicate fr 0, ba, 0, 0⟩ pa vs) pb rb fb wr) := (by have := CI.out; rwa [List.take_length, ← LN.out, List.take_length] at this : CallIn X (setsR ⟨k, List.replicate rg 0, List.replicate fr 0, ba, 0, 0⟩ pa vs) pb rb fb wr)
        have hR := GI.out.lt
        have HR6 : ∀ b, L.cv.ownBlock = some b → b ≠ X.R := fun b hb e => by
          have := HH.out.ro.c b hb; have := HH.out.ro.r; rw [e] at *; omega
        have ownlt : ∀ b, L.cv.ownBlock = some b → b < w.heap.size := fun b hb => by
          obtain ⟨_, cs, ha⟩ := HH.out.cc.at hb
          exact ha.lt
        have S8F : Hid (∀ w' : World, Below wr.drew.heap.size wr.drew w' → w'.cell? ⟨X.R, 6, none⟩ = some (.slice cA cn cC) ∧ w'.cell? ⟨X.R, 7, none⟩ = some (.pointer (some ⟨pb, 0, none⟩))) := fun w' hb => by
          have g := (GI.out.beW (below_drew wr)).beW hb
          exact ⟨by have := g.cell 6 (by omega); rw [← EV.out]; exact this, g.cell 7 (by omega)⟩
        have S8 : Hid (wr.drew.cell? ⟨X.R, 6, none⟩ = some (.slice cA cn cC) ∧ wr.drew.cell? ⟨X.R, 7, none⟩ = some (.pointer (some ⟨pb, 0, none⟩))) := S8F.out _ (Below.refl _ _)
        have GN : ∀ w' : World, (∀ q, q < (wr.drew.alloc (.cells #[.pointer (some ⟨pb, 0, none⟩)] 52)).heap.size → (Value.slice cA cn cC).ownBlock ≠ some q → w'.heap[q]? = (wr.drew.alloc (.cells #[.pointer (some ⟨pb, 0, none⟩)] 52)).heap[q]?) → GZ 56 w' X.R 2826 (rnG X z st L.cv L.pv L.iv (.pointer (some ⟨pb, 0, none⟩))) := fun w' hb => by
          have g := (GI.out.beW (below_drew wr)).beW (below_alloc wr.drew (.cells #[.pointer (some ⟨pb, 0, none⟩)] 52))
          exact g.same (hb X.R g.lt fun e => HR6 _ (by rw [EV.out]; exact e) rfl)
        have S8G : Hid (∀ w' : World, (∀ q, q < (wr.drew.alloc (.cells #[.pointer (some ⟨pb, 0, none⟩)] 52)).heap.size → (Value.slice cA cn cC).ownBlock ≠ some q → w'.heap[q]? = (wr.drew.alloc (.cells #[.pointer (some ⟨pb, 0, none⟩)] 52)).heap[q]?) → w'.cell? ⟨X.R, 6, none⟩ = some (.slice cA cn cC) ∧ w'.cell? ⟨X.R, 7, none⟩ = some (.pointer (some ⟨pb, 0, none⟩))) := fun w' hb => by
          have g := GN w' hb
          exact ⟨by have := g.cell 6 (by omega); rw [← EV.out]; exact this, g.cell 7 (by omega)⟩
        have S8H : Hid (∀ w' : World, (∀ q, q < (wr.drew.alloc (.cells #[.pointer (some ⟨pb, 0, none⟩)] 52)).heap.size → (Value.slice cA cn cC).ownBlock ≠ some q → w'.heap[q]? = (wr.drew.alloc (.cells #[.pointer (some ⟨pb, 0, none⟩)] 52)).heap[q]?) → w'.frozen? ⟨X.R, 6, none⟩ = false) := fun w' hb => (GN w' hb).frozen 6
        have OW : Hid (∀ o, OwnB 52 1 ptC X.wz.heap.size ((List.range z.cs.length).map L.pb) (.slice cA cn cC) (wr.drew.alloc o)) := fun o => by
          rw [← EV.out]
          refine ((HH.out.cc.but (KI.out.drew) fun b hb e => ?_).below (below_alloc _ _))
          rcases e with e | e
          · exact HR6 b hb e
          · have := ownlt b hb; omega
        have HL : Hid (z.cs.length ≤ 1000) := (by have := HCN.out; omega : z.cs.length ≤ 1000)
        have EN : Hid (∀ w5 A5 n5 C5, OwnB 52 1 ptC X.wz.heap.size ((List.range z.cs.length).map L.pb ++ [pb]) (.slice A5 n5 C5) w5 → Below X.wz.heap.size (wr.drew.alloc (.cells #[.pointer (some ⟨pb, 0, none⟩)] 52)) w5 → (∀ q, q < (wr.drew.alloc (.cells #[.pointer (some ⟨pb, 0, none⟩)] 52)).heap.size → (Value.slice cA cn cC).ownBlock ≠ some q → w5.heap[q]? = (wr.drew.alloc (.cells #[.pointer (some ⟨pb, 0, none⟩)] 52)).heap[q]?) → (∀ b, (Value.slice A5 n5 C5).ownBlock = some b → (Value.slice cA cn cC).ownBlock = some b ∨ (wr.drew.alloc (.cells #[.pointer (some ⟨pb, 0, none⟩)] 52)).heap.size ≤ b) → _) := fun w5 A5 n5 C5 h1 h2 h3 h4 => ent_six HH.out (CI.out.below (below_drew wr)) (GI.out.beW (below_drew wr)) KI.out.drew NP.out h1 h2 (by rw [EV.out]; exact h3) (by rw [EV.out]; exact h4)
        clear HR6 ownlt GN hR
        go_wp2
        refine wp_region_N (fun w' => w'.cell? ⟨X.R, 6, none⟩ = some (.slice cA cn cC) ∧ w'.cell? ⟨X.R, 7, none⟩ = some (.pointer (some ⟨pb, 0, none⟩))) (fun i => i != 13) mixedE (S8.out) ?_
        intro S0
        generalize wr.drew = wd at *
        refine tkO (i := 0) (v := ?_) rfl (Or.inl ⟨by rfl, ?_⟩) S0 ?_
        rotate_left
        · intro w' hS'
          obtain ⟨h0, h1⟩ := hS'
          (try go_simp)
          first | done | exact rfl | exact ⟨rfl, rfl⟩
        (try simp only [Act.put, qA, qC, qD, qE, qF])
        refine tkO (i := 1) (v := ?_) rfl (Or.inl ⟨by rfl, ?_⟩) S0 ?_
        rotate_left
        · intro w' hS'
          obtain ⟨h0, h1⟩ := hS'
          (try go_simp)
          first | done | exact rfl | exact ⟨rfl, rfl⟩
        (try simp only [Act.put, qA, qB, qC, qD, qE, qF])
        refine tkO (i := 2) (v := ?_) rfl (Or.inl ⟨by rfl, ?_⟩) S0 ?_
        rotate_left
        · intro w' hS'
          obtain ⟨h0, h1⟩ := hS'
          (try go_simp)
          first | done | exact rfl | exact ⟨rfl, rfl⟩
        (try simp only [Act.put, qA, qB, qC, qD, qE, qF])
        refine tkO (i := 3) (v := ?_) rfl (Or.inl ⟨by rfl, ?_⟩) S0 ?_
        rotate_left
        · intro w' hS'
          obtain ⟨h0, h1⟩ := hS'
          (try go_simp)
          first | done | exact rfl | exact ⟨rfl, rfl⟩
        (try simp only [Act.put, qA, qB, qC, qD, qE, qF])
        refine tkO (i := 4) (v := ?_) rfl (Or.inl ⟨by rfl, ?_⟩) S0 ?_
        rotate_left
        · intro w' hS'
          obtain ⟨h0, h1⟩ := hS'
          (try go_simp)
          first | done | exact rfl | exact ⟨rfl, rfl⟩
        (try simp only [Act.put, qA, qB, qC, qD, qE, qF])
        refine tkO (i := 5) (v := ?_) rfl (Or.inl ⟨by rfl, ?_⟩) S0 ?_
        rotate_left
        · intro w' hS'
          obtain ⟨h0, h1⟩ := hS'
          (try go_simp)
          first | done | exact rfl | exact ⟨rfl, rfl⟩
        (try simp only [Act.put, qA, qB, qC, qD, qE, qF])
        refine tkO (i := 6) (v := ?_) rfl (Or.inl ⟨by rfl, ?_⟩) S0 ?_
        rotate_left
        · intro w' hS'
          obtain ⟨h0, h1⟩ := hS'
          (try go_simp)
          first | done | exact rfl | exact ⟨rfl, rfl⟩
        (try simp only [Act.put, qA, qB, qC, qD, qE, qF])
        refine tkO (i := 7) (v := ?_) rfl (Or.inl ⟨by rfl, ?_⟩) S0 ?_
        rotate_left
        · intro w' hS'
          obtain ⟨h0, h1⟩ := hS'
          (try go_simp)
          first | done | exact rfl | exact ⟨rfl, rfl⟩
        (try simp only [Act.put, qA, qB, qC, qD, qE, qF])
        refine tkO (i := 8) (v := ?_) rfl (Or.inl ⟨by rfl, ?_⟩) S0 ?_
        rotate_left
        · intro w' hS'
          obtain ⟨h0, h1⟩ := hS'
          (try go_simp)
          first | done | exact rfl | exact ⟨rfl, rfl⟩
        (try simp only [Act.put, qA, qB, qC, qD, qE, qF])
        refine wpAnyN_one (i := 9) (by kernel_rfl) rfl (fun K hK => ?_)
        go_simp
        have S10 := S8F.out _ (below_alloc _ (.cells #[.pointer (some ⟨pb, 0, none⟩)] 52))
        refine hK _ _ (fun _ => S10) ?_
        clear hK K
        (try simp only [Act.put, qA, qB, qC, qD, qE, qF])
        refine wpAnyN_one (i := 10) (by kernel_rfl) rfl (fun K hK => ?_)
        rw [if_pos (by rfl)]
        refine OwnB.appendN 51 52 ptC _ 1 8 infoPc Tryd.underlying51 rfl (by decide) (by decide) ptC_len ptC_one _ _ _ rfl (.slice cA cn cC) (by rfl) X.wz.heap.size ((List.range z.cs.length).map L.pb) [pb] (OW.out _) ⟨wd.heap.size, 0, none⟩ 1 (by rfl) (fun j u hj => cells_new _ (ptC pb) 52 j u (by simpa using hj)) (by have := HL.out; simp; omega) ?_
        intro v5 w5 ho hb5 hk5 hv5
        obtain ⟨A5, n5, C5, rfl⟩ : ∃ A n C, v5 = .slice A n C := (by obtain ⟨A, C, e, -⟩ := OwnB.shape ptC_len ho; exact ⟨A, _, C, e⟩)
        have AP : Hid (_ ∧ _ ∧ _ ∧ _) := ⟨ho, hb5, hk5, hv5⟩
        have S11 := S8G.out w5 hk5
        have c6w := S11.1
        have f6w := S8H.out w5 hk5
        clear ho hb5 hk5 hv5
        refine hK _ _ (fun _ => S11) ?_
        clear hK K
        (try simp only [Act.put, qA, qB, qC, qD, qE, qF])
        refine wpAnyN_one (i := 11) (by kernel_rfl) rfl (fun K hK => ?_)
        go_simp
        refine hK _ _ (fun _ => S11) ?_
        clear hK K
        (try simp only [Act.put, qA, qB, qC, qD, qE, qF])
        have S12 := S11
        refine wpAnyN_one (i := 12) (by kernel_rfl) rfl (fun K hK => ?_)
        go_simp
        refine hK _ _ (fun _ => S11) ?_
        clear hK K
        (try simp only [Act.put, qA, qB, qC, qD, qE, qF])
        have S13 := S11
        refine wpAnyN_one (i := 13) (by kernel_rfl) rfl (fun K hK => ?_)
        go_simp
        refine hK _ _ (fun h => by cases h) ?_
        clear hK K c6w f6w
        (try simp only [Act.put, qA, qB, qC, qD, qE, qF])
        have S14 := S11
        refine wpAnyN_done (by kernel_rfl) ?_ _
        obtain ⟨e1, e2, e3, e4⟩ := AP.out
        have E6 := EN.out _ _ _ _ e1 e2 e3 e4
        have E7 : Hid (_ ∧ _ ∧ _ ∧ _ ∧ _) := E6
        have k6 := E6.2.1
        have c5 := (FC6.out _ k6)
        have c8 : (w5.setCell ⟨X.R, 6, none⟩ (.slice A5 n5 C5)).cell? ⟨X.R, 8, none⟩ = some (.int .i64 z.ld) := E6.1.cell 8 (by omega)
        have f8 := E6.1.frozen 8
        clear e1 e2 e3 e4 E6 k6 S0 S10 S11 S12 S13
        go_wp2
        go_end0
        obtain ⟨g1, g2, g3, g4, g5⟩ := E7.out
        exact ⟨rfl, _, pb, if_pos rfl, HH.out.push g2 NP.out g3 g4 g5 g1⟩

set_option maxRecDepth 20000 in
set_option maxHeartbeats 8000000 in
theorem enter_false (h : MX X z nv st L w) (k : Nat) (hk : k < X.l.length) (rg fr : Nat) (hrgE : X.l[k].rg = (rg : Int)) (hfrE : X.l[k].fr = (fr : Int)) (hrg : rg ≤ 65536) (hfr : fr ≤ 65536) (ba : Int)
    (hRM : ∀ w', Below w.heap.size w w' → Calls Tryd.prog 24 #[.pointer (some ⟨X.R, 0, none⟩)] w' fun e w2 => e = .returned (.int .u32 ba) ∧ Below w'.heap.size w' w2)
    (vs : List Int) (av : Value) (ha : AIn X w vs av) (hlen : X.l[k].pa.length = vs.length) (hl8 : vs.length ≤ 8) (hpa : ∀ r ∈ X.l[k].pa, 0 ≤ r ∧ r < rg) (hq : X.l[k].qu = false) (hld : ¬ 48 ≤ z.ld) (hldb : -1000 ≤ z.ld ∧ z.ld ≤ 1000) (hn : z.cs.length < 392) :
    Calls Tryd.prog 18 #[.pointer (some ⟨X.R, 0, none⟩), fpV X k, av] w fun e w' => e = .returned (.tuple #[]) ∧ ∃ L' p, L'.pb z.cs.length = p ∧ MX X { z with cs := z.cs ++ [setsR ⟨k, List.replicate rg 0, List.replicate fr 0, ba, 0, 0⟩ X.l[k].pa vs], ld := z.ld + 1 } (.pointer (some ⟨p, 0, none⟩)) st L' w' := by
  obtain ⟨fb0, fo, pv, bv, hfp, hrow, hpn, -⟩ := h.fn k hk
  obtain ⟨-, PA, PC, rfl, hpc⟩ := hpn.cells
  obtain ⟨AA, AC, rfl, hac⟩ := ha
  have hsz := h.bz.size
  have hRz : X.wz.heap.size ≤ X.R := by
    rcases Nat.lt_or_ge X.R X.wz.heap.size with e | e
    · have := h.zz _ e; have := h.ro.r; omega
    · exact e
  -- old cells stay
  have OC : Hid (∀ w' : World, Kp (fun b => b = X.R ∨ w.heap.size ≤ b) w w' → ∀ b j u, b < X.wz.heap.size → X.wz.cell? ⟨b, j, none⟩ = some u → w'.cell? ⟨b, j, none⟩ = some u) := fun w' kk b j u hb hu => by
    have e1 := kk.2 b (by omega) (by omega)
    have e2 := h.bz.block b hb
    rw [← hu]
    unfold World.cell?
    rw [e1, e2]
  have FC : Hid (∀ w' : World, Kp (fun b => b = X.R ∨ w.heap.size ≤ b) w w' → w'.cell? ⟨fb0, fo + 1, none⟩ = some (.int .i64 (rg : Int)) ∧ w'.cell? ⟨fb0, fo + 2, none⟩ = some (.slice PA vs.length PC) ∧ w'.cell? ⟨fb0, fo + 4, none⟩ = some (.int .i64 (fr : Int)) ∧ w'.cell? ⟨fb0, fo + 5, none⟩ = some (.bool false)) := fun w' kk => by
    have r1 := hrow.at 1 (v := .int .i64 X.l[k].rg) rfl
    have r2 := hrow.at 2 (v := .slice PA X.l[k].pa.length PC) rfl
    have r4 := hrow.at 4 (v := .int .i64 X.l[k].fr) rfl
    have r5 := hrow.at 5 (v := .bool X.l[k].qu) rfl
    rw [hrgE] at r1
    rw [hlen] at r2
    rw [hfrE] at r4
    rw [hq] at r5
    exact ⟨OC.out w' kk _ _ _ hrow.1 r1, OC.out w' kk _ _ _ hrow.1 r2, OC.out w' kk _ _ _ hrow.1 r4, OC.out w' kk _ _ _ hrow.1 r5⟩
  have FC6 : Hid (∀ w' : World, Kp (fun b => L.ro b = 0 ∨ L.ro b = 6) w w' → w'.cell? ⟨fb0, fo + 5, none⟩ = some (.bool false)) := fun w' kk => by
    have r5 := hrow.at 5 (v := .bool X.l[k].qu) rfl
    rw [hq] at r5
    have hb0 := hrow.1
    have e1 := kk.2 fb0 (by omega) fun e => by
      have := h.zz fb0 hb0; omega
    have e2 := h.bz.block fb0 hb0
    rw [← r5]
    unfold World.cell?
    rw [e1, e2]
  have PC2 : Hid (∀ i (hi : i < X.l[k].pa.length), ∃ b o, PA = some ⟨b, o, none⟩ ∧ ∀ w', Kp (fun b => b = X.R ∨ w.heap.size ≤ b) w w' → w'.cell? ⟨b, o + i, none⟩ = some (.int .i64 (X.l[k].pa[i]'hi))) := fun i hi => by
    obtain ⟨b, o, e, hb, hc⟩ := hpc i hi
    exact ⟨b, o, e, fun w' kk => OC.out w' kk _ _ _ hb hc⟩
  have AC2 : Hid (∀ i (hi : i < vs.length), ∃ b o, AA = some ⟨b, o, none⟩ ∧ ∀ w', Kp (fun b => b = X.R ∨ w.heap.size ≤ b) w w' → w'.cell? ⟨b, o + i, none⟩ = some (.int .i32 (vs[i]'hi))) := fun i hi => by
    obtain ⟨b, o, e, hb, hne, hc⟩ := hac i hi
    refine ⟨b, o, e, fun w' kk => ?_⟩
    rw [← hc]
    unfold World.cell?
    rw [kk.2 b hb (by omega)]
  obtain ⟨cA, cC, ecv, -⟩ := OwnB.shape ptC_len h.cc
  obtain ⟨cn, hcn⟩ : ∃ cn, cn = ((List.range z.cs.length).map L.pb).length := ⟨_, rfl⟩
  rw [← hcn] at ecv
  have HCN : Hid (cn = z.cs.length) := hcn.trans (by simp)
  have hcn2 : cn < 392 := by have := HCN.out; omega
  clear hcn
  have hcz : ¬ 392 ≤ (cn : Int) := by omega
  have HH : Hid (MX X z nv st L w) := h
  have FP : Hid (fpV X k = .pointer (some ⟨fb0, fo, none⟩)) := hfp
  have EV : Hid (L.cv = .slice cA cn cC) := ecv
  have RM : Hid (∀ w' : World, Below w.heap.size w w' → Calls Tryd.prog 24 #[.pointer (some ⟨X.R, 0, none⟩)] w' fun e w2 => e = .returned (.int .u32 ba) ∧ Below w'.heap.size w' w2) := hRM
  have SS : Hid (∀ w' : World, Below w.heap.size w w' → w'.cell? ⟨fb0, fo + 1, none⟩ = some (.int .i64 (rg : Int)) ∧ w'.cell? ⟨fb0, fo + 4, none⟩ = some (.int .i64 (fr : Int)) ∧ w'.cell? ⟨X.R, 7, none⟩ = some nv ∧ w'.frozen? ⟨X.R, 7, none⟩ = false) := fun w' hb => by
    have kk : Kp (fun b => b = X.R ∨ w.heap.size ≤ b) w w' := Kp.of_below hb
    have g := h.rr.beW hb
    exact ⟨(FC.out w' kk).1, (FC.out w' kk).2.2.1, g.cell 7 (by omega), g.frozen 7⟩
  have HP : Hid (∀ r ∈ X.l[k].pa, 0 ≤ r ∧ r < rg) := hpa
  have LN : Hid (X.l[k].pa.length = vs.length) := hlen
  have c6 : w.cell? ⟨X.R, 6, none⟩ = some (.slice cA cn cC) := by have := h.rr.cell 6 (by omega); rw [← ecv]; exact this
  have c8 : w.cell? ⟨X.R, 8, none⟩ = some (.int .i64 z.ld) := h.rr.cell 8 (by omega)
  have c5 := (FC.out w (Kp.refl _ _)).2.2.2
  have mR : ∀ w : World, (Instr.makeSlice 81 (.int .i64 (rg : Int)) (.int .i64 (rg : Int))).run Tryd.prog w = _ := fun w => make_w rg (by omega) w
  have mF : ∀ w : World, (Instr.makeSlice 81 (.int .i64 (fr : Int)) (.int .i64 (fr : Int))).run Tryd.prog w = _ := fun w => make_w fr (by omega) w
  obtain ⟨pa, hpaE⟩ : ∃ pa, pa = X.l[k].pa := ⟨_, rfl⟩
  rw [← hpaE] at PC2 HP LN ⊢
  rw [hfp]
  clear h hfp hrow hpn hpc hac ecv hRM hpa hlen hrgE hfrE hq hpaE hsz hRz hk hn
  go_enter Tryd.func18, Tryd.ntmps18
  go_upto_region 2 with fail
  clear c6 c8 c5
  go_cut [] from 29 to 47 (fun wx => CR X z nv st L w ⟨k, List.replicate rg 0, List.replicate fr 0, ba, 0, 0⟩ wx)
  case first =>
    refine wp_region_N (fun w' => w'.cell? ⟨fb0, fo + 1, none⟩ = some (.int .i64 (rg : Int)) ∧ w'.cell? ⟨fb0, fo + 4, none⟩ = some (.int .i64 (fr : Int)) ∧ w'.cell? ⟨X.R, 7, none⟩ = some nv ∧ w'.frozen? ⟨X.R, 7, none⟩ = false) (fun i => i != 18) mixedE (SS.out _ (below_drew _)) ?_
    intro S0
    have B0 : Hid (Below w.heap.size w w.drew) := below_drew _
    generalize w.drew = wd at *
    refine tkO (i := 0) (v := ?_) rfl (Or.inl ⟨by rfl, ?_⟩) S0 ?_
    rotate_left
    · intro w' hS'
      obtain ⟨h0, h1, h2, h3⟩ := hS'
      (try go_simp)
      first | done | exact rfl | exact ⟨rfl, rfl⟩
    (try simp only [Act.put, qA, qC, qD, qE, qF])
    refine tkO (i := 1) (v := ?_) rfl (Or.inl ⟨by rfl, ?_⟩) S0 ?_
    rotate_left
    · intro w' hS'
      obtain ⟨h0, h1, h2, h3⟩ := hS'
      (try go_simp)
      first | done | exact rfl | exact ⟨rfl, rfl⟩
    (try simp only [Act.put, qA, qB, qC, qD, qE, qF])
    refine tkO (i := 2) (v := ?_) rfl (Or.inl ⟨by rfl, ?_⟩) S0 ?_
    rotate_left
    · intro w' hS'
      obtain ⟨h0, h1, h2, h3⟩ := hS'
      (try go_simp)
      first | done | exact rfl | exact ⟨rfl, rfl⟩
    (try simp only [Act.put, qA, qB, qC, qD, qE, qF])
    refine tkO (i := 3) (v := ?_) rfl (Or.inl ⟨by rfl, ?_⟩) S0 ?_
    rotate_left
    · intro w' hS'
      obtain ⟨h0, h1, h2, h3⟩ := hS'
      (try go_simp)
      first | done | exact rfl | exact ⟨rfl, rfl⟩
    (try simp only [Act.put, qA, qB, qC, qD, qE, qF])
    refine tkO (i := 4) (v := ?_) rfl (Or.inl ⟨by rfl, ?_⟩) S0 ?_
    rotate_left
    · intro w' hS'
      obtain ⟨h0, h1, h2, h3⟩ := hS'
      (try go_simp)
      first | done | exact rfl | exact ⟨rfl, rfl⟩
    (try simp only [Act.put, qA, qB, qC, qD, qE, qF])
    refine tkO (i := 5) (v := ?_) rfl (Or.inl ⟨by rfl, ?_⟩) S0 ?_
    rotate_left
    · intro w' hS'
      obtain ⟨h0, h1, h2, h3⟩ := hS'
      (try go_simp)
      first | done | exact rfl | exact ⟨rfl, rfl⟩
    (try simp only [Act.put, qA, qB, qC, qD, qE, qF])
    refine tkO (i := 7) (v := ?_) rfl (Or.inl ⟨by rfl, ?_⟩) S0 ?_
    rotate_left
    · intro w' hS'
      obtain ⟨h0, h1, h2, h3⟩ := hS'
      (try go_simp)
      first | done | exact rfl | exact ⟨rfl, rfl⟩
    (try simp only [Act.put, qA, qB, qC, qD, qE, qF])
    refine tkO (i := 8) (v := ?_) rfl (Or.inl ⟨by rfl, ?_⟩) S0 ?_
    rotate_left
    · intro w' hS'
      obtain ⟨h0, h1, h2, h3⟩ := hS'
      (try go_simp)
      first | done | exact rfl | exact ⟨rfl, rfl⟩
    (try simp only [Act.put, qA, qB, qC, qD, qE, qF])
    refine tkO (i := 9) (v := ?_) rfl (Or.inl ⟨by rfl, ?_⟩) S0 ?_
    rotate_left
    · intro w' hS'
      obtain ⟨h0, h1, h2, h3⟩ := hS'
      (try go_simp)
      first | done | exact rfl | exact ⟨rfl, rfl⟩
    (try simp only [Act.put, qA, qB, qC, qD, qE, qF])
    refine tkO (i := 10) (v := ?_) rfl (Or.inl ⟨by rfl, ?_⟩) S0 ?_
    rotate_left
    · intro w' hS'
      obtain ⟨h0, h1, h2, h3⟩ := hS'
      (try go_simp)
      first | done | exact rfl | exact ⟨rfl, rfl⟩
    (try simp only [Act.put, qA, qB, qC, qD, qE, qF])
    refine tkO (i := 12) (v := ?_) rfl (Or.inl ⟨by rfl, ?_⟩) S0 ?_
    rotate_left
    · intro w' hS'
      obtain ⟨h0, h1, h2, h3⟩ := hS'
      (try go_simp)
      first | done | exact rfl | exact ⟨rfl, rfl⟩
    (try simp only [Act.put, qA, qB, qC, qD, qE, qF])
    refine wpAnyN_three (i0 := 6) (i1 := 11) (i2 := 13) (by kernel_rfl) rfl rfl rfl (fun K hK => ?_) (fun K hK => ?_) (fun K hK => ?_)
    · go_simp
      have M0 : Below wd.heap.size wd (wd.alloc (.cells (madeCells #[.int .i32 0] rg) 21)) := below_alloc _ _
      have A6 : Hid (WZ (wd.alloc (.cells (madeCells #[.int .i32 0] rg) 21)) wd.heap.size rg (fun _ => 0)) := WZ.made _ _
      have n6 : w.heap.size ≤ wd.heap.size := B0.out.size
      have B0 : Hid (Below w.heap.size w (wd.alloc (.cells (madeCells #[.int .i32 0] rg) 21))) := below_next B0.out M0
      refine hK _ _ (fun _ => SS.out _ B0.out) ?_
      clear hK K M0
      (try simp only [Act.put, qA, qB, qC, qD, qE, qF])
      generalize wd.alloc (.cells (madeCells #[.int .i32 0] rg) 21) = W6 at *
      generalize wd.heap.size = rb at *
      have l6 := GZ.lt A6.out
      have S0 := SS.out _ B0.out
      refine wpAnyN_two (i0 := 11) (i1 := 13) (by kernel_rfl) rfl rfl (fun K hK => ?_) (fun K hK => ?_)
      · go_simp
        have M0 : Below W6.heap.size W6 (W6.alloc (.cells (madeCells #[.int .i32 0] fr) 21)) := below_alloc _ _
        have A6 : Hid (WZ (W6.alloc (.cells (madeCells #[.int .i32 0] fr) 21)) rb rg (fun _ => 0)) := GZ.beW A6.out M0
        have A11 : Hid (WZ (W6.alloc (.cells (madeCells #[.int .i32 0] fr) 21)) W6.heap.size fr (fun _ => 0)) := WZ.made _ _
        have n11 : w.heap.size ≤ W6.heap.size ∧ rb < W6.heap.size := ⟨B0.out.size, l6⟩
        have B0 : Hid (Below w.heap.size w (W6.alloc (.cells (madeCells #[.int .i32 0] fr) 21))) := below_next B0.out M0
        refine hK _ _ (fun _ => SS.out _ B0.out) ?_
        clear hK K M0
        (try simp only [Act.put, qA, qB, qC, qD, qE, qF])
        generalize W6.alloc (.cells (madeCells #[.int .i32 0] fr) 21) = W6_11 at *
        generalize W6.heap.size = fb at *
        have l6 := GZ.lt A6.out
        have l11 := GZ.lt A11.out
        have S0 := SS.out _ B0.out
        refine wpAnyN_one (i := 13) (by kernel_rfl) rfl (fun K hK => ?_)
        go_simp
        refine Calls.mono (RM.out _ B0.out) ?_
        rintro e W6_11_13 ⟨rfl, M0⟩
        have A6 : Hid (WZ W6_11_13 rb rg (fun _ => 0)) := GZ.beW A6.out M0
        have A11 : Hid (WZ W6_11_13 fb fr (fun _ => 0)) := GZ.beW A11.out M0
        have B0 : Hid (Below w.heap.size w W6_11_13) := below_next B0.out M0
        have l6 := GZ.lt A6.out
        have l11 := GZ.lt A11.out
        go_wp2_with fail
        refine hK _ _ (fun _ => SS.out _ B0.out) ?_
        clear hK K M0
        (try simp only [Act.put, qA, qB, qC, qD, qE, qF])
        have S0 := SS.out _ B0.out
        refine tkO (i := 14) (v := ?_) rfl (Or.inl ⟨by rfl, ?_⟩) S0 ?_
        rotate_left
        · intro w' hS'
          obtain ⟨h0, h1, h2, h3⟩ := hS'
          (try go_simp)
          first | done | exact rfl | exact ⟨rfl, rfl⟩
        (try simp only [Act.put, qA, qB, qC, qD, qE, qF])
        refine wpAnyN_one (i := 15) (by kernel_rfl) rfl (fun K hK => ?_)
        go_simp
        have M0 : Below W6_11_13.heap.size W6_11_13 (W6_11_13.alloc (.cells #[.pointer (some ⟨fb0, fo, none⟩), .slice (some ⟨rb, 0, none⟩) rg rg, .slice (some ⟨fb, 0, none⟩) fr fr, .int .u32 ba, .int .i64 0, .int .i64 0] 85)) := below_alloc _ _
        have A6 : Hid (WZ (W6_11_13.alloc (.cells #[.pointer (some ⟨fb0, fo, none⟩), .slice (some ⟨rb, 0, none⟩) rg rg, .slice (some ⟨fb, 0, none⟩) fr fr, .int .u32 ba, .int .i64 0, .int .i64 0] 85)) rb rg (fun _ => 0)) := GZ.beW A6.out M0
        have A11 : Hid (WZ (W6_11_13.alloc (.cells #[.pointer (some ⟨fb0, fo, none⟩), .slice (some ⟨rb, 0, none⟩) rg rg, .slice (some ⟨fb, 0, none⟩) fr fr, .int .u32 ba, .int .i64 0, .int .i64 0] 85)) fb fr (fun _ => 0)) := GZ.beW A11.out M0
        have AB : Hid (At (W6_11_13.alloc (.cells #[.pointer (some ⟨fb0, fo, none⟩), .slice (some ⟨rb, 0, none⟩) rg rg, .slice (some ⟨fb, 0, none⟩) fr fr, .int .u32 ba, .int .i64 0, .int .i64 0] 85)) W6_11_13.heap.size #[.pointer (some ⟨fb0, fo, none⟩), .slice (some ⟨rb, 0, none⟩) rg rg, .slice (some ⟨fb, 0, none⟩) fr fr, .int .u32 ba, .int .i64 0, .int .i64 0] 85) := At.new _ _ _
        have n15 : w.heap.size ≤ W6_11_13.heap.size ∧ rb < W6_11_13.heap.size ∧ fb < W6_11_13.heap.size := ⟨B0.out.size, l6, l11⟩
        have B0 : Hid (Below w.heap.size w (W6_11_13.alloc (.cells #[.pointer (some ⟨fb0, fo, none⟩), .slice (some ⟨rb, 0, none⟩) rg rg, .slice (some ⟨fb, 0, none⟩) fr fr, .int .u32 ba, .int .i64 0, .int .i64 0] 85))) := below_next B0.out M0
        refine hK _ _ (fun _ => SS.out _ B0.out) ?_
        clear hK K M0
        (try simp only [Act.put, qA, qB, qC, qD, qE, qF])
        generalize W6_11_13.alloc (.cells #[.pointer (some ⟨fb0, fo, none⟩), .slice (some ⟨rb, 0, none⟩) rg rg, .slice (some ⟨fb, 0, none⟩) fr fr, .int .u32 ba, .int .i64 0, .int .i64 0] 85) = W6_11_13_15 at *
        generalize W6_11_13.heap.size = pb at *
        have S0 := SS.out _ B0.out
        refine wpAnyN_one (i := 16) (by kernel_rfl) rfl (fun K hK => ?_)
        go_simp
        refine hK _ _ (fun _ => S0) ?_
        clear hK K
        (try simp only [Act.put, qA, qB, qC, qD, qE, qF])
        refine wpAnyN_one (i := 17) (by kernel_rfl) rfl (fun K hK => ?_)
        go_simp
        refine hK _ _ (fun _ => S0) ?_
        clear hK K
        (try simp only [Act.put, qA, qB, qC, qD, qE, qF])
        refine wpAnyN_one (i := 18) (by kernel_rfl) rfl (fun K hK => ?_)
        obtain ⟨_, _, s7, s8⟩ := S0
        go_simp
        refine hK _ _ (fun h => by cases h) ?_
        clear hK K
        (try simp only [Act.put, qA, qB, qC, qD, qE, qF])
        refine wpAnyN_done (by kernel_rfl) ?_ _
        go_wp2_with fail
        go_meet
        case rel => exact CR.mk HH.out B0.out (by rw [FP.out]; exact AB.out) A6.out A11.out (by omega)
      · go_simp
        refine Calls.mono (RM.out _ B0.out) ?_
        rintro e W6_13 ⟨rfl, M0⟩
        have A6 : Hid (WZ W6_13 rb rg (fun _ => 0)) := GZ.beW A6.out M0
        have B0 : Hid (Below w.heap.size w W6_13) := below_next B0.out M0
        have l6 := GZ.lt A6.out
        go_wp2_with fail
        refine hK _ _ (fun _ => SS.out _ B0.out) ?_
        clear hK K M0
        (try simp only [Act.put, qA, qB, qC, qD, qE, qF])
        have S0 := SS.out _ B0.out
        refine wpAnyN_one (i := 11) (by kernel_rfl) rfl (fun K hK => ?_)
        go_simp
        have M0 : Below W6_13.heap.size W6_13 (W6_13.alloc (.cells (madeCells #[.int .i32 0] fr) 21)) := below_alloc _ _
        have A6 : Hid (WZ (W6_13.alloc (.cells (madeCells #[.int .i32 0] fr) 21)) rb rg (fun _ => 0)) := GZ.beW A6.out M0
        have A11 : Hid (WZ (W6_13.alloc (.cells (madeCells #[.int .i32 0] fr) 21)) W6_13.heap.size fr (fun _ => 0)) := WZ.made _ _
        have n11 : w.heap.size ≤ W6_13.heap.size ∧ rb < W6_13.heap.size := ⟨B0.out.size, l6⟩
        have B0 : Hid (Below w.heap.size w (W6_13.alloc (.cells (madeCells #[.int .i32 0] fr) 21))) := below_next B0.out M0
        refine hK _ _ (fun _ => SS.out _ B0.out) ?_
        clear hK K M0
        (try simp only [Act.put, qA, qB, qC, qD, qE, qF])
        generalize W6_13.alloc (.cells (madeCells #[.int .i32 0] fr) 21) = W6_13_11 at *
        generalize W6_13.heap.size = fb at *
        have l6 := GZ.lt A6.out
        have l11 := GZ.lt A11.out
        have S0 := SS.out _ B0.out
        refine tkO (i := 14) (v := ?_) rfl (Or.inl ⟨by rfl, ?_⟩) S0 ?_
        rotate_left
        · intro w' hS'
          obtain ⟨h0, h1, h2, h3⟩ := hS'
          (try go_simp)
          first | done | exact rfl | exact ⟨rfl, rfl⟩
        (try simp only [Act.put, qA, qB, qC, qD, qE, qF])
        refine wpAnyN_one (i := 15) (by kernel_rfl) rfl (fun K hK => ?_)
        go_simp
        have M0 : Below W6_13_11.heap.size W6_13_11 (W6_13_11.alloc (.cells #[.pointer (some ⟨fb0, fo, none⟩), .slice (some ⟨rb, 0, none⟩) rg rg, .slice (some ⟨fb, 0, none⟩) fr fr, .int .u32 ba, .int .i64 0, .int .i64 0] 85)) := below_alloc _ _
        have A6 : Hid (WZ (W6_13_11.alloc (.cells #[.pointer (some ⟨fb0, fo, none⟩), .slice (some ⟨rb, 0, none⟩) rg rg, .slice (some ⟨fb, 0, none⟩) fr fr, .int .u32 ba, .int .i64 0, .int .i64 0] 85)) rb rg (fun _ => 0)) := GZ.beW A6.out M0
        have A11 : Hid (WZ (W6_13_11.alloc (.cells #[.pointer (some ⟨fb0, fo, none⟩), .slice (some ⟨rb, 0, none⟩) rg rg, .slice (some ⟨fb, 0, none⟩) fr fr, .int .u32 ba, .int .i64 0, .int .i64 0] 85)) fb fr (fun _ => 0)) := GZ.beW A11.out M0
        have AB : Hid (At (W6_13_11.alloc (.cells #[.pointer (some ⟨fb0, fo, none⟩), .slice (some ⟨rb, 0, none⟩) rg rg, .slice (some ⟨fb, 0, none⟩) fr fr, .int .u32 ba, .int .i64 0, .int .i64 0] 85)) W6_13_11.heap.size #[.pointer (some ⟨fb0, fo, none⟩), .slice (some ⟨rb, 0, none⟩) rg rg, .slice (some ⟨fb, 0, none⟩) fr fr, .int .u32 ba, .int .i64 0, .int .i64 0] 85) := At.new _ _ _
        have n15 : w.heap.size ≤ W6_13_11.heap.size ∧ rb < W6_13_11.heap.size ∧ fb < W6_13_11.heap.size := ⟨B0.out.size, l6, l11⟩
        have B0 : Hid (Below w.heap.size w (W6_13_11.alloc (.cells #[.pointer (some ⟨fb0, fo, none⟩), .slice (some ⟨rb, 0, none⟩) rg rg, .slice (some ⟨fb, 0, none⟩) fr fr, .int .u32 ba, .int .i64 0, .int .i64 0] 85))) := below_next B0.out M0
        refine hK _ _ (fun _ => SS.out _ B0.out) ?_
        clear hK K M0
        (try simp only [Act.put, qA, qB, qC, qD, qE, qF])
        generalize W6_13_11.alloc (.cells #[.pointer (some ⟨fb0, fo, none⟩), .slice (some ⟨rb, 0, none⟩) rg rg, .slice (some ⟨fb, 0, none⟩) fr fr, .int .u32 ba, .int .i64 0, .int .i64 0] 85) = W6_13_11_15 at *
        generalize W6_13_11.heap.size = pb at *
        have S0 := SS.out _ B0.out
        refine wpAnyN_one (i := 16) (by kernel_rfl) rfl (fun K hK => ?_)
        go_simp
        refine hK _ _ (fun _ => S0) ?_
        clear hK K
        (try simp only [Act.put, qA, qB, qC, qD, qE, qF])
        refine wpAnyN_one (i := 17) (by kernel_rfl) rfl (fun K hK => ?_)
        go_simp
        refine hK _ _ (fun _ => S0) ?_
        clear hK K
        (try simp only [Act.put, qA, qB, qC, qD, qE, qF])
        refine wpAnyN_one (i := 18) (by kernel_rfl) rfl (fun K hK => ?_)
        obtain ⟨_, _, s7, s8⟩ := S0
        go_simp
        refine hK _ _ (fun h => by cases h) ?_
        clear hK K
        (try simp only [Act.put, qA, qB, qC, qD, qE, qF])
        refine wpAnyN_done (by kernel_rfl) ?_ _
        go_wp2_with fail
        go_meet
        case rel => exact CR.mk HH.out B0.out (by rw [FP.out]; exact AB.out) A6.out A11.out (by omega)
    · go_simp
      have M0 : Below wd.heap.size wd (wd.alloc (.cells (madeCells #[.int .i32 0] fr) 21)) := below_alloc _ _
      have A11 : Hid (WZ (wd.alloc (.cells (madeCells #[.int .i32 0] fr) 21)) wd.heap.size fr (fun _ => 0)) := WZ.made _ _
      have n11 : w.heap.size ≤ wd.heap.size := B0.out.size
      have B0 : Hid (Below w.heap.size w (wd.alloc (.cells (madeCells #[.int .i32 0] fr) 21))) := below_next B0.out M0
      refine hK _ _ (fun _ => SS.out _ B0.out) ?_
      clear hK K M0
      (try simp only [Act.put, qA, qB, qC, qD, qE, qF])
      generalize wd.alloc (.cells (madeCells #[.int .i32 0] fr) 21) = W11 at *
      generalize wd.heap.size = fb at *
      have l11 := GZ.lt A11.out
      have S0 := SS.out _ B0.out
      refine wpAnyN_two (i0 := 6) (i1 := 13) (by kernel_rfl) rfl rfl (fun K hK => ?_) (fun K hK => ?_)
      · go_simp
        have M0 : Below W11.heap.size W11 (W11.alloc (.cells (madeCells #[.int .i32 0] rg) 21)) := below_alloc _ _
        have A11 : Hid (WZ (W11.alloc (.cells (madeCells #[.int .i32 0] rg) 21)) fb fr (fun _ => 0)) := GZ.beW A11.out M0
        have A6 : Hid (WZ (W11.alloc (.cells (madeCells #[.int .i32 0] rg) 21)) W11.heap.size rg (fun _ => 0)) := WZ.made _ _
        have n6 : w.heap.size ≤ W11.heap.size ∧ fb < W11.heap.size := ⟨B0.out.size, l11⟩
        have B0 : Hid (Below w.heap.size w (W11.alloc (.cells (madeCells #[.int .i32 0] rg) 21))) := below_next B0.out M0
        refine hK _ _ (fun _ => SS.out _ B0.out) ?_
        clear hK K M0
        (try simp only [Act.put, qA, qB, qC, qD, qE, qF])
        generalize W11.alloc (.cells (madeCells #[.int .i32 0] rg) 21) = W11_6 at *
        generalize W11.heap.size = rb at *
        have l11 := GZ.lt A11.out
        have l6 := GZ.lt A6.out
        have S0 := SS.out _ B0.out
        refine wpAnyN_one (i := 13) (by kernel_rfl) rfl (fun K hK => ?_)
        go_simp
        refine Calls.mono (RM.out _ B0.out) ?_
        rintro e W11_6_13 ⟨rfl, M0⟩
        have A11 : Hid (WZ W11_6_13 fb fr (fun _ => 0)) := GZ.beW A11.out M0
        have A6 : Hid (WZ W11_6_13 rb rg (fun _ => 0)) := GZ.beW A6.out M0
        have B0 : Hid (Below w.heap.size w W11_6_13) := below_next B0.out M0
        have l11 := GZ.lt A11.out
        have l6 := GZ.lt A6.out
        go_wp2_with fail
        refine hK _ _ (fun _ => SS.out _ B0.out) ?_
        clear hK K M0
        (try simp only [Act.put, qA, qB, qC, qD, qE, qF])
        have S0 := SS.out _ B0.out
        refine tkO (i := 14) (v := ?_) rfl (Or.inl ⟨by rfl, ?_⟩) S0 ?_
        rotate_left
        · intro w' hS'
          obtain ⟨h0, h1, h2, h3⟩ := hS'
          (try go_simp)
          first | done | exact rfl | exact ⟨rfl, rfl⟩
        (try simp only [Act.put, qA, qB, qC, qD, qE, qF])
        refine wpAnyN_one (i := 15) (by kernel_rfl) rfl (fun K hK => ?_)
        go_simp
        have M0 : Below W11_6_13.heap.size W11_6_13 (W11_6_13.alloc (.cells #[.pointer (some ⟨fb0, fo, none⟩), .slice (some ⟨rb, 0, none⟩) rg rg, .slice (some ⟨fb, 0, none⟩) fr fr, .int .u32 ba, .int .i64 0, .int .i64 0] 85)) := below_alloc _ _
        have A6 : Hid (WZ (W11_6_13.alloc (.cells #[.pointer (some ⟨fb0, fo, none⟩), .slice (some ⟨rb, 0, none⟩) rg rg, .slice (some ⟨fb, 0, none⟩) fr fr, .int .u32 ba, .int .i64 0, .int .i64 0] 85)) rb rg (fun _ => 0)) := GZ.beW A6.out M0
        have A11 : Hid (WZ (W11_6_13.alloc (.cells #[.pointer (some ⟨fb0, fo, none⟩), .slice (some ⟨rb, 0, none⟩) rg rg, .slice (some ⟨fb, 0, none⟩) fr fr, .int .u32 ba, .int .i64 0, .int .i64 0] 85)) fb fr (fun _ => 0)) := GZ.beW A11.out M0
        have AB : Hid (At (W11_6_13.alloc (.cells #[.pointer (some ⟨fb0, fo, none⟩), .slice (some ⟨rb, 0, none⟩) rg rg, .slice (some ⟨fb, 0, none⟩) fr fr, .int .u32 ba, .int .i64 0, .int .i64 0] 85)) W11_6_13.heap.size #[.pointer (some ⟨fb0, fo, none⟩), .slice (some ⟨rb, 0, none⟩) rg rg, .slice (some ⟨fb, 0, none⟩) fr fr, .int .u32 ba, .int .i64 0, .int .i64 0] 85) := At.new _ _ _
        have n15 : w.heap.size ≤ W11_6_13.heap.size ∧ rb < W11_6_13.heap.size ∧ fb < W11_6_13.heap.size := ⟨B0.out.size, l6, l11⟩
        have B0 : Hid (Below w.heap.size w (W11_6_13.alloc (.cells #[.pointer (some ⟨fb0, fo, none⟩), .slice (some ⟨rb, 0, none⟩) rg rg, .slice (some ⟨fb, 0, none⟩) fr fr, .int .u32 ba, .int .i64 0, .int .i64 0] 85))) := below_next B0.out M0
        refine hK _ _ (fun _ => SS.out _ B0.out) ?_
        clear hK K M0
        (try simp only [Act.put, qA, qB, qC, qD, qE, qF])
        generalize W11_6_13.alloc (.cells #[.pointer (some ⟨fb0, fo, none⟩), .slice (some ⟨rb, 0, none⟩) rg rg, .slice (some ⟨fb, 0, none⟩) fr fr, .int .u32 ba, .int .i64 0, .int .i64 0] 85) = W11_6_13_15 at *
        generalize W11_6_13.heap.size = pb at *
        have S0 := SS.out _ B0.out
        refine wpAnyN_one (i := 16) (by kernel_rfl) rfl (fun K hK => ?_)
        go_simp
        refine hK _ _ (fun _ => S0) ?_
        clear hK K
        (try simp only [Act.put, qA, qB, qC, qD, qE, qF])
        refine wpAnyN_one (i := 17) (by kernel_rfl) rfl (fun K hK => ?_)
        go_simp
        refine hK _ _ (fun _ => S0) ?_
        clear hK K
        (try simp only [Act.put, qA, qB, qC, qD, qE, qF])
        refine wpAnyN_one (i := 18) (by kernel_rfl) rfl (fun K hK => ?_)
        obtain ⟨_, _, s7, s8⟩ := S0
        go_simp
        refine hK _ _ (fun h => by cases h) ?_
        clear hK K
        (try simp only [Act.put, qA, qB, qC, qD, qE, qF])
        refine wpAnyN_done (by kernel_rfl) ?_ _
        go_wp2_with fail
        go_meet
        case rel => exact CR.mk HH.out B0.out (by rw [FP.out]; exact AB.out) A6.out A11.out (by omega)
      · go_simp
        refine Calls.mono (RM.out _ B0.out) ?_
        rintro e W11_13 ⟨rfl, M0⟩
        have A11 : Hid (WZ W11_13 fb fr (fun _ => 0)) := GZ.beW A11.out M0
        have B0 : Hid (Below w.heap.size w W11_13) := below_next B0.out M0
        have l11 := GZ.lt A11.out
        go_wp2_with fail
        refine hK _ _ (fun _ => SS.out _ B0.out) ?_
        clear hK K M0
        (try simp only [Act.put, qA, qB, qC, qD, qE, qF])
        have S0 := SS.out _ B0.out
        refine wpAnyN_one (i := 6) (by kernel_rfl) rfl (fun K hK => ?_)
        go_simp
        have M0 : Below W11_13.heap.size W11_13 (W11_13.alloc (.cells (madeCells #[.int .i32 0] rg) 21)) := below_alloc _ _
        have A11 : Hid (WZ (W11_13.alloc (.cells (madeCells #[.int .i32 0] rg) 21)) fb fr (fun _ => 0)) := GZ.beW A11.out M0
        have A6 : Hid (WZ (W11_13.alloc (.cells (madeCells #[.int .i32 0] rg) 21)) W11_13.heap.size rg (fun _ => 0)) := WZ.made _ _
        have n6 : w.heap.size ≤ W11_13.heap.size ∧ fb < W11_13.heap.size := ⟨B0.out.size, l11⟩
        have B0 : Hid (Below w.heap.size w (W11_13.alloc (.cells (madeCells #[.int .i32 0] rg) 21))) := below_next B0.out M0
        refine hK _ _ (fun _ => SS.out _ B0.out) ?_
        clear hK K M0
        (try simp only [Act.put, qA, qB, qC, qD, qE, qF])
        generalize W11_13.alloc (.cells (madeCells #[.int .i32 0] rg) 21) = W11_13_6 at *
        generalize W11_13.heap.size = rb at *
        have l11 := GZ.lt A11.out
        have l6 := GZ.lt A6.out
        have S0 := SS.out _ B0.out
        refine tkO (i := 14) (v := ?_) rfl (Or.inl ⟨by rfl, ?_⟩) S0 ?_
        rotate_left
        · intro w' hS'
          obtain ⟨h0, h1, h2, h3⟩ := hS'
          (try go_simp)
          first | done | exact rfl | exact ⟨rfl, rfl⟩
        (try simp only [Act.put, qA, qB, qC, qD, qE, qF])
        refine wpAnyN_one (i := 15) (by kernel_rfl) rfl (fun K hK => ?_)
        go_simp
        have M0 : Below W11_13_6.heap.size W11_13_6 (W11_13_6.alloc (.cells #[.pointer (some ⟨fb0, fo, none⟩), .slice (some ⟨rb, 0, none⟩) rg rg, .slice (some ⟨fb, 0, none⟩) fr fr, .int .u32 ba, .int .i64 0, .int .i64 0] 85)) := below_alloc _ _
        have A6 : Hid (WZ (W11_13_6.alloc (.cells #[.pointer (some ⟨fb0, fo, none⟩), .slice (some ⟨rb, 0, none⟩) rg rg, .slice (some ⟨fb, 0, none⟩) fr fr, .int .u32 ba, .int .i64 0, .int .i64 0] 85)) rb rg (fun _ => 0)) := GZ.beW A6.out M0
        have A11 : Hid (WZ (W11_13_6.alloc (.cells #[.pointer (some ⟨fb0, fo, none⟩), .slice (some ⟨rb, 0, none⟩) rg rg, .slice (some ⟨fb, 0, none⟩) fr fr, .int .u32 ba, .int .i64 0, .int .i64 0] 85)) fb fr (fun _ => 0)) := GZ.beW A11.out M0
        have AB : Hid (At (W11_13_6.alloc (.cells #[.pointer (some ⟨fb0, fo, none⟩), .slice (some ⟨rb, 0, none⟩) rg rg, .slice (some ⟨fb, 0, none⟩) fr fr, .int .u32 ba, .int .i64 0, .int .i64 0] 85)) W11_13_6.heap.size #[.pointer (some ⟨fb0, fo, none⟩), .slice (some ⟨rb, 0, none⟩) rg rg, .slice (some ⟨fb, 0, none⟩) fr fr, .int .u32 ba, .int .i64 0, .int .i64 0] 85) := At.new _ _ _
        have n15 : w.heap.size ≤ W11_13_6.heap.size ∧ rb < W11_13_6.heap.size ∧ fb < W11_13_6.heap.size := ⟨B0.out.size, l6, l11⟩
        have B0 : Hid (Below w.heap.size w (W11_13_6.alloc (.cells #[.pointer (some ⟨fb0, fo, none⟩), .slice (some ⟨rb, 0, none⟩) rg rg, .slice (some ⟨fb, 0, none⟩) fr fr, .int .u32 ba, .int .i64 0, .int .i64 0] 85))) := below_next B0.out M0
        refine hK _ _ (fun _ => SS.out _ B0.out) ?_
        clear hK K M0
        (try simp only [Act.put, qA, qB, qC, qD, qE, qF])
        generalize W11_13_6.alloc (.cells #[.pointer (some ⟨fb0, fo, none⟩), .slice (some ⟨rb, 0, none⟩) rg rg, .slice (some ⟨fb, 0, none⟩) fr fr, .int .u32 ba, .int .i64 0, .int .i64 0] 85) = W11_13_6_15 at *
        generalize W11_13_6.heap.size = pb at *
        have S0 := SS.out _ B0.out
        refine wpAnyN_one (i := 16) (by kernel_rfl) rfl (fun K hK => ?_)
        go_simp
        refine hK _ _ (fun _ => S0) ?_
        clear hK K
        (try simp only [Act.put, qA, qB, qC, qD, qE, qF])
        refine wpAnyN_one (i := 17) (by kernel_rfl) rfl (fun K hK => ?_)
        go_simp
        refine hK _ _ (fun _ => S0) ?_
        clear hK K
        (try simp only [Act.put, qA, qB, qC, qD, qE, qF])
        refine wpAnyN_one (i := 18) (by kernel_rfl) rfl (fun K hK => ?_)
        obtain ⟨_, _, s7, s8⟩ := S0
        go_simp
        refine hK _ _ (fun h => by cases h) ?_
        clear hK K
        (try simp only [Act.put, qA, qB, qC, qD, qE, qF])
        refine wpAnyN_done (by kernel_rfl) ?_ _
        go_wp2_with fail
        go_meet
        case rel => exact CR.mk HH.out B0.out (by rw [FP.out]; exact AB.out) A6.out A11.out (by omega)
    · go_simp
      refine Calls.mono (RM.out _ B0.out) ?_
      rintro e W13 ⟨rfl, M0⟩
      have B0 : Hid (Below w.heap.size w W13) := below_next B0.out M0
      go_wp2_with fail
      refine hK _ _ (fun _ => SS.out _ B0.out) ?_
      clear hK K M0
      (try simp only [Act.put, qA, qB, qC, qD, qE, qF])
      have S0 := SS.out _ B0.out
      refine wpAnyN_two (i0 := 6) (i1 := 11) (by kernel_rfl) rfl rfl (fun K hK => ?_) (fun K hK => ?_)
      · go_simp
        have M0 : Below W13.heap.size W13 (W13.alloc (.cells (madeCells #[.int .i32 0] rg) 21)) := below_alloc _ _
        have A6 : Hid (WZ (W13.alloc (.cells (madeCells #[.int .i32 0] rg) 21)) W13.heap.size rg (fun _ => 0)) := WZ.made _ _
        have n6 : w.heap.size ≤ W13.heap.size := B0.out.size
        have B0 : Hid (Below w.heap.size w (W13.alloc (.cells (madeCells #[.int .i32 0] rg) 21))) := below_next B0.out M0
        refine hK _ _ (fun _ => SS.out _ B0.out) ?_
        clear hK K M0
        (try simp only [Act.put, qA, qB, qC, qD, qE, qF])
        generalize W13.alloc (.cells (madeCells #[.int .i32 0] rg) 21) = W13_6 at *
        generalize W13.heap.size = rb at *
        have l6 := GZ.lt A6.out
        have S0 := SS.out _ B0.out
        refine wpAnyN_one (i := 11) (by kernel_rfl) rfl (fun K hK => ?_)
        go_simp
        have M0 : Below W13_6.heap.size W13_6 (W13_6.alloc (.cells (madeCells #[.int .i32 0] fr) 21)) := below_alloc _ _
        have A6 : Hid (WZ (W13_6.alloc (.cells (madeCells #[.int .i32 0] fr) 21)) rb rg (fun _ => 0)) := GZ.beW A6.out M0
        have A11 : Hid (WZ (W13_6.alloc (.cells (madeCells #[.int .i32 0] fr) 21)) W13_6.heap.size fr (fun _ => 0)) := WZ.made _ _
        have n11 : w.heap.size ≤ W13_6.heap.size ∧ rb < W13_6.heap.size := ⟨B0.out.size, l6⟩
        have B0 : Hid (Below w.heap.size w (W13_6.alloc (.cells (madeCells #[.int .i32 0] fr) 21))) := below_next B0.out M0
        refine hK _ _ (fun _ => SS.out _ B0.out) ?_
        clear hK K M0
        (try simp only [Act.put, qA, qB, qC, qD, qE, qF])
        generalize W13_6.alloc (.cells (madeCells #[.int .i32 0] fr) 21) = W13_6_11 at *
        generalize W13_6.heap.size = fb at *
        have l6 := GZ.lt A6.out
        have l11 := GZ.lt A11.out
        have S0 := SS.out _ B0.out
        refine tkO (i := 14) (v := ?_) rfl (Or.inl ⟨by rfl, ?_⟩) S0 ?_
        rotate_left
        · intro w' hS'
          obtain ⟨h0, h1, h2, h3⟩ := hS'
          (try go_simp)
          first | done | exact rfl | exact ⟨rfl, rfl⟩
        (try simp only [Act.put, qA, qB, qC, qD, qE, qF])
        refine wpAnyN_one (i := 15) (by kernel_rfl) rfl (fun K hK => ?_)
        go_simp
        have M0 : Below W13_6_11.heap.size W13_6_11 (W13_6_11.alloc (.cells #[.pointer (some ⟨fb0, fo, none⟩), .slice (some ⟨rb, 0, none⟩) rg rg, .slice (some ⟨fb, 0, none⟩) fr fr, .int .u32 ba, .int .i64 0, .int .i64 0] 85)) := below_alloc _ _
        have A6 : Hid (WZ (W13_6_11.alloc (.cells #[.pointer (some ⟨fb0, fo, none⟩), .slice (some ⟨rb, 0, none⟩) rg rg, .slice (some ⟨fb, 0, none⟩) fr fr, .int .u32 ba, .int .i64 0, .int .i64 0] 85)) rb rg (fun _ => 0)) := GZ.beW A6.out M0
        have A11 : Hid (WZ (W13_6_11.alloc (.cells #[.pointer (some ⟨fb0, fo, none⟩), .slice (some ⟨rb, 0, none⟩) rg rg, .slice (some ⟨fb, 0, none⟩) fr fr, .int .u32 ba, .int .i64 0, .int .i64 0] 85)) fb fr (fun _ => 0)) := GZ.beW A11.out M0
        have AB : Hid (At (W13_6_11.alloc (.cells #[.pointer (some ⟨fb0, fo, none⟩), .slice (some ⟨rb, 0, none⟩) rg rg, .slice (some ⟨fb, 0, none⟩) fr fr, .int .u32 ba, .int .i64 0, .int .i64 0] 85)) W13_6_11.heap.size #[.pointer (some ⟨fb0, fo, none⟩), .slice (some ⟨rb, 0, none⟩) rg rg, .slice (some ⟨fb, 0, none⟩) fr fr, .int .u32 ba, .int .i64 0, .int .i64 0] 85) := At.new _ _ _
        have n15 : w.heap.size ≤ W13_6_11.heap.size ∧ rb < W13_6_11.heap.size ∧ fb < W13_6_11.heap.size := ⟨B0.out.size, l6, l11⟩
        have B0 : Hid (Below w.heap.size w (W13_6_11.alloc (.cells #[.pointer (some ⟨fb0, fo, none⟩), .slice (some ⟨rb, 0, none⟩) rg rg, .slice (some ⟨fb, 0, none⟩) fr fr, .int .u32 ba, .int .i64 0, .int .i64 0] 85))) := below_next B0.out M0
        refine hK _ _ (fun _ => SS.out _ B0.out) ?_
        clear hK K M0
        (try simp only [Act.put, qA, qB, qC, qD, qE, qF])
        generalize W13_6_11.alloc (.cells #[.pointer (some ⟨fb0, fo, none⟩), .slice (some ⟨rb, 0, none⟩) rg rg, .slice (some ⟨fb, 0, none⟩) fr fr, .int .u32 ba, .int .i64 0, .int .i64 0] 85) = W13_6_11_15 at *
        generalize W13_6_11.heap.size = pb at *
        have S0 := SS.out _ B0.out
        refine wpAnyN_one (i := 16) (by kernel_rfl) rfl (fun K hK => ?_)
        go_simp
        refine hK _ _ (fun _ => S0) ?_
        clear hK K
        (try simp only [Act.put, qA, qB, qC, qD, qE, qF])
        refine wpAnyN_one (i := 17) (by kernel_rfl) rfl (fun K hK => ?_)
        go_simp
        refine hK _ _ (fun _ => S0) ?_
        clear hK K
        (try simp only [Act.put, qA, qB, qC, qD, qE, qF])
        refine wpAnyN_one (i := 18) (by kernel_rfl) rfl (fun K hK => ?_)
        obtain ⟨_, _, s7, s8⟩ := S0
        go_simp
        refine hK _ _ (fun h => by cases h) ?_
        clear hK K
        (try simp only [Act.put, qA, qB, qC, qD, qE, qF])
        refine wpAnyN_done (by kernel_rfl) ?_ _
        go_wp2_with fail
        go_meet
        case rel => exact CR.mk HH.out B0.out (by rw [FP.out]; exact AB.out) A6.out A11.out (by omega)
      · go_simp
        have M0 : Below W13.heap.size W13 (W13.alloc (.cells (madeCells #[.int .i32 0] fr) 21)) := below_alloc _ _
        have A11 : Hid (WZ (W13.alloc (.cells (madeCells #[.int .i32 0] fr) 21)) W13.heap.size fr (fun _ => 0)) := WZ.made _ _
        have n11 : w.heap.size ≤ W13.heap.size := B0.out.size
        have B0 : Hid (Below w.heap.size w (W13.alloc (.cells (madeCells #[.int .i32 0] fr) 21))) := below_next B0.out M0
        refine hK _ _ (fun _ => SS.out _ B0.out) ?_
        clear hK K M0
        (try simp only [Act.put, qA, qB, qC, qD, qE, qF])
        generalize W13.alloc (.cells (madeCells #[.int .i32 0] fr) 21) = W13_11 at *
        generalize W13.heap.size = fb at *
        have l11 := GZ.lt A11.out
        have S0 := SS.out _ B0.out
        refine wpAnyN_one (i := 6) (by kernel_rfl) rfl (fun K hK => ?_)
        go_simp
        have M0 : Below W13_11.heap.size W13_11 (W13_11.alloc (.cells (madeCells #[.int .i32 0] rg) 21)) := below_alloc _ _
        have A11 : Hid (WZ (W13_11.alloc (.cells (madeCells #[.int .i32 0] rg) 21)) fb fr (fun _ => 0)) := GZ.beW A11.out M0
        have A6 : Hid (WZ (W13_11.alloc (.cells (madeCells #[.int .i32 0] rg) 21)) W13_11.heap.size rg (fun _ => 0)) := WZ.made _ _
        have n6 : w.heap.size ≤ W13_11.heap.size ∧ fb < W13_11.heap.size := ⟨B0.out.size, l11⟩
        have B0 : Hid (Below w.heap.size w (W13_11.alloc (.cells (madeCells #[.int .i32 0] rg) 21))) := below_next B0.out M0
        refine hK _ _ (fun _ => SS.out _ B0.out) ?_
        clear hK K M0
        (try simp only [Act.put, qA, qB, qC, qD, qE, qF])
        generalize W13_11.alloc (.cells (madeCells #[.int .i32 0] rg) 21) = W13_11_6 at *
        generalize W13_11.heap.size = rb at *
        have l11 := GZ.lt A11.out
        have l6 := GZ.lt A6.out
        have S0 := SS.out _ B0.out
        refine tkO (i := 14) (v := ?_) rfl (Or.inl ⟨by rfl, ?_⟩) S0 ?_
        rotate_left
        · intro w' hS'
          obtain ⟨h0, h1, h2, h3⟩ := hS'
          (try go_simp)
          first | done | exact rfl | exact ⟨rfl, rfl⟩
        (try simp only [Act.put, qA, qB, qC, qD, qE, qF])
        refine wpAnyN_one (i := 15) (by kernel_rfl) rfl (fun K hK => ?_)
        go_simp
        have M0 : Below W13_11_6.heap.size W13_11_6 (W13_11_6.alloc (.cells #[.pointer (some ⟨fb0, fo, none⟩), .slice (some ⟨rb, 0, none⟩) rg rg, .slice (some ⟨fb, 0, none⟩) fr fr, .int .u32 ba, .int .i64 0, .int .i64 0] 85)) := below_alloc _ _
        have A6 : Hid (WZ (W13_11_6.alloc (.cells #[.pointer (some ⟨fb0, fo, none⟩), .slice (some ⟨rb, 0, none⟩) rg rg, .slice (some ⟨fb, 0, none⟩) fr fr, .int .u32 ba, .int .i64 0, .int .i64 0] 85)) rb rg (fun _ => 0)) := GZ.beW A6.out M0
        have A11 : Hid (WZ (W13_11_6.alloc (.cells #[.pointer (some ⟨fb0, fo, none⟩), .slice (some ⟨rb, 0, none⟩) rg rg, .slice (some ⟨fb, 0, none⟩) fr fr, .int .u32 ba, .int .i64 0, .int .i64 0] 85)) fb fr (fun _ => 0)) := GZ.beW A11.out M0
        have AB : Hid (At (W13_11_6.alloc (.cells #[.pointer (some ⟨fb0, fo, none⟩), .slice (some ⟨rb, 0, none⟩) rg rg, .slice (some ⟨fb, 0, none⟩) fr fr, .int .u32 ba, .int .i64 0, .int .i64 0] 85)) W13_11_6.heap.size #[.pointer (some ⟨fb0, fo, none⟩), .slice (some ⟨rb, 0, none⟩) rg rg, .slice (some ⟨fb, 0, none⟩) fr fr, .int .u32 ba, .int .i64 0, .int .i64 0] 85) := At.new _ _ _
        have n15 : w.heap.size ≤ W13_11_6.heap.size ∧ rb < W13_11_6.heap.size ∧ fb < W13_11_6.heap.size := ⟨B0.out.size, l6, l11⟩
        have B0 : Hid (Below w.heap.size w (W13_11_6.alloc (.cells #[.pointer (some ⟨fb0, fo, none⟩), .slice (some ⟨rb, 0, none⟩) rg rg, .slice (some ⟨fb, 0, none⟩) fr fr, .int .u32 ba, .int .i64 0, .int .i64 0] 85))) := below_next B0.out M0
        refine hK _ _ (fun _ => SS.out _ B0.out) ?_
        clear hK K M0
        (try simp only [Act.put, qA, qB, qC, qD, qE, qF])
        generalize W13_11_6.alloc (.cells #[.pointer (some ⟨fb0, fo, none⟩), .slice (some ⟨rb, 0, none⟩) rg rg, .slice (some ⟨fb, 0, none⟩) fr fr, .int .u32 ba, .int .i64 0, .int .i64 0] 85) = W13_11_6_15 at *
        generalize W13_11_6.heap.size = pb at *
        have S0 := SS.out _ B0.out
        refine wpAnyN_one (i := 16) (by kernel_rfl) rfl (fun K hK => ?_)
        go_simp
        refine hK _ _ (fun _ => S0) ?_
        clear hK K
        (try simp only [Act.put, qA, qB, qC, qD, qE, qF])
        refine wpAnyN_one (i := 17) (by kernel_rfl) rfl (fun K hK => ?_)
        go_simp
        refine hK _ _ (fun _ => S0) ?_
        clear hK K
        (try simp only [Act.put, qA, qB, qC, qD, qE, qF])
        refine wpAnyN_one (i := 18) (by kernel_rfl) rfl (fun K hK => ?_)
        obtain ⟨_, _, s7, s8⟩ := S0
        go_simp
        refine hK _ _ (fun h => by cases h) ?_
        clear hK K
        (try simp only [Act.put, qA, qB, qC, qD, qE, qF])
        refine wpAnyN_done (by kernel_rfl) ?_ _
        go_wp2_with fail
        go_meet
        case rel => exact CR.mk HH.out B0.out (by rw [FP.out]; exact AB.out) A6.out A11.out (by omega)
  case rest =>
    rename World => wb
    obtain ⟨pb, rb, fb, hC, hG, hK, n1, n2, n3, n4, n5, n6⟩ := hcut
    have NP : Hid (w.heap.size ≤ pb ∧ w.heap.size ≤ rb ∧ w.heap.size ≤ fb ∧ pb ≠ rb ∧ pb ≠ fb ∧ rb ≠ fb) := ⟨n1, n2, n3, n4, n5, n6⟩
    have CC : Hid (CallIn X ⟨k, List.replicate rg 0, List.replicate fr 0, ba, 0, 0⟩ pb rb fb wb) := hC
    have GG : Hid (GZ 56 wb X.R 2826 (rnG X z st L.cv L.pv L.iv (.pointer (some ⟨pb, 0, none⟩)))) := hG
    have KK : Hid (Kp (fun b => b = X.R ∨ w.heap.size ≤ b) w wb) := hK
    have c2 := (FC.out wb hK).2.1
    clear hC hG hK n1 n2 n3 n4 n5 n6 mR mF
    go_wp2
    clear c2
    go_loopw [52] (fun iv wr => ∃ i : Nat, i ≤ vs.length ∧ iv = .int .i64 (i : Int) ∧ CallIn X (setsR ⟨k, List.replicate rg 0, List.replicate fr 0, ba, 0, 0⟩ (pa.take i) (vs.take i)) pb rb fb wr ∧ GZ 56 wr X.R 2826 (rnG X z st L.cv L.pv L.iv (.pointer (some ⟨pb, 0, none⟩))) ∧ Kp (fun b => b = X.R ∨ w.heap.size ≤ b) w wr) (fun iv _ => vs.length - (intOf iv).toNat)
    case atStart => exact ⟨0, by omega, rfl, CC.out, GG.out, KK.out⟩
    case round =>
      obtain ⟨i, hi, rfl, hC, hG, hK⟩ := hrel
      have CI : Hid (CallIn X (setsR ⟨k, List.replicate rg 0, List.replicate fr 0, ba, 0, 0⟩ (pa.take i) (vs.take i)) pb rb fb wr) := hC
      have GI : Hid (GZ 56 wr X.R 2826 (rnG X z st L.cv L.pv L.iv (.pointer (some ⟨pb, 0, none⟩)))) := hG
      have KI : Hid (Kp (fun b => b = X.R ∨ w.heap.size ≤ b) w wr) := hK
      clear hC hG hK CC GG KK
      rcases Nat.lt_or_ge i vs.length with hi' | hi'
      · have hiz : (i : Int) < vs.length := by omega
        have hip : i < pa.length := by rw [LN.out]; exact hi'
        obtain ⟨pb2, po, rfl, hpcell⟩ := PC2.out i hip
        obtain ⟨ab, ao, rfl, hacell⟩ := AC2.out i hi'
        have cr := hpcell wr KI.out
        have ca := hacell wr KI.out
        obtain ⟨r0, r1⟩ := HP.out pa[i] (List.getElem_mem hip)
        obtain ⟨rn, hrn⟩ : ∃ rn : Nat, pa[i] = (rn : Int) := ⟨pa[i].toNat, by omega⟩
        have hlr : (setsR ⟨k, List.replicate rg 0, List.replicate fr 0, ba, 0, 0⟩ (pa.take i) (vs.take i)).rg.length = rg := (setsR_same _ _ _).2.2.2.2.2.trans (List.length_replicate ..)
        have SN : setsR ⟨k, List.replicate rg 0, List.replicate fr 0, ba, 0, 0⟩ (pa.take (i + 1)) (vs.take (i + 1)) = setR (setsR ⟨k, List.replicate rg 0, List.replicate fr 0, ba, 0, 0⟩ (pa.take i) (vs.take i)) (rn : Int) vs[i] := by
          rw [List.take_succ_eq_append_getElem hip, List.take_succ_eq_append_getElem hi', hrn]
          exact setsR_snoc _ _ _ _ _ (by simp; omega)
        have np := NP.out
        have C2 : Hid (CallIn X (setsR ⟨k, List.replicate rg 0, List.replicate fr 0, ba, 0, 0⟩ (pa.take (i + 1)) (vs.take (i + 1))) pb rb fb (wr.drew.setCell ⟨rb, rn, none⟩ (.int .i32 vs[i]))) := by
          show CallIn _ _ _ _ _ _
          rw [SN]
          exact (CI.out.below (below_drew _)).rset np.2.2.2.1 (fun e => np.2.2.2.2.2 e.symm) rn (by rw [hlr]; omega) _
        have G2 : Hid (GZ 56 (wr.drew.setCell ⟨rb, rn, none⟩ (.int .i32 vs[i])) X.R 2826 (rnG X z st L.cv L.pv L.iv (.pointer (some ⟨pb, 0, none⟩)))) := (GI.out.beW (below_drew _)).kp (Kp.set (F := fun b => b = rb) _ rn _ rfl) (by have := HH.out.rr.lt; omega)
        have K2 : Hid (Kp (fun b => b = X.R ∨ w.heap.size ≤ b) w (wr.drew.setCell ⟨rb, rn, none⟩ (.int .i32 vs[i]))) := (KI.out.drew).trans (Kp.set _ rn _ (Or.inr np.2.1))
        have SC : Hid (Calls Tryd.prog 25 #[.pointer (some ⟨pb, 0, none⟩), .int .i64 (rn : Int), .int .i32 vs[i]] wr.drew fun e w' => e = .returned (.tuple #[]) ∧ w' = wr.drew.setCell ⟨rb, rn, none⟩ (.int .i32 vs[i])) := by
          have := set_c (CI.out.below (below_drew wr)) (rn : Int) vs[i] (by omega) (by rw [hlr]; omega)
          rwa [Int.toNat_natCast] at this
        rw [hrn] at cr
        have S6 : Hid (wr.drew.cell? ⟨X.R, 7, none⟩ = some (.pointer (some ⟨pb, 0, none⟩)) ∧ wr.drew.cell? ⟨ab, ao + i, none⟩ = some (.int .i32 vs[i])) := by
          refine ⟨(GI.out.beW (below_drew wr)).cell 7 (by omega), ?_⟩
          exact hacell wr.drew KI.out.drew
        have S6N : Hid ((wr.drew.setCell ⟨rb, rn, none⟩ (.int .i32 vs[i])).cell? ⟨X.R, 7, none⟩ = some (.pointer (some ⟨pb, 0, none⟩)) ∧ (wr.drew.setCell ⟨rb, rn, none⟩ (.int .i32 vs[i])).cell? ⟨ab, ao + i, none⟩ = some (.int .i32 vs[i])) := ⟨G2.out.cell 7 (by omega), hacell _ K2.out⟩
        clear SN hlr r0 r1 hrn hpcell hacell np ca
        generalize vs[i] = v at *
        go_wp2
        refine wp_region_N (fun w' => w'.cell? ⟨X.R, 7, none⟩ = some (.pointer (some ⟨pb, 0, none⟩)) ∧ w'.cell? ⟨ab, ao + i, none⟩ = some (.int .i32 v)) (fun _ => true) mixedE (S6.out) ?_
        intro S0
        refine tkO (i := 0) (v := ?_) rfl (Or.inl ⟨by rfl, ?_⟩) S0 ?_
        rotate_left
        · intro w' hS'
          obtain ⟨h0, h1⟩ := hS'
          (try go_simp)
          first | done | exact rfl | exact ⟨rfl, rfl⟩
        (try simp only [Act.put, qA, qC, qD, qE, qF])
        refine tkO (i := 1) (v := ?_) rfl (Or.inl ⟨by rfl, ?_⟩) S0 ?_
        rotate_left
        · intro w' hS'
          obtain ⟨h0, h1⟩ := hS'
          (try go_simp)
          first | done | exact rfl | exact ⟨rfl, rfl⟩
        (try simp only [Act.put, qA, qB, qC, qD, qE, qF])
        refine tkO (i := 2) (v := ?_) rfl (Or.inl ⟨by rfl, ?_⟩) S0 ?_
        rotate_left
        · intro w' hS'
          obtain ⟨h0, h1⟩ := hS'
          (try go_simp)
          first | done | exact rfl | exact ⟨rfl, rfl⟩
        (try simp only [Act.put, qA, qB, qC, qD, qE, qF])
        refine tkO (i := 3) (v := ?_) rfl (Or.inl ⟨by rfl, ?_⟩) S0 ?_
        rotate_left
        · intro w' hS'
          obtain ⟨h0, h1⟩ := hS'
          (try go_simp)
          first | done | exact rfl | exact ⟨rfl, rfl⟩
        (try simp only [Act.put, qA, qB, qC, qD, qE, qF])
        refine tkO (i := 4) (v := ?_) rfl (Or.inl ⟨by rfl, ?_⟩) S0 ?_
        rotate_left
        · intro w' hS'
          obtain ⟨h0, h1⟩ := hS'
          (try go_simp)
          first | done | exact rfl | exact ⟨rfl, rfl⟩
        (try simp only [Act.put, qA, qB, qC, qD, qE, qF])
        refine tkO (i := 5) (v := ?_) rfl (Or.inl ⟨by rfl, ?_⟩) S0 ?_
        rotate_left
        · intro w' hS'
          obtain ⟨h0, h1⟩ := hS'
          (try go_simp)
          first | done | exact rfl | exact ⟨rfl, rfl⟩
        (try simp only [Act.put, qA, qB, qC, qD, qE, qF])
        refine tkO (i := 6) (v := ?_) rfl (Or.inl ⟨by rfl, ?_⟩) S0 ?_
        rotate_left
        · intro w' hS'
          obtain ⟨h0, h1⟩ := hS'
          (try go_simp)
          first | done | exact rfl | exact ⟨rfl, rfl⟩
        (try simp only [Act.put, qA, qB, qC, qD, qE, qF])
        refine tkO (i := 7) (v := ?_) rfl (Or.inl ⟨by rfl, ?_⟩) S0 ?_
        rotate_left
        · intro w' hS'
          obtain ⟨h0, h1⟩ := hS'
          (try go_simp)
          first | done | exact rfl | exact ⟨rfl, rfl⟩
        (try simp only [Act.put, qA, qB, qC, qD, qE, qF])
        refine tkO (i := 8) (v := ?_) rfl (Or.inl ⟨by rfl, ?_⟩) S0 ?_
        rotate_left
        · intro w' hS'
          obtain ⟨h0, h1⟩ := hS'
          (try go_simp)
          first | done | exact rfl | exact ⟨rfl, rfl⟩
        (try simp only [Act.put, qA, qB, qC, qD, qE, qF])
        refine wpAnyN_one (i := 9) (by kernel_rfl) rfl (fun K hK => ?_)
        go_simp
        refine Calls.mono SC.out ?_
        rintro e w7 ⟨rfl, hw7⟩
        rw [hw7]
        clear hw7 w7
        go_wp2_with fail
        refine hK _ _ (fun _ => S6N.out) ?_
        clear hK K
        (try simp only [Act.put, qA, qB, qC, qD, qE, qF])
        have S10 := S0
        refine wpAnyN_done (by kernel_rfl) ?_ _
        go_wp2
        go_roundw
        case rel => exact ⟨i + 1, by omega, by go_num, C2.out, G2.out, K2.out⟩
        case measure => simp [intOf]; omega
      · have hiz : ¬ (i : Int) < vs.length := by omega
        obtain rfl : i = vs.length := by omega
        have CI : Hid (CallIn X (setsR ⟨k, List.replicate rg 0, List.replicate fr 0, ba, 0, 0⟩ pa vs) pb rb fb wr) := (by have := CI.out; rwa [List.take_length, ← LN.out, List.take_length] at this : CallIn X (setsR ⟨k, List.replicate rg 0, List.replicate fr 0, ba, 0, 0⟩ pa vs) pb rb fb wr)
        have hR := GI.out.lt
        have HR6 : ∀ b, L.cv.ownBlock = some b → b ≠ X.R := fun b hb e => by
          have := HH.out.ro.c b hb; have := HH.out.ro.r; rw [e] at *; omega
        have ownlt : ∀ b, L.cv.ownBlock = some b → b < w.heap.size := fun b hb => by
          obtain ⟨_, cs, ha⟩ := HH.out.cc.at hb
          exact ha.lt
        have S8F : Hid (∀ w' : World, Below wr.drew.heap.size wr.drew w' → w'.cell? ⟨X.R, 6, none⟩ = some (.slice cA cn cC) ∧ w'.cell? ⟨X.R, 7, none⟩ = some (.pointer (some ⟨pb, 0, none⟩))) := fun w' hb => by
          have g := (GI.out.beW (below_drew wr)).beW hb
          exact ⟨by have := g.cell 6 (by omega); rw [← EV.out]; exact this, g.cell 7 (by omega)⟩
        have S8 : Hid (wr.drew.cell? ⟨X.R, 6, none⟩ = some (.slice cA cn cC) ∧ wr.drew.cell? ⟨X.R, 7, none⟩ = some (.pointer (some ⟨pb, 0, none⟩))) := S8F.out _ (Below.refl _ _)
        have GN : ∀ w' : World, (∀ q, q < (wr.drew.alloc (.cells #[.pointer (some ⟨pb, 0, none⟩)] 52)).heap.size → (Value.slice cA cn cC).ownBlock ≠ some q → w'.heap[q]? = (wr.drew.alloc (.cells #[.pointer (some ⟨pb, 0, none⟩)] 52)).heap[q]?) → GZ 56 w' X.R 2826 (rnG X z st L.cv L.pv L.iv (.pointer (some ⟨pb, 0, none⟩))) := fun w' hb => by
          have g := (GI.out.beW (below_drew wr)).beW (below_alloc wr.drew (.cells #[.pointer (some ⟨pb, 0, none⟩)] 52))
          exact g.same (hb X.R g.lt fun e => HR6 _ (by rw [EV.out]; exact e) rfl)
        have S8G : Hid (∀ w' : World, (∀ q, q < (wr.drew.alloc (.cells #[.pointer (some ⟨pb, 0, none⟩)] 52)).heap.size → (Value.slice cA cn cC).ownBlock ≠ some q → w'.heap[q]? = (wr.drew.alloc (.cells #[.pointer (some ⟨pb, 0, none⟩)] 52)).heap[q]?) → w'.cell? ⟨X.R, 6, none⟩ = some (.slice cA cn cC) ∧ w'.cell? ⟨X.R, 7, none⟩ = some (.pointer (some ⟨pb, 0, none⟩))) := fun w' hb => by
          have g := GN w' hb
          exact ⟨by have := g.cell 6 (by omega); rw [← EV.out]; exact this, g.cell 7 (by omega)⟩
        have S8H : Hid (∀ w' : World, (∀ q, q < (wr.drew.alloc (.cells #[.pointer (some ⟨pb, 0, none⟩)] 52)).heap.size → (Value.slice cA cn cC).ownBlock ≠ some q → w'.heap[q]? = (wr.drew.alloc (.cells #[.pointer (some ⟨pb, 0, none⟩)] 52)).heap[q]?) → w'.frozen? ⟨X.R, 6, none⟩ = false) := fun w' hb => (GN w' hb).frozen 6
        have OW : Hid (∀ o, OwnB 52 1 ptC X.wz.heap.size ((List.range z.cs.length).map L.pb) (.slice cA cn cC) (wr.drew.alloc o)) := fun o => by
          rw [← EV.out]
          refine ((HH.out.cc.but (KI.out.drew) fun b hb e => ?_).below (below_alloc _ _))
          rcases e with e | e
          · exact HR6 b hb e
          · have := ownlt b hb; omega
        have HL : Hid (z.cs.length ≤ 1000) := (by have := HCN.out; omega : z.cs.length ≤ 1000)
        have EN : Hid (∀ w5 A5 n5 C5, OwnB 52 1 ptC X.wz.heap.size ((List.range z.cs.length).map L.pb ++ [pb]) (.slice A5 n5 C5) w5 → Below X.wz.heap.size (wr.drew.alloc (.cells #[.pointer (some ⟨pb, 0, none⟩)] 52)) w5 → (∀ q, q < (wr.drew.alloc (.cells #[.pointer (some ⟨pb, 0, none⟩)] 52)).heap.size → (Value.slice cA cn cC).ownBlock ≠ some q → w5.heap[q]? = (wr.drew.alloc (.cells #[.pointer (some ⟨pb, 0, none⟩)] 52)).heap[q]?) → (∀ b, (Value.slice A5 n5 C5).ownBlock = some b → (Value.slice cA cn cC).ownBlock = some b ∨ (wr.drew.alloc (.cells #[.pointer (some ⟨pb, 0, none⟩)] 52)).heap.size ≤ b) → _) := fun w5 A5 n5 C5 h1 h2 h3 h4 => ent_six HH.out (CI.out.below (below_drew wr)) (GI.out.beW (below_drew wr)) KI.out.drew NP.out h1 h2 (by rw [EV.out]; exact h3) (by rw [EV.out]; exact h4)
        clear HR6 ownlt GN hR
        go_wp2
        refine wp_region_N (fun w' => w'.cell? ⟨X.R, 6, none⟩ = some (.slice cA cn cC) ∧ w'.cell? ⟨X.R, 7, none⟩ = some (.pointer (some ⟨pb, 0, none⟩))) (fun i => i != 13) mixedE (S8.out) ?_
        intro S0
        generalize wr.drew = wd at *
        refine tkO (i := 0) (v := ?_) rfl (Or.inl ⟨by rfl, ?_⟩) S0 ?_
        rotate_left
        · intro w' hS'
          obtain ⟨h0, h1⟩ := hS'
          (try go_simp)
          first | done | exact rfl | exact ⟨rfl, rfl⟩
        (try simp only [Act.put, qA, qC, qD, qE, qF])
        refine tkO (i := 1) (v := ?_) rfl (Or.inl ⟨by rfl, ?_⟩) S0 ?_
        rotate_left
        · intro w' hS'
          obtain ⟨h0, h1⟩ := hS'
          (try go_simp)
          first | done | exact rfl | exact ⟨rfl, rfl⟩
        (try simp only [Act.put, qA, qB, qC, qD, qE, qF])
        refine tkO (i := 2) (v := ?_) rfl (Or.inl ⟨by rfl, ?_⟩) S0 ?_
        rotate_left
        · intro w' hS'
          obtain ⟨h0, h1⟩ := hS'
          (try go_simp)
          first | done | exact rfl | exact ⟨rfl, rfl⟩
        (try simp only [Act.put, qA, qB, qC, qD, qE, qF])
        refine tkO (i := 3) (v := ?_) rfl (Or.inl ⟨by rfl, ?_⟩) S0 ?_
        rotate_left
        · intro w' hS'
          obtain ⟨h0, h1⟩ := hS'
          (try go_simp)
          first | done | exact rfl | exact ⟨rfl, rfl⟩
        (try simp only [Act.put, qA, qB, qC, qD, qE, qF])
        refine tkO (i := 4) (v := ?_) rfl (Or.inl ⟨by rfl, ?_⟩) S0 ?_
        rotate_left
        · intro w' hS'
          obtain ⟨h0, h1⟩ := hS'
          (try go_simp)
          first | done | exact rfl | exact ⟨rfl, rfl⟩
        (try simp only [Act.put, qA, qB, qC, qD, qE, qF])
        refine tkO (i := 5) (v := ?_) rfl (Or.inl ⟨by rfl, ?_⟩) S0 ?_
        rotate_left
        · intro w' hS'
          obtain ⟨h0, h1⟩ := hS'
          (try go_simp)
          first | done | exact rfl | exact ⟨rfl, rfl⟩
        (try simp only [Act.put, qA, qB, qC, qD, qE, qF])
        refine tkO (i := 6) (v := ?_) rfl (Or.inl ⟨by rfl, ?_⟩) S0 ?_
        rotate_left
        · intro w' hS'
          obtain ⟨h0, h1⟩ := hS'
          (try go_simp)
          first | done | exact rfl | exact ⟨rfl, rfl⟩
        (try simp only [Act.put, qA, qB, qC, qD, qE, qF])
        refine tkO (i := 7) (v := ?_) rfl (Or.inl ⟨by rfl, ?_⟩) S0 ?_
        rotate_left
        · intro w' hS'
          obtain ⟨h0, h1⟩ := hS'
          (try go_simp)
          first | done | exact rfl | exact ⟨rfl, rfl⟩
        (try simp only [Act.put, qA, qB, qC, qD, qE, qF])
        refine tkO (i := 8) (v := ?_) rfl (Or.inl ⟨by rfl, ?_⟩) S0 ?_
        rotate_left
        · intro w' hS'
          obtain ⟨h0, h1⟩ := hS'
          (try go_simp)
          first | done | exact rfl | exact ⟨rfl, rfl⟩
        (try simp only [Act.put, qA, qB, qC, qD, qE, qF])
        refine wpAnyN_one (i := 9) (by kernel_rfl) rfl (fun K hK => ?_)
        go_simp
        have S10 := S8F.out _ (below_alloc _ (.cells #[.pointer (some ⟨pb, 0, none⟩)] 52))
        refine hK _ _ (fun _ => S10) ?_
        clear hK K
        (try simp only [Act.put, qA, qB, qC, qD, qE, qF])
        refine wpAnyN_one (i := 10) (by kernel_rfl) rfl (fun K hK => ?_)
        rw [if_pos (by rfl)]
        refine OwnB.appendN 51 52 ptC _ 1 8 infoPc Tryd.underlying51 rfl (by decide) (by decide) ptC_len ptC_one _ _ _ rfl (.slice cA cn cC) (by rfl) X.wz.heap.size ((List.range z.cs.length).map L.pb) [pb] (OW.out _) ⟨wd.heap.size, 0, none⟩ 1 (by rfl) (fun j u hj => cells_new _ (ptC pb) 52 j u (by simpa using hj)) (by have := HL.out; simp; omega) ?_
        intro v5 w5 ho hb5 hk5 hv5
        obtain ⟨A5, n5, C5, rfl⟩ : ∃ A n C, v5 = .slice A n C := (by obtain ⟨A, C, e, -⟩ := OwnB.shape ptC_len ho; exact ⟨A, _, C, e⟩)
        have AP : Hid (_ ∧ _ ∧ _ ∧ _) := ⟨ho, hb5, hk5, hv5⟩
        have S11 := S8G.out w5 hk5
        have c6w := S11.1
        have f6w := S8H.out w5 hk5
        clear ho hb5 hk5 hv5
        refine hK _ _ (fun _ => S11) ?_
        clear hK K
        (try simp only [Act.put, qA, qB, qC, qD, qE, qF])
        refine wpAnyN_one (i := 11) (by kernel_rfl) rfl (fun K hK => ?_)
        go_simp
        refine hK _ _ (fun _ => S11) ?_
        clear hK K
        (try simp only [Act.put, qA, qB, qC, qD, qE, qF])
        have S12 := S11
        refine wpAnyN_one (i := 12) (by kernel_rfl) rfl (fun K hK => ?_)
        go_simp
        refine hK _ _ (fun _ => S11) ?_
        clear hK K
        (try simp only [Act.put, qA, qB, qC, qD, qE, qF])
        have S13 := S11
        refine wpAnyN_one (i := 13) (by kernel_rfl) rfl (fun K hK => ?_)
        go_simp
        refine hK _ _ (fun h => by cases h) ?_
        clear hK K c6w f6w
        (try simp only [Act.put, qA, qB, qC, qD, qE, qF])
        have S14 := S11
        refine wpAnyN_done (by kernel_rfl) ?_ _
        obtain ⟨e1, e2, e3, e4⟩ := AP.out
        have E6 := EN.out _ _ _ _ e1 e2 e3 e4
        have E7 : Hid (_ ∧ _ ∧ _ ∧ _ ∧ _) := E6
        have k6 := E6.2.1
        have c5 := (FC6.out _ k6)
        have c8 : (w5.setCell ⟨X.R, 6, none⟩ (.slice A5 n5 C5)).cell? ⟨X.R, 8, none⟩ = some (.int .i64 z.ld) := E6.1.cell 8 (by omega)
        have f8 := E6.1.frozen 8
        clear e1 e2 e3 e4 E6 k6 S0 S10 S11 S12 S13
        go_wp2
        go_end0
        obtain ⟨g1, g2, g3, g4, g5⟩ := E7.out
        have k8 := Kp.set (F := fun b => b = X.R) (w5.setCell ⟨X.R, 6, none⟩ (.slice A5 n5 C5)) 8 (.int .i64 (z.ld + 1)) rfl
        have np := NP.out
        have hR := HH.out.rr.lt
        refine ⟨rfl, _, pb, if_pos rfl, HH.out.push (g2.trans (k8.mono fun b hb => Or.inl (by rw [hb]; exact HH.out.ro.r))) np (g3.kp k8 (by omega) (by omega) (by omega)) (OwnB.but g4 k8 fun b hb e => ?_) g5 ?_⟩
        · subst e
          rcases g5 _ hb with e | e
          · have := HH.out.ro.c _ e; have := HH.out.ro.r; omega
          · omega
        · refine (GZ.set g1 8 (by omega) _).ext fun i hi => ?_
          unfold pu
          by_cases e : i = 8
          · subst e; rfl
          · rw [if_neg e]
            rcases i with _ | _ | _ | _ | _ | _ | _ | _ | _ | _ | i <;> first | rfl | omega
end
end Go.Proofs.YtapgaclonilnbaaDoor

/-
  Proved: one call less on the list; the machine's cells one by one; where blocks and instructions lie.
-/
namespace Go.Proofs.YtapgaclonilnbaaDoor
open Go.RowKit
set_option linter.unusedVariables false
set_option linter.unusedSimpArgs false

theorem OwnB.trunc {e : TypeId} {base n m C : Nat} {l : List Nat} {p : Nat} {A : Option Addr} {w : World} (h : OwnB e 1 ptC base (l ++ [p]) (.slice A n C) w) (hm : m = l.length) : OwnB e 1 ptC base l (.slice A m C) w := by
  obtain ⟨h1, h2, h3⟩ := h
  subst hm
  refine ⟨h1, by rw [flat_len ptC_len], ?_⟩
  rcases h3 with ⟨e1, e2⟩ | ⟨g, cap, cur, e1, e2, e3, e4, e5, e6, e7⟩
  · simp at e2
  · injection e1 with a1 a2 a3
    subst a1 a2 a3
    refine Or.inr ⟨g, C, cur, rfl, e2, e3, by simp at e4; omega, e5, e6, ?_⟩
    have := congrArg (List.take (l.length * 1)) e7
    rw [List.take_take] at this
    simp only [List.length_append, List.length_singleton, List.flatMap_append, Nat.mul_one] at this
    rw [Nat.min_eq_left (by omega)] at this
    rw [Nat.mul_one, this]
    rw [List.take_append_of_le_length (by rw [flat_len ptC_len]; omega), List.take_of_length_le (by rw [flat_len ptC_len]; omega)]

section
variable {X : Cx} {z : Mh} {m : Mc} {nv : Value} {st : Int} {L : Ly} {w w' : World}

theorem MX.cell (h : MX X z nv st L w) (j : Nat) (v : Value) (z' : Mh) (nv' : Value) (st' : Int) (hz : z'.cs = z.cs ∧ z'.us = z.us ∧ z'.ip = z.ip ∧ z'.out = z.out) (hj : j < 2826)
    (e : ∀ i, i < 2826 → (if i = j then v else rnG X z st L.cv L.pv L.iv nv i) = rnG X z' st' L.cv L.pv L.iv nv' i) : MX X z' nv' st' L (w.setCell ⟨X.R, j, none⟩ v) := by
  have q := h.stay (P := fun x => x = 0) (Kp.set w j v h.ro.r)
  obtain ⟨z1, z2, z3, z4⟩ := hz
  refine ⟨h.tb, q.bz (by show ¬ _ = _; omega), h.hl, q.mp (by show ¬ _ = _; omega), (h.rr.set j hj _).ext fun i hi => ?_, by rw [z2]; exact q.hh (fun c hc => by show ¬ _ = _; omega), by rw [z1]; exact q.cc (by show ¬ _ = _; omega), by rw [z4]; exact q.pp (by show ¬ _ = _; omega), by rw [z3]; exact h.ii, fun i hi => ?_, by rw [z1]; exact h.ro, h.zz⟩
  · have := e i hi
    unfold pu
    exact this
  · have hi2 : i < z.cs.length := by rw [← z1]; exact hi
    have e2 : z'.cs[i] = z.cs[i] := by simp only [z1]
    rw [e2]
    exact q.kk i hi2 (by show ¬ _ = _; omega) (by show ¬ _ = _; omega) (by show ¬ _ = _; omega)

theorem MX.loud (h : MX X z nv st L w) (n : Int) : MX X { z with ld := n } nv st L (w.setCell ⟨X.R, 8, none⟩ (.int .i64 n)) := by
  refine h.cell 8 _ _ _ _ ⟨rfl, rfl, rfl, rfl⟩ (by omega) fun i hi => ?_
  by_cases e : i = 8
  · subst e; rfl
  · rw [if_neg e]
    rcases i with _ | _ | _ | _ | _ | _ | _ | _ | _ | _ | i <;> first | rfl | omega
theorem MX.now (h : MX X z nv st L w) (v : Value) : MX X z v st L (w.setCell ⟨X.R, 7, none⟩ v) := by
  refine h.cell 7 _ _ _ _ ⟨rfl, rfl, rfl, rfl⟩ (by omega) fun i hi => ?_
  by_cases e : i = 7
  · subst e; rfl
  · rw [if_neg e]
    rcases i with _ | _ | _ | _ | _ | _ | _ | _ | _ | _ | i <;> first | rfl | omega

/-- The list of calls. -/
theorem MX.calls (h : MX X z nv st L w) (h0 : 0 < z.cs.length) : ∃ B C, L.cv = .slice (some ⟨B, 0, none⟩) z.cs.length C ∧ z.cs.length ≤ C ∧ B ≠ X.R ∧ ∀ i, i < z.cs.length → w.cell? ⟨B, i, none⟩ = some (.pointer (some ⟨L.pb i, 0, none⟩)) := by
  obtain ⟨A, C, e, h1⟩ := OwnB.shape ptC_len h.cc
  obtain ⟨B, rfl, _, _, hc, hr⟩ := h1 (by simpa using h0)
  simp only [List.length_map, List.length_range] at e hc
  refine ⟨B, C, e, hc, fun e2 => ?_, fun i hi => ?_⟩
  · have := h.ro.c B (by rw [e]; rfl)
    have := h.ro.r
    rw [e2] at *
    omega
  · have := hr.cell (j := 0) (u := .pointer (some ⟨L.pb i, 0, none⟩)) i (by simpa using hi) (by simp [ptC])
    simpa using this

/-- The last call leaves the list. -/
theorem MX.pop {cs : List Cl} {c : Cl} (h : MX X z nv st L w) (hz : z.cs = cs ++ [c]) {A : Option Addr} {C : Nat} (hc : L.cv = .slice A (cs.length + 1) C) : MX X { z with cs := cs } nv st { L with cv := .slice A cs.length C } (w.setCell ⟨X.R, 6, none⟩ (.slice A cs.length C)) := by
  have el : z.cs.length = cs.length + 1 := by rw [hz]; simp
  have q := h.stay (P := fun x => x = 0) (Kp.set w 6 (.slice A cs.length C) h.ro.r)
  have hcc := q.cc (by show ¬ _ = _; omega)
  rw [el, List.range_succ, List.map_append, hc] at hcc
  refine ⟨h.tb, q.bz (by show ¬ _ = _; omega), h.hl, q.mp (by show ¬ _ = _; omega), (h.rr.set 6 (by omega) _).ext fun i hi => ?_, q.hh (fun c hc => by show ¬ _ = _; omega), hcc.trunc (by simp), q.pp (by show ¬ _ = _; omega), h.ii, fun i hi => ?_, ?_, h.zz⟩
  · unfold pu
    by_cases e : i = 6
    · subst e; rfl
    · rw [if_neg e]
      rcases i with _ | _ | _ | _ | _ | _ | _ | _ | _ | _ | i <;> first | rfl | omega
  · have hi : i < cs.length := hi
    have hi2 : i < z.cs.length := by omega
    have e2 : z.cs[i]'hi2 = cs[i] := by
      simp only [hz]
      exact List.getElem_append_left hi
    have := q.kk i hi2 (by show ¬ _ = _; omega) (by show ¬ _ = _; omega) (by show ¬ _ = _; omega)
    rwa [e2] at this
  · have hr := h.ro
    refine ⟨hr.r, hr.h, hr.g, fun b hb => hr.c b ?_, hr.p, hr.m, fun i hi => hr.s i ?_⟩
    · rw [hc]
      cases A with
      | none => cases hb
      | some a => exact hb
    · have : i < cs.length := hi
      omega
end

/-- Where a block of a function lies. -/
theorem blk_at {X : Cx} (hl : LfsIn X.wz X.l (.slice X.lA X.l.length X.lC)) (k : Nat) (hk : k < X.l.length) (b : Nat) (hb : b < X.l[k].bs.length) :
    ∃ fb fo pv BC bb bo lA lC tv, fpV X k = .pointer (some ⟨fb, fo, none⟩) ∧ RowAt X.wz fb fo (lfC X.l[k] pv (.slice (some ⟨bb, bo, none⟩) X.l[k].bs.length BC)) ∧ RowAt X.wz bb (bo + b * 8) (.slice lA X.l[k].bs[b].li.length lC :: leC X.l[k].bs[b].tm tv) ∧ SlIn X.wz 8 LoIn X.l[k].bs[b].li (.slice lA X.l[k].bs[b].li.length lC) ∧ NosIn X.wz X.l[k].bs[b].tm.args tv := by
  obtain ⟨_, A, C, e, hr⟩ := hl
  cases e
  obtain ⟨fb, o, cs, e1, e2, pv, bv, rfl, _, e3, e4⟩ := hr k hk
  obtain ⟨_, BA, BC, rfl, hbs⟩ := e4
  obtain ⟨bb, bo, cs2, rfl, e6, lv, av, rfl, e7, e8⟩ := hbs b hb
  have e7' := e7
  obtain ⟨_, lA, lC, rfl, _⟩ := e7
  exact ⟨fb, o + k * 7, pv, BC, bb, bo, lA, lC, av, by rw [fpV, e1]; rfl, e2, e6, e7', e8⟩

/-- .. and an instruction. -/
theorem ins_at {w : World} {l : List Lo} {A : Option Addr} {C : Nat} (h : SlIn w 8 LoIn l (.slice A l.length C)) (j : Nat) (hj : j < l.length) : ∃ ib io av dv, A = some ⟨ib, io, none⟩ ∧ RowAt w ib (io + j * 8) (loC l[j] av dv) ∧ l[j].tx.size ≤ maxLen ∧ NosIn w l[j].args av ∧ NosIn w l[j].dsts dv := by
  obtain ⟨_, A', C', e, hr⟩ := h
  cases e
  obtain ⟨b, o, cs, rfl, e2, av, dv, rfl, h1, h2, h3⟩ := hr j hj
  exact ⟨b, o, av, dv, rfl, e2, h1, h2, h3⟩
end Go.Proofs.YtapgaclonilnbaaDoor
