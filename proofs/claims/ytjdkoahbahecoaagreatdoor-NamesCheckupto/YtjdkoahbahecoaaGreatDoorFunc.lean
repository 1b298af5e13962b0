/-
  Proved: what function and structure tell of an item; what passed, itself and their asking functions tell.
-/
import Derived.Test.YtjdkoahbahecoaaGreatDoorParams
namespace Go.Proofs.YtjdkoahbahecoaaGreatDoor
open Go.RowKit

attribute [local go_sem ↓] fold38 foldS

/-- What an item's cells hold, where they lie. -/
structure JCel (w0 : World) (j : Jt) (w : World) (B : Nat) (P : Option Addr) (PC : Nat) (V : Option Addr) (VC : Nat) (tk : Int) (ts : ByteArray) (tn : Int) (TA : Option Addr) (tl TC : Nat) : Prop where
  c0 : w.cell? ⟨B, 0, none⟩ = some (.int .i64 j.k)
  c1 : w.cell? ⟨B, 1, none⟩ = some (.string j.s)
  c2 : w.cell? ⟨B, 2, none⟩ = some (.int .i64 j.a)
  c3 : w.cell? ⟨B, 3, none⟩ = some (.slice P j.ps.length PC)
  c4 : w.cell? ⟨B, 4, none⟩ = some (.slice V j.vs.length VC)
  c5 : w.cell? ⟨B, 5, none⟩ = some (.int .i64 tk)
  c6 : w.cell? ⟨B, 6, none⟩ = some (.string ts)
  c7 : w.cell? ⟨B, 7, none⟩ = some (.int .i64 tn)
  c8 : w.cell? ⟨B, 8, none⟩ = some (.slice TA tl TC)
  c9 : w.cell? ⟨B, 9, none⟩ = some (.int .i64 j.n)

/-- .. in every later world. -/
theorem JIn.cel {w0 : World} {j : Jt} {cs : List Value} (h : JIn w0 j cs) : ∃ P PC V VC tk ts tn TA tl TC, TIn w0 j.t [.int .i64 tk, .string ts, .int .i64 tn, .slice TA tl TC] ∧ PjIn w0 j.ps P ∧ VjIn w0 j.vs V ∧ j.t.k = tk ∧
    ∀ w B, At w B cs.toArray 43 → JCel w0 j w B P PC V VC tk ts tn TA tl TC := by
  obtain ⟨P, C, V, D, r, rfl, h2, h3, h4, h5, h6⟩ := h
  refine ⟨P, C, V, D, r.p, r.q, r.r, r.Z, r.zl, r.zc, h4, h5, h6, ?_, fun w B ha => ?_⟩
  · generalize j.t = t at h4
    obtain ⟨k, s, n, es⟩ := t
    obtain ⟨_, _, e, _⟩ := h4.inv
    simp at e
    exact e.1.symm
  · exact ⟨(ha.cell 0).trans rfl, (ha.cell 1).trans rfl, by rw [ha.cell 2, ← h2]; rfl, (ha.cell 3).trans rfl, (ha.cell 4).trans rfl, (ha.cell 5).trans rfl, (ha.cell 6).trans rfl, (ha.cell 7).trans rfl, (ha.cell 8).trans rfl, by rw [ha.cell 9, ← h3]; rfl⟩

/-- What function's and structure's asking functions stand on. -/
structure EnvF (w0 : World) (A : Option Addr) (l C : Nat) (cs : List Value) (B0 Bi : Nat) (wr : World) : Prop where
  a0 : At wr B0 #[.slice A l C] 51
  ai : At wr Bi cs.toArray 43
  bl : Below w0.heap.size w0 wr

theorem EnvF.below {w0 : World} {A : Option Addr} {l C : Nat} {cs : List Value} {B0 Bi : Nat} {wr w' : World} (h : EnvF w0 A l C cs B0 Bi wr) (k : Below wr.heap.size wr w') : EnvF w0 A l C cs B0 Bi w' :=
  ⟨h.a0.below k h.a0.lt, h.ai.below k h.ai.lt, h.bl.trans (k.mono h.bl.size)⟩

/-- Params, or fields, are asked for. -/
theorem function1_c (w0 : World) (A : Option Addr) (is : List It) (C : Nat) (j : Jt) (cs : List Value) (B0 Bi : Nat) (w : World) (hT : Tab w0) (hi : IsIn w0 is A) (hj : JIn w0 j cs) (hE : EnvF w0 A is.length C cs B0 Bi w) :
    Calls Tryz.prog 61 #[.pointer (some ⟨B0, 0, none⟩), .pointer (some ⟨Bi, 0, none⟩)] w fun e w' => e = .returned (errV (pck is true j.ps)) ∧ Below w.heap.size w w' := by
  obtain ⟨P, PC, V, VC, tk, ts, tn, TA, tl, TC, e1, e2, e3, _, e4⟩ := hj.cel
  have c3 := (e4 w Bi hE.ai).c3
  have c0 : w.cell? ⟨B0, 0, none⟩ = some (.slice A is.length C) := (hE.a0.cell 0).trans rfl
  have PA : Hid (Calls Tryz.prog 62 #[.slice A is.length C, .slice P j.ps.length PC, .bool true] w fun e w' => e = .returned (errV (pck is true j.ps)) ∧ Below w.heap.size w w') := params_c A is C j.ps P PC true w (hT.below hE.bl) (hi.below hE.bl) (e2.below hE.bl)
  generalize errV (pck is true j.ps) = X at PA
  generalize j.ps.length = pl at PA c3
  clear hT hi hj hE e1 e2 e3 e4
  go_enter Tryz.func61, Tryz.ntmps61
  go_wp2_with (go_at_call 62; refine PA.out.mono ?_; rintro e w1 ⟨rfl, hk1⟩; have HK1 : Hid (Below w.heap.size w w1) := hk1; clear hk1)
  go_ret
  exact ⟨rfl, HK1.out⟩

theorem structure1_c (w0 : World) (A : Option Addr) (is : List It) (C : Nat) (j : Jt) (cs : List Value) (B0 Bi : Nat) (w : World) (hT : Tab w0) (hi : IsIn w0 is A) (hj : JIn w0 j cs) (hE : EnvF w0 A is.length C cs B0 Bi w) :
    Calls Tryz.prog 67 #[.pointer (some ⟨B0, 0, none⟩), .pointer (some ⟨Bi, 0, none⟩)] w fun e w' => e = .returned (errV (pck is false j.ps)) ∧ Below w.heap.size w w' := by
  obtain ⟨P, PC, V, VC, tk, ts, tn, TA, tl, TC, e1, e2, e3, _, e4⟩ := hj.cel
  have c3 := (e4 w Bi hE.ai).c3
  have c0 : w.cell? ⟨B0, 0, none⟩ = some (.slice A is.length C) := (hE.a0.cell 0).trans rfl
  have PA : Hid (Calls Tryz.prog 62 #[.slice A is.length C, .slice P j.ps.length PC, .bool false] w fun e w' => e = .returned (errV (pck is false j.ps)) ∧ Below w.heap.size w w') := params_c A is C j.ps P PC false w (hT.below hE.bl) (hi.below hE.bl) (e2.below hE.bl)
  generalize errV (pck is false j.ps) = X at PA
  generalize j.ps.length = pl at PA c3
  clear hT hi hj hE e1 e2 e3 e4
  go_enter Tryz.func67, Tryz.ntmps67
  go_wp2_with (go_at_call 62; refine PA.out.mono ?_; rintro e w1 ⟨rfl, hk1⟩; have HK1 : Hid (Below w.heap.size w w1) := hk1; clear hk1)
  go_ret
  exact ⟨rfl, HK1.out⟩

set_option maxRecDepth 100000 in
set_option maxHeartbeats 1000000 in
/-- The item's own type is asked for. -/
theorem function2_c (w0 : World) (A : Option Addr) (is : List It) (C : Nat) (j : Jt) (cs : List Value) (B0 Bi : Nat) (w : World) (hT : Tab w0) (hi : IsIn w0 is A) (hj : JIn w0 j cs) (hE : EnvF w0 A is.length C cs B0 Bi w) :
    Calls Tryz.prog 63 #[.pointer (some ⟨Bi, 0, none⟩), .pointer (some ⟨B0, 0, none⟩)] w fun e w' => e = .returned (errV (nz j.a (tyE is j.t false))) ∧ Below w.heap.size w w' := by
  obtain ⟨P, PC, V, VC, tk, ts, tn, TA, tl, TC, e1, e2, e3, _, e4⟩ := hj.cel
  have TC' : Hid (∀ w', Below w.heap.size w w' → Calls Tryz.prog 7 #[.slice A is.length C, .agg #[.int .i64 tk, .string ts, .int .i64 tn, .slice TA tl TC], .bool false] w' fun e w'' => e = .returned (.int .i64 (tyE is j.t false)) ∧ Below w'.heap.size w' w'') := fun w' hw => by
    have hb := hE.bl.trans (hw.mono hE.bl.size)
    exact type_c is j.t _ false A C w' (hT.below hb) (hi.below hb) (e1.stays hb)
  have WR : Hid (∀ w', Calls Tryz.prog 64 #[.int .i64 j.a, .int .i64 (tyE is j.t false)] w' fun r w'' => r = .returned (errV (nz j.a (tyE is j.t false))) ∧ w'' = w') := wrongAt_c j.a _
  generalize errV (nz j.a (tyE is j.t false)) = V at WR
  generalize tyE is j.t false = E at TC' WR
  have CL : Hid (∀ w', Below w.heap.size w w' → w'.cell? ⟨Bi, 2, none⟩ = some (.int .i64 j.a) ∧ w'.cell? ⟨Bi, 5, none⟩ = some (.int .i64 tk) ∧ w'.cell? ⟨Bi, 6, none⟩ = some (.string ts) ∧ w'.cell? ⟨Bi, 7, none⟩ = some (.int .i64 tn) ∧ w'.cell? ⟨Bi, 8, none⟩ = some (.slice TA tl TC) ∧ w'.cell? ⟨B0, 0, none⟩ = some (.slice A is.length C) ∧ Hid (Below w.heap.size w w')) := fun w' hw => by
    have c := e4 w' Bi (hE.ai.below hw hE.ai.lt)
    exact ⟨c.c2, c.c5, c.c6, c.c7, c.c8, ((hE.a0.below hw hE.a0.lt).cell 0).trans rfl, hw⟩
  generalize j.a = ja at CL WR
  clear hT hi hj hE e1 e2 e3 e4
  go_enter Tryz.func63, Tryz.ntmps63
  go_wp2
  go_region_held3 (fun w' => w'.cell? ⟨Bi, 2, none⟩ = some (.int .i64 ja) ∧ w'.cell? ⟨Bi, 5, none⟩ = some (.int .i64 tk) ∧ w'.cell? ⟨Bi, 6, none⟩ = some (.string ts) ∧ w'.cell? ⟨Bi, 7, none⟩ = some (.int .i64 tn) ∧ w'.cell? ⟨Bi, 8, none⟩ = some (.slice TA tl TC) ∧ w'.cell? ⟨B0, 0, none⟩ = some (.slice A is.length C) ∧ Hid (Below w.heap.size w w'))
    (first
      | exact CL.out _ ((Below.refl _ _).drew)
      | exact CL.out _ OO.out)
    (first
      | (go_at_call 7; refine (TC'.out _ (Hid.out (And.right (And.right (And.right (And.right (And.right (And.right (by assumption))))))))).mono ?_; rintro e' w1 ⟨rfl, hb1⟩; have OO : Hid (Below w.heap.size w w1) := below_next (Hid.out (And.right (And.right (And.right (And.right (And.right (And.right (by assumption)))))))) hb1; clear hb1)
      | (go_at_call 64; refine (WR.out _).mono ?_; rintro e' w2 ⟨rfl, rfl⟩))
  all_goals (go_wp2_with fail)
  all_goals go_ret
  all_goals exact ⟨rfl, OO.out⟩

/-- The item's own name has no words. -/
def slf (is : List It) (j : Jt) : Option (Int × Int) := if (wrd is (.mk 9 j.s 0 [])).isSome = true then none else some (j.a, 43)

theorem itself_c (w0 : World) (A : Option Addr) (is : List It) (C : Nat) (j : Jt) (cs : List Value) (w : World) (hT : Tab w) (hi : IsIn w is A) (hj : JIn w0 j cs) :
    Calls Tryz.prog 69 #[.slice A is.length C, .agg cs.toArray] w fun e w' => e = .returned (errV (slf is j)) ∧ Below w.heap.size w w' := by
  obtain ⟨P, PC, V, VC, tk, ts, tn, TA, tl, TC, e1, e2, e3, _, e4⟩ := hj.cel
  have cc := e4 (w.alloc (.cells cs.toArray 43)) w.heap.size (At.new _ _ _)
  have c1 := cc.c1
  have hleaf : TIn w (.mk 9 j.s 0 []) [.int .i64 9, .string j.s, .int .i64 0, .slice none 0 0] := TIn.of (es := []) ⟨by simp, fun i hi => absurd hi (Nat.not_lt_zero _)⟩
  have SZ : Hid (∀ w', Below w.heap.size w w' → Calls Tryz.prog 18 #[.slice A is.length C, .agg #[.int .i64 9, .string j.s, .int .i64 0, .slice none 0 0]] w' fun e w'' => e = .returned (.bool (wrd is (.mk 9 j.s 0 [])).isSome) ∧ Below w'.heap.size w' w'') := fun w' hw => sized_c is (.mk 9 j.s 0 []) _ A C w' (hT.below hw) (hi.below hw) (hleaf.stays hw)
  have HA : Hid (∀ w', Below (w.alloc (.cells cs.toArray 43)).heap.size (w.alloc (.cells cs.toArray 43)) w' → w'.cell? ⟨w.heap.size, 2, none⟩ = some (.int .i64 j.a)) := fun w' hw => (e4 w' w.heap.size ((At.new w cs.toArray 43).below hw (At.new w cs.toArray 43).lt)).c2
  unfold slf
  generalize (wrd is (.mk 9 j.s 0 [])).isSome = R at SZ
  generalize j.s = js at SZ c1
  generalize j.a = ja at HA
  generalize cs.toArray = ca at c1 HA
  have HW1 : Hid (∀ a, Below w.heap.size w (w.alloc a)) := below_alloc w
  clear hT hi hj e1 e2 e3 e4 cc hleaf
  cases R with
  | true =>
    rw [if_pos rfl]
    go_enter Tryz.func69, Tryz.ntmps69
    go_wp2_with (go_at_call 18; refine (SZ.out _ (HW1.out _)).mono ?_; rintro e w1 ⟨rfl, hb1⟩; have c2 := HA.out _ hb1; have HK1 : Hid (Below w.heap.size w w1) := below_next (HW1.out _) hb1; clear hb1)
    go_ret
    exact ⟨rfl, HK1.out⟩
  | false =>
    rw [if_neg (by simp)]
    go_enter Tryz.func69, Tryz.ntmps69
    go_wp2_with (go_at_call 18; refine (SZ.out _ (HW1.out _)).mono ?_; rintro e w1 ⟨rfl, hb1⟩; have c2 := HA.out _ hb1; have HK1 : Hid (Below w.heap.size w w1) := below_next (HW1.out _) hb1; clear hb1)
    go_ret
    exact ⟨rfl, HK1.out⟩

end Go.Proofs.YtjdkoahbahecoaaGreatDoor
