/-
  Proved: (types.scale).enum measures variants: all their parts, the words of the one that has most, and one.
-/
import Derived.Test.YtjdkoahbahecoaaGreatDoorArray
namespace Go.Proofs.YtjdkoahbahecoaaGreatDoor
open Go.RowKit

/-- What lies in the call's own blocks, within a round. -/
def OwnE (w : World) (A : Option Addr) (l C : Nat) (p q m : Int) (Bv : Nat) (nm : ByteArray) (V : Option Addr) (vl vc : Nat) (a : Int) (w' : World) : Prop :=
  Below w.heap.size w w' ∧ At w' w.heap.size #[.slice A l C] 125 ∧ At w' (w.heap.size + 1) #[.int .i64 0, .int .i64 0, .int .i64 0] 113 ∧ At w' (w.heap.size + 2) #[.int .i64 p, .int .i64 q, .int .i64 m] 113 ∧ At w' Bv #[.string nm, .slice V vl vc, .int .i64 a] 45 ∧ w.heap.size + 2 < Bv

theorem OwnE.next {w : World} {A : Option Addr} {l C : Nat} {p q m : Int} {Bv : Nat} {nm : ByteArray} {V : Option Addr} {vl vc : Nat} {a : Int} {w' w'' : World} (h : OwnE w A l C p q m Bv nm V vl vc a w') (hb : Below w'.heap.size w' w'') : OwnE w A l C p q m Bv nm V vl vc a w'' :=
  ⟨h.1.trans (hb.mono h.1.size), h.2.1.below hb h.2.1.lt, h.2.2.1.below hb h.2.2.1.lt, h.2.2.2.1.below hb h.2.2.2.1.lt, h.2.2.2.2.1.below hb h.2.2.2.2.1.lt, h.2.2.2.2.2⟩

theorem OwnE.far {w : World} {A : Option Addr} {l C : Nat} {p q m : Int} {Bv : Nat} {nm : ByteArray} {V : Option Addr} {vl vc : Nat} {a : Int} {w' : World} (h : OwnE w A l C p q m Bv nm V vl vc a w') {B : Nat} (hB : Bv < B) (x y z : Value) : OwnE w A l C p q m Bv nm V vl vc a (((w'.setCell ⟨B, 0, none⟩ x).setCell ⟨B, 1, none⟩ y).setCell ⟨B, 2, none⟩ z) := by
  obtain ⟨h1, h2, h3, h4, h5, h6⟩ := h
  exact ⟨below_set3 h1 (by omega) _ _ _, h2.far3 (by omega) _ _ _, h3.far3 (by omega) _ _ _, h4.far3 (by omega) _ _ _, h5.far3 (by omega) _ _ _, h6⟩

/-- .. cell by cell. -/
abbrev CelE (w : World) (A : Option Addr) (l C : Nat) (p q m : Int) (Bv : Nat) (nm : ByteArray) (V : Option Addr) (vl vc : Nat) (a : Int) (w' : World) : Prop :=
  w'.cell? ⟨w.heap.size, 0, none⟩ = some (.slice A l C) ∧ w'.cell? ⟨w.heap.size + 2, 0, none⟩ = some (.int .i64 p) ∧ w'.cell? ⟨w.heap.size + 2, 2, none⟩ = some (.int .i64 m) ∧ w'.cell? ⟨Bv, 1, none⟩ = some (.slice V vl vc) ∧ Hid (OwnE w A l C p q m Bv nm V vl vc a w')

theorem OwnE.cel {w : World} {A : Option Addr} {l C : Nat} {p q m : Int} {Bv : Nat} {nm : ByteArray} {V : Option Addr} {vl vc : Nat} {a : Int} {w' : World} (h : OwnE w A l C p q m Bv nm V vl vc a w') : CelE w A l C p q m Bv nm V vl vc a w' :=
  ⟨(h.2.1.cell 0).trans rfl, (h.2.2.2.1.cell 0).trans rfl, (h.2.2.2.1.cell 2).trans rfl, (h.2.2.2.2.1.cell 1).trans rfl, h⟩

theorem CelE.own {w : World} {A : Option Addr} {l C : Nat} {p q m : Int} {Bv : Nat} {nm : ByteArray} {V : Option Addr} {vl vc : Nat} {a : Int} {w' w'' : World} (hb : Below w'.heap.size w' w'') (h : CelE w A l C p q m Bv nm V vl vc a w') : OwnE w A l C p q m Bv nm V vl vc a w'' :=
  h.2.2.2.2.out.next hb

theorem CelE.below {w : World} {A : Option Addr} {l C : Nat} {p q m : Int} {Bv : Nat} {nm : ByteArray} {V : Option Addr} {vl vc : Nat} {a : Int} {w' : World} (h : CelE w A l C p q m Bv nm V vl vc a w') : Below w.heap.size w w' := h.2.2.2.2.out.1

theorem OwnE.lt {w : World} {A : Option Addr} {l C : Nat} {p q m : Int} {Bv : Nat} {nm : ByteArray} {V : Option Addr} {vl vc : Nat} {a : Int} {w' : World} (h : OwnE w A l C p q m Bv nm V vl vc a w') : Bv < w'.heap.size := h.2.2.2.2.1.lt

theorem At.drew {W : World} {B : Nat} {cs : Array Value} {t : TypeId} (h : At W B cs t) : At W.drew B cs t := h

theorem At.newd (W : World) (cs : Array Value) (t : TypeId) : At (W.drew.alloc (.cells cs t)) W.heap.size cs t := At.new W.drew cs t

theorem cell_new {W : World} {a : Addr} {v : Value} (o : Obj) (h : W.cell? a = some v) : (W.alloc o).cell? a = some v := ((below_alloc W o).cell (World.block_lt_of_cell? _ _ h)).trans h

theorem celB {w' : World} {B : Nat} {a b c : Value} {t : TypeId} (h : At w' B #[a, b, c] t) : w'.cell? ⟨B, 0, none⟩ = some a ∧ w'.cell? ⟨B, 1, none⟩ = some b ∧ w'.cell? ⟨B, 2, none⟩ = some c :=
  ⟨(h.cell 0).trans rfl, (h.cell 1).trans rfl, (h.cell 2).trans rfl⟩

theorem values_b (A : Option Addr) (len cap : Nat) (w : World) :
    Calls Tryz.prog 100 #[.slice A len cap] w fun e w' => ∃ Bs, e = .returned (.func (.func 101) #[] #[.pointer (some ⟨Bs, 0, none⟩)]) ∧ w'.cell? ⟨Bs, 0, none⟩ = some (.slice A len cap) ∧ Below w.heap.size w w' :=
  (values_c A len cap w).mono fun e w' ⟨he, hw⟩ => ⟨_, he, by rw [hw]; exact ((At.new w #[.slice A len cap] 23).cell 0).trans rfl, by rw [hw]; exact below_alloc _ _⟩

theorem vars_drop (f : T → Nat → Option Am) (room : Nat) (a : Am) (vs : List (ByteArray × List T)) (k : Nat) (h : k < vs.length) : vars f room a ((vs.map (·.2)).drop k) = match tog f room ⟨a.p, 0, a.m⟩ (vs[k]'h).2 with
    | none => none
    | some o => vars f room ⟨o.p, max a.w o.w, o.m⟩ ((vs.map (·.2)).drop (k + 1)) := by
  rw [List.drop_eq_getElem_cons (by simpa using h), vars]
  simp only [List.getElem_map]
  cases tog f room ⟨a.p, 0, a.m⟩ vs[k].2 <;> rfl

theorem vars_end (f : T → Nat → Option Am) (room : Nat) (a : Am) (vs : List (ByteArray × List T)) (k : Nat) (h : ¬ k < vs.length) : vars f room a ((vs.map (·.2)).drop k) = some a := by
  rw [List.drop_eq_nil_of_le (by simp; omega), vars]

/-- What an enum has. -/
def enu (is : List It) (N room : Nat) (vs : List (ByteArray × List T)) : Option Am := (vars (am is N) room ⟨1, 0, 0⟩ (vs.map (·.2))).map fun a => ⟨a.p, 1 + a.w, a.m⟩

set_option maxRecDepth 100000 in
set_option maxHeartbeats 4000000 in
theorem enum_c (is : List It) (N : Nat) (ih : OfC is N) (room : Nat) (hr1 : 1 ≤ room) (hr : room ≤ N + 1) (hr2 : room ≤ 512) (vs : List (ByteArray × List T)) (V : Option Addr) (VC : Nat) (A : Option Addr) (C : Nat)
    (w : World) (ht : Tab w) (hi : IsIn w is A) (hv : VsIn w vs V) :
    Calls Tryz.prog 96 #[.agg #[.slice A is.length C], .slice V vs.length VC, .int .i64 (room : Int)] w
      fun e' w' => e' = .returned (amV (enu is N room vs)) ∧ Below w.heap.size w w' := by
  have HT : Hid (Tab w) := ht
  have HI : Hid (IsIn w is A) := hi
  have HV : Hid (VsIn w vs V) := hv
  have hl := hv.1
  generalize hR : enu is N room vs = R
  have HR : Hid ((vars (am is N) room ⟨1, 0, 0⟩ ((vs.map (·.2)).drop 0)).map (fun a : Am => (⟨a.p, 1 + a.w, a.m⟩ : Am)) = R) := hR
  clear ht hi hv hR
  go_enter Tryz.func96, Tryz.ntmps96
  go_wp2
  obtain ⟨w3, hw3⟩ : ∃ w3, ((w.alloc (.cells #[.slice A is.length C] 125)).alloc (.cells #[.int .i64 0, .int .i64 0, .int .i64 0] 113)).alloc (.cells #[.int .i64 1, .int .i64 0, .int .i64 0] 113) = w3 := ⟨_, rfl⟩
  rw [hw3]
  have O0 : Below w.heap.size w w3 ∧ At w3 w.heap.size #[.slice A is.length C] 125 ∧ At w3 (w.heap.size + 1) #[.int .i64 0, .int .i64 0, .int .i64 0] 113 ∧ At w3 (w.heap.size + 2) #[.int .i64 1, .int .i64 0, .int .i64 0] 113 := by
    subst hw3
    refine ⟨three_alloc _ _ _ _, ((At.new _ _ _).alloc _).alloc _, ?_, ?_⟩
    · have := (At.new (w.alloc (.cells #[.slice A is.length C] 125)) #[.int .i64 0, .int .i64 0, .int .i64 0] 113).alloc (.cells #[.int .i64 1, .int .i64 0, .int .i64 0] 113)
      simpa using this
    · have := At.new ((w.alloc (.cells #[.slice A is.length C] 125)).alloc (.cells #[.int .i64 0, .int .i64 0, .int .i64 0] 113)) #[.int .i64 1, .int .i64 0, .int .i64 0] 113
      simpa using this
  have HO : Hid (Below w.heap.size w w3 ∧ At w3 w.heap.size #[.slice A is.length C] 125 ∧ At w3 (w.heap.size + 1) #[.int .i64 0, .int .i64 0, .int .i64 0] 113 ∧ At w3 (w.heap.size + 2) #[.int .i64 1, .int .i64 0, .int .i64 0] 113) := O0
  clear hw3 O0
  go_loopw [8, 15] (fun u i wr => ∃ (k p q m mo : Nat), k ≤ vs.length ∧ i = .int .i64 (k : Int) ∧ u = .int .i64 (mo : Int) ∧ (1 ≤ p ∧ p ≤ room ∧ m ≤ p ∧ mo ≤ p) ∧ Hid ((vars (am is N) room ⟨p, mo, m⟩ ((vs.map (·.2)).drop k)).map (fun a : Am => (⟨a.p, 1 + a.w, a.m⟩ : Am)) = R) ∧
      Hid (Below w.heap.size w wr ∧ At wr w.heap.size #[.slice A is.length C] 125 ∧ At wr (w.heap.size + 1) #[.int .i64 0, .int .i64 0, .int .i64 0] 113 ∧ At wr (w.heap.size + 2) #[.int .i64 (p : Int), .int .i64 (q : Int), .int .i64 (m : Int)] 113)) (fun _ i _ => vs.length - (intOf i).toNat)
  case atStart => exact ⟨0, 1, 0, 0, 0, Nat.zero_le _, rfl, rfl, by omega, HR, HO⟩
  case round =>
    obtain ⟨k, p, q, m, mo, hk, rfl, rfl, hb, HK, HW⟩ := hrel
    by_cases hlt : k < vs.length
    · obtain ⟨b, o, VB, vcap, at', rfl, hrow0, htys⟩ := HV.out.2 k hlt
      have hrow := hrow0.below HW.out.1
      have hdr := vars_drop (am is N) room ⟨p, mo, m⟩ vs k hlt
      generalize vs[k] = v at hrow htys hdr
      obtain ⟨vn, vts⟩ := v
      simp only at hrow htys hdr
      have c0 := hrow.2 0 _ rfl
      have c1 := hrow.2 1 _ rfl
      have c2 := hrow.2 2 _ rfl
      simp only [Nat.add_zero] at c0
      have hlt' : (k : Int) < (vs.length : Int) := by omega
      obtain ⟨hb1, hb2, hb3, hb4⟩ := hb
      have TOG : Hid (∀ w' Bs, Below w.heap.size w w' → w'.cell? ⟨Bs, 0, none⟩ = some (.slice VB vts.length vcap) → Calls Tryz.prog 94 #[.agg #[.int .i64 (p : Int), .int .i64 0, .int .i64 (m : Int)], .func (.func 101) #[] #[.pointer (some ⟨Bs, 0, none⟩)], .int .i64 (room : Int), .func (.func 82) #[.agg #[.slice A is.length C]] #[]] w'
          fun e w'' => e = .returned (amV (tog (am is N) room ⟨p, 0, m⟩ vts)) ∧ Below w'.heap.size w' w'') := fun w' Bs hw hB =>
        together_values is N ih room hr hr2 ⟨p, 0, m⟩ hb1 hb2 (by simp only; omega) (by simp only; omega) vts A C w' (HT.out.below hw) (HI.out.below hw) Bs VB vcap (htys.below hw) hB
      have hok := fun o => tog_ok (am_ok is N) (room := room) (ts := vts) (a := ⟨p, 0, m⟩) (b := o)
      have HD : Hid (vars (am is N) room ⟨p, mo, m⟩ ((vs.map (·.2)).drop k) = match tog (am is N) room ⟨p, 0, m⟩ vts with
        | none => none
        | some o => vars (am is N) room ⟨o.p, max mo o.w, o.m⟩ ((vs.map (·.2)).drop (k + 1))) := hdr
      generalize tog (am is N) room ⟨p, 0, m⟩ vts = X at TOG HD hok
      generalize vts.length = vl at TOG c1
      clear hrow hrow0 hdr htys
      go_wp2
      obtain ⟨w4, hw4⟩ : ∃ w4, wr.alloc (.cells #[.string vn, .slice VB vl vcap, .int .i64 at'] 45) = w4 := ⟨_, rfl⟩
      rw [hw4]
      have O4 : Hid (OwnE w A is.length C (p : Int) (q : Int) (m : Int) wr.heap.size vn VB vl vcap at' w4) := by
        subst hw4
        exact ⟨HW.out.1.trans ((below_alloc _ _).mono HW.out.1.size), HW.out.2.1.alloc _, HW.out.2.2.1.alloc _, HW.out.2.2.2.alloc _, At.new _ _ _, HW.out.2.2.2.lt⟩
      have sz4 : wr.heap.size < w4.heap.size := by subst hw4; simp
      clear hw4 c0 c1 c2
      go_cut [11, 15] from 15 to 40 (fun v i wc => i = .int .i64 (k : Int) ∧ ∃ B p' n' m', v = .pointer (some ⟨B, 0, none⟩) ∧ wr.heap.size < B ∧ amV X = .agg #[.int .i64 p', .int .i64 n', .int .i64 m'] ∧ At wc B #[.int .i64 p', .int .i64 n', .int .i64 m'] 113 ∧ OwnE w A is.length C (p : Int) (q : Int) (m : Int) wr.heap.size vn VB vl vcap at' wc)
      case first =>
        obtain ⟨rp, rn, rm, hX⟩ : ∃ p n m : Int, amV X = .agg #[.int .i64 p, .int .i64 n, .int .i64 m] := by cases X <;> exact ⟨_, _, _, rfl⟩
        rw [hX] at TOG
        go_region_held3 (fun w' => w'.cell? ⟨w.heap.size, 0, none⟩ = some (.slice A is.length C) ∧ w'.cell? ⟨w.heap.size + 2, 0, none⟩ = some (.int .i64 (p : Int)) ∧ w'.cell? ⟨w.heap.size + 2, 2, none⟩ = some (.int .i64 (m : Int)) ∧ w'.cell? ⟨wr.heap.size, 1, none⟩ = some (.slice VB vl vcap) ∧ Hid (OwnE w A is.length C (p : Int) (q : Int) (m : Int) wr.heap.size vn VB vl vcap at' w'))
          (first
            | with_reducible exact (O4.out.next ((Below.refl _ _).drew)).cel
            | with_reducible exact OO.out.cel
            | with_reducible exact (OO.out.next (below_alloc _ _)).cel
            | with_reducible exact (OO.out.far sz4 _ _ _).cel
            | with_reducible exact (OO.out.far O1.out.lt _ _ _).cel
            | with_reducible exact ((O4.out.next (below_alloc _ _)).next ((Below.refl _ _).drew)).cel
            | exact (CelE.own (below_alloc _ _) (by assumption)).cel)
          (first
            | (go_at_call 100; refine (values_b _ _ _ _).mono ?_; rintro e' w1 ⟨Bs, rfl, hBs, hb1⟩; have CB : Hid (w1.cell? ⟨Bs, 0, none⟩ = some (.slice VB vl vcap)) := hBs; have O1 : Hid (OwnE w A is.length C (p : Int) (q : Int) (m : Int) wr.heap.size vn VB vl vcap at' w1) := CelE.own hb1 (by assumption); have OO := O1; try (have ZZ : Hid (At w1 w4.heap.size #[.int .i64 0, .int .i64 0, .int .i64 0] 113) := (by refine At.below ?_ hb1 ?_; exact At.new w4 #[.int .i64 0, .int .i64 0, .int .i64 0] 113; exact (At.new w4 #[.int .i64 0, .int .i64 0, .int .i64 0] 113).lt)); clear hBs hb1)
            | (go_at_call 94; refine (TOG.out _ _ (CelE.below (by assumption)) (by first | with_reducible exact CB.out | with_reducible exact cell_new _ CB.out)).mono ?_; rintro e' w2 ⟨rfl, hb1⟩; have OO : Hid (OwnE w A is.length C (p : Int) (q : Int) (m : Int) wr.heap.size vn VB vl vcap at' w2) := CelE.own hb1 (by assumption)
               try (have YY : At w2 w4.heap.size #[.int .i64 0, .int .i64 0, .int .i64 0] 113 := ZZ.out.below hb1 ZZ.out.lt; obtain ⟨⟨z0, z1, z2⟩, ⟨y0, y1, y2⟩, zz⟩ := cells3 YY; have YH : Hid (At w2 w4.heap.size #[.int .i64 0, .int .i64 0, .int .i64 0] 113) := YY; clear YY)
               try (have YY : At w2 w1.heap.size #[.int .i64 0, .int .i64 0, .int .i64 0] 113 := (by with_reducible exact (At.new w1 #[.int .i64 0, .int .i64 0, .int .i64 0] 113).below hb1 (At.new w1 #[.int .i64 0, .int .i64 0, .int .i64 0] 113).lt); obtain ⟨⟨z0, z1, z2⟩, ⟨y0, y1, y2⟩, zz⟩ := cells3 YY; have YH : Hid (At w2 w1.heap.size #[.int .i64 0, .int .i64 0, .int .i64 0] 113) := YY; clear YY)
               clear hb1))
        all_goals (go_wp2_with fail; go_meet)
        all_goals refine ⟨rfl, _, rp, rn, rm, rfl, ?_, hX, ?_, ?_⟩
        all_goals first
          | with_reducible exact OO.out.lt
          | with_reducible exact sz4
          | with_reducible exact O1.out.lt
          | with_reducible exact At.new _ _ _
          | with_reducible exact YH.out.set3 _ _ _
          | with_reducible exact OO.out.next (below_alloc _ _)
          | with_reducible exact OO.out.far sz4 _ _ _
          | with_reducible exact OO.out.far O1.out.lt _ _ _
      case rest =>
        obtain ⟨rfl, B, rp, rn, rm, rfl, hB, hX, hA, hO⟩ := hcut
        have T1 := HT.out.below hO.1
        have t0 := T1.c0
        have t1 := T1.c1
        have t2 := T1.c2
        have tz := T1.z
        obtain ⟨⟨b0, b1, b2⟩, _, bz⟩ := cells3 hA
        obtain ⟨⟨r0, r1, r2⟩, ⟨f0, f1, f2⟩, rz⟩ := cells3 hO.2.2.1
        obtain ⟨⟨s0, s1, s2⟩, ⟨g0, g1, g2⟩, szz⟩ := cells3 hO.2.2.2.1
        have HO2 : Hid (OwnE w A is.length C (p : Int) (q : Int) (m : Int) wr.heap.size vn VB vl vcap at' wc) := hO
        have HA : Hid (At wc B #[.int .i64 rp, .int .i64 rn, .int .i64 rm] 113) := hA
        clear T1 hA hO
        cases X with
        | none =>
          simp only [amV, Value.agg.injEq, Array.mk.injEq, List.cons.injEq, Value.int.injEq, true_and, and_true] at hX
          obtain ⟨rfl, rfl, rfl⟩ := hX
          have HK2 : Hid (R = none) := by
            have h1 := HK.out
            rw [HD.out] at h1
            exact h1.symm
          have en' := eq_none
          go_wp2
          have hA := HO2.out.2.2.1.set3 (.int .i64 513) (.int .i64 0) (.int .i64 0)
          obtain ⟨⟨k0, k1, k2⟩, _, _⟩ := cells3 hA
          refine bodyPost_ret (v := .agg #[.int .i64 513, .int .i64 0, .int .i64 0]) (by simp [results, Tryz.results96, go_sem, k0, k1, k2]) rfl ⟨by rw [HK2.out]; rfl, ?_⟩
          exact below_set3 HO2.out.1 (by omega) _ _ _
        | some x =>
          obtain ⟨xp, xw, xm⟩ := x
          simp only [amV, Value.agg.injEq, Array.mk.injEq, List.cons.injEq, Value.int.injEq, true_and, and_true] at hX
          obtain ⟨rfl, rfl, rfl⟩ := hX
          have hxx := hok _ rfl hb2
          simp only at hxx
          have en' := eq_some xp xw xm (by omega)
          have HK2 : Hid (Option.map (fun a : Am => (⟨a.p, 1 + a.w, a.m⟩ : Am)) (vars (am is N) room ⟨xp, max mo xw, xm⟩ ((vs.map (·.2)).drop (k + 1))) = R) := by
            have h1 := HK.out
            rw [HD.out] at h1
            exact h1
          clear hok
          have hne : B ≠ w.heap.size + 2 := by have := HO2.out.2.2.2.2.2; omega
          have HNE : Hid (B ≠ w.heap.size + 2) := hne
          have hmx : ((max mo xw : Nat) : Int) = (if mo < xw then (xw : Int) else (mo : Int)) := by
            by_cases h : mo < xw
            · rw [if_pos h]; omega
            · rw [if_neg h]; omega
          have HMX : Hid (((max mo xw : Nat) : Int) = (if mo < xw then (xw : Int) else (mo : Int))) := hmx
          clear hne hmx
          go_wp2
          go_region_held3 (fun w' => w'.cell? ⟨B, 0, none⟩ = some (.int .i64 (xp : Int)) ∧ w'.cell? ⟨B, 1, none⟩ = some (.int .i64 (xw : Int)) ∧ w'.cell? ⟨B, 2, none⟩ = some (.int .i64 (xm : Int)))
            (first
              | exact celB HA.out
              | exact celB (HA.out.far3 HNE.out _ _ _))
            (fail)
          all_goals go_wp2
          all_goals go_roundw
          all_goals first
            | (case rel =>
                refine ⟨k + 1, xp, xw, xm, max mo xw, by omega, by go_num, by rw [HMX.out], by omega, HK2, ?_⟩
                have hle : w.heap.size ≤ w.heap.size + 2 := by omega
                have h0 : w.heap.size ≠ w.heap.size + 2 := by omega
                have h1 : w.heap.size + 1 ≠ w.heap.size + 2 := by omega
                exact ⟨(below_set3 HO2.out.1 hle _ _ _).drew, (HO2.out.2.1.far3 h0 _ _ _).drew, (HO2.out.2.2.1.far3 h1 _ _ _).drew, (HO2.out.2.2.2.1.set3 _ _ _).drew⟩)
            | (case measure => simp [intOf]; omega)
    · have HK2 := HK.out
      rw [vars_end _ _ _ _ _ hlt] at HK2
      obtain ⟨⟨s0, s1, s2⟩, _, szz⟩ := cells3 HW.out.2.2.2
      obtain ⟨⟨r0, r1, r2⟩, ⟨f0, f1, f2⟩, rz⟩ := cells3 HW.out.2.2.1
      have HF : Hid (R = some ⟨p, 1 + mo, m⟩) := HK2.symm
      clear HK2
      have e1 : ((1 + mo : Nat) : Int) = 1 + (mo : Int) := by omega
      have HE : Hid (((1 + mo : Nat) : Int) = 1 + (mo : Int)) := e1
      obtain ⟨hb1, hb2, hb3, hb4⟩ := hb
      clear e1
      go_wp2
      have hA := HW.out.2.2.1.set3 (.int .i64 (p : Int)) (.int .i64 (1 + (mo : Int))) (.int .i64 (m : Int))
      obtain ⟨⟨k0, k1, k2⟩, _, _⟩ := cells3 hA
      refine bodyPost_ret (v := .agg #[.int .i64 (p : Int), .int .i64 (1 + (mo : Int)), .int .i64 (m : Int)]) (by simp [results, Tryz.results96, go_sem, k0, k1, k2]) rfl ⟨by rw [HF.out]; simp only [amV]; rw [HE.out], ?_⟩
      exact below_set3 HW.out.1 (by omega) _ _ _
end Go.Proofs.YtjdkoahbahecoaaGreatDoor
