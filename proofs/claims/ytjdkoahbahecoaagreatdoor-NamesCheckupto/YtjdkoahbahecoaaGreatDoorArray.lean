/-
  Proved: (types.scale).array measures n times an element.
-/
import Derived.Test.YtjdkoahbahecoaaGreatDoorTogether
import Derived.Deep.RegionHeld3
import Derived.Deep.CutRange
namespace Go.Proofs.YtjdkoahbahecoaaGreatDoor
open Go.RowKit

theorem two_alloc (w : World) (a b : Obj) : Below w.heap.size w ((w.alloc a).alloc b) := below_next (below_alloc _ _) (below_alloc _ _)

/-- What an array has. -/
def arr (is : List It) (N : Nat) (n : Int) (e : T) (room : Nat) : Option Am :=
  if n < 1 then some ⟨1, 0, 0⟩ else (am is N e ((room - 1) / n.toNat)).map fun o => ⟨1 + o.p * n.toNat, o.w * n.toNat, o.m * n.toNat⟩

/-- What lies in the call's own blocks. -/
def Own4 (w : World) (A : Option Addr) (l C : Nat) (ek : Int) (es : ByteArray) (en : Int) (EA : Option Addr) (el EC : Nat) (w' : World) : Prop :=
  Below w.heap.size w w' ∧ At w' w.heap.size #[.slice A l C] 125 ∧ At w' (w.heap.size + 1) #[.int .i64 ek, .string es, .int .i64 en, .slice EA el EC] 25 ∧ At w' (w.heap.size + 2) #[.int .i64 0, .int .i64 0, .int .i64 0] 113 ∧ At w' (w.heap.size + 3) #[.int .i64 1, .int .i64 0, .int .i64 0] 113

theorem Own4.next {w : World} {A : Option Addr} {l C : Nat} {ek : Int} {es : ByteArray} {en : Int} {EA : Option Addr} {el EC : Nat} {w' w'' : World} (h : Own4 w A l C ek es en EA el EC w') (hb : Below w'.heap.size w' w'') : Own4 w A l C ek es en EA el EC w'' :=
  ⟨h.1.trans (hb.mono h.1.size), h.2.1.below hb h.2.1.lt, h.2.2.1.below hb h.2.2.1.lt, h.2.2.2.1.below hb h.2.2.2.1.lt, h.2.2.2.2.below hb h.2.2.2.2.lt⟩

theorem Own4.far {w : World} {A : Option Addr} {l C : Nat} {ek : Int} {es : ByteArray} {en : Int} {EA : Option Addr} {el EC : Nat} {w' : World} (h : Own4 w A l C ek es en EA el EC w') {B : Nat} (hB : w.heap.size + 3 < B) (x y z : Value) : Own4 w A l C ek es en EA el EC (((w'.setCell ⟨B, 0, none⟩ x).setCell ⟨B, 1, none⟩ y).setCell ⟨B, 2, none⟩ z) :=
  ⟨below_set3 h.1 (by omega) _ _ _, h.2.1.far3 (by omega) _ _ _, h.2.2.1.far3 (by omega) _ _ _, h.2.2.2.1.far3 (by omega) _ _ _, h.2.2.2.2.far3 (by omega) _ _ _⟩

/-- .. cell by cell. -/
def Cel4 (w : World) (A : Option Addr) (l C : Nat) (ek : Int) (es : ByteArray) (en : Int) (EA : Option Addr) (el EC : Nat) (w' : World) : Prop :=
  w'.cell? ⟨w.heap.size, 0, none⟩ = some (.slice A l C) ∧ w'.cell? ⟨w.heap.size + 1, 0, none⟩ = some (.int .i64 ek) ∧ w'.cell? ⟨w.heap.size + 1, 1, none⟩ = some (.string es) ∧ w'.cell? ⟨w.heap.size + 1, 2, none⟩ = some (.int .i64 en) ∧ w'.cell? ⟨w.heap.size + 1, 3, none⟩ = some (.slice EA el EC) ∧ w'.cell? ⟨w.heap.size + 3, 0, none⟩ = some (.int .i64 1) ∧ Hid (Own4 w A l C ek es en EA el EC w')

theorem Own4.cel {w : World} {A : Option Addr} {l C : Nat} {ek : Int} {es : ByteArray} {en : Int} {EA : Option Addr} {el EC : Nat} {w' : World} (h : Own4 w A l C ek es en EA el EC w') : Cel4 w A l C ek es en EA el EC w' :=
  ⟨(h.2.1.cell 0).trans rfl, (h.2.2.1.cell 0).trans rfl, (h.2.2.1.cell 1).trans rfl, (h.2.2.1.cell 2).trans rfl, (h.2.2.1.cell 3).trans rfl, (h.2.2.2.2.cell 0).trans rfl, h⟩

theorem Cel4.own {w : World} {A : Option Addr} {l C : Nat} {ek : Int} {es : ByteArray} {en : Int} {EA : Option Addr} {el EC : Nat} {w' w'' : World} (hb : Below w'.heap.size w' w'') (h : Cel4 w A l C ek es en EA el EC w') : Own4 w A l C ek es en EA el EC w'' :=
  h.2.2.2.2.2.2.out.next hb

theorem Cel4.below {w : World} {A : Option Addr} {l C : Nat} {ek : Int} {es : ByteArray} {en : Int} {EA : Option Addr} {el EC : Nat} {w' : World} (h : Cel4 w A l C ek es en EA el EC w') : Below w.heap.size w w' := h.2.2.2.2.2.2.out.1

/-- What lies there at the end. -/
def Own7 (w : World) (B : Nat) (p n m : Int) (w' : World) : Prop :=
  Below w.heap.size w w' ∧ (∃ x y z, At w' (w.heap.size + 2) #[x, y, z] 113) ∧ At w' (w.heap.size + 3) #[.int .i64 1, .int .i64 0, .int .i64 0] 113 ∧ At w' B #[.int .i64 p, .int .i64 n, .int .i64 m] 113 ∧ w.heap.size + 3 < B

/-- .. cell by cell. -/
def Cel7 (w : World) (B : Nat) (p n m : Int) (w' : World) : Prop :=
  w'.cell? ⟨w.heap.size + 3, 0, none⟩ = some (.int .i64 1) ∧ w'.cell? ⟨w.heap.size + 3, 1, none⟩ = some (.int .i64 0) ∧ w'.cell? ⟨w.heap.size + 3, 2, none⟩ = some (.int .i64 0) ∧ w'.cell? ⟨B, 0, none⟩ = some (.int .i64 p) ∧ w'.cell? ⟨B, 1, none⟩ = some (.int .i64 n) ∧ w'.cell? ⟨B, 2, none⟩ = some (.int .i64 m) ∧ Hid (Own7 w B p n m w')

theorem Own7.next {w : World} {B : Nat} {p n m : Int} {w' w'' : World} (h : Own7 w B p n m w') (hb : Below w'.heap.size w' w'') : Own7 w B p n m w'' := by
  obtain ⟨h1, ⟨x, y, z, h2⟩, h3, h4, h5⟩ := h
  exact ⟨h1.trans (hb.mono h1.size), ⟨x, y, z, h2.below hb h2.lt⟩, h3.below hb h3.lt, h4.below hb h4.lt, h5⟩
theorem Own7.put {w : World} {B : Nat} {p n m : Int} {w' : World} (h : Own7 w B p n m w') (x y z : Value) : Own7 w B p n m (((w'.setCell ⟨w.heap.size + 2, 0, none⟩ x).setCell ⟨w.heap.size + 2, 1, none⟩ y).setCell ⟨w.heap.size + 2, 2, none⟩ z) := by
  obtain ⟨h1, ⟨_, _, _, h2⟩, h3, h4, h5⟩ := h
  exact ⟨below_set3 h1 (by omega) _ _ _, ⟨_, _, _, h2.set3 _ _ _⟩, h3.far3 (by omega) _ _ _, h4.far3 (by omega) _ _ _, h5⟩
theorem Own7.cel {w : World} {B : Nat} {p n m : Int} {w' : World} (h : Own7 w B p n m w') : Cel7 w B p n m w' :=
  ⟨(h.2.2.1.cell 0).trans rfl, (h.2.2.1.cell 1).trans rfl, (h.2.2.1.cell 2).trans rfl, (h.2.2.2.1.cell 0).trans rfl, (h.2.2.2.1.cell 1).trans rfl, (h.2.2.2.1.cell 2).trans rfl, h⟩
theorem Cel7.own {w : World} {B : Nat} {p n m : Int} {w' w'' : World} (hb : Below w'.heap.size w' w'') (h : Cel7 w B p n m w') : Own7 w B p n m w'' := h.2.2.2.2.2.2.out.next hb

set_option maxRecDepth 100000 in
set_option maxHeartbeats 4000000 in
theorem array_c (is : List It) (N : Nat) (ih : OfC is N) (room : Nat) (hr1 : 1 ≤ room) (hr : room ≤ N + 1) (hr2 : room ≤ 512) (n : Int) (e : T) (cs : List Value) (A : Option Addr) (C : Nat)
    (w : World) (ht : Tab w) (hi : IsIn w is A) (he : TIn w e cs) :
    Calls Tryz.prog 92 #[.agg #[.slice A is.length C], .int .i64 n, .agg cs.toArray, .int .i64 (room : Int)] w
      fun e' w' => e' = .returned (amV (arr is N n e room)) ∧ Below w.heap.size w w' := by
  have HT : Hid (Tab w) := ht
  have HI : Hid (IsIn w is A) := hi
  have HE : Hid (TIn w e cs) := he
  obtain ⟨ek, es, en, ees⟩ := e
  obtain ⟨EA, EC, rfl, _⟩ := he.inv
  clear ht hi he
  by_cases hn : n < 1
  · have hv : amV (arr is N n (.mk ek es en ees) room) = .agg #[.int .i64 1, .int .i64 0, .int .i64 0] := by simp [arr, hn, amV]
    rw [hv]
    go_enter Tryz.func92, Tryz.ntmps92
    go_wp2
    refine bodyPost_ret (v := .agg #[.int .i64 1, .int .i64 0, .int .i64 0]) (by simp [results, Tryz.results92, go_sem]) rfl ⟨rfl, ?_⟩
    exact below_next (two_alloc _ _ _) (two_alloc _ _ _)
  · obtain ⟨m, rfl⟩ : ∃ m : Nat, n = (m : Int) := ⟨n.toNat, by omega⟩
    have hm : 1 ≤ m := by omega
    have hm0 : ¬ (m : Int) = 0 := by omega
    have hm1 : ((m : Int) == 0) = false := by simpa using hm0
    have hm2 : ¬ (m : Int) < 1 := by omega
    have hq : ((room : Int) - 1) / (m : Int) = (((room - 1) / m : Nat) : Int) := by
      rw [show (room : Int) - 1 = ((room - 1 : Nat) : Int) by omega]
      simp
    have HQ : Hid (((room : Int) - 1) / (m : Int) = (((room - 1) / m : Nat) : Int)) := hq
    clear hq
    have hm3 : ¬ m = 0 := by omega
    have hwr : IntKind.i64.wrap (((room : Int) - 1).tdiv (m : Int)) = ((room : Int) - 1) / (m : Int) := IntWalk.i64_quo _ _ (by omega)
    have hql : (room - 1) / m ≤ room - 1 := Nat.div_le_self _ _
    have HQ2 : Hid (((room : Int) - 1).tdiv (m : Int) = (((room - 1) / m : Nat) : Int)) := by
      have := HQ.out
      rw [← Int.tdiv_eq_ediv_of_nonneg (by omega)] at this
      exact this
    have HQ3 : Hid (IntKind.i64.wrap (((room : Int) - 1).tdiv (m : Int)) = (((room - 1) / m : Nat) : Int)) := hwr.trans HQ.out
    clear hwr
    have HQ4 : Hid (IntKind.i64.wrap ((IntKind.i64.wrap ((room : Int) - 1)).tdiv (m : Int)) = (((room - 1) / m : Nat) : Int)) := by
      show _ = _
      rw [IntWalk.i64_in ((room : Int) - 1) (by omega)]
      exact HQ3.out
    have KEY : Hid (∀ w' (z : Int), z = (((room - 1) / m : Nat) : Int) → Below w.heap.size w w' → Calls Tryz.prog 82 #[.agg #[.slice A is.length C], .agg #[.int .i64 ek, .string es, .int .i64 en, .slice EA ees.length EC], .int .i64 z] w' fun e w'' => e = .returned (amV (am is N (.mk ek es en ees) ((room - 1) / m))) ∧ Below w'.heap.size w' w'') := fun w' z hz hw' => by
      rw [hz]
      exact ih ((room - 1) / m) (.mk ek es en ees) w' _ A C (by omega) (HT.out.below hw') (HI.out.below hw') (HE.out.stays hw')
    have hv : arr is N (m : Int) (.mk ek es en ees) room = (am is N (.mk ek es en ees) ((room - 1) / m)).map fun o => ⟨1 + o.p * m, o.w * m, o.m * m⟩ := by simp [arr, hm2]
    rw [hv]
    have hfi := am_ok is N (.mk ek es en ees) ((room - 1) / m)
    generalize am is N (.mk ek es en ees) ((room - 1) / m) = R at KEY hfi
    go_enter Tryz.func92, Tryz.ntmps92
    go_wp2
    obtain ⟨w4, hw4⟩ : ∃ w4, (((w.alloc (.cells #[.slice A is.length C] 125)).alloc (.cells #[.int .i64 ek, .string es, .int .i64 en, .slice EA ees.length EC] 25)).alloc (.cells #[.int .i64 0, .int .i64 0, .int .i64 0] 113)).alloc (.cells #[.int .i64 1, .int .i64 0, .int .i64 0] 113) = w4 := ⟨_, rfl⟩
    rw [hw4]
    have O4 : Hid (Own4 w A is.length C ek es en EA ees.length EC w4) := by
      subst hw4
      refine ⟨below_next (two_alloc _ _ _) (two_alloc _ _ _), (((At.new _ _ _).alloc _).alloc _).alloc _, ?_, ?_, ?_⟩
      · have := ((At.new (w.alloc (.cells #[.slice A is.length C] 125)) #[.int .i64 ek, .string es, .int .i64 en, .slice EA ees.length EC] 25).alloc (.cells #[.int .i64 0, .int .i64 0, .int .i64 0] 113)).alloc (.cells #[.int .i64 1, .int .i64 0, .int .i64 0] 113)
        simpa using this
      · have := (At.new ((w.alloc (.cells #[.slice A is.length C] 125)).alloc (.cells #[.int .i64 ek, .string es, .int .i64 en, .slice EA ees.length EC] 25)) #[.int .i64 0, .int .i64 0, .int .i64 0] 113).alloc (.cells #[.int .i64 1, .int .i64 0, .int .i64 0] 113)
        simpa using this
      · have := At.new (((w.alloc (.cells #[.slice A is.length C] 125)).alloc (.cells #[.int .i64 ek, .string es, .int .i64 en, .slice EA ees.length EC] 25)).alloc (.cells #[.int .i64 0, .int .i64 0, .int .i64 0] 113)) #[.int .i64 1, .int .i64 0, .int .i64 0] 113
        simpa using this
    have sz4 : w.heap.size + 3 < w4.heap.size := by subst hw4; simp
    clear hw4
    go_cut [10] from 11 to 32 (fun v wc => ∃ B p n m, v = .pointer (some ⟨B, 0, none⟩) ∧ w.heap.size + 3 < B ∧ amV R = .agg #[.int .i64 p, .int .i64 n, .int .i64 m] ∧ At wc B #[.int .i64 p, .int .i64 n, .int .i64 m] 113 ∧ Own4 w A is.length C ek es en EA ees.length EC wc)
    case first =>
      obtain ⟨rp, rn, rm, hR⟩ : ∃ p n m : Int, amV R = .agg #[.int .i64 p, .int .i64 n, .int .i64 m] := by cases R <;> exact ⟨_, _, _, rfl⟩
      rw [hR] at KEY
      go_region_held3 (fun w' => w'.cell? ⟨w.heap.size, 0, none⟩ = some (.slice A is.length C) ∧ w'.cell? ⟨w.heap.size + 1, 0, none⟩ = some (.int .i64 ek) ∧ w'.cell? ⟨w.heap.size + 1, 1, none⟩ = some (.string es) ∧ w'.cell? ⟨w.heap.size + 1, 2, none⟩ = some (.int .i64 en) ∧ w'.cell? ⟨w.heap.size + 1, 3, none⟩ = some (.slice EA ees.length EC) ∧ w'.cell? ⟨w.heap.size + 3, 0, none⟩ = some (.int .i64 1) ∧ Hid (Own4 w A is.length C ek es en EA ees.length EC w'))
        (first
          | exact (O4.out.next ((Below.refl _ _).drew)).cel
          | exact (OO.out.next (below_alloc _ _)).cel
          | exact OO.out.cel
          | exact (OO.out.far (by omega) _ _ _).cel
          | exact (Cel4.own (below_alloc _ _) (by assumption)).cel)
        (first
          | (go_at_call 82; refine (KEY.out _ _ (by first | exact HQ.out | exact HQ2.out | exact HQ3.out | exact HQ4.out) (Cel4.below (by assumption))).mono ?_; rintro e' w1 ⟨rfl, hb1⟩; have OO : Hid (Own4 w A is.length C ek es en EA ees.length EC w1) := Cel4.own hb1 (by assumption); try (have ZZ : At w1 w4.heap.size #[.int .i64 0, .int .i64 0, .int .i64 0] 113 := (by refine At.below ?_ hb1 ?_; exact At.new w4 #[.int .i64 0, .int .i64 0, .int .i64 0] 113; exact (At.new w4 #[.int .i64 0, .int .i64 0, .int .i64 0] 113).lt); obtain ⟨⟨z0, z1, z2⟩, ⟨y0, y1, y2⟩, zz⟩ := cells3 ZZ; have ZH : Hid (At w1 w4.heap.size #[.int .i64 0, .int .i64 0, .int .i64 0] 113) := ZZ; clear ZZ); clear hb1))
      all_goals (go_wp2_with fail; go_meet)
      all_goals first
        | exact ⟨_, rp, rn, rm, rfl, OO.out.2.2.2.2.lt, hR, At.new _ _ _, OO.out.next (below_alloc _ _)⟩
        | exact ⟨_, rp, rn, rm, rfl, sz4, hR, ZH.out.set3 _ _ _, OO.out.far sz4 _ _ _⟩
    case rest =>
      obtain ⟨B, rp, rn, rm, rfl, hB, hR, hA, hO⟩ := hcut
      have T1 := HT.out.below hO.1
      have t0 := T1.c0
      have t1 := T1.c1
      have t2 := T1.c2
      have tz := T1.z
      obtain ⟨⟨b0, b1, b2⟩, _, bz⟩ := cells3 hA
      obtain ⟨⟨r0, r1, r2⟩, ⟨f0, f1, f2⟩, rz⟩ := cells3 hO.2.2.2.1
      have HO : Hid (Own4 w A is.length C ek es en EA ees.length EC wc) := hO
      have HA : Hid (At wc B #[.int .i64 rp, .int .i64 rn, .int .i64 rm] 113) := hA
      clear T1 hA hO
      cases R with
      | none =>
        simp only [amV, Value.agg.injEq, Array.mk.injEq, List.cons.injEq, Value.int.injEq, true_and, and_true] at hR
        obtain ⟨rfl, rfl, rfl⟩ := hR
        have en' := eq_none
        go_wp2
        have hA := HO.out.2.2.2.1.set3 (.int .i64 513) (.int .i64 0) (.int .i64 0)
        obtain ⟨⟨k0, k1, k2⟩, _, _⟩ := cells3 hA
        refine bodyPost_ret (v := .agg #[.int .i64 513, .int .i64 0, .int .i64 0]) (by simp [results, Tryz.results92, go_sem, k0, k1, k2]) rfl ⟨rfl, ?_⟩
        exact below_set3 HO.out.1 (by omega) _ _ _
      | some o =>
        obtain ⟨op, ow, om⟩ := o
        simp only [amV, Value.agg.injEq, Array.mk.injEq, List.cons.injEq, Value.int.injEq, true_and, and_true] at hR
        obtain ⟨rfl, rfl, rfl⟩ := hR
        obtain ⟨hf1, hf2, hf3, hf4⟩ := hfi _ rfl
        simp only at hf1 hf2 hf3 hf4
        have hpm : op * m ≤ room - 1 := (Nat.le_div_iff_mul_le hm).1 hf2
        have hwm : ow * m ≤ op * m := Nat.mul_le_mul_right _ hf3
        have hmm : om * m ≤ op * m := Nat.mul_le_mul_right _ hf4
        have TI : Hid (∀ w', Calls Tryz.prog 98 #[.agg #[.int .i64 (op : Int), .int .i64 (ow : Int), .int .i64 (om : Int)], .int .i64 (m : Int)] w' fun e w'' => e = .returned (.agg #[.int .i64 ((op * m : Nat) : Int), .int .i64 ((ow * m : Nat) : Int), .int .i64 ((om * m : Nat) : Int)]) ∧ Below w'.heap.size w' w'') :=
          fun w' => times_c ⟨op, ow, om⟩ m w' (by simp only; omega) (by simp only; omega) (by simp only; omega)
        have PL : Hid (∀ w', Calls Tryz.prog 97 #[.agg #[.int .i64 1, .int .i64 0, .int .i64 0], .agg #[.int .i64 ((op * m : Nat) : Int), .int .i64 ((ow * m : Nat) : Int), .int .i64 ((om * m : Nat) : Int)]] w' fun e w'' => e = .returned (.agg #[.int .i64 ((1 + op * m : Nat) : Int), .int .i64 ((0 + ow * m : Nat) : Int), .int .i64 ((0 + om * m : Nat) : Int)]) ∧ Below w'.heap.size w' w'') :=
          fun w' => plus_c ⟨1, 0, 0⟩ ⟨op * m, ow * m, om * m⟩ w' (by simp only; omega) (by simp only; omega) (by simp only; omega)
        have en' := eq_some op ow om (by omega)
        have hfin : amV (Option.map (fun o : Am => (⟨1 + o.p * m, o.w * m, o.m * m⟩ : Am)) (some ⟨op, ow, om⟩)) = .agg #[.int .i64 ((1 + op * m : Nat) : Int), .int .i64 ((0 + ow * m : Nat) : Int), .int .i64 ((0 + om * m : Nat) : Int)] := by simp [amV]
        have HF : Hid (amV (Option.map (fun o : Am => (⟨1 + o.p * m, o.w * m, o.m * m⟩ : Am)) (some ⟨op, ow, om⟩)) = .agg #[.int .i64 ((1 + op * m : Nat) : Int), .int .i64 ((0 + ow * m : Nat) : Int), .int .i64 ((0 + om * m : Nat) : Int)]) := hfin
        generalize ((1 + op * m : Nat) : Int) = X1 at PL HF
        generalize ((0 + ow * m : Nat) : Int) = X2 at PL HF
        generalize ((0 + om * m : Nat) : Int) = X3 at PL HF
        generalize op * m = pm at TI PL
        generalize ow * m = wm at TI PL
        generalize om * m = mm at TI PL
        have H7 : Hid (Own7 w B (op : Int) (ow : Int) (om : Int) wc) := ⟨HO.out.1, ⟨_, _, _, HO.out.2.2.2.1⟩, HO.out.2.2.2.2, HA.out, hB⟩
        clear hwm hmm hfin hpm hfi
        go_wp2
        go_region_held3 (fun w' => w'.cell? ⟨w.heap.size + 3, 0, none⟩ = some (.int .i64 1) ∧ w'.cell? ⟨w.heap.size + 3, 1, none⟩ = some (.int .i64 0) ∧ w'.cell? ⟨w.heap.size + 3, 2, none⟩ = some (.int .i64 0) ∧ w'.cell? ⟨B, 0, none⟩ = some (.int .i64 (op : Int)) ∧ w'.cell? ⟨B, 1, none⟩ = some (.int .i64 (ow : Int)) ∧ w'.cell? ⟨B, 2, none⟩ = some (.int .i64 (om : Int)) ∧ Hid (Own7 w B (op : Int) (ow : Int) (om : Int) w'))
          (first
            | exact (H7.out.next ((Below.refl _ _).drew)).cel
            | exact OO.out.cel
            | exact (OO.out.put _ _ _).cel)
          (first
            | (go_at_call 98; refine (TI.out _).mono ?_; rintro e' w1 ⟨rfl, hb1⟩; have OO : Hid (Own7 w B (op : Int) (ow : Int) (om : Int) w1) := Cel7.own hb1 (by assumption); clear hb1)
            | (go_at_call 97; refine (PL.out _).mono ?_; rintro e' w2 ⟨rfl, hb1⟩; have OO : Hid (Own7 w B (op : Int) (ow : Int) (om : Int) w2) := Cel7.own hb1 (by assumption); obtain ⟨x0, x1, x2, hx⟩ := OO.out.2.1; have HX : Hid (At w2 (w.heap.size + 2) #[x0, x1, x2] 113) := hx; obtain ⟨⟨s0, s1, s2⟩, ⟨y0, y1, y2⟩, sz⟩ := cells3 hx; clear hb1 hx))
        all_goals (go_wp2_with fail)
        all_goals (
          have hA := HX.out.set3 (.int .i64 X1) (.int .i64 X2) (.int .i64 X3)
          obtain ⟨⟨k0, k1, k2⟩, _, _⟩ := cells3 hA
          refine bodyPost_ret (v := .agg #[.int .i64 X1, .int .i64 X2, .int .i64 X3]) (by simp [results, Tryz.results92, go_sem, k0, k1, k2]) rfl ⟨by rw [HF.out], ?_⟩
          exact (OO.out.put _ _ _).1)
end Go.Proofs.YtjdkoahbahecoaaGreatDoor
