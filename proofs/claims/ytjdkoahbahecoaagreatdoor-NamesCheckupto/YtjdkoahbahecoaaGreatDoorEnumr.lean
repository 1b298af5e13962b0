/-
  Proved: what enumeration tells of an item.
-/
import Derived.Test.YtjdkoahbahecoaaGreatDoorFunc2
namespace Go.Proofs.YtjdkoahbahecoaaGreatDoor
open Go.RowKit

attribute [local go_sem ↓] fold38 foldS

/-- The variant's name is asked for. -/
theorem enumeration11_c (w0 : World) (A : Option Addr) (l C M Bc Bo B0 Bv : Nat) (ns : List ByteArray) (s : ByteArray) (tl : Value) (a : Int) (w : World) (hE : Env w0 A l C M Bc Bo B0 w) (hM : SetAt w M ns) (hp : At w Bv #[.string s, tl, .int .i64 a] 45) :
    Calls Tryz.prog 71 #[.pointer (some ⟨Bo, 0, none⟩), .pointer (some ⟨Bv, 0, none⟩)] w fun e w' => e = .returned (errV (if isIn s ns = true then some (a, 40) else none)) ∧ But M w w' ∧ (isIn s ns = false → SetAt w' M (ns ++ [s])) := by
  have OC : Hid (Calls Tryz.prog 49 #[.string s, .int .i64 a, .pointer (some ⟨Bc, 0, none⟩)] w fun e w' => e = .returned (errV (if isIn s ns = true then some (a, 40) else none)) ∧ But M w w' ∧ (isIn s ns = false → SetAt w' M (ns ++ [s]))) := once_c s a Bc M ns w hE.ac hM
  have o0 : w.cell? ⟨Bo, 0, none⟩ = some (.func (.func 49) #[] #[.pointer (some ⟨Bc, 0, none⟩)]) := (hE.ao.cell 0).trans rfl
  obtain ⟨⟨p0, _, p2⟩, _, _⟩ := cells3 hp
  generalize errV (if isIn s ns = true then some (a, 40) else none) = V at OC
  clear hE hM hp
  go_enter Tryz.func71, Tryz.ntmps71
  go_wp2_with (go_at_call 49; refine OC.out.mono ?_; rintro e w1 ⟨rfl, h1⟩; have H1 : Hid (But M w w1 ∧ (isIn s ns = false → SetAt w1 M (ns ++ [s]))) := h1; clear h1)
  go_ret
  exact ⟨rfl, H1.out⟩

set_option maxRecDepth 100000 in
set_option maxHeartbeats 1000000 in
/-- One of its types is asked for. -/
theorem enumeration121_c (w0 : World) (A : Option Addr) (is : List It) (C B0 Bv : Nat) (s : ByteArray) (vl : Value) (t : T) (tk : Int) (ts : ByteArray) (tn : Int) (TA : Option Addr) (tl TC : Nat) (a : Int) (w : World) (hT : Tab w0) (hi : IsIn w0 is A) (hx : TIn w0 t [.int .i64 tk, .string ts, .int .i64 tn, .slice TA tl TC])
    (h0 : At w B0 #[.slice A is.length C] 51) (hv : At w Bv #[.string s, vl, .int .i64 a] 45) (hbl : Below w0.heap.size w0 w) :
    Calls Tryz.prog 74 #[.agg #[.int .i64 tk, .string ts, .int .i64 tn, .slice TA tl TC], .pointer (some ⟨Bv, 0, none⟩), .pointer (some ⟨B0, 0, none⟩)] w fun e w' => e = .returned (errV (nz a (tyE is t false))) ∧ Below w.heap.size w w' := by
  have TC' : Hid (∀ w', Below w.heap.size w w' → Calls Tryz.prog 7 #[.slice A is.length C, .agg #[.int .i64 tk, .string ts, .int .i64 tn, .slice TA tl TC], .bool false] w' fun e w'' => e = .returned (.int .i64 (tyE is t false)) ∧ Below w'.heap.size w' w'') := fun w' hw => by
    have hb := hbl.trans (hw.mono hbl.size)
    exact type_c is t _ false A C w' (hT.below hb) (hi.below hb) (hx.stays hb)
  have WR : Hid (∀ w', Calls Tryz.prog 64 #[.int .i64 a, .int .i64 (tyE is t false)] w' fun r w'' => r = .returned (errV (nz a (tyE is t false))) ∧ w'' = w') := wrongAt_c a _
  generalize errV (nz a (tyE is t false)) = V at WR
  generalize tyE is t false = E at TC' WR
  obtain ⟨w2, hw2⟩ : ∃ w2, w.alloc (.cells #[.int .i64 tk, .string ts, .int .i64 tn, .slice TA tl TC] 25) = w2 := ⟨_, rfl⟩
  have hB2 : Hid (Below w.heap.size w w2) := by rw [← hw2]; exact below_alloc _ _
  have hA2 : At w2 w.heap.size #[.int .i64 tk, .string ts, .int .i64 tn, .slice TA tl TC] 25 := by rw [← hw2]; exact At.new _ _ _
  have CL : Hid (∀ w', Below w2.heap.size w2 w' → w'.cell? ⟨w.heap.size, 0, none⟩ = some (.int .i64 tk) ∧ w'.cell? ⟨w.heap.size, 1, none⟩ = some (.string ts) ∧ w'.cell? ⟨w.heap.size, 2, none⟩ = some (.int .i64 tn) ∧ w'.cell? ⟨w.heap.size, 3, none⟩ = some (.slice TA tl TC) ∧ w'.cell? ⟨Bv, 2, none⟩ = some (.int .i64 a) ∧ w'.cell? ⟨B0, 0, none⟩ = some (.slice A is.length C) ∧ Hid (Below w2.heap.size w2 w')) := fun w' hw => by
    obtain ⟨c0, c1, c2, c3, _⟩ := cells4 (hA2.below hw hA2.lt)
    have hb := below_next hB2.out hw
    obtain ⟨⟨_, _, v2⟩, _, _⟩ := cells3 (hv.below hb hv.lt)
    exact ⟨c0, c1, c2, c3, v2, ((h0.below hb h0.lt).cell 0).trans rfl, hw⟩
  have hvl := hv.lt
  have h0l := h0.lt
  clear hT hi hx h0 hv hbl hA2
  go_enter Tryz.func74, Tryz.ntmps74
  go_wp2
  clear hw2
  go_region_held3 (fun w' => w'.cell? ⟨w.heap.size, 0, none⟩ = some (.int .i64 tk) ∧ w'.cell? ⟨w.heap.size, 1, none⟩ = some (.string ts) ∧ w'.cell? ⟨w.heap.size, 2, none⟩ = some (.int .i64 tn) ∧ w'.cell? ⟨w.heap.size, 3, none⟩ = some (.slice TA tl TC) ∧ w'.cell? ⟨Bv, 2, none⟩ = some (.int .i64 a) ∧ w'.cell? ⟨B0, 0, none⟩ = some (.slice A is.length C) ∧ Hid (Below w2.heap.size w2 w'))
    (first
      | exact CL.out _ ((Below.refl _ _).drew)
      | exact CL.out _ OO.out)
    (first
      | (go_at_call 7; refine (TC'.out _ (below_next hB2.out (Hid.out (And.right (And.right (And.right (And.right (And.right (And.right (by assumption)))))))))).mono ?_; rintro e' w1 ⟨rfl, hb1⟩; have OO : Hid (Below w2.heap.size w2 w1) := below_next (Hid.out (And.right (And.right (And.right (And.right (And.right (And.right (by assumption)))))))) hb1; clear hb1)
      | (go_at_call 64; refine (WR.out _).mono ?_; rintro e' w2 ⟨rfl, rfl⟩))
  all_goals (go_wp2_with fail)
  all_goals go_ret
  all_goals exact ⟨rfl, below_next hB2.out OO.out⟩

/-- What is wrong first with a variant's types. -/
def tskAt (is : List It) (v : Vj) (k : Nat) : Option (Int × Int) :=
  match v.ts[k]? with
  | some t => nz v.a (tyE is t false)
  | none => none

def tsk (is : List It) (v : Vj) : Option (Int × Int) := fo (tskAt is v) 0 v.ts.length

set_option maxHeartbeats 1000000 in
/-- Its types are asked for. -/
theorem enumeration12_c (w0 : World) (A : Option Addr) (is : List It) (C B0 Bv : Nat) (v : Vj) (TB : Option Addr) (TC : Nat) (w : World) (hT : Tab w0) (hi : IsIn w0 is A) (hx : TsIn w0 v.ts TB)
    (h0 : At w B0 #[.slice A is.length C] 51) (hv : At w Bv #[.string v.s, .slice TB v.ts.length TC, .int .i64 v.a] 45) (hbl : Below w0.heap.size w0 w) :
    Calls Tryz.prog 72 #[.pointer (some ⟨Bv, 0, none⟩), .pointer (some ⟨B0, 0, none⟩)] w fun e w' => e = .returned (errV (tsk is v)) ∧ Below w.heap.size w w' := by
  obtain ⟨ecs, hecs⟩ : ∃ ecs : Nat → List Value, ∀ k (h : k < v.ts.length), ∃ b o, TB = some ⟨b, o, none⟩ ∧ RowAt w0 b (o + k * 4) (ecs k) ∧ TIn w0 (v.ts[k]'h) (ecs k) := by
    refine ⟨fun k => if h : k < v.ts.length then Classical.choose (Classical.choose_spec (Classical.choose_spec (hx.2 k h))) else [], fun k h => ?_⟩
    simp only [dif_pos h]
    have := Classical.choose_spec (Classical.choose_spec (Classical.choose_spec (hx.2 k h)))
    exact ⟨_, _, this.1, this.2.1, this.2.2⟩
  obtain ⟨b, o, hbo⟩ : ∃ b o, 0 < v.ts.length → TB = some ⟨b, o, none⟩ := by
    by_cases h : 0 < v.ts.length
    · obtain ⟨b, o, h1, _⟩ := hecs 0 h
      exact ⟨b, o, fun _ => h1⟩
    · exact ⟨0, 0, fun h' => absurd h' h⟩
  have FC := eachType_c ⟨74, #[], #[.pointer (some ⟨Bv, 0, none⟩), .pointer (some ⟨B0, 0, none⟩)]⟩ (enters_of Tryz.func74 (by kernel_rfl) rfl) v.ts.length hx.1 ecs TB b o TC hbo
    (fun k hk => by
      obtain ⟨_, _, _, _, h2⟩ := hecs k hk
      generalize v.ts[k] = t at h2
      obtain ⟨tk, ts, tn, tes⟩ := t
      obtain ⟨TA, TC, h1, _⟩ := h2.inv
      exact ⟨tk, ts, tn, TA, _, TC, h1⟩)
    (tskAt is v)
    (fun _ wr => Below w.heap.size w wr)
    (fun wr => Below w.heap.size w wr) w
    (fun k wr h hk => by
      obtain ⟨b', o', e1, e2, _⟩ := hecs k hk
      obtain ⟨rfl, rfl⟩ : b' = b ∧ o' = o := by
        have := e1.symm.trans (hbo (by omega))
        simpa using this
      exact e2.below (hbl.trans (h.mono hbl.size)))
    (fun k wr h => h)
    (fun k wr hk h wb hwb => by
      obtain ⟨_, _, _, _, e2⟩ := hecs k hk
      have hR : tskAt is v k = nz v.a (tyE is v.ts[k] false) := by simp [tskAt, hk]
      rw [hR]
      generalize v.ts[k] = t at e2
      obtain ⟨tk, ts, tn, tes⟩ := t
      obtain ⟨TA, TC, e1, _⟩ := e2.inv
      rw [e1] at e2 ⊢
      have hb2 := below_next h hwb
      refine (enumeration121_c w0 A is C B0 Bv v.s _ (.mk tk ts tn tes) tk ts tn TA tes.length TC v.a wb hT hi e2 (h0.below hb2 h0.lt) (hv.below hb2 hv.lt) (hbl.trans (hb2.mono hbl.size))).mono ?_
      rintro e w' ⟨rfl, h2⟩
      exact ⟨rfl, below_next hb2 h2, fun _ => below_next hb2 h2⟩)
    (Below.refl _ _)
  have FCH : Hid (Calls Tryz.prog 73 #[.slice TB v.ts.length TC, .func (.func 74) #[] #[.pointer (some ⟨Bv, 0, none⟩), .pointer (some ⟨B0, 0, none⟩)]] w fun e w' => e = .returned (errV (tsk is v)) ∧ Below w.heap.size w w') := FC.mono fun e w' h => ⟨h.1, h.2.1⟩
  generalize errV (tsk is v) = V at FCH
  obtain ⟨⟨_, v1, _⟩, _, _⟩ := cells3 hv
  generalize v.ts.length = tl at FCH v1
  clear FC hecs hbo hT hi hx h0 hv hbl
  go_enter Tryz.func72, Tryz.ntmps72
  go_wp2_with (go_at_call 73; refine FCH.out.mono ?_; rintro e w1 ⟨rfl, hk1⟩; have HK1 : Hid (Below w.heap.size w w1) := hk1; clear hk1)
  go_ret
  exact ⟨rfl, HK1.out⟩

/-- What is wrong with one variant, names being taken. -/
def vrt (is : List It) (ns : List ByteArray) (v : Vj) : Option (Int × Int) := (if isIn v.s ns = true then some (v.a, 40) else none).or (tsk is v)

set_option maxHeartbeats 1000000 in
theorem enumeration1_c (w0 : World) (A : Option Addr) (is : List It) (C M Bc Bo B0 : Nat) (ns : List ByteArray) (v : Vj) (TB : Option Addr) (TC : Nat) (w : World) (hT : Tab w0) (hi : IsIn w0 is A) (hx : TsIn w0 v.ts TB)
    (hE : Env w0 A is.length C M Bc Bo B0 w) (hM : SetAt w M ns) :
    Calls Tryz.prog 70 #[.agg #[.string v.s, .slice TB v.ts.length TC, .int .i64 v.a], .pointer (some ⟨Bo, 0, none⟩), .pointer (some ⟨B0, 0, none⟩)] w
      fun e w' => e = .returned (errV (vrt is ns v)) ∧ But M w w' ∧ Env w0 A is.length C M Bc Bo B0 w' ∧ (vrt is ns v = none → SetAt w' M (ns ++ [v.s])) := by
  obtain ⟨W, hW⟩ : ∃ W, (w.alloc (.cells #[.string v.s, .slice TB v.ts.length TC, .int .i64 v.a] 45)).alloc (.cells #[.func (.func 71) #[] #[.pointer (some ⟨Bo, 0, none⟩), .pointer (some ⟨w.heap.size, 0, none⟩)], .func (.func 72) #[] #[.pointer (some ⟨w.heap.size, 0, none⟩), .pointer (some ⟨B0, 0, none⟩)]] 52) = W := ⟨_, rfl⟩
  have hWb : Below w.heap.size w W := by rw [← hW]; exact two_alloc _ _ _
  have hp : At W w.heap.size #[.string v.s, .slice TB v.ts.length TC, .int .i64 v.a] 45 := by rw [← hW]; exact (At.new _ _ _).alloc _
  have hG : At W (w.heap.size + 1) #[.func (.func 71) #[] #[.pointer (some ⟨Bo, 0, none⟩), .pointer (some ⟨w.heap.size, 0, none⟩)], .func (.func 72) #[] #[.pointer (some ⟨w.heap.size, 0, none⟩), .pointer (some ⟨B0, 0, none⟩)]] 52 := by rw [← hW]; exact two_at _ _ _ _
  have FC := firstOf_c [⟨71, #[], #[.pointer (some ⟨Bo, 0, none⟩), .pointer (some ⟨w.heap.size, 0, none⟩)]⟩, ⟨72, #[], #[.pointer (some ⟨w.heap.size, 0, none⟩), .pointer (some ⟨B0, 0, none⟩)]⟩] (by simp)
    (fun f hf => by
      simp only [List.mem_cons, List.not_mem_nil, or_false] at hf
      rcases hf with rfl | rfl
      · exact enters_of Tryz.func71 (by kernel_rfl) rfl
      · exact enters_of Tryz.func72 (by kernel_rfl) rfl) (w.heap.size + 1) 0 2
    (fun k => if k = 0 then (if isIn v.s ns = true then some (v.a, 40) else none) else tsk is v)
    (fun k wr => (Env w0 A is.length C M Bc Bo B0 wr ∧ But M w wr) ∧ At wr w.heap.size #[.string v.s, .slice TB v.ts.length TC, .int .i64 v.a] 45 ∧ At wr (w.heap.size + 1) #[.func (.func 71) #[] #[.pointer (some ⟨Bo, 0, none⟩), .pointer (some ⟨w.heap.size, 0, none⟩)], .func (.func 72) #[] #[.pointer (some ⟨w.heap.size, 0, none⟩), .pointer (some ⟨B0, 0, none⟩)]] 52 ∧ SetAt wr M (if k = 0 then ns else ns ++ [v.s]))
    (fun wr => Env w0 A is.length C M Bc Bo B0 wr ∧ But M w wr) W
    (fun k wr h => row_at (cs := [_, _]) h.2.2.1 rfl) (fun k wr h => h.1)
    (fun k hk wr h => by
      obtain ⟨⟨e1, e2⟩, e3, e4, e5⟩ := h
      match k, hk with
      | 0, _ =>
        refine (enumeration11_c w0 A is.length C M Bc Bo B0 w.heap.size ns v.s _ v.a wr e1 e5 e3).mono ?_
        rintro e w' ⟨rfl, h2, h3⟩
        refine ⟨rfl, ⟨e1.but e5 h2, e2.trans h2⟩, fun hn => ⟨⟨e1.but e5 h2, e2.trans h2⟩, h2.at e3 (set_ne e3 e5), h2.at e4 (set_ne e4 e5), h3 ?_⟩⟩
        cases hq : isIn v.s ns with
        | false => rfl
        | true => simp [hq] at hn
      | 1, _ =>
        refine (enumeration12_c w0 A is C B0 w.heap.size v TB TC wr hT hi hx e1.a0 e3 e1.bl).mono ?_
        rintro e w' ⟨rfl, h2⟩
        exact ⟨rfl, ⟨e1.below h2, e2.trans (But.of h2)⟩, fun _ => ⟨⟨e1.below h2, e2.trans (But.of h2)⟩, e3.below h2 e3.lt, e4.below h2 e4.lt, e5.below h2 e5.lt⟩⟩
      | k + 2, hk => exact absurd hk (by simp))
    ⟨⟨hE.below hWb, But.of hWb⟩, hp, hG, hM.below hWb hM.lt⟩
  have hv : fo (fun k => if k = 0 then (if isIn v.s ns = true then some (v.a, 40) else none) else tsk is v) 0 2 = vrt is ns v := by rw [fo_two]; rfl
  simp only [List.length_cons, List.length_nil, Nat.zero_add, Nat.reduceAdd] at FC
  rw [hv] at FC
  generalize vrt is ns v = X at FC
  have FCH : Hid (Calls Tryz.prog 28 #[.slice (some ⟨w.heap.size + 1, 0, none⟩) 2 2] W fun e w' => e = .returned (errV X) ∧ But M w w' ∧ Env w0 A is.length C M Bc Bo B0 w' ∧ (X = none → SetAt w' M (ns ++ [v.s]))) := FC.mono fun e w' h => ⟨h.1, h.2.1.2, h.2.1.1, fun hn => (h.2.2 hn).2.2.2⟩
  generalize errV X = V at FCH
  rw [← hW] at FCH
  generalize v.ts.length = tl at FCH
  obtain ⟨vs, vts, va⟩ := v
  simp only at FCH ⊢
  clear FC hv hp hG hWb hE hM hT hi hx hW
  go_enter Tryz.func70, Tryz.ntmps70
  go_wp2_with (go_at_call 28; refine FCH.out.mono ?_; rintro e w1 ⟨rfl, hk1⟩; have HK1 : Hid (But M w w1 ∧ Env w0 A is.length C M Bc Bo B0 w1 ∧ (X = none → SetAt w1 M (ns ++ [vs]))) := hk1; clear hk1)
  go_ret
  exact ⟨rfl, HK1.out⟩

/-- What is wrong first with an enum's variants. -/
def vrtAt (is : List It) (vs : List Vj) (k : Nat) : Option (Int × Int) :=
  match vs[k]? with
  | some v => vrt is ((vs.take k).map (·.s)) v
  | none => none

def vck (is : List It) (vs : List Vj) : Option (Int × Int) := fo (vrtAt is vs) 0 vs.length

set_option maxHeartbeats 1000000 in
theorem enumeration2_c (w0 : World) (A : Option Addr) (is : List It) (C M Bc Bo B0 Bi Bx : Nat) (j : Jt) (cs : List Value) (w : World) (hT : Tab w0) (hi : IsIn w0 is A) (hj : JIn w0 j cs)
    (hE : Env w0 A is.length C M Bc Bo B0 w) (hM : SetAt w M []) (ha : At w Bi cs.toArray 43) (hx : At w Bx #[.func (.func 70) #[] #[.pointer (some ⟨Bo, 0, none⟩), .pointer (some ⟨B0, 0, none⟩)]] 120) :
    Calls Tryz.prog 75 #[.pointer (some ⟨Bi, 0, none⟩), .pointer (some ⟨Bx, 0, none⟩)] w fun e w' => e = .returned (errV (vck is j.vs)) ∧ But M w w' := by
  obtain ⟨P, PC, V, VC, tk, ts, tn, TA, tl, TC, _, _, e3, _, e4⟩ := hj.cel
  have c4 := (e4 w Bi ha).c4
  have x0 : w.cell? ⟨Bx, 0, none⟩ = some (.func (.func 70) #[] #[.pointer (some ⟨Bo, 0, none⟩), .pointer (some ⟨B0, 0, none⟩)]) := (hx.cell 0).trans rfl
  obtain ⟨ecs, hecs⟩ : ∃ ecs : Nat → List Value, ∀ k (h : k < j.vs.length), ∃ b o, V = some ⟨b, o, none⟩ ∧ RowAt w0 b (o + k * 3) (ecs k) ∧ VIn w0 (j.vs[k]'h) (ecs k) := by
    refine ⟨fun k => if h : k < j.vs.length then Classical.choose (Classical.choose_spec (Classical.choose_spec (e3.2 k h))) else [], fun k h => ?_⟩
    simp only [dif_pos h]
    have := Classical.choose_spec (Classical.choose_spec (Classical.choose_spec (e3.2 k h)))
    exact ⟨_, _, this.1, this.2.1, this.2.2⟩
  obtain ⟨b, o, hbo⟩ : ∃ b o, 0 < j.vs.length → V = some ⟨b, o, none⟩ := by
    by_cases h : 0 < j.vs.length
    · obtain ⟨b, o, h1, _⟩ := hecs 0 h
      exact ⟨b, o, fun _ => h1⟩
    · exact ⟨0, 0, fun h' => absurd h' h⟩
  have FC := eachVariant_c ⟨70, #[], #[.pointer (some ⟨Bo, 0, none⟩), .pointer (some ⟨B0, 0, none⟩)]⟩ (enters_of Tryz.func70 (by kernel_rfl) rfl) j.vs.length e3.1 ecs V b o VC hbo
    (fun k hk => by
      obtain ⟨_, _, _, _, TB, TC, h1, _⟩ := hecs k hk
      exact ⟨_, TB, _, TC, _, h1⟩)
    (vrtAt is j.vs)
    (fun k wr => (Env w0 A is.length C M Bc Bo B0 wr ∧ But M w wr) ∧ SetAt wr M ((j.vs.take k).map (·.s)))
    (fun wr => But M w wr) w
    (fun k wr h hk => by
      obtain ⟨b', o', e1, e2, _⟩ := hecs k hk
      obtain ⟨rfl, rfl⟩ : b' = b ∧ o' = o := by
        have := e1.symm.trans (hbo (by omega))
        simpa using this
      exact e2.below h.1.1.bl)
    (fun k wr h => h.1.2)
    (fun k wr hk h wb hwb => by
      obtain ⟨_, _, _, _, TB, TC, e1, e2⟩ := hecs k hk
      obtain ⟨⟨g1, g2⟩, g3⟩ := h
      have hR : vrtAt is j.vs k = vrt is ((j.vs.take k).map (·.s)) j.vs[k] := by simp [vrtAt, hk]
      have htk := take_names (·.s) j.vs k hk
      rw [hR, htk, e1]
      refine (enumeration1_c w0 A is C M Bc Bo B0 _ j.vs[k] TB TC wb hT hi e2 (g1.below hwb) (g3.below hwb g3.lt)).mono ?_
      rintro e w' ⟨rfl, h2, h3, h4⟩
      have g4 := (g2.trans (But.of hwb)).trans h2
      exact ⟨rfl, g4, fun hn => ⟨⟨h3, g4⟩, h4 hn⟩⟩)
    ⟨⟨hE, But.of (Below.refl _ _)⟩, hM⟩
  have FCH : Hid (Calls Tryz.prog 76 #[.slice V j.vs.length VC, .func (.func 70) #[] #[.pointer (some ⟨Bo, 0, none⟩), .pointer (some ⟨B0, 0, none⟩)]] w fun e w' => e = .returned (errV (vck is j.vs)) ∧ But M w w') := FC.mono fun e w' h => ⟨h.1, h.2.1⟩
  generalize errV (vck is j.vs) = X at FCH
  generalize j.vs.length = vl at FCH c4
  clear FC hecs hbo hT hi hx hj hE hM ha e3 e4
  go_enter Tryz.func75, Tryz.ntmps75
  go_wp2_with (go_at_call 76; refine FCH.out.mono ?_; rintro e w1 ⟨rfl, hk1⟩; have HK1 : Hid (But M w w1) := hk1; clear hk1)
  go_ret
  exact ⟨rfl, HK1.out⟩

/-- What is wrong with an enum. -/
def eck (is : List It) (j : Jt) : Option (Int × Int) := (vck is j.vs).or (slf is j)

theorem alloc_set (w : World) (o : Obj) {M : Nat} {ns : List ByteArray} (h : SetAt w M ns) : SetAt (w.alloc o) M ns := h.below (below_alloc w o) h.lt

set_option maxHeartbeats 1000000 in
theorem enumeration_c (A : Option Addr) (is : List It) (C : Nat) (j : Jt) (cs : List Value) (w : World) (hT : Tab w) (hi : IsIn w is A) (hj : JIn w j cs) :
    Calls Tryz.prog 54 #[.slice A is.length C, .agg cs.toArray] w fun e w' => e = .returned (errV (eck is j)) ∧ Below w.heap.size w w' := by
  obtain ⟨W2, hW2⟩ : ∃ W, (w.alloc (.cells #[.slice A is.length C] 51)).alloc (.cells cs.toArray 43) = W := ⟨_, rfl⟩
  have s2 : W2.heap.size = w.heap.size + 2 := by rw [← hW2]; simp
  have g0 : At W2 w.heap.size #[.slice A is.length C] 51 := by rw [← hW2]; exact (At.new _ _ _).alloc _
  have g1 : At W2 (w.heap.size + 1) cs.toArray 43 := by rw [← hW2]; exact two_at _ _ _ _
  have b2 : Below w.heap.size w W2 := by rw [← hW2]; exact two_alloc _ _ _
  obtain ⟨W, hW⟩ : ∃ W, ((((W2.alloc (.map #[] 0)).alloc (.cells #[.map (some (w.heap.size + 2))] 67)).alloc (.cells #[.func (.func 49) #[] #[.pointer (some ⟨w.heap.size + 3, 0, none⟩)]] 82)).alloc (.cells #[.func (.func 70) #[] #[.pointer (some ⟨w.heap.size + 4, 0, none⟩), .pointer (some ⟨w.heap.size, 0, none⟩)]] 120)).alloc (.cells #[.func (.func 75) #[] #[.pointer (some ⟨w.heap.size + 1, 0, none⟩), .pointer (some ⟨w.heap.size + 5, 0, none⟩)], .func (.func 77) #[] #[.pointer (some ⟨w.heap.size, 0, none⟩), .pointer (some ⟨w.heap.size + 1, 0, none⟩)]] 52) = W := ⟨_, rfl⟩
  have hb : Below W2.heap.size W2 W := by rw [← hW]; exact five_alloc _ _ _ _ _ _
  have h0 := g0.below hb g0.lt
  have h1 := g1.below hb g1.lt
  have hs : SetAt W (w.heap.size + 2) [] := by
    rw [← hW, ← s2]
    exact alloc_set _ _ (alloc_set _ _ (alloc_set _ _ (alloc_set _ _ (set_new _))))
  have h3 : At W (w.heap.size + 3) #[.map (some (w.heap.size + 2))] 67 := by
    rw [← hW]
    have := ((two_at W2 (.map #[] 0) #[.map (some (w.heap.size + 2))] 67).alloc (.cells #[.func (.func 49) #[] #[.pointer (some ⟨w.heap.size + 3, 0, none⟩)]] 82)).alloc (.cells #[.func (.func 70) #[] #[.pointer (some ⟨w.heap.size + 4, 0, none⟩), .pointer (some ⟨w.heap.size, 0, none⟩)]] 120)
    rw [s2] at this
    exact this.alloc _
  have h4 : At W (w.heap.size + 4) #[.func (.func 49) #[] #[.pointer (some ⟨w.heap.size + 3, 0, none⟩)]] 82 := by
    rw [← hW]
    have := (three_at W2 (.map #[] 0) (.cells #[.map (some (w.heap.size + 2))] 67) #[.func (.func 49) #[] #[.pointer (some ⟨w.heap.size + 3, 0, none⟩)]] 82).alloc (.cells #[.func (.func 70) #[] #[.pointer (some ⟨w.heap.size + 4, 0, none⟩), .pointer (some ⟨w.heap.size, 0, none⟩)]] 120)
    rw [s2] at this
    exact this.alloc _
  have h5 : At W (w.heap.size + 5) #[.func (.func 70) #[] #[.pointer (some ⟨w.heap.size + 4, 0, none⟩), .pointer (some ⟨w.heap.size, 0, none⟩)]] 120 := by
    rw [← hW]
    have := three_at (W2.alloc (.map #[] 0)) (.cells #[.map (some (w.heap.size + 2))] 67) (.cells #[.func (.func 49) #[] #[.pointer (some ⟨w.heap.size + 3, 0, none⟩)]] 82) #[.func (.func 70) #[] #[.pointer (some ⟨w.heap.size + 4, 0, none⟩), .pointer (some ⟨w.heap.size, 0, none⟩)]] 120
    rw [World.size_alloc, s2] at this
    exact this.alloc _
  have h6 : At W (w.heap.size + 6) #[.func (.func 75) #[] #[.pointer (some ⟨w.heap.size + 1, 0, none⟩), .pointer (some ⟨w.heap.size + 5, 0, none⟩)], .func (.func 77) #[] #[.pointer (some ⟨w.heap.size, 0, none⟩), .pointer (some ⟨w.heap.size + 1, 0, none⟩)]] 52 := by
    rw [← hW]
    have := three_at ((W2.alloc (.map #[] 0)).alloc (.cells #[.map (some (w.heap.size + 2))] 67)) (.cells #[.func (.func 49) #[] #[.pointer (some ⟨w.heap.size + 3, 0, none⟩)]] 82) (.cells #[.func (.func 70) #[] #[.pointer (some ⟨w.heap.size + 4, 0, none⟩), .pointer (some ⟨w.heap.size, 0, none⟩)]] 120) #[.func (.func 75) #[] #[.pointer (some ⟨w.heap.size + 1, 0, none⟩), .pointer (some ⟨w.heap.size + 5, 0, none⟩)], .func (.func 77) #[] #[.pointer (some ⟨w.heap.size, 0, none⟩), .pointer (some ⟨w.heap.size + 1, 0, none⟩)]] 52
    rw [World.size_alloc, World.size_alloc, s2] at this
    exact this
  have hbw : Below w.heap.size w W := below_next b2 hb
  have FC := firstOf_c [⟨75, #[], #[.pointer (some ⟨w.heap.size + 1, 0, none⟩), .pointer (some ⟨w.heap.size + 5, 0, none⟩)]⟩, ⟨77, #[], #[.pointer (some ⟨w.heap.size, 0, none⟩), .pointer (some ⟨w.heap.size + 1, 0, none⟩)]⟩] (by simp)
    (fun f hf => by
      simp only [List.mem_cons, List.not_mem_nil, or_false] at hf
      rcases hf with rfl | rfl
      · exact enters_of Tryz.func75 (by kernel_rfl) rfl
      · exact enters_of Tryz.func77 (by kernel_rfl) rfl) (w.heap.size + 6) 0 2
    (fun k => if k = 0 then vck is j.vs else slf is j)
    (fun k wr => EnvF w A is.length C cs w.heap.size (w.heap.size + 1) wr ∧ At wr (w.heap.size + 6) #[.func (.func 75) #[] #[.pointer (some ⟨w.heap.size + 1, 0, none⟩), .pointer (some ⟨w.heap.size + 5, 0, none⟩)], .func (.func 77) #[] #[.pointer (some ⟨w.heap.size, 0, none⟩), .pointer (some ⟨w.heap.size + 1, 0, none⟩)]] 52 ∧ (k = 0 → wr = W))
    (fun wr => Below w.heap.size w wr) W
    (fun k wr h => row_at (cs := [_, _]) h.2.1 rfl) (fun k wr h => h.1.bl)
    (fun k hk wr h => by
      obtain ⟨e1, e2, e3⟩ := h
      match k, hk with
      | 0, _ =>
        obtain rfl := e3 rfl
        refine (enumeration2_c w A is C (w.heap.size + 2) (w.heap.size + 3) (w.heap.size + 4) w.heap.size (w.heap.size + 1) (w.heap.size + 5) j cs wr hT hi hj ⟨h0, h3, h4, hbw, by omega⟩ hs h1 h5).mono ?_
        rintro e w' ⟨rfl, h2⟩
        have hb3 := h2.below hbw (by omega) hbw.size
        exact ⟨rfl, hb3, fun _ => ⟨⟨h2.at e1.a0 (by omega), h2.at e1.ai (by omega), hb3⟩, h2.at e2 (by omega), fun h => by omega⟩⟩
      | 1, _ =>
        refine (enumeration3_c w A is C j cs w.heap.size (w.heap.size + 1) wr hT hi hj e1).mono ?_
        rintro e w' ⟨rfl, h2⟩
        exact ⟨rfl, (e1.below h2).bl, fun _ => ⟨e1.below h2, e2.below h2 e2.lt, fun h => by omega⟩⟩
      | k + 2, hk => exact absurd hk (by simp))
    ⟨⟨h0, h1, hbw⟩, h6, fun _ => rfl⟩
  have hv : fo (fun k => if k = 0 then vck is j.vs else slf is j) 0 2 = eck is j := by rw [fo_two]; rfl
  simp only [List.length_cons, List.length_nil, Nat.zero_add, Nat.reduceAdd] at FC
  rw [hv] at FC
  have FCH : Hid (Calls Tryz.prog 28 #[.slice (some ⟨w.heap.size + 6, 0, none⟩) 2 2] W fun e w' => e = .returned (errV (eck is j)) ∧ Below w.heap.size w w') := FC.mono fun e w' h => ⟨h.1, h.2.1⟩
  generalize errV (eck is j) = X at FCH
  have NNH : Hid (∀ w', Calls Tryz.prog 27 #[.map (some (w.heap.size + 2))] w' fun e w'' => e = .returned (.func (.func 49) #[] #[.pointer (some ⟨w'.heap.size, 0, none⟩)]) ∧ w'' = w'.alloc (.cells #[.map (some (w.heap.size + 2))] 67)) := fun w' => newNames_c (w.heap.size + 2) w'
  have hm := madeE
  rw [← hW, ← hW2] at FCH
  generalize cs.toArray = ca at FCH
  clear FC hv h0 h1 hs h3 h4 h5 h6 hb hbw hW hW2 hT hi hj s2 g0 g1 b2
  go_enter Tryz.func54, Tryz.ntmps54
  go_wp2_with (first
    | (go_at_call 27; refine (NNH.out _).mono ?_; rintro e w1 ⟨rfl, rfl⟩)
    | (go_at_call 28; refine FCH.out.mono ?_; rintro e w1 ⟨rfl, hk1⟩; have HK1 : Hid (Below w.heap.size w w1) := hk1; clear hk1))
  go_ret
  exact ⟨rfl, HK1.out⟩

end Go.Proofs.YtjdkoahbahecoaaGreatDoor
