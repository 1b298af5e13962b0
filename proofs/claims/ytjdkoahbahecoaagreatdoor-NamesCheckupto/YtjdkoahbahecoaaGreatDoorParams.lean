/-
  Proved: what params tells of a function's params, or of a struct's fields.
-/
import Derived.Test.YtjdkoahbahecoaaGreatDoorData
import Derived.Deep.RegionHeld3
import Derived.Laws.EntriesVeiled
namespace Go.Proofs.YtjdkoahbahecoaaGreatDoor
open Go.RowKit

/-- What the asking functions stand on: the program, and a set of names behind its function. -/
structure Env (w0 : World) (A : Option Addr) (l C : Nat) (M Bc Bo B0 : Nat) (wr : World) : Prop where
  a0 : At wr B0 #[.slice A l C] 51
  ac : At wr Bc #[.map (some M)] 67
  ao : At wr Bo #[.func (.func 49) #[] #[.pointer (some ⟨Bc, 0, none⟩)]] 82
  bl : Below w0.heap.size w0 wr
  hM : w0.heap.size ≤ M

theorem Env.below {w0 : World} {A : Option Addr} {l C M Bc Bo B0 : Nat} {wr w' : World} (h : Env w0 A l C M Bc Bo B0 wr) (k : Below wr.heap.size wr w') : Env w0 A l C M Bc Bo B0 w' :=
  ⟨h.a0.below k h.a0.lt, h.ac.below k h.ac.lt, h.ao.below k h.ao.lt, h.bl.trans (k.mono h.bl.size), h.hM⟩

theorem set_ne {w : World} {B M : Nat} {cs : Array Value} {t : TypeId} {ns : List ByteArray} (h : At w B cs t) (k : SetAt w M ns) : B ≠ M := by
  intro e
  subst e
  have := h.symm.trans k
  cases this

theorem Env.but {w0 : World} {A : Option Addr} {l C M Bc Bo B0 : Nat} {wr w' : World} {ns : List ByteArray} (h : Env w0 A l C M Bc Bo B0 wr) (hs : SetAt wr M ns) (k : But M wr w') : Env w0 A l C M Bc Bo B0 w' :=
  ⟨k.at h.a0 (set_ne h.a0 hs), k.at h.ac (set_ne h.ac hs), k.at h.ao (set_ne h.ao hs), k.below h.bl h.hM h.bl.size, h.hM⟩

theorem cells7 {w : World} {x : Nat} {a b c d e f g : Value} {t : TypeId} (h : At w x #[a, b, c, d, e, f, g] t) :
    w.cell? ⟨x, 0, none⟩ = some a ∧ w.cell? ⟨x, 2, none⟩ = some c ∧ w.cell? ⟨x, 3, none⟩ = some d ∧ w.cell? ⟨x, 4, none⟩ = some e ∧ w.cell? ⟨x, 5, none⟩ = some f ∧ w.cell? ⟨x, 6, none⟩ = some g :=
  ⟨(h.cell 0).trans rfl, (h.cell 2).trans rfl, (h.cell 3).trans rfl, (h.cell 4).trans rfl, (h.cell 5).trans rfl, (h.cell 6).trans rfl⟩

/-- The name is asked for. -/
theorem params11_c (w0 : World) (A : Option Addr) (l C M Bc Bo B0 Bp : Nat) (ns : List ByteArray) (s : ByteArray) (mu tk ts tn tl : Value) (a : Int) (w : World) (hE : Env w0 A l C M Bc Bo B0 w) (hM : SetAt w M ns) (hp : At w Bp #[.string s, mu, tk, ts, tn, tl, .int .i64 a] 88) :
    Calls Tryz.prog 86 #[.pointer (some ⟨Bo, 0, none⟩), .pointer (some ⟨Bp, 0, none⟩)] w fun e w' => e = .returned (errV (if isIn s ns = true then some (a, 40) else none)) ∧ But M w w' ∧ (isIn s ns = false → SetAt w' M (ns ++ [s])) := by
  have OC : Hid (Calls Tryz.prog 49 #[.string s, .int .i64 a, .pointer (some ⟨Bc, 0, none⟩)] w fun e w' => e = .returned (errV (if isIn s ns = true then some (a, 40) else none)) ∧ But M w w' ∧ (isIn s ns = false → SetAt w' M (ns ++ [s]))) := once_c s a Bc M ns w hE.ac hM
  have o0 : w.cell? ⟨Bo, 0, none⟩ = some (.func (.func 49) #[] #[.pointer (some ⟨Bc, 0, none⟩)]) := (hE.ao.cell 0).trans rfl
  obtain ⟨p0, _, _, _, _, p6⟩ := cells7 hp
  generalize errV (if isIn s ns = true then some (a, 40) else none) = V at OC
  clear hE hM hp
  go_enter Tryz.func86, Tryz.ntmps86
  go_wp2_with (go_at_call 49; refine OC.out.mono ?_; rintro e w1 ⟨rfl, h1⟩; have H1 : Hid (But M w w1 ∧ (isIn s ns = false → SetAt w1 M (ns ++ [s]))) := h1; clear h1)
  go_ret
  exact ⟨rfl, H1.out⟩

set_option maxRecDepth 100000 in
set_option maxHeartbeats 1000000 in
/-- The type is asked for. -/
theorem params12_c (w0 : World) (A : Option Addr) (is : List It) (C M Bc Bo B0 B1 Bp : Nat) (s : ByteArray) (mu : Value) (t : T) (tk : Int) (ts : ByteArray) (tn : Int) (TA : Option Addr) (tl TC : Nat) (a : Int) (refs : Bool) (w : World) (hT : Tab w0) (hi : IsIn w0 is A) (hx : TIn w0 t [.int .i64 tk, .string ts, .int .i64 tn, .slice TA tl TC])
    (hE : Env w0 A is.length C M Bc Bo B0 w) (h1 : At w B1 #[.bool refs] 4) (hp : At w Bp #[.string s, mu, .int .i64 tk, .string ts, .int .i64 tn, .slice TA tl TC, .int .i64 a] 88) :
    Calls Tryz.prog 87 #[.pointer (some ⟨Bp, 0, none⟩), .pointer (some ⟨B0, 0, none⟩), .pointer (some ⟨B1, 0, none⟩)] w fun e w' => e = .returned (errV (nz a (tyE is t refs))) ∧ Below w.heap.size w w' := by
  have TC' : Hid (∀ w', Below w.heap.size w w' → Calls Tryz.prog 7 #[.slice A is.length C, .agg #[.int .i64 tk, .string ts, .int .i64 tn, .slice TA tl TC], .bool refs] w' fun e w'' => e = .returned (.int .i64 (tyE is t refs)) ∧ Below w'.heap.size w' w'') := fun w' hw => by
    have hb := hE.bl.trans (hw.mono hE.bl.size)
    exact type_c is t _ refs A C w' (hT.below hb) (hi.below hb) (hx.stays hb)
  have WR : Hid (∀ w', Calls Tryz.prog 64 #[.int .i64 a, .int .i64 (tyE is t refs)] w' fun r w'' => r = .returned (errV (nz a (tyE is t refs))) ∧ w'' = w') := wrongAt_c a _
  generalize errV (nz a (tyE is t refs)) = V at WR
  generalize tyE is t refs = E at TC' WR
  have CL : Hid (∀ w', Below w.heap.size w w' → w'.cell? ⟨Bp, 2, none⟩ = some (.int .i64 tk) ∧ w'.cell? ⟨Bp, 3, none⟩ = some (.string ts) ∧ w'.cell? ⟨Bp, 4, none⟩ = some (.int .i64 tn) ∧ w'.cell? ⟨Bp, 5, none⟩ = some (.slice TA tl TC) ∧ w'.cell? ⟨Bp, 6, none⟩ = some (.int .i64 a) ∧ w'.cell? ⟨B0, 0, none⟩ = some (.slice A is.length C) ∧ w'.cell? ⟨B1, 0, none⟩ = some (.bool refs) ∧ Hid (Below w.heap.size w w')) := fun w' hw => by
    obtain ⟨_, c2, c3, c4, c5, c6⟩ := cells7 (hp.below hw hp.lt)
    exact ⟨c2, c3, c4, c5, c6, ((hE.a0.below hw hE.a0.lt).cell 0).trans rfl, ((h1.below hw h1.lt).cell 0).trans rfl, hw⟩
  clear hT hi hx hE h1 hp
  go_enter Tryz.func87, Tryz.ntmps87
  go_wp2
  go_region_held3 (fun w' => w'.cell? ⟨Bp, 2, none⟩ = some (.int .i64 tk) ∧ w'.cell? ⟨Bp, 3, none⟩ = some (.string ts) ∧ w'.cell? ⟨Bp, 4, none⟩ = some (.int .i64 tn) ∧ w'.cell? ⟨Bp, 5, none⟩ = some (.slice TA tl TC) ∧ w'.cell? ⟨Bp, 6, none⟩ = some (.int .i64 a) ∧ w'.cell? ⟨B0, 0, none⟩ = some (.slice A is.length C) ∧ w'.cell? ⟨B1, 0, none⟩ = some (.bool refs) ∧ Hid (Below w.heap.size w w'))
    (first
      | exact CL.out _ ((Below.refl _ _).drew)
      | exact CL.out _ OO.out)
    (first
      | (go_at_call 7; refine (TC'.out _ (Hid.out (And.right (And.right (And.right (And.right (And.right (And.right (And.right (by assumption)))))))))).mono ?_; rintro e' w1 ⟨rfl, hb1⟩; have OO : Hid (Below w.heap.size w w1) := below_next (Hid.out (And.right (And.right (And.right (And.right (And.right (And.right (And.right (by assumption))))))))) hb1; clear hb1)
      | (go_at_call 64; refine (WR.out _).mono ?_; rintro e' w2 ⟨rfl, rfl⟩))
  all_goals (go_wp2_with fail)
  all_goals go_ret
  all_goals exact ⟨rfl, OO.out⟩

/-- What is wrong with one param, names being taken. -/
def prm (is : List It) (refs : Bool) (ns : List ByteArray) (p : Pj) : Option (Int × Int) := (if isIn p.s ns = true then some (p.a, 40) else none).or (nz p.a (tyE is p.t refs))

theorem fo_two (R : Nat → Option (Int × Int)) : fo R 0 2 = (R 0).or (R 1) := by
  rw [fo, fo, fo]
  cases R 0 <;> cases R 1 <;> rfl

theorem fo_three (R : Nat → Option (Int × Int)) : fo R 0 3 = ((R 0).or (R 1)).or (R 2) := by
  rw [fo, fo, fo, fo]
  cases R 0 <;> cases R 1 <;> cases R 2 <;> rfl

theorem row_at {wr : World} {G : Nat} {cs : List Value} {ty : TypeId} {fs : List Fv} (h : At wr G cs.toArray ty) (hc : cs = fs.map Fv.v) : ∀ j (hj : j < fs.length), wr.cell? ⟨G, 0 + j, none⟩ = some (fs[j]'hj).v := fun j hj => by
  rw [Nat.zero_add, h.cell, hc]
  simp [hj]

theorem two_at (w : World) (o : Obj) (cs : Array Value) (t : TypeId) : At ((w.alloc o).alloc (.cells cs t)) (w.heap.size + 1) cs t := by
  have := At.new (w.alloc o) cs t
  simpa using this

set_option maxHeartbeats 1000000 in
theorem params1_c (w0 : World) (A : Option Addr) (is : List It) (C M Bc Bo B0 B1 : Nat) (ns : List ByteArray) (p : Pj) (mu : Value) (tk : Int) (ts : ByteArray) (tn : Int) (TA : Option Addr) (tl TC : Nat) (refs : Bool) (w : World) (hT : Tab w0) (hi : IsIn w0 is A) (hx : TIn w0 p.t [.int .i64 tk, .string ts, .int .i64 tn, .slice TA tl TC])
    (hE : Env w0 A is.length C M Bc Bo B0 w) (h1 : At w B1 #[.bool refs] 4) (hM : SetAt w M ns) :
    Calls Tryz.prog 85 #[.agg #[.string p.s, mu, .int .i64 tk, .string ts, .int .i64 tn, .slice TA tl TC, .int .i64 p.a], .pointer (some ⟨Bo, 0, none⟩), .pointer (some ⟨B0, 0, none⟩), .pointer (some ⟨B1, 0, none⟩)] w
      fun e w' => e = .returned (errV (prm is refs ns p)) ∧ Below w0.heap.size w0 w' ∧ (prm is refs ns p = none → Env w0 A is.length C M Bc Bo B0 w' ∧ At w' B1 #[.bool refs] 4 ∧ SetAt w' M (ns ++ [p.s])) := by
  obtain ⟨s, t, a⟩ := p
  simp only at hx
  obtain ⟨W, hW⟩ : ∃ W, (w.alloc (.cells #[.string s, mu, .int .i64 tk, .string ts, .int .i64 tn, .slice TA tl TC, .int .i64 a] 88)).alloc (.cells #[.func (.func 86) #[] #[.pointer (some ⟨Bo, 0, none⟩), .pointer (some ⟨w.heap.size, 0, none⟩)], .func (.func 87) #[] #[.pointer (some ⟨w.heap.size, 0, none⟩), .pointer (some ⟨B0, 0, none⟩), .pointer (some ⟨B1, 0, none⟩)]] 52) = W := ⟨_, rfl⟩
  have hWb : Below w.heap.size w W := by rw [← hW]; exact two_alloc _ _ _
  have hp : At W w.heap.size #[.string s, mu, .int .i64 tk, .string ts, .int .i64 tn, .slice TA tl TC, .int .i64 a] 88 := by rw [← hW]; exact (At.new _ _ _).alloc _
  have hG : At W (w.heap.size + 1) #[.func (.func 86) #[] #[.pointer (some ⟨Bo, 0, none⟩), .pointer (some ⟨w.heap.size, 0, none⟩)], .func (.func 87) #[] #[.pointer (some ⟨w.heap.size, 0, none⟩), .pointer (some ⟨B0, 0, none⟩), .pointer (some ⟨B1, 0, none⟩)]] 52 := by rw [← hW]; exact two_at _ _ _ _
  have FC := firstOf_c [⟨86, #[], #[.pointer (some ⟨Bo, 0, none⟩), .pointer (some ⟨w.heap.size, 0, none⟩)]⟩, ⟨87, #[], #[.pointer (some ⟨w.heap.size, 0, none⟩), .pointer (some ⟨B0, 0, none⟩), .pointer (some ⟨B1, 0, none⟩)]⟩] (by simp)
    (fun f hf => by
      simp only [List.mem_cons, List.not_mem_nil, or_false] at hf
      rcases hf with rfl | rfl
      · exact enters_of Tryz.func86 (by kernel_rfl) rfl
      · exact enters_of Tryz.func87 (by kernel_rfl) rfl) (w.heap.size + 1) 0 2
    (fun k => if k = 0 then (if isIn s ns = true then some (a, 40) else none) else nz a (tyE is t refs))
    (fun k wr => Env w0 A is.length C M Bc Bo B0 wr ∧ At wr B1 #[.bool refs] 4 ∧ At wr w.heap.size #[.string s, mu, .int .i64 tk, .string ts, .int .i64 tn, .slice TA tl TC, .int .i64 a] 88 ∧ At wr (w.heap.size + 1) #[.func (.func 86) #[] #[.pointer (some ⟨Bo, 0, none⟩), .pointer (some ⟨w.heap.size, 0, none⟩)], .func (.func 87) #[] #[.pointer (some ⟨w.heap.size, 0, none⟩), .pointer (some ⟨B0, 0, none⟩), .pointer (some ⟨B1, 0, none⟩)]] 52 ∧ SetAt wr M (if k = 0 then ns else ns ++ [s]))
    (fun wr => Below w0.heap.size w0 wr) W
    (fun k wr h => row_at (cs := [_, _]) h.2.2.2.1 rfl) (fun k wr h => h.1.bl)
    (fun k hk wr h => by
      obtain ⟨e1, e2, e3, e4, e5⟩ := h
      match k, hk with
      | 0, _ =>
        refine (params11_c w0 A is.length C M Bc Bo B0 w.heap.size ns s mu _ _ _ _ a wr e1 e5 e3).mono ?_
        rintro e w' ⟨rfl, h2, h3⟩
        refine ⟨rfl, h2.below e1.bl e1.hM e1.bl.size, fun hn => ⟨e1.but e5 h2, h2.at e2 (set_ne e2 e5), h2.at e3 (set_ne e3 e5), h2.at e4 (set_ne e4 e5), h3 ?_⟩⟩
        cases hq : isIn s ns with
        | false => rfl
        | true => simp [hq] at hn
      | 1, _ =>
        refine (params12_c w0 A is C M Bc Bo B0 B1 w.heap.size s mu t tk ts tn TA tl TC a refs wr hT hi hx e1 e2 e3).mono ?_
        rintro e w' ⟨rfl, h2⟩
        exact ⟨rfl, e1.bl.trans (h2.mono e1.bl.size), fun _ => ⟨e1.below h2, e2.below h2 e2.lt, e3.below h2 e3.lt, e4.below h2 e4.lt, e5.below h2 e5.lt⟩⟩
      | k + 2, hk => exact absurd hk (by simp))
    ⟨hE.below hWb, h1.below hWb h1.lt, hp, hG, hM.below hWb hM.lt⟩
  have hv : fo (fun k => if k = 0 then (if isIn s ns = true then some (a, 40) else none) else nz a (tyE is t refs)) 0 2 = prm is refs ns ⟨s, t, a⟩ := by rw [fo_two]; rfl
  simp only [List.length_cons, List.length_nil, Nat.zero_add, Nat.reduceAdd] at FC
  rw [hv] at FC
  generalize prm is refs ns ⟨s, t, a⟩ = X at FC
  have FCH : Hid (Calls Tryz.prog 28 #[.slice (some ⟨w.heap.size + 1, 0, none⟩) 2 2] W fun e w' => e = .returned (errV X) ∧ Below w0.heap.size w0 w' ∧ (X = none → Env w0 A is.length C M Bc Bo B0 w' ∧ At w' B1 #[.bool refs] 4 ∧ SetAt w' M (ns ++ [s]))) := FC.mono fun e w' h => ⟨h.1, h.2.1, fun hn => by
    obtain ⟨e1, e2, _, _, e5⟩ := h.2.2 hn
    exact ⟨e1, e2, e5⟩⟩
  generalize errV X = V at FCH
  rw [← hW] at FCH
  clear FC hv hp hG hWb hE h1 hM hT hi hx hW
  simp only
  go_enter Tryz.func85, Tryz.ntmps85
  go_wp2_with (go_at_call 28; refine FCH.out.mono ?_; rintro e w1 ⟨rfl, hk1⟩; have HK1 : Hid (Below w0.heap.size w0 w1 ∧ (X = none → Env w0 A is.length C M Bc Bo B0 w1 ∧ At w1 B1 #[.bool refs] 4 ∧ SetAt w1 M (ns ++ [s]))) := hk1; clear hk1)
  go_ret
  exact ⟨rfl, HK1.out⟩

/-- What is wrong first with a list of params. -/
def prmAt (is : List It) (refs : Bool) (ps : List Pj) (k : Nat) : Option (Int × Int) :=
  match ps[k]? with
  | some p => prm is refs ((ps.take k).map (·.s)) p
  | none => none

def pck (is : List It) (refs : Bool) (ps : List Pj) : Option (Int × Int) := fo (prmAt is refs ps) 0 ps.length

theorem take_names {α : Type} (f : α → ByteArray) (ps : List α) (k : Nat) (h : k < ps.length) : (ps.take (k + 1)).map f = (ps.take k).map f ++ [f ps[k]] := by
  rw [take_succ' ps k h, List.map_append]
  rfl

theorem five_alloc (w : World) (a b c d e : Obj) : Below w.heap.size w (((((w.alloc a).alloc b).alloc c).alloc d).alloc e) := below_next (three_alloc _ _ _ _) (two_alloc _ _ _)

theorem set_new (w : World) : SetAt (w.alloc (.map #[] 0)) w.heap.size [] := by
  show (w.heap.push _)[w.heap.size]? = _
  simp [ents]

theorem madeE (w : World) : (Instr.makeMap 67 none).run Tryz.prog w = .ok (.map (some w.heap.size)) (w.alloc (.map #[] 0)) := rfl

set_option maxHeartbeats 1000000 in
theorem params_c (A : Option Addr) (is : List It) (C : Nat) (ps : List Pj) (P : Option Addr) (PC : Nat) (refs : Bool) (w : World) (hT : Tab w) (hi : IsIn w is A) (hp : PjIn w ps P) :
    Calls Tryz.prog 62 #[.slice A is.length C, .slice P ps.length PC, .bool refs] w fun e w' => e = .returned (errV (pck is refs ps)) ∧ Below w.heap.size w w' := by
  obtain ⟨W, hW⟩ : ∃ W, ((((w.alloc (.cells #[.slice A is.length C] 51)).alloc (.cells #[.bool refs] 4)).alloc (.map #[] 0)).alloc (.cells #[.map (some (w.heap.size + 2))] 67)).alloc (.cells #[.func (.func 49) #[] #[.pointer (some ⟨w.heap.size + 3, 0, none⟩)]] 82) = W := ⟨_, rfl⟩
  have hb : Below w.heap.size w W := by rw [← hW]; exact five_alloc _ _ _ _ _ _
  have h0 : At W w.heap.size #[.slice A is.length C] 51 := by rw [← hW]; exact ((((At.new _ _ _).alloc _).alloc _).alloc _).alloc _
  have h1 : At W (w.heap.size + 1) #[.bool refs] 4 := by rw [← hW]; exact (((two_at _ _ _ _).alloc _).alloc _).alloc _
  have hs : SetAt W (w.heap.size + 2) [] := by
    rw [← hW]
    have := set_new ((w.alloc (.cells #[.slice A is.length C] 51)).alloc (.cells #[.bool refs] 4))
    have h2 := this.below (two_alloc _ (.cells #[.map (some (w.heap.size + 2))] 67) (.cells #[.func (.func 49) #[] #[.pointer (some ⟨w.heap.size + 3, 0, none⟩)]] 82)) this.lt
    simpa using h2
  have h3 : At W (w.heap.size + 3) #[.map (some (w.heap.size + 2))] 67 := by
    rw [← hW]
    have := (two_at ((w.alloc (.cells #[.slice A is.length C] 51)).alloc (.cells #[.bool refs] 4)) (.map #[] 0) #[.map (some (w.heap.size + 2))] 67).alloc (.cells #[.func (.func 49) #[] #[.pointer (some ⟨w.heap.size + 3, 0, none⟩)]] 82)
    simpa using this
  have h4 : At W (w.heap.size + 4) #[.func (.func 49) #[] #[.pointer (some ⟨w.heap.size + 3, 0, none⟩)]] 82 := by
    rw [← hW]
    have := At.new ((((w.alloc (.cells #[.slice A is.length C] 51)).alloc (.cells #[.bool refs] 4)).alloc (.map #[] 0)).alloc (.cells #[.map (some (w.heap.size + 2))] 67)) #[.func (.func 49) #[] #[.pointer (some ⟨w.heap.size + 3, 0, none⟩)]] 82
    simpa using this
  obtain ⟨ecs, hecs⟩ : ∃ ecs : Nat → List Value, ∀ k (h : k < ps.length), ∃ b o, P = some ⟨b, o, none⟩ ∧ RowAt w b (o + k * 7) (ecs k) ∧ PIn w (ps[k]'h) (ecs k) := by
    refine ⟨fun k => if h : k < ps.length then Classical.choose (Classical.choose_spec (Classical.choose_spec (hp.2 k h))) else [], fun k h => ?_⟩
    simp only [dif_pos h]
    have := Classical.choose_spec (Classical.choose_spec (Classical.choose_spec (hp.2 k h)))
    exact ⟨_, _, this.1, this.2.1, this.2.2⟩
  obtain ⟨b, o, hbo⟩ : ∃ b o, 0 < ps.length → P = some ⟨b, o, none⟩ := by
    by_cases h : 0 < ps.length
    · obtain ⟨b, o, h1, _⟩ := hecs 0 h
      exact ⟨b, o, fun _ => h1⟩
    · exact ⟨0, 0, fun h' => absurd h' h⟩
  have FC := eachParam_c ⟨85, #[], #[.pointer (some ⟨w.heap.size + 4, 0, none⟩), .pointer (some ⟨w.heap.size, 0, none⟩), .pointer (some ⟨w.heap.size + 1, 0, none⟩)]⟩ (enters_of Tryz.func85 (by kernel_rfl) rfl) ps.length hp.1 ecs P b o PC hbo
    (fun k hk => by
      obtain ⟨_, _, _, _, mu, ct, h1, h2⟩ := hecs k hk
      generalize ps[k].t = t at h2
      obtain ⟨tk, ts, tn, tes⟩ := t
      obtain ⟨TA, TC, rfl, _⟩ := h2.inv
      exact ⟨_, mu, tk, ts, tn, TA, _, TC, _, h1⟩)
    (prmAt is refs ps)
    (fun k wr => Env w A is.length C (w.heap.size + 2) (w.heap.size + 3) (w.heap.size + 4) w.heap.size wr ∧ At wr (w.heap.size + 1) #[.bool refs] 4 ∧ SetAt wr (w.heap.size + 2) ((ps.take k).map (·.s)))
    (fun wr => Below w.heap.size w wr) W
    (fun k wr h hk => by
      obtain ⟨b', o', e1, e2, _⟩ := hecs k hk
      obtain ⟨rfl, rfl⟩ : b' = b ∧ o' = o := by
        have := e1.symm.trans (hbo (by omega))
        simpa using this
      exact e2.below h.1.bl)
    (fun k wr h => h.1.bl)
    (fun k wr hk h wb hwb => by
      obtain ⟨_, _, _, _, mu, ct, e1, e2⟩ := hecs k hk
      obtain ⟨g1, g2, g3⟩ := h
      have hR : prmAt is refs ps k = prm is refs ((ps.take k).map (·.s)) ps[k] := by simp [prmAt, hk]
      have htk := take_names (·.s) ps k hk
      rw [hR, htk]
      generalize ps[k] = p at e1 e2
      obtain ⟨s, t, a⟩ := p
      obtain ⟨tk, ts, tn, tes⟩ := t
      obtain ⟨TA, TC, rfl, _⟩ := e2.inv
      rw [e1]
      exact params1_c w A is C (w.heap.size + 2) (w.heap.size + 3) (w.heap.size + 4) w.heap.size (w.heap.size + 1) _ ⟨s, .mk tk ts tn tes, a⟩ (.bool mu) tk ts tn TA tes.length TC refs wb hT hi e2 (g1.below hwb) (g2.below hwb g2.lt) (g3.below hwb g3.lt))
    ⟨⟨h0, h3, h4, hb, by omega⟩, h1, hs⟩
  have FCH : Hid (Calls Tryz.prog 84 #[.slice P ps.length PC, .func (.func 85) #[] #[.pointer (some ⟨w.heap.size + 4, 0, none⟩), .pointer (some ⟨w.heap.size, 0, none⟩), .pointer (some ⟨w.heap.size + 1, 0, none⟩)]] W fun e w' => e = .returned (errV (pck is refs ps)) ∧ Below w.heap.size w w') := FC.mono fun e w' h => ⟨h.1, h.2.1⟩
  generalize errV (pck is refs ps) = V at FCH
  have NN := fun w' => newNames_c (w.heap.size + 2) w'
  have NNH : Hid (∀ w', Calls Tryz.prog 27 #[.map (some (w.heap.size + 2))] w' fun e w'' => e = .returned (.func (.func 49) #[] #[.pointer (some ⟨w'.heap.size, 0, none⟩)]) ∧ w'' = w'.alloc (.cells #[.map (some (w.heap.size + 2))] 67)) := NN
  have hm := madeE
  rw [← hW] at FCH
  clear FC hb h0 h1 hs h3 h4 hecs hbo hW hT hi hp NN
  go_enter Tryz.func62, Tryz.ntmps62
  go_wp2_with (first
    | (go_at_call 27; refine (NNH.out _).mono ?_; rintro e w1 ⟨rfl, rfl⟩)
    | (go_at_call 84; refine FCH.out.mono ?_; rintro e w1 ⟨rfl, hk1⟩; have HK1 : Hid (Below w.heap.size w w1) := hk1; clear hk1))
  go_ret
  exact ⟨rfl, HK1.out⟩

end Go.Proofs.YtjdkoahbahecoaaGreatDoor
