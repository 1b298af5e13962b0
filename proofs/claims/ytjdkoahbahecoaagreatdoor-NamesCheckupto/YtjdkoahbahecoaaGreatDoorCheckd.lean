/-
  Proved: what check tells of a program's items.
-/
import Derived.Test.YtjdkoahbahecoaaGreatDoorItems
namespace Go.Proofs.YtjdkoahbahecoaaGreatDoor
open Go.RowKit

attribute [local go_sem ↓] fold38 foldS

/-- An item's name is asked for. -/
theorem check11_c (w0 : World) (A : Option Addr) (l C M Bc Bo B0 : Nat) (ns : List ByteArray) (j : Jt) (cs : List Value) (w : World) (hj : JIn w0 j cs) (hE : Env w0 A l C M Bc Bo B0 w) (hM : SetAt w M ns) :
    Calls Tryz.prog 31 #[.agg cs.toArray, .pointer (some ⟨Bo, 0, none⟩)] w fun e w' => e = .returned (errV (if isIn j.s ns = true then some (j.a, 40) else none)) ∧ But M w w' ∧ (isIn j.s ns = false → SetAt w' M (ns ++ [j.s])) := by
  obtain ⟨P, PC, V, VC, tk, ts, tn, TA, tl, TC, _, _, _, _, e4⟩ := hj.cel
  have cc := e4 (w.alloc (.cells cs.toArray 43)) w.heap.size (At.new _ _ _)
  have c1 := cc.c1
  have c2 := cc.c2
  have hb : Below w.heap.size w (w.alloc (.cells cs.toArray 43)) := below_alloc _ _
  have hE1 := hE.below hb
  have OC : Hid (Calls Tryz.prog 49 #[.string j.s, .int .i64 j.a, .pointer (some ⟨Bc, 0, none⟩)] (w.alloc (.cells cs.toArray 43)) fun e w' => e = .returned (errV (if isIn j.s ns = true then some (j.a, 40) else none)) ∧ But M w w' ∧ (isIn j.s ns = false → SetAt w' M (ns ++ [j.s]))) := (once_c j.s j.a Bc M ns _ hE1.ac (hM.below hb hM.lt)).mono fun e w' h => ⟨h.1, (But.of hb).trans h.2.1, h.2.2⟩
  have o0 : w.cell? ⟨Bo, 0, none⟩ = some (.func (.func 49) #[] #[.pointer (some ⟨Bc, 0, none⟩)]) := (hE.ao.cell 0).trans rfl
  have oz := hE.ao.lt
  generalize errV (if isIn j.s ns = true then some (j.a, 40) else none) = V at OC
  generalize j.s = js at OC c1
  generalize j.a = ja at OC c2
  generalize cs.toArray = ca at *
  clear hE hM hj e4 cc hb hE1
  go_enter Tryz.func31, Tryz.ntmps31
  go_wp2_with (go_at_call 49; refine OC.out.mono ?_; rintro e w1 ⟨rfl, h1⟩; have H1 : Hid (But M w w1 ∧ (isIn js ns = false → SetAt w1 M (ns ++ [js]))) := h1; clear h1)
  go_ret
  exact ⟨rfl, H1.out⟩

/-- Which item's name is taken first. -/
def dckAt (js : List Jt) (k : Nat) : Option (Int × Int) :=
  match js[k]? with
  | some j => if isIn j.s (ownL ++ (js.take k).map (·.s)) = true then some (j.a, 40) else none
  | none => none

def dck (js : List Jt) : Option (Int × Int) := fo (dckAt js) 0 js.length

theorem JsIn.cells {w : World} {js : List Jt} {A : Option Addr} (h : JsIn w js A) : ∃ (ecs : Nat → List Value) (b o : Nat), (0 < js.length → A = some ⟨b, o, none⟩) ∧ ∀ k (hk : k < js.length), RowAt w b (o + k * 20) (ecs k) ∧ JIn w (js[k]'hk) (ecs k) := by
  by_cases h0 : 0 < js.length
  · obtain ⟨b, o, _, e, _⟩ := h.2 0 h0
    have h2 : ∀ k (hk : k < js.length), ∃ cs, RowAt w b (o + k * 20) cs ∧ JIn w (js[k]'hk) cs := fun k hk => by
      obtain ⟨b', o', cs, e1, e2, e3⟩ := h.2 k hk
      rw [e] at e1
      simp only [Option.some.injEq, Addr.mk.injEq, and_true] at e1
      obtain ⟨rfl, rfl⟩ := e1
      exact ⟨cs, e2, e3⟩
    refine ⟨fun k => if hk : k < js.length then Classical.choose (h2 k hk) else [], b, o, fun _ => e, fun k hk => ?_⟩
    simp only [dif_pos hk]
    exact Classical.choose_spec (h2 k hk)
  · exact ⟨fun _ => [], 0, 0, fun h => absurd h h0, fun k hk => absurd hk (by omega)⟩

set_option maxHeartbeats 1000000 in
theorem check1_c (w0 : World) (A : Option Addr) (js : List Jt) (C M Bc Bo B0 : Nat) (w : World) (hi : JsIn w0 js A) (hE : Env w0 A js.length C M Bc Bo B0 w) (hM : SetAt w M ownL) :
    Calls Tryz.prog 29 #[.pointer (some ⟨B0, 0, none⟩), .pointer (some ⟨Bo, 0, none⟩)] w fun e w' => e = .returned (errV (dck js)) ∧ But M w w' := by
  obtain ⟨ecs, b, o, hbo, hecs⟩ := hi.cells
  have FC := eachItem_c ⟨31, #[], #[.pointer (some ⟨Bo, 0, none⟩)]⟩ (enters_of Tryz.func31 (by kernel_rfl) rfl) js.length hi.1 ecs A b o C hbo
    (fun k hk => (hecs k hk).2.twenty)
    (dckAt js)
    (fun k wr => (Env w0 A js.length C M Bc Bo B0 wr ∧ But M w wr) ∧ SetAt wr M (ownL ++ (js.take k).map (·.s)))
    (fun wr => But M w wr) w
    (fun k wr h hk => (hecs k hk).1.below h.1.1.bl)
    (fun k wr h => h.1.2)
    (fun k wr hk h wb hwb => by
      obtain ⟨⟨g1, g2⟩, g3⟩ := h
      have hR : dckAt js k = if isIn js[k].s (ownL ++ (js.take k).map (·.s)) = true then some (js[k].a, 40) else none := by simp only [dckAt, List.getElem?_eq_getElem hk]
      have htk := take_names (·.s) js k hk
      rw [hR, htk, ← List.append_assoc]
      have e1 := g1.below hwb
      have e3 := g3.below hwb g3.lt
      refine (check11_c w0 A js.length C M Bc Bo B0 _ js[k] _ wb (hecs k hk).2 e1 e3).mono ?_
      rintro e w' ⟨rfl, h2, h3⟩
      have g4 := (g2.trans (But.of hwb)).trans h2
      refine ⟨rfl, g4, fun hn => ⟨⟨e1.but e3 h2, g4⟩, h3 ?_⟩⟩
      cases hq : isIn js[k].s (ownL ++ (js.take k).map (·.s)) with
      | false => rfl
      | true => rw [hq, if_pos rfl] at hn; cases hn)
    ⟨⟨hE, But.of (Below.refl _ _)⟩, by simpa using hM⟩
  have FCH : Hid (Calls Tryz.prog 30 #[.slice A js.length C, .func (.func 31) #[] #[.pointer (some ⟨Bo, 0, none⟩)]] w fun e w' => e = .returned (errV (dck js)) ∧ But M w w') := FC.mono fun e w' h => ⟨h.1, h.2.1⟩
  generalize errV (dck js) = X at FCH
  have c0 : w.cell? ⟨B0, 0, none⟩ = some (.slice A js.length C) := (hE.a0.cell 0).trans rfl
  clear FC hecs hbo hi hE hM
  go_enter Tryz.func29, Tryz.ntmps29
  go_wp2_with (go_at_call 30; refine FCH.out.mono ?_; rintro e w1 ⟨rfl, hk1⟩; have HK1 : Hid (But M w w1) := hk1; clear hk1)
  go_ret
  exact ⟨rfl, HK1.out⟩

/-- What is wrong first with items by themselves. -/
def ickAt (js : List Jt) (k : Nat) : Option (Int × Int) :=
  match js[k]? with
  | some j => ick (its js) j
  | none => none

def ckI (js : List Jt) : Option (Int × Int) := fo (ickAt js) 0 js.length

set_option maxHeartbeats 1000000 in
theorem check2_c (w0 : World) (A : Option Addr) (js : List Jt) (hf : ∀ j ∈ js, j.ps.length ≤ 300) (C B0 : Nat) (w : World) (hT : Tab w0) (hS : Shp w0) (hi : JsIn w0 js A) (h0 : At w B0 #[.slice A js.length C] 51) (hbl : Below w0.heap.size w0 w) :
    Calls Tryz.prog 32 #[.pointer (some ⟨B0, 0, none⟩)] w fun e w' => e = .returned (errV (ckI js)) ∧ Below w.heap.size w w' := by
  obtain ⟨ecs, b, o, hbo, hecs⟩ := hi.cells
  have FC := eachItem_c ⟨33, #[.slice A js.length C], #[]⟩ (enters_of Tryz.func33 (by kernel_rfl) rfl) js.length hi.1 ecs A b o C hbo
    (fun k hk => (hecs k hk).2.twenty)
    (ickAt js)
    (fun _ wr => Below w.heap.size w wr)
    (fun wr => Below w.heap.size w wr) w
    (fun k wr h hk => (hecs k hk).1.below (hbl.trans (h.mono hbl.size)))
    (fun k wr h => h)
    (fun k wr hk h wb hwb => by
      have hb2 := below_next h hwb
      have hb3 := hbl.trans (hb2.mono hbl.size)
      have hR : ickAt js k = ick (its js) js[k] := by simp [ickAt, hk]
      rw [hR]
      have := item_c A (its js) C js[k] (ecs k) (hf _ (List.getElem_mem hk)) wb (hT.below hb3) (hS.below hb3) (hi.is.below hb3) ((hecs k hk).2.stays hb3)
      rw [its_len] at this
      refine this.mono ?_
      rintro e w' ⟨rfl, h2⟩
      exact ⟨rfl, below_next hb2 h2, fun _ => below_next hb2 h2⟩)
    (Below.refl _ _)
  have FCH : Hid (Calls Tryz.prog 30 #[.slice A js.length C, .func (.func 33) #[.slice A js.length C] #[]] w fun e w' => e = .returned (errV (ckI js)) ∧ Below w.heap.size w w') := FC.mono fun e w' h => ⟨h.1, h.2.1⟩
  generalize errV (ckI js) = X at FCH
  have c0 : w.cell? ⟨B0, 0, none⟩ = some (.slice A js.length C) := (h0.cell 0).trans rfl
  clear FC hecs hbo hi h0 hbl hT hS
  go_enter Tryz.func32, Tryz.ntmps32
  go_wp2_with (go_at_call 30; refine FCH.out.mono ?_; rintro e w1 ⟨rfl, hk1⟩; have HK1 : Hid (Below w.heap.size w w1) := hk1; clear hk1)
  go_ret
  exact ⟨rfl, HK1.out⟩

/-- What is wrong first with a program's items. -/
def chk (js : List Jt) : Option (Int × Int) := ((dck js).or (ckI js)).or (mnc js)

set_option maxHeartbeats 1000000 in
theorem check_c (A : Option Addr) (js : List Jt) (hf : ∀ j ∈ js, j.ps.length ≤ 300) (C : Nat) (w : World) (hT : Tab w) (hS : Shp w) (hi : JsIn w js A) :
    Calls Tryz.prog 13 #[.slice A js.length C] w fun e w' => e = .returned (errV (chk js)) ∧ Below w.heap.size w w' := by
  obtain ⟨W, hW⟩ : ∃ W, ((((w.alloc (.cells #[.slice A js.length C] 51)).alloc (.map (ownEs 12) 12)).alloc (.cells #[.map (some (w.heap.size + 1))] 67)).alloc (.cells #[.func (.func 49) #[] #[.pointer (some ⟨w.heap.size + 2, 0, none⟩)]] 82)).alloc (.cells #[.func (.func 29) #[] #[.pointer (some ⟨w.heap.size, 0, none⟩), .pointer (some ⟨w.heap.size + 3, 0, none⟩)], .func (.func 32) #[] #[.pointer (some ⟨w.heap.size, 0, none⟩)], .func (.func 34) #[.slice A js.length C] #[]] 52) = W := ⟨_, rfl⟩
  have hb : Below w.heap.size w W := by rw [← hW]; exact five_alloc _ _ _ _ _ _
  have h0 : At W w.heap.size #[.slice A js.length C] 51 := by rw [← hW]; exact ((((At.new _ _ _).alloc _).alloc _).alloc _).alloc _
  have hs : SetAt W (w.heap.size + 1) ownL := by
    rw [← hW]
    have := alloc_set _ (.cells #[.func (.func 29) #[] #[.pointer (some ⟨w.heap.size, 0, none⟩), .pointer (some ⟨w.heap.size + 3, 0, none⟩)], .func (.func 32) #[] #[.pointer (some ⟨w.heap.size, 0, none⟩)], .func (.func 34) #[.slice A js.length C] #[]] 52) (alloc_set _ (.cells #[.func (.func 49) #[] #[.pointer (some ⟨w.heap.size + 2, 0, none⟩)]] 82) (alloc_set _ (.cells #[.map (some (w.heap.size + 1))] 67) (own_at (w.alloc (.cells #[.slice A js.length C] 51)))))
    rw [World.size_alloc] at this
    exact this
  have h2 : At W (w.heap.size + 2) #[.map (some (w.heap.size + 1))] 67 := by
    rw [← hW]
    exact ((three_at _ _ _ _ _).alloc _).alloc _
  have h3 : At W (w.heap.size + 3) #[.func (.func 49) #[] #[.pointer (some ⟨w.heap.size + 2, 0, none⟩)]] 82 := by
    rw [← hW]
    have := (three_at (w.alloc (.cells #[.slice A js.length C] 51)) (.map (ownEs 12) 12) (.cells #[.map (some (w.heap.size + 1))] 67) #[.func (.func 49) #[] #[.pointer (some ⟨w.heap.size + 2, 0, none⟩)]] 82)
    rw [World.size_alloc] at this
    exact this.alloc _
  have h4 : At W (w.heap.size + 4) #[.func (.func 29) #[] #[.pointer (some ⟨w.heap.size, 0, none⟩), .pointer (some ⟨w.heap.size + 3, 0, none⟩)], .func (.func 32) #[] #[.pointer (some ⟨w.heap.size, 0, none⟩)], .func (.func 34) #[.slice A js.length C] #[]] 52 := by
    rw [← hW]
    have := three_at ((w.alloc (.cells #[.slice A js.length C] 51)).alloc (.map (ownEs 12) 12)) (.cells #[.map (some (w.heap.size + 1))] 67) (.cells #[.func (.func 49) #[] #[.pointer (some ⟨w.heap.size + 2, 0, none⟩)]] 82) #[.func (.func 29) #[] #[.pointer (some ⟨w.heap.size, 0, none⟩), .pointer (some ⟨w.heap.size + 3, 0, none⟩)], .func (.func 32) #[] #[.pointer (some ⟨w.heap.size, 0, none⟩)], .func (.func 34) #[.slice A js.length C] #[]] 52
    rw [World.size_alloc, World.size_alloc] at this
    exact this
  have FC := firstOf_c [⟨29, #[], #[.pointer (some ⟨w.heap.size, 0, none⟩), .pointer (some ⟨w.heap.size + 3, 0, none⟩)]⟩, ⟨32, #[], #[.pointer (some ⟨w.heap.size, 0, none⟩)]⟩, ⟨34, #[.slice A js.length C], #[]⟩] (by simp)
    (fun f hf => by
      simp only [List.mem_cons, List.not_mem_nil, or_false] at hf
      rcases hf with rfl | rfl | rfl
      · exact enters_of Tryz.func29 (by kernel_rfl) rfl
      · exact enters_of Tryz.func32 (by kernel_rfl) rfl
      · exact enters_of Tryz.func34 (by kernel_rfl) rfl) (w.heap.size + 4) 0 3
    (fun k => if k = 0 then dck js else if k = 1 then ckI js else mnc js)
    (fun k wr => (At wr w.heap.size #[.slice A js.length C] 51 ∧ Below w.heap.size w wr) ∧ At wr (w.heap.size + 4) #[.func (.func 29) #[] #[.pointer (some ⟨w.heap.size, 0, none⟩), .pointer (some ⟨w.heap.size + 3, 0, none⟩)], .func (.func 32) #[] #[.pointer (some ⟨w.heap.size, 0, none⟩)], .func (.func 34) #[.slice A js.length C] #[]] 52 ∧ (k = 0 → wr = W))
    (fun wr => Below w.heap.size w wr) W
    (fun k wr h => row_at (cs := [_, _, _]) h.2.1 rfl) (fun k wr h => h.1.2)
    (fun k hk wr h => by
      obtain ⟨⟨e0, e1⟩, e2, e3⟩ := h
      match k, hk with
      | 0, _ =>
        obtain rfl := e3 rfl
        refine (check1_c w A js C (w.heap.size + 1) (w.heap.size + 2) (w.heap.size + 3) w.heap.size wr hi ⟨h0, h2, h3, hb, by omega⟩ hs).mono ?_
        rintro e w' ⟨rfl, h2⟩
        have hb3 := h2.below hb (by omega) hb.size
        exact ⟨rfl, hb3, fun _ => ⟨⟨h2.at e0 (by omega), hb3⟩, h2.at e2 (by omega), fun h => by omega⟩⟩
      | 1, _ =>
        refine (check2_c w A js hf C w.heap.size wr hT hS hi e0 e1).mono ?_
        rintro e w' ⟨rfl, h2⟩
        exact ⟨rfl, e1.trans (h2.mono e1.size), fun _ => ⟨⟨e0.below h2 e0.lt, e1.trans (h2.mono e1.size)⟩, e2.below h2 e2.lt, fun h => by omega⟩⟩
      | 2, _ =>
        refine (main_c A js C wr (hi.below e1)).mono ?_
        rintro e w' ⟨rfl, h2⟩
        exact ⟨rfl, e1.trans (h2.mono e1.size), fun _ => ⟨⟨e0.below h2 e0.lt, e1.trans (h2.mono e1.size)⟩, e2.below h2 e2.lt, fun h => by omega⟩⟩
      | k + 3, hk => exact absurd hk (by simp))
    ⟨⟨h0, hb⟩, h4, fun _ => rfl⟩
  have hv : fo (fun k => if k = 0 then dck js else if k = 1 then ckI js else mnc js) 0 3 = chk js := by rw [fo_three]; rfl
  simp only [List.length_cons, List.length_nil, Nat.zero_add, Nat.reduceAdd] at FC
  rw [hv] at FC
  have FCH : Hid (Calls Tryz.prog 28 #[.slice (some ⟨w.heap.size + 4, 0, none⟩) 3 3] W fun e w' => e = .returned (errV (chk js)) ∧ Below w.heap.size w w') := FC.mono fun e w' h => ⟨h.1, h.2.1⟩
  generalize errV (chk js) = X at FCH
  have NNH : Hid (∀ w', Calls Tryz.prog 27 #[.map (some (w.heap.size + 1))] w' fun e w'' => e = .returned (.func (.func 49) #[] #[.pointer (some ⟨w'.heap.size, 0, none⟩)]) ∧ w'' = w'.alloc (.cells #[.map (some (w.heap.size + 1))] 67)) := fun w' => newNames_c (w.heap.size + 1) w'
  have ONH : Hid (∀ w', Calls Tryz.prog 22 #[] w' fun e w'' => e = .returned (.map (some w'.heap.size)) ∧ w'' = w'.alloc (.map (ownEs 12) 12)) := ownNames_c
  rw [← hW] at FCH
  clear FC hv h0 h2 h3 h4 hs hb hW hT hS hi
  go_enter Tryz.func13, Tryz.ntmps13
  go_wp2_with (first
    | (go_at_call 22; refine (ONH.out _).mono ?_; rintro e w1 ⟨rfl, rfl⟩)
    | (go_at_call 27; refine (NNH.out _).mono ?_; rintro e w1 ⟨rfl, rfl⟩)
    | (go_at_call 28; refine FCH.out.mono ?_; rintro e w1 ⟨rfl, hk1⟩; have HK1 : Hid (Below w.heap.size w w1) := hk1; clear hk1))
  go_ret
  exact ⟨rfl, HK1.out⟩

end Go.Proofs.YtjdkoahbahecoaaGreatDoor
