/-
  Proved: what item and main tell; what the closures of check tell.
-/
import Derived.Test.YtjdkoahbahecoaaGreatDoorConst
namespace Go.Proofs.YtjdkoahbahecoaaGreatDoor
open Go.RowKit

attribute [local go_sem ↓] fold38 foldS

/-- What is wrong with an item by itself. -/
def ick (is : List It) (j : Jt) : Option (Int × Int) :=
  if j.k = 1 then fck is j else if j.k = 2 then sck is j else if j.k = 3 then eck is j else if j.k = 4 then cst is j else some (j.a, 10)

set_option maxHeartbeats 2000000 in
theorem item_c (A : Option Addr) (is : List It) (C : Nat) (j : Jt) (cs : List Value) (hf : j.ps.length ≤ 300) (w : World) (hT : Tab w) (hS : Shp w) (hi : IsIn w is A) (hj : JIn w j cs) :
    Calls Tryz.prog 33 #[.slice A is.length C, .agg cs.toArray] w fun e w' => e = .returned (errV (ick is j)) ∧ Below w.heap.size w w' := by
  obtain ⟨P, PC, V, VC, tk, ts, tn, TA, tl, TC, e1, e2, e3, e5, e4⟩ := hj.cel
  have cc := e4 (w.alloc (.cells cs.toArray 43)) w.heap.size (At.new _ _ _)
  have c0 := cc.c0
  have c2 := cc.c2
  have ld := loadBox hj.twenty (At.new w cs.toArray 43)
  have hb : Below w.heap.size w (w.alloc (.cells cs.toArray 43)) := below_alloc _ _
  have F1 : Hid (Calls Tryz.prog 52 #[.slice A is.length C, .agg cs.toArray] (w.alloc (.cells cs.toArray 43)) fun e w' => e = .returned (errV (fck is j)) ∧ Below w.heap.size w w') := (function_c A is C j cs hf _ (hT.below hb) (hi.below hb) (hj.stays hb)).mono fun e w' h => ⟨h.1, below_next hb h.2⟩
  have F2 : Hid (Calls Tryz.prog 53 #[.slice A is.length C, .agg cs.toArray] (w.alloc (.cells cs.toArray 43)) fun e w' => e = .returned (errV (sck is j)) ∧ Below w.heap.size w w') := (structure_c A is C j cs _ (hT.below hb) (hi.below hb) (hj.stays hb)).mono fun e w' h => ⟨h.1, below_next hb h.2⟩
  have F3 : Hid (Calls Tryz.prog 54 #[.slice A is.length C, .agg cs.toArray] (w.alloc (.cells cs.toArray 43)) fun e w' => e = .returned (errV (eck is j)) ∧ Below w.heap.size w w') := (enumeration_c A is C j cs _ (hT.below hb) (hi.below hb) (hj.stays hb)).mono fun e w' h => ⟨h.1, below_next hb h.2⟩
  have F4 : Hid (Calls Tryz.prog 55 #[.slice A is.length C, .agg cs.toArray] (w.alloc (.cells cs.toArray 43)) fun e w' => e = .returned (errV (cst is j)) ∧ Below w.heap.size w w') := (constant_c A is C j cs _ (hT.below hb) (hS.below hb) (hi.below hb) (hj.stays hb)).mono fun e w' h => ⟨h.1, below_next hb h.2⟩
  have HB : Hid (Below w.heap.size w (w.alloc (.cells cs.toArray 43))) := hb
  unfold ick
  generalize j.k = k at c0 ⊢
  generalize j.a = ja at c2 ⊢
  generalize fck is j = X1 at F1 ⊢
  generalize sck is j = X2 at F2 ⊢
  generalize eck is j = X3 at F3 ⊢
  generalize cst is j = X4 at F4 ⊢
  generalize cs.toArray = ca at *
  clear hT hi hj e1 e2 e3 e4 e5 hS cc hb
  by_cases h1 : k = 1
  · subst h1
    rw [if_pos rfl]
    generalize errV X1 = V1 at F1
    go_enter Tryz.func33, Tryz.ntmps33
    go_wp2_with (go_at_call 52; refine F1.out.mono ?_; rintro e w1 ⟨rfl, hk1⟩; have HK1 : Hid (Below w.heap.size w w1) := hk1; clear hk1)
    go_ret
    exact ⟨rfl, HK1.out⟩
  · have g1 : (k == 1) = false := by simpa using h1
    rw [if_neg h1]
    by_cases h2 : k = 2
    · subst h2
      rw [if_pos rfl]
      generalize errV X2 = V2 at F2
      go_enter Tryz.func33, Tryz.ntmps33
      go_wp2_with (go_at_call 53; refine F2.out.mono ?_; rintro e w1 ⟨rfl, hk1⟩; have HK1 : Hid (Below w.heap.size w w1) := hk1; clear hk1)
      go_ret
      exact ⟨rfl, HK1.out⟩
    · have g2 : (k == 2) = false := by simpa using h2
      rw [if_neg h2]
      by_cases h3 : k = 3
      · subst h3
        rw [if_pos rfl]
        generalize errV X3 = V3 at F3
        go_enter Tryz.func33, Tryz.ntmps33
        go_wp2_with (go_at_call 54; refine F3.out.mono ?_; rintro e w1 ⟨rfl, hk1⟩; have HK1 : Hid (Below w.heap.size w w1) := hk1; clear hk1)
        go_ret
        exact ⟨rfl, HK1.out⟩
      · have g3 : (k == 3) = false := by simpa using h3
        rw [if_neg h3]
        by_cases h4 : k = 4
        · subst h4
          rw [if_pos rfl]
          generalize errV X4 = V4 at F4
          go_enter Tryz.func33, Tryz.ntmps33
          go_wp2_with (go_at_call 55; refine F4.out.mono ?_; rintro e w1 ⟨rfl, hk1⟩; have HK1 : Hid (Below w.heap.size w w1) := hk1; clear hk1)
          go_ret
          exact ⟨rfl, HK1.out⟩
        · have g4 : (k == 4) = false := by simpa using h4
          rw [if_neg h4]
          go_enter Tryz.func33, Tryz.ntmps33
          go_wp2
          go_ret
          exact ⟨rfl, HB.out⟩

/-- The name of the function that a run begins with. -/
def mainS : ByteArray := ⟨#[109, 97, 105, 110]⟩

/-- What is wrong with main. -/
def mnc (js : List Jt) : Option (Int × Int) :=
  match fnd 1 mainS (its js) 0 with
  | none => some (0, 42)
  | some i => match js[i]? with
    | none => some (0, 42)
    | some j => if 0 < j.ps.length ∨ ¬ j.t.k = 1 then some (0, 42) else none

set_option maxHeartbeats 1000000 in
theorem main_c (A : Option Addr) (js : List Jt) (C : Nat) (w : World) (hi : JsIn w js A) :
    Calls Tryz.prog 34 #[.slice A js.length C] w fun e w' => e = .returned (errV (mnc js)) ∧ Below w.heap.size w w' := by
  have FD : Hid (Calls Tryz.prog 56 #[.slice A js.length C, .int .i64 1, .string ⟨#[109, 97, 105, 110]⟩] w fun e w' => e = .returned (fstV (fnd 1 mainS (its js) 0)) ∧ Below w.heap.size w w') := by
    have := find_c 1 (its js) mainS A C w hi.is
    rw [its_len] at this
    exact this
  have hl := hi.1
  unfold mnc
  cases hf : fnd 1 mainS (its js) 0 with
  | none =>
    rw [hf] at FD
    simp only [fstV] at FD
    clear hi hf
    simp only
    go_enter Tryz.func34, Tryz.ntmps34
    go_wp2_with (go_at_call 56; refine FD.out.mono ?_; rintro e w1 ⟨rfl, hk1⟩; have HK1 : Hid (Below w.heap.size w w1) := hk1; clear hk1)
    go_ret
    exact ⟨rfl, HK1.out⟩
  | some i =>
    rw [hf] at FD
    simp only [fstV] at FD
    obtain ⟨_, h2, _⟩ := fnd_some hf
    rw [Nat.sub_zero, its_len] at h2
    dsimp only
    rw [List.getElem?_eq_getElem h2]
    dsimp only
    obtain ⟨b, o, cs, rfl, hrow, hj⟩ := hi.2 i h2
    generalize js[i] = j at hj ⊢
    obtain ⟨P, PC, V, VC, r, rfl, _, _, h4, _⟩ := hj
    have htk : j.t.k = r.p := by
      generalize j.t = t at h4
      obtain ⟨k, s, n, es⟩ := t
      obtain ⟨_, _, e, _⟩ := h4.inv
      simp at e
      exact e.1.symm
    have CL : Hid (∀ w', Below w.heap.size w w' → w'.cell? ⟨b, o + i * 20 + 3, none⟩ = some (.slice P j.ps.length PC) ∧ w'.cell? ⟨b, o + i * 20 + 5, none⟩ = some (.int .i64 r.p)) := fun w' hw => ⟨(hrow.below hw).2 3 _ rfl, (hrow.below hw).2 5 _ rfl⟩
    rw [htk]
    generalize r.p = tk at CL ⊢
    generalize j.ps.length = pl at CL ⊢
    have hlt : (i : Int) < (js.length : Int) := by omega
    have hge : ¬ (i : Int) < 0 := by omega
    clear hi hf hrow h4 htk
    by_cases hp : 0 < pl
    · have hp' : (pl : Int) > 0 := by omega
      rw [if_pos (.inl hp)]
      go_enter Tryz.func34, Tryz.ntmps34
      go_wp2_with (go_at_call 56; refine FD.out.mono ?_; rintro e w1 ⟨rfl, hk1⟩; obtain ⟨d3, d5⟩ := CL.out _ hk1; have HK1 : Hid (Below w.heap.size w w1) := hk1; clear hk1)
      go_ret
      exact ⟨rfl, HK1.out⟩
    · obtain rfl : pl = 0 := by omega
      by_cases ht : tk = 1
      · subst ht
        rw [if_neg (by simp)]
        go_enter Tryz.func34, Tryz.ntmps34
        go_wp2_with (go_at_call 56; refine FD.out.mono ?_; rintro e w1 ⟨rfl, hk1⟩; obtain ⟨d3, d5⟩ := CL.out _ hk1; have HK1 : Hid (Below w.heap.size w w1) := hk1; clear hk1)
        go_ret
        exact ⟨rfl, HK1.out⟩
      · have ht' : (tk == 1) = false := by simpa using ht
        have ht2 : (tk != 1) = true := by simpa using ht
        rw [if_pos (.inr ht)]
        go_enter Tryz.func34, Tryz.ntmps34
        go_wp2_with (go_at_call 56; refine FD.out.mono ?_; rintro e w1 ⟨rfl, hk1⟩; obtain ⟨d3, d5⟩ := CL.out _ hk1; have HK1 : Hid (Below w.heap.size w w1) := hk1; clear hk1)
        go_ret
        exact ⟨rfl, HK1.out⟩

end Go.Proofs.YtjdkoahbahecoaaGreatDoor
