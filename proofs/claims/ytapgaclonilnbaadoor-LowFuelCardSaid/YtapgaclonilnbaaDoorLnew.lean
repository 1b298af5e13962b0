/-
  Proved: what newRun answers: a machine without a call.
-/
import Derived.Test.YtapgaclonilnbaaDoorLmx
import Derived.Test.YtapgaclonilnbaaDoorCcheck
namespace Go.Proofs.YtapgaclonilnbaaDoor
open Go.RowKit
set_option linter.unusedVariables false
set_option linter.unusedSimpArgs false

theorem zero_words : Tryd.zeroCells56.toList.drop 10 = List.replicate 2816 (Value.int .i32 0) := by kernel_rfl
theorem zero_head : Tryd.zeroCells56.toList.take 10 = [.slice none 0 0, .map none, .slice none 0 0, .int .i64 0, .int .i64 0, .slice none 0 0, .slice none 0 0, .pointer none, .int .i64 0, .pointer none] := by kernel_rfl
theorem zero_at (i : Nat) (h : i < 2816) : Tryd.zeroCells56[i + 10]? = some (.int .i32 0) := by
  rw [← Array.getElem?_toList]
  have := congrArg (·[i]?) zero_words
  simp only [List.getElem?_drop, List.getElem?_replicate, h, if_true] at this
  rwa [show i + 10 = 10 + i by omega]
theorem zero_lo (i : Nat) (h : i < 10) : Tryd.zeroCells56[i]? = ([.slice none 0 0, .map none, .slice none 0 0, .int .i64 0, .int .i64 0, .slice none 0 0, .slice none 0 0, .pointer none, .int .i64 0, .pointer none] : List Value)[i]? := by
  rw [← Array.getElem?_toList, ← zero_head, List.getElem?_take_of_lt h]

set_option maxRecDepth 20000 in
set_option maxHeartbeats 2000000 in
theorem newRun_c (l : List Lf) (lA : Option Addr) (lC : Nat) (ip : List Int) (iv : Value) (fu : Int) (w : World) (ht : Tab w) (hl : LfsIn w l (.slice lA l.length lC)) (hi : InpIn w ip iv) :
    Calls Tryd.prog 10 #[.slice lA l.length lC, iv, .int .i64 fu] w fun e w' => ∃ (X : Cx) (L : Ly), X.l = l ∧ X.fu = fu ∧ X.wz = w ∧ e = .returned (.pointer (some ⟨X.R, 0, none⟩)) ∧ MX X ⟨[], fun _ _ => false, fun _ => 0, ip, [], 0⟩ (.pointer none) 0 L w' := by
  have HN : Hid (Calls Tryd.prog 12 #[.slice lA l.length lC] w fun e w' => e = .returned (.tuple #[.map (some w.heap.size), .bool (decide (cnN l l.length = l.length))]) ∧ Below w.heap.size w w' ∧ MapS w' w.heap.size (cnN l l.length) (byN l)) := byNames_c l lA lC w hl
  have HT : Hid (Tab w) := ht
  have HW : Hid (∀ w', Below w.heap.size w w' → Calls Tryd.prog 15 #[] w' fun e w2 => ∃ g, e = .returned (.pointer (some ⟨w'.heap.size, 0, none⟩)) ∧ Below w'.heap.size w' w2 ∧ HIn w2 w'.heap.size g (fun _ _ => false)) := fun w' hb => new_c w' (ht.below hb ht.lt)
  have HL : Hid (LfsIn w l (.slice lA l.length lC)) := hl
  have HI : Hid (InpIn w ip iv) := hi
  obtain ⟨IA, IC, rfl, -⟩ := hi
  clear ht hl
  generalize decide (cnN l l.length = l.length) = q at *
  go_enter Tryd.func10, Tryd.ntmps10
  go_wp2_with (first
    | (go_at_call 12; refine (HN.out).mono ?_; rintro e w1 ⟨rfl, hb1, hm1⟩; have B1 : Hid (Below w.heap.size w w1) := hb1; have M1 : Hid (MapS w1 w.heap.size (cnN l l.length) (byN l)) := hm1; clear hb1 hm1)
    | (go_at_call 15; refine (HW.out _ B1.out).mono ?_; rintro e w2 ⟨g, rfl, hb2, hh2⟩; have B2 : Hid (Below w1.heap.size w1 w2) := hb2; have H2 : Hid (HIn w2 w1.heap.size g (fun _ _ => false)) := hh2; clear hb2 hh2))
  go_ret
  have hm := M1.out.lt
  have hR : w1.heap.size < w2.heap.size := H2.out.head.lt
  have b2 : Below w.heap.size w w2 := below_next B1.out B2.out
  have sz := B1.out.size
  have HR := H2.out.below (below_alloc w2 (.cells (((((Tryd.zeroCells56.setIfInBounds 0 (.slice lA l.length lC)).setIfInBounds 1 (.map (some w.heap.size))).setIfInBounds 2 (.slice IA ip.length IC)).setIfInBounds 3 (.int .i64 fu)).setIfInBounds 9 (.pointer (some ⟨w1.heap.size, 0, none⟩))) 56))
  have gl : ∀ c, c < 4 → w1.heap.size < g c ∧ g c < w2.heap.size := fun c hc => ⟨H2.out.after c hc, (H2.out.rows c hc).lt⟩
  refine ⟨⟨l, lA, lC, w.heap.size, cnN l l.length, w2.heap.size, w1.heap.size, g, fu, w, w.heap.size, w1.heap[w.heap.size]?⟩, ⟨fun _ => 0, fun _ => 0, fun _ => 0, .slice none 0 0, .slice none 0 0, .slice IA ip.length IC, fun b => if b = w2.heap.size then 0 else if b = w1.heap.size then 1 else if b = w.heap.size then 8 else if b = g 0 then 2 else if b = g 1 then 3 else if b = g 2 then 4 else if b = g 3 then 5 else 9⟩, rfl, rfl, rfl, rfl, ?_⟩
  refine ⟨HT.out, below_next b2 (below_alloc _ _), HL.out, MpS.below (w := w2) (MpS.below (w := w1) ⟨M1.out, rfl, hm⟩ B2.out) (below_alloc _ _), ⟨_, At.new w2 _ _, fun i hi => ?_⟩, HR, ⟨Nat.le_trans b2.size (below_alloc _ _).size, by simp, Or.inl ⟨rfl, rfl⟩⟩, ⟨Nat.le_trans b2.size (below_alloc _ _).size, by simp, Or.inl ⟨rfl, rfl⟩⟩, HI.out, fun i hi => absurd hi (by simp), ?_, fun b hb => ?_⟩
  · rcases Nat.lt_or_ge i 10 with e | e
    · have hz := zero_lo i e
      rcases i with _ | _ | _ | _ | _ | _ | _ | _ | _ | _ | i
      all_goals first | omega | (simp [Array.getElem?_setIfInBounds, rnG, hz]; done) | (rw [Array.getElem?_setIfInBounds_ne (by omega), Array.getElem?_setIfInBounds_ne (by omega), Array.getElem?_setIfInBounds_ne (by omega), Array.getElem?_setIfInBounds_ne (by omega), Array.getElem?_setIfInBounds_ne (by omega)]; exact hz.trans rfl)
    · obtain ⟨k, rfl⟩ : ∃ k, i = k + 10 := ⟨i - 10, by omega⟩
      rw [Array.getElem?_setIfInBounds_ne (by omega), Array.getElem?_setIfInBounds_ne (by omega), Array.getElem?_setIfInBounds_ne (by omega), Array.getElem?_setIfInBounds_ne (by omega), Array.getElem?_setIfInBounds_ne (by omega), zero_at k (by omega)]
      rfl
  · have g0 := gl 0 (by omega); have g1 := gl 1 (by omega); have g2 := gl 2 (by omega); have g3 := gl 3 (by omega)
    have i01 := H2.out.inc 0 1 (by omega) (by omega); have i12 := H2.out.inc 1 2 (by omega) (by omega); have i23 := H2.out.inc 2 3 (by omega) (by omega)
    refine ⟨if_pos rfl, ?_, fun c hc => ?_, fun b hb => (by cases hb), fun b hb => (by cases hb), ?_, fun i hi => absurd hi (by simp)⟩
    · show (if w1.heap.size = w2.heap.size then 0 else if w1.heap.size = w1.heap.size then 1 else if w1.heap.size = w.heap.size then 8 else if w1.heap.size = g 0 then 2 else if w1.heap.size = g 1 then 3 else if w1.heap.size = g 2 then 4 else if w1.heap.size = g 3 then 5 else 9) = 1
      rw [if_neg (by omega), if_pos rfl]
    · show (if g c = w2.heap.size then 0 else if g c = w1.heap.size then 1 else if g c = w.heap.size then 8 else if g c = g 0 then 2 else if g c = g 1 then 3 else if g c = g 2 then 4 else if g c = g 3 then 5 else 9) = 2 + c
      rcases (by omega : c = 0 ∨ c = 1 ∨ c = 2 ∨ c = 3) with rfl | rfl | rfl | rfl
      · rw [if_neg (by omega), if_neg (by omega), if_neg (by omega), if_pos rfl]
      · rw [if_neg (by omega), if_neg (by omega), if_neg (by omega), if_neg (by omega), if_pos rfl]
      · rw [if_neg (by omega), if_neg (by omega), if_neg (by omega), if_neg (by omega), if_neg (by omega), if_pos rfl]
      · rw [if_neg (by omega), if_neg (by omega), if_neg (by omega), if_neg (by omega), if_neg (by omega), if_neg (by omega), if_pos rfl]
    · refine ⟨?_, ?_⟩ <;> (show (if w.heap.size = w2.heap.size then 0 else if w.heap.size = w1.heap.size then 1 else if w.heap.size = w.heap.size then 8 else if w.heap.size = g 0 then 2 else if w.heap.size = g 1 then 3 else if w.heap.size = g 2 then 4 else if w.heap.size = g 3 then 5 else 9) = 8; rw [if_neg (by omega), if_neg (by omega), if_pos rfl])
  · have hb : b < w.heap.size := hb
    show (if b = w2.heap.size then 0 else if b = w1.heap.size then 1 else if b = w.heap.size then 8 else if b = g 0 then 2 else if b = g 1 then 3 else if b = g 2 then 4 else if b = g 3 then 5 else 9) = 9
    have := gl 0 (by omega); have := gl 1 (by omega); have := gl 2 (by omega); have := gl 3 (by omega)
    rw [if_neg (by omega), if_neg (by omega), if_neg (by omega), if_neg (by omega), if_neg (by omega), if_neg (by omega), if_neg (by omega)]
end Go.Proofs.YtapgaclonilnbaaDoor
