/-
  Proved: what the reference's Same tells of two outcomes.
-/
import Derived.Test.YtapgaclonilnbaaDoorLfu
namespace Go.Proofs.YtapgaclonilnbaaDoor
open Go.RowKit
set_option linter.unusedVariables false
set_option linter.unusedSimpArgs false

/-- What was printed, wherever it lies. -/
def PrI (w : World) (l : List Int) (v : Value) : Prop := ∃ A C, v = .slice A l.length C ∧ ∀ i (h : i < l.length), ∃ b o, A = some ⟨b, o, none⟩ ∧ b < w.heap.size ∧ w.cell? ⟨b, o + i, none⟩ = some (.int .i64 (l[i]'h))

theorem PrI.below {w w' : World} {l : List Int} {v : Value} (h : PrI w l v) (k : Below w.heap.size w w') : PrI w' l v := by
  obtain ⟨A, C, e, h⟩ := h
  refine ⟨A, C, e, fun i hi => ?_⟩
  obtain ⟨b, o, e1, e2, e3⟩ := h i hi
  exact ⟨b, o, e1, Nat.lt_of_lt_of_le e2 k.size, (k.cell (p := ⟨b, o + i, none⟩) e2).trans e3⟩

theorem PrI.own {base : Nat} {w : World} {l : List Int} {v : Value} (h : OwnB 3 1 noC base l v w) : PrI w l v := by
  obtain ⟨A, C, e, h1⟩ := OwnB.shape noC_len h
  refine ⟨A, C, e, fun i hi => ?_⟩
  obtain ⟨B, e2, e3, e4, e5, e6⟩ := h1 (by omega)
  refine ⟨B, 0, e2, e4, ?_⟩
  obtain ⟨b, o, q1, q2⟩ := e6 i hi
  cases q1
  have := q2.at 0 (v := .int .i64 l[i]) rfl
  simpa using this

set_option maxRecDepth 20000 in
set_option maxHeartbeats 4000000 in
theorem same_c (k c k' c' : Int) (l l' : List Int) (pv qv : Value) (w : World) (hp : PrI w l pv) (hq : PrI w l' qv) (hl : l.length ≤ 9223372036854775806) :
    Calls Tryd.prog 7 #[.agg #[.int .i64 k, .int .i64 c, pv], .agg #[.int .i64 k', .int .i64 c', qv]] w fun e w' => e = .returned (.bool (decide (k = k' ∧ c = c' ∧ l = l'))) ∧ Below w.heap.size w w' := by
  obtain ⟨A, C, rfl, hp⟩ := hp
  obtain ⟨A', C', rfl, hq⟩ := hq
  by_cases h1 : k = k'
  · subst h1
    by_cases h2 : c = c'
    · subst h2
      by_cases h3 : (l.length : Int) = l'.length
      · have hn : l.length = l'.length := by omega
        have HP : Hid (∀ i (h : i < l.length), ∃ b o, A = some ⟨b, o, none⟩ ∧ b < w.heap.size ∧ w.cell? ⟨b, o + i, none⟩ = some (.int .i64 (l[i]'h))) := hp
        have HQ : Hid (∀ i (h : i < l'.length), ∃ b o, A' = some ⟨b, o, none⟩ ∧ b < w.heap.size ∧ w.cell? ⟨b, o + i, none⟩ = some (.int .i64 (l'[i]'h))) := hq
        clear hp hq h3
        have hd : decide (k = k ∧ c = c ∧ l = l') = decide (l = l') := by simp
        rw [hd]
        clear hd
        obtain ⟨t, ht⟩ : ∃ t, t = decide (l = l') := ⟨_, rfl⟩
        rw [← ht]
        have HT : Hid (t = decide (l = l')) := ht
        clear ht
        have HN : Hid (l.length = l'.length) := hn
        rw [← hn]
        have hnl : (l.length : Int) ≤ 9223372036854775806 := by omega
        clear hn hl
        obtain ⟨n, hln⟩ : ∃ n, n = l.length := ⟨_, rfl⟩
        have LN : Hid (n = l.length) := hln
        rw [← hln] at hnl ⊢
        clear hln
        have B2 : Hid (Below w.heap.size w ((w.alloc (.cells #[.int .i64 k, .int .i64 c, .slice A n C] 26)).alloc (.cells #[.int .i64 k, .int .i64 c, .slice A' n C'] 26))) := below_next (below_alloc _ _) (below_alloc _ _)
        have a2 := (At.new w #[.int .i64 k, .int .i64 c, .slice A n C] 26).below (below_alloc _ (.cells #[.int .i64 k, .int .i64 c, .slice A' n C'] 26)) (At.new w #[.int .i64 k, .int .i64 c, .slice A n C] 26).lt
        have a3 := At.new (w.alloc (.cells #[.int .i64 k, .int .i64 c, .slice A n C] 26)) #[.int .i64 k, .int .i64 c, .slice A' n C'] 26
        have KF : Hid (∀ w', Below ((w.alloc (.cells #[.int .i64 k, .int .i64 c, .slice A n C] 26)).alloc (.cells #[.int .i64 k, .int .i64 c, .slice A' n C'] 26)).heap.size ((w.alloc (.cells #[.int .i64 k, .int .i64 c, .slice A n C] 26)).alloc (.cells #[.int .i64 k, .int .i64 c, .slice A' n C'] 26)) w' → w'.cell? ⟨w.heap.size, 2, none⟩ = some (.slice A n C) ∧ w'.cell? ⟨w.heap.size + 1, 2, none⟩ = some (.slice A' n C')) := fun w' hb => by
          have q2 := a2.below hb a2.lt
          have q3 := a3.below hb a3.lt
          have e : (w.alloc (.cells #[.int .i64 k, .int .i64 c, .slice A n C] 26)).heap.size = w.heap.size + 1 := by simp
          rw [e] at q3
          exact ⟨by rw [q2.cell]; rfl, by rw [q3.cell]; rfl⟩
        clear a2 a3
        go_enter Tryd.func7, Tryd.ntmps7
        go_wp2
        generalize (w.alloc (.cells #[.int .i64 k, .int .i64 c, .slice A n C] 26)).alloc (.cells #[.int .i64 k, .int .i64 c, .slice A' n C'] 26) = W at *
        go_loopw [5] (fun i wr => ∃ j : Nat, j ≤ n ∧ i = .int .i64 (j : Int) ∧ Below W.heap.size W wr ∧ ∀ q, q < j → l[q]? = l'[q]?) (fun i _ => n - (intOf i).toNat)
        case atStart => exact ⟨0, by omega, rfl, Below.refl _ _, fun q hq => absurd hq (by omega)⟩
        case round =>
          obtain ⟨j, hj, rfl, hB, hE⟩ := hrel
          have BB : Hid (Below W.heap.size W wr) := hB
          have EE : Hid (∀ q, q < j → l[q]? = l'[q]?) := hE
          obtain ⟨x2, y2⟩ := KF.out wr hB
          clear hB hE
          rcases Nat.lt_or_ge j n with hj' | hj'
          · have hjz : (j : Int) < n := by omega
            have hl1 : j < l.length := by have := LN.out; omega
            have hl2 : j < l'.length := by have := HN.out; omega
            obtain ⟨b, o, rfl, hb, h0⟩ := HP.out j hl1
            obtain ⟨b', o', rfl, hb', h0'⟩ := HQ.out j hl2
            have bw := below_next B2.out BB.out
            have c0 : wr.cell? ⟨b, o + j, none⟩ = some (.int .i64 l[j]) := (bw.cell (p := ⟨b, o + j, none⟩) hb).trans h0
            have c0' : wr.cell? ⟨b', o' + j, none⟩ = some (.int .i64 l'[j]) := (bw.cell (p := ⟨b', o' + j, none⟩) hb').trans h0'
            have wj : IntKind.i64.wrap ((j : Int) + 1) = (j : Int) + 1 := by rw [IntKind.wrap_i64]; omega
            have e1 : l[j]? = some l[j] := List.getElem?_eq_getElem hl1
            have e2 : l'[j]? = some l'[j] := List.getElem?_eq_getElem hl2
            clear h0 h0' bw
            by_cases hy : l[j] = l'[j]
            · have E2 : Hid (∀ q, q < j + 1 → l[q]? = l'[q]?) := fun q hq => by
                rcases Nat.lt_or_ge q j with e | e
                · exact EE.out q e
                · obtain rfl : q = j := by omega
                  rw [e1, e2, hy]
              clear e1 e2
              rw [← hy] at c0'
              generalize l[j] = y at *
              go_wp2
              go_region
              all_goals go_wp2
              all_goals go_roundw
              case rel => exact ⟨j + 1, by omega, by go_num, BB.out.drew, E2.out⟩
              case measure => simp [intOf]; omega
            · have FN : t = false := by
                have : ¬ l = l' := fun e => by
                  subst e
                  exact hy rfl
                rw [HT.out]
                simp [this]
              clear e1 e2 HT
              subst FN
              generalize l[j] = y at *
              generalize l'[j] = y' at *
              go_wp2
              go_region
              all_goals go_wp2
              all_goals go_ret
              all_goals exact ⟨rfl, (below_next B2.out BB.out).drew⟩
          · have hjz : ¬ (j : Int) < n := by omega
            have FN : t = true := by
              have : l = l' := by
                apply List.ext_getElem?
                intro q
                rcases Nat.lt_or_ge q j with e | e
                · exact EE.out q e
                · have := LN.out
                  have := HN.out
                  rw [List.getElem?_eq_none (by omega), List.getElem?_eq_none (by omega)]
              rw [HT.out]
              simp [this]
            clear HT
            subst FN
            go_wp2
            go_ret
            exact ⟨rfl, below_next B2.out BB.out⟩
      · have e : decide (k = k ∧ c = c ∧ l = l') = false := by
          simp
          intro e
          rw [e] at h3
          exact h3 rfl
        rw [e]
        clear hp hq
        generalize l.length = n at *
        generalize l'.length = n' at *
        go_enter Tryd.func7, Tryd.ntmps7
        go_wp2
        go_ret
        exact ⟨rfl, below_next (below_alloc _ _) (below_alloc _ _)⟩
    · have e : decide (k = k ∧ c = c' ∧ l = l') = false := by simp [h2]
      rw [e]
      clear hp hq
      generalize l.length = n at *
      generalize l'.length = n' at *
      go_enter Tryd.func7, Tryd.ntmps7
      go_wp2
      go_ret
      exact ⟨rfl, below_next (below_alloc _ _) (below_alloc _ _)⟩
  · have e : decide (k = k' ∧ c = c' ∧ l = l') = false := by simp [h1]
    rw [e]
    clear hp hq
    generalize l.length = n at *
    generalize l'.length = n' at *
    go_enter Tryd.func7, Tryd.ntmps7
    go_wp2
    go_ret
    exact ⟨rfl, below_next (below_alloc _ _) (below_alloc _ _)⟩
end Go.Proofs.YtapgaclonilnbaaDoor
