/-
  Proved: what a block of the call's own holds behind a store; the document's way down a type's first elements.
-/
import Derived.Test.YtdpmdonneoadbaaDoorText
namespace Go.Proofs.YtdpmdonneoadbaaDoor
open Go.RowKit

theorem setCell_at {w : World} {g j : Nat} {cs : Array Value} {e : TypeId} {fr : Nat × Nat} (h : w.heap[g]? = some (.cells cs e fr)) (v : Value) : (w.setCell ⟨g, j, none⟩ v).heap[g]? = some (.cells (cs.setIfInBounds j v) e fr) := by
  have hlt : g < w.heap.size := (Array.getElem?_eq_some_iff.1 h).1
  have hv : w.heap[g] = .cells cs e fr := (Array.getElem?_eq_some_iff.1 h).2
  unfold World.setCell
  rw [Array.getElem?_eq_getElem (by simpa using hlt), Array.getElem_modify]
  simp [hv]

theorem cell_at {w : World} {g : Nat} {cs : Array Value} {e : TypeId} {fr : Nat × Nat} (h : w.heap[g]? = some (.cells cs e fr)) (j : Nat) : w.cell? ⟨g, j, none⟩ = cs[j]? := by simp [World.cell?, h]
theorem frozen_at {w : World} {g : Nat} {cs : Array Value} {e : TypeId} (h : w.heap[g]? = some (.cells cs e (0, 0))) (j : Nat) : w.frozen? ⟨g, j, none⟩ = false := by simp [World.frozen?, h]

theorem T.deepT_cons (k : Int) (s : ByteArray) (n : Int) (e : T) (es : List T) : T.deepT (.mk k s n (e :: es)) = T.deepT e + 1 := by simp [T.deepT]
theorem T.deepT_nil (k : Int) (s : ByteArray) (n : Int) : T.deepT (.mk k s n []) = 0 := by simp [T.deepT]

/-- A type in a variable of the call's own, its parts in old memory. -/
structure Var (w wr : World) (x : Nat) (t : T) : Prop where
  ex : ∃ k s n es A C, t = .mk k s n es ∧ wr.heap[x]? = some (.cells #[.int .i64 k, .string s, .int .i64 n, .slice A es.length C] 24 (0, 0)) ∧ TsIn w es A

set_option maxRecDepth 20000 in
theorem chain_c (t : T) (cs : List Value) (w : World) (h : TIn w t cs) :
    Calls Tryd.prog 4 #[.agg cs.toArray] w fun e w' => (∃ r : Int, e = .returned (.int .i64 r) ∧ (r < 200 → t.deepT < 200)) ∧ Below w.heap.size w w' := by
  obtain ⟨k, s, n, es⟩ := t
  obtain ⟨A, C, rfl, ta⟩ := h.inv
  have TA : Hid (TsIn w es A) := ta
  clear h ta
  show Calls Tryd.prog 4 #[.agg #[.int .i64 k, .string s, .int .i64 n, .slice A es.length C]] w _
  generalize hd : (T.mk k s n es).deepT = d
  have HD : Hid ((T.mk k s n es).deepT = d) := hd
  clear hd
  go_enter Tryd.func4, Tryd.ntmps4
  go_wp2
  generalize hw1 : w.alloc (.cells #[.int .i64 k, .string s, .int .i64 n, .slice A es.length C] 24) = w1
  have V1 : Hid (Var w w1 w.heap.size (.mk k s n es)) := by
    subst hw1
    exact ⟨k, s, n, es, A, C, rfl, alloc_at _ _, TA.out⟩
  have B1 : Hid (Below w.heap.size w w1) := by subst hw1; exact below_alloc _ _
  clear hw1
  go_loopw [3] (fun i wr => ∃ (j : Nat) (t' : T), i = .int .i64 (j : Int) ∧ j ≤ 200 ∧ d = j + t'.deepT ∧ Var w wr w.heap.size t' ∧ Below w.heap.size w wr) (fun i _ => 200 - (intOf i).toNat)
  case atStart => exact ⟨0, _, rfl, by omega, by rw [← HD.out]; omega, V1.out, B1.out⟩
  case round =>
    obtain ⟨j, t', rfl, hj, hd, ⟨k', s', n', es', A', C', rfl, hh, ht⟩, hb⟩ := hrel
    have HH : Hid (wr.heap[w.heap.size]? = some (.cells #[.int .i64 k', .string s', .int .i64 n', .slice A' es'.length C'] 24 (0, 0))) := hh
    have HT : Hid (TsIn w es' A') := ht
    have HB : Hid (Below w.heap.size w wr) := hb
    have c0 : wr.cell? ⟨w.heap.size, 0, none⟩ = some (.int .i64 k') := (cell_at hh 0).trans rfl
    have c1 : wr.cell? ⟨w.heap.size, 1, none⟩ = some (.string s') := (cell_at hh 1).trans rfl
    have c2 : wr.cell? ⟨w.heap.size, 2, none⟩ = some (.int .i64 n') := (cell_at hh 2).trans rfl
    have c3 : wr.cell? ⟨w.heap.size, 3, none⟩ = some (.slice A' es'.length C') := (cell_at hh 3).trans rfl
    have f0 : wr.frozen? ⟨w.heap.size, 0, none⟩ = false := frozen_at hh 0
    have f1 : wr.frozen? ⟨w.heap.size, 1, none⟩ = false := frozen_at hh 1
    have f2 : wr.frozen? ⟨w.heap.size, 2, none⟩ = false := frozen_at hh 2
    have f3 : wr.frozen? ⟨w.heap.size, 3, none⟩ = false := frozen_at hh 3
    have DD : Hid (d = j + (T.mk k' s' n' es').deepT) := hd
    clear hh ht hb hd HD V1
    cases es' with
    | nil =>
      go_wp2
      go_ret
      exact ⟨⟨_, rfl, fun _ => by have := DD.out; rw [T.deepT_nil] at this; omega⟩, HB.out⟩
    | cons e1 es1 =>
      by_cases h2 : j < 200
      · obtain ⟨b1, o1, cs1, rfl, hr0, ht1⟩ := HT.out.2 0 (by simp)
        have hr1 := hr0.below HB.out
        have ht1 : TIn w e1 cs1 := ht1
        obtain ⟨kk1, ss1, nn1, ees1⟩ := e1
        obtain ⟨AA1, CC1, rfl, tt⟩ := ht1.inv
        have TT : Hid (TsIn w ees1 AA1) := tt
        have x0 := hr1.2 0 _ rfl
        have x1 := hr1.2 1 _ rfl
        have x2 := hr1.2 2 _ rfl
        have x3 := hr1.2 3 _ rfl
        simp only [Nat.zero_mul, Nat.add_zero] at x0 x1 x2 x3
        clear hr1 hr0 ht1 tt
        go_wp2
        go_roundw
        case rel =>
          refine ⟨j + 1, _, by go_num, by omega, by have := DD.out; rw [T.deepT_cons] at this; omega, ⟨kk1, ss1, nn1, ees1, AA1, CC1, rfl, ?_, TT.out⟩, ?_⟩
          · exact setCell_at (setCell_at (setCell_at (setCell_at HH.out _) _) _) _
          · exact (((HB.out.setCell (Nat.le_refl _) _).setCell (Nat.le_refl _) _).setCell (Nat.le_refl _) _).setCell (Nat.le_refl _) _
        case measure => simp [intOf]; omega
      · go_wp2
        go_ret
        exact ⟨⟨_, rfl, fun h => by omega⟩, HB.out⟩

end Go.Proofs.YtdpmdonneoadbaaDoor
