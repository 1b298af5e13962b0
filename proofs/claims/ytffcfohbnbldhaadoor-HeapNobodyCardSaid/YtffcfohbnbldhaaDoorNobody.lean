/-
  Proved: HeapNobody is true of every input: a heap that is nil, or that no call made.
-/
import Derived.Test.YtffcfohbnbldhaaDoorClass
namespace Go.Proofs.YtffcfohbnbldhaaDoor
open Go.RowKit

/-- A heap that is nil, or that no call made. -/
def NoH (w : World) (v : Value) : Prop := v = .pointer none ∨ ∃ b, v = .pointer (some ⟨b, 0, none⟩) ∧ w.cell? ⟨b, 0, none⟩ = some (.slice none 0 0)

theorem made_n {w : World} {v : Value} (h : NoH w v) : Calls Tryd.prog 20 #[v] w fun e w' => e = .returned (.bool false) ∧ w' = w := by
  rcases h with rfl | ⟨b, rfl, hb⟩
  · go_enter Tryd.func20, Tryd.ntmps20
    go_wp2
    go_ret
    exact ⟨rfl, rfl⟩
  · go_enter Tryd.func20, Tryd.ntmps20
    go_wp2
    go_ret
    exact ⟨rfl, rfl⟩

theorem alloc_n {w : World} {v : Value} (h : NoH w v) (x : Int) : Calls Tryd.prog 10 #[v, .int .i64 x] w fun e w' => e = .returned (.tuple #[.int .i64 0, .int .i64 1]) ∧ w' = w := by
  have H : Hid (NoH w v) := h
  clear h
  go_enter Tryd.func10, Tryd.ntmps10
  go_wp2_with (go_at_call 20; refine (made_n H.out).mono ?_; rintro e w0 ⟨rfl, hw⟩; rw [hw]; clear hw w0)
  go_ret2
  exact ⟨rfl, rfl⟩

theorem free_n {w : World} {v : Value} (h : NoH w v) (x : Int) : Calls Tryd.prog 12 #[v, .int .i64 x] w fun e w' => e = .returned (.int .i64 1) ∧ w' = w := by
  have H : Hid (NoH w v) := h
  clear h
  go_enter Tryd.func12, Tryd.ntmps12
  go_wp2_with (go_at_call 20; refine (made_n H.out).mono ?_; rintro e w0 ⟨rfl, hw⟩; rw [hw]; clear hw w0)
  go_ret
  exact ⟨rfl, rfl⟩

theorem live_n {w : World} {v : Value} (h : NoH w v) (x : Int) : Calls Tryd.prog 16 #[v, .int .i64 x] w fun e w' => e = .returned (.int .i64 0) ∧ w' = w := by
  have H : Hid (NoH w v) := h
  clear h
  go_enter Tryd.func16, Tryd.ntmps16
  go_wp2_with (go_at_call 20; refine (made_n H.out).mono ?_; rintro e w0 ⟨rfl, hw⟩; rw [hw]; clear hw w0)
  go_ret
  exact ⟨rfl, rfl⟩

theorem within_n {w : World} {v : Value} (h : NoH w v) (x n : Int) : Calls Tryd.prog 18 #[v, .int .i64 x, .int .i64 n] w fun e w' => e = .returned (.bool false) ∧ w' = w := by
  have H : Hid (NoH w v) := h
  clear h
  go_enter Tryd.func18, Tryd.ntmps18
  go_wp2_with (go_at_call 20; refine (made_n H.out).mono ?_; rintro e w0 ⟨rfl, hw⟩; rw [hw]; clear hw w0)
  go_ret
  exact ⟨rfl, rfl⟩

theorem nobody_walk (x : Int) (w : World) : Calls Tryd.prog 4 #[.int .i64 x] w fun e w' => e = .returned (.bool true) ∧ Below w.heap.size w w' := by
  go_enter Tryd.func4, Tryd.ntmps4
  go_wp2
  have NN : Hid (Below w.heap.size w ((w.alloc (.cells #[.slice none 0 0, .slice none 0 0, .slice none 0 0, .slice none 0 0] 49)).alloc (.cells #[.pointer none, .pointer (some ⟨w.heap.size, 0, none⟩)] 23))) := below_two _ _ _
  have hA : At ((w.alloc (.cells #[.slice none 0 0, .slice none 0 0, .slice none 0 0, .slice none 0 0] 49)).alloc (.cells #[.pointer none, .pointer (some ⟨w.heap.size, 0, none⟩)] 23)) w.heap.size #[.slice none 0 0, .slice none 0 0, .slice none 0 0, .slice none 0 0] 49 := (At.new w _ _).below (below_alloc _ _) (by simp)
  have hB : At ((w.alloc (.cells #[.slice none 0 0, .slice none 0 0, .slice none 0 0, .slice none 0 0] 49)).alloc (.cells #[.pointer none, .pointer (some ⟨w.heap.size, 0, none⟩)] 23)) (w.heap.size + 1) #[.pointer none, .pointer (some ⟨w.heap.size, 0, none⟩)] 23 := At.newS _ _ _ (by simp)
  generalize ((w.alloc (.cells #[.slice none 0 0, .slice none 0 0, .slice none 0 0, .slice none 0 0] 49)).alloc (.cells #[.pointer none, .pointer (some ⟨w.heap.size, 0, none⟩)] 23)) = w2 at *
  have c0 : w2.cell? ⟨w.heap.size + 1, 0, none⟩ = some (.pointer none) := (hB.cell 0).trans rfl
  have c1 : w2.cell? ⟨w.heap.size + 1, 1, none⟩ = some (.pointer (some ⟨w.heap.size, 0, none⟩)) := (hB.cell 1).trans rfl
  have HN0 : Hid (NoH w2 (.pointer none)) := Or.inl rfl
  have HN1 : Hid (NoH w2 (.pointer (some ⟨w.heap.size, 0, none⟩))) := Or.inr ⟨_, rfl, (hA.cell 0).trans rfl⟩
  clear hA hB
  go_loopw [11] (fun i wr => ∃ k : Nat, k ≤ 2 ∧ i = .int .i64 (k : Int) ∧ wr = w2) (fun i _ => 2 - (intOf i).toNat)
  case atStart => exact ⟨0, by omega, rfl, rfl⟩
  case round =>
    obtain ⟨k, hk, e1, hwr⟩ := hrel
    rw [hwr]
    clear hwr wr
    rcases (by omega : k = 0 ∨ k = 1 ∨ k = 2) with rfl | rfl | rfl
    · have e1' : _ = Value.int .i64 0 := e1
      subst e1'
      go_wp2_with (first
          | (go_at_call 10; refine (alloc_n (HN0.out) _).mono ?_; rintro e w0 ⟨rfl, hw⟩; rw [hw]; clear hw w0)
          | (go_at_call 12; refine (free_n (HN0.out) _).mono ?_; rintro e w0 ⟨rfl, hw⟩; rw [hw]; clear hw w0)
          | (go_at_call 16; refine (live_n (HN0.out) _).mono ?_; rintro e w0 ⟨rfl, hw⟩; rw [hw]; clear hw w0)
          | (go_at_call 18; refine (within_n (HN0.out) _ _).mono ?_; rintro e w0 ⟨rfl, hw⟩; rw [hw]; clear hw w0))
      go_roundw
      case rel => exact ⟨1, by omega, rfl, trivial⟩
      case measure => simp [intOf]
    · have e1' : _ = Value.int .i64 1 := e1
      subst e1'
      go_wp2_with (first
          | (go_at_call 10; refine (alloc_n (HN1.out) _).mono ?_; rintro e w0 ⟨rfl, hw⟩; rw [hw]; clear hw w0)
          | (go_at_call 12; refine (free_n (HN1.out) _).mono ?_; rintro e w0 ⟨rfl, hw⟩; rw [hw]; clear hw w0)
          | (go_at_call 16; refine (live_n (HN1.out) _).mono ?_; rintro e w0 ⟨rfl, hw⟩; rw [hw]; clear hw w0)
          | (go_at_call 18; refine (within_n (HN1.out) _ _).mono ?_; rintro e w0 ⟨rfl, hw⟩; rw [hw]; clear hw w0))
      go_roundw
      case rel => exact ⟨2, by omega, rfl, trivial⟩
      case measure => simp [intOf]
    · have e1' : _ = Value.int .i64 2 := e1
      subst e1'
      go_wp2
      go_ret
      exact ⟨rfl, NN.out⟩
end Go.Proofs.YtffcfohbnbldhaaDoor
