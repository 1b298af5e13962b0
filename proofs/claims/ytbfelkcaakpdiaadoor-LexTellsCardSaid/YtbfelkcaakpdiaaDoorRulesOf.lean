/-
  Proved: what lex.rulesOf lays in memory: the source's box, the words, and the nine functions of the three rules.
-/
import Derived.Test.YtbfelkcaakpdiaaDoorRules
import Derived.Laws.EntriesVeiled
namespace Go.Proofs.YtbfelkcaakpdiaaDoor
open Go.RowKit

theorem four (w : World) (o1 o2 o3 o4 : Obj) : ((((w.alloc o1).alloc o2).alloc o3).alloc o4).heap[w.heap.size]? = some o1 ∧ ((((w.alloc o1).alloc o2).alloc o3).alloc o4).heap[w.heap.size + 1]? = some o2 ∧
    ((((w.alloc o1).alloc o2).alloc o3).alloc o4).heap[w.heap.size + 2]? = some o3 ∧ ((((w.alloc o1).alloc o2).alloc o3).alloc o4).heap[w.heap.size + 3]? = some o4 := by
  have e : ((((w.alloc o1).alloc o2).alloc o3).alloc o4).heap = (((w.heap.push o1).push o2).push o3).push o4 := rfl
  rw [e]
  refine ⟨?_, ?_, ?_, ?_⟩
  · rw [Array.getElem?_push, if_neg (by simp; omega), Array.getElem?_push, if_neg (by simp; omega), Array.getElem?_push, if_neg (by simp), Array.getElem?_push, if_pos rfl]
  · rw [Array.getElem?_push, if_neg (by simp), Array.getElem?_push, if_neg (by simp), Array.getElem?_push, if_pos (by simp)]
  · rw [Array.getElem?_push, if_neg (by simp), Array.getElem?_push, if_pos (by simp)]
  · rw [Array.getElem?_push, if_pos (by simp)]

theorem cell_in {w : World} {b : Nat} {cs : Array Value} {t : TypeId} {fr : Nat × Nat} (h : w.heap[b]? = some (.cells cs t fr)) (i : Nat) : w.cell? ⟨b, i, none⟩ = cs[i]? := by
  simp [World.cell?, h]

theorem belowFour (w : World) (o1 o2 o3 o4 : Obj) : Below w.heap.size w ((((w.alloc o1).alloc o2).alloc o3).alloc o4) :=
  below_next (below_next (below_next (below_alloc _ _) (below_alloc _ _)) (below_alloc _ _)) (below_alloc _ _)

set_option maxHeartbeats 1000000 in
theorem rulesOf_c (sb cap : Nat) (l : Bs) (w : World) (ht : Tab w) (hb : BA w sb 0 l) (hc : l.length ≤ cap) (hm : l.length < 4611686018427387904) :
    Calls Tryd.prog 16 #[.slice (some ⟨sb, 0, none⟩) l.length cap] w fun e w' => e = .returned (.slice (some ⟨w.heap.size + 3, 0, none⟩) 3 3) ∧ Env w' w.heap.size sb cap l ∧ Below w.heap.size w w' := by
  have T : Hid (Tab w) := ht
  have A : Hid (BA w sb 0 l) := hb
  clear ht hb
  go_enter Tryd.func16, Tryd.ntmps16
  go_wp2_with (first
      | (go_at_call 28; refine (makeWords_c _).mono ?_; rintro e w' ⟨rfl, rfl⟩)
      | go_in)
  go_ret
  refine ⟨rfl, ?_, belowFour _ _ _ _ _⟩
  obtain ⟨g0, g1, g2, g3⟩ := four w (Obj.cells #[Value.slice (some ⟨sb, 0, none⟩) (List.length l) cap] 39) (Obj.map (wordEs 17) 17) (Obj.cells #[Value.map (some (w.heap.size + 1))] 53) (Obj.cells
        #[Value.func (Fn.func 31) #[] #[Value.pointer (some ⟨w.heap.size, 0, none⟩)],
          Value.func (Fn.func 29) #[] #[Value.pointer (some ⟨w.heap.size, 0, none⟩)],
          Value.func (Fn.func 33) #[] #[Value.pointer (some ⟨w.heap.size + 1 + 1, 0, none⟩)],
          Value.func (Fn.func 35) #[] #[Value.pointer (some ⟨w.heap.size, 0, none⟩)],
          Value.func (Fn.func 29) #[] #[Value.pointer (some ⟨w.heap.size, 0, none⟩)],
          Value.func (Fn.func 36) #[] #[],
          Value.func (Fn.func 37) #[] #[Value.pointer (some ⟨w.heap.size, 0, none⟩)],
          Value.func (Fn.func 39) #[] #[Value.pointer (some ⟨w.heap.size, 0, none⟩)],
          Value.func (Fn.func 40) #[] #[]]
        61)
  have hlt := (Array.getElem?_eq_some_iff.1 g3).1
  exact ⟨T.out.below (belowFour _ _ _ _ _), A.out.below (belowFour _ _ _ _ _), hc, hm, cell_in g0 0, cell_in g2 0, g1, hlt, cell_in g3 0, cell_in g3 1, cell_in g3 2, cell_in g3 3, cell_in g3 4, cell_in g3 5, cell_in g3 6, cell_in g3 7, cell_in g3 8⟩
end Go.Proofs.YtbfelkcaakpdiaaDoor
