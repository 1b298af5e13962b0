/-
  Proved: rows that are laid one behind the other lie where they must.
-/
import Derived.Test.YtapgaclonilnbaaDoorGd
import Derived.Test.YtapgaclonilnbaaDoorLk
namespace Go.Proofs.YtapgaclonilnbaaDoor
open Go.RowKit
set_option linter.unusedVariables false
set_option linter.unusedSimpArgs false

theorem allocs_below : ∀ (os : List Obj) (w : World), Below w.heap.size w (os.foldl World.alloc w)
  | [], w => Below.refl _ _
  | o :: os, w => below_next (below_alloc w o) (allocs_below os (w.alloc o))

theorem allocs_at : ∀ (os : List Obj) (w : World) (i : Nat) {cs : Array Value} {t : TypeId}, os[i]? = some (.cells cs t (0, 0)) → At (os.foldl World.alloc w) (w.heap.size + i) cs t
  | [], w, i, cs, t, h => by simp at h
  | o :: os, w, 0, cs, t, h => by
    have h : o = .cells cs t (0, 0) := by simpa using h
    subst h
    exact (At.new w cs t).below (allocs_below os _) (At.new w cs t).lt
  | o :: os, w, i + 1, cs, t, h => by
    have h : os[i]? = some (.cells cs t (0, 0)) := by simpa using h
    have := allocs_at os (w.alloc o) i h
    rw [show (w.alloc o).heap.size + i = w.heap.size + (i + 1) by simp; omega] at this
    exact this

theorem allocs_in {w W1 W : World} {os : List Obj} (hW : W1 = os.foldl World.alloc w) (hB : Below W1.heap.size W1 W) (i : Nat) {cs : Array Value} {t : TypeId} (h : os[i]? = some (.cells cs t (0, 0))) : At W (w.heap.size + i) cs t := by
  have := allocs_at os w i h
  rw [← hW] at this
  exact this.below hB this.lt

theorem At.rowL {w : World} {b : Nat} {cs : Array Value} {t : TypeId} (h : At w b cs t) (o : Nat) (ds : List Value) (e : (cs.toList.drop o).take ds.length = ds) : RowAt w b o ds :=
  ⟨h.lt, fun j v q => by
    rw [h.cell]
    rw [← e, List.getElem?_take] at q
    split at q
    · rw [List.getElem?_drop, Array.getElem?_toList] at q
      exact q
    · cases q⟩

theorem nos_nil (w : World) : NosIn w [] (.slice none 0 0) := ⟨by simp, none, 0, rfl, fun i hi => absurd hi (by simp)⟩
theorem li_nil (w : World) : LiIn w [] (.slice none 0 0) := ⟨by simp, none, 0, rfl, fun i hi => absurd hi (by simp)⟩

theorem nos_at {w : World} {b : Nat} {t : TypeId} {l : List Int} (C : Nat) (h : At w b (l.map (Value.int .i64)).toArray t) (hl : l.length ≤ 281474976710656 := by decide) : NosIn w l (.slice (some ⟨b, 0, none⟩) l.length C) := by
  refine ⟨hl, _, C, rfl, fun i hi => ⟨b, 0, [.int .i64 l[i]], rfl, ⟨h.lt, fun j v e => ?_⟩, rfl⟩⟩
  rw [h.cell]
  rcases j with _ | j
  · have : v = .int .i64 l[i] := by simpa using e.symm
    subst this
    simp [hi]
  · simp at e
end Go.Proofs.YtapgaclonilnbaaDoor
