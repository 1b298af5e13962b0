/-
  Proved: what show.Type keeps while it goes down a type: the type that is left, the text so far, and what is still to be closed.
-/
import Derived.Test.YtdpmdonneoadbaaDoorParts
import Derived.Shelf.Strings.BuilderK
namespace Go.Proofs.YtdpmdonneoadbaaDoor
open Go.RowKit

/-- A call's contract on a Builder, with what it leaves of the other blocks. -/
theorem write_k (B b : Nat) (bs : List Value) (s : ByteArray) (w : World) (h : Lib.IsBuilderF 35 5 B b bs w) (hlen : bs.length + s.size ≤ 140737488355328) (hBw : B ≤ w.heap.size) :
    Calls Tryd.prog 11 #[.pointer (some ⟨b, 0, none⟩), .string s] w fun e w' => e = .returned (.tuple #[.int .i64 s.size, .nilIface]) ∧ (Lib.BuilderAtF 35 5 B b (.pointer (some ⟨b, 0, none⟩)) (bs ++ Lib.strCells s) w' ∧ Below B w w' ∧ Lib.OthersKept 5 (some b) w w') :=
  Any.Builder_WriteString_k Tryd.lays166 Tryd.Builder_Extra_166 B b bs s w h hlen hBw

theorem string_k (B b : Nat) (l : List UInt8) (w : World) (h : Lib.IsBuilderF 35 5 B b (Lib.byteCells l) w) (hBw : B ≤ w.heap.size) :
    Calls Tryd.prog 14 #[.pointer (some ⟨b, 0, none⟩)] w fun e w' => e = .returned (.string (ofL l)) ∧ (Lib.IsBuilderF 35 5 B b (Lib.byteCells l) w' ∧ Below B w w' ∧ Lib.OthersKept 5 (some b) w w') :=
  Any.Builder_String_any_k Tryd.lays169 Tryd.Builder_Extra_169 B b l w h hBw

theorem strCells_ofL (l : List UInt8) : Lib.strCells (ofL l) = Lib.byteCells l := by simp [Lib.strCells, Lib.byteCells, ofL]
theorem byteCells_append (a b : List UInt8) : Lib.byteCells a ++ Lib.byteCells b = Lib.byteCells (a ++ b) := by simp [Lib.byteCells]
theorem byteCells_len (a : List UInt8) : (Lib.byteCells a).length = a.length := by simp [Lib.byteCells]

/-- Cells of a type stand. -/
def Keeps (t : TypeId) (w w' : World) : Prop := ∀ (k : Nat) (c : Array Value) (fz : Nat × Nat), w.heap[k]? = some (Obj.cells c t fz) → w'.heap[k]? = some (Obj.cells c t fz)

theorem bld_keep {B b : Nat} {bs : List Value} {w w' : World} (h : Lib.IsBuilderF 35 5 B b bs w) (k1 : Keeps 35 w w') (k2 : Keeps 5 w w') : Lib.IsBuilderF 35 5 B b bs w' := by
  have one : ∀ p, Lib.BuilderAtF 35 5 B b p bs w → Lib.BuilderAtF 35 5 B b p bs w' := by
    rintro p ⟨h1, v, h2, ⟨h3, h4⟩, h5⟩
    refine ⟨h1, v, k1 _ _ _ h2, ⟨h3, ?_⟩, h5⟩
    rcases h4 with h4 | ⟨g, cap, cur, fz, e1, e2, e3, e4⟩
    · exact Or.inl h4
    · exact Or.inr ⟨g, cap, cur, fz, e1, e2, k2 _ _ _ e3, e4⟩
  rcases h with h | h
  · exact Or.inl (one _ h)
  · exact Or.inr (one _ h)

theorem own_keep {B n : Nat} {v : Value} {xs : List Value} {w w' : World} (h : w.ownsRow B 9 1 v n xs) (k : Keeps 9 w w') : w'.ownsRow B 9 1 v n xs := by
  obtain ⟨h1, h2⟩ := h
  refine ⟨h1, ?_⟩
  rcases h2 with h2 | ⟨g, cap, cur, e1, e2, e3, e4⟩
  · exact Or.inl h2
  · exact Or.inr ⟨g, cap, cur, e1, e2, k _ _ _ e3, e4⟩

theorem var_keep {w wr w' : World} {x : Nat} {t : T} (h : Var w wr x t) (k : Keeps 24 wr w') : Var w w' x t := by
  obtain ⟨k', s, n, es, A, C, e, hh, ht⟩ := h.ex
  exact ⟨k', s, n, es, A, C, e, k _ _ _ hh, ht⟩

theorem keeps_below {t : TypeId} {w w' : World} (h : Below w.heap.size w w') : Keeps t w w' := fun k _ _ hk => (h.block k (Array.getElem?_eq_some_iff.1 hk).1).trans hk

theorem keeps_others {t : TypeId} {b : Nat} {w w' : World} (h : Lib.OthersKept 5 (some b) w w') (ht : t ≠ 5) (hb : ∀ c fz, w.heap[b]? ≠ some (Obj.cells c t fz)) : Keeps t w w' := fun k c fz hk =>
  h k _ hk (fun e => hb c fz (by cases e; exact hk)) (fun c' fz' e => ht (by cases e; rfl))

theorem keeps_grown {t : TypeId} {w w' : World} {row : Option Nat} (h : w.grownBy w' row) (hr : ∀ g, row = some g → ∀ c fz, w.heap[g]? ≠ some (Obj.cells c t fz)) : Keeps t w w' := fun k c fz hk =>
  (h.block k (Array.getElem?_eq_some_iff.1 hk).1 (fun e => hr k e.symm c fz hk)).trans hk

theorem keeps_set {t : TypeId} {w : World} {g j : Nat} {v : Value} (hg : ∀ c fz, w.heap[g]? ≠ some (Obj.cells c t fz)) : Keeps t w (w.setCell ⟨g, j, none⟩ v) := fun k c fz hk =>
  (Below.heap_setCell w ⟨g, j, none⟩ v k (fun e => hg c fz (by cases e; exact hk))).trans hk

/-- What is there in the loop. -/
structure St (w wr : World) (t : T) (acc : List UInt8) (cl : List ByteArray) (v : Value) : Prop where
  var : Var w wr w.heap.size t
  bld : Lib.IsBuilderF 35 5 w.heap.size (w.heap.size + 1) (Lib.byteCells acc) wr
  own : wr.ownsRow w.heap.size 9 1 v cl.length (cl.map .string)
  low : Below w.heap.size w wr

theorem bld_at {B b : Nat} {bs : List Value} {w : World} (h : Lib.IsBuilderF 35 5 B b bs w) : ∃ c, w.heap[b]? = some (.cells c 35 (0, 0)) := by
  rcases h with ⟨_, v, h, _⟩ | ⟨_, v, h, _⟩
  · exact ⟨_, h⟩
  · exact ⟨_, h⟩

theorem own_at {B n : Nat} {v : Value} {xs : List Value} {w : World} (h : w.ownsRow B 9 1 v n xs) {g : Nat} (hg : v.ownBlock = some g) : ∃ c, w.heap[g]? = some (.cells c 9 (0, 0)) := by
  rcases h.2 with ⟨rfl, _⟩ | ⟨g', cap, cur, rfl, _, h, _⟩
  · cases hg
  · cases hg; exact ⟨_, h⟩

theorem own_base {B n : Nat} {v : Value} {xs : List Value} {w : World} (h : w.ownsRow B 9 1 v n xs) {g : Nat} (hg : v.ownBlock = some g) : B ≤ g := by
  rcases h.2 with ⟨rfl, _⟩ | ⟨g', cap, cur, rfl, h, _⟩
  · cases hg
  · cases hg; exact h

variable {w wr : World} {t : T} {acc : List UInt8} {cl : List ByteArray} {v : Value}

theorem St.next (h : St w wr t acc cl v) {w' : World} (k : Below wr.heap.size wr w') : St w w' t acc cl v :=
  ⟨var_keep h.var (keeps_below k), bld_keep h.bld (keeps_below k) (keeps_below k), own_keep h.own (keeps_below k), below_next h.low k⟩

theorem St.wrote (h : St w wr t acc cl v) {w' : World} {l : List UInt8} (hb : Lib.BuilderAtF 35 5 w.heap.size (w.heap.size + 1) (.pointer (some ⟨w.heap.size + 1, 0, none⟩)) (Lib.byteCells acc ++ Lib.strCells (ofL l)) w')
    (hl : Below w.heap.size wr w') (ho : Lib.OthersKept 5 (some (w.heap.size + 1)) wr w') : St w w' t (acc ++ l) cl v := by
  obtain ⟨c, hc⟩ := bld_at h.bld
  refine ⟨var_keep h.var (keeps_others ho (by decide) (fun c' fz e => by rw [hc] at e; cases e)), Or.inr ?_, own_keep h.own (keeps_others ho (by decide) (fun c' fz e => by rw [hc] at e; cases e)), h.low.trans hl⟩
  rw [strCells_ofL, byteCells_append] at hb
  exact hb

theorem St.pushed (h : St w wr t acc cl v) {w' : World} {v' : Value} {s : ByteArray} (ho : w'.ownsRow w.heap.size 9 1 v' (cl.length + 1) (cl.map .string ++ [.string s])) (hg : wr.grownBy w' v.ownBlock) : St w w' t acc (cl ++ [s]) v' := by
  refine ⟨var_keep h.var (keeps_grown hg (fun g e c fz hc => ?_)), bld_keep h.bld (keeps_grown hg (fun g e c fz hc => ?_)) (keeps_grown hg (fun g e c fz hc => ?_)), ?_, h.low.grown hg h.low.size (fun g e => own_base h.own e)⟩
  · obtain ⟨c', hc'⟩ := own_at h.own e; rw [hc'] at hc; cases hc
  · obtain ⟨c', hc'⟩ := own_at h.own e; rw [hc'] at hc; cases hc
  · obtain ⟨c', hc'⟩ := own_at h.own e; rw [hc'] at hc; cases hc
  · simpa using ho

theorem St.set (h : St w wr t acc cl v) {t' : T} {w' : World} (k35 : Keeps 35 wr w') (k5 : Keeps 5 wr w') (k9 : Keeps 9 wr w') (hv : Var w w' w.heap.size t') (hl : Below w.heap.size w w') : St w w' t' acc cl v :=
  ⟨hv, bld_keep h.bld k35 k5, own_keep h.own k9, hl⟩

end Go.Proofs.YtdpmdonneoadbaaDoor
