/-
  Proved: a map of numbers by texts, as a function: what is read of it, set in it; rows of numbers and of truths.
-/
import Derived.Test.YtcdeckbobabdkaaAln
import Derived.Test.YtcdeckbobabdkaaImap
import Derived.Deep.OwnRows
namespace Go.Proofs.Ytcdeckbobabdkaa
open Go.RowKit Go.Maps Go.WideShapes Go.WideMaps
set_option linter.unusedVariables false
set_option maxRecDepth 20000

theorem zeroSI (w : World) : (zeroValue 3).run Try.prog w = .ok (.int .i64 0) w := by kernel_rfl

/-- Block b is a map that reads as f, of at most n numbers. -/
def MapL (w : World) (b n : Nat) (f : Tx → Option Int) : Prop :=
  ∃ D : DataW Unit, w.ownsMap Try.prog 9 (plainElem Try.prog 3) b n D ∧ ∀ x, Maps.has D (.string x) = (f x).isSome ∧ D.atKey (.string x) (.lit (.int .i64 0)) = .lit (.int .i64 ((f x).getD 0))

theorem MapL.lt {w : World} {b n : Nat} {f : Tx → Option Int} (h : MapL w b n f) : b < w.heap.size := by
  obtain ⟨D, ⟨es, c, hb, _⟩, _⟩ := h
  exact (Array.getElem?_eq_some_iff.1 hb).1
theorem MapL.stay {w w' : World} {b n : Nat} {f : Tx → Option Int} (h : MapL w b n f) (e : w'.heap[b]? = w.heap[b]?) : MapL w' b n f := by
  obtain ⟨D, ⟨es, c, hb, h1, h2, h3⟩, h4⟩ := h
  exact ⟨D, ⟨es, c, e.trans hb, h1, h2, h3⟩, h4⟩
theorem MapL.mono {w : World} {b n m : Nat} {f : Tx → Option Int} (h : MapL w b n f) (hm : n ≤ m) : MapL w b m f := by
  obtain ⟨D, ⟨es, c, hb, h1, h2, h3⟩, h4⟩ := h
  exact ⟨D, ⟨es, c, hb, h1, Nat.le_trans h2 hm, h3⟩, h4⟩
theorem MapL.below {w w' : World} {b n : Nat} {f : Tx → Option Int} (h : MapL w b n f) (k : Below w.heap.size w w') : MapL w' b n f := h.stay (k.block b h.lt)
theorem MapL.belowN {w w' : World} {b n m : Nat} {f : Tx → Option Int} (h : MapL w b n f) (k : Below m w w') (hm : b < m) : MapL w' b n f := h.stay (k.block b hm)
theorem MapL.made (w : World) : MapL (w.alloc (.map #[] 0)) w.heap.size 0 (fun _ => none) :=
  ⟨.map [], World.ownsMap_made _ _ _ _, fun _ => ⟨rfl, rfl⟩⟩

theorem MapL.look1 {w : World} {b n : Nat} {f : Tx → Option Int} (h : MapL w b n f) {x : ByteArray} (hx : x.size ≤ maxLen) : (Instr.lookup 40 (.map (some b)) (.string x) false).run Try.prog w = .ok (.int .i64 ((f x.data.toList).getD 0)) w := by
  obtain ⟨D, h1, h2⟩ := h
  obtain ⟨c, hr, ha, _⟩ := h1.lookup_int lawS Try.underlying40 Try.underlying3 (zeroSI w) (keyOf_string_mk Try.underlying9 hx)
  rw [(h2 x.data.toList).2] at ha
  injection ha with ha
  injection ha with _ ha
  rw [hr, ← ha]
theorem MapL.look2 {w : World} {b n : Nat} {f : Tx → Option Int} (h : MapL w b n f) {x : ByteArray} (hx : x.size ≤ maxLen) : (Instr.lookup 40 (.map (some b)) (.string x) true).run Try.prog w = .ok (.tuple #[.int .i64 ((f x.data.toList).getD 0), .bool (f x.data.toList).isSome]) w := by
  obtain ⟨D, h1, h2⟩ := h
  obtain ⟨v, ps, hr, hv⟩ := h1.look_ok lawS Try.underlying40 (zeroSI w) (plainElem_int Try.underlying3 (by decide)) (keyOf_string_mk Try.underlying9 hx)
  obtain ⟨c, rfl, hc, _⟩ := plainElem_int_inv Try.underlying3 hv
  rw [(h2 x.data.toList).2] at hc
  simp only [Prod.mk.injEq, DataW.lit.injEq, Lit.int.injEq, true_and] at hc
  rw [hr, (h2 x.data.toList).1, hc.1]

theorem MapL.put {w : World} {b n : Nat} {f : Tx → Option Int} (h : MapL w b n f) {x : ByteArray} {v : Int} (hx : x.size ≤ maxLen) (hv : -9223372036854775808 ≤ v ∧ v ≤ 9223372036854775807) (hn : n ≤ 281474976710656) :
    ∃ w', (Instr.mapUpdate 40 (.map (some b)) (.string x) (.int .i64 v)).run Try.prog w = .ok () w' ∧ MapL w' b (n + 1) (updT f x.data.toList (some v)) ∧ Kp (fun k => k = b) w w' ∧ w'.heap.size = w.heap.size := by
  obtain ⟨D, h1, h2⟩ := h
  obtain ⟨w', hr, ho, ht⟩ := h1.store lawS Try.underlying40 (by unfold maxLen; omega) (keyOf_string_mk Try.underlying9 hx) (plainElem_int Try.underlying3 (WalkArith.wf_i64 hv))
  refine ⟨w', hr, ⟨_, ho, fun y => ?_⟩, turned_kp ht⟩
  by_cases e : y = x.data.toList
  · subst e
    rw [Maps.has_put_same h1.isMap (show WideAt.IsKeyLit (.string _) from trivial), Maps.atKey_put_same h1.isMap (show WideAt.IsKeyLit (.string _) from trivial)]
    simp [updT]
  · have hne : (Lit.string y) ≠ .string x.data.toList := fun h => e (by injection h)
    rw [Maps.has_put_other hne, Maps.atKey_put_other hne, (h2 y).1, (h2 y).2]
    simp [updT, e]

/-! rows -/

/-- A block of m cells, and spare room. -/
def GZ (t : TypeId) (w : World) (B m : Nat) (f : Nat → Value) : Prop := ∃ cs, At w B cs t ∧ ∀ i, i < m → cs[i]? = some (f i)
def IZ (w : World) (B m : Nat) (f : Nat → Int) : Prop := GZ 3 w B m fun i => .int .i64 (f i)
def BZ (w : World) (B m : Nat) (f : Nat → Bool) : Prop := GZ 4 w B m fun i => .bool (f i)
def pu {α : Type} (f : Nat → α) (i : Nat) (x : α) : Nat → α := fun j => if j = i then x else f j

theorem GZ.lt {t : TypeId} {w : World} {B m : Nat} {f : Nat → Value} (h : GZ t w B m f) : B < w.heap.size := by
  obtain ⟨cs, h1, _⟩ := h
  exact h1.lt
theorem GZ.cell {t : TypeId} {w : World} {B m : Nat} {f : Nat → Value} (h : GZ t w B m f) (i : Nat) (hi : i < m) : w.cell? ⟨B, i, none⟩ = some (f i) := by
  obtain ⟨cs, h1, h2⟩ := h
  rw [h1.cell, h2 i hi]
theorem GZ.frozen {t : TypeId} {w : World} {B m : Nat} {f : Nat → Value} (h : GZ t w B m f) (i : Nat) : w.frozen? ⟨B, i, none⟩ = false := by
  obtain ⟨cs, h1, _⟩ := h
  exact h1.frozen i
theorem GZ.kp {t : TypeId} {G : Nat → Prop} {w w' : World} {B m : Nat} {f : Nat → Value} (h : GZ t w B m f) (k : Kp G w w') (hG : ¬ G B) : GZ t w' B m f := by
  obtain ⟨cs, h1, h2⟩ := h
  exact ⟨cs, k.at h1 hG, h2⟩
theorem GZ.below {t : TypeId} {n : Nat} {w w' : World} {B m : Nat} {f : Nat → Value} (h : GZ t w B m f) (k : Below n w w') (hn : B < n) : GZ t w' B m f := by
  obtain ⟨cs, h1, h2⟩ := h
  exact ⟨cs, h1.below k hn, h2⟩
theorem GZ.set {t : TypeId} {w : World} {B m : Nat} {f : Nat → Value} (h : GZ t w B m f) (i : Nat) (hi : i < m) (x : Value) : GZ t (w.setCell ⟨B, i, none⟩ x) B m (pu f i x) := by
  obtain ⟨cs, h1, h2⟩ := h
  refine ⟨_, h1.set (j := i) _, fun j hj => ?_⟩
  have hs : i < cs.size := (Array.getElem?_eq_some_iff.1 (h2 i hi)).1
  rw [Array.getElem?_setIfInBounds]
  unfold pu
  by_cases e : i = j
  · subst e
    simp [hs]
  · have e' : ¬ j = i := fun h => e h.symm
    rw [if_neg e, if_neg e']
    exact h2 j hj
theorem GZ.ext {t : TypeId} {w : World} {B m : Nat} {f g : Nat → Value} (h : GZ t w B m f) (e : ∀ i, i < m → f i = g i) : GZ t w B m g := by
  obtain ⟨cs, h1, h2⟩ := h
  exact ⟨cs, h1, fun i hi => by rw [← e i hi]; exact h2 i hi⟩
theorem IZ.set {w : World} {B m : Nat} {f : Nat → Int} (h : IZ w B m f) (i : Nat) (hi : i < m) (x : Int) : IZ (w.setCell ⟨B, i, none⟩ (.int .i64 x)) B m (pu f i x) :=
  (GZ.set h i hi _).ext fun j _ => by unfold pu; split <;> rfl
theorem IZ.ext {w : World} {B m : Nat} {f g : Nat → Int} (h : IZ w B m f) (e : ∀ i, i < m → f i = g i) : IZ w B m g := GZ.ext h fun i hi => by rw [e i hi]
theorem BZ.set {w : World} {B m : Nat} {f : Nat → Bool} (h : BZ w B m f) (i : Nat) (hi : i < m) (x : Bool) : BZ (w.setCell ⟨B, i, none⟩ (.bool x)) B m (pu f i x) :=
  (GZ.set h i hi _).ext fun j _ => by unfold pu; split <;> rfl
theorem BZ.ext {w : World} {B m : Nat} {f g : Nat → Bool} (h : BZ w B m f) (e : ∀ i, i < m → f i = g i) : BZ w B m g := GZ.ext h fun i hi => by rw [e i hi]

theorem infoInt : (Try.prog.info? 3).map (fun i => (i.zero, i.size, i.bytes)) = some (some (.int .i64 0), 1, 8) := by kernel_rfl
theorem infoBool : (Try.prog.info? 4).map (fun i => (i.zero, i.size, i.bytes)) = some (some (.bool false), 1, 1) := by kernel_rfl
theorem made_get (z : Value) (n i : Nat) (hi : i < n) : (madeCells #[z] n)[i]? = some z := by
  rw [Array.getElem?_eq_getElem (by rw [size_madeCells]; exact hi)]
  simp [madeCells, Nat.mod_one]
theorem make_i (n : Nat) (hn : n ≤ 100000) (w : World) : (Instr.makeSlice 31 (.int .i64 (n : Int)) (.int .i64 (n : Int))).run Try.prog w = .ok (.slice (some ⟨w.heap.size, 0, none⟩) n n) (w.alloc (.cells (madeCells #[.int .i64 0] n) 3)) :=
  run_make_row' (P := Try.prog) 31 3 (.int .i64 0) 8 Try.underlying31 infoInt rfl .i64 .i64 n (by omega) (by omega) w
theorem make_b (n : Nat) (hn : n ≤ 100000) (w : World) : (Instr.makeSlice 60 (.int .i64 (n : Int)) (.int .i64 (n : Int))).run Try.prog w = .ok (.slice (some ⟨w.heap.size, 0, none⟩) n n) (w.alloc (.cells (madeCells #[.bool false] n) 4)) :=
  run_make_row' (P := Try.prog) 60 4 (.bool false) 1 Try.underlying60 infoBool rfl .i64 .i64 n (by omega) (by omega) w
theorem IZ.made (w : World) (n : Nat) : IZ (w.alloc (.cells (madeCells #[.int .i64 0] n) 3)) w.heap.size n (fun _ => 0) :=
  ⟨_, At.new w _ _, fun i hi => made_get _ _ _ hi⟩
theorem BZ.made (w : World) (n : Nat) : BZ (w.alloc (.cells (madeCells #[.bool false] n) 4)) w.heap.size n (fun _ => false) :=
  ⟨_, At.new w _ _, fun i hi => made_get _ _ _ hi⟩
end Go.Proofs.Ytcdeckbobabdkaa
