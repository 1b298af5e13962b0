/-
  Proved: a map of numbers by numbers, as a function: what is read of it, set in it and taken out of it.
-/
import Derived.Test.YtoagebclnaggjaaKit
import Derived.Maps.OwnSet
namespace Go.Proofs.Ytoagebclnaggjaa
open Go.RowKit Go.Maps Go.WideShapes

/-- A number that an int can be. -/
def In (x : Int) : Prop := -9223372036854775808 ≤ x ∧ x ≤ 9223372036854775807

theorem In.wf {x : Int} (h : In x) : (Lit.int .i64 x).wf = true := WalkArith.wf_i64 h
theorem lawI : Keyed Try.prog 3 := int_keyed Try.underlying3
theorem zeroI (w : World) : (zeroValue 3).run Try.prog w = .ok (.int .i64 0) w := by kernel_rfl

def upd (f : Int → Option Int) (x : Int) (v : Option Int) : Int → Option Int := fun y => if y = x then v else f y

/-- Block b is a map that reads as f, of at most n numbers. -/
def MapF (w : World) (b n : Nat) (f : Int → Option Int) : Prop :=
  ∃ D : DataW Unit, w.ownsMap Try.prog 3 (plainElem Try.prog 3) b n D ∧ ∀ x, In x → Maps.has D (.int .i64 x) = (f x).isSome ∧ D.atKey (.int .i64 x) (.lit (.int .i64 0)) = .lit (.int .i64 ((f x).getD 0))

theorem MapF.lt {w : World} {b n : Nat} {f : Int → Option Int} (h : MapF w b n f) : b < w.heap.size := by
  obtain ⟨D, ⟨es, c, hb, _⟩, _⟩ := h
  exact (Array.getElem?_eq_some_iff.1 hb).1

theorem MapF.mono {w : World} {b n m : Nat} {f : Int → Option Int} (h : MapF w b n f) (hm : n ≤ m) : MapF w b m f := by
  obtain ⟨D, ⟨es, c, hb, h1, h2, h3⟩, h4⟩ := h
  exact ⟨D, ⟨es, c, hb, h1, Nat.le_trans h2 hm, h3⟩, h4⟩

theorem MapF.ext {w : World} {b n : Nat} {f g : Int → Option Int} (h : MapF w b n f) (e : ∀ x, f x = g x) : MapF w b n g := by
  have : f = g := funext e
  rw [← this]
  exact h

/-- .. as long as its block stays. -/
theorem MapF.stay {w w' : World} {b n : Nat} {f : Int → Option Int} (h : MapF w b n f) (e : w'.heap[b]? = w.heap[b]?) : MapF w' b n f := by
  obtain ⟨D, ⟨es, c, hb, h1, h2, h3⟩, h4⟩ := h
  exact ⟨D, ⟨es, c, e.trans hb, h1, h2, h3⟩, h4⟩

theorem MapF.below {w w' : World} {b n : Nat} {f : Int → Option Int} (h : MapF w b n f) (k : Below w.heap.size w w') : MapF w' b n f := h.stay (k.block b h.lt)

theorem MapF.made (w : World) : MapF (w.alloc (.map #[] 0)) w.heap.size 0 (fun _ => none) :=
  ⟨.map [], World.ownsMap_made _ _ _ _, fun _ _ => ⟨rfl, rfl⟩⟩

theorem MapF.look1 {w : World} {b n : Nat} {f : Int → Option Int} (h : MapF w b n f) {x : Int} (hx : In x) : (Instr.lookup 38 (.map (some b)) (.int .i64 x) false).run Try.prog w = .ok (.int .i64 ((f x).getD 0)) w := by
  obtain ⟨D, h1, h2⟩ := h
  obtain ⟨c, hr, ha, _⟩ := h1.lookup_int lawI Try.underlying38 Try.underlying3 (zeroI w) (keyOf_int_mk Try.underlying3 hx.wf)
  rw [(h2 x hx).2] at ha
  injection ha with ha
  injection ha with _ ha
  rw [hr, ← ha]

theorem MapF.look2 {w : World} {b n : Nat} {f : Int → Option Int} (h : MapF w b n f) {x : Int} (hx : In x) : (Instr.lookup 38 (.map (some b)) (.int .i64 x) true).run Try.prog w = .ok (.tuple #[.int .i64 ((f x).getD 0), .bool (f x).isSome]) w := by
  obtain ⟨D, h1, h2⟩ := h
  obtain ⟨v, ps, hr, hv⟩ := h1.look_ok lawI Try.underlying38 (zeroI w) (plainElem_int Try.underlying3 (by decide)) (keyOf_int_mk Try.underlying3 hx.wf)
  obtain ⟨c, rfl, hc, _⟩ := plainElem_int_inv Try.underlying3 hv
  rw [(h2 x hx).2] at hc
  injection hc with hc _
  injection hc with hc
  injection hc with _ hc
  rw [hr, (h2 x hx).1, hc]

theorem turned_kp {w w' : World} {b : Nat} (h : w.mapTurned w' b) : Kp (fun k => k = b) w w' ∧ w'.heap.size = w.heap.size := by
  obtain ⟨es, c, es', c', hb, rfl⟩ := h
  exact ⟨⟨⟨rfl, rfl, rfl, by simp [ChangeMaps.setBlock], fun k hk => by omega⟩, fun k hk hne => by
    simp only [ChangeMaps.setBlock]
    rw [Array.getElem?_setIfInBounds_ne (fun e => hne e.symm)]⟩, by simp [ChangeMaps.setBlock]⟩

theorem MapF.put {w : World} {b n : Nat} {f : Int → Option Int} (h : MapF w b n f) {x v : Int} (hx : In x) (hv : In v) (hn : n ≤ 100000) :
    ∃ w', (Instr.mapUpdate 38 (.map (some b)) (.int .i64 x) (.int .i64 v)).run Try.prog w = .ok () w' ∧ MapF w' b (n + 1) (upd f x (some v)) ∧ Kp (fun k => k = b) w w' ∧ w'.heap.size = w.heap.size := by
  obtain ⟨D, h1, h2⟩ := h
  obtain ⟨w', hr, ho, ht⟩ := h1.store lawI Try.underlying38 (by unfold maxLen; omega) (keyOf_int_mk Try.underlying3 hx.wf) (plainElem_int Try.underlying3 hv.wf)
  refine ⟨w', hr, ⟨_, ho, fun y hy => ?_⟩, turned_kp ht⟩
  by_cases e : y = x
  · subst e
    rw [Maps.has_put_same h1.isMap (show WideAt.IsKeyLit (.int _ _) from trivial), Maps.atKey_put_same h1.isMap (show WideAt.IsKeyLit (.int _ _) from trivial)]
    simp [upd]
  · have hne : (Lit.int .i64 y) ≠ .int .i64 x := fun h => e (by injection h)
    rw [Maps.has_put_other hne, Maps.atKey_put_other hne, (h2 y hy).1, (h2 y hy).2]
    simp [upd, e]

theorem MapF.del {w : World} {b n : Nat} {f : Int → Option Int} (h : MapF w b n f) {x : Int} (hx : In x) (ty : TypeId) :
    ∃ w', (Builtin.delete_ #[38, 3] ty #[.map (some b), .int .i64 x]).run Try.prog w = .ok (.tuple #[]) w' ∧ MapF w' b n (upd f x none) ∧ Kp (fun k => k = b) w w' ∧ w'.heap.size = w.heap.size := by
  obtain ⟨D, h1, h2⟩ := h
  obtain ⟨w', hr, ho, ht⟩ := h1.drop lawI Try.underlying38 (keyOf_int_mk Try.underlying3 hx.wf) ty
  refine ⟨w', hr, ⟨_, ho, fun y hy => ?_⟩, turned_kp ht⟩
  by_cases e : y = x
  · subst e
    rw [Maps.has_del_same, Maps.atKey_del_same]
    simp [upd]
  · have hne : (Lit.int .i64 y) ≠ .int .i64 x := fun h => e (by injection h)
    rw [Maps.has_del_other hne, Maps.atKey_del_other hne, (h2 y hy).1, (h2 y hy).2]
    simp [upd, e]
end Go.Proofs.Ytoagebclnaggjaa
