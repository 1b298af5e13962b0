/-
  Proved: a map of numbers by texts, as a function: what is read of it, set in it, and how many it has.
-/
import Derived.Test.YtapgaclonilnbaaDoorLchk
import Derived.Maps.OwnSet
namespace Go.Proofs.YtapgaclonilnbaaDoor
open Go.RowKit Go.Maps Go.WideShapes Go.WideMaps

theorem lawS : Keyed Tryd.prog 9 := string_keyed Tryd.underlying9
theorem zeroSI (w : World) : (zeroValue 3).run Tryd.prog w = .ok (.int .i64 0) w := by kernel_rfl


/-- Block b is a map that reads as f, of n numbers. -/
def MapS (w : World) (b n : Nat) (f : Tx → Option Int) : Prop :=
  ∃ D : DataW Unit, w.ownsMap Tryd.prog 9 (plainElem Tryd.prog 3) b n D ∧ Maps.size D = n ∧ ∀ x, Maps.has D (.string x) = (f x).isSome ∧ D.atKey (.string x) (.lit (.int .i64 0)) = .lit (.int .i64 ((f x).getD 0))

theorem MapS.lt {w : World} {b n : Nat} {f : Tx → Option Int} (h : MapS w b n f) : b < w.heap.size := by
  obtain ⟨D, ⟨es, c, hb, _⟩, _⟩ := h
  exact (Array.getElem?_eq_some_iff.1 hb).1

theorem MapS.stay {w w' : World} {b n : Nat} {f : Tx → Option Int} (h : MapS w b n f) (e : w'.heap[b]? = w.heap[b]?) : MapS w' b n f := by
  obtain ⟨D, ⟨es, c, hb, h1, h2, h3⟩, h4⟩ := h
  exact ⟨D, ⟨es, c, e.trans hb, h1, h2, h3⟩, h4⟩

theorem MapS.below {w w' : World} {b n : Nat} {f : Tx → Option Int} (h : MapS w b n f) (k : Below w.heap.size w w') : MapS w' b n f := h.stay (k.block b h.lt)

theorem MapS.made (w : World) : MapS (w.alloc (.map #[] 0)) w.heap.size 0 (fun _ => none) :=
  ⟨.map [], World.ownsMap_made _ _ _ _, rfl, fun _ => ⟨rfl, rfl⟩⟩

theorem MapS.look2 {w : World} {b n : Nat} {f : Tx → Option Int} (h : MapS w b n f) {x : ByteArray} (hx : x.size ≤ maxLen) : (Instr.lookup 50 (.map (some b)) (.string x) true).run Tryd.prog w = .ok (.tuple #[.int .i64 ((f x.data.toList).getD 0), .bool (f x.data.toList).isSome]) w := by
  obtain ⟨D, h1, _, h2⟩ := h
  obtain ⟨v, ps, hr, hv⟩ := h1.look_ok lawS Tryd.underlying50 (zeroSI w) (plainElem_int Tryd.underlying3 (by decide)) (keyOf_string_mk Tryd.underlying9 hx)
  obtain ⟨c, rfl, hc, _⟩ := plainElem_int_inv Tryd.underlying3 hv
  rw [(h2 x.data.toList).2] at hc
  simp only [Prod.mk.injEq, DataW.lit.injEq, Lit.int.injEq, true_and] at hc
  rw [hr, (h2 x.data.toList).1, hc.1]

theorem MapS.len {w : World} {b n : Nat} {f : Tx → Option Int} (h : MapS w b n f) (ty : TypeId) : (Builtin.len_ #[50] ty #[.map (some b)]).run Tryd.prog w = .ok (.int .i64 (n : Int)) w := by
  obtain ⟨D, h1, h3, h2⟩ := h
  rw [h1.len Tryd.underlying50 ty, h3]

theorem turned_kp {w w' : World} {b : Nat} (h : w.mapTurned w' b) : Kp (fun k => k = b) w w' ∧ w'.heap.size = w.heap.size := by
  obtain ⟨es, c, es', c', hb, rfl⟩ := h
  exact ⟨⟨⟨rfl, rfl, rfl, by simp [ChangeMaps.setBlock], fun k hk => by omega⟩, fun k hk hne => by
    simp only [ChangeMaps.setBlock]
    rw [Array.getElem?_setIfInBounds_ne (fun e => hne e.symm)]⟩, by simp [ChangeMaps.setBlock]⟩

theorem MapS.put {w : World} {b n : Nat} {f : Tx → Option Int} (h : MapS w b n f) {x : ByteArray} {v : Int} (hx : x.size ≤ maxLen) (hv : -9223372036854775808 ≤ v ∧ v ≤ 9223372036854775807) (hn : n ≤ 281474976710656) :
    ∃ w', (Instr.mapUpdate 50 (.map (some b)) (.string x) (.int .i64 v)).run Tryd.prog w = .ok () w' ∧ MapS w' b (if (f x.data.toList).isSome then n else n + 1) (updS f x.data.toList (some v)) ∧ Kp (fun k => k = b) w w' ∧ w'.heap.size = w.heap.size := by
  obtain ⟨D, h1, h3, h2⟩ := h
  obtain ⟨w', hr, ho, ht⟩ := h1.store lawS Tryd.underlying50 (by unfold maxLen; omega) (keyOf_string_mk Tryd.underlying9 hx) (plainElem_int Tryd.underlying3 (WalkArith.wf_i64 hv))
  have hsz := Maps.size_put (k := .string x.data.toList) (h1.tidy lawS) (.lit (.int .i64 v))
  rw [(h2 _).1, h3] at hsz
  obtain ⟨es, c, hb, g1, g2, g3⟩ := ho
  have hle : es.size = Maps.size (D.put (.string x.data.toList) (.lit (.int .i64 v))) := by
    rw [g3]
    simp [Maps.size, length_sorted]
  refine ⟨w', hr, ⟨_, ⟨es, c, hb, g1, ?_, g3⟩, hsz, fun y => ?_⟩, turned_kp ht⟩
  · rw [hle, hsz]
    exact Nat.le_refl _
  · by_cases e : y = x.data.toList
    · subst e
      rw [Maps.has_put_same h1.isMap (show WideAt.IsKeyLit (.string _) from trivial), Maps.atKey_put_same h1.isMap (show WideAt.IsKeyLit (.string _) from trivial)]
      simp [updS]
    · have hne : (Lit.string y) ≠ .string x.data.toList := fun h => e (by injection h)
      rw [Maps.has_put_other hne, Maps.atKey_put_other hne, (h2 y).1, (h2 y).2]
      simp [updS, e]
end Go.Proofs.YtapgaclonilnbaaDoor
