/-
  Proved: slices.Backward over a list of texts hands each on, the last one first, to a loop's body that keeps the list.
-/
import Derived.Test.YtdpmdonneoadbaaDoorState
import Derived.RangeFuncNested
import Derived.RangeFuncBound
import Derived.RangeFuncCalls
import Derived.RangeFuncLeaves
import Derived.Shelf.Abstract
import Derived.Shelf.RegionOpen
import Derived.OwnWalkIn
import Derived.TacticsInMore
import Derived.LoopNIn
import Derived.LoopIn
namespace Go.Proofs.YtdpmdonneoadbaaDoor
open Go.RowKit Go.Shelf

attribute [local go_sem] Oper.semAt_some

/-- What a body keeps: lists of texts, and what holds such a list. -/
def Calm (W W' : World) : Prop := Keeps 9 W W' ∧ Keeps 36 W W'

theorem Calm.refl (W : World) : Calm W W := ⟨fun _ _ _ h => h, fun _ _ _ h => h⟩
theorem Calm.trans {A B C : World} (h : Calm A B) (k : Calm B C) : Calm A C := ⟨fun i c f hi => k.1 i c f (h.1 i c f hi), fun i c f hi => k.2 i c f (h.2 i c f hi)⟩
theorem calm_b {w : World} (W : World) (l : Nat) (o o' : Obj) (_ : w.heap.size ≤ l) (h : W.heap[l]? = some o) (hc : o.isCells = false) (_ : o.isWalk = false) : Calm W (W.putObj l o') := by
  have : ∀ t, Keeps t W (W.putObj l o') := fun t k c fz hk => by
    have hne : k ≠ l := fun e => by
      subst e
      rw [h] at hk
      cases hk
      cases hc
    exact (World.putObj_heap_other hne).trans hk
  exact ⟨this 9, this 36⟩

/-- A short text. -/
abbrev Sh := { s : ByteArray // s.size ≤ 100 }

/-- What has come behind k rounds. -/
def comes (f : Nat → Sh) (len k : Nat) : List (Nat × Sh) := (List.range k).map fun j => (len - 1 - j, f (len - 1 - j))
theorem comes_succ (f : Nat → Sh) (len k : Nat) : comes f len (k + 1) = comes f len k ++ [(len - 1 - k, f (len - 1 - k))] := by simp [comes, List.range_succ]
theorem comes_length (f : Nat → Sh) (len k : Nat) : (comes f len k).length = k := by simp [comes]

set_option maxRecDepth 100000 in
set_option maxHeartbeats 2000000 in
theorem back1 (F : Fence) (n : Nat) (h22 : F.fn 22) (hro : F.round = none) (hn : 1 ≤ n) (l Bs b cap : Nat) (cur : Array Value) (len : Nat) (hlen : len ≤ 1000) (f : Nat → Sh) (J Jx : List (Nat × Sh) → World → Prop)
    (hY : ∀ pre x W, J pre W → pre.length < len → YieldAt F (n - 1) Tryd.prog l #[.int .i64 (x.1 : Int), .string x.2.1] W fun e W' =>
      (e = .returned (.bool true) ∧ J (pre ++ [x]) W' ∧ Calm W W') ∨ (e = .returned (.bool false) ∧ Jx (pre ++ [x]) W'))
    (W : World) (hBs : W.heap[Bs]? = some (.cells #[.slice (some ⟨b, 0, none⟩) len cap] 36 (0, 0))) (hc : W.heap[b]? = some (.cells cur 9 (0, 0))) (hcur : ∀ j, j < len → cur[j]? = some (.string (f j).1)) (h0 : J [] W) :
    CallsIn F n Tryd.prog 22 #[.func (.yield l) #[] #[], .pointer (some ⟨Bs, 0, none⟩)] W fun e W' => (∃ v, e = .returned v) ∧
      ((∃ ys, ys = comes f len len ∧ J ys W') ∨ (∃ pre, True ∧ Jx pre W')) := by
  have hB0 : W.cell? ⟨Bs, 0, none⟩ = some (.slice (some ⟨b, 0, none⟩) len cap) := (cell_at hBs 0).trans rfl
  have HB : Hid (W.heap[Bs]? = some (.cells #[.slice (some ⟨b, 0, none⟩) len cap] 36 (0, 0))) := hBs
  have HC : Hid (W.heap[b]? = some (.cells cur 9 (0, 0))) := hc
  have HU : Hid (∀ j, j < len → cur[j]? = some (.string (f j).1)) := hcur
  clear hBs hc hcur
  refine callsIn_of_wp Tryd.func22 rfl h22 ?_ hro
  simp only [Tryd.ntmps22, List.size_toArray, List.length_cons, List.length_nil, Nat.reduceAdd, Nat.reduceSub, Array.replicate_succ, Array.replicate_zero, List.push_toArray, List.append_toArray, List.nil_append, List.cons_append]
  gi_wp2
  gi_loopw [3] (fun i wr => ∃ (k : Nat) (z : Int), k ≤ len ∧ i = .int .i64 z ∧ Hid (z = (len : Int) - 1 - (k : Int)) ∧ J (comes f len k) wr ∧ Calm W wr)
    (fun i _ => (intOf i + 1).toNat)
  case atStart => exact ⟨0, _, Nat.zero_le _, rfl, (by show _ = _; omega), h0, Calm.refl _⟩
  case round =>
    obtain ⟨k, z, hk, rfl, hz, hJs, hnx⟩ := hrel
    have HN : Hid (Calm W wr) := hnx
    clear hnx hB0
    have hB1 : wr.cell? ⟨Bs, 0, none⟩ = some (.slice (some ⟨b, 0, none⟩) len cap) := (cell_at (HN.out.2 _ _ _ HB.out) 0).trans rfl
    by_cases hlt : k < len
    · obtain ⟨m, hm⟩ : ∃ m : Nat, z = (m : Int) := ⟨z.toNat, by have := hz.out; omega⟩
      subst hm
      have hm' : Hid (m = len - 1 - k) := by show _ = _; have := hz.out; omega
      have hml : m < len := by have := hm'.out; omega
      have hcx : wr.cell? ⟨b, m, none⟩ = some (.string (f m).1) := (cell_at (HN.out.1 _ _ _ HC.out) m).trans (HU.out m hml)
      obtain ⟨fn, tmps, assign, body, hy, hR⟩ := hY _ (m, f m) wr hJs (by rw [comes_length]; exact hlt)
      dsimp only at hy
      gi_wp2
      refine hR.mono ?_
      rintro e W3 (⟨rfl, hJ3, hk3⟩ | ⟨rfl, hJx3⟩)
      · gi_wp2
        go_roundw
        case rel => exact ⟨k + 1, _, by omega, rfl, (by show _ = _; have := hz.out; omega), by rw [comes_succ, ← hm'.out]; exact hJ3, HN.out.trans hk3⟩
        case measure => simp [intOf]
      · gi_wp2
        refine bodyPost_ret (results_none rfl _ _ _) rfl ?_
        exact ⟨⟨_, rfl⟩, .inr ⟨_, trivial, hJx3⟩⟩
    · have hz' : z = -1 := by have := hz.out; omega
      subst hz'
      have hkl : Hid (k = len) := by show _ = _; omega
      gi_wp2
      go_end0
      exact ⟨⟨_, rfl⟩, .inl ⟨_, rfl, by rw [hkl.out] at hJs; exact hJs⟩⟩

set_option maxRecDepth 100000 in
set_option maxHeartbeats 2000000 in
theorem back1_nil (F : Fence) (n : Nat) (h22 : F.fn 22) (hro : F.round = none) (l Bs : Nat) (J : List (Nat × Sh) → World → Prop) (W : World) (hBs : W.cell? ⟨Bs, 0, none⟩ = some (.slice none 0 0)) (h0 : J [] W) :
    CallsIn F n Tryd.prog 22 #[.func (.yield l) #[] #[], .pointer (some ⟨Bs, 0, none⟩)] W fun e W' => (∃ v, e = .returned v) ∧ J [] W' := by
  refine callsIn_of_wp Tryd.func22 rfl h22 ?_ hro
  simp only [Tryd.ntmps22, List.size_toArray, List.length_cons, List.length_nil, Nat.reduceAdd, Nat.reduceSub, Array.replicate_succ, Array.replicate_zero, List.push_toArray, List.append_toArray, List.nil_append, List.cons_append]
  gi_wp2
  gi_loopw [3] (fun i wr => i = .int .i64 (-1) ∧ J [] wr) (fun _ _ => 0)
  case atStart => exact ⟨rfl, h0⟩
  case round =>
    obtain ⟨rfl, hJs⟩ := hrel
    gi_wp2
    go_end0
    exact ⟨⟨_, rfl⟩, hJs⟩

theorem back_in (F : Fence) (n : Nat) (h13 : F.fn 13) (hro : F.round = none) (a : Option Addr) (len cap : Nat) (w : World) :
    CallsIn F n Tryd.prog 13 #[.slice a len cap] w fun e w' => e = .returned (.func (.func 22) #[] #[.pointer (some ⟨w.heap.size, 0, none⟩)]) ∧ w' = w.alloc (.cells #[.slice a len cap] 36) := by
  refine callsIn_of_wp Tryd.func13 rfl h13 ?_ hro
  simp only [Tryd.ntmps13, List.size_toArray, List.length_cons, List.length_nil, Nat.reduceAdd, Nat.reduceSub, Array.replicate_succ, Array.replicate_zero, List.push_toArray, List.append_toArray, List.nil_append, List.cons_append]
  gi_wp2
  go_ret
  exact ⟨rfl, rfl⟩

/-- The list v of texts, and what comes of it. -/
theorem back_stops (F : Fence) (n : Nat) (h22 : F.fn 22) (hro : F.round = none) (hn : 1 ≤ n) (Bs B : Nat) (v : Value) (cl : List ByteArray) (hlen : cl.length ≤ 1000) (hsh : ∀ s ∈ cl, s.size ≤ 100) (w : World)
    (hBs : w.heap[Bs]? = some (.cells #[v] 36 (0, 0))) (ho : w.ownsRow B 9 1 v cl.length (cl.map .string)) :
    SeqStopsK F n Tryd.prog 22 #[.pointer (some ⟨Bs, 0, none⟩)] (fun x : Nat × Sh => #[Value.int .i64 (x.1 : Int), Value.string x.2.1]) Calm (fun ys => ys.map (·.2.1) = cl.reverse)
      (fun _ => True) cl.length w := fun l J Jx W hW _ _ hY h0 => by
  have hc' : W.heap[Bs]? = some (.cells #[v] 36 (0, 0)) := (hW.block Bs (Array.getElem?_eq_some_iff.1 hBs).1).trans hBs
  rcases ho.2 with ⟨rfl, h2⟩ | ⟨g, cap, cur, rfl, e2, e3, e4, e5, e6, e7⟩
  · refine (back1_nil F n h22 hro l Bs J W ((cell_at hc' 0).trans rfl) h0).mono fun e W' ⟨he, hj⟩ => ⟨he, .inl ⟨_, ?_, hj⟩⟩
    have : cl = [] := List.length_eq_zero_iff.1 h2
    subst this
    rfl
  · have hg : W.heap[g]? = some (.cells cur 9 (0, 0)) := (hW.block g (Array.getElem?_eq_some_iff.1 e3).1).trans e3
    refine (back1 F n h22 hro hn l Bs g cap cur cl.length hlen (fun j => ⟨cl[j]?.getD ⟨#[]⟩, by cases hj : cl[j]? with | none => exact Nat.zero_le _ | some s => exact hsh s (List.mem_of_getElem? hj)⟩) J Jx hY W hc' hg ?_ h0).mono ?_
    · intro j hj
      have : (cur.toList.take (cl.length * 1))[j]? = (cl.map Value.string)[j]? := by rw [e7]
      rw [List.getElem?_take_of_lt (by omega), Array.getElem?_toList] at this
      rw [this]
      simp [hj]
    · rintro e W' ⟨he, ⟨ys, rfl, hj⟩ | ⟨pre, _, hj⟩⟩
      · refine ⟨he, .inl ⟨_, ?_, hj⟩⟩
        apply List.ext_getElem
        · simp [comes]
        · intro i h1 h2
          have hi : i < cl.length := by simpa [comes] using h1
          simp [comes, List.getElem?_eq_getElem (show cl.length - 1 - i < cl.length by omega)]
      · exact ⟨he, .inr ⟨pre, trivial, hj⟩⟩

end Go.Proofs.YtdpmdonneoadbaaDoor
