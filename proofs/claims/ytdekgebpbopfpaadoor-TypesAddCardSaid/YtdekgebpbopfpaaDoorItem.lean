/-
  Proved: types.itemOf hands out the struct or enum that a type names.
-/
import Derived.Test.YtdekgebpbopfpaaDoorWords
namespace Go.Proofs.YtdekgebpbopfpaaDoor
open Go.RowKit

/-- A store of an item, as a whole. -/
def stI (p v : Value) : Sem Unit := Instr.storeAt 38 p v
theorem foldS (p v : Value) : Instr.storeAt 38 p v = stI p v := rfl
attribute [local go_sem ↓] fold38 foldS

theorem at_setCells {w : World} {B : Nat} {cs : Array Value} {t : TypeId} (h : At w B cs t) : ∀ (vs : List Value) (o : Nat), ∃ ds, ds.size = cs.size ∧ At (w.setCells B o vs) B ds t := by
  intro vs
  induction vs generalizing w cs with
  | nil => intro o; exact ⟨cs, rfl, h⟩
  | cons v vs ih =>
    intro o
    obtain ⟨ds, h1, h2⟩ := ih (h.set (j := o) v) (o + 1)
    exact ⟨ds, by rw [h1]; simp, h2⟩

theorem below_setCells {n : Nat} {w W : World} (h : Below n w W) {B : Nat} (hB : n ≤ B) : ∀ (vs : List Value) (o : Nat), Below n w (W.setCells B o vs) := by
  intro vs
  induction vs generalizing W with
  | nil => intro o; exact h
  | cons v vs ih => intro o; exact ih (h.setCell (p := ⟨B, o, none⟩) hB v) (o + 1)

theorem icells_one (k : Int) (s : ByteArray) (P : Option Addr) (pl pc : Nat) (V : Option Addr) (vl vc : Nat) (r : Rst) : ∀ u ∈ icells k s P pl pc V vl vc r, u.oneCell' = true := by
  intro u hu
  simp only [icells, List.mem_cons, List.not_mem_nil, or_false] at hu
  rcases hu with rfl | rfl | rfl | rfl | rfl | rfl | rfl | rfl | rfl | rfl | rfl | rfl | rfl | rfl | rfl | rfl | rfl | rfl | rfl | rfl <;> rfl

/-- Behind the store the item lies there. -/
theorem store_item {w w1 : World} {B : Nat} {cs : Array Value} (hB : w.heap.size ≤ B) (hw : Below w.heap.size w w1) (h : At w1 B cs 38) (hc : cs.size = 20) (k : Int) (s : ByteArray) (P : Option Addr) (pl pc : Nat) (V : Option Addr) (vl vc : Nat) (r : Rst) :
    ∃ W2, (stI (.pointer (some ⟨B, 0, none⟩)) (.agg (icells k s P pl pc V vl vc r).toArray)).run Tryd.prog w1 = .ok () W2 ∧ Below w.heap.size w W2 ∧ (loadVar 38 ⟨B, 0, none⟩).run Tryd.prog W2 = .ok (.agg (icells k s P pl pc V vl vc r).toArray) W2 := by
  have th : w1.there B 0 20 := fun j hj => ⟨by rw [show 0 + j = j by omega, h.cell j, Array.getElem?_eq_getElem (by omega)]; rfl, h.frozen _⟩
  refine ⟨_, run_storeAt_mid w1 B 0 38 (icells k s P pl pc V vl vc r).toArray th size38 (all_oneCell_toArray (icells_one _ _ _ _ _ _ _ _ _)), below_setCells hw hB _ _, ?_⟩
  exact run_loadVar_mid _ B 0 38 (icells k s P pl pc V vl vc r) _ (World.rangeAt_setCells_same w1 B 0 (icells k s P pl pc V vl vc r) th) Tryd.underlying38 rfl size38

set_option maxRecDepth 100000 in
set_option maxHeartbeats 4000000 in
theorem itemOf_walk (l C : Nat) (b o j : Nat) (hj : j < l) (s : ByteArray) (n : Int) (EA : Option Addr) (el EC : Nat) (kk : Int) (VI : Value) (w : World)
    (FI : Hid (∀ w', Below w.heap.size w w' → Calls Tryd.prog 21 #[.slice (some ⟨b, o, none⟩) l C, .string s, .func (.func 22) #[] #[]] w' fun e w'' => e = .returned (.int .i64 (j : Int)) ∧ Below w'.heap.size w' w''))
    (K0 : Hid (∀ w', Below w.heap.size w w' → w'.cell? ⟨b, o + j * 20, none⟩ = some (.int .i64 kk) ∧ (ldI (.pointer (some ⟨b, o + j * 20, none⟩))).run Tryd.prog w' = .ok VI w'))
    (ST : Hid (∀ w', Below w.heap.size w w' → (∃ cs, cs.size = 20 ∧ At w' (w.heap.size + 1) cs 38) → ∃ W2, (stI (.pointer (some ⟨w.heap.size + 1, 0, none⟩)) VI).run Tryd.prog w' = .ok () W2 ∧ Below w.heap.size w W2 ∧ (loadVar 38 ⟨w.heap.size + 1, 0, none⟩).run Tryd.prog W2 = .ok VI W2)) :
    Calls Tryd.prog 16 #[.slice (some ⟨b, o, none⟩) l C, .agg #[.int .i64 9, .string s, .int .i64 n, .slice EA el EC], .int .i64 kk] w
      fun e' w' => e' = .returned VI ∧ Below w.heap.size w w' := by
  have hj' : (j : Int) < (l : Int) := by omega
  have HW2 : Hid (∀ a b, Below w.heap.size w ((w.alloc a).alloc b)) := two_alloc w
  have AT2 : Hid (∀ (c : Obj) cs w1, Below ((w.alloc c).alloc (.cells cs 38)).heap.size ((w.alloc c).alloc (.cells cs 38)) w1 → At w1 (w.heap.size + 1) cs 38) := fun c cs w1 hb => by
    have := At.new (w.alloc c) cs 38
    have h2 := this.below hb this.lt
    simpa using h2
  go_enter Tryd.func16, Tryd.ntmps16
  go_wp2_with (go_at_call 21; refine (FI.out _ (HW2.out _ _)).mono ?_; rintro e' w1 ⟨rfl, hb1⟩; have B1 : Hid (Below w.heap.size w w1) := below_next (HW2.out _ _) hb1; have k0 := (K0.out _ B1.out).1; have ld := (K0.out _ B1.out).2; obtain ⟨W2, st, bw, lv⟩ := ST.out _ B1.out ⟨_, rfl, AT2.out _ _ _ hb1⟩; have BW : Hid (Below w.heap.size w W2) := bw; have LV : Hid ((loadVar 38 ⟨w.heap.size + 1, 0, none⟩).run Tryd.prog W2 = .ok VI W2) := lv; clear hb1 bw lv)
  refine bodyPost_ret (v := VI) ?_ rfl ⟨rfl, BW.out⟩
  simp [results, Tryd.results16, asAddr, LV.out]

theorem itemOf_c (is : List It) (s : ByteArray) (n : Int) (EA : Option Addr) (el EC C : Nat) (A : Option Addr) (kk : Int) (w : World) (hi : IsIn w is A) (j : Nat) (hf : fst s is 0 = some j) (hj : j < is.length) (hk : (is[j]'hj).k = kk) :
    ∃ P pc V vc r, PsIn w (is[j]'hj).ps P ∧ VsIn w (is[j]'hj).vs V ∧ Calls Tryd.prog 16 #[.slice A is.length C, .agg #[.int .i64 9, .string s, .int .i64 n, .slice EA el EC], .int .i64 kk] w
      fun e' w' => e' = .returned (.agg (icells kk (is[j]'hj).s P (is[j]'hj).ps.length pc V (is[j]'hj).vs.length vc r).toArray) ∧ Below w.heap.size w w' := by
  obtain ⟨b, o, P, pc, V, vc, r, rfl, hrow, hps, hvs⟩ := hi.2 j hj
  rw [hk] at hrow
  refine ⟨P, pc, V, vc, r, hps, hvs, itemOf_walk is.length C b o j hj s n EA el EC kk _ w (fun w' hw => ?_) (fun w' hw => ⟨(celI (hrow.below hw)).1, load_item (hrow.below hw)⟩) (fun w' hw hc => ?_)⟩
  · have := first_c is s (some ⟨b, o, none⟩) C w' (hi.below hw)
    rw [hf] at this
    exact this
  · obtain ⟨cs, h1, h2⟩ := hc
    exact store_item (by omega) hw h2 h1 _ _ _ _ _ _ _ _ _
end Go.Proofs.YtdekgebpbopfpaaDoor
