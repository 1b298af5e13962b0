/-
  Proved: what types.Words answers of any type, given any items.
-/
import Derived.Test.YtjdkoahbahecoaaGreatDoorOf
namespace Go.Proofs.YtjdkoahbahecoaaGreatDoor
open Go.RowKit

/-- How much a type has, if it is known and small. -/
def amt (is : List It) (t : T) : Option Am := am is 512 t 512

theorem amt_ok {is : List It} {t : T} {a : Am} (h : amt is t = some a) : 1 ≤ a.p ∧ a.p ≤ 512 ∧ a.w ≤ a.p ∧ a.m ≤ a.p := am_ok is 512 t 512 a h

theorem measure_c (is : List It) (t : T) (cs : List Value) (A : Option Addr) (C : Nat) (w : World) (ht : Tab w) (hi : IsIn w is A) (hx : TIn w t cs) :
    Calls Tryz.prog 59 #[.slice A is.length C, .agg cs.toArray] w fun e w' => e = .returned (amV (amt is t)) ∧ Below w.heap.size w w' := by
  obtain ⟨k, s, n, es⟩ := t
  obtain ⟨EA, EC, rfl, _⟩ := hx.inv
  obtain ⟨rp, rn, rm, hX⟩ := amV_agg (amt is (.mk k s n es))
  have OF : Hid (∀ w', Below w.heap.size w w' → Calls Tryz.prog 82 #[.agg #[.slice A is.length C], .agg #[.int .i64 k, .string s, .int .i64 n, .slice EA es.length EC], .int .i64 512] w' fun e w'' => e = .returned (.agg #[.int .i64 rp, .int .i64 rn, .int .i64 rm]) ∧ Below w'.heap.size w' w'') := fun w' hw => by
    rw [← hX]
    exact of_c is 512 (Nat.le_refl _) 512 (.mk k s n es) w' _ A C (Nat.le_refl _) (ht.below hw) (hi.below hw) (hx.stays hw)
  have HW2 : Hid (∀ a b, Below w.heap.size w ((w.alloc a).alloc b)) := two_alloc w
  have ZZ : Hid (∀ w1, Below ((w.alloc (.cells #[.int .i64 k, .string s, .int .i64 n, .slice EA es.length EC] 25)).alloc (.cells #[.int .i64 0, .int .i64 0, .int .i64 0] 113)).heap.size ((w.alloc (.cells #[.int .i64 k, .string s, .int .i64 n, .slice EA es.length EC] 25)).alloc (.cells #[.int .i64 0, .int .i64 0, .int .i64 0] 113)) w1 → At w1 (w.heap.size + 1) #[.int .i64 0, .int .i64 0, .int .i64 0] 113) := fun w1 hb => by
    have := (At.new (w.alloc (.cells #[.int .i64 k, .string s, .int .i64 n, .slice EA es.length EC] 25)) #[.int .i64 0, .int .i64 0, .int .i64 0] 113)
    have h2 := this.below hb this.lt
    simpa using h2
  rw [hX]
  clear ht hi hx hX
  go_enter Tryz.func59, Tryz.ntmps59
  go_wp2_with (go_at_call 82; refine (OF.out _ (HW2.out _ _)).mono ?_; rintro e' w1 ⟨rfl, hb1⟩; have BB : Hid (Below w.heap.size w w1) := below_next (HW2.out _ _) hb1; have HX : Hid (At w1 (w.heap.size + 1) #[.int .i64 0, .int .i64 0, .int .i64 0] 113) := ZZ.out _ hb1; obtain ⟨⟨s0, s1, s2⟩, ⟨y0, y1, y2⟩, sz⟩ := cells3 HX.out; clear hb1)
  have hA := HX.out.set3 (.int .i64 rp) (.int .i64 rn) (.int .i64 rm)
  obtain ⟨⟨k0, k1, k2⟩, _, _⟩ := cells3 hA
  refine bodyPost_ret (v := .agg #[.int .i64 rp, .int .i64 rn, .int .i64 rm]) (by simp [results, Tryz.results59, go_sem, k0, k1, k2]) rfl ⟨rfl, ?_⟩
  exact below_set3 BB.out (by omega) _ _ _

/-- What Words answers. -/
def wrd (is : List It) (t : T) : Option Nat :=
  match amt is t with
  | none => none
  | some a => if a.w ≤ 128 then some a.w else none

def wrdV : Option Nat → Value
  | none => .tuple #[.int .i64 0, .bool false]
  | some n => .tuple #[.int .i64 (n : Int), .bool true]

set_option maxRecDepth 100000 in
set_option maxHeartbeats 2000000 in
theorem words_c (is : List It) (t : T) (cs : List Value) (A : Option Addr) (C : Nat) (w : World) (ht : Tab w) (hi : IsIn w is A) (hx : TIn w t cs) :
    Calls Tryz.prog 43 #[.slice A is.length C, .agg cs.toArray] w fun e w' => e = .returned (wrdV (wrd is t)) ∧ Below w.heap.size w w' := by
  have HT : Hid (Tab w) := ht
  have ME : Hid (∀ w', Below w.heap.size w w' → Calls Tryz.prog 59 #[.slice A is.length C, .agg cs.toArray] w' fun e w'' => e = .returned (amV (amt is t)) ∧ Below w'.heap.size w' w'') := fun w' hw => measure_c is t cs A C w' (ht.below hw) (hi.below hw) (hx.stays hw)
  have hok := fun a => amt_ok (is := is) (t := t) (a := a)
  unfold wrd
  generalize amt is t = R at ME hok
  obtain ⟨k, s, n, es⟩ := t
  obtain ⟨EA, EC, rfl, _⟩ := hx.inv
  have HW1 : Hid (∀ a, Below w.heap.size w (w.alloc a)) := below_alloc w
  clear ht hi hx
  cases R with
  | none =>
    simp only [amV] at ME
    have en := eq_none
    show Calls Tryz.prog 43 _ w fun e w' => e = .returned (.tuple #[.int .i64 0, .bool false]) ∧ Below w.heap.size w w'
    go_enter Tryz.func43, Tryz.ntmps43
    go_wp2_with (go_at_call 59; refine (ME.out _ (HW1.out _)).mono ?_; rintro e' w1 ⟨rfl, hb1⟩; have BB : Hid (Below w.heap.size w w1) := below_next (HW1.out _) hb1; have T1 := HT.out.below BB.out; have t0 := T1.c0; have t1 := T1.c1; have t2 := T1.c2; have tz := T1.z; clear hb1 T1)
    refine bodyPost_ret (v := .tuple #[.int .i64 0, .bool false]) (by simp [results, Tryz.results43, go_sem]) rfl ⟨rfl, ?_⟩
    exact BB.out.alloc BB.out.size _
  | some a =>
    obtain ⟨p, q, m⟩ := a
    have hok := hok _ rfl
    simp only at hok
    simp only [amV] at ME
    have en := eq_some p q m (by omega)
    by_cases hq : q ≤ 128
    · have hq' : ¬ (q : Int) > 128 := by omega
      show Calls Tryz.prog 43 _ w fun e w' => e = .returned (wrdV (if q ≤ 128 then some q else none)) ∧ Below w.heap.size w w'
      rw [if_pos hq]
      show Calls Tryz.prog 43 _ w fun e w' => e = .returned (.tuple #[.int .i64 (q : Int), .bool true]) ∧ Below w.heap.size w w'
      go_enter Tryz.func43, Tryz.ntmps43
      go_wp2_with (go_at_call 59; refine (ME.out _ (HW1.out _)).mono ?_; rintro e' w1 ⟨rfl, hb1⟩; have BB : Hid (Below w.heap.size w w1) := below_next (HW1.out _) hb1; have T1 := HT.out.below BB.out; have t0 := T1.c0; have t1 := T1.c1; have t2 := T1.c2; have tz := T1.z; clear hb1 T1)
      refine bodyPost_ret (v := .tuple #[.int .i64 (q : Int), .bool true]) (by simp [results, Tryz.results43, go_sem]) rfl ⟨rfl, ?_⟩
      exact BB.out.alloc BB.out.size _
    · have hq' : (q : Int) > 128 := by omega
      show Calls Tryz.prog 43 _ w fun e w' => e = .returned (wrdV (if q ≤ 128 then some q else none)) ∧ Below w.heap.size w w'
      rw [if_neg hq]
      show Calls Tryz.prog 43 _ w fun e w' => e = .returned (.tuple #[.int .i64 0, .bool false]) ∧ Below w.heap.size w w'
      go_enter Tryz.func43, Tryz.ntmps43
      go_wp2_with (go_at_call 59; refine (ME.out _ (HW1.out _)).mono ?_; rintro e' w1 ⟨rfl, hb1⟩; have BB : Hid (Below w.heap.size w w1) := below_next (HW1.out _) hb1; have T1 := HT.out.below BB.out; have t0 := T1.c0; have t1 := T1.c1; have t2 := T1.c2; have tz := T1.z; clear hb1 T1)
      refine bodyPost_ret (v := .tuple #[.int .i64 0, .bool false]) (by simp [results, Tryz.results43, go_sem]) rfl ⟨rfl, ?_⟩
      exact BB.out.alloc BB.out.size _

end Go.Proofs.YtjdkoahbahecoaaGreatDoor
