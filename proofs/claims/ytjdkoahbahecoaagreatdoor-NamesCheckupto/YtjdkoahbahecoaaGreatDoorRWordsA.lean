/-
  Proved: the document's own words of a type that is no struct and no enum.
-/
import Derived.Test.YtjdkoahbahecoaaGreatDoorLook
import Derived.Test.YtjdkoahbahecoaaGreatDoorEachI
namespace Go.Proofs.YtjdkoahbahecoaaGreatDoor
open Go.RowKit

set_option maxRecDepth 100000 in
set_option maxHeartbeats 600000 in
theorem rw_unit (s : ByteArray) (n : Int) (A : Option Addr) (l C : Nat) (EA : Option Addr) (el EC : Nat) (w : World) :
    Calls Tryz.prog 45 #[.slice A l C, .agg #[.int .i64 1, .string s, .int .i64 n, .slice EA el EC]] w fun e w' => e = .returned (.int .i64 0) ∧ Below w.heap.size w w' := by
  have HW1 : Hid (∀ a, Below w.heap.size w (w.alloc a)) := below_alloc w
  go_enter Tryz.func45, Tryz.ntmps45
  go_wp2
  go_ret
  exact ⟨rfl, HW1.out _⟩

set_option maxRecDepth 100000 in
set_option maxHeartbeats 600000 in
theorem rw_one (k : Int) (s : ByteArray) (n : Int) (A : Option Addr) (l C : Nat) (EA : Option Addr) (el EC : Nat) (w : World) (h1 : ¬ k = 1) (h9 : ¬ k = 9) (h10 : ¬ k = 10) :
    Calls Tryz.prog 45 #[.slice A l C, .agg #[.int .i64 k, .string s, .int .i64 n, .slice EA el EC]] w fun e w' => e = .returned (.int .i64 1) ∧ Below w.heap.size w w' := by
  have HW1 : Hid (∀ a, Below w.heap.size w (w.alloc a)) := below_alloc w
  have g1 : (k == 1) = false := by simpa using h1
  have g9 : (k == 9) = false := by simpa using h9
  have g10 : (k == 10) = false := by simpa using h10
  have g9' : (k != 9) = true := by simpa using h9
  go_enter Tryz.func45, Tryz.ntmps45
  go_wp2
  go_ret
  exact ⟨rfl, HW1.out _⟩

set_option maxRecDepth 100000 in
set_option maxHeartbeats 600000 in
theorem rw_none (s : ByteArray) (n : Int) (A : Option Addr) (l C : Nat) (EA : Option Addr) (el EC : Nat) (w : World) (hn : n < 1) :
    Calls Tryz.prog 45 #[.slice A l C, .agg #[.int .i64 10, .string s, .int .i64 n, .slice EA el EC]] w fun e w' => e = .returned (.int .i64 0) ∧ Below w.heap.size w w' := by
  have HW1 : Hid (∀ a, Below w.heap.size w (w.alloc a)) := below_alloc w
  go_enter Tryz.func45, Tryz.ntmps45
  go_wp2
  go_ret
  exact ⟨rfl, HW1.out _⟩

set_option maxRecDepth 100000 in
set_option maxHeartbeats 1200000 in
theorem rw_array (s : ByteArray) (n : Int) (A : Option Addr) (l C : Nat) (tk : Int) (ts : ByteArray) (tn : Int) (TA : Option Addr) (tl TC : Nat) (ab ao el EC : Nat) (v : Nat) (w : World) (hn : ¬ n < 1) (hel : 0 < el)
    (hr : RowAt w ab ao [.int .i64 tk, .string ts, .int .i64 tn, .slice TA tl TC])
    (KEY : Hid (∀ w', Below w.heap.size w w' → Calls Tryz.prog 45 #[.slice A l C, .agg #[.int .i64 tk, .string ts, .int .i64 tn, .slice TA tl TC]] w' fun e w'' => e = .returned (.int .i64 (v : Int)) ∧ Below w'.heap.size w' w''))
    (hv : n * (v : Int) ≤ 512) :
    Calls Tryz.prog 45 #[.slice A l C, .agg #[.int .i64 10, .string s, .int .i64 n, .slice (some ⟨ab, ao, none⟩) el EC]] w fun e w' => e = .returned (.int .i64 (n * (v : Int))) ∧ Below w.heap.size w w' := by
  have hv0 : 0 ≤ n * (v : Int) := Int.mul_nonneg (by omega) (by omega)
  have hwr : IntKind.i64.wrap (n * (v : Int)) = n * (v : Int) := IntWalk.i64_in _ (by omega)
  have HW1 : Hid (∀ a, Below w.heap.size w (w.alloc a)) := below_alloc w
  have CL : Hid (∀ w0, w.alloc (.cells #[.int .i64 10, .string s, .int .i64 n, .slice (some ⟨ab, ao, none⟩) el EC] 25) = w0 → ∀ w', Below w0.heap.size w0 w' → w'.cell? ⟨w.heap.size, 2, none⟩ = some (.int .i64 n) ∧ w'.cell? ⟨w.heap.size, 3, none⟩ = some (.slice (some ⟨ab, ao, none⟩) el EC) ∧ w'.cell? ⟨ab, ao, none⟩ = some (.int .i64 tk) ∧ w'.cell? ⟨ab, ao + 1, none⟩ = some (.string ts) ∧ w'.cell? ⟨ab, ao + 2, none⟩ = some (.int .i64 tn) ∧ w'.cell? ⟨ab, ao + 3, none⟩ = some (.slice TA tl TC) ∧ Hid (Below w0.heap.size w0 w')) := fun w0 hw0 w' hw => by
    subst hw0
    have a := (At.new w #[.int .i64 10, .string s, .int .i64 n, .slice (some ⟨ab, ao, none⟩) el EC] 25).below hw (At.new w _ _).lt
    have hb := below_next (below_alloc w _) hw
    have r := (hr.below hb).2
    exact ⟨(a.cell 2).trans rfl, (a.cell 3).trans rfl, r 0 _ rfl, r 1 _ rfl, r 2 _ rfl, r 3 _ rfl, hw⟩
  clear hr hv hv0
  go_enter Tryz.func45, Tryz.ntmps45
  go_wp2
  obtain ⟨w0, hw0⟩ : ∃ w0, w.alloc (.cells #[.int .i64 10, .string s, .int .i64 n, .slice (some ⟨ab, ao, none⟩) el EC] 25) = w0 := ⟨_, rfl⟩
  have CL0 := CL.out w0 hw0
  have W0 : Hid (Below w.heap.size w w0) := by rw [← hw0]; exact HW1.out _
  rw [hw0]
  have CL1 : Hid (∀ w', Below w0.heap.size w0 w' → _) := CL0
  clear hw0 CL CL0
  go_region_held3 (fun w' => w'.cell? ⟨w.heap.size, 2, none⟩ = some (.int .i64 n) ∧ w'.cell? ⟨w.heap.size, 3, none⟩ = some (.slice (some ⟨ab, ao, none⟩) el EC) ∧ w'.cell? ⟨ab, ao, none⟩ = some (.int .i64 tk) ∧ w'.cell? ⟨ab, ao + 1, none⟩ = some (.string ts) ∧ w'.cell? ⟨ab, ao + 2, none⟩ = some (.int .i64 tn) ∧ w'.cell? ⟨ab, ao + 3, none⟩ = some (.slice TA tl TC) ∧ Hid (Below w0.heap.size w0 w'))
    (first
      | exact CL1.out _ ((Below.refl _ _).drew)
      | exact CL1.out _ OO.out)
    (first
      | (go_at_call 45; refine (KEY.out _ (below_next W0.out (Hid.out (And.right (And.right (And.right (And.right (And.right (And.right (by assumption))))))))) ).mono ?_; rintro e' w1 ⟨rfl, hb1⟩; have OO : Hid (Below w0.heap.size w0 w1) := below_next (Hid.out (And.right (And.right (And.right (And.right (And.right (And.right (by assumption)))))))) hb1; clear hb1))
  all_goals (go_wp2_with fail)
  all_goals go_ret
  all_goals exact ⟨rfl, below_next W0.out OO.out⟩

end Go.Proofs.YtjdkoahbahecoaaGreatDoor
