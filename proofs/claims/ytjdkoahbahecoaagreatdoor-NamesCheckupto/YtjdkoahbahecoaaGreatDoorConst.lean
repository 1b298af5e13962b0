/-
  Proved: what constant, item and main tell.
-/
import Derived.Test.YtjdkoahbahecoaaGreatDoorNum
namespace Go.Proofs.YtjdkoahbahecoaaGreatDoor
open Go.RowKit

attribute [local go_sem ↓] fold38 foldS

/-- The range of a kind; (0, 0): it is no integer. -/
def rng (k : Int) : Int × Int :=
  if k = 3 then (-128, 127) else if k = 4 then (-32768, 32767) else if k = 5 then (-2147483648, 2147483647)
  else if k = 6 then (0, 255) else if k = 7 then (0, 65535) else if k = 8 then (0, 4294967295) else (0, 0)

theorem rng_rg (k : Int) : Rg k (rng k).1 (rng k).2 := by
  unfold Rg rng
  by_cases h3 : k = 3
  · simp [h3]
  by_cases h4 : k = 4
  · simp [h4]
  by_cases h5 : k = 5
  · simp [h5]
  by_cases h6 : k = 6
  · simp [h6]
  by_cases h7 : k = 7
  · simp [h7]
  by_cases h8 : k = 8
  · simp [h8]
  simp [h3, h4, h5, h6, h7, h8]
  omega

/-- What is wrong with a constant. -/
def cstE (is : List It) (j : Jt) : Int :=
  if tyE is j.t false ≠ 0 then tyE is j.t false
  else if ¬ (3 ≤ j.t.k ∧ j.t.k ≤ 8) then 50
  else if j.n < (rng j.t.k).1 ∨ (rng j.t.k).2 < j.n then 56 else 0

def cst (is : List It) (j : Jt) : Option (Int × Int) := nz j.a (cstE is j)

set_option maxHeartbeats 2000000 in
theorem constant_c (A : Option Addr) (is : List It) (C : Nat) (j : Jt) (cs : List Value) (w : World) (hT : Tab w) (hS : Shp w) (hi : IsIn w is A) (hj : JIn w j cs) :
    Calls Tryz.prog 55 #[.slice A is.length C, .agg cs.toArray] w fun e w' => e = .returned (errV (cst is j)) ∧ Below w.heap.size w w' := by
  obtain ⟨P, PC, V, VC, tk, ts, tn, TA, tl, TC, e1, e2, e3, e5, e4⟩ := hj.cel
  have HA : Hid (∀ w', Below (w.alloc (.cells cs.toArray 43)).heap.size (w.alloc (.cells cs.toArray 43)) w' → w'.cell? ⟨w.heap.size, 2, none⟩ = some (.int .i64 j.a) ∧ w'.cell? ⟨w.heap.size, 5, none⟩ = some (.int .i64 tk) ∧ w'.cell? ⟨w.heap.size, 6, none⟩ = some (.string ts) ∧ w'.cell? ⟨w.heap.size, 7, none⟩ = some (.int .i64 tn) ∧ w'.cell? ⟨w.heap.size, 8, none⟩ = some (.slice TA tl TC) ∧ w'.cell? ⟨w.heap.size, 9, none⟩ = some (.int .i64 j.n)) := fun w' hw => by
    have c := e4 w' w.heap.size ((At.new w cs.toArray 43).below hw (At.new w cs.toArray 43).lt)
    exact ⟨c.c2, c.c5, c.c6, c.c7, c.c8, c.c9⟩
  obtain ⟨f2, f5, f6, f7, f8, f9⟩ := HA.out _ (Below.refl _ _)
  have TC' : Hid (∀ w', Below w.heap.size w w' → Calls Tryz.prog 7 #[.slice A is.length C, .agg #[.int .i64 tk, .string ts, .int .i64 tn, .slice TA tl TC], .bool false] w' fun e w'' => e = .returned (.int .i64 (tyE is j.t false)) ∧ Below w'.heap.size w' w'') := fun w' hw =>
    type_c is j.t _ false A C w' (hT.below hw) (hi.below hw) (e1.stays hw)
  have RC : Hid (∀ w', Below w.heap.size w w' → Calls Tryz.prog 78 #[.int .i64 tk] w' fun e w'' => e = .returned (.tuple #[.int .i64 (rng tk).1, .int .i64 (rng tk).2]) ∧ Below w'.heap.size w' w'') := fun w' hw => range_any (rng_rg tk) w' (hS.below hw)
  have IC : Hid (∀ w', Below w.heap.size w w' → Calls Tryz.prog 79 #[.int .i64 tk] w' fun e w'' => e = .returned (.bool (decide (3 ≤ tk ∧ tk ≤ 8))) ∧ Below w'.heap.size w' w'') := fun w' hw => int_c tk w' (hS.below hw)
  have WR : Hid (∀ e w', Calls Tryz.prog 64 #[.int .i64 j.a, .int .i64 e] w' fun r w'' => r = .returned (errV (nz j.a e)) ∧ w'' = w') := fun e w' => wrongAt_c j.a e w'
  have HC : Hid (cstE is j = if tyE is j.t false ≠ 0 then tyE is j.t false else if ¬ (3 ≤ tk ∧ tk ≤ 8) then 50 else if j.n < (rng tk).1 ∨ (rng tk).2 < j.n then 56 else 0) := by rw [← e5]; rfl
  show Calls _ _ _ _ fun e w' => e = .returned (errV (nz j.a (cstE is j))) ∧ _
  generalize cstE is j = X at HC ⊢
  generalize tyE is j.t false = E at TC' HC
  generalize (rng tk).1 = lo at RC HC
  generalize (rng tk).2 = hi' at RC HC
  generalize j.a = ja at HA f2 WR ⊢
  generalize j.n = jn at HA f9 HC
  generalize cs.toArray = ca at HA f2 f5 f6 f7 f8 f9 ⊢
  have HW1 : Hid (∀ a, Below w.heap.size w (w.alloc a)) := below_alloc w
  clear hT hi hj e1 e2 e3 e4 e5 hS
  by_cases hE : E = 0
  · subst hE
    by_cases hk : 3 ≤ tk ∧ tk ≤ 8
    · rw [decide_eq_true hk] at IC
      have HK : Hid (3 ≤ tk ∧ tk ≤ 8) := hk
      clear hk
      by_cases hn : jn < lo
      · have hX : X = 56 := by rw [HC.out, if_neg (by simp), if_neg (by have := HK.out; simp; omega), if_pos (.inl hn)]
        subst hX
        clear HC
        go_enter Tryz.func55, Tryz.ntmps55
        go_wp2_with (first
          | (go_at_call 7; refine (TC'.out _ (HW1.out _)).mono ?_; rintro e w1 ⟨rfl, hb1⟩; have B1 : Hid (Below (w.alloc (.cells ca 43)).heap.size (w.alloc (.cells ca 43)) w1) := hb1; obtain ⟨g2, g5, g6, g7, g8, g9⟩ := HA.out _ hb1; clear hb1)
          | (go_at_call 78; refine (RC.out _ (below_next (HW1.out _) B1.out)).mono ?_; rintro e w2 ⟨rfl, hb2⟩; have B2 : Hid (Below (w.alloc (.cells ca 43)).heap.size (w.alloc (.cells ca 43)) w2) := below_next B1.out hb2; obtain ⟨q2, q5, q6, q7, q8, q9⟩ := HA.out _ B2.out; clear hb2)
          | (go_at_call 79; refine (IC.out _ (below_next (HW1.out _) B2.out)).mono ?_; rintro e w3 ⟨rfl, hb3⟩; have B3 : Hid (Below (w.alloc (.cells ca 43)).heap.size (w.alloc (.cells ca 43)) w3) := below_next B2.out hb3; obtain ⟨r2, r5, r6, r7, r8, r9⟩ := HA.out _ B3.out; clear hb3)
          | (go_at_call 64; refine (WR.out _ _).mono ?_; rintro e w4 ⟨rfl, rfl⟩))
        go_ret
        exact ⟨rfl, below_next (HW1.out _) B3.out⟩
      · by_cases hm : jn > hi'
        · have hX : X = 56 := by rw [HC.out, if_neg (by simp), if_neg (by have := HK.out; simp; omega), if_pos (.inr hm)]
          subst hX
          clear HC
          go_enter Tryz.func55, Tryz.ntmps55
          go_wp2_with (first
            | (go_at_call 7; refine (TC'.out _ (HW1.out _)).mono ?_; rintro e w1 ⟨rfl, hb1⟩; have B1 : Hid (Below (w.alloc (.cells ca 43)).heap.size (w.alloc (.cells ca 43)) w1) := hb1; obtain ⟨g2, g5, g6, g7, g8, g9⟩ := HA.out _ hb1; clear hb1)
            | (go_at_call 78; refine (RC.out _ (below_next (HW1.out _) B1.out)).mono ?_; rintro e w2 ⟨rfl, hb2⟩; have B2 : Hid (Below (w.alloc (.cells ca 43)).heap.size (w.alloc (.cells ca 43)) w2) := below_next B1.out hb2; obtain ⟨q2, q5, q6, q7, q8, q9⟩ := HA.out _ B2.out; clear hb2)
            | (go_at_call 79; refine (IC.out _ (below_next (HW1.out _) B2.out)).mono ?_; rintro e w3 ⟨rfl, hb3⟩; have B3 : Hid (Below (w.alloc (.cells ca 43)).heap.size (w.alloc (.cells ca 43)) w3) := below_next B2.out hb3; obtain ⟨r2, r5, r6, r7, r8, r9⟩ := HA.out _ B3.out; clear hb3)
            | (go_at_call 64; refine (WR.out _ _).mono ?_; rintro e w4 ⟨rfl, rfl⟩))
          go_ret
          exact ⟨rfl, below_next (HW1.out _) B3.out⟩
        · have hX : X = 0 := by rw [HC.out, if_neg (by simp), if_neg (by have := HK.out; simp; omega), if_neg (by omega)]
          subst hX
          clear HC
          go_enter Tryz.func55, Tryz.ntmps55
          go_wp2_with (first
            | (go_at_call 7; refine (TC'.out _ (HW1.out _)).mono ?_; rintro e w1 ⟨rfl, hb1⟩; have B1 : Hid (Below (w.alloc (.cells ca 43)).heap.size (w.alloc (.cells ca 43)) w1) := hb1; obtain ⟨g2, g5, g6, g7, g8, g9⟩ := HA.out _ hb1; clear hb1)
            | (go_at_call 78; refine (RC.out _ (below_next (HW1.out _) B1.out)).mono ?_; rintro e w2 ⟨rfl, hb2⟩; have B2 : Hid (Below (w.alloc (.cells ca 43)).heap.size (w.alloc (.cells ca 43)) w2) := below_next B1.out hb2; obtain ⟨q2, q5, q6, q7, q8, q9⟩ := HA.out _ B2.out; clear hb2)
            | (go_at_call 79; refine (IC.out _ (below_next (HW1.out _) B2.out)).mono ?_; rintro e w3 ⟨rfl, hb3⟩; have B3 : Hid (Below (w.alloc (.cells ca 43)).heap.size (w.alloc (.cells ca 43)) w3) := below_next B2.out hb3; obtain ⟨r2, r5, r6, r7, r8, r9⟩ := HA.out _ B3.out; clear hb3)
            | (go_at_call 64; refine (WR.out _ _).mono ?_; rintro e w4 ⟨rfl, rfl⟩))
          go_ret
          exact ⟨rfl, below_next (HW1.out _) B3.out⟩
    · rw [decide_eq_false hk] at IC
      have hX : X = 50 := by rw [HC.out, if_neg (by simp), if_pos hk]
      subst hX
      clear HC hk
      go_enter Tryz.func55, Tryz.ntmps55
      go_wp2_with (first
        | (go_at_call 7; refine (TC'.out _ (HW1.out _)).mono ?_; rintro e w1 ⟨rfl, hb1⟩; have B1 : Hid (Below (w.alloc (.cells ca 43)).heap.size (w.alloc (.cells ca 43)) w1) := hb1; obtain ⟨g2, g5, g6, g7, g8, g9⟩ := HA.out _ hb1; clear hb1)
        | (go_at_call 78; refine (RC.out _ (below_next (HW1.out _) B1.out)).mono ?_; rintro e w2 ⟨rfl, hb2⟩; have B2 : Hid (Below (w.alloc (.cells ca 43)).heap.size (w.alloc (.cells ca 43)) w2) := below_next B1.out hb2; obtain ⟨q2, q5, q6, q7, q8, q9⟩ := HA.out _ B2.out; clear hb2)
        | (go_at_call 79; refine (IC.out _ (below_next (HW1.out _) B2.out)).mono ?_; rintro e w3 ⟨rfl, hb3⟩; have B3 : Hid (Below (w.alloc (.cells ca 43)).heap.size (w.alloc (.cells ca 43)) w3) := below_next B2.out hb3; obtain ⟨r2, r5, r6, r7, r8, r9⟩ := HA.out _ B3.out; clear hb3)
        | (go_at_call 64; refine (WR.out _ _).mono ?_; rintro e w4 ⟨rfl, rfl⟩))
      go_ret
      exact ⟨rfl, below_next (HW1.out _) B3.out⟩
  · have hE' : (E == 0) = false := by simpa using hE
    have hX : X = E := by rw [HC.out, if_pos hE]
    subst hX
    clear HC
    go_enter Tryz.func55, Tryz.ntmps55
    go_wp2_with (first
      | (go_at_call 7; refine (TC'.out _ (HW1.out _)).mono ?_; rintro e w1 ⟨rfl, hb1⟩; have B1 : Hid (Below (w.alloc (.cells ca 43)).heap.size (w.alloc (.cells ca 43)) w1) := hb1; obtain ⟨g2, g5, g6, g7, g8, g9⟩ := HA.out _ hb1; clear hb1)
      | (go_at_call 78; refine (RC.out _ (below_next (HW1.out _) B1.out)).mono ?_; rintro e w2 ⟨rfl, hb2⟩; have B2 : Hid (Below (w.alloc (.cells ca 43)).heap.size (w.alloc (.cells ca 43)) w2) := below_next B1.out hb2; obtain ⟨q2, q5, q6, q7, q8, q9⟩ := HA.out _ B2.out; clear hb2)
      | (go_at_call 64; refine (WR.out _ _).mono ?_; rintro e w4 ⟨rfl, rfl⟩))
    go_ret
    exact ⟨rfl, below_next (HW1.out _) B2.out⟩

end Go.Proofs.YtjdkoahbahecoaaGreatDoor
