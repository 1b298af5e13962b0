/-
  Proved: what heap.Live and heap.Within answer.
-/
import Derived.Test.YtapgaclonilnbaaDoorHfree
namespace Go.Proofs.YtapgaclonilnbaaDoor
open Go.RowKit

/-- How many of the first n blocks of a class are in use. -/
def wiR (us : Nat → Nat → Bool) (n : Int) (c k r : Nat) : Bool := us c k && decide (n ≤ ((4 * (sz c : Int) - r) / 4))

def wiA (us : Nat → Nat → Bool) (x n : Int) : Option Nat → Bool
  | none => false
  | some c => wiR us n c (kOf x c) (rOf x c)

set_option maxHeartbeats 1000000 in
theorem within_c {w : World} {hb : Nat} {g : Nat → Nat} {us : Nat → Nat → Bool} (h : HIn w hb g us) (x n : Int) (ht : Tab w) : Calls Tryd.prog 52 #[.pointer (some ⟨hb, 0, none⟩), .int .i64 x, .int .i64 n] w fun e w' =>
    e = .returned (.bool (if x.tmod 4 ≠ 0 ∨ n < 1 then false else wiA us x n (atOf x))) ∧ Below w.heap.size w w' := by
  have H : Hid (HIn w hb g us) := h
  have T : Hid (Tab w) := ht
  clear h ht
  by_cases hx : x.tmod 4 = 0
  · by_cases hn : n < 1
    · rw [if_pos (Or.inr hn)]
      go_enter Tryd.func52, Tryd.ntmps52
      go_wp2_with (go_at_call 60; refine (made_c H.out).mono ?_; rintro e w0 ⟨rfl, hw⟩; rw [hw]; clear hw w0)
      go_ret
      exact ⟨rfl, Below.refl _ _⟩
    · rw [if_neg (by omega)]
      have hn' : 1 ≤ n := by omega
      have L := ff_lt (atP x) 4 0
      change ∀ i, atOf x = some i → _ at L
      have CL : Hid (∀ w, Tab w → Calls Tryd.prog 61 #[.int .i64 x] w fun e w' => e = .returned (placeV x (atOf x)) ∧ Below w.heap.size w w') := fun w ht => find_c x w ht
      generalize atOf x = R at *
      cases R with
      | none =>
        unfold placeV at CL
        go_enter Tryd.func52, Tryd.ntmps52
        go_wp2_with (first
      | (go_at_call 60; refine (made_c H.out).mono ?_; rintro e w0 ⟨rfl, hw⟩; rw [hw]; clear hw w0)
      | (go_at_call 61; refine (CL.out _ T.out).mono ?_; rintro e w1 ⟨rfl, he⟩; have NN : Hid (Below w.heap.size w w1) := he; clear he))
        have hP : At (w1.alloc (.cells #[.int .i64 0, .int .i64 0, .int .i64 0] 121)) w1.heap.size #[.int .i64 0, .int .i64 0, .int .i64 0] 121 := At.new _ _ _
        have N2 : Hid (Below w.heap.size w (w1.alloc (.cells #[.int .i64 0, .int .i64 0, .int .i64 0] 121))) := below_next NN.out (below_alloc _ _)
        have H2 : Hid (HIn (w1.alloc (.cells #[.int .i64 0, .int .i64 0, .int .i64 0] 121)) hb g us) := H.out.below N2.out
        have T2 : Hid (Tab (w1.alloc (.cells #[.int .i64 0, .int .i64 0, .int .i64 0] 121))) := T.out.below N2.out T.out.lt
        have hn1 : hb < w1.heap.size := Nat.lt_of_lt_of_le H.out.head.lt NN.out.size
        generalize w1.alloc (.cells #[.int .i64 0, .int .i64 0, .int .i64 0] 121) = w2 at *
        have p0 := hP.cell 0
        have p1 := hP.cell 1
        have p2 := hP.cell 2
        simp at p0 p1 p2
        clear hP
        go_quiet (fail)
        go_wp2
        go_ret
        exact ⟨rfl, drew_below N2.out _⟩
      | some c =>
        have hc := (L c rfl).2.1
        obtain ⟨e1, e2, e3, e4⟩ := k_of x c (L c rfl).2.2
        clear L
        unfold placeV at CL
        simp only [e1, e3] at CL
        show Calls Tryd.prog 52 #[.pointer (some ⟨hb, 0, none⟩), .int .i64 x, .int .i64 n] w fun e w' => e = .returned (.bool (wiR us n c (kOf x c) (rOf x c))) ∧ Below w.heap.size w w'
        clear e1 e3
        generalize kOf x c = k at *
        generalize rOf x c = r at *
        have hcz : (c : Int) < 4 := by omega
        have hkz : (k : Int) < bl c := by omega
        have hbl := span_le c
        generalize hu : us c k = u
        cases u with
        | false =>
          have FR : wiR us n c k r = false := by simp [wiR, hu]
          rw [FR]
          go_enter Tryd.func52, Tryd.ntmps52
          go_wp2_with (first
      | (go_at_call 60; refine (made_c H.out).mono ?_; rintro e w0 ⟨rfl, hw⟩; rw [hw]; clear hw w0)
      | (go_at_call 61; refine (CL.out _ T.out).mono ?_; rintro e w1 ⟨rfl, he⟩; have NN : Hid (Below w.heap.size w w1) := he; clear he))
          have hP : At (w1.alloc (.cells #[.int .i64 (c : Int), .int .i64 (k : Int), .int .i64 (r : Int)] 121)) w1.heap.size #[.int .i64 (c : Int), .int .i64 (k : Int), .int .i64 (r : Int)] 121 := At.new _ _ _
          have N2 : Hid (Below w.heap.size w (w1.alloc (.cells #[.int .i64 (c : Int), .int .i64 (k : Int), .int .i64 (r : Int)] 121))) := below_next NN.out (below_alloc _ _)
          have H2 : Hid (HIn (w1.alloc (.cells #[.int .i64 (c : Int), .int .i64 (k : Int), .int .i64 (r : Int)] 121)) hb g us) := H.out.below N2.out
          have T2 : Hid (Tab (w1.alloc (.cells #[.int .i64 (c : Int), .int .i64 (k : Int), .int .i64 (r : Int)] 121))) := T.out.below N2.out T.out.lt
          have hn1 : hb < w1.heap.size := Nat.lt_of_lt_of_le H.out.head.lt NN.out.size
          generalize w1.alloc (.cells #[.int .i64 (c : Int), .int .i64 (k : Int), .int .i64 (r : Int)] 121) = w2 at *
          have p0 := hP.cell 0
          have p1 := hP.cell 1
          have p2 := hP.cell 2
          simp at p0 p1 p2
          clear hP
          have hh : w2.cell? ⟨hb, c, none⟩ = some (.slice (some ⟨g c, 0, none⟩) (bl c) (bl c)) := H2.out.cell (by omega)
          have hbit : w2.cell? ⟨g c, k, none⟩ = some (.bool (us c k)) := H2.out.bit (by omega) e2
          rw [hu] at hbit
          go_quiet (fail)
          go_wp2
          go_ret
          exact ⟨rfl, drew_below N2.out _⟩
        | true =>
          have FR : wiR us n c k r = decide (n ≤ ((4 * (sz c : Int) - r) / 4)) := by simp [wiR, hu]
          rw [FR]
          clear FR
          rcases (by omega : c = 0 ∨ c = 1 ∨ c = 2 ∨ c = 3) with rfl | rfl | rfl | rfl
          · have CL : Hid (∀ w, Tab w → Calls Tryd.prog 61 #[.int .i64 x] w fun e w' => e = .returned (.tuple #[.agg #[.int .i64 0, .int .i64 (k : Int), .int .i64 (r : Int)], .bool true]) ∧ Below w.heap.size w w') := CL.out
            have e4 : r < 16 := e4
            have e2 : k < 64 := e2
            have hkz : (k : Int) < 64 := hkz
            show Calls Tryd.prog 52 #[.pointer (some ⟨hb, 0, none⟩), .int .i64 x, .int .i64 n] w fun e w' => e = .returned (.bool (decide (n ≤ ((16 - (r : Int)) / 4)))) ∧ Below w.heap.size w w'
            go_enter Tryd.func52, Tryd.ntmps52
            go_wp2_with (first
      | (go_at_call 60; refine (made_c H.out).mono ?_; rintro e w0 ⟨rfl, hw⟩; rw [hw]; clear hw w0)
      | (go_at_call 61; refine (CL.out _ T.out).mono ?_; rintro e w1 ⟨rfl, he⟩; have NN : Hid (Below w.heap.size w w1) := he; clear he))
            have hP : At (w1.alloc (.cells #[.int .i64 0, .int .i64 (k : Int), .int .i64 (r : Int)] 121)) w1.heap.size #[.int .i64 0, .int .i64 (k : Int), .int .i64 (r : Int)] 121 := At.new _ _ _
            have N2 : Hid (Below w.heap.size w (w1.alloc (.cells #[.int .i64 0, .int .i64 (k : Int), .int .i64 (r : Int)] 121))) := below_next NN.out (below_alloc _ _)
            have H2 : Hid (HIn (w1.alloc (.cells #[.int .i64 0, .int .i64 (k : Int), .int .i64 (r : Int)] 121)) hb g us) := H.out.below N2.out
            have T2 : Hid (Tab (w1.alloc (.cells #[.int .i64 0, .int .i64 (k : Int), .int .i64 (r : Int)] 121))) := T.out.below N2.out T.out.lt
            have hn1 : hb < w1.heap.size := Nat.lt_of_lt_of_le H.out.head.lt NN.out.size
            generalize w1.alloc (.cells #[.int .i64 0, .int .i64 (k : Int), .int .i64 (r : Int)] 121) = w2 at *
            have p0 := hP.cell 0
            have p1 := hP.cell 1
            have p2 := hP.cell 2
            simp at p0 p1 p2
            clear hP
            have hh : w2.cell? ⟨hb, 0, none⟩ = some (.slice (some ⟨g 0, 0, none⟩) 64 64) := H2.out.cell (c := 0) (by omega)
            have hbit : w2.cell? ⟨g 0, k, none⟩ = some (.bool (us 0 k)) := H2.out.bit (c := 0) (by omega) e2
            rw [hu] at hbit
            go_quiet (fail)
            go_wp2
            have N3 : Hid (Below w.heap.size w (w2.drewN nq)) := drew_below N2.out _
            have t0 : (w2.drewN nq).cell? ⟨0, 0, none⟩ = some (.int .i64 4) := (T2.out.cell 0).trans rfl
            have t1 : (w2.drewN nq).cell? ⟨0, 1, none⟩ = some (.int .i64 64) := (T2.out.cell 1).trans rfl
            have t2 : (w2.drewN nq).cell? ⟨0, 2, none⟩ = some (.int .i64 262144) := (T2.out.cell 2).trans rfl
            have q0 : (w2.drewN nq).cell? ⟨w1.heap.size, 0, none⟩ = some (.int .i64 0) := p0
            have q2 : (w2.drewN nq).cell? ⟨w1.heap.size, 2, none⟩ = some (.int .i64 (r : Int)) := p2
            clear hh hbit p0 p1 p2
            generalize w2.drewN nq = w3 at *
            have t0 := After.cell t0
            have t1 := After.cell t1
            have t2 := After.cell t2
            have q0 := After.cell q0
            have q2 := After.cell q2
            haveI := After.has w3
            refine wp_region_after (by kernel_rfl) (by kernel_rfl) ?_
            repeat (quiet_step ((go_at_call 62; exact Calls.after (bytes_c 4 64 262144 _ (by omega) (by omega)))))
            refine wpQuiet_nil ?_
            intro _ hw'
            obtain ⟨xq, hw''⟩ := hw'
            subst hw''
            have N4 : Hid (Below w.heap.size w xq.w) := below_next N3.out xq.below
            clear t0 t1 t2 q0 q2
            go_wp2
            rw [wrap_in (16 - (r : Int)) ⟨by omega, by omega⟩, Int.tdiv_eq_ediv_of_nonneg (show 0 ≤ 16 - (r : Int) by omega), wrap_in ((16 - (r : Int)) / 4) ⟨by omega, by omega⟩]
            go_ret
            exact ⟨rfl, N4.out⟩
          · have CL : Hid (∀ w, Tab w → Calls Tryd.prog 61 #[.int .i64 x] w fun e w' => e = .returned (.tuple #[.agg #[.int .i64 1, .int .i64 (k : Int), .int .i64 (r : Int)], .bool true]) ∧ Below w.heap.size w w') := CL.out
            have e4 : r < 64 := e4
            have e2 : k < 32 := e2
            have hkz : (k : Int) < 32 := hkz
            show Calls Tryd.prog 52 #[.pointer (some ⟨hb, 0, none⟩), .int .i64 x, .int .i64 n] w fun e w' => e = .returned (.bool (decide (n ≤ ((64 - (r : Int)) / 4)))) ∧ Below w.heap.size w w'
            go_enter Tryd.func52, Tryd.ntmps52
            go_wp2_with (first
      | (go_at_call 60; refine (made_c H.out).mono ?_; rintro e w0 ⟨rfl, hw⟩; rw [hw]; clear hw w0)
      | (go_at_call 61; refine (CL.out _ T.out).mono ?_; rintro e w1 ⟨rfl, he⟩; have NN : Hid (Below w.heap.size w w1) := he; clear he))
            have hP : At (w1.alloc (.cells #[.int .i64 1, .int .i64 (k : Int), .int .i64 (r : Int)] 121)) w1.heap.size #[.int .i64 1, .int .i64 (k : Int), .int .i64 (r : Int)] 121 := At.new _ _ _
            have N2 : Hid (Below w.heap.size w (w1.alloc (.cells #[.int .i64 1, .int .i64 (k : Int), .int .i64 (r : Int)] 121))) := below_next NN.out (below_alloc _ _)
            have H2 : Hid (HIn (w1.alloc (.cells #[.int .i64 1, .int .i64 (k : Int), .int .i64 (r : Int)] 121)) hb g us) := H.out.below N2.out
            have T2 : Hid (Tab (w1.alloc (.cells #[.int .i64 1, .int .i64 (k : Int), .int .i64 (r : Int)] 121))) := T.out.below N2.out T.out.lt
            have hn1 : hb < w1.heap.size := Nat.lt_of_lt_of_le H.out.head.lt NN.out.size
            generalize w1.alloc (.cells #[.int .i64 1, .int .i64 (k : Int), .int .i64 (r : Int)] 121) = w2 at *
            have p0 := hP.cell 0
            have p1 := hP.cell 1
            have p2 := hP.cell 2
            simp at p0 p1 p2
            clear hP
            have hh : w2.cell? ⟨hb, 1, none⟩ = some (.slice (some ⟨g 1, 0, none⟩) 32 32) := H2.out.cell (c := 1) (by omega)
            have hbit : w2.cell? ⟨g 1, k, none⟩ = some (.bool (us 1 k)) := H2.out.bit (c := 1) (by omega) e2
            rw [hu] at hbit
            go_quiet (fail)
            go_wp2
            have N3 : Hid (Below w.heap.size w (w2.drewN nq)) := drew_below N2.out _
            have t0 : (w2.drewN nq).cell? ⟨0, 3, none⟩ = some (.int .i64 16) := (T2.out.cell 3).trans rfl
            have t1 : (w2.drewN nq).cell? ⟨0, 4, none⟩ = some (.int .i64 32) := (T2.out.cell 4).trans rfl
            have t2 : (w2.drewN nq).cell? ⟨0, 5, none⟩ = some (.int .i64 263168) := (T2.out.cell 5).trans rfl
            have q0 : (w2.drewN nq).cell? ⟨w1.heap.size, 0, none⟩ = some (.int .i64 1) := p0
            have q2 : (w2.drewN nq).cell? ⟨w1.heap.size, 2, none⟩ = some (.int .i64 (r : Int)) := p2
            clear hh hbit p0 p1 p2
            generalize w2.drewN nq = w3 at *
            have t0 := After.cell t0
            have t1 := After.cell t1
            have t2 := After.cell t2
            have q0 := After.cell q0
            have q2 := After.cell q2
            haveI := After.has w3
            refine wp_region_after (by kernel_rfl) (by kernel_rfl) ?_
            repeat (quiet_step ((go_at_call 62; exact Calls.after (bytes_c 16 32 263168 _ (by omega) (by omega)))))
            refine wpQuiet_nil ?_
            intro _ hw'
            obtain ⟨xq, hw''⟩ := hw'
            subst hw''
            have N4 : Hid (Below w.heap.size w xq.w) := below_next N3.out xq.below
            clear t0 t1 t2 q0 q2
            go_wp2
            rw [wrap_in (64 - (r : Int)) ⟨by omega, by omega⟩, Int.tdiv_eq_ediv_of_nonneg (show 0 ≤ 64 - (r : Int) by omega), wrap_in ((64 - (r : Int)) / 4) ⟨by omega, by omega⟩]
            go_ret
            exact ⟨rfl, N4.out⟩
          · have CL : Hid (∀ w, Tab w → Calls Tryd.prog 61 #[.int .i64 x] w fun e w' => e = .returned (.tuple #[.agg #[.int .i64 2, .int .i64 (k : Int), .int .i64 (r : Int)], .bool true]) ∧ Below w.heap.size w w') := CL.out
            have e4 : r < 256 := e4
            have e2 : k < 16 := e2
            have hkz : (k : Int) < 16 := hkz
            show Calls Tryd.prog 52 #[.pointer (some ⟨hb, 0, none⟩), .int .i64 x, .int .i64 n] w fun e w' => e = .returned (.bool (decide (n ≤ ((256 - (r : Int)) / 4)))) ∧ Below w.heap.size w w'
            go_enter Tryd.func52, Tryd.ntmps52
            go_wp2_with (first
      | (go_at_call 60; refine (made_c H.out).mono ?_; rintro e w0 ⟨rfl, hw⟩; rw [hw]; clear hw w0)
      | (go_at_call 61; refine (CL.out _ T.out).mono ?_; rintro e w1 ⟨rfl, he⟩; have NN : Hid (Below w.heap.size w w1) := he; clear he))
            have hP : At (w1.alloc (.cells #[.int .i64 2, .int .i64 (k : Int), .int .i64 (r : Int)] 121)) w1.heap.size #[.int .i64 2, .int .i64 (k : Int), .int .i64 (r : Int)] 121 := At.new _ _ _
            have N2 : Hid (Below w.heap.size w (w1.alloc (.cells #[.int .i64 2, .int .i64 (k : Int), .int .i64 (r : Int)] 121))) := below_next NN.out (below_alloc _ _)
            have H2 : Hid (HIn (w1.alloc (.cells #[.int .i64 2, .int .i64 (k : Int), .int .i64 (r : Int)] 121)) hb g us) := H.out.below N2.out
            have T2 : Hid (Tab (w1.alloc (.cells #[.int .i64 2, .int .i64 (k : Int), .int .i64 (r : Int)] 121))) := T.out.below N2.out T.out.lt
            have hn1 : hb < w1.heap.size := Nat.lt_of_lt_of_le H.out.head.lt NN.out.size
            generalize w1.alloc (.cells #[.int .i64 2, .int .i64 (k : Int), .int .i64 (r : Int)] 121) = w2 at *
            have p0 := hP.cell 0
            have p1 := hP.cell 1
            have p2 := hP.cell 2
            simp at p0 p1 p2
            clear hP
            have hh : w2.cell? ⟨hb, 2, none⟩ = some (.slice (some ⟨g 2, 0, none⟩) 16 16) := H2.out.cell (c := 2) (by omega)
            have hbit : w2.cell? ⟨g 2, k, none⟩ = some (.bool (us 2 k)) := H2.out.bit (c := 2) (by omega) e2
            rw [hu] at hbit
            go_quiet (fail)
            go_wp2
            have N3 : Hid (Below w.heap.size w (w2.drewN nq)) := drew_below N2.out _
            have t0 : (w2.drewN nq).cell? ⟨0, 6, none⟩ = some (.int .i64 64) := (T2.out.cell 6).trans rfl
            have t1 : (w2.drewN nq).cell? ⟨0, 7, none⟩ = some (.int .i64 16) := (T2.out.cell 7).trans rfl
            have t2 : (w2.drewN nq).cell? ⟨0, 8, none⟩ = some (.int .i64 265216) := (T2.out.cell 8).trans rfl
            have q0 : (w2.drewN nq).cell? ⟨w1.heap.size, 0, none⟩ = some (.int .i64 2) := p0
            have q2 : (w2.drewN nq).cell? ⟨w1.heap.size, 2, none⟩ = some (.int .i64 (r : Int)) := p2
            clear hh hbit p0 p1 p2
            generalize w2.drewN nq = w3 at *
            have t0 := After.cell t0
            have t1 := After.cell t1
            have t2 := After.cell t2
            have q0 := After.cell q0
            have q2 := After.cell q2
            haveI := After.has w3
            refine wp_region_after (by kernel_rfl) (by kernel_rfl) ?_
            repeat (quiet_step ((go_at_call 62; exact Calls.after (bytes_c 64 16 265216 _ (by omega) (by omega)))))
            refine wpQuiet_nil ?_
            intro _ hw'
            obtain ⟨xq, hw''⟩ := hw'
            subst hw''
            have N4 : Hid (Below w.heap.size w xq.w) := below_next N3.out xq.below
            clear t0 t1 t2 q0 q2
            go_wp2
            rw [wrap_in (256 - (r : Int)) ⟨by omega, by omega⟩, Int.tdiv_eq_ediv_of_nonneg (show 0 ≤ 256 - (r : Int) by omega), wrap_in ((256 - (r : Int)) / 4) ⟨by omega, by omega⟩]
            go_ret
            exact ⟨rfl, N4.out⟩
          · have CL : Hid (∀ w, Tab w → Calls Tryd.prog 61 #[.int .i64 x] w fun e w' => e = .returned (.tuple #[.agg #[.int .i64 3, .int .i64 (k : Int), .int .i64 (r : Int)], .bool true]) ∧ Below w.heap.size w w') := CL.out
            have e4 : r < 512 := e4
            have e2 : k < 8 := e2
            have hkz : (k : Int) < 8 := hkz
            show Calls Tryd.prog 52 #[.pointer (some ⟨hb, 0, none⟩), .int .i64 x, .int .i64 n] w fun e w' => e = .returned (.bool (decide (n ≤ ((512 - (r : Int)) / 4)))) ∧ Below w.heap.size w w'
            go_enter Tryd.func52, Tryd.ntmps52
            go_wp2_with (first
      | (go_at_call 60; refine (made_c H.out).mono ?_; rintro e w0 ⟨rfl, hw⟩; rw [hw]; clear hw w0)
      | (go_at_call 61; refine (CL.out _ T.out).mono ?_; rintro e w1 ⟨rfl, he⟩; have NN : Hid (Below w.heap.size w w1) := he; clear he))
            have hP : At (w1.alloc (.cells #[.int .i64 3, .int .i64 (k : Int), .int .i64 (r : Int)] 121)) w1.heap.size #[.int .i64 3, .int .i64 (k : Int), .int .i64 (r : Int)] 121 := At.new _ _ _
            have N2 : Hid (Below w.heap.size w (w1.alloc (.cells #[.int .i64 3, .int .i64 (k : Int), .int .i64 (r : Int)] 121))) := below_next NN.out (below_alloc _ _)
            have H2 : Hid (HIn (w1.alloc (.cells #[.int .i64 3, .int .i64 (k : Int), .int .i64 (r : Int)] 121)) hb g us) := H.out.below N2.out
            have T2 : Hid (Tab (w1.alloc (.cells #[.int .i64 3, .int .i64 (k : Int), .int .i64 (r : Int)] 121))) := T.out.below N2.out T.out.lt
            have hn1 : hb < w1.heap.size := Nat.lt_of_lt_of_le H.out.head.lt NN.out.size
            generalize w1.alloc (.cells #[.int .i64 3, .int .i64 (k : Int), .int .i64 (r : Int)] 121) = w2 at *
            have p0 := hP.cell 0
            have p1 := hP.cell 1
            have p2 := hP.cell 2
            simp at p0 p1 p2
            clear hP
            have hh : w2.cell? ⟨hb, 3, none⟩ = some (.slice (some ⟨g 3, 0, none⟩) 8 8) := H2.out.cell (c := 3) (by omega)
            have hbit : w2.cell? ⟨g 3, k, none⟩ = some (.bool (us 3 k)) := H2.out.bit (c := 3) (by omega) e2
            rw [hu] at hbit
            go_quiet (fail)
            go_wp2
            have N3 : Hid (Below w.heap.size w (w2.drewN nq)) := drew_below N2.out _
            have t0 : (w2.drewN nq).cell? ⟨0, 9, none⟩ = some (.int .i64 128) := (T2.out.cell 9).trans rfl
            have t1 : (w2.drewN nq).cell? ⟨0, 10, none⟩ = some (.int .i64 8) := (T2.out.cell 10).trans rfl
            have t2 : (w2.drewN nq).cell? ⟨0, 11, none⟩ = some (.int .i64 269312) := (T2.out.cell 11).trans rfl
            have q0 : (w2.drewN nq).cell? ⟨w1.heap.size, 0, none⟩ = some (.int .i64 3) := p0
            have q2 : (w2.drewN nq).cell? ⟨w1.heap.size, 2, none⟩ = some (.int .i64 (r : Int)) := p2
            clear hh hbit p0 p1 p2
            generalize w2.drewN nq = w3 at *
            have t0 := After.cell t0
            have t1 := After.cell t1
            have t2 := After.cell t2
            have q0 := After.cell q0
            have q2 := After.cell q2
            haveI := After.has w3
            refine wp_region_after (by kernel_rfl) (by kernel_rfl) ?_
            repeat (quiet_step ((go_at_call 62; exact Calls.after (bytes_c 128 8 269312 _ (by omega) (by omega)))))
            refine wpQuiet_nil ?_
            intro _ hw'
            obtain ⟨xq, hw''⟩ := hw'
            subst hw''
            have N4 : Hid (Below w.heap.size w xq.w) := below_next N3.out xq.below
            clear t0 t1 t2 q0 q2
            go_wp2
            rw [wrap_in (512 - (r : Int)) ⟨by omega, by omega⟩, Int.tdiv_eq_ediv_of_nonneg (show 0 ≤ 512 - (r : Int) by omega), wrap_in ((512 - (r : Int)) / 4) ⟨by omega, by omega⟩]
            go_ret
            exact ⟨rfl, N4.out⟩
  · rw [if_pos (Or.inl hx)]
    go_enter Tryd.func52, Tryd.ntmps52
    go_wp2_with (go_at_call 60; refine (made_c H.out).mono ?_; rintro e w0 ⟨rfl, hw⟩; rw [hw]; clear hw w0)
    go_ret
    exact ⟨rfl, Below.refl _ _⟩
end Go.Proofs.YtapgaclonilnbaaDoor
