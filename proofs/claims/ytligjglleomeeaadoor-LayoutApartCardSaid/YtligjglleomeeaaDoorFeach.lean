/-
  Proved: what eachPlace does with an instruction, given fold.Plain's closure.
-/
import Derived.Test.YtligjglleomeeaaDoorFclo
namespace Go.Proofs.YtligjglleomeeaaDoor
open Go.RowKit

theorem tch_is (x : Ins) (k : Int) : tch x k = ((uP x.op && mdf x.p k) || (uQ x.op && mdf x.q k)) := rfl

theorem kp_below {w0 w w' : World} {rb : Nat} (hB : Below w0.heap.size w0 w) (hrb : w0.heap.size ≤ rb) (k : Kp (fun c => c = rb) w w') : Below w0.heap.size w0 w' :=
  hB.trans (k.below hB.size fun b hb => by rw [hb]; exact hrb)

theorem ins_p {w : World} {b o : Nat} {x : Ins} {pv qv tv av dv : Value} (h : RowAt w b o (insC x pv qv tv av dv)) : RowAt w b (o + 6) [.int .i64 x.p.l, pv] :=
  ⟨h.1, fun j v hj => by
    match j, hj with
    | 0, hj => exact h.2 6 v hj
    | 1, hj => exact h.2 7 v hj⟩
theorem ins_q {w : World} {b o : Nat} {x : Ins} {pv qv tv av dv : Value} (h : RowAt w b o (insC x pv qv tv av dv)) : RowAt w b (o + 8) [.int .i64 x.q.l, qv] :=
  ⟨h.1, fun j v hj => by
    match j, hj with
    | 0, hj => exact h.2 8 v hj
    | 1, hj => exact h.2 9 v hj⟩

theorem cf_clo (args : Array Value) (w : World) : (callFunc 11 args).run Tryd.prog w = .ok (.enter 11 args) w := by kernel_rfl

set_option maxHeartbeats 1000000 in
theorem each_c (x : Ins) (cs : List Value) (b o bx rb n : Nat) (g : Nat → Bool) (w0 w : World) (hB : Below w0.heap.size w0 w) (hrb : w0.heap.size ≤ rb) (hr : RowAt w0 b o cs) (hx : InsIn w0 x cs) (T : Tab w0) (hp : PB w bx rb n g) :
    Calls Tryd.prog 10 #[.pointer (some ⟨b, o, none⟩), .func (.func 11) #[] #[.pointer (some ⟨bx, 0, none⟩)]] w fun e w' => e = .returned (.tuple #[]) ∧ PB w' bx rb n (fun k => g k && !tch x k) ∧ Kp (fun c => c = rb) w w' := by
  obtain ⟨pv, qv, tv, av, dv, rfl, h1, h2, -⟩ := hx
  have PC : Hid (∀ w', Below w0.heap.size w0 w' → Calls Tryd.prog 13 #[.int .i64 x.op] w' _) := fun w' hw => parts_c x.op w' (T.next hw)
  have CP : Hid (∀ g w', Below w0.heap.size w0 w' → PB w' bx rb n g → Calls Tryd.prog 11 #[.pointer (some ⟨b, o + 6, none⟩), .pointer (some ⟨bx, 0, none⟩)] w' _) := fun g w' hw hp => clo_c x.p b (o + 6) pv bx rb n g w' ((ins_p hr).below hw) (h1.below hw) hp
  have CQ : Hid (∀ g w', Below w0.heap.size w0 w' → PB w' bx rb n g → Calls Tryd.prog 11 #[.pointer (some ⟨b, o + 8, none⟩), .pointer (some ⟨bx, 0, none⟩)] w' _) := fun g w' hw hp => clo_c x.q b (o + 8) qv bx rb n g w' ((ins_q hr).below hw) (h2.below hw) hp
  have P0 : Hid (PB w bx rb n g) := hp
  have N0 : Hid (Below w0.heap.size w0 w) := hB
  have RB : Hid (w0.heap.size ≤ rb) := hrb
  have hb : b < w.heap.size := Nat.lt_of_lt_of_le hr.1 hB.size
  have c0 := (hr.below hB).2 0 _ rfl
  simp only [Nat.add_zero] at c0
  have TC : Hid (∀ k : Nat, tch x k = ((uP x.op && mdf x.p k) || (uQ x.op && mdf x.q k))) := fun k => rfl
  have hcf := cf_clo
  generalize tch x = tc at *
  generalize x.op = op at *
  clear hr h1 h2 T hp hB hrb
  cases hP : uP op with
  | false =>
    have hQ : uQ op = false := by
      cases h : uQ op with
      | false => rfl
      | true => simp [uP, uQ] at hP h; omega
    rw [hP, hQ] at PC
    have E : Hid (∀ w', PB w' bx rb n g → PB w' bx rb n (fun k => g k && !tc k)) := fun w' h => h.ext fun k hk => by rw [TC.out, hP, hQ]; simp
    clear hP hQ TC
    go_enter Tryd.func10, Tryd.ntmps10
    go_wp2_with (go_at_call 13; refine (PC.out _ N0.out).mono ?_; rintro e w3 ⟨b0, b1, b2, b3, b6, b7, b8, b9, rfl, hb3⟩; have N3 : Hid (Below w.heap.size w w3) := hb3; clear hb3)
    refine bodyPost_end (results_none rfl _ _ _) rfl ?_
    have K3 := below_next N3.out (below_alloc w3 (.cells #[.bool b0, .bool b1, .bool b2, .bool b3, .bool false, .bool false, .bool b6, .bool b7, .bool b8, .bool b9] 60))
    exact ⟨rfl, E.out _ (P0.out.below K3), Kp.of_below K3⟩
  | true =>
    cases hQ : uQ op with
    | false =>
      rw [hP, hQ] at PC
      have E : Hid (∀ w', PB w' bx rb n (fun k => g k && !mdf x.p k) → PB w' bx rb n (fun k => g k && !tc k)) := fun w' h => h.ext fun k hk => by rw [TC.out, hP, hQ]; simp
      clear hP hQ TC
      go_enter Tryd.func10, Tryd.ntmps10
      go_wp2_with (first
        | (go_at_call 13; refine (PC.out _ N0.out).mono ?_; rintro e w3 ⟨b0, b1, b2, b3, b6, b7, b8, b9, rfl, hb3⟩; have N3 : Hid (Below w.heap.size w w3) := hb3; have Z3 := hb3.size; clear hb3)
        | (show Calls Tryd.prog 11 _ _ _; go_loud (refine (CP.out g _ (below_next N0.out (below_next N3.out (below_alloc _ _))) (P0.out.below (below_next N3.out (below_alloc _ _)))).mono ?_; rintro e w4 ⟨rfl, hp4, hk4⟩; have P4 : Hid (PB w4 bx rb n (fun k => g k && !mdf x.p k)) := hp4; have K4 : Hid (Kp (fun c => c = rb) (w3.alloc (.cells #[.bool b0, .bool b1, .bool b2, .bool b3, .bool true, .bool false, .bool b6, .bool b7, .bool b8, .bool b9] 60)) w4) := hk4; have A4 : Hid (At w4 w3.heap.size #[.bool b0, .bool b1, .bool b2, .bool b3, .bool true, .bool false, .bool b6, .bool b7, .bool b8, .bool b9] 60) := hk4.at (At.new _ _ _) (fun e => by have := P0.out.2.lt; omega); have x5 : w4.cell? ⟨w3.heap.size, 5, none⟩ = some (.bool false) := A4.out.cell 5; have y5 := A4.out.lt; have hb4 : b < w4.heap.size := (by omega); clear hp4 hk4)))
      refine bodyPost_end (results_none rfl _ _ _) rfl ?_
      exact ⟨rfl, E.out _ P4.out, (Kp.of_below (below_next N3.out (below_alloc _ _))).trans K4.out⟩
    | true =>
      rw [hP, hQ] at PC
      have E : Hid (∀ w', PB w' bx rb n (fun k => (g k && !mdf x.p k) && !mdf x.q k) → PB w' bx rb n (fun k => g k && !tc k)) := fun w' h => h.ext fun k hk => by rw [TC.out, hP, hQ]; simp [Bool.and_assoc]
      clear hP hQ TC
      go_enter Tryd.func10, Tryd.ntmps10
      go_wp2_with (first
        | (go_at_call 13; refine (PC.out _ N0.out).mono ?_; rintro e w3 ⟨b0, b1, b2, b3, b6, b7, b8, b9, rfl, hb3⟩; have N3 : Hid (Below w.heap.size w w3) := hb3; have Z3 := hb3.size; clear hb3)
        | (show Calls Tryd.prog 11 _ _ _; have M4 := K4; have B4 : Below w0.heap.size w0 w4 := kp_below (below_next N0.out (below_next N3.out (below_alloc _ _))) RB.out K4.out; refine (CQ.out (fun k => g k && !mdf x.p k) _ B4 P4.out).mono ?_; rintro e w5 ⟨rfl, hp5, hk5⟩; have P5 : Hid (PB w5 bx rb n (fun k => (g k && !mdf x.p k) && !mdf x.q k)) := hp5; have K5 : Hid (Kp (fun c => c = rb) w4 w5) := hk5; clear hp5 hk5 B4)
        | (show Calls Tryd.prog 11 _ _ _; go_loud (refine (CP.out g _ (below_next N0.out (below_next N3.out (below_alloc _ _))) (P0.out.below (below_next N3.out (below_alloc _ _)))).mono ?_; rintro e w4 ⟨rfl, hp4, hk4⟩; have P4 : Hid (PB w4 bx rb n (fun k => g k && !mdf x.p k)) := hp4; have K4 : Hid (Kp (fun c => c = rb) (w3.alloc (.cells #[.bool b0, .bool b1, .bool b2, .bool b3, .bool true, .bool true, .bool b6, .bool b7, .bool b8, .bool b9] 60)) w4) := hk4; have A4 : Hid (At w4 w3.heap.size #[.bool b0, .bool b1, .bool b2, .bool b3, .bool true, .bool true, .bool b6, .bool b7, .bool b8, .bool b9] 60) := hk4.at (At.new _ _ _) (fun e => by have := P0.out.2.lt; omega); have x5 : w4.cell? ⟨w3.heap.size, 5, none⟩ = some (.bool true) := A4.out.cell 5; have y5 := A4.out.lt; have hb4 : b < w4.heap.size := (by omega); clear hp4 hk4)))
      refine bodyPost_end (results_none rfl _ _ _) rfl ?_
      exact ⟨rfl, E.out _ P5.out, ((Kp.of_below (below_next N3.out (below_alloc _ _))).trans K4.out).trans K5.out⟩
end Go.Proofs.YtligjglleomeeaaDoor
