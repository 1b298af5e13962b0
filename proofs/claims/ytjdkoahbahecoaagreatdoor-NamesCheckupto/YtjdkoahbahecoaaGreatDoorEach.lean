/-
  Proved: each asks of every element of a list (of params, variants, types, items), till something is wrong.
-/
import Derived.Test.YtjdkoahbahecoaaGreatDoorAsk
namespace Go.Proofs.YtjdkoahbahecoaaGreatDoor
open Go.RowKit

set_option maxHeartbeats 2000000 in
theorem eachParam_c (f : Fv) (eg : ∀ args w, (callFunc f.g args).run Tryz.prog w = .ok (.enter f.g args) w) (n : Nat) (hl : n ≤ 9223372036854775807) (ecs : Nat → List Value) (A : Option Addr) (b o C : Nat) (hA : 0 < n → A = some ⟨b, o, none⟩) (hsh : ∀ k, k < n → ∃ s mu tk ts tn TA tl TC a, ecs k = [.string s, .bool mu, .int .i64 tk, .string ts, .int .i64 tn, .slice TA tl TC, .int .i64 a]) (R : Nat → Option (Int × Int)) (I : Nat → World → Prop) (K : World → Prop) (w : World)
    (hrow : ∀ k wr, I k wr → k < n → RowAt wr b (o + k * 7) (ecs k)) (hK : ∀ k wr, I k wr → K wr)
    (hstep : ∀ k wr, k < n → I k wr → ∀ wb, Below wr.heap.size wr wb → Calls Tryz.prog f.g (f.bnd ++ #[.agg (ecs k).toArray] ++ f.cap) wb fun e w' => e = .returned (errV (R k)) ∧ K w' ∧ (R k = none → I (k + 1) w')) (h0 : I 0 w) :
    Calls Tryz.prog 84 #[.slice A n C, f.v] w fun e w' => e = .returned (errV (fo R 0 n)) ∧ K w' ∧ (fo R 0 n = none → I n w') := by
  generalize hX : fo R 0 n = X
  have HX : Hid (fo R 0 (n - 0) = X) := hX
  have HROW : Hid (∀ k wr, I k wr → k < n → RowAt wr b (o + k * 7) (ecs k)) := hrow
  have HK : Hid (∀ k wr, I k wr → K wr) := hK
  obtain ⟨g, bnd, cap⟩ := f
  simp only at eg hstep
  have HS : Hid (∀ k wr, k < n → I k wr → ∀ wb, Below wr.heap.size wr wb → Calls Tryz.prog g (bnd ++ #[.agg (ecs k).toArray] ++ cap) wb fun e w' => e = .returned (errV (R k)) ∧ K w' ∧ (R k = none → I (k + 1) w')) := hstep
  have H0 : Hid (I 0 w) := h0
  have HSH : Hid (∀ k, k < n → ∃ s mu tk ts tn TA tl TC a, ecs k = [.string s, .bool mu, .int .i64 tk, .string ts, .int .i64 tn, .slice TA tl TC, .int .i64 a]) := hsh
  clear hX hrow hK hstep h0 hsh
  unfold Fv.v
  go_enter Tryz.func84, Tryz.ntmps84
  go_wp2
  go_loopw [10] (fun i wr => ∃ k : Nat, k ≤ n ∧ i = .int .i64 (k : Int) ∧ fo R k (n - k) = X ∧ I k wr) (fun i _ => n - (intOf i).toNat)
  case atStart => exact ⟨0, Nat.zero_le _, rfl, HX.out, H0.out⟩
  case round =>
    obtain ⟨k, hk, rfl, hr, hi⟩ := hrel
    have HR : Hid (fo R k (n - k) = X) := hr
    have HI : Hid (I k wr) := hi
    clear hr hi
    by_cases hlt : k < n
    · have hA' := hA (by omega)
      subst hA'
      have hrw := HROW.out k wr HI.out hlt
      obtain ⟨s, mu, tk, ts, tn, TA, tl, TC, a, he⟩ := HSH.out k hlt
      have SC := HS.out k wr hlt HI.out
      rw [he] at hrw SC
      have c0 := hrw.2 0 _ rfl
      have c1 := hrw.2 1 _ rfl
      have c2 := hrw.2 2 _ rfl
      have c3 := hrw.2 3 _ rfl
      have c4 := hrw.2 4 _ rfl
      have c5 := hrw.2 5 _ rfl
      have c6 := hrw.2 6 _ rfl
      simp only [Nat.add_zero] at c0
      have hfs := fo_step (R := R) hlt
      generalize R k = rk at SC hfs
      have SCH : Hid (∀ wb, Below wr.heap.size wr wb → Calls Tryz.prog g (bnd ++ #[.agg ([.string s, .bool mu, .int .i64 tk, .string ts, .int .i64 tn, .slice TA tl TC, .int .i64 a] : List Value).toArray] ++ cap) wb fun e w' => e = .returned (errV rk) ∧ K w' ∧ (rk = none → I (k + 1) w')) := SC
      have HF : Hid (fo R k (n - k) = rk.or (fo R (k + 1) (n - (k + 1)))) := hfs
      have hlt' : (k : Int) < (n : Int) := by omega
      clear SC hfs hrw he
      cases rk with
      | none =>
        simp only [errV] at SCH
        go_wp2
        refine (SCH.out _ (below_alloc _ _)).mono ?_
        rintro e w1 ⟨rfl, hk1, hi1⟩
        have HI1 : Hid (I (k + 1) w1) := hi1 (by trivial)
        clear hi1 hk1
        go_wp2
        go_roundw
        case rel => exact ⟨k + 1, by omega, by go_num, by rw [← HR.out, HF.out]; rfl, HI1.out⟩
        case measure => simp [intOf]; omega
      | some ae =>
        obtain ⟨a', e'⟩ := ae
        simp only [errV] at SCH
        go_wp2
        refine (SCH.out _ (below_alloc _ _)).mono ?_
        rintro e w1 ⟨rfl, hk1, hi1⟩
        have HK1 : Hid (K w1) := hk1
        clear hi1 hk1
        go_wp2
        go_ret
        have hx : X = some (a', e') := by rw [← HR.out, HF.out]; rfl
        subst hx
        exact ⟨rfl, HK1.out, fun h => by cases h⟩
    · go_wp2
      go_ret
      obtain rfl : k = n := by omega
      have hx : X = none := by rw [← HR.out, Nat.sub_self, fo]
      subst hx
      exact ⟨rfl, HK.out _ _ HI.out, fun _ => HI.out⟩

set_option maxHeartbeats 2000000 in
theorem eachVariant_c (f : Fv) (eg : ∀ args w, (callFunc f.g args).run Tryz.prog w = .ok (.enter f.g args) w) (n : Nat) (hl : n ≤ 9223372036854775807) (ecs : Nat → List Value) (A : Option Addr) (b o C : Nat) (hA : 0 < n → A = some ⟨b, o, none⟩) (hsh : ∀ k, k < n → ∃ s A l C a, ecs k = [.string s, .slice A l C, .int .i64 a]) (R : Nat → Option (Int × Int)) (I : Nat → World → Prop) (K : World → Prop) (w : World)
    (hrow : ∀ k wr, I k wr → k < n → RowAt wr b (o + k * 3) (ecs k)) (hK : ∀ k wr, I k wr → K wr)
    (hstep : ∀ k wr, k < n → I k wr → ∀ wb, Below wr.heap.size wr wb → Calls Tryz.prog f.g (f.bnd ++ #[.agg (ecs k).toArray] ++ f.cap) wb fun e w' => e = .returned (errV (R k)) ∧ K w' ∧ (R k = none → I (k + 1) w')) (h0 : I 0 w) :
    Calls Tryz.prog 76 #[.slice A n C, f.v] w fun e w' => e = .returned (errV (fo R 0 n)) ∧ K w' ∧ (fo R 0 n = none → I n w') := by
  generalize hX : fo R 0 n = X
  have HX : Hid (fo R 0 (n - 0) = X) := hX
  have HROW : Hid (∀ k wr, I k wr → k < n → RowAt wr b (o + k * 3) (ecs k)) := hrow
  have HK : Hid (∀ k wr, I k wr → K wr) := hK
  obtain ⟨g, bnd, cap⟩ := f
  simp only at eg hstep
  have HS : Hid (∀ k wr, k < n → I k wr → ∀ wb, Below wr.heap.size wr wb → Calls Tryz.prog g (bnd ++ #[.agg (ecs k).toArray] ++ cap) wb fun e w' => e = .returned (errV (R k)) ∧ K w' ∧ (R k = none → I (k + 1) w')) := hstep
  have H0 : Hid (I 0 w) := h0
  have HSH : Hid (∀ k, k < n → ∃ s A l C a, ecs k = [.string s, .slice A l C, .int .i64 a]) := hsh
  clear hX hrow hK hstep h0 hsh
  unfold Fv.v
  go_enter Tryz.func76, Tryz.ntmps76
  go_wp2
  go_loopw [10] (fun i wr => ∃ k : Nat, k ≤ n ∧ i = .int .i64 (k : Int) ∧ fo R k (n - k) = X ∧ I k wr) (fun i _ => n - (intOf i).toNat)
  case atStart => exact ⟨0, Nat.zero_le _, rfl, HX.out, H0.out⟩
  case round =>
    obtain ⟨k, hk, rfl, hr, hi⟩ := hrel
    have HR : Hid (fo R k (n - k) = X) := hr
    have HI : Hid (I k wr) := hi
    clear hr hi
    by_cases hlt : k < n
    · have hA' := hA (by omega)
      subst hA'
      have hrw := HROW.out k wr HI.out hlt
      obtain ⟨s, TA, tl, TC, a, he⟩ := HSH.out k hlt
      have SC := HS.out k wr hlt HI.out
      rw [he] at hrw SC
      have c0 := hrw.2 0 _ rfl
      have c1 := hrw.2 1 _ rfl
      have c2 := hrw.2 2 _ rfl
      simp only [Nat.add_zero] at c0
      have hfs := fo_step (R := R) hlt
      generalize R k = rk at SC hfs
      have SCH : Hid (∀ wb, Below wr.heap.size wr wb → Calls Tryz.prog g (bnd ++ #[.agg ([.string s, .slice TA tl TC, .int .i64 a] : List Value).toArray] ++ cap) wb fun e w' => e = .returned (errV rk) ∧ K w' ∧ (rk = none → I (k + 1) w')) := SC
      have HF : Hid (fo R k (n - k) = rk.or (fo R (k + 1) (n - (k + 1)))) := hfs
      have hlt' : (k : Int) < (n : Int) := by omega
      clear SC hfs hrw he
      cases rk with
      | none =>
        simp only [errV] at SCH
        go_wp2
        refine (SCH.out _ (below_alloc _ _)).mono ?_
        rintro e w1 ⟨rfl, hk1, hi1⟩
        have HI1 : Hid (I (k + 1) w1) := hi1 (by trivial)
        clear hi1 hk1
        go_wp2
        go_roundw
        case rel => exact ⟨k + 1, by omega, by go_num, by rw [← HR.out, HF.out]; rfl, HI1.out⟩
        case measure => simp [intOf]; omega
      | some ae =>
        obtain ⟨a', e'⟩ := ae
        simp only [errV] at SCH
        go_wp2
        refine (SCH.out _ (below_alloc _ _)).mono ?_
        rintro e w1 ⟨rfl, hk1, hi1⟩
        have HK1 : Hid (K w1) := hk1
        clear hi1 hk1
        go_wp2
        go_ret
        have hx : X = some (a', e') := by rw [← HR.out, HF.out]; rfl
        subst hx
        exact ⟨rfl, HK1.out, fun h => by cases h⟩
    · go_wp2
      go_ret
      obtain rfl : k = n := by omega
      have hx : X = none := by rw [← HR.out, Nat.sub_self, fo]
      subst hx
      exact ⟨rfl, HK.out _ _ HI.out, fun _ => HI.out⟩

set_option maxHeartbeats 2000000 in
theorem eachType_c (f : Fv) (eg : ∀ args w, (callFunc f.g args).run Tryz.prog w = .ok (.enter f.g args) w) (n : Nat) (hl : n ≤ 9223372036854775807) (ecs : Nat → List Value) (A : Option Addr) (b o C : Nat) (hA : 0 < n → A = some ⟨b, o, none⟩) (hsh : ∀ k, k < n → ∃ tk ts tn A l C, ecs k = [.int .i64 tk, .string ts, .int .i64 tn, .slice A l C]) (R : Nat → Option (Int × Int)) (I : Nat → World → Prop) (K : World → Prop) (w : World)
    (hrow : ∀ k wr, I k wr → k < n → RowAt wr b (o + k * 4) (ecs k)) (hK : ∀ k wr, I k wr → K wr)
    (hstep : ∀ k wr, k < n → I k wr → ∀ wb, Below wr.heap.size wr wb → Calls Tryz.prog f.g (f.bnd ++ #[.agg (ecs k).toArray] ++ f.cap) wb fun e w' => e = .returned (errV (R k)) ∧ K w' ∧ (R k = none → I (k + 1) w')) (h0 : I 0 w) :
    Calls Tryz.prog 73 #[.slice A n C, f.v] w fun e w' => e = .returned (errV (fo R 0 n)) ∧ K w' ∧ (fo R 0 n = none → I n w') := by
  generalize hX : fo R 0 n = X
  have HX : Hid (fo R 0 (n - 0) = X) := hX
  have HROW : Hid (∀ k wr, I k wr → k < n → RowAt wr b (o + k * 4) (ecs k)) := hrow
  have HK : Hid (∀ k wr, I k wr → K wr) := hK
  obtain ⟨g, bnd, cap⟩ := f
  simp only at eg hstep
  have HS : Hid (∀ k wr, k < n → I k wr → ∀ wb, Below wr.heap.size wr wb → Calls Tryz.prog g (bnd ++ #[.agg (ecs k).toArray] ++ cap) wb fun e w' => e = .returned (errV (R k)) ∧ K w' ∧ (R k = none → I (k + 1) w')) := hstep
  have H0 : Hid (I 0 w) := h0
  have HSH : Hid (∀ k, k < n → ∃ tk ts tn A l C, ecs k = [.int .i64 tk, .string ts, .int .i64 tn, .slice A l C]) := hsh
  clear hX hrow hK hstep h0 hsh
  unfold Fv.v
  go_enter Tryz.func73, Tryz.ntmps73
  go_wp2
  go_loopw [10] (fun i wr => ∃ k : Nat, k ≤ n ∧ i = .int .i64 (k : Int) ∧ fo R k (n - k) = X ∧ I k wr) (fun i _ => n - (intOf i).toNat)
  case atStart => exact ⟨0, Nat.zero_le _, rfl, HX.out, H0.out⟩
  case round =>
    obtain ⟨k, hk, rfl, hr, hi⟩ := hrel
    have HR : Hid (fo R k (n - k) = X) := hr
    have HI : Hid (I k wr) := hi
    clear hr hi
    by_cases hlt : k < n
    · have hA' := hA (by omega)
      subst hA'
      have hrw := HROW.out k wr HI.out hlt
      obtain ⟨tk, ts, tn, TA, tl, TC, he⟩ := HSH.out k hlt
      have SC := HS.out k wr hlt HI.out
      rw [he] at hrw SC
      have c0 := hrw.2 0 _ rfl
      have c1 := hrw.2 1 _ rfl
      have c2 := hrw.2 2 _ rfl
      have c3 := hrw.2 3 _ rfl
      simp only [Nat.add_zero] at c0
      have hfs := fo_step (R := R) hlt
      generalize R k = rk at SC hfs
      have SCH : Hid (∀ wb, Below wr.heap.size wr wb → Calls Tryz.prog g (bnd ++ #[.agg ([.int .i64 tk, .string ts, .int .i64 tn, .slice TA tl TC] : List Value).toArray] ++ cap) wb fun e w' => e = .returned (errV rk) ∧ K w' ∧ (rk = none → I (k + 1) w')) := SC
      have HF : Hid (fo R k (n - k) = rk.or (fo R (k + 1) (n - (k + 1)))) := hfs
      have hlt' : (k : Int) < (n : Int) := by omega
      clear SC hfs hrw he
      cases rk with
      | none =>
        simp only [errV] at SCH
        go_wp2
        refine (SCH.out _ (below_alloc _ _)).mono ?_
        rintro e w1 ⟨rfl, hk1, hi1⟩
        have HI1 : Hid (I (k + 1) w1) := hi1 (by trivial)
        clear hi1 hk1
        go_wp2
        go_roundw
        case rel => exact ⟨k + 1, by omega, by go_num, by rw [← HR.out, HF.out]; rfl, HI1.out⟩
        case measure => simp [intOf]; omega
      | some ae =>
        obtain ⟨a', e'⟩ := ae
        simp only [errV] at SCH
        go_wp2
        refine (SCH.out _ (below_alloc _ _)).mono ?_
        rintro e w1 ⟨rfl, hk1, hi1⟩
        have HK1 : Hid (K w1) := hk1
        clear hi1 hk1
        go_wp2
        go_ret
        have hx : X = some (a', e') := by rw [← HR.out, HF.out]; rfl
        subst hx
        exact ⟨rfl, HK1.out, fun h => by cases h⟩
    · go_wp2
      go_ret
      obtain rfl : k = n := by omega
      have hx : X = none := by rw [← HR.out, Nat.sub_self, fo]
      subst hx
      exact ⟨rfl, HK.out _ _ HI.out, fun _ => HI.out⟩

end Go.Proofs.YtjdkoahbahecoaaGreatDoor
