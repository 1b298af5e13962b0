/-
  Proved: the document's own Type tells the first error of a type.
-/
import Derived.Test.YtjdkoahbahecoaaGreatDoorRType
namespace Go.Proofs.YtjdkoahbahecoaaGreatDoor
open Go.RowKit

theorem frm_mk (is : List It) (k : Int) (s : ByteArray) (n : Int) (es : List T) (may : Bool) : frm is (.mk k s n es) may = (if (k = 12 ∨ k = 13) ∧ may = false then 57 else if k = 9 ∧ hst is s = false then 41 else if k < 1 ∨ 13 < k ∨ (10 ≤ k ∧ k ≤ 13 ∧ es.length = 0) then 10 else 0) := rfl

theorem rb1_bad {is : List It} {t : T} {rf : Bool} {x : Int} (h : frm is t rf = x) (hx : ¬ x = 0) : rb1 is t rf = x := by
  obtain ⟨k, s, n, es⟩ := t
  cases es with
  | nil => rw [rb1]; exact h
  | cons e es => rw [rb1, h, if_neg hx]

theorem rb1_in {is : List It} {k : Int} {s : ByteArray} {n : Int} {e : T} {es : List T} {rf : Bool} (h : frm is (.mk k s n (e :: es)) rf = 0) (hk : 10 ≤ k ∧ k ≤ 13) : rb1 is (.mk k s n (e :: es)) rf = rb1 is e false := by
  rw [rb1, if_pos h, if_pos hk]

theorem rb1_end {is : List It} {k : Int} {s : ByteArray} {n : Int} {es : List T} {rf : Bool} (h : frm is (.mk k s n es) rf = 0) (hk : ¬ (10 ≤ k ∧ k ≤ 13)) : rb1 is (.mk k s n es) rf = 0 := by
  cases es with
  | nil => rw [rb1]; exact h
  | cons e es => rw [rb1, if_pos h, if_neg hk]

theorem rb2_none {is : List It} {t : T} (h : wrd is t = none) : rb2 is t = false := by
  obtain ⟨k, s, n, es⟩ := t
  cases es with
  | nil => rw [rb2, h]; rfl
  | cons e es => rw [rb2, h]; rfl

theorem rb2_in {is : List It} {k : Int} {s : ByteArray} {n : Int} {e : T} {es : List T} {v : Nat} (h : wrd is (.mk k s n (e :: es)) = some v) (hk : 10 ≤ k ∧ k ≤ 13) : rb2 is (.mk k s n (e :: es)) = rb2 is e := by
  rw [rb2, h, if_pos hk]; rfl

theorem rb2_end {is : List It} {k : Int} {s : ByteArray} {n : Int} {es : List T} {v : Nat} (h : wrd is (.mk k s n es) = some v) (hk : ¬ (10 ≤ k ∧ k ≤ 13 ∧ 0 < es.length)) : rb2 is (.mk k s n es) = true := by
  cases es with
  | nil => rw [rb2, h]; rfl
  | cons e es => rw [rb2, h, if_neg (fun g => hk ⟨g.1, g.2, by simp⟩)]; rfl

set_option maxRecDepth 100000 in
set_option maxHeartbeats 1600000 in
theorem rType_c (is : List It) (hfew : Few is) (t : T) (cs : List Value) (refs : Bool) (A : Option Addr) (C : Nat) (w : World) (hi : IsIn w is A) (ht : TIn w t cs) :
    Calls Tryz.prog 8 #[.slice A is.length C, .agg cs.toArray, .bool refs] w fun e w' => e = .returned (.int .i64 (rT is t refs)) ∧ Below w.heap.size w w' := by
  have RI : Hid (∀ s w', Below w.heap.size w w' → Calls Tryz.prog 19 #[.slice A is.length C, .string s] w' fun e w'' => e = .returned (fstV (fst s is 0)) ∧ Below w'.heap.size w' w'') := fun s w' hw => ritem_c is s A C w' (hi.below hw)
  have WD : Hid (∀ t' cs', TIn w t' cs' → ∀ w', Below w.heap.size w w' → Calls Tryz.prog 21 #[.slice A is.length C, .agg cs'.toArray] w' fun e w'' => e = .returned (wrdV (wrd is t')) ∧ Below w'.heap.size w' w'') := fun t' cs' h w' hw => rWords_c is hfew t' cs' A C w' (hi.below hw) (h.stays hw)
  obtain ⟨k0, s0, n0, es0⟩ := t
  obtain ⟨EA0, EC0, rfl, _⟩ := ht.inv
  have HT0 : Hid (TIn w (.mk k0 s0 n0 es0) [.int .i64 k0, .string s0, .int .i64 n0, .slice EA0 es0.length EC0]) := ht
  unfold rT
  generalize hR1 : rb1 is (.mk k0 s0 n0 es0) refs = R1
  generalize hR2 : rb2 is (.mk k0 s0 n0 es0) = R2
  have HR1 : Hid (rb1 is (.mk k0 s0 n0 es0) refs = R1) := hR1
  have HR2 : Hid (rb2 is (.mk k0 s0 n0 es0) = R2) := hR2
  have HW1 : Hid (Below w.heap.size w (w.alloc (.cells #[.int .i64 k0, .string s0, .int .i64 n0, .slice EA0 es0.length EC0] 25))) := below_alloc w _
  have AT0 : Hid (At (w.alloc (.cells #[.int .i64 k0, .string s0, .int .i64 n0, .slice EA0 es0.length EC0] 25)) w.heap.size #[.int .i64 k0, .string s0, .int .i64 n0, .slice EA0 es0.length EC0] 25) := At.new w _ _
  have SZ0 : Hid ((w.alloc (.cells #[.int .i64 k0, .string s0, .int .i64 n0, .slice EA0 es0.length EC0] 25)).heap.size = w.heap.size + 1) := by show _ = _; simp
  generalize hV : (if R1 = 0 then (if R2 = true then 0 else 43) else R1) = V
  have HV : Hid ((if R1 = 0 then (if R2 = true then 0 else 43) else R1) = V) := hV
  clear hR1 hR2 hi ht hfew hV
  go_enter Tryz.func8, Tryz.ntmps8
  go_wp2
  generalize hw0 : w.alloc (.cells #[.int .i64 k0, .string s0, .int .i64 n0, .slice EA0 es0.length EC0] 25) = w0 at HW1 AT0 SZ0
  clear hw0
  go_loopw [2] (fun rv wr => ∃ (rf : Bool) (t' : T) (cs' : List Value), rv = .bool rf ∧ Hid (rb1 is t' rf = R1) ∧ At wr (w.heap.size + 1) cs'.toArray 25 ∧ TIn w t' cs' ∧ Below w0.heap.size w0 wr) (fun _ wr => muB w (w.heap.size + 1) wr)
  case atStart => exact ⟨refs, _, _, rfl, HR1.out, by have h := At.new w0 #[.int .i64 k0, .string s0, .int .i64 n0, .slice EA0 es0.length EC0] 25; rw [SZ0.out] at h; exact h, HT0.out, below_alloc _ _⟩
  case round =>
    obtain ⟨rf, t', cs', rfl, HR, hat, htn, hbl⟩ := hrel
    have HMU : Hid (muB w (w.heap.size + 1) wr = SizeOf.sizeOf t') := muB_eq htn hat
    have HTN : Hid (TIn w t' cs') := htn
    have HBL : Hid (Below w0.heap.size w0 wr) := hbl
    have HBW : Hid (Below w.heap.size w wr) := below_next HW1.out hbl
    obtain ⟨k, s, m, es⟩ := t'
    obtain ⟨A1, C1, rfl, hes⟩ := htn.inv
    have HES : Hid (TsIn w es A1) := hes
    have HAT : Hid (At wr (w.heap.size + 1) #[.int .i64 k, .string s, .int .i64 m, .slice A1 es.length C1] 25) := hat
    obtain ⟨a0, a1, a2, a3, az⟩ := cells4 (show At wr (w.heap.size + 1) #[.int .i64 k, .string s, .int .i64 m, .slice A1 es.length C1] 25 from hat)
    have IN : Hid (∀ w', Calls Tryz.prog 20 #[.agg #[.int .i64 k, .string s, .int .i64 m, .slice A1 es.length C1]] w' fun e w'' => e = .returned (.bool (decide (10 ≤ k ∧ k ≤ 13 ∧ 0 < es.length))) ∧ Below w'.heap.size w' w'') := rinner_c k s m A1 es.length C1
    have hel := hes.1
    clear hat htn hbl hes
    have kinds : k = 12 ∨ k = 13 ∨ k = 10 ∨ k = 11 ∨ k = 9 ∨ (k < 1) ∨ (13 < k) ∨ (1 ≤ k ∧ k ≤ 8) := by omega
    rcases kinds with rfl | rfl | rfl | rfl | rfl | hk | hk | hk
    · cases rf with
      | false =>
        have HX : Hid (R1 = 57) := by rw [← HR.out]; exact rb1_bad (by rw [frm_mk, if_pos ⟨by decide, rfl⟩]) (by decide)
        clear HR
        go_wp2
        go_ret
        exact ⟨by rw [← HV.out, HX.out]; rfl, HBW.out⟩
      | true =>
        by_cases hpos : 0 < es.length
        · have hp1 : ¬ (es.length : Int) = 0 := by omega
          have hp2 : ((es.length : Int) == 0) = false := by simpa using hp1
          cases es with
          | nil => exact absurd hpos (by simp)
          | cons e2 es2 =>
            have HR' : Hid (rb1 is e2 false = R1) := by rw [← HR.out]; exact (rb1_in (by rw [frm_mk]; rw [if_neg (by simp), if_neg (by simp), if_neg (by simp)]) (by decide)).symm
            obtain ⟨b, o, c2, rfl, hrow, htc⟩ := HES.out.2 0 (by simp)
            have HTC : Hid (TIn w e2 c2) := htc
            have HLT : Hid (SizeOf.sizeOf e2 < muB w (w.heap.size + 1) wr) := by rw [HMU.out]; exact T.lt_mk _ s m (e2 :: es2) 0 (by simp)
            have HROW : Hid (∀ w', Below w0.heap.size w0 w' → RowAt w' b (o + 0 * 4) c2) := fun w' hw => hrow.below (below_next HW1.out hw)
            obtain ⟨k2, s2, m2, es3⟩ := e2
            obtain ⟨A2, C2, rfl, _⟩ := htc.inv
            have hpos2 : (0 : Int) < ((T.mk k2 s2 m2 es3 :: es2).length : Int) := by simp only [List.length_cons]; omega
            have CELS : Hid (∀ w', Below w0.heap.size w0 w' → w'.cell? ⟨b, o, none⟩ = some (.int .i64 k2) ∧ w'.cell? ⟨b, o + 1, none⟩ = some (.string s2) ∧ w'.cell? ⟨b, o + 2, none⟩ = some (.int .i64 m2) ∧ w'.cell? ⟨b, o + 3, none⟩ = some (.slice A2 es3.length C2)) := fun w' hw => by have r := (HROW.out w' hw).2; simp only [Nat.zero_mul, Nat.add_zero] at r; exact ⟨r 0 _ rfl, r 1 _ rfl, r 2 _ rfl, r 3 _ rfl⟩
            rw [decide_eq_true ⟨by decide, by decide, hpos⟩] at IN
            clear hrow htc HR
            go_wp2_with (go_at_call 20; refine (IN.out _).mono ?_; rintro e w5 ⟨rfl, hb5⟩; have H5 : Hid (Below w0.heap.size w0 w5) := below_next HBL.out hb5; have HA5 : Hid (At w5 (w.heap.size + 1) #[.int .i64 12, .string s, .int .i64 m, .slice (some ⟨b, o, none⟩) (T.mk k2 s2 m2 es3 :: es2).length C1] 25) := At.below HAT.out hb5 HAT.out.lt; obtain ⟨b0, b1, b2, b3, bz⟩ := cells4 HA5.out; obtain ⟨f0, f1, f2, f3⟩ := frz4 HA5.out; clear hb5; obtain ⟨c0, c1, c2, c3⟩ := CELS.out _ H5.out)
            go_roundw
            case rel => exact ⟨false, .mk k2 s2 m2 es3, _, rfl, HR'.out, HA5.out.set4 _ _ _ _, HTC.out, below_set4 H5.out (Nat.le_of_eq SZ0.out) _ _ _ _⟩
            case measure => rw [muB_eq HTC.out (HA5.out.set4 _ _ _ _)]; exact HLT.out
        · have hz : es = [] := List.eq_nil_of_length_eq_zero (by omega)
          subst hz
          have HX : Hid (R1 = 10) := by rw [← HR.out]; exact rb1_bad (by rw [frm_mk, if_neg (by simp), if_neg (by simp), if_pos (by simp)]) (by decide)
          clear HR
          go_wp2
          go_ret
          exact ⟨by rw [← HV.out, HX.out]; rfl, HBW.out⟩
    · cases rf with
      | false =>
        have HX : Hid (R1 = 57) := by rw [← HR.out]; exact rb1_bad (by rw [frm_mk, if_pos ⟨by decide, rfl⟩]) (by decide)
        clear HR
        go_wp2
        go_ret
        exact ⟨by rw [← HV.out, HX.out]; rfl, HBW.out⟩
      | true =>
        by_cases hpos : 0 < es.length
        · have hp1 : ¬ (es.length : Int) = 0 := by omega
          have hp2 : ((es.length : Int) == 0) = false := by simpa using hp1
          cases es with
          | nil => exact absurd hpos (by simp)
          | cons e2 es2 =>
            have HR' : Hid (rb1 is e2 false = R1) := by rw [← HR.out]; exact (rb1_in (by rw [frm_mk]; rw [if_neg (by simp), if_neg (by simp), if_neg (by simp)]) (by decide)).symm
            obtain ⟨b, o, c2, rfl, hrow, htc⟩ := HES.out.2 0 (by simp)
            have HTC : Hid (TIn w e2 c2) := htc
            have HLT : Hid (SizeOf.sizeOf e2 < muB w (w.heap.size + 1) wr) := by rw [HMU.out]; exact T.lt_mk _ s m (e2 :: es2) 0 (by simp)
            have HROW : Hid (∀ w', Below w0.heap.size w0 w' → RowAt w' b (o + 0 * 4) c2) := fun w' hw => hrow.below (below_next HW1.out hw)
            obtain ⟨k2, s2, m2, es3⟩ := e2
            obtain ⟨A2, C2, rfl, _⟩ := htc.inv
            have hpos2 : (0 : Int) < ((T.mk k2 s2 m2 es3 :: es2).length : Int) := by simp only [List.length_cons]; omega
            have CELS : Hid (∀ w', Below w0.heap.size w0 w' → w'.cell? ⟨b, o, none⟩ = some (.int .i64 k2) ∧ w'.cell? ⟨b, o + 1, none⟩ = some (.string s2) ∧ w'.cell? ⟨b, o + 2, none⟩ = some (.int .i64 m2) ∧ w'.cell? ⟨b, o + 3, none⟩ = some (.slice A2 es3.length C2)) := fun w' hw => by have r := (HROW.out w' hw).2; simp only [Nat.zero_mul, Nat.add_zero] at r; exact ⟨r 0 _ rfl, r 1 _ rfl, r 2 _ rfl, r 3 _ rfl⟩
            rw [decide_eq_true ⟨by decide, by decide, hpos⟩] at IN
            clear hrow htc HR
            go_wp2_with (go_at_call 20; refine (IN.out _).mono ?_; rintro e w5 ⟨rfl, hb5⟩; have H5 : Hid (Below w0.heap.size w0 w5) := below_next HBL.out hb5; have HA5 : Hid (At w5 (w.heap.size + 1) #[.int .i64 13, .string s, .int .i64 m, .slice (some ⟨b, o, none⟩) (T.mk k2 s2 m2 es3 :: es2).length C1] 25) := At.below HAT.out hb5 HAT.out.lt; obtain ⟨b0, b1, b2, b3, bz⟩ := cells4 HA5.out; obtain ⟨f0, f1, f2, f3⟩ := frz4 HA5.out; clear hb5; obtain ⟨c0, c1, c2, c3⟩ := CELS.out _ H5.out)
            go_roundw
            case rel => exact ⟨false, .mk k2 s2 m2 es3, _, rfl, HR'.out, HA5.out.set4 _ _ _ _, HTC.out, below_set4 H5.out (Nat.le_of_eq SZ0.out) _ _ _ _⟩
            case measure => rw [muB_eq HTC.out (HA5.out.set4 _ _ _ _)]; exact HLT.out
        · have hz : es = [] := List.eq_nil_of_length_eq_zero (by omega)
          subst hz
          have HX : Hid (R1 = 10) := by rw [← HR.out]; exact rb1_bad (by rw [frm_mk, if_neg (by simp), if_neg (by simp), if_pos (by simp)]) (by decide)
          clear HR
          go_wp2
          go_ret
          exact ⟨by rw [← HV.out, HX.out]; rfl, HBW.out⟩
    · by_cases hpos : 0 < es.length
      · have hp1 : ¬ (es.length : Int) = 0 := by omega
        have hp2 : ((es.length : Int) == 0) = false := by simpa using hp1
        cases es with
        | nil => exact absurd hpos (by simp)
        | cons e2 es2 =>
          have HR' : Hid (rb1 is e2 false = R1) := by rw [← HR.out]; exact (rb1_in (by rw [frm_mk]; rw [if_neg (by simp), if_neg (by simp), if_neg (by simp)]) (by decide)).symm
          obtain ⟨b, o, c2, rfl, hrow, htc⟩ := HES.out.2 0 (by simp)
          have HTC : Hid (TIn w e2 c2) := htc
          have HLT : Hid (SizeOf.sizeOf e2 < muB w (w.heap.size + 1) wr) := by rw [HMU.out]; exact T.lt_mk _ s m (e2 :: es2) 0 (by simp)
          have HROW : Hid (∀ w', Below w0.heap.size w0 w' → RowAt w' b (o + 0 * 4) c2) := fun w' hw => hrow.below (below_next HW1.out hw)
          obtain ⟨k2, s2, m2, es3⟩ := e2
          obtain ⟨A2, C2, rfl, _⟩ := htc.inv
          have hpos2 : (0 : Int) < ((T.mk k2 s2 m2 es3 :: es2).length : Int) := by simp only [List.length_cons]; omega
          have CELS : Hid (∀ w', Below w0.heap.size w0 w' → w'.cell? ⟨b, o, none⟩ = some (.int .i64 k2) ∧ w'.cell? ⟨b, o + 1, none⟩ = some (.string s2) ∧ w'.cell? ⟨b, o + 2, none⟩ = some (.int .i64 m2) ∧ w'.cell? ⟨b, o + 3, none⟩ = some (.slice A2 es3.length C2)) := fun w' hw => by have r := (HROW.out w' hw).2; simp only [Nat.zero_mul, Nat.add_zero] at r; exact ⟨r 0 _ rfl, r 1 _ rfl, r 2 _ rfl, r 3 _ rfl⟩
          rw [decide_eq_true ⟨by decide, by decide, hpos⟩] at IN
          clear hrow htc HR
          go_wp2_with (go_at_call 20; refine (IN.out _).mono ?_; rintro e w5 ⟨rfl, hb5⟩; have H5 : Hid (Below w0.heap.size w0 w5) := below_next HBL.out hb5; have HA5 : Hid (At w5 (w.heap.size + 1) #[.int .i64 10, .string s, .int .i64 m, .slice (some ⟨b, o, none⟩) (T.mk k2 s2 m2 es3 :: es2).length C1] 25) := At.below HAT.out hb5 HAT.out.lt; obtain ⟨b0, b1, b2, b3, bz⟩ := cells4 HA5.out; obtain ⟨f0, f1, f2, f3⟩ := frz4 HA5.out; clear hb5; obtain ⟨c0, c1, c2, c3⟩ := CELS.out _ H5.out)
          go_roundw
          case rel => exact ⟨false, .mk k2 s2 m2 es3, _, rfl, HR'.out, HA5.out.set4 _ _ _ _, HTC.out, below_set4 H5.out (Nat.le_of_eq SZ0.out) _ _ _ _⟩
          case measure => rw [muB_eq HTC.out (HA5.out.set4 _ _ _ _)]; exact HLT.out
      · have hz : es = [] := List.eq_nil_of_length_eq_zero (by omega)
        subst hz
        have HX : Hid (R1 = 10) := by rw [← HR.out]; exact rb1_bad (by rw [frm_mk, if_neg (by simp), if_neg (by simp), if_pos (by simp)]) (by decide)
        clear HR
        go_wp2
        go_ret
        exact ⟨by rw [← HV.out, HX.out]; rfl, HBW.out⟩
    · by_cases hpos : 0 < es.length
      · have hp1 : ¬ (es.length : Int) = 0 := by omega
        have hp2 : ((es.length : Int) == 0) = false := by simpa using hp1
        cases es with
        | nil => exact absurd hpos (by simp)
        | cons e2 es2 =>
          have HR' : Hid (rb1 is e2 false = R1) := by rw [← HR.out]; exact (rb1_in (by rw [frm_mk]; rw [if_neg (by simp), if_neg (by simp), if_neg (by simp)]) (by decide)).symm
          obtain ⟨b, o, c2, rfl, hrow, htc⟩ := HES.out.2 0 (by simp)
          have HTC : Hid (TIn w e2 c2) := htc
          have HLT : Hid (SizeOf.sizeOf e2 < muB w (w.heap.size + 1) wr) := by rw [HMU.out]; exact T.lt_mk _ s m (e2 :: es2) 0 (by simp)
          have HROW : Hid (∀ w', Below w0.heap.size w0 w' → RowAt w' b (o + 0 * 4) c2) := fun w' hw => hrow.below (below_next HW1.out hw)
          obtain ⟨k2, s2, m2, es3⟩ := e2
          obtain ⟨A2, C2, rfl, _⟩ := htc.inv
          have hpos2 : (0 : Int) < ((T.mk k2 s2 m2 es3 :: es2).length : Int) := by simp only [List.length_cons]; omega
          have CELS : Hid (∀ w', Below w0.heap.size w0 w' → w'.cell? ⟨b, o, none⟩ = some (.int .i64 k2) ∧ w'.cell? ⟨b, o + 1, none⟩ = some (.string s2) ∧ w'.cell? ⟨b, o + 2, none⟩ = some (.int .i64 m2) ∧ w'.cell? ⟨b, o + 3, none⟩ = some (.slice A2 es3.length C2)) := fun w' hw => by have r := (HROW.out w' hw).2; simp only [Nat.zero_mul, Nat.add_zero] at r; exact ⟨r 0 _ rfl, r 1 _ rfl, r 2 _ rfl, r 3 _ rfl⟩
          rw [decide_eq_true ⟨by decide, by decide, hpos⟩] at IN
          clear hrow htc HR
          go_wp2_with (go_at_call 20; refine (IN.out _).mono ?_; rintro e w5 ⟨rfl, hb5⟩; have H5 : Hid (Below w0.heap.size w0 w5) := below_next HBL.out hb5; have HA5 : Hid (At w5 (w.heap.size + 1) #[.int .i64 11, .string s, .int .i64 m, .slice (some ⟨b, o, none⟩) (T.mk k2 s2 m2 es3 :: es2).length C1] 25) := At.below HAT.out hb5 HAT.out.lt; obtain ⟨b0, b1, b2, b3, bz⟩ := cells4 HA5.out; obtain ⟨f0, f1, f2, f3⟩ := frz4 HA5.out; clear hb5; obtain ⟨c0, c1, c2, c3⟩ := CELS.out _ H5.out)
          go_roundw
          case rel => exact ⟨false, .mk k2 s2 m2 es3, _, rfl, HR'.out, HA5.out.set4 _ _ _ _, HTC.out, below_set4 H5.out (Nat.le_of_eq SZ0.out) _ _ _ _⟩
          case measure => rw [muB_eq HTC.out (HA5.out.set4 _ _ _ _)]; exact HLT.out
      · have hz : es = [] := List.eq_nil_of_length_eq_zero (by omega)
        subst hz
        have HX : Hid (R1 = 10) := by rw [← HR.out]; exact rb1_bad (by rw [frm_mk, if_neg (by simp), if_neg (by simp), if_pos (by simp)]) (by decide)
        clear HR
        go_wp2
        go_ret
        exact ⟨by rw [← HV.out, HX.out]; rfl, HBW.out⟩
    · have RJ : Hid (Calls Tryz.prog 19 #[.slice A is.length C, .string s] wr fun e w'' => e = .returned (fstV (fst s is 0)) ∧ Below wr.heap.size wr w'') := RI.out s wr HBW.out
      cases hf : fst s is 0 with
      | none =>
        rw [hf] at RJ
        simp only [fstV] at RJ
        have HX : Hid (R1 = 41) := by rw [← HR.out]; exact rb1_bad (by rw [frm_mk, if_neg (by simp), if_pos ⟨rfl, by rw [hst, hf]; rfl⟩]) (by decide)
        clear HR hf
        go_wp2_with (go_at_call 19; refine (RJ.out).mono ?_; rintro e w4 ⟨rfl, hb4⟩; have H4 : Hid (Below w0.heap.size w0 w4) := below_next HBL.out hb4; have HA4 : Hid (At w4 (w.heap.size + 1) #[.int .i64 9, .string s, .int .i64 m, .slice A1 es.length C1] 25) := At.below HAT.out hb4 HAT.out.lt; obtain ⟨q0, q1, q2, q3, qz⟩ := cells4 HA4.out; clear hb4)
        go_ret
        exact ⟨by rw [← HV.out, HX.out]; rfl, below_next HW1.out H4.out⟩
      | some j =>
        rw [hf] at RJ
        simp only [fstV] at RJ
        have hj0 : ¬ (j : Int) < 0 := by omega
        have HX0 : R1 = 0 := by rw [← HR.out]; exact rb1_end (by rw [frm_mk, if_neg (by simp), if_neg (by rw [hst, hf]; simp), if_neg (by simp)]) (by decide)
        rw [decide_eq_false (by simp)] at IN
        have t0 : Hid (∀ w', Below w0.heap.size w0 w' → _) := fun w' hw => cells4 (AT0.out.below hw AT0.out.lt)
        clear hf
        go_wp2_with (first
          | (go_at_call 19; refine (RJ.out).mono ?_; rintro e w4 ⟨rfl, hb4⟩; have H4 : Hid (Below w0.heap.size w0 w4) := below_next HBL.out hb4; have HA4 : Hid (At w4 (w.heap.size + 1) #[.int .i64 9, .string s, .int .i64 m, .slice A1 es.length C1] 25) := At.below HAT.out hb4 HAT.out.lt; obtain ⟨q0, q1, q2, q3, qz⟩ := cells4 HA4.out; clear hb4)
          | (go_at_call 20; refine (IN.out _).mono ?_; rintro e w5 ⟨rfl, hb5⟩; have H5 : Hid (Below w0.heap.size w0 w5) := below_next H4.out hb5; have HA5 : Hid (At w5 (w.heap.size + 1) #[.int .i64 9, .string s, .int .i64 m, .slice A1 es.length C1] 25) := At.below HA4.out hb5 HA4.out.lt; obtain ⟨b0, b1, b2, b3, bz⟩ := cells4 HA5.out; obtain ⟨f0, f1, f2, f3⟩ := frz4 HA5.out; clear hb5; obtain ⟨z0, z1, z2, z3, zz⟩ := t0.out _ H5.out))
        subst HX0
        clear HR HES HAT HMU HTN IN a0 a1 a2 a3 az hel
        go_loopw [] (fun wr => ∃ (t' : T) (cs' : List Value), Hid (rb2 is t' = R2) ∧ At wr (w.heap.size + 1) cs'.toArray 25 ∧ TIn w t' cs' ∧ Below w0.heap.size w0 wr) (fun wr => muB w (w.heap.size + 1) wr)
        case atStart => exact ⟨_, _, HR2.out, HA5.out.set4 _ _ _ _, HT0.out, below_set4 H5.out (Nat.le_of_eq SZ0.out) _ _ _ _⟩
        case round =>
          rename World => wy
          obtain ⟨t', cs', HR, hat, htn, hbl⟩ := hrel
          have HMU : Hid (muB w (w.heap.size + 1) wy = SizeOf.sizeOf t') := muB_eq htn hat
          have HBL2 : Hid (Below w0.heap.size w0 wy) := hbl
          have HBW2 : Hid (Below w.heap.size w wy) := below_next HW1.out hbl
          have WD2 : Hid (Calls Tryz.prog 21 #[.slice A is.length C, .agg cs'.toArray] wy fun e w'' => e = .returned (wrdV (wrd is t')) ∧ Below wy.heap.size wy w'') := WD.out t' cs' htn wy HBW2.out
          obtain ⟨k, s, m, es⟩ := t'
          obtain ⟨A1, C1, rfl, hes⟩ := htn.inv
          have HES : Hid (TsIn w es A1) := hes
          have HAT : Hid (At wy (w.heap.size + 1) #[.int .i64 k, .string s, .int .i64 m, .slice A1 es.length C1] 25) := hat
          obtain ⟨a0, a1, a2, a3, az⟩ := cells4 (show At wy (w.heap.size + 1) #[.int .i64 k, .string s, .int .i64 m, .slice A1 es.length C1] 25 from hat)
          have IN : Hid (∀ w', Calls Tryz.prog 20 #[.agg #[.int .i64 k, .string s, .int .i64 m, .slice A1 es.length C1]] w' fun e w'' => e = .returned (.bool (decide (10 ≤ k ∧ k ≤ 13 ∧ 0 < es.length))) ∧ Below w'.heap.size w' w'') := rinner_c k s m A1 es.length C1
          clear hat htn hbl hes
          cases hwd : wrd is (.mk k s m es) with
          | none =>
            have HF : Hid (R2 = false) := by rw [← HR.out]; exact rb2_none hwd
            rw [hwd] at WD2
            simp only [wrdV] at WD2
            clear hwd HR
            go_wp2_with (go_at_call 21; refine WD2.out.mono ?_; rintro e w6 ⟨rfl, hb6⟩; have H6 : Hid (Below w.heap.size w w6) := below_next HBW2.out hb6; clear hb6)
            go_ret
            exact ⟨by rw [← HV.out, HF.out]; rfl, H6.out⟩
          | some v =>
            rw [hwd] at WD2
            simp only [wrdV] at WD2
            by_cases ho : 10 ≤ k ∧ k ≤ 13 ∧ 0 < es.length
            · have hpos := ho.2.2
              rw [decide_eq_true ho] at IN
              cases es with
              | nil => exact absurd hpos (by simp)
              | cons e2 es2 =>
                have HR' : Hid (rb2 is e2 = R2) := by rw [← HR.out]; exact (rb2_in hwd ⟨ho.1, ho.2.1⟩).symm
                obtain ⟨b, o, c2, rfl, hrow, htc⟩ := HES.out.2 0 (by simp)
                have HTC : Hid (TIn w e2 c2) := htc
                have HLT : Hid (SizeOf.sizeOf e2 < muB w (w.heap.size + 1) wy) := by rw [HMU.out]; exact T.lt_mk _ s m (e2 :: es2) 0 (by simp)
                have HROW : Hid (∀ w', Below w0.heap.size w0 w' → RowAt w' b (o + 0 * 4) c2) := fun w' hw => hrow.below (below_next HW1.out hw)
                obtain ⟨k2, s2, m2, es3⟩ := e2
                obtain ⟨A2, C2, rfl, _⟩ := htc.inv
                have hpos2 : (0 : Int) < ((T.mk k2 s2 m2 es3 :: es2).length : Int) := by simp only [List.length_cons]; omega
                have CELS : Hid (∀ w', Below w0.heap.size w0 w' → w'.cell? ⟨b, o, none⟩ = some (.int .i64 k2) ∧ w'.cell? ⟨b, o + 1, none⟩ = some (.string s2) ∧ w'.cell? ⟨b, o + 2, none⟩ = some (.int .i64 m2) ∧ w'.cell? ⟨b, o + 3, none⟩ = some (.slice A2 es3.length C2)) := fun w' hw => by have r := (HROW.out w' hw).2; simp only [Nat.zero_mul, Nat.add_zero] at r; exact ⟨r 0 _ rfl, r 1 _ rfl, r 2 _ rfl, r 3 _ rfl⟩
                clear hrow htc HR hwd ho
                go_wp2_with (first
                  | (go_at_call 21; refine WD2.out.mono ?_; rintro e w6 ⟨rfl, hb6⟩; have H6 : Hid (Below w0.heap.size w0 w6) := below_next HBL2.out hb6; have HA6 : Hid (At w6 (w.heap.size + 1) #[.int .i64 k, .string s, .int .i64 m, .slice (some ⟨b, o, none⟩) (T.mk k2 s2 m2 es3 :: es2).length C1] 25) := At.below HAT.out hb6 HAT.out.lt; obtain ⟨q0, q1, q2, q3, qz⟩ := cells4 HA6.out; clear hb6)
                  | (go_at_call 20; refine (IN.out _).mono ?_; rintro e w7 ⟨rfl, hb7⟩; have H7 : Hid (Below w0.heap.size w0 w7) := below_next H6.out hb7; have HA7 : Hid (At w7 (w.heap.size + 1) #[.int .i64 k, .string s, .int .i64 m, .slice (some ⟨b, o, none⟩) (T.mk k2 s2 m2 es3 :: es2).length C1] 25) := At.below HA6.out hb7 HA6.out.lt; obtain ⟨b0, b1, b2, b3, bz⟩ := cells4 HA7.out; obtain ⟨f0, f1, f2, f3⟩ := frz4 HA7.out; obtain ⟨c0, c1, c2, c3⟩ := CELS.out _ H7.out; clear hb7))
                go_roundw
                case rel => exact ⟨.mk k2 s2 m2 es3, _, HR'.out, HA7.out.set4 _ _ _ _, HTC.out, below_set4 H7.out (Nat.le_of_eq SZ0.out) _ _ _ _⟩
                case measure => rw [muB_eq HTC.out (HA7.out.set4 _ _ _ _)]; exact HLT.out
            · rw [decide_eq_false ho] at IN
              have HF : Hid (R2 = true) := by rw [← HR.out]; exact rb2_end hwd ho
              clear HR hwd ho
              go_wp2_with (first
                | (go_at_call 21; refine WD2.out.mono ?_; rintro e w6 ⟨rfl, hb6⟩; have H6 : Hid (Below w0.heap.size w0 w6) := below_next HBL2.out hb6; have HA6 : Hid (At w6 (w.heap.size + 1) #[.int .i64 k, .string s, .int .i64 m, .slice A1 es.length C1] 25) := At.below HAT.out hb6 HAT.out.lt; obtain ⟨q0, q1, q2, q3, qz⟩ := cells4 HA6.out; clear hb6)
                | (go_at_call 20; refine (IN.out _).mono ?_; rintro e w7 ⟨rfl, hb7⟩; have H7 : Hid (Below w0.heap.size w0 w7) := below_next H6.out hb7; clear hb7))
              go_ret
              exact ⟨by rw [← HV.out, HF.out]; rfl, below_next HW1.out H7.out⟩
    · have HX : Hid (R1 = 10) := by rw [← HR.out]; exact rb1_bad (by rw [frm_mk, if_neg (by omega), if_neg (by omega), if_pos (by omega)]) (by decide)
      have g12 : (k == 12) = false := by simp; omega
      have g13 : (k == 13) = false := by simp; omega
      have g9 : (k == 9) = false := by simp; omega
      clear HR
      go_wp2
      go_ret
      exact ⟨by rw [← HV.out, HX.out]; rfl, HBW.out⟩
    · have HX : Hid (R1 = 10) := by rw [← HR.out]; exact rb1_bad (by rw [frm_mk, if_neg (by omega), if_neg (by omega), if_pos (by omega)]) (by decide)
      have g12 : (k == 12) = false := by simp; omega
      have g13 : (k == 13) = false := by simp; omega
      have g9 : (k == 9) = false := by simp; omega
      have g1 : ¬ k < 1 := by omega
      clear HR
      go_wp2
      go_ret
      exact ⟨by rw [← HV.out, HX.out]; rfl, HBW.out⟩
    · have HX0 : R1 = 0 := by rw [← HR.out]; exact rb1_end (by rw [frm_mk, if_neg (by omega), if_neg (by omega), if_neg (by omega)]) (by omega)
      have g12 : (k == 12) = false := by simp; omega
      have g13 : (k == 13) = false := by simp; omega
      have g9 : (k == 9) = false := by simp; omega
      have g1 : ¬ k < 1 := by omega
      have g14 : ¬ 13 < k := by omega
      have g10 : ¬ 10 ≤ k := by omega
      rw [decide_eq_false (by omega)] at IN
      have t0 : Hid (∀ w', Below w0.heap.size w0 w' → _) := fun w' hw => cells4 (AT0.out.below hw AT0.out.lt)
      go_wp2_with (go_at_call 20; refine (IN.out _).mono ?_; rintro e w5 ⟨rfl, hb5⟩; have H5 : Hid (Below w0.heap.size w0 w5) := below_next HBL.out hb5; have HA5 : Hid (At w5 (w.heap.size + 1) #[.int .i64 k, .string s, .int .i64 m, .slice A1 es.length C1] 25) := At.below HAT.out hb5 HAT.out.lt; obtain ⟨b0, b1, b2, b3, bz⟩ := cells4 HA5.out; obtain ⟨f0, f1, f2, f3⟩ := frz4 HA5.out; clear hb5; obtain ⟨z0, z1, z2, z3, zz⟩ := t0.out _ H5.out)
      subst HX0
      clear HR HES HAT HMU HTN IN a0 a1 a2 a3 az hel
      go_loopw [] (fun wr => ∃ (t' : T) (cs' : List Value), Hid (rb2 is t' = R2) ∧ At wr (w.heap.size + 1) cs'.toArray 25 ∧ TIn w t' cs' ∧ Below w0.heap.size w0 wr) (fun wr => muB w (w.heap.size + 1) wr)
      case atStart => exact ⟨_, _, HR2.out, HA5.out.set4 _ _ _ _, HT0.out, below_set4 H5.out (Nat.le_of_eq SZ0.out) _ _ _ _⟩
      case round =>
        rename World => wy
        obtain ⟨t', cs', HR, hat, htn, hbl⟩ := hrel
        have HMU : Hid (muB w (w.heap.size + 1) wy = SizeOf.sizeOf t') := muB_eq htn hat
        have HBL2 : Hid (Below w0.heap.size w0 wy) := hbl
        have HBW2 : Hid (Below w.heap.size w wy) := below_next HW1.out hbl
        have WD2 : Hid (Calls Tryz.prog 21 #[.slice A is.length C, .agg cs'.toArray] wy fun e w'' => e = .returned (wrdV (wrd is t')) ∧ Below wy.heap.size wy w'') := WD.out t' cs' htn wy HBW2.out
        obtain ⟨k, s, m, es⟩ := t'
        obtain ⟨A1, C1, rfl, hes⟩ := htn.inv
        have HES : Hid (TsIn w es A1) := hes
        have HAT : Hid (At wy (w.heap.size + 1) #[.int .i64 k, .string s, .int .i64 m, .slice A1 es.length C1] 25) := hat
        obtain ⟨a0, a1, a2, a3, az⟩ := cells4 (show At wy (w.heap.size + 1) #[.int .i64 k, .string s, .int .i64 m, .slice A1 es.length C1] 25 from hat)
        have IN : Hid (∀ w', Calls Tryz.prog 20 #[.agg #[.int .i64 k, .string s, .int .i64 m, .slice A1 es.length C1]] w' fun e w'' => e = .returned (.bool (decide (10 ≤ k ∧ k ≤ 13 ∧ 0 < es.length))) ∧ Below w'.heap.size w' w'') := rinner_c k s m A1 es.length C1
        clear hat htn hbl hes
        cases hwd : wrd is (.mk k s m es) with
        | none =>
          have HF : Hid (R2 = false) := by rw [← HR.out]; exact rb2_none hwd
          rw [hwd] at WD2
          simp only [wrdV] at WD2
          clear hwd HR
          go_wp2_with (go_at_call 21; refine WD2.out.mono ?_; rintro e w6 ⟨rfl, hb6⟩; have H6 : Hid (Below w.heap.size w w6) := below_next HBW2.out hb6; clear hb6)
          go_ret
          exact ⟨by rw [← HV.out, HF.out]; rfl, H6.out⟩
        | some v =>
          rw [hwd] at WD2
          simp only [wrdV] at WD2
          by_cases ho : 10 ≤ k ∧ k ≤ 13 ∧ 0 < es.length
          · have hpos := ho.2.2
            rw [decide_eq_true ho] at IN
            cases es with
            | nil => exact absurd hpos (by simp)
            | cons e2 es2 =>
              have HR' : Hid (rb2 is e2 = R2) := by rw [← HR.out]; exact (rb2_in hwd ⟨ho.1, ho.2.1⟩).symm
              obtain ⟨b, o, c2, rfl, hrow, htc⟩ := HES.out.2 0 (by simp)
              have HTC : Hid (TIn w e2 c2) := htc
              have HLT : Hid (SizeOf.sizeOf e2 < muB w (w.heap.size + 1) wy) := by rw [HMU.out]; exact T.lt_mk _ s m (e2 :: es2) 0 (by simp)
              have HROW : Hid (∀ w', Below w0.heap.size w0 w' → RowAt w' b (o + 0 * 4) c2) := fun w' hw => hrow.below (below_next HW1.out hw)
              obtain ⟨k2, s2, m2, es3⟩ := e2
              obtain ⟨A2, C2, rfl, _⟩ := htc.inv
              have hpos2 : (0 : Int) < ((T.mk k2 s2 m2 es3 :: es2).length : Int) := by simp only [List.length_cons]; omega
              have CELS : Hid (∀ w', Below w0.heap.size w0 w' → w'.cell? ⟨b, o, none⟩ = some (.int .i64 k2) ∧ w'.cell? ⟨b, o + 1, none⟩ = some (.string s2) ∧ w'.cell? ⟨b, o + 2, none⟩ = some (.int .i64 m2) ∧ w'.cell? ⟨b, o + 3, none⟩ = some (.slice A2 es3.length C2)) := fun w' hw => by have r := (HROW.out w' hw).2; simp only [Nat.zero_mul, Nat.add_zero] at r; exact ⟨r 0 _ rfl, r 1 _ rfl, r 2 _ rfl, r 3 _ rfl⟩
              clear hrow htc HR hwd ho
              go_wp2_with (first
                | (go_at_call 21; refine WD2.out.mono ?_; rintro e w6 ⟨rfl, hb6⟩; have H6 : Hid (Below w0.heap.size w0 w6) := below_next HBL2.out hb6; have HA6 : Hid (At w6 (w.heap.size + 1) #[.int .i64 k, .string s, .int .i64 m, .slice (some ⟨b, o, none⟩) (T.mk k2 s2 m2 es3 :: es2).length C1] 25) := At.below HAT.out hb6 HAT.out.lt; obtain ⟨q0, q1, q2, q3, qz⟩ := cells4 HA6.out; clear hb6)
                | (go_at_call 20; refine (IN.out _).mono ?_; rintro e w7 ⟨rfl, hb7⟩; have H7 : Hid (Below w0.heap.size w0 w7) := below_next H6.out hb7; have HA7 : Hid (At w7 (w.heap.size + 1) #[.int .i64 k, .string s, .int .i64 m, .slice (some ⟨b, o, none⟩) (T.mk k2 s2 m2 es3 :: es2).length C1] 25) := At.below HA6.out hb7 HA6.out.lt; obtain ⟨b0, b1, b2, b3, bz⟩ := cells4 HA7.out; obtain ⟨f0, f1, f2, f3⟩ := frz4 HA7.out; obtain ⟨c0, c1, c2, c3⟩ := CELS.out _ H7.out; clear hb7))
              go_roundw
              case rel => exact ⟨.mk k2 s2 m2 es3, _, HR'.out, HA7.out.set4 _ _ _ _, HTC.out, below_set4 H7.out (Nat.le_of_eq SZ0.out) _ _ _ _⟩
              case measure => rw [muB_eq HTC.out (HA7.out.set4 _ _ _ _)]; exact HLT.out
          · rw [decide_eq_false ho] at IN
            have HF : Hid (R2 = true) := by rw [← HR.out]; exact rb2_end hwd ho
            clear HR hwd ho
            go_wp2_with (first
              | (go_at_call 21; refine WD2.out.mono ?_; rintro e w6 ⟨rfl, hb6⟩; have H6 : Hid (Below w0.heap.size w0 w6) := below_next HBL2.out hb6; have HA6 : Hid (At w6 (w.heap.size + 1) #[.int .i64 k, .string s, .int .i64 m, .slice A1 es.length C1] 25) := At.below HAT.out hb6 HAT.out.lt; obtain ⟨q0, q1, q2, q3, qz⟩ := cells4 HA6.out; clear hb6)
              | (go_at_call 20; refine (IN.out _).mono ?_; rintro e w7 ⟨rfl, hb7⟩; have H7 : Hid (Below w0.heap.size w0 w7) := below_next H6.out hb7; clear hb7))
            go_ret
            exact ⟨by rw [← HV.out, HF.out]; rfl, below_next HW1.out H7.out⟩

end Go.Proofs.YtjdkoahbahecoaaGreatDoor
