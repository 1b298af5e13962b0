/-
  Proved: the document's own look and Known: how much room is left behind a type; whether it is known and small.
-/
import Derived.Test.YtjdkoahbahecoaaGreatDoorPartsA
namespace Go.Proofs.YtjdkoahbahecoaaGreatDoor
open Go.RowKit

/-- The room that is left, as look has it. -/
def rv : Option Nat → Int
  | none => -1
  | some q => (q : Int)

/-- What look answers. -/
def LkA (x : Option Nat) (e : Ending) : Prop := ∃ c, e = .returned (.tuple #[.int .i64 (rv x), .bool c])

set_option maxRecDepth 100000 in
set_option maxHeartbeats 4000000 in
theorem look_none (k : Int) (s : ByteArray) (n : Int) (EA : Option Addr) (el EC l C : Nat) (A : Option Addr) (r : Int) (w : World)
    (PT : Hid (∀ w', Below w.heap.size w w' → Calls Tryz.prog 83 #[.slice A l C, .agg #[.int .i64 k, .string s, .int .i64 n, .slice EA el EC]] w' fun e w'' => PtsA none e w'' ∧ Below w'.heap.size w' w'')) :
    Calls Tryz.prog 60 #[.slice A l C, .agg #[.int .i64 k, .string s, .int .i64 n, .slice EA el EC], .int .i64 r] w fun e w' => LkA none e ∧ Below w.heap.size w w' := by
  have HW1 : Hid (∀ a, Below w.heap.size w (w.alloc a)) := below_alloc w
  go_enter Tryz.func60, Tryz.ntmps60
  go_wp2_with (go_at_call 83; refine (PT.out _ (HW1.out _)).mono ?_; rintro e w1 ⟨⟨A', l', C', rfl⟩, hb1⟩; have B1 : Hid (Below w.heap.size w w1) := below_next (HW1.out _) hb1; clear hb1)
  exact bodyPost_ret (v := .tuple #[.int .i64 (-1), .bool false]) (by simp [results, Tryz.results60, go_sem]) rfl ⟨⟨false, rfl⟩, B1.out⟩

set_option maxRecDepth 100000 in
set_option maxHeartbeats 4000000 in
theorem look_zero (k : Int) (s : ByteArray) (n : Int) (EA : Option Addr) (el EC l C : Nat) (A : Option Addr) (w : World) (ps : List T)
    (PT : Hid (∀ w', Below w.heap.size w w' → Calls Tryz.prog 83 #[.slice A l C, .agg #[.int .i64 k, .string s, .int .i64 n, .slice EA el EC]] w' fun e w'' => PtsA (some ps) e w'' ∧ Below w'.heap.size w' w'')) :
    Calls Tryz.prog 60 #[.slice A l C, .agg #[.int .i64 k, .string s, .int .i64 n, .slice EA el EC], .int .i64 0] w fun e w' => LkA none e ∧ Below w.heap.size w w' := by
  have HW1 : Hid (∀ a, Below w.heap.size w (w.alloc a)) := below_alloc w
  go_enter Tryz.func60, Tryz.ntmps60
  go_wp2_with (go_at_call 83; refine (PT.out _ (HW1.out _)).mono ?_; rintro e w1 ⟨⟨A', C', rfl, _⟩, hb1⟩; have B1 : Hid (Below w.heap.size w w1) := below_next (HW1.out _) hb1; clear hb1)
  exact bodyPost_ret (v := .tuple #[.int .i64 (-1), .bool false]) (by simp [results, Tryz.results60, go_sem]) rfl ⟨⟨false, rfl⟩, B1.out⟩

set_option maxRecDepth 100000 in
set_option maxHeartbeats 8000000 in
theorem look_go (f : T → Nat → Option Am) (k : Int) (s : ByteArray) (n : Int) (EA : Option Addr) (el EC l C : Nat) (A : Option Addr) (r : Nat) (hr : r < 512) (w : World) (ps : List T)
    (PT : Hid (∀ w', Below w.heap.size w w' → Calls Tryz.prog 83 #[.slice A l C, .agg #[.int .i64 k, .string s, .int .i64 n, .slice EA el EC]] w' fun e w'' => PtsA (some ps) e w'' ∧ Below w'.heap.size w' w''))
    (KEY : Hid (∀ (t : T) (q : Nat), q ≤ r → ∀ w' cs', Below w.heap.size w w' → TIn w' t cs' → Calls Tryz.prog 60 #[.slice A l C, .agg cs'.toArray, .int .i64 (q : Int)] w' fun e w'' => LkA ((f t q).map fun o => q - o.p) e ∧ Below w'.heap.size w' w'')) :
    Calls Tryz.prog 60 #[.slice A l C, .agg #[.int .i64 k, .string s, .int .i64 n, .slice EA el EC], .int .i64 ((r + 1 : Nat) : Int)] w fun e w' => LkA (sq f (some r) ps) e ∧ Below w.heap.size w w' := by
  have HW1 : Hid (∀ a, Below w.heap.size w (w.alloc a)) := below_alloc w
  have AT1 : Hid (∀ c w1, Below (w.alloc (.cells c 25)).heap.size (w.alloc (.cells c 25)) w1 → At w1 w.heap.size c 25) := fun c w1 hb => (At.new w c 25).below hb (At.new w c 25).lt
  generalize hR : sq f (some r) ps = R
  have HR : Hid (sq f (some r) (ps.drop 0) = R) := hR
  clear hR
  have hr1 : ¬ ((r : Int) + 1) < 1 := by omega
  have kinds : k = 11 ∨ k = 13 ∨ (¬ k = 11 ∧ ¬ k = 13) := by omega
  go_enter Tryz.func60, Tryz.ntmps60
  rcases kinds with rfl | rfl | ⟨hk1, hk2⟩
  · have hk0 : True := trivial
    go_wp2_with (go_at_call 83; refine (PT.out _ (HW1.out _)).mono ?_; rintro e w1 ⟨⟨A', C', rfl, hts⟩, hb1⟩; have TS : Hid (TsIn w1 ps A') := hts; have hpl := hts.1; have a1 := AT1.out _ _ hb1; have a0 : w1.cell? ⟨w.heap.size, 0, none⟩ = some (.int .i64 11) := (a1.cell 0).trans rfl; have B1 : Hid (Below w.heap.size w w1) := below_next (HW1.out _) hb1; clear hb1 a1 hts)
    go_loopw [2, 10, 11] (fun rm cp iv wr => ∃ (i : Nat) (x : Option Nat) (c : Bool), i ≤ ps.length ∧ iv = .int .i64 (i : Int) ∧ rm = .int .i64 (rv x) ∧ cp = .bool c ∧ Hid (sq f x (ps.drop i) = R) ∧ Hid (∀ q, x = some q → q ≤ r) ∧ Hid (Below w1.heap.size w1 wr)) (fun _ _ iv _ => ps.length - (intOf iv).toNat)
    case atStart => exact ⟨0, some r, false, Nat.zero_le _, rfl, by simp [rv], rfl, HR.out, fun q h => by cases h; exact Nat.le_refl _, Below.refl _ _⟩
    case round =>
      obtain ⟨i, x, c, hi, rfl, rfl, rfl, HX, HQ, HB⟩ := hrel
      have HBW : Hid (Below w.heap.size w wr) := below_next B1.out HB.out
      by_cases hlt : i < ps.length
      · have hlt' : (i : Int) < (ps.length : Int) := by omega
        cases x with
        | none =>
          have HRN : Hid (R = none) := by have h := HX.out; rw [sq_none] at h; exact h.symm
          simp only [rv]
          cases c <;> (go_wp2; exact bodyPost_ret (v := .tuple #[.int .i64 (-1), .bool false]) (by simp [results, Tryz.results60, go_sem]) rfl ⟨by rw [HRN.out]; exact ⟨false, rfl⟩, HBW.out⟩)
        | some q =>
          obtain ⟨b, o, cs1, rfl, hrow, ht1⟩ := (TS.out.below HB.out).2 i hlt
          have hq := HQ.out q rfl
          have key := KEY.out (ps[i]'hlt) q hq wr cs1 HBW.out ht1
          have hnx := HX.out
          rw [List.drop_eq_getElem_cons hlt, sq] at hnx
          have hq2 : ∀ q', ((f (ps[i]'hlt) q).map fun o => q - o.p) = some q' → q' ≤ r := fun q' h => by
            obtain ⟨o', _, rfl⟩ := Option.map_eq_some_iff.1 h
            omega
          generalize ((f (ps[i]'hlt) q).map fun o => q - o.p) = x' at key hnx hq2
          have HX2 : Hid (sq f x' (ps.drop (i + 1)) = R) := hnx
          have HQ2 : Hid (∀ q', x' = some q' → q' ≤ r) := hq2
          have K : Hid (Calls Tryz.prog 60 #[.slice A l C, .agg cs1.toArray, .int .i64 (q : Int)] wr fun e w'' => LkA x' e ∧ Below wr.heap.size wr w'') := key
          generalize ps[i] = t1 at ht1
          obtain ⟨tk, tn, tm, tes⟩ := t1
          obtain ⟨TA, TC, rfl, _⟩ := ht1.inv
          have d0 := hrow.2 0 _ rfl
          have d1 := hrow.2 1 _ rfl
          have d2 := hrow.2 2 _ rfl
          have d3 := hrow.2 3 _ rfl
          simp only [Nat.add_zero] at d0
          have hbz := hrow.1
          simp only [rv]
          clear key hnx hq2 ht1 hrow
          cases c
          · go_wp2_with (go_at_call 60; refine (K.out).mono ?_; rintro e w2 ⟨⟨c2, rfl⟩, hb2⟩; have B2 : Hid (Below wr.heap.size wr w2) := hb2; clear hb2)
            go_roundw
            case rel => exact ⟨i + 1, x', false, by omega, by go_num, rfl, rfl, HX2.out, HQ2.out, below_next HB.out B2.out⟩
            case measure => simp [intOf]; omega
          · go_wp2_with (go_at_call 60; refine (K.out).mono ?_; rintro e w2 ⟨⟨c2, rfl⟩, hb2⟩; have B2 : Hid (Below wr.heap.size wr w2) := hb2; clear hb2)
            go_roundw
            case rel => exact ⟨i + 1, x', c2, by omega, by go_num, rfl, rfl, HX2.out, HQ2.out, below_next HB.out B2.out⟩
            case measure => simp [intOf]; omega
      · have hie : ps.length = i := by omega
        have hR : R = x := by have h := HX.out; rw [List.drop_eq_nil_of_le (by omega), sq_nil] at h; exact h.symm
        have HRX : Hid (R = x) := hR
        clear hR HX
        subst hie
        cases x with
        | none =>
          simp only [rv]
          cases c <;> (go_wp2; exact bodyPost_ret (v := .tuple #[.int .i64 (-1), .bool false]) (by simp [results, Tryz.results60, go_sem]) rfl ⟨by rw [HRX.out]; exact ⟨false, rfl⟩, HBW.out⟩)
        | some q =>
          simp only [rv]
          cases c
          · go_wp2; exact bodyPost_ret (v := .tuple #[.int .i64 (q : Int), .bool false]) (by simp [results, Tryz.results60, go_sem]) rfl ⟨by rw [HRX.out]; exact ⟨false, rfl⟩, HBW.out⟩
          · go_wp2; exact bodyPost_ret (v := .tuple #[.int .i64 (q : Int), .bool true]) (by simp [results, Tryz.results60, go_sem]) rfl ⟨by rw [HRX.out]; exact ⟨true, rfl⟩, HBW.out⟩
  · have hk0 : True := trivial
    go_wp2_with (go_at_call 83; refine (PT.out _ (HW1.out _)).mono ?_; rintro e w1 ⟨⟨A', C', rfl, hts⟩, hb1⟩; have TS : Hid (TsIn w1 ps A') := hts; have hpl := hts.1; have a1 := AT1.out _ _ hb1; have a0 : w1.cell? ⟨w.heap.size, 0, none⟩ = some (.int .i64 13) := (a1.cell 0).trans rfl; have B1 : Hid (Below w.heap.size w w1) := below_next (HW1.out _) hb1; clear hb1 a1 hts)
    go_loopw [2, 10, 11] (fun rm cp iv wr => ∃ (i : Nat) (x : Option Nat) (c : Bool), i ≤ ps.length ∧ iv = .int .i64 (i : Int) ∧ rm = .int .i64 (rv x) ∧ cp = .bool c ∧ Hid (sq f x (ps.drop i) = R) ∧ Hid (∀ q, x = some q → q ≤ r) ∧ Hid (Below w1.heap.size w1 wr)) (fun _ _ iv _ => ps.length - (intOf iv).toNat)
    case atStart => exact ⟨0, some r, false, Nat.zero_le _, rfl, by simp [rv], rfl, HR.out, fun q h => by cases h; exact Nat.le_refl _, Below.refl _ _⟩
    case round =>
      obtain ⟨i, x, c, hi, rfl, rfl, rfl, HX, HQ, HB⟩ := hrel
      have HBW : Hid (Below w.heap.size w wr) := below_next B1.out HB.out
      by_cases hlt : i < ps.length
      · have hlt' : (i : Int) < (ps.length : Int) := by omega
        cases x with
        | none =>
          have HRN : Hid (R = none) := by have h := HX.out; rw [sq_none] at h; exact h.symm
          simp only [rv]
          cases c <;> (go_wp2; exact bodyPost_ret (v := .tuple #[.int .i64 (-1), .bool false]) (by simp [results, Tryz.results60, go_sem]) rfl ⟨by rw [HRN.out]; exact ⟨false, rfl⟩, HBW.out⟩)
        | some q =>
          obtain ⟨b, o, cs1, rfl, hrow, ht1⟩ := (TS.out.below HB.out).2 i hlt
          have hq := HQ.out q rfl
          have key := KEY.out (ps[i]'hlt) q hq wr cs1 HBW.out ht1
          have hnx := HX.out
          rw [List.drop_eq_getElem_cons hlt, sq] at hnx
          have hq2 : ∀ q', ((f (ps[i]'hlt) q).map fun o => q - o.p) = some q' → q' ≤ r := fun q' h => by
            obtain ⟨o', _, rfl⟩ := Option.map_eq_some_iff.1 h
            omega
          generalize ((f (ps[i]'hlt) q).map fun o => q - o.p) = x' at key hnx hq2
          have HX2 : Hid (sq f x' (ps.drop (i + 1)) = R) := hnx
          have HQ2 : Hid (∀ q', x' = some q' → q' ≤ r) := hq2
          have K : Hid (Calls Tryz.prog 60 #[.slice A l C, .agg cs1.toArray, .int .i64 (q : Int)] wr fun e w'' => LkA x' e ∧ Below wr.heap.size wr w'') := key
          generalize ps[i] = t1 at ht1
          obtain ⟨tk, tn, tm, tes⟩ := t1
          obtain ⟨TA, TC, rfl, _⟩ := ht1.inv
          have d0 := hrow.2 0 _ rfl
          have d1 := hrow.2 1 _ rfl
          have d2 := hrow.2 2 _ rfl
          have d3 := hrow.2 3 _ rfl
          simp only [Nat.add_zero] at d0
          have hbz := hrow.1
          simp only [rv]
          clear key hnx hq2 ht1 hrow
          cases c
          · go_wp2_with (go_at_call 60; refine (K.out).mono ?_; rintro e w2 ⟨⟨c2, rfl⟩, hb2⟩; have B2 : Hid (Below wr.heap.size wr w2) := hb2; clear hb2)
            go_roundw
            case rel => exact ⟨i + 1, x', false, by omega, by go_num, rfl, rfl, HX2.out, HQ2.out, below_next HB.out B2.out⟩
            case measure => simp [intOf]; omega
          · go_wp2_with (go_at_call 60; refine (K.out).mono ?_; rintro e w2 ⟨⟨c2, rfl⟩, hb2⟩; have B2 : Hid (Below wr.heap.size wr w2) := hb2; clear hb2)
            go_roundw
            case rel => exact ⟨i + 1, x', c2, by omega, by go_num, rfl, rfl, HX2.out, HQ2.out, below_next HB.out B2.out⟩
            case measure => simp [intOf]; omega
      · have hie : ps.length = i := by omega
        have hR : R = x := by have h := HX.out; rw [List.drop_eq_nil_of_le (by omega), sq_nil] at h; exact h.symm
        have HRX : Hid (R = x) := hR
        clear hR HX
        subst hie
        cases x with
        | none =>
          simp only [rv]
          cases c <;> (go_wp2; exact bodyPost_ret (v := .tuple #[.int .i64 (-1), .bool false]) (by simp [results, Tryz.results60, go_sem]) rfl ⟨by rw [HRX.out]; exact ⟨false, rfl⟩, HBW.out⟩)
        | some q =>
          simp only [rv]
          cases c
          · go_wp2; exact bodyPost_ret (v := .tuple #[.int .i64 (q : Int), .bool false]) (by simp [results, Tryz.results60, go_sem]) rfl ⟨by rw [HRX.out]; exact ⟨false, rfl⟩, HBW.out⟩
          · go_wp2; exact bodyPost_ret (v := .tuple #[.int .i64 (q : Int), .bool true]) (by simp [results, Tryz.results60, go_sem]) rfl ⟨by rw [HRX.out]; exact ⟨true, rfl⟩, HBW.out⟩
  · have hk3 : (k == 11) = false := by simpa using hk1
    have hk4 : (k == 13) = false := by simpa using hk2
    go_wp2_with (go_at_call 83; refine (PT.out _ (HW1.out _)).mono ?_; rintro e w1 ⟨⟨A', C', rfl, hts⟩, hb1⟩; have TS : Hid (TsIn w1 ps A') := hts; have hpl := hts.1; have a1 := AT1.out _ _ hb1; have a0 : w1.cell? ⟨w.heap.size, 0, none⟩ = some (.int .i64 k) := (a1.cell 0).trans rfl; have B1 : Hid (Below w.heap.size w w1) := below_next (HW1.out _) hb1; clear hb1 a1 hts)
    go_loopw [2, 10, 11] (fun rm cp iv wr => ∃ (i : Nat) (x : Option Nat) (c : Bool), i ≤ ps.length ∧ iv = .int .i64 (i : Int) ∧ rm = .int .i64 (rv x) ∧ cp = .bool c ∧ Hid (sq f x (ps.drop i) = R) ∧ Hid (∀ q, x = some q → q ≤ r) ∧ Hid (Below w1.heap.size w1 wr)) (fun _ _ iv _ => ps.length - (intOf iv).toNat)
    case atStart => exact ⟨0, some r, _, Nat.zero_le _, rfl, by simp [rv], rfl, HR.out, fun q h => by cases h; exact Nat.le_refl _, Below.refl _ _⟩
    case round =>
      obtain ⟨i, x, c, hi, rfl, rfl, rfl, HX, HQ, HB⟩ := hrel
      have HBW : Hid (Below w.heap.size w wr) := below_next B1.out HB.out
      by_cases hlt : i < ps.length
      · have hlt' : (i : Int) < (ps.length : Int) := by omega
        cases x with
        | none =>
          have HRN : Hid (R = none) := by have h := HX.out; rw [sq_none] at h; exact h.symm
          simp only [rv]
          cases c <;> (go_wp2; exact bodyPost_ret (v := .tuple #[.int .i64 (-1), .bool false]) (by simp [results, Tryz.results60, go_sem]) rfl ⟨by rw [HRN.out]; exact ⟨false, rfl⟩, HBW.out⟩)
        | some q =>
          obtain ⟨b, o, cs1, rfl, hrow, ht1⟩ := (TS.out.below HB.out).2 i hlt
          have hq := HQ.out q rfl
          have key := KEY.out (ps[i]'hlt) q hq wr cs1 HBW.out ht1
          have hnx := HX.out
          rw [List.drop_eq_getElem_cons hlt, sq] at hnx
          have hq2 : ∀ q', ((f (ps[i]'hlt) q).map fun o => q - o.p) = some q' → q' ≤ r := fun q' h => by
            obtain ⟨o', _, rfl⟩ := Option.map_eq_some_iff.1 h
            omega
          generalize ((f (ps[i]'hlt) q).map fun o => q - o.p) = x' at key hnx hq2
          have HX2 : Hid (sq f x' (ps.drop (i + 1)) = R) := hnx
          have HQ2 : Hid (∀ q', x' = some q' → q' ≤ r) := hq2
          have K : Hid (Calls Tryz.prog 60 #[.slice A l C, .agg cs1.toArray, .int .i64 (q : Int)] wr fun e w'' => LkA x' e ∧ Below wr.heap.size wr w'') := key
          generalize ps[i] = t1 at ht1
          obtain ⟨tk, tn, tm, tes⟩ := t1
          obtain ⟨TA, TC, rfl, _⟩ := ht1.inv
          have d0 := hrow.2 0 _ rfl
          have d1 := hrow.2 1 _ rfl
          have d2 := hrow.2 2 _ rfl
          have d3 := hrow.2 3 _ rfl
          simp only [Nat.add_zero] at d0
          have hbz := hrow.1
          simp only [rv]
          clear key hnx hq2 ht1 hrow
          cases c
          · go_wp2_with (go_at_call 60; refine (K.out).mono ?_; rintro e w2 ⟨⟨c2, rfl⟩, hb2⟩; have B2 : Hid (Below wr.heap.size wr w2) := hb2; clear hb2)
            go_roundw
            case rel => exact ⟨i + 1, x', false, by omega, by go_num, rfl, rfl, HX2.out, HQ2.out, below_next HB.out B2.out⟩
            case measure => simp [intOf]; omega
          · go_wp2_with (go_at_call 60; refine (K.out).mono ?_; rintro e w2 ⟨⟨c2, rfl⟩, hb2⟩; have B2 : Hid (Below wr.heap.size wr w2) := hb2; clear hb2)
            go_roundw
            case rel => exact ⟨i + 1, x', c2, by omega, by go_num, rfl, rfl, HX2.out, HQ2.out, below_next HB.out B2.out⟩
            case measure => simp [intOf]; omega
      · have hie : ps.length = i := by omega
        have hR : R = x := by have h := HX.out; rw [List.drop_eq_nil_of_le (by omega), sq_nil] at h; exact h.symm
        have HRX : Hid (R = x) := hR
        clear hR HX
        subst hie
        cases x with
        | none =>
          simp only [rv]
          cases c <;> (go_wp2; exact bodyPost_ret (v := .tuple #[.int .i64 (-1), .bool false]) (by simp [results, Tryz.results60, go_sem]) rfl ⟨by rw [HRX.out]; exact ⟨false, rfl⟩, HBW.out⟩)
        | some q =>
          simp only [rv]
          cases c
          · go_wp2; exact bodyPost_ret (v := .tuple #[.int .i64 (q : Int), .bool false]) (by simp [results, Tryz.results60, go_sem]) rfl ⟨by rw [HRX.out]; exact ⟨false, rfl⟩, HBW.out⟩
          · go_wp2; exact bodyPost_ret (v := .tuple #[.int .i64 (q : Int), .bool true]) (by simp [results, Tryz.results60, go_sem]) rfl ⟨by rw [HRX.out]; exact ⟨true, rfl⟩, HBW.out⟩

theorem look_c (is : List It) (hfew : Few is) : ∀ (N : Nat), N ≤ 512 → ∀ (t : T) (r : Nat), r ≤ N → ∀ (A : Option Addr) (C : Nat) (w : World) (cs : List Value), IsIn w is A → TIn w t cs →
    Calls Tryz.prog 60 #[.slice A is.length C, .agg cs.toArray, .int .i64 (r : Int)] w fun e w' => LkA ((am is N t r).map fun o => r - o.p) e ∧ Below w.heap.size w w' := by
  have zero : ∀ (t : T) (A : Option Addr) (C : Nat) (w : World) (cs : List Value), IsIn w is A → TIn w t cs →
      Calls Tryz.prog 60 #[.slice A is.length C, .agg cs.toArray, .int .i64 0] w fun e w' => LkA none e ∧ Below w.heap.size w w' := fun t A C w cs hi ht => by
    have PT : ∀ w', Below w.heap.size w w' → Calls Tryz.prog 83 #[.slice A is.length C, .agg cs.toArray] w' fun e w'' => PtsA (pts is t) e w'' ∧ Below w'.heap.size w' w'' := fun w' hw => parts_c is hfew t cs A C w' (hi.below hw) (ht.stays hw)
    obtain ⟨k, s, n, es⟩ := t
    obtain ⟨EA, EC, rfl, _⟩ := ht.inv
    cases hp : pts is (.mk k s n es) with
    | none => rw [hp] at PT; exact look_none k s n EA _ EC _ C A 0 w PT
    | some ps => rw [hp] at PT; exact look_zero k s n EA _ EC _ C A w ps PT
  intro N
  induction N with
  | zero =>
    intro _ t r hr A C w cs hi ht
    obtain rfl : r = 0 := by omega
    have : am is 0 t 0 = none := by cases t; rfl
    rw [this]
    exact zero t A C w cs hi ht
  | succ N ih =>
    intro hN t r hr A C w cs hi ht
    rw [am_pts is N (by omega) t r hr]
    cases r with
    | zero => rw [if_pos (by decide)]; exact zero t A C w cs hi ht
    | succ r =>
      rw [if_neg (by omega), Nat.add_sub_cancel]
      have PT : ∀ w', Below w.heap.size w w' → Calls Tryz.prog 83 #[.slice A is.length C, .agg cs.toArray] w' fun e w'' => PtsA (pts is t) e w'' ∧ Below w'.heap.size w' w'' := fun w' hw => parts_c is hfew t cs A C w' (hi.below hw) (ht.stays hw)
      obtain ⟨k, s, n, es⟩ := t
      obtain ⟨EA, EC, rfl, _⟩ := ht.inv
      cases hp : pts is (.mk k s n es) with
      | none => rw [hp] at PT; exact look_none k s n EA _ EC _ C A _ w PT
      | some ps =>
        rw [hp] at PT
        exact look_go (am is N) k s n EA _ EC _ C A r (by omega) w ps PT (fun t' q hq w' cs' hw ht' => ih (by omega) t' q (by omega) A C w' cs' (hi.below hw) ht')

set_option maxRecDepth 100000 in
set_option maxHeartbeats 4000000 in
theorem known_walk (k : Int) (s : ByteArray) (n : Int) (EA : Option Addr) (el EC l C : Nat) (A : Option Addr) (w : World) (x : Option Nat)
    (LK : Hid (∀ w', Below w.heap.size w w' → Calls Tryz.prog 60 #[.slice A l C, .agg #[.int .i64 k, .string s, .int .i64 n, .slice EA el EC], .int .i64 512] w' fun e w'' => LkA x e ∧ Below w'.heap.size w' w'')) :
    Calls Tryz.prog 44 #[.slice A l C, .agg #[.int .i64 k, .string s, .int .i64 n, .slice EA el EC]] w fun e w' => e = .returned (.bool x.isSome) ∧ Below w.heap.size w w' := by
  have HW1 : Hid (∀ a, Below w.heap.size w (w.alloc a)) := below_alloc w
  go_enter Tryz.func44, Tryz.ntmps44
  cases x with
  | none =>
    go_wp2_with (go_at_call 60; refine (LK.out _ (HW1.out _)).mono ?_; rintro e w1 ⟨⟨c, rfl⟩, hb1⟩; simp only [rv]; have B1 : Hid (Below w.heap.size w w1) := below_next (HW1.out _) hb1; clear hb1)
    go_ret
    exact ⟨rfl, B1.out⟩
  | some q =>
    go_wp2_with (go_at_call 60; refine (LK.out _ (HW1.out _)).mono ?_; rintro e w1 ⟨⟨c, rfl⟩, hb1⟩; simp only [rv]; have B1 : Hid (Below w.heap.size w w1) := below_next (HW1.out _) hb1; clear hb1)
    go_ret
    exact ⟨rfl, B1.out⟩

/-- Known: a type has at most 512 parts. -/
theorem known_c (is : List It) (hfew : Few is) (t : T) (cs : List Value) (A : Option Addr) (C : Nat) (w : World) (hi : IsIn w is A) (ht : TIn w t cs) :
    Calls Tryz.prog 44 #[.slice A is.length C, .agg cs.toArray] w fun e w' => e = .returned (.bool (amt is t).isSome) ∧ Below w.heap.size w w' := by
  have LK : ∀ w', Below w.heap.size w w' → Calls Tryz.prog 60 #[.slice A is.length C, .agg cs.toArray, .int .i64 512] w' fun e w'' => LkA ((am is 512 t 512).map fun o => 512 - o.p) e ∧ Below w'.heap.size w' w'' := fun w' hw => look_c is hfew 512 (Nat.le_refl _) t 512 (Nat.le_refl _) A C w' cs (hi.below hw) (ht.stays hw)
  obtain ⟨k, s, n, es⟩ := t
  obtain ⟨EA, EC, rfl, _⟩ := ht.inv
  have := known_walk k s n EA _ EC _ C A w _ LK
  rw [Option.isSome_map] at this
  exact this


end Go.Proofs.YtjdkoahbahecoaaGreatDoor
