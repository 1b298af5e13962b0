/-
  Proved: the document's own parts tells the own parts of every type.
-/
import Derived.Test.YtjdkoahbahecoaaGreatDoorPartsE
namespace Go.Proofs.YtjdkoahbahecoaaGreatDoor
open Go.RowKit

set_option maxRecDepth 100000 in
set_option maxHeartbeats 4000000 in
theorem parts_low (k : Int) (s : ByteArray) (n : Int) (EA : Option Addr) (el EC l C : Nat) (A : Option Addr) (w : World) (h1 : 1 ≤ k) (h8 : k ≤ 8) :
    Calls Tryz.prog 83 #[.slice A l C, .agg #[.int .i64 k, .string s, .int .i64 n, .slice EA el EC]] w fun e w' => PtsA (some []) e w' ∧ Below w.heap.size w w' := by
  have HW1 : Hid (∀ a, Below w.heap.size w (w.alloc a)) := below_alloc w
  go_enter Tryz.func83, Tryz.ntmps83
  go_wp2
  exact bodyPost_ret (v := .tuple #[.slice none 0 0, .bool true]) (by simp [results, Tryz.results83, go_sem]) rfl ⟨⟨none, 0, rfl, by simp, fun i hi => absurd hi (Nat.not_lt_zero _)⟩, HW1.out _⟩

set_option maxRecDepth 100000 in
set_option maxHeartbeats 4000000 in
theorem parts_none (is : List It) (s : ByteArray) (n : Int) (EA : Option Addr) (el EC C : Nat) (A : Option Addr) (w : World) (hi : IsIn w is A) (hf : fst s is 0 = none) :
    Calls Tryz.prog 83 #[.slice A is.length C, .agg #[.int .i64 9, .string s, .int .i64 n, .slice EA el EC]] w fun e w' => PtsA none e w' ∧ Below w.heap.size w w' := by
  have HW1 : Hid (∀ a, Below w.heap.size w (w.alloc a)) := below_alloc w
  have RI : Hid (∀ w', Below w.heap.size w w' → Calls Tryz.prog 19 #[.slice A is.length C, .string s] w' fun e w'' => e = .returned (.int .i64 (-1)) ∧ Below w'.heap.size w' w'') := fun w' hw => by
    have := ritem_c is s A C w' (hi.below hw)
    rw [hf] at this
    exact this
  clear hi hf
  go_enter Tryz.func83, Tryz.ntmps83
  go_wp2_with (go_at_call 19; refine (RI.out _ (HW1.out _)).mono ?_; rintro e w1 ⟨rfl, hb1⟩; have B1 : Hid (Below w.heap.size w w1) := below_next (HW1.out _) hb1; clear hb1)
  exact bodyPost_ret (v := .tuple #[.slice none 0 0, .bool false]) (by simp [results, Tryz.results83, go_sem]) rfl ⟨⟨none, 0, 0, rfl⟩, B1.out⟩

/-- A kind that has no elements' types, or none that is known. -/
theorem parts_bad (k : Int) (s : ByteArray) (n : Int) (EA : Option Addr) (el EC l C : Nat) (A : Option Addr) (w : World) (h : k < 1 ∨ 13 < k ∨ (10 ≤ k ∧ k ≤ 13 ∧ el = 0)) :
    Calls Tryz.prog 83 #[.slice A l C, .agg #[.int .i64 k, .string s, .int .i64 n, .slice EA el EC]] w fun e w' => PtsA none e w' ∧ Below w.heap.size w w' := by
  have HW1 : Hid (∀ a, Below w.heap.size w (w.alloc a)) := below_alloc w
  have h9 : ¬ k = 9 := by omega
  have h9b : (k == 9) = false := by simpa using h9
  rcases h with h | h | ⟨h, h13, rfl⟩
  · have h1 : ¬ 1 ≤ k := by omega
    have h10 : k < 10 := by omega
    go_enter Tryz.func83, Tryz.ntmps83
    go_wp2
    exact bodyPost_ret (v := .tuple #[.slice none 0 0, .bool false]) (by simp [results, Tryz.results83, go_sem]) rfl ⟨⟨none, 0, 0, rfl⟩, HW1.out _⟩
  · have h1 : 1 ≤ k := by omega
    have h8 : ¬ k ≤ 8 := by omega
    have h10 : ¬ k < 10 := by omega
    go_enter Tryz.func83, Tryz.ntmps83
    go_wp2
    exact bodyPost_ret (v := .tuple #[.slice none 0 0, .bool false]) (by simp [results, Tryz.results83, go_sem]) rfl ⟨⟨none, 0, 0, rfl⟩, HW1.out _⟩
  · have h1 : 1 ≤ k := by omega
    have h8 : ¬ k ≤ 8 := by omega
    have h10 : ¬ k < 10 := by omega
    have h14 : ¬ 13 < k := by omega
    go_enter Tryz.func83, Tryz.ntmps83
    go_wp2
    exact bodyPost_ret (v := .tuple #[.slice none 0 0, .bool false]) (by simp [results, Tryz.results83, go_sem]) rfl ⟨⟨none, 0, 0, rfl⟩, HW1.out _⟩

/-- The box's cells. -/
theorem box_cells {w wr : World} {k : Int} {s : ByteArray} {n : Int} {EA : Option Addr} {el EC : Nat} (h : Below (w.alloc (.cells #[.int .i64 k, .string s, .int .i64 n, .slice EA el EC] 25)).heap.size (w.alloc (.cells #[.int .i64 k, .string s, .int .i64 n, .slice EA el EC] 25)) wr) :
    wr.cell? ⟨w.heap.size, 0, none⟩ = some (.int .i64 k) ∧ wr.cell? ⟨w.heap.size, 2, none⟩ = some (.int .i64 n) ∧ wr.cell? ⟨w.heap.size, 3, none⟩ = some (.slice EA el EC) := by
  have a := (At.new w #[.int .i64 k, .string s, .int .i64 n, .slice EA el EC] 25).below h (At.new w _ 25).lt
  exact ⟨(a.cell 0).trans rfl, (a.cell 2).trans rfl, (a.cell 3).trans rfl⟩

set_option maxRecDepth 100000 in
set_option maxHeartbeats 4000000 in
theorem parts_ref (k : Int) (s : ByteArray) (n : Int) (EA : Option Addr) (el EC l C : Nat) (A : Option Addr) (w : World) (hk : 11 ≤ k ∧ k ≤ 13) (hel : 0 < el) :
    Calls Tryz.prog 83 #[.slice A l C, .agg #[.int .i64 k, .string s, .int .i64 n, .slice EA el EC]] w fun e w' => PtsA (some []) e w' ∧ Below w.heap.size w w' := by
  have HW1 : Hid (∀ a, Below w.heap.size w (w.alloc a)) := below_alloc w
  have h9 : ¬ k = 9 := by omega
  have h9b : (k == 9) = false := by simpa using h9
  have hA : ¬ k = 10 := by omega
  have hAb : (k == 10) = false := by simpa using hA
  have h1 : 1 ≤ k := by omega
  have h8 : ¬ k ≤ 8 := by omega
  have h10 : ¬ k < 10 := by omega
  have h14 : ¬ 13 < k := by omega
  have e1 : ¬ el = 0 := by omega
  have e2 : ¬ (el : Int) = 0 := by omega
  have e3 : ((el : Int) == 0) = false := by simpa using e2
  go_enter Tryz.func83, Tryz.ntmps83
  go_wp2
  go_loopw [10, 11] (fun v iv wr => v = .slice none 0 0 ∧ iv = .int .i64 0 ∧ Hid (Below (w.alloc (.cells #[.int .i64 k, .string s, .int .i64 n, .slice EA el EC] 25)).heap.size (w.alloc (.cells #[.int .i64 k, .string s, .int .i64 n, .slice EA el EC] 25)) wr)) (fun _ _ _ => 0)
  case atStart => exact ⟨rfl, rfl, Below.refl _ _⟩
  case round =>
    obtain ⟨rfl, rfl, HB⟩ := hrel
    obtain ⟨b0, b2, b3⟩ := box_cells HB.out
    have hz : w.heap.size < wr.heap.size := Nat.lt_of_lt_of_le (by simp) HB.out.size
    by_cases hn : 0 < n
    · go_wp2
      exact bodyPost_ret (v := .tuple #[.slice none 0 0, .bool true]) (by simp [results, Tryz.results83, go_sem]) rfl ⟨⟨none, 0, rfl, by simp, fun i hi => absurd hi (Nat.not_lt_zero _)⟩, below_next (HW1.out _) HB.out⟩
    · go_wp2
      exact bodyPost_ret (v := .tuple #[.slice none 0 0, .bool true]) (by simp [results, Tryz.results83, go_sem]) rfl ⟨⟨none, 0, rfl, by simp, fun i hi => absurd hi (Nat.not_lt_zero _)⟩, below_next (HW1.out _) HB.out⟩

set_option maxRecDepth 100000 in
set_option maxHeartbeats 4000000 in
theorem parts_arr (s : ByteArray) (n : Int) (b o el EC l C : Nat) (A : Option Addr) (w : World) (e : T) (cs : List Value) (hrow : RowAt w b o cs) (ht : TIn w e cs) (hel : 0 < el) :
    Calls Tryz.prog 83 #[.slice A l C, .agg #[.int .i64 10, .string s, .int .i64 n, .slice (some ⟨b, o, none⟩) el EC]] w fun e' w' => PtsA (some (List.replicate (min n.toNat 512) e)) e' w' ∧ Below w.heap.size w w' := by
  obtain ⟨tk, tn, tm, tes⟩ := e
  have HT0 : Hid (TIn w (.mk tk tn tm tes) cs) := ht
  have HR : Hid (RowAt w b o cs) := hrow
  obtain ⟨TA, TC, rfl, _⟩ := ht.inv
  have e1 : ¬ el = 0 := by omega
  have e2 : ¬ (el : Int) = 0 := by omega
  have e3 : ((el : Int) == 0) = false := by simpa using e2
  have e4 : (0 : Int) < (el : Int) := by omega
  obtain ⟨w0, hw0⟩ : ∃ w0, w0 = w.alloc (.cells #[.int .i64 10, .string s, .int .i64 n, .slice (some ⟨b, o, none⟩) el EC] 25) := ⟨_, rfl⟩
  have W0 : Hid (Below w.heap.size w w0) := by rw [hw0]; exact below_alloc w _
  have BX : Hid (∀ wr, Below w0.heap.size w0 wr → (wr.cell? ⟨w.heap.size, 0, none⟩ = some (.int .i64 10) ∧ wr.cell? ⟨w.heap.size, 2, none⟩ = some (.int .i64 n) ∧ wr.cell? ⟨w.heap.size, 3, none⟩ = some (.slice (some ⟨b, o, none⟩) el EC)) ∧ w.heap.size < wr.heap.size) := fun wr h => by
    subst hw0
    exact ⟨box_cells h, Nat.lt_of_lt_of_le (by simp) h.size⟩
  have ST : Hid (LP w0 [] (.slice none 0 0) (w.alloc (.cells #[.int .i64 10, .string s, .int .i64 n, .slice (some ⟨b, o, none⟩) el EC] 25))) := by rw [← hw0]; exact LP.start (Below.refl _ _)
  have HT : Hid (TIn w0 (.mk tk tn tm tes) [.int .i64 tk, .string tn, .int .i64 tm, .slice TA tes.length TC]) := HT0.out.stays W0.out
  clear hw0 hrow ht HT0
  go_enter Tryz.func83, Tryz.ntmps83
  go_wp2
  go_loopw [10, 11] (fun v iv wr => ∃ k : Nat, k ≤ min n.toNat 512 ∧ iv = .int .i64 (k : Int) ∧ Hid (LP w0 (List.replicate k (.mk tk tn tm tes)) v wr)) (fun _ iv _ => min n.toNat 512 - (intOf iv).toNat)
  case atStart => exact ⟨0, Nat.zero_le _, rfl, ST.out⟩
  case round =>
    obtain ⟨k, hk, rfl, HL⟩ := hrel
    obtain ⟨⟨b0, b2, b3⟩, hz⟩ := BX.out wr HL.out.1
    have HBW : Hid (Below w.heap.size w wr) := below_next W0.out HL.out.1
    by_cases hlt : k < min n.toNat 512
    · have h1 : (k : Int) < n := by omega
      have h2 : (k : Int) < 512 := by omega
      have hr := HR.out.below HBW.out
      have d0 := hr.2 0 _ rfl
      have d1 := hr.2 1 _ rfl
      have d2 := hr.2 2 _ rfl
      have d3 := hr.2 3 _ rfl
      simp only [Nat.add_zero] at d0
      have hbz := hr.1
      have HTS : Hid (List.replicate (k + 1) (T.mk tk tn tm tes) = List.replicate k (T.mk tk tn tm tes) ++ [.mk tk tn tm tes]) := List.replicate_succ'
      have HLEN : Hid ((List.replicate k (T.mk tk tn tm tes)).length + ([.mk tk tn tm tes] : List T).length ≤ 1000) := by show (List.replicate k (T.mk tk tn tm tes)).length + 1 ≤ 1000; rw [List.length_replicate]; omega
      clear hr
      go_wp2_with (at_builtin; refine append_ts _ rfl _ _ rfl _ rfl w0 _ [.mk tk tn tm tes] (HL.out.below (below_alloc _ _)) (some ⟨wr.heap.size, 0, none⟩) 1 _ (C4.single HT.out) rfl (Or.inr ⟨_, rfl, cells_new _ _ _⟩) HLEN.out ?_; intro v5 w5 h5; have S5 : Hid (LP w0 (List.replicate (k + 1) (T.mk tk tn tm tes)) v5 w5) := (by rw [HTS.out]; exact h5); clear h5)
      go_roundw
      case rel => exact ⟨k + 1, by omega, by go_num, S5.out⟩
      case measure => simp [intOf]; omega
    · have hke : min n.toNat 512 = k := by omega
      have FIN : Hid (∃ A' C', u10 = .slice A' (List.replicate k (T.mk tk tn tm tes)).length C' ∧ TsIn wr (List.replicate k (T.mk tk tn tm tes)) A') := HL.out.done (by rw [List.length_replicate]; omega)
      have HKE : Hid (min n.toNat 512 = k) := hke
      by_cases h1 : (k : Int) < n
      · have h2 : ¬ (k : Int) < 512 := by omega
        clear hke hlt hk
        go_wp2
        obtain ⟨A', C', rfl, hts⟩ := FIN.out
        refine bodyPost_ret (v := .tuple #[.slice A' (List.replicate k (T.mk tk tn tm tes)).length C', .bool true]) (by simp [results, Tryz.results83, go_sem]) rfl ⟨?_, HBW.out⟩
        rw [HKE.out]
        exact ⟨A', C', rfl, hts⟩
      · clear hke hlt hk
        go_wp2
        obtain ⟨A', C', rfl, hts⟩ := FIN.out
        refine bodyPost_ret (v := .tuple #[.slice A' (List.replicate k (T.mk tk tn tm tes)).length C', .bool true]) (by simp [results, Tryz.results83, go_sem]) rfl ⟨?_, HBW.out⟩
        rw [HKE.out]
        exact ⟨A', C', rfl, hts⟩

theorem le_sum {x : Nat} : ∀ {l : List Nat}, x ∈ l → x ≤ l.sum
  | [], h => by cases h
  | y :: l, h => by
    rw [List.sum_cons]
    rcases List.mem_cons.1 h with rfl | h
    · exact Nat.le_add_right _ _
    · exact Nat.le_trans (le_sum h) (Nat.le_add_left _ _)

/-- An item of Few is few. -/
theorem few_item {is : List It} (h : Few is) (i : Nat) (hi : i < is.length) : (is[i]'hi).ps.length < 300 ∧ ((is[i]'hi).vs.map (·.2.length)).sum < 300 := by
  have h1 : cost (is[i]'hi) ≤ (is.map cost).sum := le_sum (List.mem_map.2 ⟨_, List.getElem_mem hi, rfl⟩)
  have h2 : cost (is[i]'hi) = (is[i]'hi).ps.length + (is[i]'hi).vs.length + ((is[i]'hi).vs.map (·.2.length)).sum := rfl
  unfold Few at h
  omega

theorem fst_get {s : ByteArray} : ∀ {is : List It} {i k : Nat}, fst s is i = some k → ∃ h : k - i < is.length, i ≤ k ∧ ((is[k - i]'h).k = 2 ∨ (is[k - i]'h).k = 3)
  | [], i, k, h => by cases h
  | it :: is, i, k, h => by
    rw [fst] at h
    split at h
    · rename_i hh
      cases h
      exact ⟨by simp, Nat.le_refl _, by simpa using hh.2⟩
    · obtain ⟨h1, h2, h3⟩ := fst_get h
      refine ⟨by simp; omega, by omega, ?_⟩
      have e : k - i = k - (i + 1) + 1 := by omega
      simpa [e] using h3

theorem parts_c (is : List It) (hfew : Few is) (t : T) (cs : List Value) (A : Option Addr) (C : Nat) (w : World) (hi : IsIn w is A) (ht : TIn w t cs) :
    Calls Tryz.prog 83 #[.slice A is.length C, .agg cs.toArray] w fun e w' => PtsA (pts is t) e w' ∧ Below w.heap.size w w' := by
  obtain ⟨k, s, n, es⟩ := t
  obtain ⟨EA, EC, rfl, hes⟩ := ht.inv
  rw [pts_mk]
  by_cases h8 : 1 ≤ k ∧ k ≤ 8
  · rw [if_pos h8]
    exact parts_low k s n EA _ EC _ C A w h8.1 h8.2
  · rw [if_neg h8]
    by_cases h9 : k = 9
    · subst h9
      rw [if_pos rfl]
      cases hf : fst s is 0 with
      | none => exact parts_none is s n EA _ EC C A w hi hf
      | some j =>
        obtain ⟨hj, _, hk⟩ := fst_get hf
        simp only [Nat.sub_zero] at hj hk
        simp only [List.getElem?_eq_getElem hj]
        have hfi := few_item hfew j hj
        rcases hk with hk | hk
        · rw [if_pos hk]
          exact parts_struct is s n EA _ EC C A w hi j hf hj hk hfi.1
        · rw [if_neg (by rw [hk]; decide)]
          exact parts_enum is s n EA _ EC C A w hi j hf hj hk hfi.2
    · rw [if_neg h9]
      cases es with
      | nil => exact parts_bad k s n EA _ EC _ C A w (by simp; omega)
      | cons e es =>
        obtain ⟨b, o, cs', rfl, hrow, hin⟩ := hes.2 0 (by simp)
        simp only
        by_cases h10 : k = 10
        · subst h10
          rw [if_pos rfl]
          exact parts_arr s n b o _ EC _ C A w e cs' (by simpa using hrow) (by simpa using hin) (by simp)
        · rw [if_neg h10]
          by_cases h11 : k = 11 ∨ k = 12 ∨ k = 13
          · rw [if_pos h11]
            exact parts_ref k s n _ _ EC _ C A w (by omega) (by simp)
          · rw [if_neg h11]
            exact parts_bad k s n _ _ EC _ C A w (by omega)

end Go.Proofs.YtjdkoahbahecoaaGreatDoor
