/-
  Proved: what the document's own function Number answers for every text: the same as lex.Number.
-/
import Derived.Test.YtbfelkcaakpdiaaDoorRefA
import Derived.Test.YtbfelkcaakpdiaaDoorRefB
namespace Go.Proofs.YtbfelkcaakpdiaaDoor
open Go.RowKit
def suf6L : List Bs := [[105, 56], [105, 49, 54], [105, 51, 50], [117, 56], [117, 49, 54], [117, 51, 50]]
theorem strs_suf6 : (#[Value.string { data := #[105, 56] }, Value.string { data := #[105, 49, 54] }, Value.string { data := #[105, 51, 50] }, Value.string { data := #[117, 56] }, Value.string { data := #[117, 49, 54] }, Value.string { data := #[117, 51, 50] }] : Array Value) = strs suf6L := rfl

theorem suff_six (r : Bs) : isSuff r = (r.isEmpty || suf6L.contains r) := by
  have e : suffL = [] :: suf6L := rfl
  unfold isSuff
  rw [e, List.contains_cons]
  congr 1
  cases r <;> rfl

/-- The refusal, as the document's own function asks for it; c: the first byte. -/
def refuse (n : Nat) (c : Nat) (v : Nat) (r : Bs) : Bool := decide ((n : Int) < 1) || decide (10 < (n : Int)) || (decide (1 < (n : Int)) && ((c : Int) == 48)) || decide (4294967295 < (v : Int)) || (!r.isEmpty && !suf6L.contains r)

theorem numA_ref (l : Bs) (n c : Nat) (hn : n = min (run isDig l) 11) (hc : ∀ h : 0 < l.length, l[0].toNat = c) :
    numA l = if refuse n c (val (l.take n)) (l.drop n) then (0, [], 21) else (val (l.take n), l.drop n, 0) := by
  have hle := run_le isDig l
  by_cases h10 : run isDig l ≤ 10
  · have e : n = run isDig l := by omega
    subst e
    have hp : plain (l.take (run isDig l)) = !(decide ((run isDig l : Int) < 1) || decide (10 < (run isDig l : Int)) || (decide (1 < (run isDig l : Int)) && ((c : Int) == 48))) := by
      have hlen : (l.take (run isDig l)).length = run isDig l := by simp; omega
      have hh : (decide ((l.take (run isDig l)).head? ≠ some 48)) = true ↔ (run isDig l = 0 ∨ ¬ c = 48) := by
        by_cases h0 : run isDig l = 0
        · simp [h0]
        · match l, hc, h0 with
          | x :: q, hc, h0 =>
            have := hc (by simp)
            simp at this
            obtain ⟨m, hm⟩ : ∃ m, run isDig (x :: q) = m + 1 := ⟨run isDig (x :: q) - 1, by omega⟩
            rw [hm, List.take_succ_cons]
            simp
            constructor
            · intro h e
              apply h
              apply UInt8.toNat_inj.1
              have : (48 : UInt8).toNat = 48 := rfl
              omega
            · intro h e
              subst e
              exact h this.symm
      rw [Bool.eq_iff_iff]
      simp only [plain, hlen, Bool.and_eq_true, Bool.or_eq_true, decide_eq_true_eq, hh] at hh ⊢
      simp only [Bool.not_eq_true', Bool.or_eq_false_iff, Bool.and_eq_false_iff, decide_eq_false_iff_not, beq_eq_false_iff_ne]
      omega
    have hr : refuse (run isDig l) c (val (l.take (run isDig l))) (l.drop (run isDig l)) = (!plain (l.take (run isDig l)) || decide (4294967295 < (val (l.take (run isDig l)) : Int)) || !isSuff (l.drop (run isDig l))) := by
      rw [hp, suff_six, Bool.not_not, Bool.not_or]
      rfl
    rw [hr]
    by_cases h1 : plain (l.take (run isDig l)) = true
    · by_cases h2 : isSuff (l.drop (run isDig l)) = true
      · by_cases h3 : val (l.take (run isDig l)) ≤ 4294967295
        · rw [numA_yes l (by rw [h1, h2]; rfl) h3, h1, h2, if_neg (by simp; omega)]
        · rw [numA_big l (by rw [h1, h2]; rfl) h3, if_pos (by simp; omega)]
      · have h2' := eq_false_of_ne_true h2
        rw [numA_no l (by rw [h1, h2']; rfl), h2', if_pos (by simp)]
    · have h1' := eq_false_of_ne_true h1
      rw [numA_no l (by rw [h1']; rfl), h1', if_pos (by simp)]
  · have h1 : n = 11 := by omega
    have hp : plain (l.take (run isDig l)) = false := by
      have hlen : (l.take (run isDig l)).length = run isDig l := by simp; omega
      simp [plain, hlen]
      omega
    rw [numA_no l (by rw [hp]; rfl)]
    have : refuse n c (val (l.take n)) (l.drop n) = true := by
      subst h1
      simp [refuse]
    rw [if_pos this]

set_option maxHeartbeats 1000000 in
theorem rnumber_n (l : Bs) (n : Nat) (A : Nat × Bs × Nat) (w : World) (hm : l.length < 4611686018427387904) (hle : n ≤ l.length) (h11 : n ≤ 11) (c0 : Nat) (hc0 : ∀ h : 0 < (ofL l).size, (ofL l)[0].toNat = c0) (HA : Hid (A = if refuse n c0 (val (l.take n)) (l.drop n) then (0, [], 21) else (val (l.take n), l.drop n, 0)))
    (D : Hid (∀ (k : Nat) (h : k < l.length) (_ : k < n), isDig l[k] = true)) (E : Hid (∀ h : n < l.length, n < 11 → isDig l[n] = false)) : Calls Tryd.prog 12 #[.string (ofL l)] w fun e w' =>
    e = .returned (.tuple #[.int .i64 (A.1 : Int), .string (ofL A.2.1), .int .i64 (A.2.2 : Int)]) ∧ Below w.heap.size w w' := by
  have hz := ofL_size l
  go_enter Tryd.func12, Tryd.ntmps12
  go_wp2
  go_loop [5, 6] (fun i v => ∃ k : Nat, k ≤ n ∧ i = .int .i64 (k : Int) ∧ v = .int .i64 (val (l.take k) : Int)) (fun i _ => n - (intOf i).toNat)
  case atStart => exact ⟨0, Nat.zero_le _, rfl, rfl⟩
  case round =>
    obtain ⟨k, hk, rfl, rfl⟩ := hrel
    obtain ⟨c, hc, hcl⟩ := byte_str l k
    have CL : Hid (∀ h : k < l.length, l[k] = c) := hcl
    clear hcl
    by_cases hkn : k < n
    · have hkl : k < l.length := by omega
      have hd := D.out k hkl hkn
      have hb1 : val (l.take k) < 100000000000 := Nat.lt_of_lt_of_le (val_lt k l (by omega) (fun i h hi => D.out i h (by omega))) (Nat.le_trans (Nat.pow_le_pow_right (by decide) (show k ≤ 11 by omega)) (by decide))
      have V : Hid (val (l.take (k + 1)) = val (l.take k) * 10 + (c.toNat - 48)) := by
        have := val_step l k hkl
        rw [CL.out hkl] at this
        exact this
      rw [CL.out hkl] at hd
      have HD : Hid (isDig c = true) := hd
      have hr : 48 ≤ c.toNat ∧ c.toNat ≤ 57 := by simp [isDig] at hd; omega
      obtain ⟨hr1, hr2⟩ := hr
      have hc' : ∀ h : k < (ofL l).size, ((ofL l)[k].toNat : Int) = (c.toNat : Int) := fun h => by rw [hc h]
      generalize hu : val (l.take k) = u at hb1 V
      have U : Hid (val (l.take k) = u) := hu
      clear hu hd hc
      go_wp2_with (go_at_call 21; refine (rdigit_c c _).mono ?_; rintro e w' ⟨rfl, he⟩; rw [HD.out]; subst he)
      go_round
      case rel =>
        refine ⟨k + 1, by omega, by go_num, ?_⟩
        rw [V.out]
        congr 1
        omega
      case measure => simp [intOf]; omega
    · have e1 : k = n := by omega
      subst e1
      have h1 := extract_drop l k
      have hs := strs_suf6
      have htl := ofL_toList
      have EC : Hid (∀ (_ : k < l.length) (_ : k < 11), isDig c = false) := fun h h' => by
        have := E.out h h'
        rw [CL.out h] at this
        exact this
      generalize l.drop k = r at h1 HA
      generalize val (l.take k) = v at HA ⊢
      have hc' : ∀ h : k < (ofL l).size, ((ofL l)[k].toNat : Int) = (c.toNat : Int) := fun h => by rw [hc h]
      clear hc
      go_wp2_with (first
        | (go_at_call 21; refine (rdigit_c c _).mono ?_; rintro e w' ⟨rfl, he⟩; subst he)
        | (go_at_call 27; refine (has_c _ _ 6 suf6L r _ (sr_new _ _) rfl (by decide)).mono ?_; rintro e w' ⟨rfl, he⟩; subst he))
      all_goals first
        | (exfalso
           have h1 : isDig c = true := by assumption
           have h2 : (k : Int) < 11 := by assumption
           have h3 : k < l.length := by assumption
           have h4 := EC.out h3 (by omega)
           rw [h1] at h4
           cases h4)
        | (have hR : refuse k c0 v r = true := by
             unfold refuse
             simp only [Bool.or_eq_true, Bool.and_eq_true, decide_eq_true_eq, beq_iff_eq]
             first
               | (left; left; left; left; omega)
               | (left; left; left; right; omega)
               | (left; left; right; exact ⟨by omega, by omega⟩)
               | (left; right; omega)
           have hA := HA.out
           rw [if_pos hR] at hA
           subst hA
           go_ret3
           first
             | exact ⟨rfl, Below.refl _ _⟩
             | exact ⟨rfl, below_alloc _ _⟩)
        | (exfalso
           have hh : (((k : Int) < 1 ∨ 10 < (k : Int)) ∨ ((c0 : Int) == 48) = true) ∨ 4294967295 < (v : Int) := (by assumption)
           rcases hh with ((h | h) | h) | h
           · omega
           · omega
           · have := eq_of_beq h
             omega
           · omega)
        | (have hr : r = [] := by assumption
           subst hr
           have hR : refuse k c0 v [] = false := (by
             unfold refuse
             simp only [Bool.or_eq_false_iff, Bool.and_eq_false_iff, decide_eq_false_iff_not, beq_eq_false_iff_ne]
             refine ⟨⟨⟨⟨by omega, by omega⟩, by omega⟩, by omega⟩, by simp⟩)
           have hA := HA.out
           rw [hR, if_neg (by decide)] at hA
           subst hA
           go_ret3
           first
             | exact ⟨rfl, Below.refl _ _⟩
             | exact ⟨rfl, below_alloc _ _⟩)
        | (have hq : (!r.isEmpty) = true ∧ (!decide (r ∈ suf6L)) = true := (by
             first
               | (have hh : ((((k : Int) < 1 ∨ 10 < (k : Int)) ∨ ((c0 : Int) == 48) = true) ∨ 4294967295 < (v : Int)) ∨ (!r.isEmpty) = true ∧ (!decide (r ∈ suf6L)) = true := (by assumption)
                  rcases hh with (((h | h) | h) | h) | h
                  · omega
                  · omega
                  · have := eq_of_beq h
                    omega
                  · omega
                  · exact h)
               | (have hh : (((k : Int) < 1 ∨ 10 < (k : Int)) ∨ 4294967295 < (v : Int)) ∨ (!r.isEmpty) = true ∧ (!decide (r ∈ suf6L)) = true := (by assumption)
                  rcases hh with ((h | h) | h) | h
                  · omega
                  · omega
                  · omega
                  · exact h))
           have hR : refuse k c0 v r = true := by
             unfold refuse
             simp only [Bool.or_eq_true]
             right
             simp at hq
             simp [hq]
           have hA := HA.out
           rw [if_pos hR] at hA
           subst hA
           go_ret3
           first
             | exact ⟨rfl, Below.refl _ _⟩
             | exact ⟨rfl, below_alloc _ _⟩)
        | (have hR : refuse k c0 v r = false := by
             cases hq : refuse k c0 v r
             · rfl
             · exfalso
               unfold refuse at hq
               simp only [Bool.or_eq_true, Bool.and_eq_true, decide_eq_true_eq, beq_iff_eq] at hq
               rcases hq with (((hq | hq) | hq) | hq) | hq
               · omega
               · omega
               · obtain ⟨q1, q2⟩ := hq
                 omega
               · omega
               · simp_all
           have hA := HA.out
           rw [hR, if_neg (by decide)] at hA
           subst hA
           go_ret3
           first
             | exact ⟨rfl, Below.refl _ _⟩
             | exact ⟨rfl, below_alloc _ _⟩)
        | go_ways

theorem run_next (p : UInt8 → Bool) (l : Bs) (n : Nat) (hn : n = run p l) (h : n < l.length) : p l[n] = false := by
  have h1 := run_drop p l n h
  subst hn
  have h2 : run p (l.drop (run p l)) = 0 := by
    clear h1 h
    induction l with
    | nil => rfl
    | cons c r ih =>
      simp only [run]
      split
      · rw [List.drop_succ_cons]; exact ih
      · rename_i hc
        rw [List.drop_zero]; simp [run, hc]
  rw [h2] at h1
  cases hp : p l[run p l]
  · rfl
  · rw [hp] at h1; simp at h1

theorem rnumber_c (l : Bs) (w : World) (hm : l.length < 4611686018427387904) : Calls Tryd.prog 12 #[.string (ofL l)] w fun e w' =>
    e = .returned (.tuple #[.int .i64 ((numA l).1 : Int), .string (ofL (numA l).2.1), .int .i64 ((numA l).2.2 : Int)]) ∧ Below w.heap.size w w' := by
  have hle := run_le isDig l
  obtain ⟨c, hc, hcl⟩ := byte_str l 0
  refine rnumber_n l (min (run isDig l) 11) (numA l) w hm (by omega) (by omega) c.toNat (fun h => hc h) (numA_ref l _ c.toNat rfl (fun h => by rw [hcl h])) ?_ ?_
  · intro k h hk
    exact run_all isDig l k (by omega) h
  · intro h h'
    exact run_next isDig l _ (by omega) h
end Go.Proofs.YtbfelkcaakpdiaaDoor
