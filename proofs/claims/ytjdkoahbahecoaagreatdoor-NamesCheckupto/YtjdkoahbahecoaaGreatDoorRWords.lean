/-
  Proved: the document's own Words answers what the program's does.
-/
import Derived.Test.YtjdkoahbahecoaaGreatDoorRWordsE
namespace Go.Proofs.YtjdkoahbahecoaaGreatDoor
open Go.RowKit

theorem rwords_c (is : List It) : ∀ (N : Nat), N ≤ 512 → ∀ (t : T) (r : Nat) (o : Am), r ≤ N → am is N t r = some o → ∀ (A : Option Addr) (C : Nat) (w : World) (cs : List Value), IsIn w is A → TIn w t cs →
    Calls Tryz.prog 45 #[.slice A is.length C, .agg cs.toArray] w fun e w' => e = .returned (.int .i64 (o.w : Int)) ∧ Below w.heap.size w w' := by
  intro N
  induction N with
  | zero => intro _ t r o _ h; cases t; cases h
  | succ N ih =>
    intro hN t r o hr h A C w cs hi ht
    have hok := am_ok is (N + 1) t r o h
    obtain ⟨k, s, n, es⟩ := t
    obtain ⟨EA, EC, rfl, hts⟩ := ht.inv
    have KEY : ∀ t q o, q ≤ N → am is N t q = some o → ∀ w' cs, Below w.heap.size w w' → TIn w' t cs → Calls Tryz.prog 45 #[.slice A is.length C, .agg cs.toArray] w' fun e w'' => e = .returned (.int .i64 (o.w : Int)) ∧ Below w'.heap.size w' w'' :=
      fun t q o hq ha w' cs hw ht' => ih (by omega) t q o hq ha A C w' cs (hi.below hw) ht'
    unfold am at h
    by_cases h0 : r < 1
    · rw [if_pos h0] at h; cases h
    rw [if_neg h0] at h
    by_cases h1 : k = 1
    · subst h1
      rw [if_pos rfl] at h
      cases h
      exact rw_unit s n A _ C EA _ EC w
    rw [if_neg h1] at h
    by_cases h8 : 2 ≤ k ∧ k ≤ 8
    · rw [if_pos h8] at h
      cases h
      exact rw_one k s n A _ C EA _ EC w h1 (by omega) (by omega)
    rw [if_neg h8] at h
    by_cases h9 : k = 9
    · subst h9
      rw [if_pos rfl] at h
      cases hf : fst s is 0 with
      | none => rw [hf] at h; cases h
      | some j =>
        rw [hf] at h
        simp only at h
        obtain ⟨hj, _, hk⟩ := fst_get hf
        simp only [Nat.sub_zero] at hj hk
        rw [List.getElem?_eq_getElem hj] at h
        simp only at h
        by_cases h2 : (is[j]'hj).k = 2
        · rw [if_pos h2] at h
          exact rw_struct is N r (by omega) (by omega) (by omega) s n EA _ EC C A w hi j hf hj h2 o h KEY
        · rw [if_neg h2] at h
          obtain ⟨a, ha, rfl⟩ := Option.map_eq_some_iff.1 h
          exact rw_enum is N r (by omega) (by omega) (by omega) s n EA _ EC C A w hi j hf hj (by omega) a ha KEY
    rw [if_neg h9] at h
    cases es with
    | nil => cases h
    | cons e es =>
      simp only at h
      by_cases h10 : k = 10
      · subst h10
        rw [if_pos rfl] at h
        by_cases hn : n < 1
        · rw [if_pos hn] at h
          cases h
          exact rw_none s n A _ C EA _ EC w hn
        · rw [if_neg hn] at h
          obtain ⟨a, ha, rfl⟩ := Option.map_eq_some_iff.1 h
          obtain ⟨ab, ao, cs1, rfl, hrow, ht1⟩ := hts.2 0 (by simp)
          simp only [List.getElem_cons_zero, Nat.zero_mul, Nat.add_zero] at hrow ht1
          have key := fun w' (hw : Below w.heap.size w w') => KEY e ((r - 1) / n.toNat) a (by have := Nat.div_le_self (r - 1) n.toNat; omega) ha w' cs1 hw (ht1.stays hw)
          obtain ⟨tk, tn, tm, tes⟩ := e
          obtain ⟨TA, TC, rfl, _⟩ := ht1.inv
          have hmul : n * (a.w : Int) = ((a.w * n.toNat : Nat) : Int) := by
            rw [Nat.mul_comm]
            simp only [Int.natCast_mul]
            rw [Int.toNat_of_nonneg (by omega)]
          have hb5 : a.w * n.toNat ≤ 512 := by
            have h1 := hok.2.1
            have h2 := hok.2.2.1
            simp only at h1 h2
            exact Nat.le_trans h2 (Nat.le_trans h1 (by omega))
          have := rw_array s n A is.length C tk tn tm TA _ TC ab ao (T.mk tk tn tm tes :: es).length EC a.w w hn (by simp) hrow key (by rw [hmul]; exact Int.ofNat_le.2 hb5)
          rw [hmul] at this
          exact this
      · rw [if_neg h10] at h
        by_cases h12 : k = 12
        · rw [if_pos h12] at h
          cases h
          exact rw_one k s n A _ C EA _ EC w h1 h9 h10
        · rw [if_neg h12] at h
          by_cases h13 : k = 11 ∨ k = 13
          · rw [if_pos h13] at h
            cases h
            exact rw_one k s n A _ C EA _ EC w h1 h9 h10
          · rw [if_neg h13] at h
            cases h

set_option maxRecDepth 100000 in
set_option maxHeartbeats 600000 in
theorem rWords_walk (k : Int) (s : ByteArray) (n : Int) (EA : Option Addr) (el EC l C : Nat) (A : Option Addr) (w : World) (x : Option Am) (hx : ∀ a, x = some a → a.w ≤ 512)
    (KN : Hid (∀ w', Below w.heap.size w w' → Calls Tryz.prog 44 #[.slice A l C, .agg #[.int .i64 k, .string s, .int .i64 n, .slice EA el EC]] w' fun e w'' => e = .returned (.bool x.isSome) ∧ Below w'.heap.size w' w''))
    (WD : Hid (∀ a, x = some a → ∀ w', Below w.heap.size w w' → Calls Tryz.prog 45 #[.slice A l C, .agg #[.int .i64 k, .string s, .int .i64 n, .slice EA el EC]] w' fun e w'' => e = .returned (.int .i64 (a.w : Int)) ∧ Below w'.heap.size w' w'')) :
    Calls Tryz.prog 21 #[.slice A l C, .agg #[.int .i64 k, .string s, .int .i64 n, .slice EA el EC]] w fun e w' => e = .returned (wrdV (match x with | none => none | some a => if a.w ≤ 128 then some a.w else none)) ∧ Below w.heap.size w w' := by
  have HW1 : Hid (∀ a, Below w.heap.size w (w.alloc a)) := below_alloc w
  have AT1 : Hid (∀ c w1, Below (w.alloc (.cells c 25)).heap.size (w.alloc (.cells c 25)) w1 → At w1 w.heap.size c 25) := fun c w1 hb => (At.new w c 25).below hb (At.new w c 25).lt
  cases x with
  | none =>
    simp only [wrdV]
    go_enter Tryz.func21, Tryz.ntmps21
    go_wp2_with (go_at_call 44; refine (KN.out _ (HW1.out _)).mono ?_; rintro e w1 ⟨rfl, hb1⟩; have B1 : Hid (Below w.heap.size w w1) := below_next (HW1.out _) hb1; simp only [Option.isSome]; clear hb1)
    exact bodyPost_ret (v := .tuple #[.int .i64 0, .bool false]) (by simp [results, Tryz.results21, go_sem]) rfl ⟨rfl, B1.out⟩
  | some a =>
    have WD' : Hid (∀ w', Below w.heap.size w w' → Calls Tryz.prog 45 #[.slice A l C, .agg #[.int .i64 k, .string s, .int .i64 n, .slice EA el EC]] w' fun e w'' => e = .returned (.int .i64 (a.w : Int)) ∧ Below w'.heap.size w' w'') := WD.out a rfl
    have hx2 := hx a rfl
    obtain ⟨ap, aw, am'⟩ := a
    simp only at WD' hx2 ⊢
    clear WD hx
    by_cases h : aw ≤ 128
    · have h' : ¬ (128 : Int) < (aw : Int) := by omega
      rw [if_pos h]
      simp only [wrdV]
      go_enter Tryz.func21, Tryz.ntmps21
      go_wp2_with (first
        | (go_at_call 44; refine (KN.out _ (HW1.out _)).mono ?_; rintro e w1 ⟨rfl, hb1⟩; simp only [Option.isSome]; have B1 : Hid (Below w.heap.size w w1) := below_next (HW1.out _) hb1; have a1 := AT1.out _ _ hb1; have a0 : w1.cell? ⟨w.heap.size, 0, none⟩ = some (.int .i64 k) := (a1.cell 0).trans rfl; have a01 : w1.cell? ⟨w.heap.size, 1, none⟩ = some (.string s) := (a1.cell 1).trans rfl; have a02 : w1.cell? ⟨w.heap.size, 2, none⟩ = some (.int .i64 n) := (a1.cell 2).trans rfl; have a03 : w1.cell? ⟨w.heap.size, 3, none⟩ = some (.slice EA el EC) := (a1.cell 3).trans rfl; clear hb1 a1)
        | (go_at_call 45; refine (WD'.out _ B1.out).mono ?_; rintro e w2 ⟨rfl, hb2⟩; have B2 : Hid (Below w.heap.size w w2) := below_next B1.out hb2; clear hb2))
      exact bodyPost_ret (v := .tuple #[.int .i64 (aw : Int), .bool true]) (by simp [results, Tryz.results21, go_sem]) rfl ⟨rfl, B2.out⟩
    · have h' : (128 : Int) < (aw : Int) := by omega
      rw [if_neg h]
      simp only [wrdV]
      go_enter Tryz.func21, Tryz.ntmps21
      go_wp2_with (first
        | (go_at_call 44; refine (KN.out _ (HW1.out _)).mono ?_; rintro e w1 ⟨rfl, hb1⟩; simp only [Option.isSome]; have B1 : Hid (Below w.heap.size w w1) := below_next (HW1.out _) hb1; have a1 := AT1.out _ _ hb1; have a0 : w1.cell? ⟨w.heap.size, 0, none⟩ = some (.int .i64 k) := (a1.cell 0).trans rfl; have a01 : w1.cell? ⟨w.heap.size, 1, none⟩ = some (.string s) := (a1.cell 1).trans rfl; have a02 : w1.cell? ⟨w.heap.size, 2, none⟩ = some (.int .i64 n) := (a1.cell 2).trans rfl; have a03 : w1.cell? ⟨w.heap.size, 3, none⟩ = some (.slice EA el EC) := (a1.cell 3).trans rfl; clear hb1 a1)
        | (go_at_call 45; refine (WD'.out _ B1.out).mono ?_; rintro e w2 ⟨rfl, hb2⟩; have B2 : Hid (Below w.heap.size w w2) := below_next B1.out hb2; clear hb2))
      exact bodyPost_ret (v := .tuple #[.int .i64 0, .bool false]) (by simp [results, Tryz.results21, go_sem]) rfl ⟨rfl, B2.out⟩

/-- The document's Words of a type. -/
theorem rWords_c (is : List It) (hfew : Few is) (t : T) (cs : List Value) (A : Option Addr) (C : Nat) (w : World) (hi : IsIn w is A) (ht : TIn w t cs) :
    Calls Tryz.prog 21 #[.slice A is.length C, .agg cs.toArray] w fun e w' => e = .returned (wrdV (wrd is t)) ∧ Below w.heap.size w w' := by
  have KN : ∀ w', Below w.heap.size w w' → Calls Tryz.prog 44 #[.slice A is.length C, .agg cs.toArray] w' fun e w'' => e = .returned (.bool (amt is t).isSome) ∧ Below w'.heap.size w' w'' := fun w' hw => known_c is hfew t cs A C w' (hi.below hw) (ht.stays hw)
  have WD : ∀ a, amt is t = some a → ∀ w', Below w.heap.size w w' → Calls Tryz.prog 45 #[.slice A is.length C, .agg cs.toArray] w' fun e w'' => e = .returned (.int .i64 (a.w : Int)) ∧ Below w'.heap.size w' w'' := fun a ha w' hw => rwords_c is 512 (Nat.le_refl _) t 512 a (Nat.le_refl _) ha A C w' cs (hi.below hw) (ht.stays hw)
  have hx : ∀ a, amt is t = some a → a.w ≤ 512 := fun a ha => by have := amt_ok ha; omega
  unfold wrd
  generalize amt is t = x at KN WD hx
  obtain ⟨k, s, n, es⟩ := t
  obtain ⟨EA, EC, rfl, _⟩ := ht.inv
  have := rWords_walk k s n EA _ EC _ C A w x hx KN WD
  cases x <;> exact this

end Go.Proofs.YtjdkoahbahecoaaGreatDoor
