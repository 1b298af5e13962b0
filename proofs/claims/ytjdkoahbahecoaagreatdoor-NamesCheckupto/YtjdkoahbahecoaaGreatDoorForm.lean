/-
  Proved: what types.Find answers, and the small functions of names: holds, isBorrow, has, form, sized.
-/
import Derived.Test.YtjdkoahbahecoaaGreatDoorWords
namespace Go.Proofs.YtjdkoahbahecoaaGreatDoor
open Go.RowKit

/-- Where the first item of a kind and name stands. -/
def fnd (k : Int) (s : ByteArray) : List It → Nat → Option Nat
  | [], _ => none
  | it :: is, j => if it.s = s ∧ it.k = k then some j else fnd k s is (j + 1)

theorem fnd_drop (k : Int) (s : ByteArray) (is : List It) (i : Nat) (h : i < is.length) : fnd k s (is.drop i) i = if is[i].s = s ∧ is[i].k = k then some i else fnd k s (is.drop (i + 1)) (i + 1) := by
  rw [List.drop_eq_getElem_cons h, fnd]

theorem fnd_some {k : Int} {s : ByteArray} : ∀ {is : List It} {i j : Nat}, fnd k s is i = some j → i ≤ j ∧ j - i < is.length ∧ ∀ h : j - i < is.length, (is[j - i]'h).s = s ∧ (is[j - i]'h).k = k
  | [], _, _, h => by cases h
  | it :: is, i, j, h => by
    rw [fnd] at h
    split at h
    · rename_i hc
      cases h
      simp [hc]
    · obtain ⟨h1, h2, h3⟩ := fnd_some h
      have e : j - i = (j - (i + 1)) + 1 := by omega
      refine ⟨by omega, by simp; omega, fun h4 => ?_⟩
      have := h3 h2
      simp only [e, List.getElem_cons_succ]
      exact this

theorem fnd_none {k : Int} {s : ByteArray} : ∀ {is : List It} {i : Nat}, fnd k s is i = none ↔ ∀ it ∈ is, ¬ (it.s = s ∧ it.k = k)
  | [], _ => by simp [fnd]
  | it :: is, i => by
    rw [fnd]
    split
    · rename_i hc
      simp [hc]
    · rename_i hc
      rw [fnd_none, List.forall_mem_cons]
      exact ⟨fun h => ⟨hc, h⟩, fun h => h.2⟩

theorem fst_none {s : ByteArray} : ∀ {is : List It} {i : Nat}, fst s is i = none ↔ ∀ it ∈ is, ¬ (it.s = s ∧ (it.k = 2 ∨ it.k = 3))
  | [], _ => by simp [fst]
  | it :: is, i => by
    rw [fst]
    split
    · rename_i hc
      exact ⟨fun h => (by cases h), fun h => absurd hc (h _ List.mem_cons_self)⟩
    · rename_i hc
      rw [fst_none, List.forall_mem_cons]
      exact ⟨fun h => ⟨hc, h⟩, fun h => h.2⟩

/-- Is there a struct or an enum of a name? -/
def hst (is : List It) (s : ByteArray) : Bool := (fst s is 0).isSome

theorem hst_fnd (is : List It) (s : ByteArray) : hst is s = ((fnd 2 s is 0).isSome || (fnd 3 s is 0).isSome) := by
  have e : ∀ {o : Option Nat}, o.isSome = false ↔ o = none := by intro o; cases o <;> simp
  cases h : hst is s with
  | false =>
    have h := fst_none.1 (e.1 h)
    have h2 : fnd 2 s is 0 = none := fnd_none.2 fun it hi hc => h it hi ⟨hc.1, .inl hc.2⟩
    have h3 : fnd 3 s is 0 = none := fnd_none.2 fun it hi hc => h it hi ⟨hc.1, .inr hc.2⟩
    rw [h2, h3]
    rfl
  | true =>
    symm
    cases h2 : (fnd 2 s is 0).isSome with
    | true => rfl
    | false =>
      cases h3 : (fnd 3 s is 0).isSome with
      | true => rfl
      | false =>
        exfalso
        have h2 := fnd_none.1 (e.1 h2)
        have h3 := fnd_none.1 (e.1 h3)
        have : fst s is 0 = none := fst_none.2 fun it hi hc => by
          rcases hc with ⟨ha, hb | hb⟩
          · exact h2 it hi ⟨ha, hb⟩
          · exact h3 it hi ⟨ha, hb⟩
        simp [hst, this] at h

theorem find1_c (k k2 : Int) (B : Nat) (w : World) (hB : w.cell? ⟨B, 0, none⟩ = some (.int .i64 k2)) :
    Calls Tryz.prog 81 #[.int .i64 k, .pointer (some ⟨B, 0, none⟩)] w fun e w' => e = .returned (.bool (decide (k = k2))) ∧ Below w.heap.size w w' := by
  by_cases h : k = k2
  · subst h
    go_enter Tryz.func81, Tryz.ntmps81
    go_wp2
    go_ret
    exact ⟨by simp, Below.refl _ _⟩
  · have g : (k == k2) = false := by simpa using h
    go_enter Tryz.func81, Tryz.ntmps81
    go_wp2
    go_ret
    exact ⟨by simp [h], Below.refl _ _⟩

set_option maxHeartbeats 1000000 in
theorem firstk_c (kk : Int) (Bk : Nat) (is : List It) (s : ByteArray) (A : Option Addr) (C : Nat) (w : World) (hi : IsIn w is A) (hB : w.cell? ⟨Bk, 0, none⟩ = some (.int .i64 kk)) :
    Calls Tryz.prog 80 #[.slice A is.length C, .string s, .func (.func 81) #[] #[.pointer (some ⟨Bk, 0, none⟩)]] w fun e w' => e = .returned (fstV (fnd kk s is 0)) ∧ Below w.heap.size w w' := by
  generalize hR : fnd kk s is 0 = R
  have hl := hi.1
  have HI : Hid (IsIn w is A) := hi
  have HR : Hid (fnd kk s (is.drop 0) 0 = R) := hR
  have HBK : Hid (∀ w', Below w.heap.size w w' → w'.cell? ⟨Bk, 0, none⟩ = some (.int .i64 kk)) := fun w' hw => (hw.cell (p := ⟨Bk, 0, none⟩) (World.block_lt_of_cell? _ _ hB)).trans hB
  clear hi hR hB
  go_enter Tryz.func80, Tryz.ntmps80
  go_wp2
  go_loopw [10] (fun i wr => ∃ k : Nat, k ≤ is.length ∧ i = .int .i64 (k : Int) ∧ fnd kk s (is.drop k) k = R ∧ Below w.heap.size w wr) (fun i _ => is.length - (intOf i).toNat)
  case atStart => exact ⟨0, Nat.zero_le _, rfl, HR.out, Below.refl _ _⟩
  case round =>
    obtain ⟨k, hk, rfl, hr, hw⟩ := hrel
    have HK : Hid (fnd kk s (is.drop k) k = R) := hr
    have HW : Hid (Below w.heap.size w wr) := hw
    clear hr hw
    by_cases hlt : k < is.length
    · obtain ⟨b, o, P, pc, V, vc, r, rfl, hrow, _, _⟩ := (HI.out.below HW.out).2 k hlt
      have hdr := fnd_drop kk s is k hlt
      generalize is[k] = it at hrow hdr
      obtain ⟨ik, is', ips, ivs⟩ := it
      have c0 := hrow.2 0 _ rfl
      have c1 := hrow.2 1 _ rfl
      simp only [Nat.add_zero] at c0
      have hlt' : (k : Int) < (is.length : Int) := by omega
      have HD : Hid (fnd kk s (is.drop k) k = if is' = s ∧ ik = kk then some k else fnd kk s (is.drop (k + 1)) (k + 1)) := hdr
      clear hdr hrow
      by_cases hs : is' = s
      · subst hs
        by_cases hq : ik = kk
        · have HC : Hid (∀ w', Below w.heap.size w w' → Calls Tryz.prog 81 #[.int .i64 ik, .pointer (some ⟨Bk, 0, none⟩)] w' fun e w'' => e = .returned (.bool true) ∧ Below w'.heap.size w' w'') := fun w' hw => by
            have := find1_c ik kk Bk w' (HBK.out w' hw)
            rw [decide_eq_true hq] at this
            exact this
          have HQ : Hid (ik = kk) := hq
          clear hq
          go_wp2_with (go_at_call 81; refine (HC.out _ HW.out).mono ?_; rintro e w1 ⟨rfl, hb1⟩; have M : Hid (Below wr.heap.size wr w1) := hb1; clear hb1)
          go_ret
          exact ⟨by have h1 := HK.out; rw [HD.out, if_pos (by simpa using HQ.out)] at h1; subst h1; rfl, below_next HW.out M.out⟩
        · have HC : Hid (∀ w', Below w.heap.size w w' → Calls Tryz.prog 81 #[.int .i64 ik, .pointer (some ⟨Bk, 0, none⟩)] w' fun e w'' => e = .returned (.bool false) ∧ Below w'.heap.size w' w'') := fun w' hw => by
            have := find1_c ik kk Bk w' (HBK.out w' hw)
            rw [decide_eq_false hq] at this
            exact this
          have HQ : Hid (¬ ik = kk) := hq
          clear hq
          go_wp2_with (go_at_call 81; refine (HC.out _ HW.out).mono ?_; rintro e w1 ⟨rfl, hb1⟩; have M : Hid (Below wr.heap.size wr w1) := hb1; clear hb1)
          go_roundw
          case rel => exact ⟨k + 1, by omega, by go_num, by have h1 := HK.out; rw [HD.out, if_neg (fun h => HQ.out h.2)] at h1; exact h1, below_next HW.out M.out⟩
          case measure => simp [intOf]; omega
      · obtain ⟨h1, h2⟩ := str_ne hs
        have HS : Hid (¬ is' = s) := hs
        clear hs
        go_wp2
        go_roundw
        case rel => exact ⟨k + 1, by omega, by go_num, by have h1 := HK.out; rw [HD.out, if_neg (fun h => HS.out h.1)] at h1; exact h1, HW.out⟩
        case measure => simp [intOf]; omega
    · go_wp2
      go_ret
      exact ⟨by have h1 := HK.out; rw [List.drop_eq_nil_of_le (by omega), fnd] at h1; subst h1; rfl, HW.out⟩

theorem find_c (k : Int) (is : List It) (s : ByteArray) (A : Option Addr) (C : Nat) (w : World) (hi : IsIn w is A) :
    Calls Tryz.prog 56 #[.slice A is.length C, .int .i64 k, .string s] w fun e w' => e = .returned (fstV (fnd k s is 0)) ∧ Below w.heap.size w w' := by
  have FK : Hid (Calls Tryz.prog 80 #[.slice A is.length C, .string s, .func (.func 81) #[] #[.pointer (some ⟨w.heap.size, 0, none⟩)]] (w.alloc (.cells #[.int .i64 k] 3)) fun e w' => e = .returned (fstV (fnd k s is 0)) ∧ Below (w.alloc (.cells #[.int .i64 k] 3)).heap.size (w.alloc (.cells #[.int .i64 k] 3)) w') :=
    firstk_c k w.heap.size is s A C _ (hi.below (below_alloc _ _)) (((At.new w #[.int .i64 k] 3).cell 0).trans rfl)
  generalize fstV (fnd k s is 0) = V at FK ⊢
  clear hi
  go_enter Tryz.func56, Tryz.ntmps56
  go_wp2_with (go_at_call 80; refine FK.out.mono ?_; rintro e w1 ⟨rfl, hb1⟩; have M : Hid (Below w.heap.size w w1) := below_next (below_alloc _ _) hb1; clear hb1)
  go_ret
  exact ⟨rfl, M.out⟩

theorem has_c (is : List It) (s : ByteArray) (A : Option Addr) (C : Nat) (w : World) (hi : IsIn w is A) :
    Calls Tryz.prog 42 #[.slice A is.length C, .string s] w fun e w' => e = .returned (.bool (hst is s)) ∧ Below w.heap.size w w' := by
  have F2 : Hid (∀ w', Below w.heap.size w w' → Calls Tryz.prog 56 #[.slice A is.length C, .int .i64 2, .string s] w' fun e w'' => e = .returned (fstV (fnd 2 s is 0)) ∧ Below w'.heap.size w' w'') := fun w' hw => find_c 2 is s A C w' (hi.below hw)
  have F3 : Hid (∀ w', Below w.heap.size w w' → Calls Tryz.prog 56 #[.slice A is.length C, .int .i64 3, .string s] w' fun e w'' => e = .returned (fstV (fnd 3 s is 0)) ∧ Below w'.heap.size w' w'') := fun w' hw => find_c 3 is s A C w' (hi.below hw)
  have HR : Hid (Below w.heap.size w w) := Below.refl _ _
  rw [hst_fnd]
  generalize fnd 2 s is 0 = R2 at F2 ⊢
  generalize fnd 3 s is 0 = R3 at F3 ⊢
  clear hi
  cases R2 with
  | some j =>
    simp only [fstV] at F2
    have g : (0 : Int) ≤ (j : Int) := by omega
    go_enter Tryz.func42, Tryz.ntmps42
    go_wp2_with (go_at_call 56; refine (F2.out _ HR.out).mono ?_; rintro e w1 ⟨rfl, hb1⟩; have M : Hid (Below w.heap.size w w1) := hb1; clear hb1)
    go_ret
    exact ⟨rfl, M.out⟩
  | none =>
    simp only [fstV] at F2
    cases R3 with
    | some j =>
      simp only [fstV] at F3
      have g : (0 : Int) ≤ (j : Int) := by omega
      go_enter Tryz.func42, Tryz.ntmps42
      go_wp2_with (first
        | (go_at_call 56; have M' := M; refine (F3.out _ M.out).mono ?_; rintro e w2 ⟨rfl, hb2⟩; have M2 : Hid (Below w.heap.size w w2) := below_next M.out hb2; clear hb2)
        | (go_at_call 56; refine (F2.out _ HR.out).mono ?_; rintro e w1 ⟨rfl, hb1⟩; have M : Hid (Below w.heap.size w w1) := hb1; clear hb1))
      go_ret
      exact ⟨by simp, M2.out⟩
    | none =>
      simp only [fstV] at F3
      go_enter Tryz.func42, Tryz.ntmps42
      go_wp2_with (first
        | (go_at_call 56; have M' := M; refine (F3.out _ M.out).mono ?_; rintro e w2 ⟨rfl, hb2⟩; have M2 : Hid (Below w.heap.size w w2) := below_next M.out hb2; clear hb2)
        | (go_at_call 56; refine (F2.out _ HR.out).mono ?_; rintro e w1 ⟨rfl, hb1⟩; have M : Hid (Below w.heap.size w w1) := hb1; clear hb1))
      go_ret
      exact ⟨rfl, M2.out⟩

theorem holds_c (k : Int) (w : World) : Calls Tryz.prog 40 #[.int .i64 k] w fun e w' => e = .returned (.bool (decide (10 ≤ k ∧ k ≤ 13))) ∧ w' = w := by
  by_cases h : 10 ≤ k
  · have h' : k ≥ 10 := h
    by_cases h2 : k ≤ 13
    · go_enter Tryz.func40, Tryz.ntmps40
      go_wp2
      go_ret
      exact ⟨by simp [h, h2], rfl⟩
    · go_enter Tryz.func40, Tryz.ntmps40
      go_wp2
      go_ret
      exact ⟨by simp [h2], rfl⟩
  · have h' : ¬ k ≥ 10 := h
    go_enter Tryz.func40, Tryz.ntmps40
    go_wp2
    go_ret
    exact ⟨by rw [decide_eq_false (show ¬ 10 ≤ k by omega)]; rfl, rfl⟩

theorem isBorrow_c (k : Int) (w : World) : Calls Tryz.prog 41 #[.int .i64 k] w fun e w' => e = .returned (.bool (decide (k = 12 ∨ k = 13))) ∧ w' = w := by
  by_cases h : k = 12
  · subst h
    go_enter Tryz.func41, Tryz.ntmps41
    go_wp2
    go_ret
    exact ⟨rfl, rfl⟩
  · have g : (k == 12) = false := by simpa using h
    by_cases h2 : k = 13
    · subst h2
      go_enter Tryz.func41, Tryz.ntmps41
      go_wp2
      go_ret
      exact ⟨rfl, rfl⟩
    · have g2 : (k == 13) = false := by simpa using h2
      go_enter Tryz.func41, Tryz.ntmps41
      go_wp2
      go_ret
      exact ⟨by simp [h, h2], rfl⟩

theorem cells4 {w : World} {x : Nat} {a b c d : Value} {t : TypeId} (h : At w x #[a, b, c, d] t) :
    w.cell? ⟨x, 0, none⟩ = some a ∧ w.cell? ⟨x, 1, none⟩ = some b ∧ w.cell? ⟨x, 2, none⟩ = some c ∧ w.cell? ⟨x, 3, none⟩ = some d ∧ x < w.heap.size :=
  ⟨(h.cell 0).trans rfl, (h.cell 1).trans rfl, (h.cell 2).trans rfl, (h.cell 3).trans rfl, h.lt⟩

theorem sized_c (is : List It) (t : T) (cs : List Value) (A : Option Addr) (C : Nat) (w : World) (ht : Tab w) (hi : IsIn w is A) (hx : TIn w t cs) :
    Calls Tryz.prog 18 #[.slice A is.length C, .agg cs.toArray] w fun e w' => e = .returned (.bool (wrd is t).isSome) ∧ Below w.heap.size w w' := by
  have ME : Hid (∀ w', Below w.heap.size w w' → Calls Tryz.prog 43 #[.slice A is.length C, .agg cs.toArray] w' fun e w'' => e = .returned (wrdV (wrd is t)) ∧ Below w'.heap.size w' w'') := fun w' hw => words_c is t cs A C w' (ht.below hw) (hi.below hw) (hx.stays hw)
  generalize wrd is t = R at ME ⊢
  obtain ⟨k, s, n, es⟩ := t
  obtain ⟨EA, EC, rfl, _⟩ := hx.inv
  have HW1 : Hid (∀ a, Below w.heap.size w (w.alloc a)) := below_alloc w
  clear ht hi hx
  cases R with
  | none =>
    simp only [wrdV] at ME
    go_enter Tryz.func18, Tryz.ntmps18
    go_wp2_with (go_at_call 43; refine (ME.out _ (HW1.out _)).mono ?_; rintro e' w1 ⟨rfl, hb1⟩; have BB : Hid (Below w.heap.size w w1) := below_next (HW1.out _) hb1; clear hb1)
    go_ret
    exact ⟨rfl, BB.out⟩
  | some m =>
    simp only [wrdV] at ME
    go_enter Tryz.func18, Tryz.ntmps18
    go_wp2_with (go_at_call 43; refine (ME.out _ (HW1.out _)).mono ?_; rintro e' w1 ⟨rfl, hb1⟩; have BB : Hid (Below w.heap.size w w1) := below_next (HW1.out _) hb1; clear hb1)
    go_ret
    exact ⟨rfl, BB.out⟩

theorem pwords_c (is : List It) (t : T) (cs : List Value) (A : Option Addr) (C : Nat) (w : World) (ht : Tab w) (hi : IsIn w is A) (hx : TIn w t cs) :
    Calls Tryz.prog 88 #[.slice A is.length C, .agg cs.toArray] w fun e w' => e = .returned (.int .i64 (((wrd is t).getD 0 : Nat) : Int)) ∧ Below w.heap.size w w' := by
  have ME : Hid (∀ w', Below w.heap.size w w' → Calls Tryz.prog 43 #[.slice A is.length C, .agg cs.toArray] w' fun e w'' => e = .returned (wrdV (wrd is t)) ∧ Below w'.heap.size w' w'') := fun w' hw => words_c is t cs A C w' (ht.below hw) (hi.below hw) (hx.stays hw)
  generalize wrd is t = R at ME ⊢
  obtain ⟨k, s, n, es⟩ := t
  obtain ⟨EA, EC, rfl, _⟩ := hx.inv
  have HW1 : Hid (∀ a, Below w.heap.size w (w.alloc a)) := below_alloc w
  clear ht hi hx
  cases R with
  | none =>
    simp only [wrdV] at ME
    go_enter Tryz.func88, Tryz.ntmps88
    go_wp2_with (go_at_call 43; refine (ME.out _ (HW1.out _)).mono ?_; rintro e' w1 ⟨rfl, hb1⟩; have BB : Hid (Below w.heap.size w w1) := below_next (HW1.out _) hb1; clear hb1)
    go_ret
    exact ⟨rfl, BB.out⟩
  | some m =>
    simp only [wrdV] at ME
    go_enter Tryz.func88, Tryz.ntmps88
    go_wp2_with (go_at_call 43; refine (ME.out _ (HW1.out _)).mono ?_; rintro e' w1 ⟨rfl, hb1⟩; have BB : Hid (Below w.heap.size w w1) := below_next (HW1.out _) hb1; clear hb1)
    go_ret
    exact ⟨rfl, BB.out⟩

/-- What is wrong with a type by itself. -/
def frm (is : List It) (t : T) (may : Bool) : Int :=
  if (t.k = 12 ∨ t.k = 13) ∧ may = false then 57
  else if t.k = 9 ∧ hst is t.s = false then 41
  else if t.k < 1 ∨ 13 < t.k ∨ (10 ≤ t.k ∧ t.k ≤ 13 ∧ t.es.length = 0) then 10
  else 0

set_option maxHeartbeats 2000000 in
theorem form_c (is : List It) (t : T) (cs : List Value) (may : Bool) (A : Option Addr) (C : Nat) (w : World) (hi : IsIn w is A) (hx : TIn w t cs) :
    Calls Tryz.prog 17 #[.slice A is.length C, .agg cs.toArray, .bool may] w fun e w' => e = .returned (.int .i64 (frm is t may)) ∧ Below w.heap.size w w' := by
  obtain ⟨k, s, n, es⟩ := t
  obtain ⟨EA, EC, rfl, _⟩ := hx.inv
  generalize hF : frm is (.mk k s n es) may = F
  have HF : Hid (frm is (.mk k s n es) may = F) := hF
  have IB : Hid (∀ w', Calls Tryz.prog 41 #[.int .i64 k] w' fun e w'' => e = .returned (.bool (decide (k = 12 ∨ k = 13))) ∧ w'' = w') := isBorrow_c k
  have HO : Hid (∀ w', Calls Tryz.prog 40 #[.int .i64 k] w' fun e w'' => e = .returned (.bool (decide (10 ≤ k ∧ k ≤ 13))) ∧ w'' = w') := holds_c k
  have HS : Hid (∀ w', Below w.heap.size w w' → Calls Tryz.prog 42 #[.slice A is.length C, .string s] w' fun e w'' => e = .returned (.bool (hst is s)) ∧ Below w'.heap.size w' w'') := fun w' hw => has_c is s A C w' (hi.below hw)
  have HW1 : Hid (Below w.heap.size w (w.alloc (.cells #[.int .i64 k, .string s, .int .i64 n, .slice EA es.length EC] 25))) := below_alloc w _
  have HA : Hid (At (w.alloc (.cells #[.int .i64 k, .string s, .int .i64 n, .slice EA es.length EC] 25)) w.heap.size #[.int .i64 k, .string s, .int .i64 n, .slice EA es.length EC] 25) := At.new _ _ _
  clear hi hx hF
  by_cases hb : k = 12 ∨ k = 13
  · rw [decide_eq_true hb] at IB
    have h9 : (k == 9) = false := by simp; omega
    have h9' : ¬ k = 9 := by omega
    have h1 : ¬ k < 1 := by omega
    have h13 : ¬ k > 13 := by omega
    rw [decide_eq_true (show 10 ≤ k ∧ k ≤ 13 by omega)] at HO
    have HB : Hid (k = 12 ∨ k = 13) := hb
    clear hb
    cases may with
    | false =>
      go_enter Tryz.func17, Tryz.ntmps17
      go_wp2_with (go_at_call 41; refine (IB.out _).mono ?_; rintro e' w1 ⟨rfl, rfl⟩)
      go_ret
      refine ⟨?_, HW1.out⟩
      rw [← HF.out, frm, if_pos ⟨HB.out, rfl⟩] <;> rfl
    | true =>
      rcases Nat.eq_zero_or_pos es.length with he | he
      · rw [he]
        rw [he] at HW1
        go_enter Tryz.func17, Tryz.ntmps17
        go_wp2_with (first
          | (go_at_call 41; refine (IB.out _).mono ?_; rintro e' w1 ⟨rfl, rfl⟩)
          | (go_at_call 40; refine (HO.out _).mono ?_; rintro e' w1 ⟨rfl, rfl⟩))
        go_ret
        refine ⟨?_, HW1.out⟩
        have h3 := HB.out
        rw [← HF.out, frm, if_neg (by simp), if_neg (by simp [h9']), if_pos (.inr (.inr ⟨by simp only; omega, by simp only; omega, he⟩))] <;> rfl
      · have he1 : ¬ (es.length : Int) = 0 := by omega
        have he2 : ((es.length : Int) == 0) = false := by simpa using he1
        have he3 : ¬ es.length = 0 := by omega
        go_enter Tryz.func17, Tryz.ntmps17
        go_wp2_with (first
          | (go_at_call 41; refine (IB.out _).mono ?_; rintro e' w1 ⟨rfl, rfl⟩)
          | (go_at_call 40; refine (HO.out _).mono ?_; rintro e' w1 ⟨rfl, rfl⟩))
        go_ret
        refine ⟨?_, HW1.out⟩
        have h3 := HB.out
        rw [← HF.out, frm, if_neg (by simp), if_neg (by simp [h9']), if_neg (by simp only; omega)] <;> rfl
  · rw [decide_eq_false hb] at IB
    have HB : Hid (¬ (k = 12 ∨ k = 13)) := hb
    clear hb
    by_cases h9 : k = 9
    · subst h9
      cases hh : hst is s with
      | false =>
        rw [hh] at HS
        have HH : Hid (hst is s = false) := hh
        clear hh
        go_enter Tryz.func17, Tryz.ntmps17
        go_wp2_with (first
          | (go_at_call 41; refine (IB.out _).mono ?_; rintro e' w1 ⟨rfl, rfl⟩)
          | (go_at_call 42; refine (HS.out _ HW1.out).mono ?_; rintro e' w1 ⟨rfl, hb1⟩; have BB : Hid (Below w.heap.size w w1) := below_next HW1.out hb1; clear hb1))
        go_ret
        refine ⟨?_, BB.out⟩
        rw [← HF.out, frm, if_neg (by simp), if_pos ⟨rfl, HH.out⟩] <;> rfl
      | true =>
        rw [hh] at HS
        rw [decide_eq_false (by omega)] at HO
        have HH : Hid (hst is s = true) := hh
        clear hh
        go_enter Tryz.func17, Tryz.ntmps17
        go_wp2_with (first
          | (go_at_call 41; refine (IB.out _).mono ?_; rintro e' w1 ⟨rfl, rfl⟩)
          | (go_at_call 42; refine (HS.out _ HW1.out).mono ?_; rintro e' w1 ⟨rfl, hb1⟩; have BB : Hid (Below w.heap.size w w1) := below_next HW1.out hb1; obtain ⟨c0, c1, c2, c3, z⟩ := cells4 (HA.out.below hb1 HA.out.lt); clear hb1)
          | (go_at_call 40; refine (HO.out _).mono ?_; rintro e' w1 ⟨rfl, rfl⟩))
        go_ret
        refine ⟨?_, BB.out⟩
        rw [← HF.out, frm, if_neg (by simp), if_neg (by simp [HH.out]), if_neg (by simp only; omega)] <;> rfl
    · have h9' : (k == 9) = false := by simpa using h9
      by_cases h1 : k < 1
      · go_enter Tryz.func17, Tryz.ntmps17
        go_wp2_with (go_at_call 41; refine (IB.out _).mono ?_; rintro e' w1 ⟨rfl, rfl⟩)
        go_ret
        refine ⟨?_, HW1.out⟩
        rw [← HF.out, frm, if_neg (fun h => HB.out h.1), if_neg (fun h => h9 h.1), if_pos (.inl h1)] <;> rfl
      · by_cases h13 : k > 13
        · go_enter Tryz.func17, Tryz.ntmps17
          go_wp2_with (go_at_call 41; refine (IB.out _).mono ?_; rintro e' w1 ⟨rfl, rfl⟩)
          go_ret
          refine ⟨?_, HW1.out⟩
          rw [← HF.out, frm, if_neg (fun h => HB.out h.1), if_neg (fun h => h9 h.1), if_pos (.inr (.inl h13))] <;> rfl
        · by_cases ho : 10 ≤ k ∧ k ≤ 13
          · rw [decide_eq_true ho] at HO
            have HH : Hid (10 ≤ k ∧ k ≤ 13) := ho
            clear ho
            rcases Nat.eq_zero_or_pos es.length with he | he
            · rw [he]
              rw [he] at HW1
              go_enter Tryz.func17, Tryz.ntmps17
              go_wp2_with (first
                | (go_at_call 41; refine (IB.out _).mono ?_; rintro e' w1 ⟨rfl, rfl⟩)
                | (go_at_call 40; refine (HO.out _).mono ?_; rintro e' w1 ⟨rfl, rfl⟩))
              go_ret
              refine ⟨?_, HW1.out⟩
              rw [← HF.out, frm, if_neg (fun h => HB.out h.1), if_neg (fun h => h9 h.1), if_pos (.inr (.inr ⟨HH.out.1, HH.out.2, he⟩))] <;> rfl
            · have he1 : ¬ (es.length : Int) = 0 := by omega
              have he2 : ((es.length : Int) == 0) = false := by simpa using he1
              have he3 : ¬ es.length = 0 := by omega
              go_enter Tryz.func17, Tryz.ntmps17
              go_wp2_with (first
                | (go_at_call 41; refine (IB.out _).mono ?_; rintro e' w1 ⟨rfl, rfl⟩)
                | (go_at_call 40; refine (HO.out _).mono ?_; rintro e' w1 ⟨rfl, rfl⟩))
              go_ret
              refine ⟨?_, HW1.out⟩
              rw [← HF.out, frm, if_neg (fun h => HB.out h.1), if_neg (fun h => h9 h.1), if_neg (by simp only; omega)] <;> rfl
          · rw [decide_eq_false ho] at HO
            have HH : Hid (¬ (10 ≤ k ∧ k ≤ 13)) := ho
            clear ho
            go_enter Tryz.func17, Tryz.ntmps17
            go_wp2_with (first
              | (go_at_call 41; refine (IB.out _).mono ?_; rintro e' w1 ⟨rfl, rfl⟩)
              | (go_at_call 40; refine (HO.out _).mono ?_; rintro e' w1 ⟨rfl, rfl⟩))
            go_ret
            refine ⟨?_, HW1.out⟩
            have h3 := HH.out
            rw [← HF.out, frm, if_neg (fun h => HB.out h.1), if_neg (fun h => h9 h.1), if_neg (by simp only; omega)] <;> rfl

end Go.Proofs.YtjdkoahbahecoaaGreatDoor
