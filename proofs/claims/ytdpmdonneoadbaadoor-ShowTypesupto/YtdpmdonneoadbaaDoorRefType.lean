/-
  Proved: the document's own text of a type, wherever it is not too long.
-/
import Derived.Test.YtdpmdonneoadbaaDoorCells
import Derived.Test.YtdpmdonneoadbaaDoorDigits
namespace Go.Proofs.YtdpmdonneoadbaaDoor
open Go.RowKit

/-- What a call that tells a type answers. -/
def TellC (f : FuncId) (t : T) : Prop := ∀ (w : World) (cs : List Value), TIn w t cs → Calls Tryd.prog f #[.agg cs.toArray] w fun e w' => e = .returned (.string (ofL t.text)) ∧ Below w.heap.size w w'

theorem text_word (k : Int) (s : ByteArray) (n : Int) (es : List T) (h : 1 ≤ k ∧ k ≤ 8) : (T.mk k s n es).text = wordOf k := by
  have : holdsB k es.length = false := by simp [holdsB]; omega
  rw [text_inner k s n es this]
  simp [inner, h]
theorem text_name (s : ByteArray) (n : Int) (es : List T) : (T.mk 9 s n es).text = s.data.toList := by
  rw [text_inner 9 s n es (by simp [holdsB])]
  simp [inner]
theorem text_none (k : Int) (s : ByteArray) (n : Int) (es : List T) (h1 : ¬ (1 ≤ k ∧ k ≤ 8)) (h2 : ¬ k = 9) (h3 : es = [] ∨ k < 10 ∨ 13 < k) : (T.mk k s n es).text = [63] := by
  have : holdsB k es.length = false := by
    rcases h3 with rfl | h3 | h3
    · simp [holdsB]
    · simp [holdsB]; omega
    · simp [holdsB]; omega
  rw [text_inner k s n es this]
  simp only [inner, if_neg h1, if_neg h2]
theorem text_held (k : Int) (s : ByteArray) (n : Int) (e : T) (es : List T) (h1 : 10 ≤ k) (h2 : k ≤ 13) : (T.mk k s n (e :: es)).text = opn k ++ e.text ++ cls k n := by
  have : holdsB k (e :: es).length = true := by simp [holdsB]; omega
  rw [T.text_cons, this]
  rfl

theorem two_alloc (w : World) (o1 o2 : Obj) : Below w.heap.size w ((w.alloc o1).alloc o2) := below_next (below_alloc _ _) (below_alloc _ _)

set_option maxRecDepth 20000 in
set_option maxHeartbeats 2000000 in
theorem rt_word (k : Int) (s : ByteArray) (n : Int) (A : Option Addr) (L C : Nat) (w : World) (h1 : 1 ≤ k ∧ k ≤ 8) :
    Calls Tryd.prog 6 #[.agg #[.int .i64 k, .string s, .int .i64 n, .slice A L C]] w fun e w' => e = .returned (.string (ofL (wordOf k))) ∧ Below w.heap.size w w' := by
  have hc : k = 1 ∨ k = 2 ∨ k = 3 ∨ k = 4 ∨ k = 5 ∨ k = 6 ∨ k = 7 ∨ k = 8 := by omega
  clear h1
  rcases hc with rfl | rfl | rfl | rfl | rfl | rfl | rfl | rfl <;>
  · go_enter Tryd.func6, Tryd.ntmps6
    go_wp2_with fail
    go_ret
    exact ⟨rfl, two_alloc _ _ _⟩

set_option maxRecDepth 20000 in
theorem rt_name (s : ByteArray) (n : Int) (A : Option Addr) (L C : Nat) (w : World) :
    Calls Tryd.prog 6 #[.agg #[.int .i64 9, .string s, .int .i64 n, .slice A L C]] w fun e w' => e = .returned (.string s) ∧ Below w.heap.size w w' := by
  go_enter Tryd.func6, Tryd.ntmps6
  go_wp2_with fail
  go_ret
  exact ⟨rfl, two_alloc _ _ _⟩

set_option maxRecDepth 20000 in
theorem rt_none (k : Int) (s : ByteArray) (n : Int) (A : Option Addr) (C : Nat) (w : World) (h1 : ¬ (1 ≤ k ∧ k ≤ 8)) (h2 : ¬ k = 9) :
    Calls Tryd.prog 6 #[.agg #[.int .i64 k, .string s, .int .i64 n, .slice A 0 C]] w fun e w' => e = .returned (.string (ofL [63])) ∧ Below w.heap.size w w' := by
  have g : (k == 9) = false := by simpa using h2
  by_cases h3 : 1 ≤ k
  · have h4 : ¬ k ≤ 8 := by omega
    have h5 : decide (k ≤ 8) = false := by simpa using h4
    clear h1
    go_enter Tryd.func6, Tryd.ntmps6
    go_wp2_with fail
    go_ret
    exact ⟨rfl, two_alloc _ _ _⟩
  · have h5 : decide (1 ≤ k) = false := by simpa using h3
    clear h1
    go_enter Tryd.func6, Tryd.ntmps6
    go_wp2_with fail
    go_ret
    exact ⟨rfl, two_alloc _ _ _⟩

/-- What is told of a type by the text of the one that it is of. -/
def told (k n : Int) (own : ByteArray) : ByteArray :=
  if k = 10 then ⟨#[91]⟩ ++ own ++ ⟨#[59, 32]⟩ ++ ofL (Lib.itoa n) ++ ⟨#[93]⟩ else if k = 11 then ⟨#[66, 111, 120, 60]⟩ ++ own ++ ⟨#[62]⟩ else if k = 12 then ⟨#[38]⟩ ++ own else if k = 13 then ⟨#[38, 109, 117, 116, 32]⟩ ++ own else ⟨#[63]⟩

set_option maxRecDepth 20000 in
set_option maxHeartbeats 2000000 in
theorem rt_held (k : Int) (s : ByteArray) (n : Int) (b o L C : Nat) (w : World) (h1 : ¬ (1 ≤ k ∧ k ≤ 8)) (h2 : ¬ k = 9) (hL : 0 < L) (hn : -9223372036854775808 ≤ n ∧ n ≤ 9223372036854775807)
    (k' : Int) (s' : ByteArray) (n' : Int) (A' : Option Addr) (L' C' : Nat) (hr : RowAt w b o [.int .i64 k', .string s', .int .i64 n', .slice A' L' C']) (own : ByteArray) (ho : own.size ≤ 1099511627776)
    (hc : ∀ w', Below w.heap.size w w' → Calls Tryd.prog 6 #[.agg #[.int .i64 k', .string s', .int .i64 n', .slice A' L' C']] w' fun e w'' => e = .returned (.string own) ∧ Below w'.heap.size w' w'') :
    Calls Tryd.prog 6 #[.agg #[.int .i64 k, .string s, .int .i64 n, .slice (some ⟨b, o, none⟩) L C]] w fun e w' => e = .returned (.string (told k n own)) ∧ Below w.heap.size w w' := by
  have g : (k == 9) = false := by simpa using h2
  have HC : Hid (∀ w', Below w.heap.size w w' → Calls Tryd.prog 6 #[.agg #[.int .i64 k', .string s', .int .i64 n', .slice A' L' C']] w' fun e w'' => e = .returned (.string own) ∧ Below w'.heap.size w' w'') := hc
  have HN : Hid (∀ w', Calls Tryd.prog 15 #[.int .i64 n] w' fun e w'' => e = .returned (.string (ofL (Lib.itoa n))) ∧ w'' = w') := fun w' => number_c n hn.1 hn.2 w'
  have zn : (ofL (Lib.itoa n)).size ≤ 21 := by rw [ofL_size]; exact itoa_len n hn.1 hn.2
  have x0 := hr.2 0 _ rfl
  have x1 := hr.2 1 _ rfl
  have x2 := hr.2 2 _ rfl
  have x3 := hr.2 3 _ rfl
  simp only [Nat.add_zero] at x0
  have lb := hr.1
  have z0 : ¬ (L : Int) = 0 := by omega
  have z1 : ((L : Int) == 0) = false := by simpa using z0
  have z2 : (0 : Int) < (L : Int) := by omega
  have nb : ¬ b = w.heap.size := by omega
  have nb1 : ¬ b = w.heap.size + 1 := by omega
  unfold told
  generalize ofL (Lib.itoa n) = num at HN zn
  have hk : (1 ≤ k ∧ decide (k ≤ 8) = false) ∨ decide (1 ≤ k) = false := by
    by_cases h3 : 1 ≤ k
    · exact Or.inl ⟨h3, by simp; omega⟩
    · exact Or.inr (by simpa using h3)
  clear hr hc h1 hn
  rcases hk with ⟨h3, h4⟩ | h4
  · by_cases e10 : k = 10
    · subst e10
      rw [if_pos rfl]
      go_enter Tryd.func6, Tryd.ntmps6
      go_wp2_with (first
        | (go_at_call 15; refine (HN.out _).mono ?_; rintro e w1 ⟨rfl, rfl⟩)
        | (go_at_call 6; refine (HC.out _ (two_alloc _ _ _)).mono ?_; rintro e w1 ⟨rfl, hb⟩; have M : Hid (Below w.heap.size w w1) := below_next (two_alloc _ _ _) hb; have cc := (bcell hb).1; clear hb))
      go_ret
      exact ⟨rfl, M.out⟩
    · have q10 : (k == 10) = false := by simpa using e10
      rw [if_neg e10]
      by_cases e11 : k = 11
      · subst e11
        rw [if_pos rfl]
        go_enter Tryd.func6, Tryd.ntmps6
        go_wp2_with (go_at_call 6; refine (HC.out _ (two_alloc _ _ _)).mono ?_; rintro e w1 ⟨rfl, hb⟩; have M : Hid (Below w.heap.size w w1) := below_next (two_alloc _ _ _) hb; have cc := (bcell hb).1; clear hb)
        go_ret
        exact ⟨rfl, M.out⟩
      · have q11 : (k == 11) = false := by simpa using e11
        rw [if_neg e11]
        by_cases e12 : k = 12
        · subst e12
          rw [if_pos rfl]
          go_enter Tryd.func6, Tryd.ntmps6
          go_wp2_with (go_at_call 6; refine (HC.out _ (two_alloc _ _ _)).mono ?_; rintro e w1 ⟨rfl, hb⟩; have M : Hid (Below w.heap.size w w1) := below_next (two_alloc _ _ _) hb; have cc := (bcell hb).1; clear hb)
          go_ret
          exact ⟨rfl, M.out⟩
        · have q12 : (k == 12) = false := by simpa using e12
          rw [if_neg e12]
          by_cases e13 : k = 13
          · subst e13
            rw [if_pos rfl]
            go_enter Tryd.func6, Tryd.ntmps6
            go_wp2_with (go_at_call 6; refine (HC.out _ (two_alloc _ _ _)).mono ?_; rintro e w1 ⟨rfl, hb⟩; have M : Hid (Below w.heap.size w w1) := below_next (two_alloc _ _ _) hb; have cc := (bcell hb).1; clear hb)
            go_ret
            exact ⟨rfl, M.out⟩
          · have q13 : (k == 13) = false := by simpa using e13
            rw [if_neg e13]
            go_enter Tryd.func6, Tryd.ntmps6
            go_wp2_with (go_at_call 6; refine (HC.out _ (two_alloc _ _ _)).mono ?_; rintro e w1 ⟨rfl, hb⟩; have M : Hid (Below w.heap.size w w1) := below_next (two_alloc _ _ _) hb; have cc := (bcell hb).1; clear hb)
            go_ret
            exact ⟨rfl, M.out⟩
  · have h5 : ¬ 1 ≤ k := by simpa using h4
    have e10 : ¬ k = 10 := by omega
    have e11 : ¬ k = 11 := by omega
    have e12 : ¬ k = 12 := by omega
    have e13 : ¬ k = 13 := by omega
    have q10 : (k == 10) = false := by simpa using e10
    have q11 : (k == 11) = false := by simpa using e11
    have q12 : (k == 12) = false := by simpa using e12
    have q13 : (k == 13) = false := by simpa using e13
    rw [if_neg e10, if_neg e11, if_neg e12, if_neg e13]
    go_enter Tryd.func6, Tryd.ntmps6
    go_wp2_with (go_at_call 6; refine (HC.out _ (two_alloc _ _ _)).mono ?_; rintro e w1 ⟨rfl, hb⟩; have M : Hid (Below w.heap.size w w1) := below_next (two_alloc _ _ _) hb; have cc := (bcell hb).1; clear hb)
    go_ret
    exact ⟨rfl, M.out⟩

theorem told_held (k n : Int) (l : List UInt8) (h1 : 10 ≤ k) (h2 : k ≤ 13) : told k n (ofL l) = ofL (opn k ++ l ++ cls k n) := by
  have hc : k = 10 ∨ k = 11 ∨ k = 12 ∨ k = 13 := by omega
  clear h1 h2
  rcases hc with rfl | rfl | rfl | rfl
  · show ofL [91] ++ ofL l ++ ofL [59, 32] ++ ofL (Lib.itoa n) ++ ofL [93] = ofL ([91] ++ l ++ ([59, 32] ++ Lib.itoa n ++ [93]))
    simp only [ofL_append, List.append_assoc]
  · show ofL [66, 111, 120, 60] ++ ofL l ++ ofL [62] = ofL ([66, 111, 120, 60] ++ l ++ [62])
    simp only [ofL_append]
  · show ofL [38] ++ ofL l = ofL ([38] ++ l ++ [])
    simp only [ofL_append, List.append_nil]
  · show ofL [38, 109, 117, 116, 32] ++ ofL l = ofL ([38, 109, 117, 116, 32] ++ l ++ [])
    simp only [ofL_append, List.append_nil]

theorem told_none (k n : Int) (own : ByteArray) (h : k < 10 ∨ 13 < k) : told k n own = ofL [63] := by
  unfold told
  rw [if_neg (by omega), if_neg (by omega), if_neg (by omega), if_neg (by omega)]
  rfl

theorem rtype_c : ∀ t : T, t.fits → t.big + 40 * (t.deepT + 1) ≤ 1099511627776 → TellC 6 t
  | .mk k s n [], _, _ => by
    intro w cs h
    obtain ⟨A, C, rfl, _⟩ := h.inv
    clear h
    show Calls Tryd.prog 6 #[.agg #[.int .i64 k, .string s, .int .i64 n, .slice A 0 C]] w _
    by_cases h1 : 1 ≤ k ∧ k ≤ 8
    · rw [text_word k s n [] h1]
      exact rt_word k s n A 0 C w h1
    · by_cases h2 : k = 9
      · subst h2
        rw [text_name, ofL_data]
        exact rt_name s n A 0 C w
      · rw [text_none k s n [] h1 h2 (Or.inl rfl)]
        exact rt_none k s n A C w h1 h2
  | .mk k s n (e :: es), hf, hb => by
    intro w cs h
    obtain ⟨A, C, rfl, ta⟩ := h.inv
    clear h
    show Calls Tryd.prog 6 #[.agg #[.int .i64 k, .string s, .int .i64 n, .slice A (e :: es).length C]] w _
    by_cases h1 : 1 ≤ k ∧ k ≤ 8
    · rw [text_word k s n _ h1]
      exact rt_word k s n A _ C w h1
    · by_cases h2 : k = 9
      · subst h2
        rw [text_name, ofL_data]
        exact rt_name s n A _ C w
      · have hbig : e.big + 40 * (e.deepT + 1) ≤ 1099511627776 := by
          rw [T.deepT_cons] at hb
          have : (T.mk k s n (e :: es)).big = s.size + e.big := by simp [T.big]
          omega
        have hfe : e.fits := hf.2
        have ih := rtype_c e hfe hbig
        have hlen := T.text_len e hfe
        obtain ⟨b, o, cs', rfl, hr, ht⟩ := ta.2 0 (by simp)
        have ht : TIn w e cs' := ht
        have hr : RowAt w b o cs' := by simpa using hr
        have ih' : ∀ w', Below w.heap.size w w' → Calls Tryd.prog 6 #[.agg cs'.toArray] w' fun e' w'' => e' = .returned (.string (ofL e.text)) ∧ Below w'.heap.size w' w'' := fun w' hw => ih w' cs' (ht.stays hw)
        have goal : Calls Tryd.prog 6 #[.agg #[.int .i64 k, .string s, .int .i64 n, .slice (some ⟨b, o, none⟩) (e :: es).length C]] w fun e' w' => e' = .returned (.string (told k n (ofL e.text))) ∧ Below w.heap.size w w' := by
          generalize e.text = tx at ih' hlen
          obtain ⟨k', s', n', es'⟩ := e
          obtain ⟨A', C', rfl, _⟩ := ht.inv
          exact rt_held k s n b o _ C w h1 h2 (by simp) hf.1 k' s' n' A' _ C' hr (ofL tx) (by rw [ofL_size]; omega) ih'
        by_cases h3 : k < 10 ∨ 13 < k
        · rw [text_none k s n _ h1 h2 (Or.inr h3), ← told_none k n (ofL e.text) h3]
          exact goal
        · rw [text_held k s n e es (by omega) (by omega), ← told_held k n e.text (by omega) (by omega)]
          exact goal

end Go.Proofs.YtdpmdonneoadbaaDoor
