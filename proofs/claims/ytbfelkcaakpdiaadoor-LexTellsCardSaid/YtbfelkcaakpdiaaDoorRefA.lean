/-
  Proved: what the document's own functions letter, digit, has, Word, sign answer (the package ferruleref02); nothing that was in memory turns.
-/
import Derived.Test.YtbfelkcaakpdiaaDoorLexC
namespace Go.Proofs.YtbfelkcaakpdiaaDoor
open Go.RowKit

theorem letter_c (c : UInt8) (w : World) :
    Calls Tryd.prog 20 #[.int .u8 (c.toNat : Int)] w fun e w' => e = .returned (.bool (isLet c)) ∧ w' = w := by
  unfold isLet
  generalize (c.toNat : Int) = n
  go_enter Tryd.func20, Tryd.ntmps20
  go_wp2
  all_goals go_ret
  all_goals (refine ⟨?_, rfl⟩; first | rfl | (simp only [Ending.returned.injEq, Array.getD_eq_getD_getElem?]; simp; omega) | (by_cases h1 : 97 ≤ n <;> by_cases h2 : n ≤ 122 <;> by_cases h3 : 65 ≤ n <;> by_cases h4 : n ≤ 90 <;> by_cases h5 : n = 95 <;> first | omega | simp [h1, h2, h3, h4, h5]))

theorem rdigit_c (c : UInt8) (w : World) :
    Calls Tryd.prog 21 #[.int .u8 (c.toNat : Int)] w fun e w' => e = .returned (.bool (isDig c)) ∧ w' = w := by
  unfold isDig
  generalize (c.toNat : Int) = n
  go_enter Tryd.func21, Tryd.ntmps21
  go_wp2
  all_goals go_ret
  all_goals (refine ⟨?_, rfl⟩; first | rfl | (simp only [Ending.returned.injEq, Array.getD_eq_getD_getElem?]; simp; omega) | (by_cases h1 : 48 ≤ n <;> by_cases h2 : n ≤ 57 <;> first | omega | simp [h1, h2]))

def strs (ls : List Bs) : Array Value := (ls.map fun s => Value.string (ofL s)).toArray

/-- Strings lie in block g. -/
def SR (w : World) (g : Nat) (ls : List Bs) : Prop := ∀ i x, ls[i]? = some x → w.cell? ⟨g, i, none⟩ = some (.string (ofL x))

theorem sr_new (w : World) (ls : List Bs) : SR (w.alloc (.cells (strs ls) 9)) w.heap.size ls := by
  intro i x hx
  have : (w.alloc (.cells (strs ls) 9)).cell? ⟨w.heap.size, i, none⟩ = (strs ls)[i]? := World.cell?_alloc_mark w (strs ls) 9 (0, 0) i
  rw [this]
  simp [strs, hx]

theorem sr_new2 (w : World) (o : Obj) (ls : List Bs) : SR ((w.alloc o).alloc (.cells (strs ls) 9)) (w.heap.size + 1) ls := by
  have := sr_new (w.alloc o) ls
  have e : (w.alloc o).heap.size = w.heap.size + 1 := by simp
  rwa [e] at this

theorem contains_take (ls : List Bs) (s x : Bs) (k : Nat) (h : ls[k]? = some x) : (ls.take (k + 1)).contains s = ((ls.take k).contains s || (x == s)) := by
  obtain ⟨hk, e⟩ := List.getElem?_eq_some_iff.1 h
  rw [← List.take_append_getElem hk, e, Bool.eq_iff_iff]
  simp only [List.contains_iff_mem, List.mem_append, List.mem_singleton, Bool.or_eq_true, beq_iff_eq]
  exact or_congr Iff.rfl eq_comm

theorem has_c (g cap n : Nat) (ls : List Bs) (s : Bs) (w : World) (h : SR w g ls) (hn : ls.length = n) (hm : n ≤ 1000) :
    Calls Tryd.prog 27 #[.slice (some ⟨g, 0, none⟩) n cap, .string (ofL s)] w fun e w' => e = .returned (.bool (ls.contains s)) ∧ w' = w := by
  have S : Hid (SR w g ls) := h
  have htl := ofL_toList
  generalize hR : ls.contains s = R
  have HR : Hid (ls.contains s = R) := hR
  have HN : Hid (ls.length = n) := hn
  clear h hR hn
  go_enter Tryd.func27, Tryd.ntmps27
  go_wp2
  go_loop [5] (fun i => ∃ k : Nat, k ≤ n ∧ i = .int .i64 (k : Int) ∧ (ls.take k).contains s = false) (fun i => n - (intOf i).toNat)
  case atStart => exact ⟨0, Nat.zero_le _, rfl, by simp⟩
  case round =>
    obtain ⟨k, hk, rfl, hr⟩ := hrel
    have K : Hid ((ls.take k).contains s = false) := hr
    clear hr
    by_cases hlt : k < n
    · obtain ⟨x, hx⟩ : ∃ x, ls[k]? = some x := ⟨ls[k]'(by rw [HN.out]; exact hlt), List.getElem?_eq_getElem _⟩
      have hc := S.out k x hx
      have X : Hid ((ls.take (k + 1)).contains s = ((ls.take k).contains s || (x == s))) := contains_take ls s x k hx
      have HX : Hid (ls[k]? = some x) := hx
      clear hx
      go_wp2
      · have he : (x == s) = true := by assumption
        have e1 : R = true := by
          rw [← HR.out, List.contains_iff_mem]
          rw [← eq_of_beq he]
          exact List.mem_of_getElem? HX.out
        subst e1
        go_ret
        exact ⟨rfl, rfl⟩
      · have he : (x == s) = false := by assumption
        go_round
        case rel => exact ⟨k + 1, by omega, by go_num, by rw [X.out, K.out, he]; rfl⟩
        case measure => simp [intOf]; omega
    · have e1 : R = false := by
        rw [← HR.out, ← K.out, List.take_of_length_le (by rw [HN.out]; omega)]
      subst e1
      go_wp2
      go_ret
      exact ⟨rfl, rfl⟩

theorem strs_words : (#[Value.string { data := #[102, 110] }, Value.string { data := #[115, 116, 114, 117, 99, 116] }, Value.string { data := #[101, 110, 117, 109] }, Value.string { data := #[99, 111, 110, 115, 116] }, Value.string { data := #[108, 101, 116] }, Value.string { data := #[109, 117, 116] }, Value.string { data := #[105, 102] }, Value.string { data := #[101, 108, 115, 101] }, Value.string { data := #[109, 97, 116, 99, 104] }, Value.string { data := #[119, 104, 105, 108, 101] }, Value.string { data := #[108, 111, 111, 112] }, Value.string { data := #[98, 114, 101, 97, 107] }, Value.string { data := #[99, 111, 110, 116, 105, 110, 117, 101] }, Value.string { data := #[114, 101, 116, 117, 114, 110] }, Value.string { data := #[116, 114, 117, 101] }, Value.string { data := #[102, 97, 108, 115, 101] }, Value.string { data := #[97, 115] }] : Array Value) = strs wordsL := rfl
theorem rword_c (s : Bs) (w : World) : Calls Tryd.prog 14 #[.string (ofL s)] w fun e w' => e = .returned (.bool (isWord s)) ∧ Below w.heap.size w w' := by
  have hw := strs_words
  have Q : Hid (wordsL.contains s = isWord s) := rfl
  generalize isWord s = q at Q
  go_enter Tryd.func14, Tryd.ntmps14
  go_wp2_with (go_at_call 27; refine (has_c _ _ 17 wordsL s _ (sr_new _ _) rfl (by decide)).mono ?_; rintro e w' ⟨rfl, he⟩; rw [Q.out]; subst he)
  go_ret
  exact ⟨rfl, below_alloc _ _⟩

def twoL : List Bs := [[45, 62], [61, 62], [58, 58], [61, 61], [33, 61], [60, 61], [62, 61], [38, 38], [124, 124], [60, 60], [62, 62]]
def oneL : List Bs := [[40], [41], [123], [125], [91], [93], [60], [62], [43], [45], [42], [47], [37], [38], [124], [94], [33], [61], [44], [59], [58], [46]]
theorem strs_two : (#[Value.string { data := #[45, 62] }, Value.string { data := #[61, 62] }, Value.string { data := #[58, 58] }, Value.string { data := #[61, 61] }, Value.string { data := #[33, 61] }, Value.string { data := #[60, 61] }, Value.string { data := #[62, 61] }, Value.string { data := #[38, 38] }, Value.string { data := #[124, 124] }, Value.string { data := #[60, 60] }, Value.string { data := #[62, 62] }] : Array Value) = strs twoL := rfl
theorem strs_one : (#[Value.string { data := #[40] }, Value.string { data := #[41] }, Value.string { data := #[123] }, Value.string { data := #[125] }, Value.string { data := #[91] }, Value.string { data := #[93] }, Value.string { data := #[60] }, Value.string { data := #[62] }, Value.string { data := #[43] }, Value.string { data := #[45] }, Value.string { data := #[42] }, Value.string { data := #[47] }, Value.string { data := #[37] }, Value.string { data := #[38] }, Value.string { data := #[124] }, Value.string { data := #[94] }, Value.string { data := #[33] }, Value.string { data := #[61] }, Value.string { data := #[44] }, Value.string { data := #[59] }, Value.string { data := #[58] }, Value.string { data := #[46] }] : Array Value) = strs oneL := rfl

theorem sign_len (l : Bs) (n : Nat) (hn : 0 < n) : ∀ ss : List Bs, (∀ s ∈ ss, s.length = n) → signFrom l ss = if n ≤ l.length ∧ ss.contains (l.take n) = true then n else 0
  | [], _ => by simp [signFrom]
  | s :: r, h => by
    have hs := h s (by simp)
    have ih := sign_len l n hn r (fun x hx => h x (by simp [hx]))
    simp only [signFrom, pre_eq, hs]
    by_cases h1 : n ≤ l.length
    · by_cases h2 : l.take n = s
      · have h3 : (s :: r).contains (l.take n) = true := by rw [h2]; simp
        rw [if_pos (by simp [h1, h2]), if_pos ⟨h1, h3⟩]
      · have h3 : (s :: r).contains (l.take n) = r.contains (l.take n) := by
          rw [List.contains_cons]
          have : (l.take n == s) = false := by simpa using h2
          rw [this, Bool.false_or]
        rw [if_neg (by simp [h2]), ih, h3]
    · rw [if_neg (by simp [h1]), ih, if_neg (fun h => h1 h.1), if_neg (fun h => h1 h.1)]

theorem sign_app (l : Bs) (b : List Bs) : ∀ a : List Bs, (∀ s ∈ a, 0 < s.length) → signFrom l (a ++ b) = if signFrom l a = 0 then signFrom l b else signFrom l a
  | [], _ => by simp [signFrom]
  | s :: r, h => by
    have hs := h s (by simp)
    have ih := sign_app l b r (fun x hx => h x (by simp [hx]))
    simp only [List.cons_append, signFrom, ih]
    split
    · rw [if_neg (by omega)]
    · rfl

theorem sign_two (l : Bs) : signLen l = if 2 ≤ l.length ∧ twoL.contains (l.take 2) = true then 2 else if 1 ≤ l.length ∧ oneL.contains (l.take 1) = true then 1 else 0 := by
  have e : signsL = twoL ++ oneL := rfl
  unfold signLen
  rw [e, sign_app l oneL twoL (by decide), sign_len l 2 (by decide) twoL (by decide), sign_len l 1 (by decide) oneL (by decide)]
  by_cases h : 2 ≤ l.length ∧ twoL.contains (l.take 2) = true
  · rw [if_pos h, if_neg (by decide), if_pos h]
  · rw [if_neg h, if_pos rfl, if_neg h]

theorem rsign_2 (l : Bs) (w : World) (hl : 2 ≤ l.length) (HA : Hid (twoL.contains (l.take 2) = true)) : Calls Tryd.prog 22 #[.string (ofL l)] w fun e w' => e = .returned (.int .i64 2) ∧ Below w.heap.size w w' := by
  have h1 := strs_two
  have h2 := strs_one
  have hz := ofL_size l
  have x1 := extract_take l 2
  have x2 := extract_take l 1
  go_enter Tryd.func22, Tryd.ntmps22
  go_wp2_with (go_at_call 27; refine (has_c _ _ 11 twoL (l.take 2) _ (sr_new _ _) rfl (by decide)).mono ?_; rintro e w1 ⟨rfl, he⟩; rw [HA.out]; subst he; have MK : Hid (0 < 1) := Nat.one_pos)
  go_ret
  exact ⟨rfl, below_alloc _ _⟩

set_option maxHeartbeats 600000 in
theorem rsign_1 (l : Bs) (B : Bool) (w : World) (hl : 2 ≤ l.length) (HA : Hid (twoL.contains (l.take 2) = false)) (HB : Hid (oneL.contains (l.take 1) = B)) : Calls Tryd.prog 22 #[.string (ofL l)] w fun e w' => e = .returned (.int .i64 (if B then 1 else 0)) ∧ Below w.heap.size w w' := by
  have h1 := strs_two
  have h2 := strs_one
  have hz := ofL_size l
  have x1 := extract_take l 2
  have x2 := extract_take l 1
  go_enter Tryd.func22, Tryd.ntmps22
  go_wp2_with (first
      | (go_at_call 27; have MK' := MK; refine (has_c _ _ 22 oneL (l.take 1) _ (sr_new2 _ _ _) rfl (by decide)).mono ?_; rintro e w2 ⟨rfl, he⟩; rw [HB.out]; subst he)
      | (go_at_call 27; refine (has_c _ _ 11 twoL (l.take 2) _ (sr_new _ _) rfl (by decide)).mono ?_; rintro e w1 ⟨rfl, he⟩; rw [HA.out]; subst he; have MK : Hid (0 < 1) := Nat.one_pos))
  all_goals go_ret
  all_goals exact ⟨by simp_all, below2 _ _ _⟩

theorem rsign_0 (l : Bs) (B : Bool) (w : World) (hl : l.length = 1) (HB : Hid (oneL.contains (l.take 1) = B)) : Calls Tryd.prog 22 #[.string (ofL l)] w fun e w' => e = .returned (.int .i64 (if B then 1 else 0)) ∧ Below w.heap.size w w' := by
  have h1 := strs_two
  have h2 := strs_one
  have hz := ofL_size l
  have x1 := extract_take l 2
  have x2 := extract_take l 1
  go_enter Tryd.func22, Tryd.ntmps22
  go_wp2_with (go_at_call 27; refine (has_c _ _ 22 oneL (l.take 1) _ (sr_new _ _) rfl (by decide)).mono ?_; rintro e w2 ⟨rfl, he⟩; rw [HB.out]; subst he)
  all_goals go_ret
  all_goals exact ⟨by simp_all, below_alloc _ _⟩

theorem rsign_e (w : World) : Calls Tryd.prog 22 #[.string (ofL [])] w fun e w' => e = .returned (.int .i64 0) ∧ Below w.heap.size w w' := by
  have h1 := strs_two
  have h2 := strs_one
  have hz : (ofL []).size = 0 := ofL_size []
  go_enter Tryd.func22, Tryd.ntmps22
  go_wp2
  go_ret
  exact ⟨rfl, Below.refl _ _⟩

theorem rsign_c (l : Bs) (w : World) : Calls Tryd.prog 22 #[.string (ofL l)] w fun e w' => e = .returned (.int .i64 (signLen l : Int)) ∧ Below w.heap.size w w' := by
  rw [sign_two]
  by_cases h2 : 2 ≤ l.length
  · by_cases hA : twoL.contains (l.take 2) = true
    · rw [if_pos ⟨h2, hA⟩]
      exact rsign_2 l w h2 hA
    · rw [if_neg (fun h => hA h.2)]
      have := rsign_1 l _ w h2 (eq_false_of_ne_true hA) rfl
      by_cases hB : oneL.contains (l.take 1) = true
      · rw [hB] at this
        rw [if_pos ⟨by omega, hB⟩]
        exact this
      · have hB' : oneL.contains (l.take 1) = false := eq_false_of_ne_true hB
        rw [hB'] at this
        rw [if_neg (fun h => hB h.2)]
        exact this
  · rw [if_neg (fun h => h2 h.1)]
    by_cases h1 : l.length = 1
    · have := rsign_0 l _ w h1 rfl
      by_cases hB : oneL.contains (l.take 1) = true
      · rw [hB] at this
        rw [if_pos ⟨by omega, hB⟩]
        exact this
      · have hB' : oneL.contains (l.take 1) = false := eq_false_of_ne_true hB
        rw [hB'] at this
        rw [if_neg (fun h => hB h.2)]
        exact this
    · have h0 : l = [] := List.length_eq_zero_iff.1 (by omega)
      subst h0
      exact rsign_e w
end Go.Proofs.YtbfelkcaakpdiaaDoor
