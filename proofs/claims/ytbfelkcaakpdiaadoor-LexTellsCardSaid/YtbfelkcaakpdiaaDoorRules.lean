/-
  Proved: what the closures of lex.rulesOf answer, wherever their source and the map of words lie.
-/
import Derived.Test.YtbfelkcaakpdiaaDoorNumber
import Derived.Test.YtbfelkcaakpdiaaDoorWords
namespace Go.Proofs.YtbfelkcaakpdiaaDoor
open Go.RowKit

/-- What the rules stand on: the source's bytes, its box, the map's box, the map, the table of signs, and the nine functions. -/
structure Env (w : World) (B sb cap : Nat) (l : Bs) : Prop where
  tab : Tab w
  ba : BA w sb 0 l
  lc : l.length ≤ cap
  lm : l.length < 4611686018427387904
  box : w.cell? ⟨B, 0, none⟩ = some (.slice (some ⟨sb, 0, none⟩) l.length cap)
  map : w.cell? ⟨B + 2, 0, none⟩ = some (.map (some (B + 1)))
  words : WordsAt w (B + 1)
  lt : B + 3 < w.heap.size
  f0 : w.cell? ⟨B + 3, 0, none⟩ = some (.func (.func 31) #[] #[.pointer (some ⟨B, 0, none⟩)])
  f1 : w.cell? ⟨B + 3, 1, none⟩ = some (.func (.func 29) #[] #[.pointer (some ⟨B, 0, none⟩)])
  f2 : w.cell? ⟨B + 3, 2, none⟩ = some (.func (.func 33) #[] #[.pointer (some ⟨B + 2, 0, none⟩)])
  f3 : w.cell? ⟨B + 3, 3, none⟩ = some (.func (.func 35) #[] #[.pointer (some ⟨B, 0, none⟩)])
  f4 : w.cell? ⟨B + 3, 4, none⟩ = some (.func (.func 29) #[] #[.pointer (some ⟨B, 0, none⟩)])
  f5 : w.cell? ⟨B + 3, 5, none⟩ = some (.func (.func 36) #[] #[])
  f6 : w.cell? ⟨B + 3, 6, none⟩ = some (.func (.func 37) #[] #[.pointer (some ⟨B, 0, none⟩)])
  f7 : w.cell? ⟨B + 3, 7, none⟩ = some (.func (.func 39) #[] #[.pointer (some ⟨B, 0, none⟩)])
  f8 : w.cell? ⟨B + 3, 8, none⟩ = some (.func (.func 40) #[] #[])

theorem Env.below {w w' : World} {B sb cap : Nat} {l : Bs} (h : Env w B sb cap l) (k : Below w.heap.size w w') : Env w' B sb cap l := by
  have hlt := h.lt
  have c0 : ∀ o, w'.cell? ⟨B, o, none⟩ = w.cell? ⟨B, o, none⟩ := fun o => k.cell (p := ⟨B, o, none⟩) (by show B < _; omega)
  have c2 : ∀ o, w'.cell? ⟨B + 2, o, none⟩ = w.cell? ⟨B + 2, o, none⟩ := fun o => k.cell (p := ⟨B + 2, o, none⟩) (by show B + 2 < _; omega)
  have c3 : ∀ o, w'.cell? ⟨B + 3, o, none⟩ = w.cell? ⟨B + 3, o, none⟩ := fun o => k.cell (p := ⟨B + 3, o, none⟩) hlt
  exact ⟨h.tab.below k, h.ba.below k, h.lc, h.lm, (c0 _).trans h.box, (c2 _).trans h.map, h.words.below k, Nat.lt_of_lt_of_le hlt k.size, (c3 _).trans h.f0, (c3 _).trans h.f1, (c3 _).trans h.f2, (c3 _).trans h.f3, (c3 _).trans h.f4, (c3 _).trans h.f5, (c3 _).trans h.f6, (c3 _).trans h.f7, (c3 _).trans h.f8⟩

theorem Env.rest {w : World} {B sb cap : Nat} {l : Bs} (h : Env w B sb cap l) (n : Nat) : BA w sb n (l.drop n) := by
  have := h.ba.drop n
  rwa [Nat.zero_add] at this

theorem end_c {w : World} {B sb cap : Nat} {l : Bs} (h : Env w B sb cap l) (n : Nat) (hn : n ≤ l.length) :
    Calls Tryd.prog 29 #[.int .i64 (n : Int), .pointer (some ⟨B, 0, none⟩)] w fun e w' => e = .returned (.int .i64 ((n + run isOn (l.drop n) : Nat) : Int)) ∧ w' = w := by
  have E : Hid (Env w B sb cap l) := h
  have hb := h.box
  clear h
  go_enter Tryd.func29, Tryd.ntmps29
  go_wp2_with (first
      | (go_at_call 23; refine (pastOn _ 0 _ n l _ E.out.ba hn E.out.lm).mono ?_; rintro e w' ⟨rfl, he⟩; subst he)
      | go_in)
  go_ret
  exact ⟨by simp, rfl⟩

theorem name_c {w : World} {B sb cap : Nat} {l : Bs} (h : Env w B sb cap l) (n : Nat) (hn : n < l.length) :
    Calls Tryd.prog 31 #[.int .i64 (n : Int), .pointer (some ⟨B, 0, none⟩)] w fun e w' => e = .returned (.bool (isLet l[n])) ∧ w' = w := by
  have E : Hid (Env w B sb cap l) := h
  have hb := h.box
  have hm := h.lm
  have hc := h.ba.cell n hn
  rw [Nat.zero_add] at hc
  generalize l[n] = c at hc
  clear h
  go_enter Tryd.func31, Tryd.ntmps31
  go_wp2_with (first
      | (go_at_call 32; refine (beginsName_c c _).mono ?_; rintro e w' ⟨rfl, he⟩; subst he)
      | go_in)
  go_ret
  exact ⟨rfl, rfl⟩

theorem digit_c {w : World} {B sb cap : Nat} {l : Bs} (h : Env w B sb cap l) (n : Nat) (hn : n < l.length) :
    Calls Tryd.prog 35 #[.int .i64 (n : Int), .pointer (some ⟨B, 0, none⟩)] w fun e w' => e = .returned (.bool (isDig l[n])) ∧ w' = w := by
  have E : Hid (Env w B sb cap l) := h
  have hb := h.box
  have hm := h.lm
  have hc := h.ba.cell n hn
  rw [Nat.zero_add] at hc
  generalize l[n] = c at hc
  clear h
  go_enter Tryd.func35, Tryd.ntmps35
  go_wp2_with (first
      | (go_at_call 24; refine (isDigit_c c _).mono ?_; rintro e w' ⟨rfl, he⟩; subst he)
      | go_in)
  go_ret
  exact ⟨rfl, rfl⟩

theorem kind_c {w : World} {B sb cap : Nat} {l : Bs} (h : Env w B sb cap l) (s : Bs) (hs : s.length < 4611686018427387904) :
    Calls Tryd.prog 33 #[.string (ofL s), .pointer (some ⟨B + 2, 0, none⟩)] w fun e w' =>
      e = .returned (.tuple #[.int .i64 (if 40 < s.length then 0 else if isWord s then 3 else 1), .int .i64 (if 40 < s.length then 20 else 0)]) ∧ w' = w := by
  have E : Hid (Env w B sb cap l) := h
  have hb := h.map
  clear h
  generalize hk : (if 40 < s.length then (0 : Int) else if isWord s then 3 else 1) = kk
  generalize he : (if 40 < s.length then (20 : Int) else 0) = ee
  go_enter Tryd.func33, Tryd.ntmps33
  go_wp2_with (first
      | (go_at_call 34; refine (nameKind_c _ s _ E.out.words hs).mono ?_; rintro e w' ⟨rfl, hw⟩; rw [hk, he]; subst hw)
      | go_in)
  go_ret2
  exact ⟨rfl, rfl⟩

theorem intKind_c (s : Bs) (w : World) (hs : s.length < 4611686018427387904) :
    Calls Tryd.prog 36 #[.string (ofL s)] w fun e w' => e = .returned (.tuple #[.int .i64 (if (numA s).2.2 = 0 then 2 else 0), .int .i64 ((numA s).2.2 : Int)]) ∧ Below w.heap.size w w' := by
  generalize hA : numA s = A
  obtain ⟨v, k, x⟩ := A
  go_enter Tryd.func36, Tryd.ntmps36
  go_wp2_with (first
      | (go_at_call 11; refine (number_c s _ hs).mono ?_; rintro e w' ⟨rfl, hw⟩; rw [hA]; have W : Hid (Below w.heap.size w w') := hw; clear hw)
      | go_in)
  all_goals go_ret2
  all_goals exact ⟨by simp_all, W.out⟩

theorem signs_c {w : World} {B sb cap : Nat} {l : Bs} (h : Env w B sb cap l) (n : Nat) (hn : n < l.length) :
    Calls Tryd.prog 37 #[.int .i64 (n : Int), .pointer (some ⟨B, 0, none⟩)] w fun e w' => e = .returned (.bool (decide (0 < signLen (l.drop n)))) ∧ Below w.heap.size w w' := by
  have E : Hid (Env w B sb cap l) := h
  have hb := h.box
  have hm := h.lm
  have hlc := h.lc
  clear h
  go_enter Tryd.func37, Tryd.ntmps37
  go_wp2_with (first
      | (go_at_call 38; refine (signLength_c sb n _ _ (l.drop n) _ (E.out.rest n) E.out.tab ?_ ?_).mono ?_; (focus (simp; omega)); (focus (simp)); rintro e w' ⟨rfl, hw⟩; have W : Hid (Below w.heap.size w w') := hw; clear hw)
      | go_in)
  all_goals go_ret
  all_goals exact ⟨by simp, W.out⟩

theorem signFrom_le (l : Bs) : ∀ ss : List Bs, (∀ s ∈ ss, s.length ≤ 2) → signFrom l ss ≤ 2 ∧ signFrom l ss ≤ l.length
  | [], _ => by simp [signFrom]
  | s :: r, h => by
    simp only [signFrom]
    split
    · rename_i hp
      exact ⟨h s (by simp), (List.isPrefixOf_iff_prefix.1 hp).length_le⟩
    · exact signFrom_le l r (fun x hx => h x (by simp [hx]))

theorem signLen_le (l : Bs) : signLen l ≤ 2 ∧ signLen l ≤ l.length := signFrom_le l signsL (by decide)

theorem signEnd_c {w : World} {B sb cap : Nat} {l : Bs} (h : Env w B sb cap l) (n : Nat) (hn : n < l.length) :
    Calls Tryd.prog 39 #[.int .i64 (n : Int), .pointer (some ⟨B, 0, none⟩)] w fun e w' => e = .returned (.int .i64 ((n + signLen (l.drop n) : Nat) : Int)) ∧ Below w.heap.size w w' := by
  have E : Hid (Env w B sb cap l) := h
  have hb := h.box
  have hm := h.lm
  have hlc := h.lc
  have hsl := (signLen_le (l.drop n)).1
  clear h
  go_enter Tryd.func39, Tryd.ntmps39
  go_wp2_with (first
      | (go_at_call 38; refine (signLength_c sb n _ _ (l.drop n) _ (E.out.rest n) E.out.tab ?_ ?_).mono ?_; (focus (simp; omega)); (focus (simp)); rintro e w' ⟨rfl, hw⟩; have W : Hid (Below w.heap.size w w') := hw; clear hw)
      | go_in)
  all_goals go_ret
  all_goals exact ⟨by simp, W.out⟩

theorem signKind_c (s : Bs) (w : World) : Calls Tryd.prog 40 #[.string (ofL s)] w fun e w' => e = .returned (.tuple #[.int .i64 4, .int .i64 0]) ∧ w' = w := by
  go_enter Tryd.func40, Tryd.ntmps40
  go_wp2
  go_ret2
  exact ⟨rfl, rfl⟩
end Go.Proofs.YtbfelkcaakpdiaaDoor
