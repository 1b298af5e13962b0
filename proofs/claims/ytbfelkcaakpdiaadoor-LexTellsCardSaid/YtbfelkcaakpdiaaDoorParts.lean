/-
  Proved: of the definition 'lex': between tokens lie blanks alone, and each token by itself lexes to itself.
-/
import Derived.Test.YtbfelkcaakpdiaaDoorLex
namespace Go.Proofs.YtbfelkcaakpdiaaDoor

/-- A token ahead of an answer; tokens ahead of an answer. -/
def consA (t : Tok) (R : Ans) : Ans := if R.2.2 = 0 then (t :: R.1, 0, 0) else R
def appA (acc : List Tok) (R : Ans) : Ans := if R.2.2 = 0 then (acc ++ R.1, 0, 0) else R

/-- The tokens from a place on, without those ahead of it. -/
def lexG : Nat → Bs → Nat → Ans
  | 0, _, _ => ([], 0, 0)
  | f + 1, l, a =>
    if l.length = 0 then ([], 0, 0)
    else if (tok l).1 ≠ 0 then ([], a, (tok l).1)
    else consA ((tok l).2.1, l.take (tok l).2.2, a) (lexG f (l.drop ((tok l).2.2 + skip false (l.drop (tok l).2.2))) (a + ((tok l).2.2 + skip false (l.drop (tok l).2.2))))

theorem lexG_stop (f : Nat) (l : Bs) (a : Nat) (h : l.length = 0) : lexG (f + 1) l a = ([], 0, 0) := by
  simp only [lexG, if_pos h]

theorem lexG_err (f : Nat) (l : Bs) (a : Nat) (h : ¬ l.length = 0) {x kd m : Nat} (ht : tok l = (x, kd, m)) (hx : x ≠ 0) : lexG (f + 1) l a = ([], a, x) := by
  simp only [lexG, if_neg h, ht, hx, ne_eq, not_false_eq_true, if_true]

theorem lexG_ok (f : Nat) (l : Bs) (a : Nat) (h : ¬ l.length = 0) {kd m : Nat} (ht : tok l = (0, kd, m)) :
    lexG (f + 1) l a = consA (kd, l.take m, a) (lexG f (l.drop (m + skip false (l.drop m))) (a + (m + skip false (l.drop m)))) := by
  simp only [lexG, if_neg h, ht, ne_eq, not_true_eq_false, if_false]

theorem app_cons (acc : List Tok) (t : Tok) (R : Ans) : appA acc (consA t R) = appA (acc ++ [t]) R := by
  unfold appA consA
  by_cases h : R.2.2 = 0
  · simp [h]
  · simp [h]

theorem lexF_G : ∀ (f : Nat) (l : Bs) (a : Nat) (acc : List Tok), lexF f l a acc = appA acc (lexG f l a)
  | 0, l, a, acc => by simp [lexF, lexG, appA]
  | f + 1, l, a, acc => by
    by_cases h1 : l.length = 0
    · rw [lexF_stop _ _ _ _ h1, lexG_stop _ _ _ h1]; simp [appA]
    · obtain ⟨x, kd, m, ht⟩ : ∃ x kd m, tok l = (x, kd, m) := ⟨_, _, _, rfl⟩
      by_cases h2 : x = 0
      · subst h2
        rw [lexF_ok _ _ _ _ h1 ht, lexG_ok _ _ _ h1 ht, app_cons, lexF_G f]
      · rw [lexF_err _ _ _ _ h1 ht h2, lexG_err _ _ _ h1 ht h2]; simp [appA, h2]

theorem lexG_nil : ∀ (f : Nat) (l : Bs) (k : Nat), (lexG f l k).2.2 ≠ 0 → (lexG f l k).1 = [] ∧ (lexG f l k).2.1 < k + l.length
  | 0, l, k, h => by simp [lexG] at h
  | f + 1, l, k, h => by
    by_cases h1 : l.length = 0
    · rw [lexG_stop _ _ _ h1] at h; simp at h
    · obtain ⟨x, kd, m, ht⟩ : ∃ x kd m, tok l = (x, kd, m) := ⟨_, _, _, rfl⟩
      by_cases h2 : x = 0
      · subst h2
        rw [lexG_ok _ _ _ h1 ht] at h ⊢
        unfold consA at h ⊢
        split at h
        · simp at h
        · rename_i h3
          rw [if_neg h3]
          have ih := lexG_nil f _ _ h3
          have := (tok_len ht).2
          have hs := skip_le false (l.drop m)
          simp at ih hs
          exact ⟨ih.1, by omega⟩
      · rw [lexG_err _ _ _ h1 ht h2]
        exact ⟨rfl, by simp; omega⟩

theorem lexAll_G (l : Bs) : lexAll l = appA [] (lexG (l.length + 1) (l.drop (skip false l)) (skip false l)) := by
  unfold lexAll
  rw [lexF_G]

/-- Where lexing says an error, it says a place within the text, and no token. -/
theorem lexAll_err {l : Bs} (h : (lexAll l).2.2 ≠ 0) : (lexAll l).1 = [] ∧ (lexAll l).2.1 < l.length := by
  rw [lexAll_G] at h ⊢
  unfold appA at h ⊢
  split at h
  · simp at h
  · rename_i h3
    rw [if_neg h3]
    have ih := lexG_nil _ _ _ h3
    have hs := skip_le false l
    simp at ih
    exact ⟨ih.1, by omega⟩

/-- Blanks by themselves are blanks. -/
theorem skip_take : ∀ (b : Bool) (l : Bs), skip b (l.take (skip b l)) = skip b l
  | _, [] => by simp [skip]
  | true, c :: r => by
    have h1 := skip_take true r
    have h2 := skip_take false r
    simp only [skip]
    split
    · rename_i h; rw [List.take_succ_cons]; simp only [skip, if_pos h, h1]
    · rename_i h; rw [List.take_succ_cons]; simp only [skip, if_neg h, h2]
  | false, c :: r => by
    have h1 := skip_take true r
    have h2 := skip_take false r
    simp only [skip]
    split
    · rename_i h; rw [List.take_succ_cons]; simp only [skip, if_pos h, h2]
    · rename_i h
      split
      · rename_i h3
        rw [List.take_succ_cons]
        have h4 : (r.take (skip true r)).head? = some 47 := by
          match r, h3 with
          | d :: q, h3 =>
            have hd : d = 47 := by simpa using h3.2
            subst hd
            have : isLn 47 = true := rfl
            simp [skip, this]
        simp only [skip]
        rw [if_neg h, if_pos ⟨h3.1, h4⟩, h1]
      · simp [skip]

theorem run_take (p : UInt8 → Bool) : ∀ l : Bs, run p (l.take (run p l)) = run p l
  | [] => by simp [run]
  | c :: r => by
    have h1 := run_take p r
    simp only [run]
    split
    · rename_i h; rw [List.take_succ_cons]; simp only [run, if_pos h, h1]
    · simp [run]

theorem sign_take (l : Bs) (m : Nat) (hm : 0 < m) : ∀ ss : List Bs, signFrom l ss = m → signFrom (l.take m) ss = m
  | [], h => by simp [signFrom] at h; omega
  | s :: r, h => by
    simp only [signFrom] at h ⊢
    by_cases hp : s.isPrefixOf l = true
    · rw [if_pos hp] at h
      have h1 : s.isPrefixOf (l.take m) = true := by
        rw [List.isPrefixOf_iff_prefix] at hp ⊢
        rw [← h]
        exact (List.prefix_take_iff.2 ⟨hp, Nat.le_refl _⟩)
      rw [if_pos h1, h]
    · rw [if_neg hp] at h
      have h1 : ¬ s.isPrefixOf (l.take m) = true := by
        intro h2
        rw [List.isPrefixOf_iff_prefix] at hp h2
        exact hp (h2.trans (List.take_prefix _ _))
      rw [if_neg h1]
      exact sign_take l m hm r h

theorem skip0_take {l : Bs} (h : skip false l = 0) (m : Nat) : skip false (l.take m) = 0 := by
  match l, m, h with
  | [], _, _ => simp [skip]
  | _ :: _, 0, _ => simp [skip]
  | c :: r, m + 1, h =>
    rw [List.take_succ_cons]
    simp only [skip] at h ⊢
    by_cases h1 : isBl c = true
    · rw [if_pos h1] at h; omega
    · rw [if_neg h1] at h ⊢
      by_cases h2 : c = 47 ∧ r.head? = some 47
      · rw [if_pos h2] at h; omega
      · have h3 : ¬ (c = 47 ∧ (r.take m).head? = some 47) := by
          rintro ⟨h4, h5⟩
          apply h2
          refine ⟨h4, ?_⟩
          cases r with
          | nil => simp at h5
          | cons d q =>
            cases m with
            | zero => simp at h5
            | succ k => simpa using h5
        rw [if_neg h3]

/-- A token by itself is it. -/
theorem tok_take {l : Bs} {kd m : Nat} (h : tok l = (0, kd, m)) : tok (l.take m) = (0, kd, m) := by
  match l, h with
  | c :: r, h =>
    have hm := (tok_len h).1
    obtain ⟨k, rfl⟩ : ∃ k, m = k + 1 := ⟨m - 1, by omega⟩
    have ht : (c :: r).take (k + 1) = c :: r.take k := List.take_succ_cons
    simp only [tok] at h
    by_cases hl : isLet c = true
    · rw [if_pos hl] at h
      split at h
      · cases h
      · rename_i h40
        simp only [Prod.mk.injEq, true_and] at h
        obtain ⟨h1, h2⟩ := h
        have e1 := run_take isOn (c :: r)
        rw [h2] at e1 h1 h40
        rw [ht] at e1 h1 ⊢
        simp only [tok, if_pos hl, e1, if_neg h40]
        have e2 : (c :: r.take k).take (k + 1) = c :: r.take k := by rw [← ht, List.take_take, Nat.min_self]
        rw [e2, h1]
    · rw [if_neg hl] at h
      by_cases hd : isDig c = true
      · rw [if_pos hd] at h
        split at h
        · cases h
        · rename_i p hp
          simp only [Prod.mk.injEq, true_and] at h
          obtain ⟨h1, h2⟩ := h
          have e1 := run_take isOn (c :: r)
          rw [h2] at e1 hp
          rw [ht] at e1 hp ⊢
          have e2 : (c :: r.take k).take (k + 1) = c :: r.take k := by rw [← ht, List.take_take, Nat.min_self]
          simp only [tok, if_neg hl, if_pos hd, e1, e2, hp, h1]
      · rw [if_neg hd] at h
        split at h
        · rename_i hs
          simp only [Prod.mk.injEq, true_and] at h
          obtain ⟨h1, h2⟩ := h
          have e1 : signLen ((c :: r).take (k + 1)) = k + 1 := sign_take (c :: r) (k + 1) (by omega) signsL h2
          rw [ht] at e1 ⊢
          simp only [tok, if_neg hl, if_neg hd, e1, ← h1]
          rw [if_pos (by omega)]
        · cases h

theorem lex_token {l : Bs} {kd m : Nat} (h : tok l = (0, kd, m)) (hs : skip false l = 0) (hl : l.length ≤ 65536) : lex (l.take m) = ([(kd, l.take m, 0)], 0, 0) := by
  have h1 := tok_take h
  have h2 := skip0_take hs m
  have h3 := tok_len h
  have h4 : (l.take m).length = m := by simp; omega
  generalize hL : l.take m = L at *
  have e1 : lex L = lexAll L := by simp only [lex, if_neg (show ¬ 65536 < L.length by omega)]
  rw [e1]
  unfold lexAll
  rw [h2, List.drop_zero, lexF_ok L.length L 0 [] (by omega) h1]
  have e3 : L.drop m = [] := by rw [← h4]; exact List.drop_length
  have e2 : skip false ([] : Bs) = 0 := rfl
  have e4 : L.take m = L := by rw [← h4]; exact List.take_length
  rw [e3, e2, Nat.add_zero, e3, e4, h4]
  obtain ⟨g, hg⟩ : ∃ g, m = g + 1 := ⟨m - 1, by omega⟩
  rw [hg, lexF_stop _ _ _ _ rfl]
  rfl

theorem lex_blank {l : Bs} (h : skip false l = l.length) (hl : l.length ≤ 65536) : lex l = ([], 0, 0) := by
  have e1 : lex l = lexAll l := by simp only [lex, if_neg (show ¬ 65536 < l.length by omega)]
  rw [e1]
  unfold lexAll
  rw [h, lexF_stop _ _ _ _ (by simp)]

theorem lex_gap (l : Bs) (hl : l.length ≤ 65536) : lex (l.take (skip false l)) = ([], 0, 0) := by
  have h1 := skip_le false l
  refine lex_blank ?_ ?_
  · rw [skip_take]; simp; omega
  · simp; omega

theorem skip_again : ∀ (b : Bool) (l : Bs), skip false (l.drop (skip b l)) = 0
  | _, [] => by simp [skip]
  | true, c :: r => by
    simp only [skip]
    split
    · rw [List.drop_succ_cons]; exact skip_again true r
    · rw [List.drop_succ_cons]; exact skip_again false r
  | false, c :: r => by
    simp only [skip]
    split
    · rw [List.drop_succ_cons]; exact skip_again false r
    · rename_i h1
      split
      · rw [List.drop_succ_cons]; exact skip_again true r
      · rename_i h2
        rw [List.drop_zero]; simp only [skip, if_neg h1, if_neg h2]

/-- What the document says of tokens and of what lies between them, from a place on. -/
def Good (l : Bs) : Nat → List Tok → Prop
  | e, [] => lex (l.drop e) = ([], 0, 0)
  | e, t :: r => e ≤ t.2.2 ∧ t.2.2 + t.2.1.length ≤ l.length ∧ 0 < t.2.1.length ∧ (l.drop t.2.2).take t.2.1.length = t.2.1 ∧ lex t.2.1 = ([(t.1, t.2.1, 0)], 0, 0) ∧
      lex ((l.drop e).take (t.2.2 - e)) = ([], 0, 0) ∧ Good l (t.2.2 + t.2.1.length) r

theorem good_of (l : Bs) (hl : l.length ≤ 65536) : ∀ (f e k : Nat), k = e + skip false (l.drop e) → e ≤ l.length → l.length < k + f → (lexG f (l.drop k) k).2.2 = 0 → Good l e (lexG f (l.drop k) k).1
  | 0, e, k, hk, he, hf, _ => by
    have := skip_le false (l.drop e)
    simp at this
    omega
  | f + 1, e, k, hk, he, hf, h => by
    have hs := skip_le false (l.drop e)
    simp at hs
    by_cases h1 : (l.drop k).length = 0
    · rw [lexG_stop _ _ _ h1]
      simp at h1
      exact lex_blank (by simp; omega) (by simp; omega)
    · obtain ⟨x, kd, m, ht⟩ : ∃ x kd m, tok (l.drop k) = (x, kd, m) := ⟨_, _, _, rfl⟩
      by_cases h2 : x = 0
      · subst h2
        rw [lexG_ok _ _ _ h1 ht] at h ⊢
        have hm := tok_len ht
        have hlen : ((l.drop k).take m).length = m := by simp; simp at hm; omega
        simp at hm
        rw [List.drop_drop, List.drop_drop, ← Nat.add_assoc] at h ⊢
        unfold consA at h ⊢
        split at h
        · rename_i h3
          rw [if_pos h3]
          have hk0 : skip false (l.drop k) = 0 := by
            have := skip_again false (l.drop e)
            rw [List.drop_drop, ← hk] at this
            exact this
          refine ⟨by simp; omega, ?_, ?_, ?_, ?_, ?_, ?_⟩
          · show k + ((l.drop k).take m).length ≤ l.length
            rw [hlen]; omega
          · show 0 < ((l.drop k).take m).length
            rw [hlen]; omega
          · show (l.drop k).take ((l.drop k).take m).length = (l.drop k).take m
            rw [hlen]
          · exact lex_token ht hk0 (by simp; omega)
          · show lex ((l.drop e).take (k - e)) = ([], 0, 0)
            have : k - e = skip false (l.drop e) := by omega
            rw [this]
            exact lex_gap _ (by simp; omega)
          · show Good l (k + ((l.drop k).take m).length) _
            rw [hlen]
            exact good_of l hl f (k + m) _ rfl (by omega) (by omega) h3
        · rename_i h3
          exact absurd h h3
      · rw [lexG_err _ _ _ h1 ht h2] at h
        exact absurd h h2

theorem good_all {l : Bs} (hl : l.length ≤ 65536) (h : (lexAll l).2.2 = 0) : Good l 0 (lexAll l).1 ∧ (lexAll l).2.1 = 0 := by
  rw [lexAll_G] at h ⊢
  unfold appA at h ⊢
  split at h
  · rename_i h3
    rw [if_pos h3]
    refine ⟨?_, rfl⟩
    have hs := skip_le false l
    exact good_of l hl (l.length + 1) 0 (skip false l) (by simp) (Nat.zero_le _) (by omega) h3
  · rename_i h3
    exact absurd h h3
end Go.Proofs.YtbfelkcaakpdiaaDoor
