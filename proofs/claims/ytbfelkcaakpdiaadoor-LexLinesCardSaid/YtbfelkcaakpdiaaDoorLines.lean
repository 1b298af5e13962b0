/-
  Proved: of the definition 'lex': two texts with a line's end between them have the tokens of both, or the first one's error.
-/
import Derived.Test.YtbfelkcaakpdiaaDoorParts
namespace Go.Proofs.YtbfelkcaakpdiaaDoor

theorem pre_join (b : Bs) : ∀ (s a : Bs), (10 : UInt8) ∉ s → s.isPrefixOf (a ++ 10 :: b) = s.isPrefixOf a
  | [], a, _ => by simp
  | x :: s, [], h => by
    have : ¬ x = 10 := fun e => h (by simp [e])
    simp [List.isPrefixOf, this]
  | x :: s, y :: a, h => by
    have ih := pre_join b s a (fun e => h (by simp [e]))
    simp [List.isPrefixOf, ih]

theorem sign_join (a b : Bs) : ∀ ss : List Bs, (∀ s ∈ ss, (10 : UInt8) ∉ s) → signFrom (a ++ 10 :: b) ss = signFrom a ss
  | [], _ => rfl
  | s :: r, h => by
    simp only [signFrom]
    rw [pre_join b s a (h s (by simp)), sign_join a b r (fun x hx => h x (by simp [hx]))]

theorem run_join (p : UInt8 → Bool) (hp : p 10 = false) (b : Bs) : ∀ a : Bs, run p (a ++ 10 :: b) = run p a
  | [] => by simp [run, hp]
  | c :: r => by simp only [List.cons_append, run, run_join p hp b r]

theorem skip_join (b : Bs) : ∀ (m : Bool) (a : Bs), skip m (a ++ 10 :: b) = if skip m a < a.length then skip m a else a.length + 1 + skip false b
  | true, [] => by
    have : isLn 10 = false := rfl
    simp [skip, this]; omega
  | false, [] => by
    have : isBl 10 = true := rfl
    simp [skip, this]; omega
  | true, c :: r => by
    have h1 := skip_join b true r
    have h2 := skip_join b false r
    simp only [List.cons_append, skip, List.length_cons]
    split
    · rw [h1]; split <;> split <;> omega
    · rw [h2]; split <;> split <;> omega
  | false, c :: r => by
    have h1 := skip_join b true r
    have h2 := skip_join b false r
    have hh : (r ++ 10 :: b).head? = some 47 ↔ r.head? = some 47 := by
      cases r with
      | nil => simp
      | cons d q => simp
    simp only [List.cons_append, skip, List.length_cons, hh]
    split
    · rw [h2]; split <;> split <;> omega
    · split
      · rw [h1]; split <;> split <;> omega
      · simp

theorem tok_join (a b : Bs) (h : 0 < a.length) : tok (a ++ 10 :: b) = tok a := by
  match a, h with
  | c :: r, _ =>
    have e1 : run isOn (c :: r ++ 10 :: b) = run isOn (c :: r) := run_join isOn rfl b (c :: r)
    have e2 : signLen (c :: r ++ 10 :: b) = signLen (c :: r) := sign_join (c :: r) b signsL (by decide)
    have e3 : (c :: r ++ 10 :: b).take (run isOn (c :: r)) = (c :: r).take (run isOn (c :: r)) := List.take_append_of_le_length (run_le isOn (c :: r))
    rw [List.cons_append] at e1 e2 e3 ⊢
    simp only [tok, e1, e2, e3]

theorem lexG_fuel : ∀ (f g : Nat) (l : Bs) (k : Nat), l.length < f → l.length < g → lexG f l k = lexG g l k
  | 0, _, _, _, h, _ => by omega
  | _ + 1, 0, _, _, _, h => by omega
  | f + 1, g + 1, l, k, hf, hg => by
    by_cases h1 : l.length = 0
    · rw [lexG_stop _ _ _ h1, lexG_stop _ _ _ h1]
    · obtain ⟨x, kd, m, ht⟩ : ∃ x kd m, tok l = (x, kd, m) := ⟨_, _, _, rfl⟩
      by_cases h2 : x = 0
      · subst h2
        have hm := tok_len ht
        rw [lexG_ok _ _ _ h1 ht, lexG_ok _ _ _ h1 ht, lexG_fuel f g _ _ (by simp; omega) (by simp; omega)]
      · rw [lexG_err _ _ _ h1 ht h2, lexG_err _ _ _ h1 ht h2]

/-- A token, an answer, so many bytes further on. -/
def shiftT (d : Nat) (t : Tok) : Tok := (t.1, t.2.1, d + t.2.2)
def shiftA (d : Nat) (R : Ans) : Ans := if R.2.2 = 0 then (R.1.map (shiftT d), 0, 0) else (R.1, d + R.2.1, R.2.2)

theorem shift_cons (d : Nat) (t : Tok) (R : Ans) : shiftA d (consA t R) = consA (shiftT d t) (shiftA d R) := by
  unfold shiftA consA
  by_cases h : R.2.2 = 0
  · simp [h]
  · simp [h]

theorem lexG_shift (d : Nat) : ∀ (f : Nat) (l : Bs) (k : Nat), lexG f l (d + k) = shiftA d (lexG f l k)
  | 0, l, k => by simp [lexG, shiftA]
  | f + 1, l, k => by
    by_cases h1 : l.length = 0
    · rw [lexG_stop _ _ _ h1, lexG_stop _ _ _ h1]; simp [shiftA]
    · obtain ⟨x, kd, m, ht⟩ : ∃ x kd m, tok l = (x, kd, m) := ⟨_, _, _, rfl⟩
      by_cases h2 : x = 0
      · subst h2
        rw [lexG_ok _ _ _ h1 ht, lexG_ok _ _ _ h1 ht, shift_cons, ← lexG_shift d f, Nat.add_assoc]
        rfl
      · rw [lexG_err _ _ _ h1 ht h2, lexG_err _ _ _ h1 ht h2]; simp [shiftA, h2]

/-- What two texts with a line's end between them answer: from the first one's answer and the second one's. -/
def joinA (R X : Ans) : Ans := if R.2.2 = 0 then appA R.1 X else R

theorem cons_join (t : Tok) (R X : Ans) : consA t (joinA R X) = joinA (consA t R) X := by
  unfold joinA consA appA
  by_cases h : R.2.2 = 0
  · by_cases h2 : X.2.2 = 0
    · simp [h, h2]
    · simp [h, h2]
  · simp [h]

theorem lexG_ok0 : ∀ (f : Nat) (l : Bs) (k : Nat), (lexG f l k).2.2 = 0 → (lexG f l k).2.1 = 0
  | 0, l, k, _ => rfl
  | f + 1, l, k, h => by
    by_cases h1 : l.length = 0
    · rw [lexG_stop _ _ _ h1]
    · obtain ⟨x, kd, m, ht⟩ : ∃ x kd m, tok l = (x, kd, m) := ⟨_, _, _, rfl⟩
      by_cases h2 : x = 0
      · subst h2
        rw [lexG_ok _ _ _ h1 ht] at h ⊢
        unfold consA at h ⊢
        split at h
        · rename_i h3; rw [if_pos h3]
        · rename_i h3; exact absurd h h3
      · rw [lexG_err _ _ _ h1 ht h2] at h
        exact absurd h h2

theorem app_nil (f : Nat) (l : Bs) (k : Nat) : appA [] (lexG f l k) = lexG f l k := by
  unfold appA
  by_cases h : (lexG f l k).2.2 = 0
  · rw [if_pos h, List.nil_append]
    exact Prod.ext rfl (Prod.ext (lexG_ok0 f l k h).symm h.symm)
  · rw [if_neg h]

theorem lexG_join (b : Bs) : ∀ (f F : Nat) (a : Bs) (k : Nat), 0 < a.length → a.length < f → a.length + 1 + b.length < F →
    lexG F (a ++ 10 :: b) k = joinA (lexG f a k) (lexG (b.length + 1) (b.drop (skip false b)) (k + a.length + 1 + skip false b))
  | 0, _, _, _, _, h, _ => by omega
  | _ + 1, 0, _, _, _, _, h => by omega
  | f + 1, F + 1, a, k, h0, hf, hF => by
    have h1 : ¬ a.length = 0 := by omega
    have h1' : ¬ (a ++ 10 :: b).length = 0 := by simp
    obtain ⟨x, kd, m, ht⟩ : ∃ x kd m, tok a = (x, kd, m) := ⟨_, _, _, rfl⟩
    have htj := tok_join a b h0
    rw [ht] at htj
    by_cases h2 : x = 0
    · subst h2
      have hm := tok_len ht
      rw [lexG_ok _ _ _ h1 ht, lexG_ok _ _ _ h1' htj, ← cons_join]
      have e1 : (a ++ 10 :: b).take m = a.take m := List.take_append_of_le_length hm.2
      have e2 : (a ++ 10 :: b).drop m = a.drop m ++ 10 :: b := List.drop_append_of_le_length hm.2
      have e3 := skip_join b false (a.drop m)
      have hr : (a.drop m).length = a.length - m := by simp
      rw [e1]
      congr 1
      rw [e2, e3]
      by_cases hs : skip false (a.drop m) < (a.drop m).length
      · rw [if_pos hs]
        have e4 : (a ++ 10 :: b).drop (m + skip false (a.drop m)) = a.drop (m + skip false (a.drop m)) ++ 10 :: b := List.drop_append_of_le_length (by omega)
        rw [e4]
        have ih := lexG_join b f F (a.drop (m + skip false (a.drop m))) (k + (m + skip false (a.drop m))) (by simp; omega) (by simp; omega) (by simp; omega)
        rw [ih]
        congr 2
        simp
        omega
      · rw [if_neg hs]
        have hle := skip_le false (a.drop m)
        have hse : m + skip false (a.drop m) = a.length := by omega
        rw [hse, List.drop_length]
        have e5 : lexG f ([] : Bs) (k + a.length) = ([], 0, 0) := by
          cases f with
          | zero => rfl
          | succ g => exact lexG_stop _ _ _ rfl
        rw [e5]
        have e6 : (a ++ 10 :: b).drop (m + ((a.drop m).length + 1 + skip false b)) = b.drop (skip false b) := by
          have : m + ((a.drop m).length + 1 + skip false b) = a.length + (1 + skip false b) := by omega
          rw [this, ← List.drop_drop, List.drop_left, Nat.add_comm 1, List.drop_succ_cons]
        rw [e6]
        have hsb := skip_le false b
        have e7 : k + (m + ((a.drop m).length + 1 + skip false b)) = k + a.length + 1 + skip false b := by omega
        rw [e7, lexG_fuel F (b.length + 1) _ _ (by simp; omega) (by simp; omega)]
        unfold joinA
        rw [if_pos rfl, app_nil]
    · rw [lexG_err _ _ _ h1 ht h2, lexG_err _ _ _ h1' htj h2]
      unfold joinA
      simp [h2]

theorem lexAll_one (l : Bs) : lexAll l = lexG (l.length + 1) (l.drop (skip false l)) (skip false l) := by rw [lexAll_G, app_nil]

theorem lexAll_join (a b : Bs) : lexAll (a ++ 10 :: b) = joinA (lexAll a) (shiftA (a.length + 1) (lexAll b)) := by
  rw [lexAll_one, lexAll_one a, lexAll_one b, ← lexG_shift, skip_join]
  have hsa := skip_le false a
  have hsb := skip_le false b
  by_cases hs : skip false a < a.length
  · rw [if_pos hs]
    have e4 : (a ++ 10 :: b).drop (skip false a) = a.drop (skip false a) ++ 10 :: b := List.drop_append_of_le_length (by omega)
    rw [e4, lexG_join b (a.length + 1) ((a ++ 10 :: b).length + 1) (a.drop (skip false a)) (skip false a) (by simp; omega) (by simp; omega) (by simp; omega)]
    congr 2
    simp
    omega
  · rw [if_neg hs]
    have hse : skip false a = a.length := by omega
    rw [hse, List.drop_length, lexG_stop a.length [] a.length rfl]
    have e6 : (a ++ 10 :: b).drop (a.length + 1 + skip false b) = b.drop (skip false b) := by
      rw [Nat.add_assoc, ← List.drop_drop, List.drop_left, Nat.add_comm 1, List.drop_succ_cons]
    rw [e6, lexG_fuel ((a ++ 10 :: b).length + 1) (b.length + 1) _ _ (by simp; omega) (by simp; omega)]
    unfold joinA
    rw [if_pos rfl, app_nil]

theorem lex_one_all {l : Bs} (h : l.length ≤ 65536) : lex l = lexAll l := by simp only [lex, if_neg (show ¬ 65536 < l.length by omega)]

theorem join_err1 {a b : Bs} {pa ea : Nat} (h : a.length + b.length ≤ 20000) (ha : lex a = ([], pa, ea)) (he : ea ≠ 0) : lex (a ++ 10 :: b) = ([], pa, ea) := by
  rw [lex_one_all (by omega)] at ha
  rw [lex_one_all (by simp; omega), lexAll_join, ha]
  unfold joinA
  rw [if_neg he]

theorem join_err2 {a b : Bs} {ta : List Tok} {pb eb : Nat} (h : a.length + b.length ≤ 20000) (ha : lex a = (ta, 0, 0)) (hb : lex b = ([], pb, eb)) (he : eb ≠ 0) : lex (a ++ 10 :: b) = ([], a.length + 1 + pb, eb) := by
  rw [lex_one_all (by omega)] at ha hb
  rw [lex_one_all (by simp; omega), lexAll_join, ha, hb]
  unfold joinA shiftA appA
  simp [he]

theorem join_ok {a b : Bs} {ta tb : List Tok} (h : a.length + b.length ≤ 20000) (ha : lex a = (ta, 0, 0)) (hb : lex b = (tb, 0, 0)) : lex (a ++ 10 :: b) = (ta ++ tb.map (shiftT (a.length + 1)), 0, 0) := by
  rw [lex_one_all (by omega)] at ha hb
  rw [lex_one_all (by simp; omega), lexAll_join, ha, hb]
  unfold joinA shiftA appA
  simp
end Go.Proofs.YtbfelkcaakpdiaaDoor
