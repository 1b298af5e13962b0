/-
  Proved: what follows where Check has nothing against a program's items: names are different, types have words, what is passed fits, there is one main.
-/
import Derived.Test.YtjdkoahbahecoaaDoorOpen
namespace Go.Proofs.YtjdkoahbahecoaaDoor

theorem or_none {a b : Option (Int × Int)} : a.or b = none ↔ a = none ∧ b = none := by
  cases a <;> simp

theorem isIn_false {s : ByteArray} {ns : List ByteArray} (h : isIn s ns = false) : ∀ x ∈ ns, ¬ s = x := by
  intro x hx e
  have := isIn_iff.2 (show s ∈ ns by rw [e]; exact hx)
  rw [h] at this
  cases this

theorem bad2_all {is : List It} {l : List (Int × T)} (h : bad2 is l = true) : ∀ x ∈ l, (wrd is x.2).isSome = true := by
  induction l with
  | nil => intro x hx; cases hx
  | cons y l ih =>
    obtain ⟨d, t⟩ := y
    rw [bad2, Bool.and_eq_true] at h
    intro x hx
    rcases List.mem_cons.1 hx with rfl | hx
    · exact h.1
    · exact ih h.2 x hx

/-- A type that nothing is against has words. -/
theorem tyE_words {is : List It} {t : T} {refs : Bool} (h : tyE is t refs = 0) : (wrd is t).isSome = true := by
  unfold tyE at h
  split at h
  · split at h
    · rename_i hb
      obtain ⟨r, hr⟩ := ins_head t 0
      exact bad2_all hb (0, t) (by rw [hr]; exact List.mem_cons_self)
    · cases h
  · rename_i h1
    exact absurd h h1

theorem pck_none {is : List It} {refs : Bool} {ps : List Pj} (h : pck is refs ps = none) : ∀ p ∈ ps, (wrd is p.t).isSome = true := by
  intro p hp
  obtain ⟨k, hk, rfl⟩ := List.getElem_of_mem hp
  have := fo_none.1 h k (Nat.zero_le _) (by omega)
  simp only [prmAt, List.getElem?_eq_getElem hk, prm] at this
  exact tyE_words (nz_none.1 (or_none.1 this).2)

/-- What is known of a program that nothing is against. -/
structure Good (js : List Jt) : Prop where
  own : ∀ i (h : i < js.length), isIn (js[i]'h).s ownL = false
  apart : ∀ i (h : i < js.length) k (hk : k < js.length), i < k → ¬ (js[k]'hk).s = (js[i]'h).s
  kind : ∀ i (h : i < js.length), (js[i]'h).k = 1 ∨ (js[i]'h).k = 2 ∨ (js[i]'h).k = 3 ∨ (js[i]'h).k = 4
  words : ∀ i (h : i < js.length), (js[i]'h).k = 1 ∨ (js[i]'h).k = 2 → ∀ p ∈ (js[i]'h).ps, (wrd (its js) p.t).isSome = true
  pass : ∀ i (h : i < js.length), (js[i]'h).k = 1 → sumW (its js) (js[i]'h).ps ≤ 8
  struct : ∀ i (h : i < js.length), (js[i]'h).k = 2 → sumW (its js) (js[i]'h).ps ≤ 128
  main : ∃ i, ∃ h : i < js.length, (js[i]'h).s = mainS ∧ (js[i]'h).k = 1

theorem fst_own {js : List Jt} (hap : ∀ i (h : i < js.length) k (hk : k < js.length), i < k → ¬ (js[k]'hk).s = (js[i]'h).s) (i : Nat) (h : i < js.length) (hk : (js[i]'h).k = 2) : fst (js[i]'h).s (its js) 0 = some i := by
  cases hf : fst (js[i]'h).s (its js) 0 with
  | none =>
    have := fst_none.1 hf (js[i]'h).it (List.mem_map.2 ⟨_, List.getElem_mem h, rfl⟩)
    exact absurd ⟨rfl, .inl hk⟩ this
  | some m =>
    obtain ⟨_, h2, h3⟩ := fst_some hf
    rw [Nat.sub_zero] at h2
    have hm : m < js.length := by rw [its_len] at h2; exact h2
    have h4 := (h3 (by rw [Nat.sub_zero]; exact h2)).1
    have e : ((its js)[m - 0]'(by rw [Nat.sub_zero]; exact h2)).s = (js[m]'hm).s := by simp [its, Jt.it]
    rw [e] at h4
    rcases Nat.lt_trichotomy i m with hlt | heq | hgt
    · exact absurd h4 (hap i h m hm hlt)
    · rw [heq]
    · exact absurd h4.symm (hap m hm i h hgt)

theorem sum_words {is : List It} : ∀ (ps : List Pj) (os : List Am), os.length = ps.length → (∀ i (h1 : i < ps.length) (h2 : i < os.length), amt is (ps[i]'h1).t = some (os[i]'h2)) → (∀ p ∈ ps, (wrd is p.t).isSome = true) → sumW is ps = (os.map (·.w)).sum
  | [], [], _, _, _ => rfl
  | [], _ :: _, h, _, _ => by simp at h
  | _ :: _, [], h, _, _ => by simp at h
  | p :: ps, o :: os, hl, hx, hw => by
    have ih := sum_words ps os (by simpa using hl) (fun i h1 h2 => hx (i + 1) (by simpa using h1) (by simpa using h2)) (fun q hq => hw q (List.mem_cons_of_mem _ hq))
    have h0 : amt is p.t = some o := hx 0 (by simp) (by simp)
    have h1 := hw p List.mem_cons_self
    simp only [sumW, List.map_cons, List.sum_cons] at ih ⊢
    rw [ih]
    congr 1
    unfold wds
    unfold wrd at h1 ⊢
    rw [h0] at h1 ⊢
    simp only at h1 ⊢
    split
    · rfl
    · rename_i hn
      rw [if_neg hn] at h1
      cases h1

theorem good_of {js : List Jt} (h : chk js = none) : Good js := by
  unfold chk at h
  obtain ⟨h12, h3⟩ := or_none.1 h
  obtain ⟨h1, h2⟩ := or_none.1 h12
  have hd : ∀ i (h : i < js.length), isIn (js[i]'h).s (ownL ++ (js.take i).map (·.s)) = false := fun i hi => by
    have := fo_none.1 h1 i (Nat.zero_le _) (by omega)
    simp only [dckAt, List.getElem?_eq_getElem hi] at this
    cases hq : isIn (js[i]'hi).s (ownL ++ (js.take i).map (·.s)) with
    | false => rfl
    | true => rw [hq, if_pos rfl] at this; cases this
  have hic : ∀ i (h : i < js.length), ick (its js) (js[i]'h) = none := fun i hi => by
    have := fo_none.1 h2 i (Nat.zero_le _) (by omega)
    simp only [ickAt, List.getElem?_eq_getElem hi] at this
    exact this
  have hap : ∀ i (h : i < js.length) k (hk : k < js.length), i < k → ¬ (js[k]'hk).s = (js[i]'h).s := fun i hi k hk hlt => by
    refine isIn_false (hd k hk) _ (List.mem_append_right _ (List.mem_map.2 ⟨js[i], ?_, rfl⟩))
    rw [List.mem_take_iff_getElem]
    exact ⟨i, by omega, rfl⟩
  have hkind : ∀ i (h : i < js.length), (js[i]'h).k = 1 ∨ (js[i]'h).k = 2 ∨ (js[i]'h).k = 3 ∨ (js[i]'h).k = 4 := fun i hi => by
    have := hic i hi
    unfold ick at this
    by_cases k1 : (js[i]'hi).k = 1
    · exact .inl k1
    by_cases k2 : (js[i]'hi).k = 2
    · exact .inr (.inl k2)
    by_cases k3 : (js[i]'hi).k = 3
    · exact .inr (.inr (.inl k3))
    by_cases k4 : (js[i]'hi).k = 4
    · exact .inr (.inr (.inr k4))
    rw [if_neg k1, if_neg k2, if_neg k3, if_neg k4] at this
    cases this
  have hw1 : ∀ i (h : i < js.length), (js[i]'h).k = 1 → (∀ p ∈ (js[i]'h).ps, (wrd (its js) p.t).isSome = true) ∧ sumW (its js) (js[i]'h).ps ≤ 8 := fun i hi hk => by
    have := hic i hi
    rw [ick, if_pos hk, fck] at this
    obtain ⟨t1, t2⟩ := or_none.1 this
    obtain ⟨t3, _⟩ := or_none.1 t1
    refine ⟨pck_none t3, ?_⟩
    unfold psd at t2
    split at t2
    · cases t2
    · rename_i hn
      omega
  have hw2 : ∀ i (h : i < js.length), (js[i]'h).k = 2 → (∀ p ∈ (js[i]'h).ps, (wrd (its js) p.t).isSome = true) ∧ sumW (its js) (js[i]'h).ps ≤ 128 := fun i hi hk => by
    have := hic i hi
    rw [ick, if_neg (by rw [hk]; decide), if_pos hk, sck] at this
    obtain ⟨t1, t2⟩ := or_none.1 this
    have hp := pck_none t1
    refine ⟨hp, ?_⟩
    unfold slf at t2
    split at t2
    · rename_i hs
      have hf := fst_own hap i hi hk
      obtain ⟨n, hn⟩ := Option.isSome_iff_exists.1 hs
      unfold wrd at hn
      cases ha : amt (its js) (.mk 9 (js[i]'hi).s 0 []) with
      | none => rw [ha] at hn; cases hn
      | some o =>
        rw [ha] at hn
        simp only at hn
        have hi2 : i < (its js).length := by rw [its_len]; exact hi
        have e : (its js)[i]'hi2 = (js[i]'hi).it := by simp [its]
        obtain ⟨os, e1, e2, e3, _⟩ := struct_some hf hi2 (by rw [e]; exact hk) ha
        have hsum := sum_words (is := its js) (js[i]'hi).ps os (by rw [e1, e]; simp [Jt.it]) (fun q h1 h2 => by
          have := e2 q (by rw [e]; simpa [Jt.it] using h1) h2
          simpa [its, Jt.it] using this) hp
        rw [hsum, ← e3]
        split at hn
        · omega
        · cases hn
    · cases t2
  refine ⟨fun i hi => ?_, hap, hkind, fun i hi hk => ?_, fun i hi hk => (hw1 i hi hk).2, fun i hi hk => (hw2 i hi hk).2, ?_⟩
  · cases hq : isIn (js[i]'hi).s ownL with
    | false => rfl
    | true =>
      exact absurd rfl (isIn_false (hd i hi) _ (List.mem_append_left _ (isIn_iff.1 hq)))
  · rcases hk with hk | hk
    · exact (hw1 i hi hk).1
    · exact (hw2 i hi hk).1
  · unfold mnc at h3
    cases hf : fnd 1 mainS (its js) 0 with
    | none => rw [hf] at h3; cases h3
    | some i =>
      obtain ⟨_, h2, h4⟩ := fnd_some hf
      rw [Nat.sub_zero] at h2
      have hi : i < js.length := by rw [its_len] at h2; exact h2
      have h5 := h4 (by rw [Nat.sub_zero]; exact h2)
      have e : ((its js)[i - 0]'(by rw [Nat.sub_zero]; exact h2)) = (js[i]'hi).it := by simp [its]
      rw [e] at h5
      exact ⟨i, hi, h5⟩

/-- How many functions main there are. -/
def cntM (l : List Jt) : Nat := (l.map fun j => if j.k = 1 ∧ j.s = mainS then 1 else 0).sum

theorem cntM_snoc (js : List Jt) (k : Nat) (h : k < js.length) : cntM (js.take (k + 1)) = cntM (js.take k) + (if (js[k]'h).k = 1 ∧ (js[k]'h).s = mainS then 1 else 0) := by
  rw [take_succ' js k h]
  simp only [cntM, List.map_append, List.sum_append, List.map_cons, List.map_nil, List.sum_cons, List.sum_nil, Nat.add_zero]

theorem cntM_le (js : List Jt) : cntM js ≤ js.length := by
  induction js with
  | nil => simp [cntM]
  | cons j js ih =>
    simp only [cntM, List.map_cons, List.sum_cons, List.length_cons] at ih ⊢
    split <;> omega

/-- Just one. -/
theorem cntM_one {js : List Jt} (g : Good js) : cntM js = 1 := by
  obtain ⟨i, hi, hs, hk⟩ := g.main
  have key : ∀ m, m ≤ js.length → cntM (js.take m) = if i < m then 1 else 0 := by
    intro m
    induction m with
    | zero => intro _; simp [cntM]
    | succ m ih =>
      intro hm
      rw [cntM_snoc js m (by omega), ih (by omega)]
      by_cases he : m = i
      · subst he
        rw [if_neg (by omega), if_pos ⟨hk, hs⟩, if_pos (by omega)]
      · have : ¬ ((js[m]'(by omega)).k = 1 ∧ (js[m]'(by omega)).s = mainS) := by
          rintro ⟨_, h2⟩
          rcases Nat.lt_or_gt_of_ne he with hlt | hgt
          · exact g.apart m (by omega) i hi hlt (by rw [hs, h2])
          · exact g.apart i hi m (by omega) hgt (by rw [hs, h2])
        rw [if_neg this]
        by_cases hlt : i < m
        · rw [if_pos hlt, if_pos (by omega)]
        · rw [if_neg hlt, if_neg (by omega)]
  have := key js.length (Nat.le_refl _)
  rw [List.take_length, if_pos hi] at this
  exact this

/-- Something that is wrong has a number. -/
theorem fo_some {R : Nat → Option (Int × Int)} {a e : Int} : ∀ {m k : Nat}, fo R k m = some (a, e) → ∃ j, R j = some (a, e)
  | 0, k, h => by cases h
  | m + 1, k, h => by
    rw [fo] at h
    cases hk : R k with
    | some x => rw [hk] at h; exact ⟨k, by rw [hk]; exact h⟩
    | none => rw [hk] at h; exact fo_some h

theorem or_some {x y : Option (Int × Int)} {a e : Int} (h : x.or y = some (a, e)) : x = some (a, e) ∨ y = some (a, e) := by
  cases x with
  | none => exact .inr h
  | some z => exact .inl h

theorem nz_some {a e a' e' : Int} (h : nz a e = some (a', e')) : ¬ e' = 0 := by
  unfold nz at h
  split at h
  · cases h
  · rename_i hn
    simp only [Option.some.injEq, Prod.mk.injEq] at h
    rw [← h.2]
    exact hn

theorem if_some {p : Prop} [Decidable p] {b c a e : Int} (hc : ¬ c = 0) (h : (if p then some (b, c) else none) = some (a, e)) : ¬ e = 0 := by
  split at h
  · simp only [Option.some.injEq, Prod.mk.injEq] at h
    rw [← h.2]
    exact hc
  · cases h

theorem chk_some {js : List Jt} {a e : Int} (h : chk js = some (a, e)) : ¬ e = 0 := by
  have hp : ∀ {is refs ps}, pck is refs ps = some (a, e) → ¬ e = 0 := fun {is refs ps} h => by
    obtain ⟨k, hk⟩ := fo_some h
    unfold prmAt at hk
    split at hk
    · rcases or_some hk with h | h
      · exact if_some (by decide) h
      · exact nz_some h
    · cases hk
  have hs : ∀ {is j}, slf is j = some (a, e) → ¬ e = 0 := fun {is j} h => by
    unfold slf at h
    split at h
    · cases h
    · simp only [Option.some.injEq, Prod.mk.injEq] at h
      rw [← h.2]
      decide
  rcases or_some h with h | h
  · rcases or_some h with h | h
    · obtain ⟨k, hk⟩ := fo_some h
      unfold dckAt at hk
      split at hk
      · exact if_some (by decide) hk
      · cases hk
    · obtain ⟨k, hk⟩ := fo_some h
      unfold ickAt at hk
      split at hk
      · unfold ick at hk
        split at hk
        · rcases or_some hk with h | h
          · rcases or_some h with h | h
            · exact hp h
            · exact nz_some h
          · exact if_some (by decide) h
        · split at hk
          · rcases or_some hk with h | h
            · exact hp h
            · exact hs h
          · split at hk
            · rcases or_some hk with h | h
              · obtain ⟨q, hq⟩ := fo_some h
                unfold vrtAt at hq
                split at hq
                · rcases or_some hq with h | h
                  · exact if_some (by decide) h
                  · obtain ⟨r, hr⟩ := fo_some h
                    unfold tskAt at hr
                    split at hr
                    · exact nz_some hr
                    · cases hr
                · cases hq
              · exact hs h
            · split at hk
              · exact nz_some hk
              · simp only [Option.some.injEq, Prod.mk.injEq] at hk
                rw [← hk.2]
                decide
      · cases hk
  · unfold mnc at h
    split at h
    · simp only [Option.some.injEq, Prod.mk.injEq] at h
      rw [← h.2]
      decide
    · split at h
      · simp only [Option.some.injEq, Prod.mk.injEq] at h
        rw [← h.2]
        decide
      · exact if_some (by decide) h

end Go.Proofs.YtjdkoahbahecoaaDoor
