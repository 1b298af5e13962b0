/-
  Proved: the order in which the walk leaves the blocks, turned round: it begins with the block 0, has each block that can be come to once, and each behind those that stand on every way to it.
-/
import Derived.Test.YtmmgdiecmokipaaGmath
namespace Go.Proofs.Ytmmgdiecmokipaa
open Go.RowKit

/-- A way from the block 0 on. -/
def Way (g : Nat → List Nat) : List Nat → Nat → Prop
  | [], i => i = 0
  | a :: st, i => i ∈ g a ∧ Way g st a

/-- What stands on every way to a block stands on this one. -/
theorem Way.dom {g : Nat → List Nat} {d : Nat} : ∀ {st : List Nat} {i : Nat}, Way g st i → Dom g d i → d ∈ st
  | [], i, h, hd => by
    have h : i = 0 := h
    subst h
    exact (dom_zero hd).elim
  | a :: st, i, h, hd => by
    by_cases e : d = a
    · subst e; exact List.mem_cons_self
    · have h1 : Dom g d a := ⟨e, hd.2.1, fun hr => hd.2.2 (hr.step h.1 (by have := hd.1; omega))⟩
      exact List.mem_cons_of_mem _ (Way.dom h.2 h1)

theorem Way.rch {g : Nat → List Nat} : ∀ {st : List Nat} {i : Nat}, Way g st i → Rch g (-1) i
  | [], i, h => by
    have h : i = 0 := h
    subst h
    exact Rch.zero (by decide)
  | _ :: _, _, h => (Way.rch h.2).step h.1 (by omega)

/-- Blocks that were left, one behind the other, while st stood open: each ahead of those that stand on every way to it. -/
def Lft (g : Nat → List Nat) (st : List Nat) : List Nat → Prop
  | [] => True
  | x :: l => (∀ d, Dom g d x → d ∈ st ∨ d ∈ l) ∧ Lft g st l

theorem Lft.append {g : Nat → List Nat} {st : List Nat} : ∀ {l m : List Nat}, Lft g st l → Lft g st m → Lft g st (l ++ m)
  | [], _, _, h => h
  | _ :: _, _, h, k => ⟨fun d hd => (h.1 d hd).imp id fun h => List.mem_append_left _ h, Lft.append h.2 k⟩

/-- The innermost one is left. -/
theorem Lft.leave {g : Nat → List Nat} {st : List Nat} {i : Nat} (hw : Way g st i) : ∀ {l : List Nat}, Lft g (i :: st) l → Lft g st (l ++ [i])
  | [], _ => ⟨fun d hd => Or.inl (hw.dom hd), trivial⟩
  | x :: l, h => ⟨fun d hd => by
      rcases h.1 d hd with h1 | h1
      · rcases List.mem_cons.1 h1 with h2 | h2
        · subst h2; exact Or.inr (by simp)
        · exact Or.inl h2
      · exact Or.inr (List.mem_append_left _ h1), Lft.leave hw h.2⟩

/-- What a walk adds: those that were entered, each once. -/
def Add (g : Nat → List Nat) (st : List Nat) (s s' : (Nat → Bool) × List Nat) : Prop :=
  ∃ new, s'.2 = s.2 ++ new ∧ Lft g st new ∧ new.Nodup ∧ (∀ x, x ∈ new ↔ s'.1 x = true ∧ s.1 x = false) ∧ (∀ x, s.1 x = true → s'.1 x = true) ∧ ∀ x ∈ new, Rch g (-1) x

theorem Add.refl (g : Nat → List Nat) (st : List Nat) (s : (Nat → Bool) × List Nat) : Add g st s s := ⟨[], by simp, trivial, by simp, fun x => by simp, fun _ h => h, fun x h => by simp at h⟩

theorem Add.trans {g : Nat → List Nat} {st : List Nat} {s t u : (Nat → Bool) × List Nat} (h : Add g st s t) (k : Add g st t u) : Add g st s u := by
  obtain ⟨a, a1, a2, a3, a4, a5, a6⟩ := h
  obtain ⟨b, b1, b2, b3, b4, b5, b6⟩ := k
  refine ⟨a ++ b, by rw [b1, a1, List.append_assoc], a2.append b2, List.nodup_append.2 ⟨a3, b3, fun x hx y hy e => ?_⟩, fun x => ?_, fun x hx => b5 x (a5 x hx), fun x hx => ?_⟩
  · subst e
    have := ((b4 x).1 hy).2
    rw [((a4 x).1 hx).1] at this
    cases this
  · rw [List.mem_append, a4, b4]
    constructor
    · rintro (⟨h1, h2⟩ | ⟨h1, h2⟩)
      · exact ⟨b5 x h1, h2⟩
      · refine ⟨h1, ?_⟩
        cases e : s.1 x with
        | false => rfl
        | true => rw [a5 x e] at h2; cases h2
    · rintro ⟨h1, h2⟩
      cases e : t.1 x with
      | true => exact Or.inl ⟨rfl, h2⟩
      | false => exact Or.inr ⟨h1, rfl⟩
  · rcases List.mem_append.1 hx with h | h
    · exact a6 x h
    · exact b6 x h

/-- What was entered is closed, but for what stands open. -/
def Cls (g : Nat → List Nat) (st : List Nat) (p : Nat → Bool) : Prop := ∀ a, p a = true → a ∉ st → ∀ b ∈ g a, p b = true

theorem lv_add {g : Nat → List Nat} {n : Nat} (hg : ∀ a, ∀ b ∈ g a, b < n) (f : Nat) : ∀ (i : Nat) (st : List Nat) (s : (Nat → Bool) × List Nat), i < n → s.1 i = false → un n s.1 ≤ f → Way g st i → Add g st s (lv g f i s) ∧ (lv g f i s).1 i = true ∧ (Cls g st s.1 → Cls g st (lv g f i s).1) := by
  induction f with
  | zero =>
    intro i st s hi hp hu
    have := un_up n s.1 i hi hp
    omega
  | succ f ih =>
    intro i st s hi hp hu hw
    have key : ∀ (l : List Nat) (t : (Nat → Bool) × List Nat), (∀ b ∈ l, b ∈ g i) → un n t.1 ≤ f → Add g (i :: st) t (lf g f l t) ∧ (∀ b ∈ l, (lf g f l t).1 b = true) ∧ (Cls g (i :: st) t.1 → Cls g (i :: st) (lf g f l t).1) := by
      intro l
      induction l with
      | nil => intro t _ _; exact ⟨Add.refl _ _ _, fun b hb => by simp at hb, fun h => h⟩
      | cons a l ihl =>
        intro t hl ht
        show Add g (i :: st) t (lf g f l (if t.1 a then t else lv g f a t)) ∧ (∀ b ∈ a :: l, (lf g f l (if t.1 a then t else lv g f a t)).1 b = true) ∧ (Cls g (i :: st) t.1 → Cls g (i :: st) (lf g f l (if t.1 a then t else lv g f a t)).1)
        by_cases e : t.1 a = true
        · rw [if_pos e]
          obtain ⟨h1, h2, h3⟩ := ihl t (fun b hb => hl b (List.mem_cons_of_mem _ hb)) ht
          refine ⟨h1, fun b hb => ?_, h3⟩
          rcases List.mem_cons.1 hb with h | h
          · subst h; exact lf_mono g f l t b e
          · exact h2 b h
        · rw [if_neg e]
          have e' : t.1 a = false := by simpa using e
          have ha : a ∈ g i := hl a (by simp)
          obtain ⟨h1, h2, h3⟩ := ih a (i :: st) t (hg i a ha) e' ht ⟨ha, hw⟩
          obtain ⟨h4, h5, h6⟩ := ihl (lv g f a t) (fun b hb => hl b (List.mem_cons_of_mem _ hb)) (Nat.le_trans (un_le n _ _ fun j h => lv_mono g f a t j h) ht)
          refine ⟨h1.trans h4, fun b hb => ?_, fun h => h6 (h3 h)⟩
          rcases List.mem_cons.1 hb with h | h
          · subst h; exact lf_mono g f l _ b h2
          · exact h5 b h
    have hu1 := un_up n s.1 i hi hp
    obtain ⟨⟨new, a1, a2, a3, a4, a5, a6⟩, k2, k3⟩ := key (g i) (up s.1 i, s.2) (fun b hb => hb) (by show un n (up s.1 i) ≤ f; omega)
    have e1 : lv g (f + 1) i s = ((lf g f (g i) (up s.1 i, s.2)).1, (lf g f (g i) (up s.1 i, s.2)).2 ++ [i]) := rfl
    generalize lf g f (g i) (up s.1 i, s.2) = S at *
    rw [e1]
    have hin : i ∉ new := fun h => by
      have := ((a4 i).1 h).2
      rw [show (up s.1 i, s.2).1 i = up s.1 i i from rfl, up_self] at this
      cases this
    have hSi : S.1 i = true := a5 i (up_self _ _)
    refine ⟨⟨new ++ [i], ?_, a2.leave hw, List.nodup_append.2 ⟨a3, by simp, fun x hx y hy e => ?_⟩, fun x => ?_, fun x hx => a5 x (up_of _ _ _ hx), fun x hx => ?_⟩, hSi, fun hc a ha hst b hb => ?_⟩
    · show S.2 ++ [i] = s.2 ++ (new ++ [i])
      rw [a1, List.append_assoc]
    · simp at hy; subst hy; subst e; exact hin hx
    · show x ∈ new ++ [i] ↔ S.1 x = true ∧ s.1 x = false
      rw [List.mem_append, a4]
      show S.1 x = true ∧ up s.1 i x = false ∨ x ∈ [i] ↔ _
      by_cases e : x = i
      · subst e; simp [hSi, hp]
      · rw [up_ne _ _ _ e]; simp [e]
    · rcases List.mem_append.1 hx with h | h
      · exact a6 x h
      · simp at h; subst h; exact hw.rch
    · by_cases e : a = i
      · subst e; exact k2 b hb
      · refine k3 (fun a ha hst b hb => ?_) a ha (fun h => ?_) b hb
        · have h1 : a ≠ i := fun h => hst (by subst h; exact List.mem_cons_self)
          have h2 : s.1 a = true := by
            have : up s.1 i a = true := ha
            rwa [up_ne _ _ _ h1] at this
          exact up_of _ _ _ (hc a h2 (fun h => hst (List.mem_cons_of_mem _ h)) b hb)
        · rcases List.mem_cons.1 h with h | h
          · exact e h
          · exact hst h

/-- The whole walk. -/
theorem lv_all (n : Nat) (to : List (List Int)) (hn : 0 < n) : ∃ l, (lv (wy n to) n 0 (fun _ => false, [])).2 = l ++ [0] ∧ (l ++ [0]).Nodup ∧ (∀ x, x ∈ l ++ [0] ↔ Rch (wy n to) (-1) x) ∧ Lft (wy n to) [] (l ++ [0]) := by
  obtain ⟨⟨new, a1, a2, a3, a4, a5, a6⟩, h2, h3⟩ := lv_add (g := wy n to) (n := n) (fun a b hb => wy_lt n to a b hb) n 0 [] (fun _ => false, []) hn rfl (Nat.le_of_eq (un_all n)) rfl
  have e0 : (lv (wy n to) n 0 (fun _ => false, [])).2 = new := by rw [a1]; rfl
  obtain ⟨m, rfl⟩ : ∃ m, n = m + 1 := ⟨n - 1, by omega⟩
  have e1 : (lv (wy (m + 1) to) (m + 1) 0 (fun _ => false, [])).2 = (lf (wy (m + 1) to) m (wy (m + 1) to 0) (up (fun _ => false) 0, [])).2 ++ [0] := rfl
  have hc := h3 (fun a h => by cases h)
  have hmem : ∀ x, x ∈ new ↔ Rch (wy (m + 1) to) (-1) x := fun x => by
    refine ⟨a6 x, fun hr => (a4 x).2 ⟨?_, rfl⟩⟩
    exact hr.2 (fun x => (lv (wy (m + 1) to) (m + 1) 0 (fun _ => false, [])).1 x = true) h2 fun a b ha hb _ => hc a ha (by simp) b hb
  refine ⟨_, e1, ?_, ?_, ?_⟩ <;> rw [← e1, e0]
  · exact a3
  · exact hmem
  · exact a2

theorem Lft.place {g : Nat → List Nat} : ∀ {l : List Nat}, Lft g [] l → l.Nodup → ∀ {i j : Nat} (hi : i < l.length) (hj : j < l.length), Dom g l[j] l[i] → i < j
  | x :: l, h, hn, 0, 0, _, _, hd => absurd rfl hd.1
  | x :: l, h, hn, 0, j + 1, _, _, hd => Nat.succ_pos _
  | x :: l, h, hn, i + 1, 0, hi, hj, hd => by
    have hil : i < l.length := by simpa using hi
    have hd : Dom g x l[i] := hd
    have h1 : ∀ (l : List Nat) (h : Lft g [] l) (y : Nat), y ∈ l → ∀ d, Dom g d y → d ∈ l := fun l => by
      induction l with
      | nil => intro _ y hy; simp at hy
      | cons a l ih =>
        intro h y hy d hd
        rcases List.mem_cons.1 hy with e | e
        · subst e
          rcases h.1 d hd with h2 | h2
          · simp at h2
          · exact List.mem_cons_of_mem _ h2
        · exact List.mem_cons_of_mem _ (ih h.2 y e d hd)
    have h2 := h1 l h.2 l[i] (List.getElem_mem _) x hd
    exact absurd h2 (List.nodup_cons.1 hn).1
  | x :: l, h, hn, i + 1, j + 1, hi, hj, hd => by
    have := Lft.place h.2 (List.nodup_cons.1 hn).2 (i := i) (j := j) (by simpa using hi) (by simpa using hj) hd
    omega

/-- The order: what P11.4 says of it. -/
theorem ord_all (n : Nat) (to : List (List Int)) (hn : 0 < n) : ∃ l, ord n to = 0 :: l ∧ (0 :: l).Nodup ∧ (∀ x, x ∈ 0 :: l ↔ Rch (wy n to) (-1) x) ∧ ∀ {i j : Nat} (hi : i < (0 :: l).length) (hj : j < (0 :: l).length), Dom (wy n to) (0 :: l)[j] (0 :: l)[i] → j < i := by
  obtain ⟨l, e1, e2, e3, e4⟩ := lv_all n to hn
  have e0 : ord n to = 0 :: l.reverse := by
    rw [ord, if_neg (by omega), e1]
    simp
  have er : 0 :: l.reverse = (l ++ [0]).reverse := by simp
  refine ⟨l.reverse, e0, ?_, fun x => ?_, fun {i j} hi hj hd => ?_⟩
  · rw [er]; exact List.pairwise_reverse.2 (e2.imp fun h => h.symm)
  · rw [er, List.mem_reverse]; exact e3 x
  · simp only [er] at hd hi hj
    rw [List.getElem_reverse, List.getElem_reverse] at hd
    have := Lft.place e4 e2 _ _ hd
    simp only [List.length_reverse] at hi hj
    omega
end Go.Proofs.Ytmmgdiecmokipaa
