/-
  Proved (pure): of blocks that were walked from the first one and have turns: what the least tops tell of those that are passed on every way (after Lengauer and Tarjan).
-/
import Derived.Test.YtmmgdiecmokipaaKit
namespace Go.Proofs.Ytmmgdiecmokipaa

/-- k steps up. -/
def upN (par : Nat → Nat) : Nat → Nat → Nat
  | 0, x => x
  | k + 1, x => upN par k (par x)

theorem upN_add (par : Nat → Nat) (j k x : Nat) : upN par (k + j) x = upN par j (upN par k x) := by
  induction k generalizing x with
  | zero => rw [Nat.zero_add]; rfl
  | succ k ih => rw [Nat.succ_add]; exact ih (par x)

/-- a stands above b, or is b. -/
def An (par : Nat → Nat) (a b : Nat) : Prop := ∃ k, upN par k b = a

theorem An.refl (par : Nat → Nat) (a : Nat) : An par a a := ⟨0, rfl⟩
theorem An.par (par : Nat → Nat) (a : Nat) : An par (par a) a := ⟨1, rfl⟩
theorem An.trans {par : Nat → Nat} {a b c : Nat} (h : An par a b) (k : An par b c) : An par a c := by
  obtain ⟨i, hi⟩ := h
  obtain ⟨j, hj⟩ := k
  exact ⟨j + i, by rw [upN_add, hj, hi]⟩
theorem An.up {par : Nat → Nat} {a b : Nat} (h : An par a b) : a = b ∨ An par a (par b) := by
  obtain ⟨k, hk⟩ := h
  cases k with
  | zero => exact Or.inl hk.symm
  | succ k => exact Or.inr ⟨k, hk⟩

/-- Turns of a walk: par: where each was walked to from; E: the ways. -/
def Tr (m : Nat) (par : Nat → Nat) (E : Nat → Nat → Prop) : Prop :=
  par 0 = 0 ∧ (∀ w, 0 < w → w < m → par w < w ∧ E (par w) w) ∧ (∀ w, w + 1 < m → An par (par (w + 1)) w) ∧ ∀ v w, E v w → v < m ∧ w < m ∧ (v < w → An par v w)

section
variable {m : Nat} {par : Nat → Nat} {E : Nat → Nat → Prop}

theorem Tr.le (T : Tr m par E) {a b : Nat} (h : An par a b) (hb : b < m) : a ≤ b := by
  obtain ⟨k, hk⟩ := h
  induction k generalizing b with
  | zero => exact Nat.le_of_eq hk.symm
  | succ k ih =>
    rcases Nat.eq_zero_or_pos b with h0 | h0
    · subst h0
      have : upN par k 0 = a := by have := hk; rw [upN, T.1] at this; exact this
      exact ih hb this
    · have h1 := (T.2.1 b h0 hb).1
      have := ih (b := par b) (by omega) hk
      omega

theorem Tr.mid (T : Tr m par E) {a b c : Nat} (h : An par a c) (h1 : a ≤ b) (h2 : b ≤ c) (hc : c < m) : An par a b := by
  induction c with
  | zero =>
    obtain rfl : b = 0 := by omega
    exact h
  | succ c ih =>
    by_cases e : b = c + 1
    · subst e; exact h
    · rcases h.up with e1 | h3
      · omega
      · exact ih (h3.trans (T.2.2.1 c hc)) (by omega) (by omega)

/-- The one below a on the way to w. -/
theorem Tr.child (T : Tr m par E) {a w : Nat} (h : An par a w) (hn : a ≠ w) (hw : w < m) : ∃ c, par c = a ∧ An par c w ∧ a < c := by
  induction w using Nat.strongRecOn with
  | _ w ih =>
    rcases Nat.eq_zero_or_pos w with h0 | h0
    · subst h0
      have := T.le h hw
      omega
    · have hp := (T.2.1 w h0 hw).1
      rcases h.up with e | h1
      · exact absurd e hn
      · by_cases e : a = par w
        · exact ⟨w, e.symm, An.refl _ _, by omega⟩
        · obtain ⟨c, h2, h3, h4⟩ := ih (par w) hp h1 e (by omega)
          exact ⟨c, h2, h3.trans (An.par _ _), h4⟩

/-- What can be come to, but not over t. -/
def RA (E : Nat → Nat → Prop) (t x : Nat) : Prop := t ≠ 0 ∧ ∀ S : Nat → Prop, S 0 → (∀ a b, S a → E a b → b ≠ t → S b) → S x

theorem RA.zero {t : Nat} (h : t ≠ 0) : RA E t 0 := ⟨h, fun _ h0 _ => h0⟩
theorem RA.step {t a b : Nat} (h : RA E t a) (hb : E a b) (hw : b ≠ t) : RA E t b := ⟨h.1, fun S h0 hs => hs a b (h.2 S h0 hs) hb hw⟩

theorem Tr.down (T : Tr m par E) {t u v : Nat} (h : RA E t u) (hu : An par u v) (hv : v < m) (ht : t < u) : RA E t v := by
  induction v using Nat.strongRecOn with
  | _ v ih =>
    by_cases e : u = v
    · subst e; exact h
    · have hle := T.le hu hv
      have hp := T.2.1 v (by omega) hv
      rcases hu.up with e1 | h1
      · exact absurd e1 e
      · exact (ih (par v) hp.1 h1 (by omega)).step hp.2 (by omega)

theorem Tr.small (T : Tr m par E) {t x : Nat} (h : x < t) (hx : x < m) : RA E t x := by
  induction x using Nat.strongRecOn with
  | _ x ih =>
    rcases Nat.eq_zero_or_pos x with h0 | h0
    · subst h0; exact RA.zero (by omega)
    · have hp := T.2.1 x h0 hx
      exact (ih (par x) hp.1 (by omega) (by omega)).step hp.2 (by omega)

/-- The least tops. -/
def Sm (m : Nat) (par : Nat → Nat) (E : Nat → Nat → Prop) (s : Nat → Nat) (w : Nat) : Prop :=
  (∀ v, E v w → v < w → s w ≤ v) ∧ (∀ v u, E v w → w < u → An par u v → s w ≤ s u) ∧ ((E (s w) w ∧ s w < w) ∨ ∃ u v, E v w ∧ w < u ∧ u < m ∧ An par u v ∧ s w = s u)

variable {s : Nat → Nat}

theorem Tr.semi (T : Tr m par E) (S : ∀ w, 0 < w → w < m → Sm m par E s w) : ∀ k w, 0 < w → w < m → m ≤ w + k → An par (s w) w ∧ s w < w := by
  intro k
  induction k with
  | zero => intro w _ h1 h2; omega
  | succ k ih =>
    intro w h0 h1 h2
    have hp := T.2.1 w h0 h1
    have hle := (S w h0 h1).1 _ hp.2 hp.1
    refine ⟨?_, by omega⟩
    rcases (S w h0 h1).2.2 with ⟨h3, h4⟩ | ⟨u, v, h3, h4, h5, h6, h7⟩
    · exact (T.2.2.2 _ _ h3).2.2 h4
    · have h8 := (ih u (by omega) h5 (by omega)).1
      rw [← h7] at h8
      exact T.mid h8 (by omega) (by omega) h5

theorem Tr.over (T : Tr m par E) (S : ∀ w, 0 < w → w < m → Sm m par E s w) {t : Nat} : ∀ k e, 0 < e → e < m → m ≤ e + k → t < e → RA E t (s e) → RA E t e := by
  intro k
  induction k with
  | zero => intro e _ h1 h2; omega
  | succ k ih =>
    intro e h0 h1 h2 ht hr
    rcases (S e h0 h1).2.2 with ⟨h3, h4⟩ | ⟨u, v, h3, h4, h5, h6, h7⟩
    · exact hr.step h3 (by omega)
    · rw [h7] at hr
      have h8 := ih u (by omega) h5 (by omega) (by omega) hr
      exact (T.down h8 h6 (T.2.2.2 _ _ h3).1 (by omega)).step h3 (by omega)

/-- u has the least top of those from w up to below w's top. -/
def Bst (par : Nat → Nat) (s : Nat → Nat) (w u : Nat) : Prop := An par u w ∧ s w < u ∧ ∀ y, An par y w → s w < y → s u ≤ s y

variable {d : Nat → Nat}

theorem dle (D : ∀ w, 0 < w → w < m → ∃ u, Bst par s w u ∧ d w = if s u < s w then d u else s w) (T : Tr m par E) : ∀ w, 0 < w → w < m → d w ≤ s w := by
  intro w
  induction w using Nat.strongRecOn with
  | _ w ih =>
    intro h0 h1
    obtain ⟨u, ⟨h2, h3, _⟩, h5⟩ := D w h0 h1
    rw [h5]
    split
    · rename_i h
      have hu := T.le h2 h1
      have hne : u ≠ w := fun e => by subst e; omega
      have := ih u (by omega) (by omega) (by omega)
      omega
    · exact Nat.le_refl _

/-- It is passed on every way. -/
theorem Tr.passed (T : Tr m par E) (S : ∀ w, 0 < w → w < m → Sm m par E s w) (D : ∀ w, 0 < w → w < m → ∃ u, Bst par s w u ∧ d w = if s u < s w then d u else s w) : ∀ w, 0 < w → w < m → ¬ RA E (d w) w := by
  intro w
  induction w using Nat.strongRecOn with
  | _ w ih =>
    intro h0 h1 hr
    have hsw := (T.semi S m w h0 h1 (by omega)).2
    have hdw := dle D T w h0 h1
    obtain ⟨u, ⟨h2, h3, h4⟩, h5⟩ := D w h0 h1
    have hd0 := hr.1
    have key : w < d w ∨ (d w < w ∧ ∃ e, d w < e ∧ An par e w ∧ s e < d w) := by
      refine hr.2 (fun x => x < d w ∨ (d w < x ∧ ∃ e, d w < e ∧ An par e x ∧ s e < d w)) (Or.inl (by omega)) fun a c ha hE hc => ?_
      have hT := T.2.2.2 a c hE
      by_cases h6 : c < d w
      · exact Or.inl h6
      · have h7 : d w < c := by omega
        refine Or.inr ⟨h7, ?_⟩
        have hS := S c (by omega) hT.2.1
        rcases ha with ha | ⟨ha, e, he1, he2, he3⟩
        · refine ⟨c, h7, An.refl _ _, ?_⟩
          have := hS.1 a hE (by omega)
          omega
        · by_cases h8 : a < c
          · exact ⟨e, he1, he2.trans (hT.2.2 h8), he3⟩
          · by_cases h9 : c < e
            · refine ⟨c, h7, An.refl _ _, ?_⟩
              have := hS.2.1 a e hE h9 he2
              omega
            · exact ⟨e, he1, T.mid he2 (by omega) (by omega) hT.1, he3⟩
    rcases key with hk | ⟨_, e, he1, he2, he3⟩
    · omega
    · by_cases hc : s u < s w
      · rw [if_pos hc] at h5
        have hu := T.le h2 h1
        have hne : u ≠ w := fun e => by subst e; omega
        have hu0 : 0 < u := by omega
        have hdu := dle D T u hu0 (by omega)
        by_cases h6 : s w < e
        · have := h4 e he2 h6
          omega
        · have hem := T.le he2 h1
          have h7 : An par e u := T.mid he2 (by omega) hu h1
          have h8 : RA E (d w) (s e) := T.small he3 (by omega)
          have h9 := T.over S m e (by omega) (by omega) (by omega) he1 h8
          have h10 := T.down h9 h7 (by omega) he1
          rw [h5] at h10
          exact ih u (by omega) hu0 (by omega) h10
      · rw [if_neg hc] at h5
        have := h4 e he2 (by omega)
        omega

/-- None that is passed on every way stands below it. -/
theorem Tr.nearest (T : Tr m par E) (S : ∀ w, 0 < w → w < m → Sm m par E s w) (D : ∀ w, 0 < w → w < m → ∃ u, Bst par s w u ∧ d w = if s u < s w then d u else s w) : ∀ w, 0 < w → w < m → ∀ x, x ≠ w → ¬ RA E x w → x ≤ d w := by
  intro w
  induction w using Nat.strongRecOn with
  | _ w ih =>
    intro h0 h1 x hx hr
    have hsw := (T.semi S m w h0 h1 (by omega)).2
    have hxs : x ≤ s w := by
      rcases Nat.lt_or_ge (s w) x with h | h
      · exfalso
        rcases Nat.lt_or_ge x w with h2 | h2
        · exact hr (T.over S m w h0 h1 (by omega) h2 (T.small h (by omega)))
        · exact hr (T.small (by omega) h1)
      · exact h
    obtain ⟨u, ⟨h2, h3, h4⟩, h5⟩ := D w h0 h1
    rw [h5]
    split
    · rename_i h
      have hu := T.le h2 h1
      have hne : u ≠ w := fun e => by subst e; omega
      refine ih u (by omega) (by omega) (by omega) x (by omega) fun hru => hr ?_
      exact T.down hru h2 h1 (by omega)
    · exact hxs

/-- The forest of those that are done: up: tied to; best: the least top from it up to below its up. Done are those above i. -/
def Fo (m : Nat) (par : Nat → Nat) (i : Nat) (top : Nat → Nat) (up : Nat → Int) (best : Nat → Nat) : Prop :=
  (∀ j, j ≤ i → up j = -1 ∧ best j = j) ∧ ∀ j, i < j → j < m → ∃ a : Nat, up j = (a : Int) ∧ a < j ∧ An par a j ∧ (∀ y, An par y j → a < y → i < y) ∧ An par (best j) j ∧ a < best j ∧ ∀ y, An par y j → a < y → top (best j) ≤ top y

def pu {α : Type} (f : Nat → α) (j : Nat) (x : α) : Nat → α := fun k => if k = j then x else f k
theorem pu_self {α : Type} (f : Nat → α) (j : Nat) (x : α) : pu f j x j = x := if_pos rfl
theorem pu_ne {α : Type} (f : Nat → α) {j k : Nat} (x : α) (h : k ≠ j) : pu f j x k = f k := if_neg h

variable {i : Nat} {top : Nat → Nat} {up : Nat → Int} {best : Nat → Nat}

theorem Fo.neg (F : Fo m par i top up best) {j : Nat} (hj : j < m) : up j < 0 ↔ j ≤ i := by
  constructor
  · intro h
    rcases Nat.lt_or_ge i j with h1 | h1
    · obtain ⟨a, h2, _⟩ := F.2 j h1 hj
      omega
    · exact h1
  · intro h
    rw [(F.1 j h).1]
    decide

/-- One is tied further up. -/
theorem Fo.tie (F : Fo m par i top up best) (T : Tr m par E) {j a c : Nat} (hj : i < j) (hjm : j < m) (ha : up j = (a : Int)) (hai : i < a) (hc : up a = (c : Int)) :
    Fo m par i top (pu up j (c : Int)) (pu best j (if top (best a) < top (best j) then best a else best j)) := by
  refine ⟨fun k hk => ?_, fun k hk hkm => ?_⟩
  · rw [pu_ne _ _ (by omega), pu_ne _ _ (by omega)]
    exact F.1 k hk
  · by_cases e : k = j
    · subst e
      rw [pu_self, pu_self]
      obtain ⟨a', e1, a1, a2, a3, a4, a5, a6⟩ := F.2 k hk hkm
      obtain rfl : a' = a := by omega
      obtain ⟨c', e2, c1, c2, c3, c4, c5, c6⟩ := F.2 a' hai (by omega)
      obtain rfl : c' = c := by omega
      have part : ∀ y, An par y k → c' < y → (An par y a' ∧ c' < y) ∨ (An par y k ∧ a' < y) := fun y hy hcy => by
        rcases Nat.lt_or_ge a' y with h | h
        · exact Or.inr ⟨hy, h⟩
        · exact Or.inl ⟨T.mid hy h (by omega) hkm, hcy⟩
      refine ⟨c', rfl, by omega, c2.trans a2, fun y hy hcy => ?_, ?_, ?_, fun y hy hcy => ?_⟩
      · rcases part y hy hcy with ⟨h1, h2⟩ | ⟨h1, h2⟩
        · exact c3 y h1 h2
        · exact a3 y h1 h2
      · split
        · exact c4.trans a2
        · exact a4
      · split <;> omega
      · rcases part y hy hcy with ⟨h1, h2⟩ | ⟨h1, h2⟩
        · have := c6 y h1 h2
          split <;> omega
        · have := a6 y h1 h2
          split <;> omega
    · rw [pu_ne _ _ e, pu_ne _ _ e]
      exact F.2 k hk hkm

/-- What the best of one is that is tied to one that was not done. -/
theorem Fo.least (F : Fo m par i top up best) {j a : Nat} (hj : i < j) (hjm : j < m) (ha : up j = (a : Int)) (hai : a ≤ i) : An par (best j) j ∧ i < best j ∧ ∀ y, An par y j → i < y → top (best j) ≤ top y := by
  obtain ⟨a', e1, a1, a2, a3, a4, a5, a6⟩ := F.2 j hj hjm
  obtain rfl : a' = a := by omega
  exact ⟨a4, a3 _ a4 a5, fun y hy hiy => a6 y hy (by omega)⟩

/-- The next one's top is told. -/
theorem Fo.told (F : Fo m par i top up best) (x : Nat) : Fo m par i (pu top i x) up best := by
  refine ⟨F.1, fun j hj hjm => ?_⟩
  obtain ⟨a, e1, a1, a2, a3, a4, a5, a6⟩ := F.2 j hj hjm
  refine ⟨a, e1, a1, a2, a3, a4, a5, fun y hy hay => ?_⟩
  have h1 := a3 _ a4 a5
  have h2 := a3 y hy hay
  rw [pu_ne _ _ (by omega), pu_ne _ _ (by omega)]
  exact a6 y hy hay

/-- The next one is done. -/
theorem Fo.link (F : Fo m par i top up best) (T : Tr m par E) (h0 : 0 < i) (hi : i < m) : Fo m par (i - 1) top (pu up i (par i : Int)) best := by
  have hp := (T.2.1 i h0 hi).1
  refine ⟨fun j hj => ?_, fun j hj hjm => ?_⟩
  · rw [pu_ne _ _ (by omega)]
    exact F.1 j (by omega)
  · by_cases e : j = i
    · subst e
      have hb := (F.1 j (Nat.le_refl _)).2
      have one : ∀ y, An par y j → par j < y → y = j := fun y hy hpy => by
        rcases hy.up with e | h
        · exact e
        · have := T.le h (by omega)
          omega
      refine ⟨par j, pu_self _ _ _, hp, An.par _ _, fun y hy hpy => ?_, by rw [hb]; exact An.refl _ _, by omega, fun y hy hpy => ?_⟩
      · have := one y hy hpy
        omega
      · rw [one y hy hpy, hb]
        exact Nat.le_refl _
    · rw [pu_ne _ _ e]
      obtain ⟨a, e1, a1, a2, a3, a4, a5, a6⟩ := F.2 j (by omega) hjm
      exact ⟨a, e1, a1, a2, fun y hy hay => by have := a3 y hy hay; omega, a4, a5, a6⟩

/-- What bestOf tells. -/
def Bo (par : Nat → Nat) (i : Nat) (top : Nat → Nat) (j r : Nat) : Prop := (j ≤ i → r = j) ∧ (i < j → An par r j ∧ i < r ∧ ∀ y, An par y j → i < y → top r ≤ top y)

/-- A chain of ties, from the last one on. -/
def Chn (up : Nat → Int) : List Nat → Nat → Prop
  | [], _ => True
  | t :: r, c => up t = (c : Int) ∧ c < t ∧ Chn up r t

theorem Chn.pu {up : Nat → Int} {k : Nat} {x : Int} : ∀ {l : List Nat} {c : Nat}, Chn up l c → k ≤ c → Chn (pu up k x) l c
  | [], _, _, _ => trivial
  | t :: r, c, h, hk => ⟨by rw [pu_ne _ _ (by have := h.2.1; omega)]; exact h.1, h.2.1, Chn.pu h.2.2 (by have := h.2.1; omega)⟩

/-- The top of i in the making, over some of those that come to it. -/
def Tp (par : Nat → Nat) (i : Nat) (top : Nat → Nat) (l : List Nat) (x : Nat) : Prop :=
  (∀ v ∈ l, v < i → x ≤ v) ∧ (∀ v ∈ l, ∀ u, i < u → An par u v → x ≤ top u) ∧ x ≤ i ∧ (x = i ∨ (x ∈ l ∧ x < i) ∨ ∃ v ∈ l, ∃ u, i < u ∧ u ≤ v ∧ An par u v ∧ x = top u)

theorem Tp.start (par : Nat → Nat) (i : Nat) (top : Nat → Nat) : Tp par i top [] i := ⟨fun v h => by simp at h, fun v h => by simp at h, Nat.le_refl _, Or.inl rfl⟩

theorem Tp.more (T : Tr m par E) {l : List Nat} {x v r : Nat} (h : Tp par i top l x) (hv : v < m) (hb : Bo par i top v r) (ht : ∀ j, j < i → top j = j) (hi : top i = x) : Tp par i top (l ++ [v]) (min x (top r)) := by
  obtain ⟨h1, h2, h3, h4⟩ := h
  rcases Nat.lt_or_ge i v with hiv | hiv
  · obtain ⟨b1, b2, b3⟩ := hb.2 hiv
    have hrv := T.le b1 hv
    refine ⟨fun y hy hyi => ?_, fun y hy u hu hA => ?_, by omega, ?_⟩
    · rcases List.mem_append.1 hy with h | h
      · have := h1 y h hyi; omega
      · simp at h; omega
    · rcases List.mem_append.1 hy with h | h
      · have := h2 y h u hu hA; omega
      · simp at h; subst h
        have := b3 u hA hu; omega
    · rcases Nat.lt_or_ge (top r) x with hlt | hge
      · rw [Nat.min_eq_right (by omega)]
        exact Or.inr (Or.inr ⟨v, by simp, r, b2, hrv, b1, rfl⟩)
      · rw [Nat.min_eq_left hge]
        rcases h4 with h | ⟨h, h'⟩ | ⟨y, hy, u, h, h', h'', h'''⟩
        · exact Or.inl h
        · exact Or.inr (Or.inl ⟨List.mem_append_left _ h, h'⟩)
        · exact Or.inr (Or.inr ⟨y, List.mem_append_left _ hy, u, h, h', h'', h'''⟩)
  · obtain rfl := hb.1 hiv
    have hA : ∀ u, i < u → ¬ An par u r := fun u hu h => by have := T.le h hv; omega
    have hnot : ∀ y ∈ l ++ [r], ∀ u, i < u → An par u y → y ∈ l := fun y hy u hu h => by
      rcases List.mem_append.1 hy with h5 | h5
      · exact h5
      · simp at h5; subst h5; exact absurd h (hA u hu)
    by_cases e : r = i
    · subst e
      rw [hi, Nat.min_self]
      refine ⟨fun y hy hyi => ?_, fun y hy u hu h => h2 y (hnot y hy u hu h) u hu h, h3, ?_⟩
      · rcases List.mem_append.1 hy with h | h
        · exact h1 y h hyi
        · simp at h; omega
      · rcases h4 with h | ⟨h, h'⟩ | ⟨y, hy, u, h, h', h'', h'''⟩
        · exact Or.inl h
        · exact Or.inr (Or.inl ⟨List.mem_append_left _ h, h'⟩)
        · exact Or.inr (Or.inr ⟨y, List.mem_append_left _ hy, u, h, h', h'', h'''⟩)
    · rw [ht r (by omega)]
      refine ⟨fun y hy hyi => ?_, fun y hy u hu h => ?_, by omega, ?_⟩
      · rcases List.mem_append.1 hy with h | h
        · have := h1 y h hyi; omega
        · simp at h; omega
      · have := h2 y (hnot y hy u hu h) u hu h; omega
      · rcases Nat.lt_or_ge r x with hlt | hge
        · rw [Nat.min_eq_right (by omega)]
          exact Or.inr (Or.inl ⟨by simp, by omega⟩)
        · rw [Nat.min_eq_left hge]
          rcases h4 with h | ⟨h, h'⟩ | ⟨y, hy, u, h, h', h'', h'''⟩
          · exact Or.inl h
          · exact Or.inr (Or.inl ⟨List.mem_append_left _ h, h'⟩)
          · exact Or.inr (Or.inr ⟨y, List.mem_append_left _ hy, u, h, h', h'', h'''⟩)

/-- All that come to it were looked at. -/
theorem Tp.done (T : Tr m par E) {l : List Nat} {x : Nat} (h : Tp par i top l x) (hl : ∀ v, v ∈ l ↔ E v i) (h0 : 0 < i) (hi : i < m) : Sm m par E (pu top i x) i := by
  obtain ⟨h1, h2, h3, h4⟩ := h
  have hp := T.2.1 i h0 hi
  have hx := h1 _ ((hl _).2 hp.2) hp.1
  refine ⟨fun v hv hvi => ?_, fun v u hv hu hA => ?_, ?_⟩
  · rw [pu_self]; exact h1 v ((hl v).2 hv) hvi
  · rw [pu_self, pu_ne _ _ (by omega)]; exact h2 v ((hl v).2 hv) u hu hA
  · rw [pu_self]
    rcases h4 with h | ⟨h, h'⟩ | ⟨y, hy, u, h, h', h'', h'''⟩
    · omega
    · exact Or.inl ⟨(hl x).1 h, h'⟩
    · have hy' := (hl y).1 hy
      have := (T.2.2.2 _ _ hy').1
      exact Or.inr ⟨u, y, hy', h, by omega, h'', by rw [pu_ne _ _ (by omega)]; exact h'''⟩

/-- A top that was told stays. -/
theorem Sm.keep {w x : Nat} (h : Sm m par E top w) (hw : i < w) : Sm m par E (pu top i x) w := by
  obtain ⟨h1, h2, h3⟩ := h
  refine ⟨fun v hv hvw => ?_, fun v u hv hu hA => ?_, ?_⟩
  · rw [pu_ne _ _ (by omega)]; exact h1 v hv hvw
  · rw [pu_ne _ _ (by omega), pu_ne _ _ (by omega)]; exact h2 v u hv hu hA
  · rw [pu_ne _ _ (by omega)]
    rcases h3 with h | ⟨u, v, a, b, c, d, e⟩
    · exact Or.inl h
    · exact Or.inr ⟨u, v, a, b, c, d, by rw [pu_ne _ _ (by omega)]; exact e⟩

/-- Those that wait: W; whose best is told: D. -/
def Wt (m : Nat) (par : Nat → Nat) (i : Nat) (top : Nat → Nat) (W : Nat → List Nat) (D : Nat → Nat) : Prop :=
  (∀ k, ∀ w ∈ W k, i < w ∧ w < m ∧ top w = k) ∧ ∀ w, i < w → w < m → (Bst par top w (D w) ∧ ∀ y, An par y w → top w < y → i < y) ∨ (w ∈ W (top w) ∧ ∀ c, par c = top w → An par c w → c ≤ i)

theorem Wt.start (m : Nat) (par top D : Nat → Nat) : Wt m par (m - 1) top (fun _ => []) D := ⟨fun k w h => by simp at h, fun w h1 h2 => by omega⟩

theorem Wt.step {W : Nat → List Nat} {D D1 : Nat → Nat} {x : Nat} (h : Wt m par i top W D) (T : Tr m par E) (h0 : 0 < i) (hi : i < m)
    (hD1 : ∀ w, w ∈ (pu W x (W x ++ [i])) (par i) → Bo par (i - 1) (pu top i x) w (D1 w)) (hD2 : ∀ w, w ∉ (pu W x (W x ++ [i])) (par i) → D1 w = D w) :
    Wt m par (i - 1) (pu top i x) (pu (pu W x (W x ++ [i])) (par i) []) D1 := by
  have hp := (T.2.1 i h0 hi).1
  have one : ∀ k, ∀ w ∈ (pu W x (W x ++ [i])) k, i - 1 < w ∧ w < m ∧ pu top i x w = k := fun k w hw => by
    by_cases e : k = x
    · subst e
      rw [pu_self] at hw
      rcases List.mem_append.1 hw with h1 | h1
      · have := h.1 k w h1
        rw [pu_ne _ _ (by omega)]
        exact ⟨by omega, this.2⟩
      · simp at h1; subst h1
        exact ⟨by omega, hi, pu_self _ _ _⟩
    · rw [pu_ne _ _ e] at hw
      have := h.1 k w hw
      rw [pu_ne _ _ (by omega)]
      exact ⟨by omega, this.2⟩
  refine ⟨fun k w hw => ?_, fun w h1 h2 => ?_⟩
  · by_cases e : k = par i
    · subst e; rw [pu_self] at hw; simp at hw
    · rw [pu_ne _ _ e] at hw; exact one k w hw
  · by_cases hm : w ∈ (pu W x (W x ++ [i])) (par i)
    · left
      have ht := (one _ w hm).2.2
      obtain ⟨b1, b2, b3⟩ := (hD1 w hm).2 h1
      have low : ∀ y, An par y w → par i < y → i - 1 < y := fun y hy hpy => by
        rcases Nat.lt_or_ge (i - 1) y with h3 | h3
        · exact h3
        · exfalso
          have h4 := T.mid hy (show y ≤ i by omega) (by omega) h2
          rcases h4.up with e | h5
          · omega
          · have := T.le h5 (by omega)
            omega
      refine ⟨⟨b1, by rw [ht]; omega, fun y hy hyw => b3 y hy ?_⟩, fun y hy hyw => ?_⟩
      · rw [ht] at hyw; exact low y hy hyw
      · rw [ht] at hyw; exact low y hy hyw
    · rw [hD2 w hm]
      by_cases e : w = i
      · subst e
        right
        have hx : x ≠ par w := fun e => hm (by rw [e, pu_self]; simp)
        rw [pu_self, pu_ne _ _ hx, pu_self]
        refine ⟨by simp, fun c hc hA => ?_⟩
        have := T.le hA h2
        have : c ≠ w := fun e => hx (by rw [← hc, e])
        omega
      · rcases h.2 w (by omega) h2 with ⟨⟨b1, b2, b3⟩, b4⟩ | ⟨b1, b2⟩
        · left
          rw [show pu top i x w = top w from pu_ne _ _ e]
          refine ⟨⟨b1, by rw [pu_ne _ _ e]; exact b2, fun y hy hyw => ?_⟩, fun y hy hyw => by have := b4 y hy hyw; omega⟩
          rw [pu_ne _ _ e] at hyw
          have h3 := b4 y hy hyw
          have h4 := b4 _ b1 b2
          rw [pu_ne _ _ (by omega), pu_ne _ _ (by omega)]
          exact b3 y hy hyw
        · right
          rw [pu_ne _ _ e]
          have h3 : w ∈ (pu W x (W x ++ [i])) (top w) := by
            by_cases e1 : top w = x
            · rw [e1, pu_self]; rw [e1] at b1; exact List.mem_append_left _ b1
            · rw [pu_ne _ _ e1]; exact b1
          have h4 : top w ≠ par i := fun e1 => hm (by rw [← e1]; exact h3)
          rw [pu_ne _ _ h4]
          refine ⟨h3, fun c hc hA => ?_⟩
          have h5 := b2 c hc hA
          have : c ≠ i := fun e1 => h4 (by rw [← hc, e1])
          omega

theorem Wt.done {W : Nat → List Nat} {D : Nat → Nat} (h : Wt m par 0 top W D) (T : Tr m par E) (S : ∀ w, 0 < w → w < m → Sm m par E top w) (w : Nat) (h0 : 0 < w) (hw : w < m) : Bst par top w (D w) := by
  rcases h.2 w h0 hw with h1 | ⟨_, h2⟩
  · exact h1.1
  · obtain ⟨h3, h4⟩ := T.semi S m w h0 hw (by omega)
    obtain ⟨c, h5, h6, h7⟩ := T.child h3 (by omega) hw
    have := h2 c h5 h6
    omega
end
end Go.Proofs.Ytmmgdiecmokipaa
