/-
  Proved: Line's moves, done one behind the other, leave in each place what it gets, and in the others what they held: of any moves that may be.
-/
import Derived.Test.YtoagebclnaggjaaSafter
set_option linter.unusedVariables false
namespace Go.Proofs.Ytoagebclnaggjaa
open Go.RowKit Go.Maps

def tos (p : List Mv) : List Int := p.map (·.1)
def frs (p : List Mv) : List Int := p.map (·.2)

/-- What a place is to hold at the end. -/
def dst (l : List Mv) (x : Int) : Int := (lk l x).getD x

theorem mem_rem {p : List Mv} {x : Int} {m : Mv} : m ∈ rem p x ↔ m ∈ p ∧ m.1 ≠ x := by
  unfold rem
  rw [List.mem_filter]
  simp

theorem rd_zero {p : List Mv} {x : Int} (h : rd p x = 0) : ∀ m ∈ p, m.2 ≠ x := by
  induction p with
  | nil => intro m hm; cases hm
  | cons a p ih =>
    rw [rd] at h
    intro m hm
    rcases List.mem_cons.1 hm with e | e
    · subst e
      intro e2
      rw [if_pos e2] at h
      omega
    · exact ih (by omega) m e

theorem rd_pos {p : List Mv} {x : Int} (h : rd p x ≠ 0) : x ∈ frs p := by
  induction p with
  | nil => exact absurd rfl h
  | cons a p ih =>
    rw [rd] at h
    unfold frs
    rw [List.map_cons, List.mem_cons]
    by_cases e : a.2 = x
    · exact Or.inl e.symm
    · rw [if_neg e] at h
      exact Or.inr (ih (by omega))

/-- What was told so far, behind it: p is what is still to be moved. -/
structure Inv (l : List Mv) (spare : Int) (p t : List Mv) : Prop where
  nd : ND p
  sub : ∀ m ∈ p, m ∈ mvs l
  src : ∀ m ∈ p, runM t id m.2 = m.2
  held : ∀ x, x ≠ spare → runM t id x = if x ∈ tos p then x else dst l x
  to : ∀ m ∈ t, m.1 = spare ∨ m.1 ∈ tos l

theorem lk_dst {l p : List Mv} (hl : ND l) (hs : ∀ m ∈ p, m ∈ mvs l) {x y : Int} (h : lk p x = some y) : dst l x = y := by
  have h1 := hs _ (lk_mem h)
  have h2 := lk_of hl (List.mem_filter.1 h1).1
  unfold dst
  rw [h2]
  rfl

theorem Inv.start {l : List Mv} {spare : Int} (h : OKf l spare) : Inv l spare (mvs l) [] := by
  refine ⟨?_, fun m hm => hm, fun m _ => rfl, fun x hx => ?_, fun m hm => by cases hm⟩
  · unfold ND mvs
    exact h.1.sublist (List.filter_sublist.map _)
  · show x = _
    split
    · rfl
    · rename_i hn
      unfold dst
      cases e : lk l x with
      | none => rfl
      | some y =>
        by_cases e2 : x = y
        · exact e2
        · refine absurd (List.mem_map.2 ⟨(x, y), List.mem_filter.2 ⟨lk_mem e, ?_⟩, rfl⟩) hn
          simpa using e2

theorem tos_rem {p : List Mv} {x z : Int} : z ∈ tos (rem p x) ↔ z ∈ tos p ∧ z ≠ x := by
  unfold tos
  constructor
  · intro h
    obtain ⟨m, hm, rfl⟩ := List.mem_map.1 h
    have := mem_rem.1 hm
    exact ⟨List.mem_map.2 ⟨m, this.1, rfl⟩, this.2⟩
  · rintro ⟨h, hne⟩
    obtain ⟨m, hm, rfl⟩ := List.mem_map.1 h
    exact List.mem_map.2 ⟨m, mem_rem.2 ⟨hm, hne⟩, rfl⟩

theorem sub_to {l p : List Mv} (hs : ∀ m ∈ p, m ∈ mvs l) {m : Mv} (h : m ∈ p) : m.1 ∈ tos l := List.mem_map.2 ⟨m, (List.mem_filter.1 (hs m h)).1, rfl⟩

/-- A place that nobody reads is settled. -/
theorem Inv.settle {l : List Mv} {spare : Int} (hok : OKf l spare) {p t : List Mv} (h : Inv l spare p t) {x y : Int} (hy : lk p x = some y) (hr : ∀ m ∈ rem p x, m.2 ≠ x) : Inv l spare (rem p x) (t ++ [(x, y)]) := by
  have hm := lk_mem hy
  have hsy := h.src _ hm
  refine ⟨h.nd.rem x, fun m hm => h.sub m (mem_rem.1 hm).1, fun m hm => ?_, fun z hz => ?_, fun m hm => ?_⟩
  · rw [runM_snoc, if_neg (hr m hm)]
    exact h.src m (mem_rem.1 hm).1
  · rw [runM_snoc]
    by_cases e : z = x
    · subst e
      rw [if_pos rfl, if_neg (fun h2 => (tos_rem.1 h2).2 rfl), lk_dst hok.1 h.sub hy]
      exact hsy
    · rw [if_neg e, h.held z hz]
      by_cases e2 : z ∈ tos p
      · rw [if_pos e2, if_pos (tos_rem.2 ⟨e2, e⟩)]
      · rw [if_neg e2, if_neg (fun h2 => e2 (tos_rem.1 h2).1)]
  · rcases List.mem_append.1 hm with h1 | h1
    · exact h.to m h1
    · simp at h1
      subst h1
      exact Or.inr (sub_to h.sub (lk_mem hy))

/-- All places of a list are read, or not to be moved. -/
def Rdd (pre : List Int) (p : List Mv) : Prop := ∀ a ∈ pre, lk p a = none ∨ rd p a ≠ 0

theorem chase_inv {l : List Mv} {spare : Int} (hok : OKf l spare) : ∀ (g : Nat) (pre : List Int) (p t : List Mv) (x : Int), p.length ≤ g → Inv l spare p t → (∀ a ∈ pre, a ≠ x → lk p a = none ∨ rd p a ≠ 0) → Inv l spare (chase g p x).1 (t ++ (chase g p x).2) ∧ Rdd (x :: pre) (chase g p x).1 := by
  intro g
  induction g with
  | zero =>
    intro pre p t x hg h hp
    have hn : p = [] := List.length_eq_zero_iff.1 (by omega)
    subst hn
    refine ⟨by simpa [chase] using h, fun a _ => Or.inl rfl⟩
  | succ g ih =>
    intro pre p t x hg h hp
    have stay : (lk p x = none ∨ rd p x ≠ 0) → Inv l spare p (t ++ []) ∧ Rdd (x :: pre) p := fun hx => by
      refine ⟨by simpa using h, fun a ha => ?_⟩
      by_cases e : a = x
      · subst e; exact hx
      · rcases List.mem_cons.1 ha with h2 | h2
        · exact absurd h2 e
        · exact hp a h2 e
    cases hy : lk p x with
    | none =>
      rw [chase_none hy]
      exact stay (Or.inl hy)
    | some y =>
      by_cases hr : rd p x = 0
      · rw [chase_step hy hr]
        have h1 := h.settle hok hy (fun m hm => rd_zero hr m (mem_rem.1 hm).1)
        have hsh := rem_len hy
        have h2 := ih (x :: pre) (rem p x) (t ++ [(x, y)]) y (by omega) h1 (fun a ha hay => by
          rw [lk_rem]
          unfold upd
          by_cases e : a = x
          · exact Or.inl (by rw [if_pos e])
          · rw [if_neg e]
            have h5 : a ∈ pre := (List.mem_cons.1 ha).resolve_left e
            rcases hp a h5 e with h3 | h3
            · exact Or.inl h3
            · right
              have := rd_rem h.nd hy a
              rw [if_neg hay] at this
              omega)
        exact ⟨by simpa using h2.1, fun a ha => h2.2 a (List.mem_cons_of_mem _ ha)⟩
      · rw [chase_read hr]
        exact stay (Or.inr hr)

theorem ph1_inv {l : List Mv} {spare : Int} (hok : OKf l spare) : ∀ (k : List Mv) (pre : List Int) (s : List Mv × List Mv), Inv l spare s.1 s.2 → Rdd pre s.1 → Inv l spare (ph1 k s).1 (ph1 k s).2 ∧ ∀ a, a ∈ pre ∨ a ∈ tos k → lk (ph1 k s).1 a = none ∨ rd (ph1 k s).1 a ≠ 0 := by
  intro k
  induction k with
  | nil => intro pre s h hp; exact ⟨h, fun a ha => ha.elim (hp a) (fun h => by cases h)⟩
  | cons m k ih =>
    intro pre s h hp
    rw [ph1]
    have h1 := chase_inv hok s.1.length pre s.1 s.2 m.1 (Nat.le_refl _) h (fun a ha _ => hp a ha)
    have h2 := ih (m.1 :: pre) ((chase s.1.length s.1 m.1).1, s.2 ++ (chase s.1.length s.1 m.1).2) h1.1 h1.2
    refine ⟨h2.1, fun a ha => h2.2 a ?_⟩
    unfold tos at *
    rw [List.map_cons] at ha
    simp only [List.mem_cons] at *
    rcases ha with h | h | h
    · exact Or.inl (Or.inr h)
    · exact Or.inl (Or.inl h)
    · exact Or.inr h

theorem perm_rem {q : List Mv} (hn : ND q) {x y : Int} (h : lk q x = some y) : q.Perm ((x, y) :: rem q x) := by
  induction q with
  | nil => cases h
  | cons m q ih =>
    have hn' := hn
    unfold ND at hn
    rw [List.map_cons, List.nodup_cons] at hn
    unfold lk at h
    split at h
    · rename_i e
      cases h
      have h2 : lk q x = none := by
        cases e2 : lk q x with
        | none => rfl
        | some u => exact absurd (List.mem_map.2 ⟨_, lk_mem e2, by simp [e]⟩) hn.1
      unfold rem
      rw [List.filter_cons_of_neg (by simp [e])]
      have h3 : q.filter (fun m => !(m.1 == x)) = q := rem_none h2
      rw [h3, ← e]
    · rename_i e
      unfold rem
      rw [List.filter_cons_of_pos (by simp [e])]
      exact ((ih hn.2 h).cons m).trans (List.Perm.swap _ _ _)

/-- As many, each once, all of them among the others: the same ones. -/
theorem perm_of {a b : List Int} (hn : a.Nodup) (hs : ∀ x ∈ a, x ∈ b) (hl : a.length = b.length) : a.Perm b := by
  induction a generalizing b with
  | nil =>
    have : b = [] := List.length_eq_zero_iff.1 hl.symm
    subst this
    exact List.Perm.refl _
  | cons x a ih =>
    rw [List.nodup_cons] at hn
    have hx := hs x (by simp)
    have h1 := List.perm_cons_erase hx
    have h2 : a.Perm (b.erase x) := ih hn.2 (fun z hz => by
      have hzx : z ≠ x := fun e => hn.1 (e ▸ hz)
      exact (List.mem_erase_of_ne hzx).2 (hs z (by simp [hz]))) (by
      have := List.length_erase_of_mem hx
      simp at hl
      omega)
    exact (h2.cons x).trans h1.symm

/-- In a circle. -/
structure Cin (l : List Mv) (spare first : Int) (q t : List Mv) (x : Int) : Prop where
  nd : ND q
  nf : (frs q).Nodup
  sub : ∀ m ∈ q, m ∈ mvs l
  src : ∀ m ∈ q, m.2 ≠ first → runM t id m.2 = m.2
  sp : runM t id spare = first
  held : ∀ z, z ≠ spare → runM t id z = if z ∈ tos q then z else dst l z
  to : ∀ m ∈ t, m.1 = spare ∨ m.1 ∈ tos l
  perm : (x :: frs q).Perm (first :: tos q)
  nr : x = first ∨ x ∉ frs q

theorem rem_frs {q : List Mv} (hn : ND q) (hf : (frs q).Nodup) {x y : Int} (h : lk q x = some y) : (frs q).Perm (y :: frs (rem q x)) ∧ (tos q).Perm (x :: tos (rem q x)) ∧ (frs (rem q x)).Nodup ∧ y ∉ frs (rem q x) := by
  have h1 := perm_rem hn h
  have h2 : (frs q).Perm (y :: frs (rem q x)) := h1.map (fun m : Mv => m.2)
  have h3 : (tos q).Perm (x :: tos (rem q x)) := h1.map (fun m : Mv => m.1)
  have h4 := h2.nodup_iff.1 hf
  rw [List.nodup_cons] at h4
  exact ⟨h2, h3, h4.2, h4.1⟩

theorem ok_to {l : List Mv} {spare : Int} (hok : OKf l spare) {p : List Mv} (hs : ∀ m ∈ p, m ∈ mvs l) {m : Mv} (h : m ∈ p) : m.1 ≠ spare ∧ m.2 ≠ spare := hok.2 m (List.mem_filter.1 (hs m h)).1

theorem circ_inv {l : List Mv} {spare first : Int} (hok : OKf l spare) : ∀ (g : Nat) (q t : List Mv) (x : Int), q.length ≤ g → Cin l spare first q t x → x ∈ tos q → ∃ r, circ spare first g q x = some r ∧ Inv l spare r.1 (t ++ r.2) ∧ (frs r.1).Perm (tos r.1) ∧ ∀ m ∈ r.1, m ∈ q ∧ m.1 ≠ x := by
  intro g
  induction g with
  | zero =>
    intro q t x hg h hx
    have hn : q = [] := List.length_eq_zero_iff.1 (by omega)
    subst hn
    cases hx
  | succ g ih =>
    intro q t x hg h hx
    obtain ⟨y, hy⟩ := lk_some hx
    have hm := lk_mem hy
    have hxs := (ok_to hok h.sub hm).1
    obtain ⟨f1, f2, f3, f4⟩ := rem_frs h.nd h.nf hy
    have hrx : ∀ m ∈ rem q x, m.2 ≠ first → m.2 ≠ x := fun m hm2 hne e => by
      have h1 : x ∈ frs q := List.mem_map.2 ⟨m, (mem_rem.1 hm2).1, e⟩
      rcases h.nr with h2 | h2
      · exact hne (e.trans h2)
      · exact h2 h1
    have hto : ∀ u, ∀ m ∈ t ++ [(x, u)], m.1 = spare ∨ m.1 ∈ tos l := fun u m hm2 => by
      rcases List.mem_append.1 hm2 with h1 | h1
      · exact h.to m h1
      · simp at h1
        subst h1
        exact Or.inr (show x ∈ tos l from sub_to (m := (x, y)) h.sub hm)
    have hheld : ∀ u, runM t id u = dst l x → ∀ z, z ≠ spare → runM (t ++ [(x, u)]) id z = if z ∈ tos (rem q x) then z else dst l z := fun u hu z hz => by
      rw [runM_snoc]
      by_cases e : z = x
      · subst e
        rw [if_pos rfl, if_neg (fun h2 => (tos_rem.1 h2).2 rfl)]
        exact hu
      · rw [if_neg e, h.held z hz]
        by_cases e2 : z ∈ tos q
        · rw [if_pos e2, if_pos (tos_rem.2 ⟨e2, e⟩)]
        · rw [if_neg e2, if_neg (fun h2 => e2 (tos_rem.1 h2).1)]
    have hd := lk_dst hok.1 h.sub hy
    by_cases e : y = first
    · subst e
      refine ⟨(rem q x, [(x, spare)]), by rw [circ, hy]; simp, ⟨h.nd.rem x, fun m hm2 => h.sub m (mem_rem.1 hm2).1, fun m hm2 => ?_, hheld spare (by rw [h.sp, hd]), hto spare⟩, ?_, fun m hm2 => mem_rem.1 hm2⟩
      · have hne : m.2 ≠ y := fun e2 => f4 (e2 ▸ List.mem_map.2 ⟨m, hm2, rfl⟩)
        rw [runM_snoc, if_neg (hrx m hm2 hne)]
        exact h.src m (mem_rem.1 hm2).1 hne
      · have h1 := ((f1.cons x).symm.trans h.perm).trans (f2.cons y)
        exact ((List.Perm.swap x y _).trans h1).cons_inv.cons_inv
    · have hsy := h.src _ hm e
      have hsh := rem_len hy
      have hpm : (y :: frs (rem q x)).Perm (first :: tos (rem q x)) := by
        have h1 := ((f1.cons x).symm.trans h.perm).trans (f2.cons first)
        exact (h1.trans (List.Perm.swap x first _)).cons_inv
      have hC : Cin l spare first (rem q x) (t ++ [(x, y)]) y := ⟨h.nd.rem x, f3, fun m hm2 => h.sub m (mem_rem.1 hm2).1, fun m hm2 hne => by
          rw [runM_snoc, if_neg (hrx m hm2 hne)]
          exact h.src m (mem_rem.1 hm2).1 hne, by rw [runM_snoc, if_neg (fun e2 => hxs e2.symm)]; exact h.sp, hheld y (by rw [hd]; exact hsy), hto y, hpm, Or.inr f4⟩
      have hyt : y ∈ tos (rem q x) := (List.mem_cons.1 (hpm.mem_iff.1 (by simp))).resolve_left e
      obtain ⟨r, h1, h2, h3, h4⟩ := ih (rem q x) (t ++ [(x, y)]) y (by omega) hC hyt
      refine ⟨(r.1, (x, y) :: r.2), by rw [circ, hy]; simp [e, h1], by simpa using h2, h3, fun m hm2 => mem_rem.1 (h4 m hm2).1⟩

theorem ph2_inv {l : List Mv} {spare : Int} (hok : OKf l spare) : ∀ (k : List Mv) (s : List Mv × List Mv), Inv l spare s.1 s.2 → (frs s.1).Perm (tos s.1) → ∃ S, ph2 spare k s = some S ∧ Inv l spare S.1 S.2 ∧ ∀ m ∈ S.1, m ∈ s.1 ∧ m.1 ∉ tos k := by
  intro k
  induction k with
  | nil => intro s h hp; exact ⟨s, rfl, h, fun m hm => ⟨hm, by simp [tos]⟩⟩
  | cons m k ih =>
    intro s h hp
    rw [ph2]
    cases hy : lk s.1 m.1 with
    | none =>
      obtain ⟨S, h1, h2, h3⟩ := ih s h hp
      refine ⟨S, h1, h2, fun a ha => ⟨(h3 a ha).1, fun hm => ?_⟩⟩
      unfold tos at hm
      rw [List.map_cons, List.mem_cons] at hm
      rcases hm with e | e
      · exact lk_none hy (by rw [← e]; exact List.mem_map.2 ⟨a, (h3 a ha).1, rfl⟩)
      · exact (h3 a ha).2 e
    | some y =>
      have hmm := lk_mem hy
      have hft : m.1 ∈ tos s.1 := List.mem_map.2 ⟨_, hmm, rfl⟩
      have hms := (ok_to hok h.sub hmm).1
      have hC : Cin l spare m.1 s.1 (s.2 ++ [(spare, m.1)]) m.1 := ⟨h.nd, hp.nodup_iff.2 h.nd, h.sub, fun a ha _ => by
          rw [runM_snoc, if_neg (ok_to hok h.sub ha).2]
          exact h.src a ha, by rw [runM_snoc, if_pos rfl]; show runM s.2 id m.1 = m.1; rw [h.held _ hms, if_pos hft], fun z hz => by rw [runM_snoc, if_neg hz]; exact h.held z hz, fun a ha => by
          rcases List.mem_append.1 ha with h1 | h1
          · exact h.to a h1
          · simp at h1
            subst h1
            exact Or.inl rfl, hp.cons m.1, Or.inl rfl⟩
      obtain ⟨r, h1, h2, h3, h4⟩ := circ_inv hok s.1.length s.1 _ m.1 (Nat.le_refl _) hC hft
      obtain ⟨S, g1, g2, g3⟩ := ih (r.1, s.2 ++ (spare, m.1) :: r.2) (by simpa using h2) h3
      refine ⟨S, by simp only [h1]; exact g1, g2, fun a ha => ⟨(h4 a (g3 a ha).1).1, fun hm => ?_⟩⟩
      unfold tos at hm
      rw [List.map_cons, List.mem_cons] at hm
      rcases hm with e | e
      · exact (h4 a (g3 a ha).1).2 e
      · exact (g3 a ha).2 e

/-- What Line tells does what it must. -/
theorem lineP_ok {l : List Mv} {spare : Int} (hok : OKf l spare) : ∃ out, lineP l spare = some out ∧ (∀ x, x ≠ spare → runM out id x = dst l x) ∧ ∀ m ∈ out, m.1 = spare ∨ m.1 ∈ tos l := by
  have h1 := ph1_inv hok l [] (mvs l, []) (Inv.start hok) (fun a ha => by cases ha)
  have h2 : (frs (ph1 l (mvs l, [])).1).Perm (tos (ph1 l (mvs l, [])).1) := by
    refine (perm_of h1.1.nd (fun x hx => ?_) (by simp [frs])).symm
    obtain ⟨m, hm, rfl⟩ := List.mem_map.1 hx
    have h3 := h1.2 m.1 (Or.inr (sub_to h1.1.sub hm))
    rcases h3 with h4 | h4
    · exact absurd hx (lk_none h4)
    · exact rd_pos h4
  obtain ⟨S, g1, g2, g3⟩ := ph2_inv hok l _ h1.1 h2
  have hnil : S.1 = [] := by
    cases e : S.1 with
    | nil => rfl
    | cons m p =>
      have hm : m ∈ S.1 := by rw [e]; simp
      exact absurd (sub_to g2.sub hm) (g3 m hm).2
  refine ⟨S.2, by unfold lineP; rw [g1]; rfl, fun x hx => ?_, g2.to⟩
  rw [g2.held x hx, hnil]
  simp [tos]
end Go.Proofs.Ytoagebclnaggjaa
