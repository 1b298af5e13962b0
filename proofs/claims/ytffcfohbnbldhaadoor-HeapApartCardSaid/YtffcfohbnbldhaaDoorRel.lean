/-
  Proved: a heap by classes and a list of blocks that hold the same blocks in use answer alike, and go on doing so.
-/
import Derived.Test.YtffcfohbnbldhaaDoorRefFree
namespace Go.Proofs.YtffcfohbnbldhaaDoor
open Go.RowKit

structure Rel (us : Nat → Nat → Bool) (bs : List (Nat × Nat)) : Prop where
  ok : ∀ p ∈ bs, p.1 < 4 ∧ p.2 < bl p.1
  mem : ∀ c k, c < 4 → k < bl c → (us c k = true ↔ (c, k) ∈ bs)
  cnt : ∀ c, c < 4 → cnt us c (bl c) = bs.countP (fun p => decide (p.1 = c))
  nd : bs.Nodup

theorem Rel.start : Rel (fun _ _ => false) [] := by
  refine ⟨by simp, by simp, fun c _ => ?_, by simp⟩
  have : ∀ n, Proofs.YtffcfohbnbldhaaDoor.cnt (fun _ _ => false) c n = 0 := by
    intro n
    induction n with
    | zero => rfl
    | succ n ih => simp [Proofs.YtffcfohbnbldhaaDoor.cnt, ih]
  rw [this]
  rfl

theorem adA_get (bs : List (Nat × Nat)) (i : Nat) (h : i < bs.length) : adA bs i = adr bs[i].1 bs[i].2 := by
  unfold adA
  rw [List.getD_eq_getElem?_getD, List.getElem?_eq_getElem h]
  rfl

theorem fx_some (bs : List (Nat × Nat)) (x : Int) (i : Nat) (h : fx bs x = some i) : ∃ hi : i < bs.length, adr bs[i].1 bs[i].2 = x := by
  have h1 := ff_lt _ _ _ _ h
  have hi : i < bs.length := by omega
  refine ⟨hi, ?_⟩
  have := h1.2.2
  rw [decide_eq_true_eq, adA_get bs i hi] at this
  exact this

theorem fx_none (bs : List (Nat × Nat)) (x : Int) : fx bs x = none ↔ ∀ p ∈ bs, adr p.1 p.2 ≠ x := by
  constructor
  · intro h p hp e
    obtain ⟨i, hi, rfl⟩ := List.getElem_of_mem hp
    have key : ∀ n k, ff (fun i => decide (adA bs i = x)) n k = none → ∀ j, k ≤ j → j < k + n → adA bs j ≠ x := by
      intro n
      induction n with
      | zero => intro k _ j _ _; omega
      | succ n ih =>
        intro k hk j h1 h2
        unfold ff at hk
        by_cases e : adA bs k = x
        · simp [e] at hk
        · simp only [e, decide_false, Bool.false_eq_true, if_false] at hk
          by_cases e2 : j = k
          · subst e2; exact e
          · exact ih (k + 1) hk j (by omega) (by omega)
    exact key bs.length 0 h i (Nat.zero_le _) (by omega) (by rw [adA_get bs i hi]; exact e)
  · intro h
    refine ff_none _ _ _ (fun j _ hj => ?_)
    have hj' : j < bs.length := by omega
    rw [decide_eq_false_iff_not, adA_get bs j hj']
    exact h _ (List.getElem_mem hj')

theorem Rel.fx {us : Nat → Nat → Bool} {bs : List (Nat × Nat)} (h : Rel us bs) (c k : Nat) (hc : c < 4) (hk : k < bl c) : us c k = false ↔ fx bs (adr c k) = none := by
  rw [fx_none]
  have hm := h.mem c k hc hk
  constructor
  · intro hu p hp e
    obtain ⟨rfl, rfl⟩ := adr_inj p.1 p.2 c k (h.ok p hp).1 hc (h.ok p hp).2 hk e
    have := hm.2 hp
    rw [hu] at this
    cases this
  · intro hn
    cases hu : us c k with
    | false => rfl
    | true => exact absurd rfl (hn (c, k) (hm.1 hu))

theorem upd_self (us : Nat → Nat → Bool) (c k : Nat) (v : Bool) : upd us c k v c k = v := by simp [upd]
theorem upd_far (us : Nat → Nat → Bool) (c k d l : Nat) (v : Bool) (h : ¬ (d = c ∧ l = k)) : upd us c k v d l = us d l := by unfold upd; rw [if_neg h]

theorem cnt_far (us : Nat → Nat → Bool) (c k d n : Nat) (v : Bool) (h : d ≠ c) : cnt (upd us c k v) d n = cnt us d n := cnt_congr (fun j _ => upd_far us c k d j v (fun e => h e.1))

theorem Rel.alloc {us : Nat → Nat → Bool} {bs : List (Nat × Nat)} (h : Rel us bs) (c : Nat) (hc : c < 4) : Rel (alR us c (fr us c)).2.2 (bsR bs c (fr us c)) := by
  cases hf : fr us c with
  | none => exact h
  | some k =>
    obtain ⟨hk, hu⟩ := fr_some hf
    show Rel (upd us c k true) (bs ++ [(c, k)])
    have hnot : (c, k) ∉ bs := fun hp => by
      have := (h.mem c k hc hk).2 hp
      rw [hu] at this
      cases this
    refine ⟨?_, ?_, ?_, ?_⟩
    · intro p hp
      rcases List.mem_append.1 hp with hp | hp
      · exact h.ok p hp
      · simp at hp; subst hp; exact ⟨hc, hk⟩
    · intro d l hd hl
      by_cases e : d = c ∧ l = k
      · obtain ⟨rfl, rfl⟩ := e
        simp [upd_self]
      · rw [upd_far _ _ _ _ _ _ e, h.mem d l hd hl]
        simp only [List.mem_append, List.mem_singleton, Prod.mk.injEq]
        constructor
        · exact Or.inl
        · rintro (h1 | h1)
          · exact h1
          · exact absurd h1 e
    · intro d hd
      rw [List.countP_append]
      by_cases e : d = c
      · subst e
        rw [cnt_take k hk hu, h.cnt d hd]
        simp
      · rw [cnt_far _ _ _ _ _ _ e, h.cnt d hd]
        simp [Ne.symm e]
    · rw [List.nodup_append]
      refine ⟨h.nd, by simp, fun a ha b hb => ?_⟩
      simp at hb
      subst hb
      exact fun e => hnot (e ▸ ha)

theorem split_at (bs : List (Nat × Nat)) (i : Nat) (hi : i < bs.length) : bs = bs.take i ++ bs[i] :: bs.drop (i + 1) := by
  rw [← List.drop_eq_getElem_cons hi, List.take_append_drop]

theorem Rel.free {us : Nat → Nat → Bool} {bs : List (Nat × Nat)} (h : Rel us bs) (x : Int) : (frA us x (atOf x)).1 = feF (Proofs.YtffcfohbnbldhaaDoor.fx bs x) ∧ Rel (frA us x (atOf x)).2 (bsF bs (Proofs.YtffcfohbnbldhaaDoor.fx bs x)) := by
  cases hf : Proofs.YtffcfohbnbldhaaDoor.fx bs x with
  | none =>
    have hn := (fx_none bs x).1 hf
    have key : frA us x (atOf x) = (13, us) := by
      cases ha : atOf x with
      | none => rfl
      | some c =>
        obtain ⟨h1, h2, h3, h4⟩ := of_at x c ha
        show frR us c (kOf x c) (rOf x c) = _
        unfold frR
        rw [if_neg]
        rintro ⟨e1, e2⟩
        rw [e1] at h4
        exact hn (c, kOf x c) ((h.mem c _ h1 h2).1 e2) (by simpa using h4.symm)
    rw [key]
    exact ⟨rfl, h⟩
  | some i =>
    obtain ⟨hi, hx⟩ := fx_some bs x i hf
    have hm := List.getElem_mem hi
    have ho := h.ok _ hm
    have hsp := split_at bs i hi
    generalize hp : bs[i] = p at *
    obtain ⟨c, k⟩ := p
    simp only at hx ho
    have ha := at_adr0 c k ho.1 ho.2
    have hu : us c k = true := (h.mem c k ho.1 ho.2).2 hm
    have key : frA us x (atOf x) = (0, upd us c k false) := by
      rw [← hx, ha.1]
      show frR us c (kOf (adr c k) c) (rOf (adr c k) c) = _
      rw [ha.2.1, ha.2.2]
      unfold frR
      rw [if_pos ⟨rfl, hu⟩]
    rw [key]
    refine ⟨rfl, ?_⟩
    show Rel (upd us c k false) (bs.take i ++ bs.drop (i + 1))
    have hnd : (bs.take i ++ (c, k) :: bs.drop (i + 1)).Nodup := hsp ▸ h.nd
    rw [List.nodup_append] at hnd
    obtain ⟨n1, n2, n3⟩ := hnd
    rw [List.nodup_cons] at n2
    have hmem : ∀ q, q ∈ bs.take i ++ bs.drop (i + 1) ↔ q ∈ bs ∧ q ≠ (c, k) := by
      intro q
      have e : q ∈ bs ↔ q ∈ bs.take i ++ (c, k) :: bs.drop (i + 1) := by rw [← hsp]
      rw [e]
      simp only [List.mem_append, List.mem_cons]
      constructor
      · rintro (h1 | h1)
        · exact ⟨Or.inl h1, n3 q h1 (c, k) (by simp)⟩
        · exact ⟨Or.inr (Or.inr h1), fun e => n2.1 (e ▸ h1)⟩
      · rintro ⟨h1 | h1 | h1, h2⟩
        · exact Or.inl h1
        · exact absurd h1 h2
        · exact Or.inr h1
    refine ⟨?_, ?_, ?_, ?_⟩
    · intro q hq
      exact h.ok q ((hmem q).1 hq).1
    · intro d l hd hl
      rw [hmem]
      by_cases e : d = c ∧ l = k
      · obtain ⟨rfl, rfl⟩ := e
        simp [upd_self]
      · rw [upd_far _ _ _ _ _ _ e, h.mem d l hd hl]
        constructor
        · intro h1; exact ⟨h1, fun e2 => e (by simpa using e2)⟩
        · exact fun h1 => h1.1
    · intro d hd
      have hc := h.cnt d hd
      have e : bs.countP (fun p => decide (p.1 = d)) = (bs.take i ++ (c, k) :: bs.drop (i + 1)).countP (fun p => decide (p.1 = d)) := by rw [← hsp]
      rw [e, List.countP_append, List.countP_cons] at hc
      rw [List.countP_append]
      by_cases e : d = c
      · subst e
        have := cnt_free (us := us) (c := d) (n := bl d) k ho.2 hu
        simp only [decide_true, if_true] at hc
        omega
      · rw [cnt_far _ _ _ _ _ _ e]
        simp only [Ne.symm e, decide_false, Bool.false_eq_true, if_false] at hc
        omega
    · rw [List.nodup_append]
      exact ⟨n1, n2.2, fun a ha b hb => n3 a ha b (by simp [hb])⟩

theorem cb_count (bs : List (Nat × Nat)) (x : Int) : cb bs x bs.length = bs.countP (fun p => decide ((p.1 : Int) = x)) := by
  have key : ∀ n, n ≤ bs.length → cb bs x n = (bs.take n).countP (fun p => decide ((p.1 : Int) = x)) := by
    intro n
    induction n with
    | zero => intro _; rfl
    | succ n ih =>
      intro hn
      have hn' : n < bs.length := by omega
      rw [List.take_succ_eq_append_getElem hn', List.countP_append, ← ih (by omega)]
      simp only [cb]
      rw [List.getD_eq_getElem?_getD, List.getElem?_eq_getElem hn']
      simp
  rw [key _ (Nat.le_refl _), List.take_length]

theorem Rel.live {us : Nat → Nat → Bool} {bs : List (Nat × Nat)} (h : Rel us bs) (x : Int) : liA us x = cb bs x bs.length := by
  rw [cb_count]
  unfold liA
  by_cases hx : x < 0 ∨ 4 ≤ x
  · rw [if_pos hx]
    symm
    rw [List.countP_eq_zero]
    intro p hp
    have := (h.ok p hp).1
    simp
    omega
  · rw [if_neg hx, h.cnt x.toNat (by omega)]
    apply List.countP_congr
    intro p _
    simp
    omega

theorem wb_true (p : Nat × Nat) (x n : Int) : wb p x n = true ↔ x.tmod 4 = 0 ∧ 1 ≤ n ∧ adr p.1 p.2 ≤ x ∧ x < adr p.1 p.2 + 4 * (sz p.1 : Int) ∧ n ≤ (sz p.1 : Int) - (x - adr p.1 p.2) / 4 := by
  unfold wb
  simp only [Bool.and_eq_true, decide_eq_true_eq]
  constructor
  · rintro ⟨⟨⟨⟨h1, h2⟩, h3⟩, h4⟩, h5⟩; exact ⟨h1, h2, h3, h4, h5⟩
  · rintro ⟨h1, h2, h3, h4, h5⟩; exact ⟨⟨⟨⟨h1, h2⟩, h3⟩, h4⟩, h5⟩

theorem wB_some (bs : List (Nat × Nat)) (x n : Int) : (wB bs x n).isSome = true ↔ ∃ p ∈ bs, wb p x n = true := by
  constructor
  · intro h
    obtain ⟨i, hi⟩ := Option.isSome_iff_exists.1 h
    have h1 := ff_lt _ _ _ _ hi
    have hi' : i < bs.length := by omega
    refine ⟨bs[i], List.getElem_mem hi', ?_⟩
    have := h1.2.2
    rw [List.getD_eq_getElem?_getD, List.getElem?_eq_getElem hi'] at this
    exact this
  · rintro ⟨p, hp, hw⟩
    obtain ⟨i, hi, rfl⟩ := List.getElem_of_mem hp
    cases hq : wB bs x n with
    | some j => rfl
    | none =>
      have key : ∀ m k, ff (fun i => wb (bs.getD i (0, 0)) x n) m k = none → ∀ j, k ≤ j → j < k + m → wb (bs.getD j (0, 0)) x n = false := by
        intro m
        induction m with
        | zero => intro k _ j _ _; omega
        | succ m ih =>
          intro k hk j h1 h2
          unfold ff at hk
          cases e : wb (bs.getD k (0, 0)) x n with
          | true =>
            rw [if_pos (show (fun i => wb (bs.getD i (0, 0)) x n) k = true from e)] at hk
            cases hk
          | false =>
            rw [if_neg (by rw [e]; simp)] at hk
            by_cases e2 : j = k
            · subst e2; exact e
            · exact ih (k + 1) hk j (by omega) (by omega)
      have := key bs.length 0 hq i (Nat.zero_le _) (by omega)
      rw [List.getD_eq_getElem?_getD, List.getElem?_eq_getElem hi] at this
      rw [show (some bs[i]).getD (0, 0) = bs[i] from rfl, hw] at this
      cases this

theorem adr_four (c k : Nat) (hc : c < 4) : adr c k % 4 = 0 := by
  unfold adr
  rcases (by omega : c = 0 ∨ c = 1 ∨ c = 2 ∨ c = 3) with rfl | rfl | rfl | rfl <;> simp [st, sz] <;> omega

theorem Rel.within {us : Nat → Nat → Bool} {bs : List (Nat × Nat)} (h : Rel us bs) (x n : Int) : (if x.tmod 4 ≠ 0 ∨ n < 1 then false else wiA us x n (atOf x)) = (wB bs x n).isSome := by
  rw [Bool.eq_iff_iff, wB_some]
  by_cases hg : x.tmod 4 ≠ 0 ∨ n < 1
  · rw [if_pos hg]
    constructor
    · intro h1; cases h1
    · rintro ⟨p, _, hw⟩
      rw [wb_true] at hw
      rcases hg with h1 | h1
      · exact absurd hw.1 h1
      · omega
  · rw [if_neg hg]
    have g1 : x.tmod 4 = 0 := by
      by_cases e : x.tmod 4 = 0
      · exact e
      · exact absurd (Or.inl e) hg
    have g2 : 1 ≤ n := by
      by_cases e : n < 1
      · exact absurd (Or.inr e) hg
      · omega
    have g3 : x % 4 = 0 := Int.emod_eq_zero_of_dvd (Int.dvd_of_tmod_eq_zero g1)
    cases ha : atOf x with
    | none =>
      constructor
      · intro h1; cases h1
      · rintro ⟨p, hp, hw⟩
        rw [wb_true] at hw
        have ho := h.ok p hp
        have h2 := at_adr p.1 p.2 ho.1 ho.2 (x - adr p.1 p.2).toNat (by omega)
        rw [show adr p.1 p.2 + ((x - adr p.1 p.2).toNat : Int) = x by omega, ha] at h2
        cases h2.1
    | some c =>
      obtain ⟨h1, h2, h3, h4⟩ := of_at x c ha
      show wiR us n c (kOf x c) (rOf x c) = true ↔ _
      unfold wiR
      generalize kOf x c = k at *
      generalize rOf x c = r at *
      have h5 := adr_four c k h1
      have hz := span_le c
      rw [Bool.and_eq_true, decide_eq_true_eq, h.mem c k h1 h2]
      constructor
      · rintro ⟨e1, e2⟩
        refine ⟨(c, k), e1, ?_⟩
        rw [wb_true]
        refine ⟨g1, g2, ?_, ?_, ?_⟩ <;> simp only <;> omega
      · rintro ⟨p, hp, hw⟩
        rw [wb_true] at hw
        obtain ⟨_, _, w1, w2, w3⟩ := hw
        have ho := h.ok p hp
        have q := at_adr p.1 p.2 ho.1 ho.2 (x - adr p.1 p.2).toNat (by omega)
        rw [show adr p.1 p.2 + ((x - adr p.1 p.2).toNat : Int) = x by omega, ha] at q
        have e1 : c = p.1 := Option.some.inj q.1
        obtain ⟨pc, pk⟩ := p
        simp only at e1
        subst e1
        simp only at w1 w2 w3 q ho
        have q2 := at_adr c k h1 h2 r h3
        rw [← h4] at q2
        have e2 : k = pk := q2.2.1.symm.trans q.2.1
        subst e2
        exact ⟨hp, by omega⟩
end Go.Proofs.YtffcfohbnbldhaaDoor
