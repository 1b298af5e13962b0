/-
  Proved (pure): a walk that keeps a list of what is open: what holds of it at each step; at its end.
-/
import Derived.Test.YtmmgdiecmokipaaGdfs
import Derived.Test.YtmmgdiecmokipaaLt
namespace Go.Proofs.Ytmmgdiecmokipaa

/-- Is it in a list? -/
def pin (l : List Nat) : Nat → Bool := fun y => decide (y ∈ l)
theorem pin_up (l : List Nat) (x : Nat) : up (pin l) x = pin (l ++ [x]) := by
  funext y
  unfold up pin
  by_cases h : y = x
  · subst h; simp
  · rw [if_neg h]; simp [h]

/-- What is left to be done of an open block. -/
def rsf (n : Nat) (to : List (List Int)) (x : Nat × Nat) : List Nat := keep n ((to.getD x.1 []).drop x.2)

/-- What is open is walked to the end. -/
def fin (n : Nat) (to : List (List Int)) (f : Nat) : List (Nat × Nat) → (Nat → Bool) × List Nat → (Nat → Bool) × List Nat
  | [], s => s
  | x :: r, s => fin n to f r ((lf (wy n to) f (rsf n to x) s).1, (lf (wy n to) f (rsf n to x) s).2 ++ [x.1])

theorem lf_cons (g : Nat → List Nat) (f a : Nat) (l : List Nat) (s : (Nat → Bool) × List Nat) : lf g f (a :: l) s = lf g f l (if s.1 a then s else lv g f a s) := rfl

theorem lf_fuel {g : Nat → List Nat} {n : Nat} (hg : ∀ a, ∀ b ∈ g a, b < n) (f : Nat) : ∀ (l : List Nat) (s : (Nat → Bool) × List Nat), (∀ b ∈ l, b < n) → un n s.1 ≤ f → lf g f l s = lf g (f + 1) l s := by
  induction f with
  | zero =>
    intro l
    induction l with
    | nil => intro s _ _; rfl
    | cons a l ih =>
      intro s hl hu
      have ha : s.1 a = true := by
        cases e : s.1 a with
        | true => rfl
        | false =>
          have := un_up n s.1 a (hl a (by simp)) e
          omega
      rw [lf_cons, lf_cons, if_pos ha, if_pos ha]
      exact ih s (fun b hb => hl b (List.mem_cons_of_mem _ hb)) hu
  | succ f ihf =>
    intro l
    induction l with
    | nil => intro s _ _; rfl
    | cons a l ih =>
      intro s hl hu
      rw [lf_cons, lf_cons]
      have hl' : ∀ b ∈ l, b < n := fun b hb => hl b (List.mem_cons_of_mem _ hb)
      cases e : s.1 a with
      | true => rw [if_pos rfl, if_pos rfl]; exact ih s hl' hu
      | false =>
        rw [if_neg (by simp), if_neg (by simp)]
        have h1 := un_up n s.1 a (hl a (by simp)) e
        have h2 : lv g (f + 1) a s = lv g (f + 2) a s := by
          show ((lf g f (g a) (up s.1 a, s.2)).1, (lf g f (g a) (up s.1 a, s.2)).2 ++ [a]) = ((lf g (f + 1) (g a) (up s.1 a, s.2)).1, (lf g (f + 1) (g a) (up s.1 a, s.2)).2 ++ [a])
          rw [ihf (g a) (up s.1 a, s.2) (fun b hb => hg a b hb) (by show un n (up s.1 a) ≤ f; omega)]
        rw [← h2]
        refine ih _ hl' ?_
        exact Nat.le_trans (un_le n _ _ fun j h => lv_mono g (f + 1) a s j h) hu

/-- The turn that a turn was walked to from. -/
def par (ent : List (Nat × Int)) (t : Nat) : Nat := (ent.map (·.1)).idxOf (ent.getD t (0, 0)).2.toNat
/-- The block of a turn. -/
def blk (ent : List (Nat × Int)) (t : Nat) : Nat := (ent.map (·.1)).getD t 0
def idx (ent : List (Nat × Int)) (b : Nat) : Nat := (ent.map (·.1)).idxOf b
/-- The ways of turns. -/
def Ed (n : Nat) (to : List (List Int)) (ent : List (Nat × Int)) (v w : Nat) : Prop := v < ent.length ∧ w < ent.length ∧ blk ent w ∈ wy n to (blk ent v)

/-- A walk at a step: who was entered from where; who was left; what is open, the first one first. -/
structure DI (n : Nat) (to : List (List Int)) (ent : List (Nat × Int)) (lfl : List Nat) (stk : List (Nat × Nat)) : Prop where
  d1 : (ent.map (·.1)).Nodup
  d2 : ∃ r, ent = (0, -1) :: r
  d3 : ∀ e ∈ ent, e.1 < n
  d4 : ∀ t, 0 < t → t < ent.length → ∃ a : Nat, a ∈ ent.map (·.1) ∧ (ent.getD t (0, 0)).2 = (a : Int)
  d5 : Tr ent.length (par ent) (Ed n to ent)
  d6 : (stk.map (·.1)).Pairwise fun a b => An (par ent) (idx ent a) (idx ent b)
  d7 : ∀ b ∈ stk.map (·.1), b ∈ ent.map (·.1) ∧ An (par ent) (idx ent b) (ent.length - 1)
  d8 : (stk.map (·.1)).Nodup
  d9 : ∀ a ∈ ent.map (·.1), a ∉ stk.map (·.1) → ∀ c ∈ wy n to a, c ∈ ent.map (·.1)
  d10 : ∀ x ∈ stk, x.2 ≤ (to.getD x.1 []).length ∧ ∀ c ∈ keep n ((to.getD x.1 []).take x.2), c ∈ ent.map (·.1)
  d11 : fin n to n stk.reverse (pin (ent.map (·.1)), lfl) = lv (wy n to) n 0 (fun _ => false, [])
  d12 : lfl.length + stk.length = ent.length

theorem blk_idx {ent : List (Nat × Int)} {b : Nat} (h : b ∈ ent.map (·.1)) : blk ent (idx ent b) = b ∧ idx ent b < ent.length := by
  have h1 : idx ent b < (ent.map (·.1)).length := List.idxOf_lt_length_of_mem h
  refine ⟨?_, by simpa using h1⟩
  unfold blk
  rw [List.getD_eq_getElem?_getD, List.getElem?_eq_getElem h1]
  exact List.getElem_idxOf h1

theorem idx_blk {ent : List (Nat × Int)} {t : Nat} (hn : (ent.map (·.1)).Nodup) (h : t < ent.length) : idx ent (blk ent t) = t ∧ blk ent t ∈ ent.map (·.1) := by
  have h1 : t < (ent.map (·.1)).length := by simpa using h
  have e : blk ent t = (ent.map (·.1))[t] := by
    unfold blk
    rw [List.getD_eq_getElem?_getD, List.getElem?_eq_getElem h1]
    rfl
  have hm : blk ent t ∈ ent.map (·.1) := by rw [e]; exact List.getElem_mem h1
  refine ⟨?_, hm⟩
  have h2 := blk_idx hm
  have h3 : idx ent (blk ent t) < (ent.map (·.1)).length := by simpa using h2.2
  have h4 : (ent.map (·.1))[idx ent (blk ent t)] = (ent.map (·.1))[t] := by
    rw [← e]
    exact List.getElem_idxOf h3
  exact nodup_inj hn h3 h1 h4

theorem idx_app {ent : List (Nat × Int)} {x : Nat × Int} {b : Nat} (h : b ∈ ent.map (·.1)) : idx (ent ++ [x]) b = idx ent b := by
  unfold idx
  rw [List.map_append, List.idxOf_append, if_pos h]

theorem idx_new {ent : List (Nat × Int)} {x : Nat × Int} (h : x.1 ∉ ent.map (·.1)) : idx (ent ++ [x]) x.1 = ent.length := by
  unfold idx
  rw [List.map_append, List.idxOf_append, if_neg h]
  simp

theorem blk_app {ent : List (Nat × Int)} {x : Nat × Int} {t : Nat} (h : t < ent.length) : blk (ent ++ [x]) t = blk ent t := by
  unfold blk
  rw [List.map_append, List.getD_eq_getElem?_getD, List.getD_eq_getElem?_getD, List.getElem?_append_left (by simpa using h)]

theorem blk_new {ent : List (Nat × Int)} {x : Nat × Int} : blk (ent ++ [x]) ent.length = x.1 := by
  unfold blk
  rw [List.map_append, List.getD_eq_getElem?_getD, List.getElem?_append_right (by simp)]
  simp

theorem par_app {n : Nat} {to : List (List Int)} {ent : List (Nat × Int)} {lfl : List Nat} {stk : List (Nat × Nat)} (h : DI n to ent lfl stk) {x : Nat × Int} {t : Nat} (ht : t < ent.length) : par (ent ++ [x]) t = par ent t := by
  unfold par
  have e : (ent ++ [x]).getD t (0, 0) = ent.getD t (0, 0) := by
    rw [List.getD_eq_getElem?_getD, List.getD_eq_getElem?_getD, List.getElem?_append_left ht]
  rw [e, List.map_append, List.idxOf_append, if_pos]
  rcases Nat.eq_zero_or_pos t with h0 | h0
  · subst h0
    obtain ⟨r, rfl⟩ := h.d2
    simp
  · obtain ⟨a, ha, e⟩ := h.d4 t h0 ht
    rw [e, Int.toNat_natCast]
    exact ha

theorem An.ext {m : Nat} {p q : Nat → Nat} (h : ∀ t, t < m → p t = q t) (hm : ∀ t, t < m → p t < m) {a b : Nat} (hb : b < m) (hA : An p a b) : An q a b := by
  obtain ⟨k, hk⟩ := hA
  refine ⟨k, ?_⟩
  rw [← hk]
  clear hk
  induction k generalizing b with
  | zero => rfl
  | succ k ih =>
    show upN q k (q b) = upN p k (p b)
    rw [← h b hb]
    exact ih (hm b hb)

theorem Tr.par_lt {m : Nat} {p : Nat → Nat} {E : Nat → Nat → Prop} (T : Tr m p E) (t : Nat) (h : t < m) : p t < m := by
  rcases Nat.eq_zero_or_pos t with h0 | h0
  · subst h0; rw [T.1]; exact h
  · have := (T.2.1 t h0 h).1
    omega

section
variable {n : Nat} {to : List (List Int)} {ent : List (Nat × Int)} {lfl : List Nat} {st : List (Nat × Nat)} {b k : Nat}

theorem keep_mem {l : List Int} {c : Nat} : c ∈ keep n l ↔ (c : Int) ∈ l ∧ c < n := by
  unfold keep
  rw [List.mem_map]
  constructor
  · rintro ⟨x, hx, rfl⟩
    have h := List.mem_filter.1 hx
    have h2 : 0 ≤ x ∧ x < (n : Int) := by simpa using h.2
    rw [Int.toNat_of_nonneg h2.1]
    exact ⟨h.1, by omega⟩
  · rintro ⟨h1, h2⟩
    exact ⟨(c : Int), List.mem_filter.2 ⟨h1, by simpa using h2⟩, by simp⟩

theorem rsf_step (h : k < (to.getD b []).length) : rsf n to (b, k) = (if 0 ≤ (to.getD b [])[k] ∧ (to.getD b [])[k] < (n : Int) then [(to.getD b [])[k].toNat] else []) ++ rsf n to (b, k + 1) := by
  unfold rsf keep
  show ((((to.getD b []).drop k).filter _).map _) = _
  rw [List.drop_eq_getElem_cons h]
  by_cases e : 0 ≤ (to.getD b [])[k] ∧ (to.getD b [])[k] < (n : Int)
  · rw [if_pos e, List.filter_cons_of_pos (by simpa using e)]; rfl
  · rw [if_neg e, List.filter_cons_of_neg (by simpa using e)]; rfl

/-- It is left. -/
theorem DI.pop (h : DI n to ent lfl (st ++ [(b, k)])) (hk : k = (to.getD b []).length) : DI n to ent (lfl ++ [b]) st := by
  obtain ⟨d1, d2, d3, d4, d5, d6, d7, d8, d9, d10, d11, d12⟩ := h
  rw [List.map_append] at d6 d7 d8 d9
  refine ⟨d1, d2, d3, d4, d5, (List.pairwise_append.1 d6).1, fun c hc => d7 c (List.mem_append_left _ hc), (List.nodup_append.1 d8).1, fun a ha hst c hc => ?_, fun x hx => d10 x (List.mem_append_left _ hx), ?_, ?_⟩
  · by_cases e : a = b
    · subst e
      have := (d10 (a, k) (by simp)).2 c
      rw [show ((a, k) : Nat × Nat).2 = k from rfl, hk, List.take_length] at this
      exact this hc
    · exact d9 a ha (fun h => by rcases List.mem_append.1 h with h | h
                                 · exact hst h
                                 · simp at h; exact e h) c hc
  · rw [← d11, List.reverse_append]
    show _ = fin n to n ((b, k) :: st.reverse) _
    have e : rsf n to (b, k) = [] := by
      unfold rsf
      rw [show ((b, k) : Nat × Nat).2 = k from rfl, show ((b, k) : Nat × Nat).1 = b from rfl, hk, List.drop_length]
      rfl
    show _ = fin n to n st.reverse ((lf (wy n to) n (rsf n to (b, k)) _).1, (lf (wy n to) n (rsf n to (b, k)) _).2 ++ [b])
    rw [e]
    rfl
  · simp only [List.length_append, List.length_cons, List.length_nil] at d12 ⊢
    omega

/-- A way is looked at that leads to nothing new. -/
theorem DI.look (h : DI n to ent lfl (st ++ [(b, k)])) (hk : k < (to.getD b []).length) (hx : ∀ y : Nat, (to.getD b [])[k] = (y : Int) → y < n → y ∈ ent.map (·.1)) : DI n to ent lfl (st ++ [(b, k + 1)]) := by
  obtain ⟨d1, d2, d3, d4, d5, d6, d7, d8, d9, d10, d11, d12⟩ := h
  have em : (st ++ [(b, k + 1)]).map (·.1) = (st ++ [(b, k)]).map (·.1) := by rw [List.map_append, List.map_append]; rfl
  refine ⟨d1, d2, d3, d4, d5, by rw [em]; exact d6, by rw [em]; exact d7, by rw [em]; exact d8, by rw [em]; exact d9, fun x hxm => ?_, ?_, ?_⟩
  · rcases List.mem_append.1 hxm with h | h
    · exact d10 x (List.mem_append_left _ h)
    · simp at h
      subst h
      refine ⟨hk, fun c hc => ?_⟩
      rw [keep_step n _ k hk] at hc
      rcases List.mem_append.1 hc with h2 | h2
      · exact (d10 (b, k) (by simp)).2 c h2
      · split at h2
        · rename_i e
          obtain rfl := List.mem_singleton.1 h2
          exact hx _ (by show (to.getD b [])[k] = _; rw [Int.toNat_of_nonneg e.1]) (by have := e.2; have := e.1; omega)
        · simp at h2
  · rw [← d11, List.reverse_append, List.reverse_append]
    show fin n to n ((b, k + 1) :: st.reverse) _ = fin n to n ((b, k) :: st.reverse) _
    have e : lf (wy n to) n (rsf n to (b, k)) (pin (ent.map (·.1)), lfl) = lf (wy n to) n (rsf n to (b, k + 1)) (pin (ent.map (·.1)), lfl) := by
      rw [rsf_step hk]
      split
      · rename_i e
        rw [List.singleton_append, lf_cons, if_pos]
        have := hx _ (by rw [Int.toNat_of_nonneg e.1]) (by have := e.2; have := e.1; omega)
        simpa [pin] using this
      · rfl
    show fin n to n st.reverse ((lf (wy n to) n (rsf n to (b, k + 1)) _).1, (lf (wy n to) n (rsf n to (b, k + 1)) _).2 ++ [b]) = fin n to n st.reverse ((lf (wy n to) n (rsf n to (b, k)) _).1, (lf (wy n to) n (rsf n to (b, k)) _).2 ++ [b])
    rw [e]
  · rw [← d12]; simp

/-- A new block is entered. -/
theorem DI.enter (h : DI n to ent lfl (st ++ [(b, k)])) (hk : k < (to.getD b []).length) {y : Nat} (hy : (to.getD b [])[k] = (y : Int)) (hyn : y < n) (hye : y ∉ ent.map (·.1)) : DI n to (ent ++ [(y, (b : Int))]) lfl (st ++ [(b, k + 1)] ++ [(y, 0)]) := by
  have H := h
  obtain ⟨d1, d2, d3, d4, d5, d6, d7, d8, d9, d10, d11, d12⟩ := h
  have em : (st ++ [(b, k + 1)]).map (·.1) = (st ++ [(b, k)]).map (·.1) := by rw [List.map_append, List.map_append]; rfl
  have hbs : b ∈ (st ++ [(b, k)]).map (·.1) := by simp
  obtain ⟨hbe, hbA⟩ := d7 b hbs
  have hm : 0 < ent.length := by obtain ⟨r, rfl⟩ := d2; simp
  have eP : ∀ t, t < ent.length → par ent t = par (ent ++ [(y, (b : Int))]) t := fun t ht => (par_app H ht).symm
  have hlt := d5.par_lt
  have hA : ∀ {a c : Nat}, c < ent.length → An (par ent) a c → An (par (ent ++ [(y, (b : Int))])) a c := fun hc h => An.ext eP hlt hc h
  have eM : par (ent ++ [(y, (b : Int))]) ent.length = idx ent b := by
    show ((ent ++ [(y, (b : Int))]).map (·.1)).idxOf _ = _
    rw [show (ent ++ [(y, (b : Int))]).getD ent.length (0, 0) = (y, (b : Int)) by simp [List.getD_eq_getElem?_getD]]
    exact idx_app hbe
  have hib := (blk_idx hbe).2
  have hbM : An (par (ent ++ [(y, (b : Int))])) (idx ent b) ent.length := by rw [← eM]; exact An.par _ _
  -- what is open stands above the new one
  have hop : ∀ a ∈ (st ++ [(b, k)]).map (·.1), An (par (ent ++ [(y, (b : Int))])) (idx ent a) ent.length := fun a ha => by
    refine An.trans ?_ hbM
    refine hA hib ?_
    rw [List.map_append] at ha d6
    rcases List.mem_append.1 ha with h | h
    · exact (List.pairwise_append.1 d6).2.2 a h b (by simp)
    · simp at h; subst h; exact An.refl _ _
  have hen : (ent ++ [(y, (b : Int))]).map (·.1) = ent.map (·.1) ++ [y] := by rw [List.map_append]; rfl
  have hlen : (ent ++ [(y, (b : Int))]).length = ent.length + 1 := by simp
  have hyw : y ∈ wy n to b := keep_mem.2 ⟨by rw [← hy]; exact List.getElem_mem hk, hyn⟩
  refine ⟨?_, ?_, ?_, ?_, ?_, ?_, ?_, ?_, ?_, ?_, ?_, ?_⟩
  · rw [hen]
    exact List.nodup_append.2 ⟨d1, by simp, fun a ha c hc e => by simp at hc; subst hc; subst e; exact hye ha⟩
  · obtain ⟨r, rfl⟩ := d2
    exact ⟨r ++ [(y, (b : Int))], rfl⟩
  · intro e he
    rcases List.mem_append.1 he with h | h
    · exact d3 e h
    · simp at h; subst h; exact hyn
  · intro t h0 ht
    rw [hlen] at ht
    rw [hen]
    by_cases e : t = ent.length
    · subst e
      exact ⟨b, List.mem_append_left _ hbe, by simp [List.getD_eq_getElem?_getD]⟩
    · obtain ⟨a, h1, h2⟩ := d4 t h0 (by omega)
      refine ⟨a, List.mem_append_left _ h1, ?_⟩
      rw [List.getD_eq_getElem?_getD, List.getElem?_append_left (by omega), ← List.getD_eq_getElem?_getD]
      exact h2
  · rw [hlen]
    obtain ⟨t0, t1, t2, t3⟩ := d5
    refine ⟨by rw [← eP 0 hm]; exact t0, fun w h0 hw => ?_, fun w hw => ?_, fun v w hE => ?_⟩
    · by_cases e : w = ent.length
      · subst e
        rw [eM]
        exact ⟨hib, ⟨by rw [hlen]; omega, by rw [hlen]; omega, by rw [blk_new, blk_app hib, (blk_idx hbe).1]; exact hyw⟩⟩
      · rw [← eP w (by omega)]
        obtain ⟨h1, h2, h3, h4⟩ := t1 w h0 (by omega)
        exact ⟨h1, ⟨by rw [hlen]; omega, by rw [hlen]; omega, by rw [blk_app h2, blk_app h3]; exact h4⟩⟩
    · by_cases e : w + 1 = ent.length
      · rw [e, eM]
        have := hA (c := ent.length - 1) (by omega) hbA
        rwa [show ent.length - 1 = w by omega] at this
      · rw [← eP (w + 1) (by omega)]
        exact hA (by omega) (t2 w (by omega))
    · obtain ⟨h1, h2, h3⟩ := hE
      rw [hlen] at h1 h2
      refine ⟨h1, h2, fun hvw => ?_⟩
      have hv : v < ent.length := by omega
      by_cases e : w = ent.length
      · subst e
        rw [blk_new, blk_app hv] at h3
        have hv2 := idx_blk d1 hv
        by_cases hs : blk ent v ∈ (st ++ [(b, k)]).map (·.1)
        · have := hop _ hs
          rwa [hv2.1] at this
        · exact absurd (d9 _ hv2.2 hs y h3) hye
      · have hw : w < ent.length := by omega
        rw [blk_app hv, blk_app hw] at h3
        exact hA hw ((t3 v w ⟨hv, hw, h3⟩).2.2 hvw)
  · rw [List.map_append, em]
    refine List.pairwise_append.2 ⟨?_, by simp, fun a ha c hc => ?_⟩
    · refine List.Pairwise.imp_of_mem (fun {a c} ha hc hAn => ?_) d6
      rw [idx_app (d7 a ha).1, idx_app (d7 c hc).1]
      exact hA (blk_idx (d7 c hc).1).2 hAn
    · simp at hc
      subst hc
      rw [idx_app (d7 a ha).1, idx_new (x := (c, (b : Int))) hye]
      exact hop a ha
  · intro a ha
    rw [List.map_append, em] at ha
    rw [hen, hlen, Nat.add_sub_cancel]
    rcases List.mem_append.1 ha with h | h
    · rw [idx_app (d7 a h).1]
      exact ⟨List.mem_append_left _ (d7 a h).1, hop a h⟩
    · simp at h
      subst h
      rw [idx_new (x := (a, (b : Int))) hye]
      exact ⟨by simp, An.refl _ _⟩
  · rw [List.map_append, em]
    refine List.nodup_append.2 ⟨d8, by simp, fun a ha c hc e => ?_⟩
    simp at hc
    subst hc
    subst e
    exact hye (d7 a ha).1
  · intro a ha hst c hc
    rw [hen] at ha ⊢
    rw [List.map_append, em] at hst
    rcases List.mem_append.1 ha with h | h
    · exact List.mem_append_left _ (d9 a h (fun h2 => hst (List.mem_append_left _ h2)) c hc)
    · simp at h
      exact absurd (List.mem_append_right _ (by simp [h])) hst
  · intro x hx
    rw [hen]
    rcases List.mem_append.1 hx with h | h
    · rcases List.mem_append.1 h with h | h
      · obtain ⟨h1, h2⟩ := d10 x (List.mem_append_left _ h)
        exact ⟨h1, fun c hc => List.mem_append_left _ (h2 c hc)⟩
      · simp at h
        subst h
        refine ⟨hk, fun c hc => ?_⟩
        rw [keep_step n _ k hk] at hc
        rcases List.mem_append.1 hc with h2 | h2
        · exact List.mem_append_left _ ((d10 (b, k) (by simp)).2 c h2)
        · split at h2
          · have h3 := List.mem_singleton.1 h2
            rw [hy, Int.toNat_natCast] at h3
            exact List.mem_append_right _ (by simp [h3])
          · simp at h2
    · simp at h
      subst h
      exact ⟨Nat.zero_le _, fun c hc => by simp [keep] at hc⟩
  · rw [← d11, hen, ← pin_up]
    have er : (st ++ [(b, k + 1)] ++ [(y, 0)]).reverse = (y, 0) :: (b, k + 1) :: st.reverse := by simp
    rw [er, List.reverse_append]
    show fin n to n ((y, 0) :: (b, k + 1) :: st.reverse) _ = fin n to n ((b, k) :: st.reverse) _
    have hpy : pin (ent.map (·.1)) y = false := by simpa [pin] using hye
    have hun := un_up n (pin (ent.map (·.1))) y hyn hpy
    have hun2 : un n (pin (ent.map (·.1))) ≤ n := Nat.le_trans (un_le n (fun _ => false) _ (fun j h => by cases h)) (Nat.le_of_eq (un_all n))
    obtain ⟨m, rfl⟩ : ∃ m, n = m + 1 := ⟨n - 1, by omega⟩
    have e1 : rsf (m + 1) to (b, k) = y :: rsf (m + 1) to (b, k + 1) := by
      rw [rsf_step hk, if_pos (by rw [hy]; omega), hy]
      simp
    have e2 : lf (wy (m + 1) to) (m + 1) (rsf (m + 1) to (b, k)) (pin (ent.map (·.1)), lfl) = lf (wy (m + 1) to) (m + 1) (rsf (m + 1) to (b, k + 1)) (lv (wy (m + 1) to) (m + 1) y (pin (ent.map (·.1)), lfl)) := by
      rw [e1, lf_cons, if_neg (by rw [show (pin (ent.map (·.1)), lfl).1 y = pin (ent.map (·.1)) y from rfl, hpy]; simp)]
    have e3 : lv (wy (m + 1) to) (m + 1) y (pin (ent.map (·.1)), lfl) = ((lf (wy (m + 1) to) (m + 1) (rsf (m + 1) to (y, 0)) (up (pin (ent.map (·.1))) y, lfl)).1, (lf (wy (m + 1) to) (m + 1) (rsf (m + 1) to (y, 0)) (up (pin (ent.map (·.1))) y, lfl)).2 ++ [y]) := by
      rw [← lf_fuel (n := m + 1) (fun a c hc => wy_lt (m + 1) to a c hc) m (rsf (m + 1) to (y, 0)) (up (pin (ent.map (·.1))) y, lfl) (fun c hc => (keep_mem.1 hc).2) (by show un (m + 1) (up (pin (ent.map (·.1))) y) ≤ m; omega)]
      rfl
    show fin (m + 1) to (m + 1) st.reverse ((lf (wy (m + 1) to) (m + 1) (rsf (m + 1) to (b, k + 1)) _).1, (lf (wy (m + 1) to) (m + 1) (rsf (m + 1) to (b, k + 1)) _).2 ++ [b]) = fin (m + 1) to (m + 1) st.reverse ((lf (wy (m + 1) to) (m + 1) (rsf (m + 1) to (b, k)) _).1, (lf (wy (m + 1) to) (m + 1) (rsf (m + 1) to (b, k)) _).2 ++ [b])
    rw [e2, e3]
  · rw [hlen, ← d12]; simp; omega

theorem DI.start (hn : 0 < n) : DI n to [(0, -1)] [] [(0, 0)] := by
  refine ⟨by simp, ⟨[], rfl⟩, fun e he => by simp at he; subst he; exact hn, fun t h0 ht => by simp at ht; omega, ?_, by simp, fun c hc => ?_, by simp, fun a ha hst => ?_, fun x hx => ?_, ?_, rfl⟩
  · refine ⟨rfl, fun w h0 hw => by simp at hw; omega, fun w hw => by simp at hw, fun v w hE => ?_⟩
    obtain ⟨h1, h2, _⟩ := hE
    simp at h1 h2
    exact ⟨by simp; omega, by simp; omega, fun h => by omega⟩
  · simp at hc
    subst hc
    exact ⟨by simp, 0, rfl⟩
  · simp at ha
    subst ha
    simp at hst
  · simp at hx
    subst hx
    exact ⟨Nat.zero_le _, fun c hc => by simp [keep] at hc⟩
  · obtain ⟨m, rfl⟩ : ∃ m, n = m + 1 := ⟨n - 1, by omega⟩
    have hp : pin ([(0, -1)].map ((·.1) : Nat × Int → Nat)) = up (fun _ => false) 0 := by
      funext y
      simp [pin, up]
    rw [hp]
    show ((lf (wy (m + 1) to) (m + 1) (rsf (m + 1) to (0, 0)) (up (fun _ => false) 0, [])).1, (lf (wy (m + 1) to) (m + 1) (rsf (m + 1) to (0, 0)) (up (fun _ => false) 0, [])).2 ++ [0]) = _
    have h1 : un (m + 1) (up (fun _ => false) 0) < un (m + 1) (fun _ => false) := un_up (m + 1) (fun _ => false) 0 (by omega) rfl
    have h2 := un_all (m + 1)
    rw [← lf_fuel (n := m + 1) (fun a c hc => wy_lt (m + 1) to a c hc) m (rsf (m + 1) to (0, 0)) (up (fun _ => false) 0, []) (fun c hc => (keep_mem.1 hc).2) (by show un (m + 1) (up (fun _ => false) 0) ≤ m; omega)]
    rfl

/-- The walk's end. -/
structure Done (n : Nat) (to : List (List Int)) (ent : List (Nat × Int)) (lfl : List Nat) : Prop where
  nd : (ent.map (·.1)).Nodup
  hd : ∃ r, ent = (0, -1) :: r
  fr : ∀ t, 0 < t → t < ent.length → ∃ a : Nat, a ∈ ent.map (·.1) ∧ (ent.getD t (0, 0)).2 = (a : Int)
  tr : Tr ent.length (par ent) (Ed n to ent)
  all : ∀ x, x ∈ ent.map (·.1) ↔ Rch (wy n to) (-1) x
  lft : lfl = (lv (wy n to) n 0 (fun _ => false, [])).2

theorem DI.done (h : DI n to ent lfl []) : Done n to ent lfl := by
  obtain ⟨d1, d2, d3, d4, d5, d6, d7, d8, d9, d10, d11, d12⟩ := h
  refine ⟨d1, d2, d4, d5, fun x => ⟨fun hx => ?_, fun hr => ?_⟩, ?_⟩
  · have key : ∀ t, t < ent.length → Rch (wy n to) (-1) (blk ent t) := fun t => by
      induction t using Nat.strongRecOn with
      | _ t ih =>
        intro ht
        rcases Nat.eq_zero_or_pos t with h0 | h0
        · subst h0
          obtain ⟨r, rfl⟩ := d2
          exact Rch.zero (by decide)
        · obtain ⟨h1, _, _, h2⟩ := d5.2.1 t h0 ht
          exact (ih _ h1 (by omega)).step h2 (by omega)
    have h1 := blk_idx hx
    have := key _ h1.2
    rwa [h1.1] at this
  · refine hr.2 (fun x => x ∈ ent.map (·.1)) ?_ fun a c ha hc _ => d9 a ha (by simp) c hc
    obtain ⟨r, rfl⟩ := d2
    simp
  · have : (pin (ent.map (·.1)), lfl) = lv (wy n to) n 0 (fun _ => false, []) := d11
    rw [← this]

/-- How much is left to be done, at most. -/
def phi (n : Nat) (to : List (List Int)) (ent : List (Nat × Int)) (stk : List (Nat × Nat)) : Nat := (stk.map fun x => (to.getD x.1 []).length - x.2 + 1).sum + (n - ent.length) * 202

theorem DI.len (h : DI n to ent lfl st) : ent.length ≤ n ∧ st.length ≤ n ∧ lfl.length ≤ n := by
  have h1 : (ent.map (·.1)).length ≤ (List.range n).length := h.d1.length_le_of_subset fun x hx => by
    obtain ⟨e, he, rfl⟩ := List.mem_map.1 hx
    simp [h.d3 e he]
  have h2 := h.d12
  simp at h1
  omega
end

/-- The least one. -/
theorem least_ex (p : Nat → Prop) (h : ∃ m, p m) : ∃ m, p m ∧ ∀ k, p k → m ≤ k := by
  obtain ⟨m, hm⟩ := h
  induction m using Nat.strongRecOn with
  | _ m ih =>
    by_cases e : ∃ k, k < m ∧ p k
    · obtain ⟨k, h1, h2⟩ := e
      exact ih k h1 h2
    · exact ⟨m, hm, fun k hk => Nat.le_of_not_lt fun h => e ⟨k, h, hk⟩⟩

noncomputable def lst (p : Nat → Prop) : Nat := @dite _ (∃ m, p m) (Classical.propDecidable _) (fun h => Classical.choose (least_ex p h)) (fun _ => 0)

theorem lst_spec {p : Nat → Prop} (h : ∃ m, p m) : p (lst p) := by
  unfold lst
  rw [dif_pos h]
  exact (Classical.choose_spec (least_ex p h)).1

theorem lst_le {p : Nat → Prop} {m : Nat} (h : p m) : lst p ≤ m := by
  have h' : ∃ m, p m := ⟨m, h⟩
  unfold lst
  rw [dif_pos h']
  exact (Classical.choose_spec (least_ex p h')).2 m h
end Go.Proofs.Ytmmgdiecmokipaa
