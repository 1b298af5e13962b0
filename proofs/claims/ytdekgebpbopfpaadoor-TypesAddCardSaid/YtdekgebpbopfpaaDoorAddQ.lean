/-
  Proved: plain facts for TypesAdd: what an array, a Box and a struct have.
-/
import Derived.Test.YtdekgebpbopfpaaDoorField
import Derived.Test.YtdekgebpbopfpaaDoorAddP
namespace Go.Proofs.YtdekgebpbopfpaaDoor

theorem wrd_some {is : List It} {t : T} {a : Nat} (h : wrd is t = some a) : ∃ o, amt is t = some o ∧ o.w = a ∧ a ≤ 128 := by
  unfold wrd at h
  split at h
  · cases h
  · rename_i o ho
    split at h
    · cases h; exact ⟨o, ho, rfl, by assumption⟩
    · cases h

theorem wrd_of {is : List It} {t : T} {o : Am} (h : amt is t = some o) (h1 : o.w ≤ 128) : wrd is t = some o.w := by
  unfold wrd
  rw [h]
  simp only
  rw [if_pos h1]

theorem box_amt (is : List It) (t : T) : amt is (.mk 11 ⟨#[]⟩ 0 [t]) = some ⟨1, 1, 1⟩ := by
  unfold amt
  rw [am_succ]
  simp

theorem box_wrd (is : List It) (t : T) : wrd is (.mk 11 ⟨#[]⟩ 0 [t]) = some 1 := wrd_of (box_amt is t) (by decide)
theorem box_cpy (is : List It) (t : T) : cpy is (.mk 11 ⟨#[]⟩ 0 [t]) = false := by unfold cpy; rw [box_amt]; rfl
theorem bool_wrd : wrd [] (.mk 2 ⟨#[]⟩ 0 []) = some 1 := by
  have : amt [] (.mk 2 ⟨#[]⟩ 0 []) = some ⟨1, 1, 0⟩ := by unfold amt; rw [am_succ]; simp
  exact wrd_of this (by decide)

/-- The four ways of an array. -/
theorem arr_ways (is : List It) (t : T) (m : Nat) (hm : 1 ≤ m) :
    (∃ a, wrd is t = some a ∧ wrd is (.mk 10 ⟨#[]⟩ (m : Int) [t]) = some (m * a) ∧ a ≤ 128) ∨
    (∃ a, wrd is t = some a ∧ wrd is (.mk 10 ⟨#[]⟩ (m : Int) [t]) = none ∧ a ≤ 128 ∧ m * a ≤ 128 ∧ (amt is (.mk 10 ⟨#[]⟩ (m : Int) [t])).isSome = false) ∨
    (∃ a, wrd is t = some a ∧ wrd is (.mk 10 ⟨#[]⟩ (m : Int) [t]) = none ∧ a ≤ 128 ∧ ¬ m * a ≤ 128) ∨
    (wrd is t = none ∧ wrd is (.mk 10 ⟨#[]⟩ (m : Int) [t]) = none) := by
  cases hA : wrd is (.mk 10 ⟨#[]⟩ (m : Int) [t]) with
  | some b =>
    obtain ⟨o, h1, h2, h3⟩ := wrd_some hA
    obtain ⟨a, h4, h5⟩ := arr_some (by omega) h1
    have h6 : o.w = a.w * m := by rw [h5]; simp
    have h7 : a.w ≤ a.w * m := Nat.le_mul_of_pos_right _ hm
    refine Or.inl ⟨a.w, wrd_of h4 (by omega), ?_, by omega⟩
    rw [Nat.mul_comm, ← h6, h2]
  | none =>
    cases hT : wrd is t with
    | none => exact Or.inr (Or.inr (Or.inr ⟨rfl, rfl⟩))
    | some a =>
      obtain ⟨o, h1, h2, h3⟩ := wrd_some hT
      by_cases h : m * a ≤ 128
      · refine Or.inr (Or.inl ⟨a, rfl, rfl, h3, h, ?_⟩)
        cases hx : amt is (.mk 10 ⟨#[]⟩ (m : Int) [t]) with
        | none => rfl
        | some o' =>
          exfalso
          obtain ⟨a', h4, h5⟩ := arr_some (by omega) hx
          rw [h1] at h4
          cases h4
          have h6 : o'.w = o.w * m := by rw [h5]; simp
          rw [h2, Nat.mul_comm] at h6
          rw [wrd_of hx (by omega)] at hA
          cases hA
      · exact Or.inr (Or.inr (Or.inl ⟨a, rfl, rfl, h3, h⟩))

/-- A named type that has some: it is there. -/
theorem named_some {is : List It} {s : ByteArray} {n : Int} {es : List T} {o : Am} (h : amt is (.mk 9 s n es) = some o) : ∃ j, fst s is 0 = some j := by
  unfold amt at h
  rw [am_succ] at h
  cases hf : fst s is 0 with
  | some j => exact ⟨j, rfl⟩
  | none => rw [hf] at h; simp at h

/-- A struct's fields: their words, and whether they can be copied. -/
theorem struct_ways {is : List It} {s : ByteArray} {n : Int} {es : List T} {a : Nat} {j : Nat} (hf : fst s is 0 = some j) (hj : j < is.length) (hk : (is[j]'hj).k = 2) (h : wrd is (.mk 9 s n es) = some a) :
    ∃ (ws : Nat → Nat) (cp : Nat → Bool), (∀ k, pre ws k ≤ 1000000) ∧ pre ws (is[j]'hj).ps.length = a ∧ (∀ i (h : i < (is[j]'hj).ps.length), wrd is ((is[j]'hj).ps[i]'h).2 = some (ws i)) ∧
      cp 0 = true ∧ (∀ i (h : i < (is[j]'hj).ps.length), cp (i + 1) = (cp i && cpy is ((is[j]'hj).ps[i]'h).2)) ∧ cpy is (.mk 9 s n es) = cp (is[j]'hj).ps.length := by
  obtain ⟨o, h1, h2, h3⟩ := wrd_some h
  obtain ⟨os, e1, e2, e3, e4⟩ := struct_some hf hj hk h1
  have hpre : ∀ k, pre (fun i => (os[i]?.map (·.w)).getD 0) k = ((os.take k).map (·.w)).sum := by
    intro k
    induction k with
    | zero => simp [pre]
    | succ k ih =>
      rw [pre, ih, List.take_add_one, List.map_append, List.sum_append]
      cases os[k]? <;> simp
  have hle : ∀ k, ((os.take k).map (·.w)).sum ≤ (os.map (·.w)).sum := fun k => by
    have : (os.map (·.w)).sum = ((os.take k).map (·.w)).sum + ((os.drop k).map (·.w)).sum := by rw [← List.sum_append, ← List.map_append, List.take_append_drop]
    omega
  refine ⟨fun i => (os[i]?.map (·.w)).getD 0, fun k => decide (((os.take k).map (·.m)).sum = 0), fun k => ?_, ?_, fun i hi => ?_, by simp, fun i hi => ?_, ?_⟩
  · rw [hpre]; have := hle k; omega
  · rw [hpre, ← e1, List.take_length]; omega
  · have hi2 : i < os.length := by omega
    have hw := e2 i hi hi2
    have h5 := hle (i + 1)
    rw [List.take_add_one, List.getElem?_eq_getElem hi2, List.map_append, List.sum_append] at h5
    simp at h5
    rw [wrd_of hw (by omega)]
    simp [List.getElem?_eq_getElem hi2]
  · have hi2 : i < os.length := by omega
    have hw := e2 i hi hi2
    unfold cpy
    rw [hw]
    simp only
    rw [List.take_add_one, List.getElem?_eq_getElem hi2, List.map_append, List.sum_append]
    simp only [Option.toList_some, List.map_cons, List.map_nil, List.sum_cons, List.sum_nil, Nat.add_zero]
    simp
  · unfold cpy
    rw [h1, ← e1]
    simp only [List.take_length, e4]

/-- The first field of a name. -/
theorem first_idx (ps : List (ByteArray × T)) (q : ByteArray) : ∀ (N i : Nat), i < N → ∀ (h : i < ps.length), (ps[i]'h).1 = q → ∃ k, ∃ hk : k < ps.length, k ≤ i ∧ (ps[k]'hk).1 = q ∧ ∀ j (hj : j < ps.length), j < k → ¬ (ps[j]'hj).1 = q
  | 0, i, h, _, _ => absurd h (Nat.not_lt_zero _)
  | N + 1, i, hN, h, he => by
    by_cases hx : ∃ j, ∃ hj : j < ps.length, j < i ∧ (ps[j]'hj).1 = q
    · obtain ⟨j, hj, h1, h2⟩ := hx
      obtain ⟨k, hk, h3, h4, h5⟩ := first_idx ps q N j (by omega) hj h2
      exact ⟨k, hk, by omega, h4, h5⟩
    · exact ⟨i, h, Nat.le_refl _, he, fun j hj hji e => hx ⟨j, hj, hji, e⟩⟩

/-- What Field answers, where the field is known. -/
def FldB (ws : Nat → Nat) (k : Nat) (t : T) (e : Ending) (w' : World) : Prop :=
  ∃ (k' : Int) (s' : ByteArray) (n' : Int) (A' : Option Addr) (l' C' : Nat), e = .returned (.tuple #[.int .i64 (k : Int), .agg #[.int .i64 k', .string s', .int .i64 n', .slice A' l' C'], .int .i64 (pre ws k : Int), .bool true]) ∧ TIn w' t [.int .i64 k', .string s', .int .i64 n', .slice A' l' C']

theorem fld_at {ps : List (ByteArray × T)} {ws : Nat → Nat} {q : ByteArray} {e : Ending} {w' : World} (h : FldA ps ws q e w') {k : Nat} (hk : k < ps.length) (h1 : (ps[k]'hk).1 = q) (h2 : ∀ j (hj : j < ps.length), j < k → ¬ (ps[j]'hj).1 = q) : FldB ws k (ps[k]'hk).2 e w' := by
  obtain ⟨i, hi, k', s', n', A', l', C', g1, g2, g3, g4⟩ := h
  have : i = k := by
    rcases Nat.lt_trichotomy i k with hx | hx | hx
    · exact absurd g1 (h2 i hi hx)
    · exact hx
    · exact absurd h1 (g2 k hk hx)
  subst this
  exact ⟨k', s', n', A', l', C', g3, g4⟩

end Go.Proofs.YtdekgebpbopfpaaDoor
