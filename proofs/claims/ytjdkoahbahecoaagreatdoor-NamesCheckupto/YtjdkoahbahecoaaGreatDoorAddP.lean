/-
  Proved: plain facts on how much types have: in another room it is the same; a struct's and an array's are their parts'.
-/
import Derived.Test.YtjdkoahbahecoaaGreatDoorFew
namespace Go.Proofs.YtjdkoahbahecoaaGreatDoor

/-- Two measures agree wherever the room allows. -/
def Agree (f g : T → Nat → Option Am) (N M : Nat) : Prop := ∀ t r r' o, r ≤ N → r' ≤ M → f t r = some o → o.p ≤ r' → g t r' = some o

theorem tog_room {f g : T → Nat → Option Am} {N M : Nat} (h : Agree f g N M) (hf : Fine f) {room room' : Nat} (hr : room ≤ N + 1) (hr' : room' ≤ M + 1) : ∀ {ts : List T} {a b : Am}, 1 ≤ a.p → a.p ≤ room → tog f room a ts = some b → b.p ≤ room' → tog g room' a ts = some b
  | [], a, b, _, _, he, _ => by cases he; rfl
  | t :: ts, a, b, h1, h2, he, hb => by
    rw [tog] at he ⊢
    cases ho : f t (room - a.p) with
    | none => rw [ho] at he; cases he
    | some o =>
      rw [ho] at he
      obtain ⟨k1, k2, k3, k4⟩ := hf _ _ _ ho
      have hok := tog_ok hf he (by show a.p + o.p ≤ room; omega)
      simp only at hok
      rw [h t (room - a.p) (room' - a.p) o (by omega) (by omega) ho (by omega)]
      exact tog_room h hf hr hr' (by show 1 ≤ a.p + o.p; omega) (by show a.p + o.p ≤ room; omega) he hb

theorem vars_room {f g : T → Nat → Option Am} {N M : Nat} (h : Agree f g N M) (hf : Fine f) {room room' : Nat} (hr : room ≤ N + 1) (hr' : room' ≤ M + 1) : ∀ {l : List (List T)} {a b : Am}, 1 ≤ a.p → a.p ≤ room → a.w + 1 ≤ a.p → a.m + 1 ≤ a.p → vars f room a l = some b → b.p ≤ room' → vars g room' a l = some b
  | [], a, b, _, _, _, _, he, _ => by cases he; rfl
  | ts :: l, a, b, h1, h2, h3, h4, he, hb => by
    rw [vars] at he ⊢
    cases ho : tog f room ⟨a.p, 0, a.m⟩ ts with
    | none => rw [ho] at he; cases he
    | some o =>
      rw [ho] at he
      have hok := tog_ok hf ho h2
      simp only at hok
      have hok2 := vars_ok hf he (by show o.p ≤ room; omega) (by show 1 ≤ o.p; omega) (by show max a.w o.w + 1 ≤ o.p; omega) (by show o.m + 1 ≤ o.p; omega)
      simp only at hok2
      rw [tog_room (a := ⟨a.p, 0, a.m⟩) h hf hr hr' h1 h2 ho (by omega)]
      exact vars_room h hf hr hr' (by show 1 ≤ o.p; omega) (by show o.p ≤ room; omega) (by show max a.w o.w + 1 ≤ o.p; omega) (by show o.m + 1 ≤ o.p; omega) he hb

theorem am_room (is : List It) : ∀ (N M : Nat), Agree (am is N) (am is M) N M
  | 0, M => fun t r r' o _ _ h _ => by cases t; cases h
  | N + 1, 0 => fun t r r' o _ hr' h hp => by
    have := am_ok is (N + 1) t r o h
    omega
  | N + 1, M + 1 => fun t r r' o hr hr' h hp => by
    have ih := am_room is N M
    have hf := am_ok is N
    have hone := (am_ok is (N + 1) t r o h).1
    obtain ⟨k, s, n, es⟩ := t
    rw [am_succ] at h ⊢
    split at h
    · cases h
    · rename_i hr0
      rw [if_neg (show ¬ r' < 1 by omega)]
      split at h
      · rename_i hk; rw [if_pos hk]; exact h
      · rename_i hk1; rw [if_neg hk1]
        split at h
        · rename_i hk; rw [if_pos hk]; exact h
        · rename_i hk2; rw [if_neg hk2]
          split at h
          · rename_i hk; rw [if_pos hk]
            split at h
            · cases h
            · split at h
              · cases h
              · split at h
                · rename_i h2; rw [if_pos h2]
                  exact tog_room ih hf hr hr' (Nat.le_refl _) (by show 1 ≤ r; omega) h hp
                · rename_i h2; rw [if_neg h2]
                  obtain ⟨b, hb, rfl⟩ := Option.map_eq_some_iff.1 h
                  rw [vars_room ih hf hr hr' (Nat.le_refl _) (by show 1 ≤ r; omega) (Nat.le_refl _) (Nat.le_refl _) hb hp]
                  rfl
          · rename_i hk; rw [if_neg hk]
            split at h
            · cases h
            · rename_i e es
              split at h
              · rename_i h10; rw [if_pos h10]
                split at h
                · rename_i hn; rw [if_pos hn]; exact h
                · rename_i hn; rw [if_neg hn]
                  obtain ⟨b, hb, rfl⟩ := Option.map_eq_some_iff.1 h
                  simp only at hp
                  have hn1 : 1 ≤ n.toNat := by omega
                  have q1 : (r - 1) / n.toNat ≤ r - 1 := Nat.div_le_self _ _
                  have q2 : (r' - 1) / n.toNat ≤ r' - 1 := Nat.div_le_self _ _
                  have q3 : b.p ≤ (r' - 1) / n.toNat := (Nat.le_div_iff_mul_le hn1).2 (by omega)
                  rw [ih e _ ((r' - 1) / n.toNat) b (by omega) (by omega) hb q3]
                  rfl
              · rename_i h10; rw [if_neg h10]; exact h

/-- What a type has in less room, it has. -/
theorem amt_of {is : List It} {N room : Nat} {t : T} {o : Am} (hN : N ≤ 512) (hr : room ≤ N) (h : am is N t room = some o) : amt is t = some o := by
  have := am_ok is N t room o h
  exact am_room is N 512 t room 512 o hr (Nat.le_refl _) h (by omega)

/-- An array that has some. -/
theorem arr_some {is : List It} {s : ByteArray} {n : Int} {t : T} {es : List T} {o : Am} (hn : 1 ≤ n) (h : amt is (.mk 10 s n (t :: es)) = some o) : ∃ a, amt is t = some a ∧ o = ⟨1 + a.p * n.toNat, a.w * n.toNat, a.m * n.toNat⟩ := by
  unfold amt at h
  rw [am_succ] at h
  simp only [show ¬ (512 < 1) by decide, if_false, show ¬ ((10 : Int) = 1) by decide, show ¬ ((2 : Int) ≤ 10 ∧ (10 : Int) ≤ 8) by decide, show ¬ ((10 : Int) = 9) by decide, if_true, show ¬ n < 1 by omega] at h
  obtain ⟨a, ha, rfl⟩ := Option.map_eq_some_iff.1 h
  have q1 : (512 - 1) / n.toNat ≤ 511 := Nat.div_le_self _ _
  exact ⟨a, amt_of (by decide) q1 ha, rfl⟩

/-- A struct that has some: its fields' together. -/
theorem tog_sum {is : List It} {N room : Nat} (hN : N ≤ 511) (hr : room ≤ N + 1) : ∀ {ts : List T} {a b : Am}, 1 ≤ a.p → a.p ≤ room → tog (am is N) room a ts = some b → ∃ os : List Am, os.length = ts.length ∧ (∀ i (h1 : i < ts.length) (h2 : i < os.length), amt is (ts[i]'h1) = some (os[i]'h2)) ∧ b.w = a.w + (os.map (·.w)).sum ∧ b.m = a.m + (os.map (·.m)).sum
  | [], a, b, _, _, he => by cases he; exact ⟨[], rfl, fun i hi => absurd hi (Nat.not_lt_zero _), by simp, by simp⟩
  | t :: ts, a, b, h1, h2, he => by
    rw [tog] at he
    cases ho : am is N t (room - a.p) with
    | none => rw [ho] at he; cases he
    | some o =>
      rw [ho] at he
      obtain ⟨k1, k2, k3, k4⟩ := am_ok is N _ _ _ ho
      obtain ⟨os, e1, e2, e3, e4⟩ := tog_sum hN hr (by show 1 ≤ a.p + o.p; omega) (by show a.p + o.p ≤ room; omega) he
      refine ⟨o :: os, by simp [e1], fun i hi1 hi2 => ?_, by simp [e3]; omega, by simp [e4]; omega⟩
      match i, hi1, hi2 with
      | 0, _, _ => exact amt_of (by omega) (by omega) ho
      | i + 1, hi1, hi2 => exact e2 i (by simpa using hi1) (by simpa using hi2)

theorem struct_some {is : List It} {s : ByteArray} {n : Int} {es : List T} {o : Am} {j : Nat} (hf : fst s is 0 = some j) (hj : j < is.length) (hk : (is[j]'hj).k = 2) (h : amt is (.mk 9 s n es) = some o) :
    ∃ os : List Am, os.length = (is[j]'hj).ps.length ∧ (∀ i (h1 : i < (is[j]'hj).ps.length) (h2 : i < os.length), amt is ((is[j]'hj).ps[i]'h1).2 = some (os[i]'h2)) ∧ o.w = (os.map (·.w)).sum ∧ o.m = (os.map (·.m)).sum := by
  unfold amt at h
  rw [am_succ] at h
  simp only [show ¬ (512 < 1) by decide, if_false, show ¬ ((9 : Int) = 1) by decide, show ¬ ((2 : Int) ≤ 9 ∧ (9 : Int) ≤ 8) by decide, if_true, hf, List.getElem?_eq_getElem hj, hk] at h
  obtain ⟨os, e1, e2, e3, e4⟩ := tog_sum (by decide) (by decide) (Nat.le_refl _) (by decide) h
  refine ⟨os, by simpa using e1, fun i h1 h2 => ?_, by simpa using e3, by simpa using e4⟩
  have := e2 i (by simpa using h1) h2
  simpa using this

end Go.Proofs.YtjdkoahbahecoaaGreatDoor
