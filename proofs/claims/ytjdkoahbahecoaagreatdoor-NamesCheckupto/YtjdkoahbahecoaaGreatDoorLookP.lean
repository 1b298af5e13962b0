/-
  Proved: plain facts on a type's own parts: gone over in order, in the room that is left, they tell how much a type has.
-/
import Derived.Test.YtjdkoahbahecoaaGreatDoorAddP
namespace Go.Proofs.YtjdkoahbahecoaaGreatDoor

/-- A type's own parts; none: it is not known. -/
def pts (is : List It) : T → Option (List T)
  | .mk k s n es =>
    if 1 ≤ k ∧ k ≤ 8 then some []
    else if k = 9 then
      match fst s is 0 with
      | none => none
      | some j => match is[j]? with
        | none => none
        | some it => if it.k = 2 then some (it.ps.map (·.2)) else some (it.vs.map (·.2)).flatten
    else match es with
      | [] => none
      | e :: _ => if k = 10 then some (List.replicate (min n.toNat 512) e) else if k = 11 ∨ k = 12 ∨ k = 13 then some [] else none

theorem pts_mk (is : List It) (k : Int) (s : ByteArray) (n : Int) (es : List T) : pts is (.mk k s n es) =
    if 1 ≤ k ∧ k ≤ 8 then some []
    else if k = 9 then
      match fst s is 0 with
      | none => none
      | some j => match is[j]? with
        | none => none
        | some it => if it.k = 2 then some (it.ps.map (·.2)) else some (it.vs.map (·.2)).flatten
    else match es with
      | [] => none
      | e :: _ => if k = 10 then some (List.replicate (min n.toNat 512) e) else if k = 11 ∨ k = 12 ∨ k = 13 then some [] else none := rfl

/-- The room that is left behind types. -/
def sq (f : T → Nat → Option Am) : Option Nat → List T → Option Nat
  | none, _ => none
  | some q, [] => some q
  | some q, t :: ts => sq f ((f t q).map fun o => q - o.p) ts

theorem sq_none (f : T → Nat → Option Am) (ts : List T) : sq f none ts = none := by cases ts <;> rfl
theorem sq_nil (f : T → Nat → Option Am) (x : Option Nat) : sq f x [] = x := by cases x <;> rfl

theorem sq_append (f : T → Nat → Option Am) (us : List T) : ∀ (ts : List T) (x : Option Nat), sq f x (ts ++ us) = sq f (sq f x ts) us
  | [], x => by rw [List.nil_append, sq_nil]
  | t :: ts, none => by rw [sq_none, sq_none, sq_none]
  | t :: ts, some q => by rw [List.cons_append, sq, sq, sq_append f us ts]

theorem sq_tog {f : T → Nat → Option Am} (hf : Fine f) (room : Nat) : ∀ (ts : List T) (a : Am), a.p ≤ room → sq f (some (room - a.p)) ts = (tog f room a ts).map fun b => room - b.p
  | [], a, _ => rfl
  | t :: ts, a, ha => by
    rw [sq, tog]
    cases ho : f t (room - a.p) with
    | none => exact sq_none f ts
    | some o =>
      obtain ⟨k1, k2, k3, k4⟩ := hf _ _ _ ho
      have := sq_tog hf room ts ⟨a.p + o.p, a.w + o.w, a.m + o.m⟩ (by show a.p + o.p ≤ room; omega)
      simp only [Option.map_some] at this ⊢
      rw [← this]
      congr 2
      omega

theorem sq_vars {f : T → Nat → Option Am} (hf : Fine f) (room : Nat) : ∀ (l : List (List T)) (a : Am), a.p ≤ room → sq f (some (room - a.p)) l.flatten = (vars f room a l).map fun b => room - b.p
  | [], a, _ => rfl
  | ts :: l, a, ha => by
    rw [List.flatten_cons, sq_append, vars]
    have h1 := sq_tog hf room ts ⟨a.p, 0, a.m⟩ ha
    simp only at h1
    rw [h1]
    cases ho : tog f room ⟨a.p, 0, a.m⟩ ts with
    | none => exact sq_none f _
    | some o =>
      have hok := tog_ok hf ho ha
      simp only at hok
      have := sq_vars hf room l ⟨o.p, max a.w o.w, o.m⟩ (by show o.p ≤ room; omega)
      simpa only [Option.map_some] using this

theorem rep_some {is : List It} {N : Nat} {e : T} {q' : Nat} {o : Am} (hq' : q' ≤ N) (ho : am is N e q' = some o) : ∀ (m q : Nat), q ≤ N → m * o.p ≤ q → sq (am is N) (some q) (List.replicate m e) = some (q - m * o.p)
  | 0, q, _, _ => by simp [sq]
  | m + 1, q, hq, hm => by
    rw [Nat.succ_mul] at hm
    rw [List.replicate_succ, sq, am_room is N N e q' q o hq' hq ho (by omega), Option.map_some, rep_some hq' ho m (q - o.p) (by omega) (by omega), Nat.succ_mul]
    congr 1
    omega

theorem rep_inv {is : List It} {N : Nat} {e : T} : ∀ (m q x : Nat), 1 ≤ m → q ≤ N → sq (am is N) (some q) (List.replicate m e) = some x → ∃ o, am is N e q = some o ∧ m * o.p ≤ q
  | 0, q, x, h, _, _ => absurd h (by decide)
  | m + 1, q, x, _, hq, h => by
    rw [List.replicate_succ, sq] at h
    cases ho : am is N e q with
    | none => rw [ho, Option.map_none, sq_none] at h; cases h
    | some o =>
      rw [ho, Option.map_some] at h
      obtain ⟨k1, k2, k3, k4⟩ := am_ok is N _ _ _ ho
      refine ⟨o, rfl, ?_⟩
      rw [Nat.succ_mul]
      by_cases hm : m = 0
      · subst hm; omega
      · obtain ⟨o', h1, h2⟩ := rep_inv m (q - o.p) x (by omega) (by omega) h
        have k5 := am_ok is N _ _ _ h1
        have h3 := am_room is N N e (q - o.p) q o' (by omega) hq h1 (by omega)
        rw [ho] at h3
        cases h3
        omega

/-- How much a type has, by its parts. -/
theorem am_pts (is : List It) (N : Nat) (hN : N ≤ 511) (t : T) (r : Nat) (hr : r ≤ N + 1) :
    ((am is (N + 1) t r).map fun o => r - o.p) = if r < 1 then none else match pts is t with
      | none => none
      | some ps => sq (am is N) (some (r - 1)) ps := by
  have hf := am_ok is N
  obtain ⟨k, s, n, es⟩ := t
  rw [am_succ]
  by_cases h0 : r < 1
  · rw [if_pos h0, if_pos h0]; rfl
  · rw [if_neg h0, if_neg h0, pts_mk]
    by_cases h1 : k = 1
    · subst h1
      rw [if_pos rfl, if_pos (by decide)]; rfl
    · rw [if_neg h1]
      by_cases h2 : 2 ≤ k ∧ k ≤ 8
      · rw [if_pos h2, if_pos (by omega)]; rfl
      · rw [if_neg h2, if_neg (show ¬ (1 ≤ k ∧ k ≤ 8) by omega)]
        by_cases h9 : k = 9
        · rw [if_pos h9, if_pos h9]
          cases fst s is 0 with
          | none => rfl
          | some j =>
            simp only
            cases is[j]? with
            | none => rfl
            | some it =>
              simp only
              by_cases hk : it.k = 2
              · rw [if_pos hk, if_pos hk]
                exact (sq_tog hf r _ ⟨1, 0, 0⟩ (by show 1 ≤ r; omega)).symm
              · rw [if_neg hk, if_neg hk]
                have := sq_vars hf r (it.vs.map (·.2)) ⟨1, 0, 0⟩ (by show 1 ≤ r; omega)
                simp only at this ⊢
                rw [this, Option.map_map]
                rfl
        · rw [if_neg h9, if_neg h9]
          cases es with
          | nil => rfl
          | cons e es =>
            simp only
            by_cases h10 : k = 10
            · rw [if_pos h10, if_pos h10]
              simp only
              by_cases hn : n < 1
              · rw [if_pos hn, show n.toNat = 0 by omega]; rfl
              · rw [if_neg hn]
                have hn1 : 1 ≤ n.toNat := by omega
                have q1 : (r - 1) / n.toNat ≤ r - 1 := Nat.div_le_self _ _
                cases ho : am is N e ((r - 1) / n.toNat) with
                | some o =>
                  obtain ⟨k1, k2, k3, k4⟩ := hf _ _ _ ho
                  have k5 := (Nat.le_div_iff_mul_le hn1).1 k2
                  have k6 : n.toNat ≤ o.p * n.toNat := Nat.le_mul_of_pos_left _ k1
                  rw [Nat.min_eq_left (by omega), rep_some (by omega) ho n.toNat (r - 1) (by omega) (by rw [Nat.mul_comm]; exact k5), Nat.mul_comm n.toNat]
                  simp only [Option.map_some]
                  congr 1
                  omega
                | none =>
                  cases hx : sq (am is N) (some (r - 1)) (List.replicate (min n.toNat 512) e) with
                  | none => rfl
                  | some x =>
                    exfalso
                    obtain ⟨o, h3, h4⟩ := rep_inv _ _ _ (by omega) (by omega) hx
                    obtain ⟨k1, k2, k3, k4⟩ := hf _ _ _ h3
                    by_cases hn5 : n.toNat ≤ 512
                    · rw [Nat.min_eq_left hn5] at h4
                      have h5 : o.p ≤ (r - 1) / n.toNat := (Nat.le_div_iff_mul_le hn1).2 (by rw [Nat.mul_comm]; exact h4)
                      rw [am_room is N N e (r - 1) _ o (by omega) (by omega) h3 h5] at ho
                      cases ho
                    · rw [Nat.min_eq_right (by omega)] at h4
                      omega
            · rw [if_neg h10, if_neg h10]
              by_cases h12 : k = 12
              · rw [if_pos h12, if_pos (by omega)]; rfl
              · rw [if_neg h12]
                by_cases h11 : k = 11 ∨ k = 13
                · rw [if_pos h11, if_pos (by omega)]; rfl
                · rw [if_neg h11, if_neg (by omega)]; rfl

end Go.Proofs.YtjdkoahbahecoaaGreatDoor
