/-
  Proved: moves one behind the other as plain lists: what is still to be moved, chains, circles; how the maps follow.
-/
import Derived.Test.YtoagebclnaggjaaSwait
namespace Go.Proofs.Ytoagebclnaggjaa
open Go.RowKit Go.Maps

/-- What a place gets. -/
def lk : List Mv → Int → Option Int
  | [], _ => none
  | m :: l, x => if m.1 = x then some m.2 else lk l x
/-- How many read a place. -/
def rd : List Mv → Int → Nat
  | [], _ => 0
  | m :: l, x => (if m.2 = x then 1 else 0) + rd l x
/-- Without the move to a place. -/
def rem (p : List Mv) (x : Int) : List Mv := p.filter fun m => !(m.1 == x)

def ND (p : List Mv) : Prop := (p.map (·.1)).Nodup

/-- A chain, from a place on. -/
def chase : Nat → List Mv → Int → List Mv × List Mv
  | 0, p, _ => (p, [])
  | f + 1, p, x => match lk p x with
    | none => (p, [])
    | some y => if rd p x = 0 then ((chase f (rem p x) y).1, (x, y) :: (chase f (rem p x) y).2) else (p, [])

def ph1 : List Mv → List Mv × List Mv → List Mv × List Mv
  | [], s => s
  | m :: l, s => ph1 l ((chase s.1.length s.1 m.1).1, s.2 ++ (chase s.1.length s.1 m.1).2)

/-- A circle, from a place on. -/
def circ (spare first : Int) : Nat → List Mv → Int → Option (List Mv × List Mv)
  | 0, _, _ => none
  | f + 1, p, x => match lk p x with
    | none => none
    | some y => if y = first then some (rem p x, [(x, spare)]) else match circ spare first f (rem p x) y with
      | none => none
      | some r => some (r.1, (x, y) :: r.2)

def ph2 (spare : Int) : List Mv → List Mv × List Mv → Option (List Mv × List Mv)
  | [], s => some s
  | m :: l, s => match lk s.1 m.1 with
    | none => ph2 spare l s
    | some _ => match circ spare m.1 s.1.length s.1 m.1 with
      | none => none
      | some r => ph2 spare l (r.1, s.2 ++ (spare, m.1) :: r.2)

/-- The moves that move something. -/
def mvs (l : List Mv) : List Mv := l.filter fun m => !(m.1 == m.2)

def frm : List Mv → List Int → Int → Bool
  | [], _, _ => true
  | m :: l, seen, spare => !(seen.contains m.1) && !(m.1 == spare) && !(m.2 == spare) && frm l (m.1 :: seen) spare

/-- All of them, one behind the other. -/
def lineP (l : List Mv) (spare : Int) : Option (List Mv) := (ph2 spare l (ph1 l (mvs l, []))).map (·.2)

theorem lk_rem (p : List Mv) (x y : Int) : lk (rem p x) y = upd (lk p) x none y := by
  unfold upd
  induction p with
  | nil => simp [rem, lk]
  | cons m p ih =>
    unfold rem at ih ⊢
    by_cases e : m.1 = x
    · rw [List.filter_cons_of_neg (by simp [e]), ih, lk]
      by_cases e2 : y = x
      · simp [e2]
      · have : ¬ m.1 = y := fun h => e2 (by omega)
        simp [e2, this]
    · rw [List.filter_cons_of_pos (by simp [e]), lk, lk, ih]
      by_cases e2 : y = x
      · simp [e2, e]
      · simp [e2]

theorem lk_mem {p : List Mv} {x y : Int} (h : lk p x = some y) : (x, y) ∈ p := by
  induction p with
  | nil => cases h
  | cons m p ih =>
    unfold lk at h
    split at h
    · cases h
      rename_i e
      subst e
      simp
    · exact List.mem_cons_of_mem _ (ih h)

theorem lk_of {p : List Mv} (hn : ND p) {x y : Int} (h : (x, y) ∈ p) : lk p x = some y := by
  induction p with
  | nil => cases h
  | cons m p ih =>
    unfold ND at hn
    rw [List.map_cons, List.nodup_cons] at hn
    unfold lk
    rcases List.mem_cons.1 h with e | e
    · subst e; simp
    · rw [if_neg, ih hn.2 e]
      intro e2
      exact hn.1 (by rw [e2]; exact List.mem_map.2 ⟨(x, y), e, rfl⟩)

theorem lk_none {p : List Mv} {x : Int} (h : lk p x = none) : x ∉ p.map (·.1) := by
  induction p with
  | nil => simp
  | cons m p ih =>
    unfold lk at h
    split at h
    · cases h
    · rename_i e
      rw [List.map_cons, List.mem_cons]
      rintro (h2 | h2)
      · exact e h2.symm
      · exact ih h h2

theorem lk_some {p : List Mv} {x : Int} (h : x ∈ p.map (·.1)) : ∃ y, lk p x = some y := by
  cases e : lk p x with
  | some y => exact ⟨y, rfl⟩
  | none => exact absurd h (lk_none e)

theorem rem_len {p : List Mv} {x y : Int} (h : lk p x = some y) : (rem p x).length < p.length :=
  List.length_filter_lt_length_iff_exists.2 ⟨(x, y), lk_mem h, by simp⟩

theorem ND.rem {p : List Mv} (h : ND p) (x : Int) : ND (rem p x) := by
  unfold ND at *
  exact h.sublist (List.filter_sublist.map _)

theorem rem_none {p : List Mv} {x : Int} (h : lk p x = none) : rem p x = p := by
  unfold rem
  rw [List.filter_eq_self]
  intro m hm
  have := lk_none h
  simp
  rintro e
  exact this (by rw [← e]; exact List.mem_map.2 ⟨m, hm, rfl⟩)

theorem rd_rem {p : List Mv} (hn : ND p) {x y : Int} (h : lk p x = some y) (z : Int) : rd p z = rd (rem p x) z + if z = y then 1 else 0 := by
  induction p with
  | nil => cases h
  | cons m p ih =>
    have hn' := hn
    unfold ND at hn
    rw [List.map_cons, List.nodup_cons] at hn
    unfold lk at h
    split at h
    · rename_i e
      cases h
      have h2 : lk p x = none := by
        cases e2 : lk p x with
        | none => rfl
        | some u => exact absurd (List.mem_map.2 ⟨_, lk_mem e2, by simp [e]⟩) hn.1
      unfold rem
      rw [List.filter_cons_of_neg (by simp [e])]
      have h3 : p.filter (fun m => !(m.1 == x)) = p := rem_none h2
      rw [h3, rd]
      by_cases e3 : z = m.2
      · subst e3; simp; omega
      · have : ¬ m.2 = z := fun h => e3 h.symm
        simp [this, e3]
    · rename_i e
      unfold rem
      rw [List.filter_cons_of_pos (by simp [e]), rd, rd]
      have := ih hn.2 h
      unfold rem at this
      omega
end Go.Proofs.Ytoagebclnaggjaa
