/-
  Proved: lists of moves that a law makes: rows of them, what Line answers of few small ones.
-/
import Derived.Test.YtoagebclnaggjaaSafter
import Derived.Test.YtoagebclnaggjaaMath
set_option linter.unusedVariables false
namespace Go.Proofs.Ytoagebclnaggjaa
open Go.RowKit Go.Maps

/-- Moves to 0, 1, .. -/
def mk (n : Nat) (g : Nat → Int) : List Mv := (List.range n).map fun i : Nat => ((i : Int), g i)

theorem mk_succ (n : Nat) (g : Nat → Int) : mk (n + 1) g = mk n g ++ [((n : Int), g n)] := by
  unfold mk
  rw [List.range_succ, List.map_append]
  rfl
theorem mk_len (n : Nat) (g : Nat → Int) : (mk n g).length = n := by simp [mk]
theorem mk_get (n : Nat) (g : Nat → Int) (i : Nat) (h : i < (mk n g).length) : (mk n g)[i] = ((i : Int), g i) := by simp [mk]

theorem mk_ok (n : Nat) (g : Nat → Int) (spare : Int) (hn : n ≤ 50) (hs : 50 < spare) (hg : ∀ i, i < n → g i ≠ spare) : OKf (mk n g) spare := by
  constructor
  · unfold ND mk
    rw [List.map_map]
    show ((List.range n).map fun i : Nat => (i : Int)).Nodup
    refine List.Pairwise.map _ (fun a b hab => ?_) (List.nodup_range (n := n))
    omega
  · intro m hm
    obtain ⟨i, hi, rfl⟩ := List.mem_map.1 hm
    have := List.mem_range.1 hi
    refine ⟨?_, hg i this⟩
    show (i : Int) ≠ spare
    omega
theorem mk_al (n : Nat) (g : Nat → Int) (hn : n ≤ 50) (hg : ∀ i, i < n → In (g i)) : Al (mk n g) := by
  intro m hm
  obtain ⟨i, hi, rfl⟩ := List.mem_map.1 hm
  have := List.mem_range.1 hi
  exact ⟨by unfold In; omega, hg i this⟩

/-- A row lies on while another one is appended to. -/
theorem OM.other {base : Nat} {l : List Mv} {v u : Value} {w w' : World} (h : OM base l v w) (hs : w.heap.size ≤ w'.heap.size) (hk : ∀ k, k < w.heap.size → u.ownBlock ≠ some k → w'.heap[k]? = w.heap[k]?) (ha : Apt v u) : OM base l v w' := by
  refine ⟨Nat.le_trans h.1 hs, h.2.1, ?_⟩
  rcases h.2.2 with h4 | ⟨g, cap, cur, rfl, e2, e3, e4⟩
  · exact Or.inl h4
  · exact Or.inr ⟨g, cap, cur, rfl, e2, (hk g (Array.getElem?_eq_some_iff.1 e3).1 (ha g rfl)).trans e3, e4⟩

theorem OM.lt {base : Nat} {l : List Mv} {v : Value} {w : World} (h : OM base l v w) {b : Nat} (hb : v.ownBlock = some b) : b < w.heap.size := by
  obtain ⟨_, cs, hc⟩ := OwnB.at h hb
  exact hc.lt

def stillB (n f : Nat) : Bool := lineP (mk n fun j => (j : Int)) 99 == some [] && match lineP (mk n fun _ => (f : Int)) 99 with
  | some b => b.length + 1 == n && (List.range n).all fun i => runM b id (i : Int) == (f : Int)
  | none => false

theorem still_all : ((List.range 17).all fun n => (List.range n).all fun f => stillB n f) = true := by decide +kernel

theorem still_is (n f : Nat) (hn : n ≤ 16) (hf : f < n) : lineP (mk n fun j => (j : Int)) 99 = some [] ∧ ∃ b, lineP (mk n fun _ => (f : Int)) 99 = some b ∧ b.length + 1 = n ∧ ∀ i, i < n → runM b id (i : Int) = (f : Int) := by
  have h := List.all_eq_true.1 (List.all_eq_true.1 still_all n (by simp; omega)) f (by simpa using hf)
  unfold stillB at h
  rw [Bool.and_eq_true] at h
  refine ⟨by simpa using h.1, ?_⟩
  have h2 := h.2
  cases e : lineP (mk n fun _ => (f : Int)) 99 with
  | none => rw [e] at h2; cases h2
  | some b =>
    rw [e] at h2
    simp at h2
    exact ⟨b, rfl, h2.1, h2.2⟩

def gC (n : Nat) (o : Bool) (i : Nat) : Int := if o && (i + 1 == n) then 50 else (((i + 1) % n : Nat) : Int)

def circB (n : Nat) (o : Bool) : Bool := match lineP (mk n (gC n o)) 99 with
  | some b => b.length == (if o then n else n + 1) && (List.range n).all fun i => runM b id (i : Int) == gC n o i
  | none => false

theorem circ_all : ((List.range 16).all fun n => circB (n + 2) true && circB (n + 2) false) = true := by decide +kernel

theorem circ_is (n : Nat) (o : Bool) (hn : n ≤ 15) : ∃ b, lineP (mk (n + 2) (gC (n + 2) o)) 99 = some b ∧ b.length = (if o then n + 2 else n + 2 + 1) ∧ ∀ i, i < n + 2 → runM b id (i : Int) = gC (n + 2) o i := by
  have h := List.all_eq_true.1 circ_all n (by simp; omega)
  rw [Bool.and_eq_true] at h
  have h2 : circB (n + 2) o = true := by cases o; exact h.2; exact h.1
  unfold circB at h2
  cases e : lineP (mk (n + 2) (gC (n + 2) o)) 99 with
  | none => rw [e] at h2; cases h2
  | some b =>
    rw [e] at h2
    simp at h2
    exact ⟨b, rfl, h2.1, h2.2⟩
end Go.Proofs.Ytoagebclnaggjaa
