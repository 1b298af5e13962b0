/-
  Proved: what the lexing of many tokens, or of none, leaves in memory.
-/
import Derived.Test.YtbfelkcaakpdiaaDoorLexC
import Derived.Test.YtbfelkcaakpdiaaDoorParts
namespace Go.Proofs.YtbfelkcaakpdiaaDoor
open Go.RowKit

theorem cellsT_get : ∀ (ts : List Tok) (i : Nat) (t : Tok), ts[i]? = some t → (cellsT ts)[i * 3]? = some (.int .i64 (t.1 : Int)) ∧ (cellsT ts)[i * 3 + 1]? = some (.string (ofL t.2.1)) ∧ (cellsT ts)[i * 3 + 2]? = some (.int .i64 (t.2.2 : Int))
  | [], _, _, h => by simp at h
  | u :: r, 0, t, h => by
    simp at h
    subst h
    exact ⟨rfl, rfl, rfl⟩
  | u :: r, i + 1, t, h => by
    have := cellsT_get r i t (by simpa using h)
    have e : (i + 1) * 3 = i * 3 + 1 + 1 + 1 := by omega
    rw [e]
    simpa [cellsT] using this

/-- Tokens lie in block g. -/
structure TR (w : World) (g : Nat) (ts : List Tok) : Prop where
  lt : g < w.heap.size
  cell : ∀ i t, ts[i]? = some t → w.cell? ⟨g, i * 3, none⟩ = some (.int .i64 (t.1 : Int)) ∧ w.cell? ⟨g, i * 3 + 1, none⟩ = some (.string (ofL t.2.1)) ∧ w.cell? ⟨g, i * 3 + 2, none⟩ = some (.int .i64 (t.2.2 : Int))

theorem TR.below {w w' : World} {g : Nat} {ts : List Tok} (h : TR w g ts) (k : Below w.heap.size w w') : TR w' g ts :=
  ⟨Nat.lt_of_lt_of_le h.lt k.size, fun i t ht => by
    have h1 := h.cell i t ht
    rw [k.cell (p := ⟨g, i * 3, none⟩) h.lt, k.cell (p := ⟨g, i * 3 + 1, none⟩) h.lt, k.cell (p := ⟨g, i * 3 + 2, none⟩) h.lt]
    exact h1⟩

theorem many_row {w : World} {base : Nat} {ts : List Tok} {v : Value} (h : w.ownsRow base 37 3 v ts.length (cellsT ts)) :
    ∃ a cap, v = .slice a ts.length cap ∧ (0 < ts.length → ∃ g, a = some ⟨g, 0, none⟩ ∧ TR w g ts) := by
  obtain ⟨h1, h2⟩ := h
  rcases h2 with ⟨rfl, h2⟩ | ⟨g, cap, cur, rfl, e2, e3, e4, e5, e6, e7⟩
  · exact ⟨none, 0, by rw [h2], fun h => by omega⟩
  · refine ⟨_, cap, rfl, fun _ => ⟨g, rfl, (Array.getElem?_eq_some_iff.1 e3).1, fun i t ht => ?_⟩⟩
    have hi : i < ts.length := by
      have := (List.getElem?_eq_some_iff.1 ht).1
      exact this
    obtain ⟨k1, k2, k3⟩ := cellsT_get ts i t ht
    refine ⟨?_, ?_, ?_⟩
    · rw [cell_in e3, ← Array.getElem?_toList, ← List.getElem?_take_of_lt (show i * 3 < ts.length * 3 by omega), e7, k1]
    · rw [cell_in e3, ← Array.getElem?_toList, ← List.getElem?_take_of_lt (show i * 3 + 1 < ts.length * 3 by omega), e7, k2]
    · rw [cell_in e3, ← Array.getElem?_toList, ← List.getElem?_take_of_lt (show i * 3 + 2 < ts.length * 3 by omega), e7, k3]

theorem lex_many {l : Bs} {ts : List Tok} {p e : Nat} (hl : lex l = (ts, p, e)) (hm : l.length < 4611686018427387904) (w : World) (ht : Tab w) :
    Calls Tryd.prog 8 #[.string (ofL l)] w fun r w' => (∃ a cap, r = .returned (.tuple #[.slice a ts.length cap, .int .i64 (p : Int), .int .i64 (e : Int)]) ∧ (0 < ts.length → ∃ g, a = some ⟨g, 0, none⟩ ∧ TR w' g ts)) ∧ Below w.heap.size w w' := by
  have := lex_c l w ht hm
  rw [hl] at this
  refine this.mono ?_
  rintro r w' ⟨⟨v, rfl, ho⟩, hb⟩
  obtain ⟨a, cap, rfl, h1⟩ := many_row ho
  exact ⟨⟨a, cap, rfl, h1⟩, hb⟩

theorem lex_none {l : Bs} (hl : lex l = ([], 0, 0)) (hm : l.length < 4611686018427387904) (w : World) (ht : Tab w) :
    Calls Tryd.prog 8 #[.string (ofL l)] w fun r w' => (∃ a cap, r = .returned (.tuple #[.slice a 0 cap, .int .i64 0, .int .i64 0])) ∧ Below w.heap.size w w' := by
  refine (lex_many hl hm w ht).mono ?_
  rintro r w' ⟨⟨a, cap, rfl, _⟩, hb⟩
  exact ⟨⟨a, cap, rfl⟩, hb⟩
end Go.Proofs.YtbfelkcaakpdiaaDoor
