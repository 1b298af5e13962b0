/-
  Proved: what insn's pieces answers: where the bits of a form's number stand.
-/
import Derived.Test.YtcdeckbobabdkaaIform
namespace Go.Proofs.Ytcdeckbobabdkaa
open Go.RowKit
set_option linter.unusedVariables false
set_option linter.unusedSimpArgs false

/-- A piece of a number: where it stands in a word, the number's bit that it begins with, how many bits. -/
structure Pc where
  at_ : Nat
  fr : Nat
  m : Nat

def PL : List Pc := [⟨12, 0, 20⟩, ⟨31, 20, 1⟩, ⟨21, 1, 10⟩, ⟨20, 11, 1⟩, ⟨12, 12, 8⟩, ⟨20, 0, 12⟩, ⟨20, 0, 5⟩, ⟨31, 12, 1⟩, ⟨25, 5, 6⟩, ⟨8, 1, 4⟩, ⟨7, 11, 1⟩, ⟨25, 5, 7⟩, ⟨7, 0, 5⟩]

def pcs (l : List Pc) : List Value := l.flatMap fun p => [.int .u8 p.at_, .int .u8 p.fr, .int .u8 p.m]

/-- Pieces lie in memory. -/
def PcIn (w : World) (b o : Nat) (l : List Pc) : Prop :=
  b < w.heap.size ∧ ∀ k p, l[k]? = some p → w.cell? ⟨b, o + k * 3, none⟩ = some (.int .u8 p.at_) ∧ w.cell? ⟨b, o + k * 3 + 1, none⟩ = some (.int .u8 p.fr) ∧ w.cell? ⟨b, o + k * 3 + 2, none⟩ = some (.int .u8 p.m)

theorem PcIn.below {w w' : World} {b o : Nat} {l : List Pc} (h : PcIn w b o l) (k : Below w.heap.size w w') : PcIn w' b o l :=
  ⟨Nat.lt_of_lt_of_le h.1 k.size, fun j p hj => by
    obtain ⟨h1, h2, h3⟩ := h.2 j p hj
    exact ⟨(k.cell (p := ⟨b, _, none⟩) h.1).trans h1, (k.cell (p := ⟨b, _, none⟩) h.1).trans h2, (k.cell (p := ⟨b, _, none⟩) h.1).trans h3⟩⟩

/-- The pieces from f on, ahead of l. -/
def cutP (f l : Nat) : List Pc := (PL.take l).drop f

theorem cutP_len {f l : Nat} (h1 : f ≤ l) (h2 : l ≤ 13) : (cutP f l).length = l - f := by
  simp only [cutP, List.length_drop, List.length_take]
  rw [show PL.length = 13 from rfl]
  omega

theorem cutP_in {w : World} {b : Nat} {f l : Nat} {t : TypeId} (h : At w b (pcs PL).toArray t) : PcIn w b (f * 3) (cutP f l) := by
  refine ⟨(Array.getElem?_eq_some_iff.1 h).1, fun k p hk => ?_⟩
  have hk2 : PL[f + k]? = some p := by
    unfold cutP at hk
    rw [List.getElem?_drop, List.getElem?_take] at hk
    split at hk
    · exact hk
    · cases hk
  have hc : ∀ j : Fin 13, (pcs PL)[j.val * 3]? = (PL[j.val]?).map (fun p => Value.int .u8 p.at_) ∧ (pcs PL)[j.val * 3 + 1]? = (PL[j.val]?).map (fun p => Value.int .u8 p.fr) ∧ (pcs PL)[j.val * 3 + 2]? = (PL[j.val]?).map (fun p => Value.int .u8 p.m) := by
    intro j
    have hj : j.val < 13 := j.isLt
    have h13 : j.val = 0 ∨ j.val = 1 ∨ j.val = 2 ∨ j.val = 3 ∨ j.val = 4 ∨ j.val = 5 ∨ j.val = 6 ∨ j.val = 7 ∨ j.val = 8 ∨ j.val = 9 ∨ j.val = 10 ∨ j.val = 11 ∨ j.val = 12 := by omega
    rcases h13 with e | e | e | e | e | e | e | e | e | e | e | e | e <;> rw [e] <;> exact ⟨rfl, rfl, rfl⟩
  have hlt : f + k < 13 := by
    rcases Nat.lt_or_ge (f + k) 13 with q | q
    · exact q
    · rw [List.getElem?_eq_none (by rw [show PL.length = 13 from rfl]; omega)] at hk2; cases hk2
  obtain ⟨c1, c2, c3⟩ := hc ⟨f + k, hlt⟩
  simp only [hk2, Option.map_some] at c1 c2 c3
  have g : ∀ j v, (pcs PL)[j]? = some v → w.cell? ⟨b, j, none⟩ = some v := fun j v hj => by rw [h.cell j]; simpa using hj
  rw [show f * 3 + k * 3 = (f + k) * 3 by omega]
  exact ⟨g _ _ c1, g _ _ c2, g _ _ c3⟩

theorem below_alloc2 (w : World) (A B : Obj) : Below w.heap.size w ((w.alloc A).alloc B) := (below_alloc w A).alloc (by have := (below_alloc w A).size; omega) B

theorem size_alloc (w : World) (o : Obj) : (w.alloc o).heap.size = w.heap.size + 1 := by show (w.heap.push o).size = _; simp

set_option maxHeartbeats 1000000 in
theorem pieces_c (f l : Nat) (b1 b2 b3 lo hi st : Value) (h1 : f ≤ l) (h2 : l ≤ 13) (w : World) :
    Calls Try.prog 38 #[.agg #[b1, b2, b3, lo, hi, st, .int .i64 f, .int .i64 l]] w fun e w' =>
      ∃ b o, e = .returned (.slice (some ⟨b, o, none⟩) (l - f) (l - f)) ∧ PcIn w' b o (cutP f l) ∧ Below w.heap.size w w' := by
  by_cases hlf : l = f
  · subst hlf
    go_enter Try.func38, Try.ntmps38
    go_wp2
    go_ret
    refine ⟨w.heap.size + 1, 0, by rw [Nat.sub_self]; rfl, ⟨At.lt (t := 92) (At.newS _ (pcs PL).toArray _ (size_alloc _ _)), fun k p hk => ?_⟩, below_alloc2 _ _ _⟩
    have hn : (cutP l l)[k]? = none := List.getElem?_eq_none (by rw [cutP_len (Nat.le_refl _) h2]; omega)
    rw [hn] at hk
    cases hk
  · go_enter Try.func38, Try.ntmps38
    go_wp2
    go_ret
    exact ⟨w.heap.size + 1, f * 3, rfl, cutP_in (t := 92) (At.newS _ (pcs PL).toArray _ (size_alloc _ _)), below_alloc2 _ _ _⟩
end Go.Proofs.Ytcdeckbobabdkaa
