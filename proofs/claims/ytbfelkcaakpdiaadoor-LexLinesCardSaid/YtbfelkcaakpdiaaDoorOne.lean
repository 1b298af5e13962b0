/-
  Proved: what one token's lexing leaves in memory; the words and letters of the law LexWords, case by case.
-/
import Derived.Test.YtbfelkcaakpdiaaDoorLexC
namespace Go.Proofs.YtbfelkcaakpdiaaDoor
open Go.RowKit

theorem one_row {w : World} {base kd p : Nat} {s : Bs} {v : Value} (h : w.ownsRow base 37 3 v 1 (cellsT [(kd, s, p)])) :
    ∃ g cap, v = .slice (some ⟨g, 0, none⟩) 1 cap ∧ g < w.heap.size ∧ w.cell? ⟨g, 0, none⟩ = some (.int .i64 (kd : Int)) ∧ w.cell? ⟨g, 1, none⟩ = some (.string (ofL s)) ∧ w.cell? ⟨g, 2, none⟩ = some (.int .i64 (p : Int)) := by
  obtain ⟨h1, h2⟩ := h
  rcases h2 with ⟨_, h2⟩ | ⟨g, cap, cur, rfl, e2, e3, e4, e5, e6, e7⟩
  · cases h2
  · refine ⟨g, cap, rfl, (Array.getElem?_eq_some_iff.1 e3).1, ?_, ?_, ?_⟩
    · rw [cell_in e3, ← Array.getElem?_toList, ← List.getElem?_take_of_lt (show 0 < 1 * 3 by omega), e7]; rfl
    · rw [cell_in e3, ← Array.getElem?_toList, ← List.getElem?_take_of_lt (show 1 < 1 * 3 by omega), e7]; rfl
    · rw [cell_in e3, ← Array.getElem?_toList, ← List.getElem?_take_of_lt (show 2 < 1 * 3 by omega), e7]; rfl

theorem lex_one {l s : Bs} {kd p : Nat} (hl : lex l = ([(kd, s, p)], 0, 0)) (hm : l.length < 4611686018427387904) (w : World) (ht : Tab w) :
    Calls Tryd.prog 8 #[.string (ofL l)] w fun e w' => (∃ g cap, e = .returned (.tuple #[.slice (some ⟨g, 0, none⟩) 1 cap, .int .i64 0, .int .i64 0]) ∧ g < w'.heap.size ∧ w'.cell? ⟨g, 0, none⟩ = some (.int .i64 (kd : Int)) ∧ w'.cell? ⟨g, 1, none⟩ = some (.string (ofL s)) ∧ w'.cell? ⟨g, 2, none⟩ = some (.int .i64 (p : Int))) ∧ Below w.heap.size w w' := by
  have := lex_c l w ht hm
  rw [hl] at this
  refine this.mono ?_
  rintro e w' ⟨⟨v, rfl, ho⟩, hb⟩
  obtain ⟨g, cap, rfl, h1, h2, h3, h4⟩ := one_row ho
  exact ⟨⟨g, cap, rfl, h1, h2, h3, h4⟩, hb⟩

def lettersL : Bs := [97, 98, 99, 120, 121, 122, 65, 66, 67, 95, 48, 49, 57]

def wordsCheck (wd : Bs) (c : UInt8) : Bool := decide (lex wd = ([(3, wd, 0)], 0, 0)) && decide (lex (wd ++ [c]) = ([((if isWord (wd ++ [c]) then 3 else 1), wd ++ [c], 0)], 0, 0)) && isWord wd && decide ((wd ++ [c]).length < 20)

theorem words_all : (wordsL.all fun wd => lettersL.all fun c => wordsCheck wd c) = true := by kernel_rfl

theorem words_facts (wd : Bs) (h : wd ∈ wordsL) (c : UInt8) (hc : c ∈ lettersL) : lex wd = ([(3, wd, 0)], 0, 0) ∧ lex (wd ++ [c]) = ([((if isWord (wd ++ [c]) then 3 else 1), wd ++ [c], 0)], 0, 0) ∧ isWord wd = true ∧ (wd ++ [c]).length < 20 := by
  have h1 := List.all_eq_true.1 (List.all_eq_true.1 words_all wd h) c hc
  simp only [wordsCheck, Bool.and_eq_true, decide_eq_true_eq] at h1
  exact ⟨h1.1.1.1, h1.1.1.2, h1.1.2, h1.2⟩

theorem ofL_app (a b : Bs) : ofL a ++ ofL b = ofL (a ++ b) := by
  apply ByteArray.ext
  simp [ofL]

def wordsC : Array Value := (wordsL.map fun s => Value.string (ofL s)).toArray
theorem wordsC_at (i : Nat) (h : i < 17) : wordsC[i]? = some (.string (ofL (wordsL.getD i []))) := by
  have : wordsC[i]? = (wordsL.map fun s => Value.string (ofL s))[i]? := by simp [wordsC]
  rw [this, List.getElem?_map, List.getElem?_eq_getElem (show i < wordsL.length from h), List.getD_eq_getElem?_getD, List.getElem?_eq_getElem (show i < wordsL.length from h)]
  rfl

theorem one_byte (w : World) (o : Obj) (c : UInt8) : (convert 39 9 (.slice (some ⟨w.heap.size + 1, 0, none⟩) 1 1)).run Tryd.prog ((w.alloc o).alloc (.cells #[.int .u8 (c.toNat : Int)] 5)) = .ok (.string (ofL [c])) ((w.alloc o).alloc (.cells #[.int .u8 (c.toNat : Int)] 5)) := by
  have e : (w.alloc o).heap.size = w.heap.size + 1 := by simp
  have hb : BA ((w.alloc o).alloc (.cells #[.int .u8 (c.toNat : Int)] 5)) (w.heap.size + 1) 0 [c] := by
    refine ⟨by simp, fun i hi => ?_⟩
    rw [← e]
    match i, hi with
    | 0, _ => simp
  exact conv hb 1

theorem wrap64_of {x : Int} (h1 : -9223372036854775808 ≤ x) (h2 : x ≤ 9223372036854775807) : wrap64 x = x := by
  simp only [wrap64]
  omega

theorem idx17 (a : Int) : ∃ j : Nat, j < 17 ∧ (wrap64 (a.tmod 17 + 17)).tmod 17 = (j : Int) := by
  have h1 := Int.tmod_lt_of_pos a (show (0 : Int) < 17 by decide)
  have h2 := Int.lt_tmod_of_pos a (show (0 : Int) < 17 by decide)
  have e : wrap64 (a.tmod 17 + 17) = a.tmod 17 + 17 := wrap64_of (by omega) (by omega)
  rw [e, Int.tmod_eq_emod_of_nonneg (by omega)]
  exact ⟨((a.tmod 17 + 17) % 17).toNat, by omega, by omega⟩

theorem idx13 (a : Int) (h : (Lit.int .u8 a).wf = true) : ∃ j : Nat, j < 13 ∧ (wrap64 a).tmod 13 = (j : Int) := by
  have hr : 0 ≤ a ∧ a < 256 := by
    simp [Lit.wf] at h
    have e1 : IntKind.u8.min = 0 := rfl
    have e2 : IntKind.u8.max = 255 := rfl
    omega
  have e : wrap64 a = a := wrap64_of (by omega) (by omega)
  rw [e, Int.tmod_eq_emod_of_nonneg (by omega)]
  exact ⟨(a % 13).toNat, by omega, by omega⟩
end Go.Proofs.YtbfelkcaakpdiaaDoor
