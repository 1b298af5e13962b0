/-
  Proved: lex.tokenAt answers as the definition 'tok' says, at every place of any source.
-/
import Derived.Test.YtbfelkcaakpdiaaDoorToken
namespace Go.Proofs.YtbfelkcaakpdiaaDoor
open Go.RowKit

theorem numA_err (l : Bs) : ((num l).isNone = true ∧ (numA l).2.2 = 21) ∨ ((num l).isNone = false ∧ (numA l).2.2 = 0) := by
  unfold numA
  cases num l <;> simp

theorem run_pos {p : UInt8 → Bool} {l : Bs} {n : Nat} (h : n < l.length) (hp : p l[n] = true) : 0 < run p (l.drop n) := by
  rw [run_drop _ _ _ h, if_pos hp]; omega

theorem tok_name {l : Bs} {n : Nat} (h : n < l.length) (hl : isLet l[n] = true) : tok (l.drop n) = if 40 < run isOn (l.drop n) then (20, 0, run isOn (l.drop n)) else (0, (if isWord ((l.drop n).take (run isOn (l.drop n))) then 3 else 1), run isOn (l.drop n)) := by
  have e := List.drop_eq_getElem_cons h
  unfold tok
  split
  · rename_i e2; rw [e] at e2; cases e2
  · rename_i c r e2
    have : c = l[n] := by rw [e] at e2; cases e2; rfl
    rw [this, if_pos hl]

theorem tok_int {l : Bs} {n : Nat} (h : n < l.length) (hl : isLet l[n] = false) (hd : isDig l[n] = true) : tok (l.drop n) = if (numA ((l.drop n).take (run isOn (l.drop n)))).2.2 = 0 then (0, 2, run isOn (l.drop n)) else (21, 0, run isOn (l.drop n)) := by
  have e := List.drop_eq_getElem_cons h
  unfold tok
  split
  · rename_i e2; rw [e] at e2; cases e2
  · rename_i c r e2
    have : c = l[n] := by rw [e] at e2; cases e2; rfl
    rw [this, hl, hd]
    simp only [Bool.false_eq_true, if_false, if_true]
    unfold numA
    cases num (List.take (run isOn (List.drop n l)) (List.drop n l)) <;> simp

theorem tok_sign {l : Bs} {n : Nat} (h : n < l.length) (hl : isLet l[n] = false) (hd : isDig l[n] = false) : tok (l.drop n) = if 0 < signLen (l.drop n) then (0, 4, signLen (l.drop n)) else (20, 0, 0) := by
  have e := List.drop_eq_getElem_cons h
  unfold tok
  split
  · rename_i e2; rw [e] at e2; cases e2
  · rename_i c r e2
    have : c = l[n] := by rw [e] at e2; cases e2; rfl
    rw [this, hl, hd]
    simp only [Bool.false_eq_true, if_false]

theorem isOn_let {c : UInt8} (h : isLet c = true) : isOn c = true := by simp [isOn, h]
theorem isOn_dig {c : UInt8} (h : isDig c = true) : isOn c = true := by simp [isOn, h]

theorem tokenAt_c {w : World} {B sb cap : Nat} {l : Bs} (h : Env w B sb cap l) (n : Nat) (hn : n < l.length) :
    Calls Tryd.prog 18 #[.slice (some ⟨sb, 0, none⟩) l.length cap, .slice (some ⟨B + 3, 0, none⟩) 3 3, .int .i64 (n : Int)] w fun e w' =>
      (∃ (kv : Int) (tv : ByteArray) (av : Int), e = .returned (.tuple #[.agg #[.int .i64 kv, .string tv, .int .i64 av], .int .i64 ((tok (l.drop n)).1 : Int)]) ∧
        ((tok (l.drop n)).1 = 0 → kv = ((tok (l.drop n)).2.1 : Int) ∧ tv = ofL ((l.drop n).take (tok (l.drop n)).2.2) ∧ av = (n : Int))) ∧ Below w.heap.size w w' := by
  by_cases hl : isLet l[n] = true
  · rw [tok_name hn hl]
    refine (tokenAt_name h n _ hn hl rfl (run_pos hn (isOn_let hl))).mono ?_
    rintro e w' ⟨rfl, hw⟩
    by_cases h40 : 40 < run isOn (l.drop n)
    · simp only [if_pos h40]
      exact ⟨⟨_, _, _, rfl, fun h => absurd h (by decide)⟩, hw⟩
    · simp only [if_neg h40]
      cases isWord (List.take (run isOn (List.drop n l)) (List.drop n l))
      · exact ⟨⟨_, _, _, rfl, fun _ => ⟨rfl, rfl, rfl⟩⟩, hw⟩
      · exact ⟨⟨_, _, _, rfl, fun _ => ⟨rfl, rfl, rfl⟩⟩, hw⟩
  · have hl' : isLet l[n] = false := by simpa using hl
    by_cases hd : isDig l[n] = true
    · rw [tok_int hn hl' hd]
      refine (tokenAt_int h n _ hn hl' hd rfl (run_pos hn (isOn_dig hd)) _ rfl).mono ?_
      rintro e w' ⟨rfl, hw⟩
      rcases numA_err ((l.drop n).take (run isOn (l.drop n))) with ⟨_, h2⟩ | ⟨_, h2⟩
      · rw [h2]
        exact ⟨⟨_, _, _, rfl, fun h => absurd h (by simp)⟩, hw⟩
      · rw [h2]
        exact ⟨⟨_, _, _, rfl, fun _ => ⟨rfl, rfl, rfl⟩⟩, hw⟩
    · have hd' : isDig l[n] = false := by simpa using hd
      rw [tok_sign hn hl' hd']
      by_cases hs : 0 < signLen (l.drop n)
      · rw [if_pos hs]
        refine (tokenAt_sign h n _ hn hl' hd' rfl hs).mono ?_
        rintro e w' ⟨rfl, hw⟩
        exact ⟨⟨_, _, _, rfl, fun _ => ⟨rfl, rfl, rfl⟩⟩, hw⟩
      · rw [if_neg hs]
        refine (tokenAt_none h n hn hl' hd' (by omega)).mono ?_
        rintro e w' ⟨rfl, hw⟩
        exact ⟨⟨_, _, _, rfl, fun h => absurd h (by decide)⟩, hw⟩
end Go.Proofs.YtbfelkcaakpdiaaDoor
