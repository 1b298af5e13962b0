/-
  Proved: what lex's small functions on one byte answer, and how far pastWhile goes.
-/
import Derived.Test.YtbfelkcaakpdiaaDoorSpec
import Derived.WalkKit
import Derived.BigQuiet
import Derived.Deep.QuietTactic
namespace Go.Proofs.YtbfelkcaakpdiaaDoor
open Go.RowKit

theorem BA.below {w w' : World} {b o : Nat} {l : Bs} (h : BA w b o l) (k : Below w.heap.size w w') : BA w' b o l :=
  ⟨Nat.lt_of_lt_of_le h.lt k.size, fun i hi => (k.cell (p := ⟨b, o + i, none⟩) h.lt).trans (h.cell i hi)⟩

theorem isBlank_c (c : UInt8) (w : World) :
    Calls Tryd.prog 41 #[.int .u8 (c.toNat : Int)] w fun e w' => e = .returned (.bool (isBl c)) ∧ w' = w := by
  unfold isBl
  generalize (c.toNat : Int) = n
  go_enter Tryd.func41, Tryd.ntmps41
  go_wp2
  all_goals go_ret
  all_goals (refine ⟨?_, rfl⟩; first | rfl | (simp only [Ending.returned.injEq, Array.getD_eq_getD_getElem?]; simp; omega) | (by_cases h1 : 97 ≤ n <;> by_cases h2 : n ≤ 122 <;> by_cases h3 : 65 ≤ n <;> by_cases h4 : n ≤ 90 <;> by_cases h5 : n = 95 <;> first | omega | simp [h1, h2, h3, h4, h5]))

theorem inLine_c (c : UInt8) (w : World) :
    Calls Tryd.prog 43 #[.int .u8 (c.toNat : Int)] w fun e w' => e = .returned (.bool (isLn c)) ∧ w' = w := by
  unfold isLn
  generalize (c.toNat : Int) = n
  go_enter Tryd.func43, Tryd.ntmps43
  go_wp2
  all_goals go_ret
  all_goals (refine ⟨?_, rfl⟩; first | rfl | (simp only [Ending.returned.injEq, Array.getD_eq_getD_getElem?]; simp; omega) | (by_cases h1 : 97 ≤ n <;> by_cases h2 : n ≤ 122 <;> by_cases h3 : 65 ≤ n <;> by_cases h4 : n ≤ 90 <;> by_cases h5 : n = 95 <;> first | omega | simp [h1, h2, h3, h4, h5]))

theorem beginsName_c (c : UInt8) (w : World) :
    Calls Tryd.prog 32 #[.int .u8 (c.toNat : Int)] w fun e w' => e = .returned (.bool (isLet c)) ∧ w' = w := by
  unfold isLet
  generalize (c.toNat : Int) = n
  go_enter Tryd.func32, Tryd.ntmps32
  go_wp2
  all_goals go_ret
  all_goals (refine ⟨?_, rfl⟩; first | rfl | (simp only [Ending.returned.injEq, Array.getD_eq_getD_getElem?]; simp; omega) | (by_cases h1 : 97 ≤ n <;> by_cases h2 : n ≤ 122 <;> by_cases h3 : 65 ≤ n <;> by_cases h4 : n ≤ 90 <;> by_cases h5 : n = 95 <;> first | omega | simp [h1, h2, h3, h4, h5]))

theorem isDigit_c (c : UInt8) (w : World) :
    Calls Tryd.prog 24 #[.int .u8 (c.toNat : Int)] w fun e w' => e = .returned (.bool (isDig c)) ∧ w' = w := by
  unfold isDig
  generalize (c.toNat : Int) = n
  go_enter Tryd.func24, Tryd.ntmps24
  go_wp2
  all_goals go_ret
  all_goals (refine ⟨?_, rfl⟩; first | rfl | (simp only [Ending.returned.injEq, Array.getD_eq_getD_getElem?]; simp; omega) | (by_cases h1 : 97 ≤ n <;> by_cases h2 : n ≤ 122 <;> by_cases h3 : 65 ≤ n <;> by_cases h4 : n ≤ 90 <;> by_cases h5 : n = 95 <;> first | omega | simp [h1, h2, h3, h4, h5]))

theorem goesOn_c (c : UInt8) (w : World) :
    Calls Tryd.prog 30 #[.int .u8 (c.toNat : Int)] w fun e w' => e = .returned (.bool (isOn c)) ∧ w' = w := by
  go_enter Tryd.func30, Tryd.ntmps30
  go_wp2_with (first
    | (go_at_call 32; refine (beginsName_c c _).mono ?_; rintro e w' ⟨rfl, rfl⟩)
    | (go_at_call 24; refine (isDigit_c c _).mono ?_; rintro e w' ⟨rfl, rfl⟩)
    | go_in)
  all_goals go_ret
  all_goals simp_all [isOn]

theorem run_drop (p : UInt8 → Bool) (l : Bs) (k : Nat) (h : k < l.length) : run p (l.drop k) = if p l[k] then run p (l.drop (k + 1)) + 1 else 0 := by
  rw [List.drop_eq_getElem_cons h]; rfl

theorem run_end (p : UInt8 → Bool) (l : Bs) (k : Nat) (h : l.length ≤ k) : run p (l.drop k) = 0 := by
  rw [List.drop_eq_nil_of_le h]; rfl

theorem byte_at {w : World} {b o : Nat} {l : Bs} (hb : BA w b o l) (k : Nat) : ∃ c : UInt8, (k < l.length → w.cell? ⟨b, o + k, none⟩ = some (.int .u8 (c.toNat : Int))) ∧ ∀ h : k < l.length, l[k] = c := by
  by_cases h : k < l.length
  · exact ⟨l[k], fun _ => hb.cell k h, fun _ => rfl⟩
  · exact ⟨0, fun h' => absurd h' h, fun h' => absurd h' h⟩

theorem pastDigit (b o cap n : Nat) (l : Bs) (w : World) (hb : BA w b o l) (hn : n ≤ l.length) (hm : l.length < 4611686018427387904) :
    Calls Tryd.prog 23 #[.slice (some ⟨b, o, none⟩) l.length cap, .int .i64 n, .func (.func 24) #[] #[]] w fun e w' => e = .returned (.int .i64 ((n + run isDig (l.drop n) : Nat) : Int)) ∧ w' = w := by
  have B : Hid (BA w b o l) := hb
  clear hb
  generalize hR : n + run isDig (l.drop n) = R
  go_enter Tryd.func23, Tryd.ntmps23
  go_wp2
  go_loop [1] (fun i => ∃ k : Nat, k ≤ l.length ∧ i = .int .i64 (k : Int) ∧ k + run isDig (l.drop k) = R) (fun i => l.length - (intOf i).toNat)
  case atStart => exact ⟨n, hn, rfl, hR⟩
  case round =>
    obtain ⟨k, hk, rfl, hr⟩ := hrel
    obtain ⟨c, hc, hl⟩ := byte_at B.out k
    have L : Hid (∀ h : k < l.length, l[k] = c) := hl
    have HR : Hid (k + run isDig (l.drop k) = R) := hr
    clear hl hr hR
    go_wp2_with (first
      | (go_at_call 24; refine (isDigit_c c _).mono ?_; rintro e w' ⟨rfl, rfl⟩)
      | go_in)
    · have hk' : k < l.length := by assumption
      have hp : isDig c = true := by assumption
      go_round
      case rel =>
        refine ⟨k + 1, by omega, by go_num, ?_⟩
        have h1 := HR.out
        rw [run_drop _ _ _ hk', L.out hk', if_pos hp] at h1
        omega
      case measure => simp [intOf]; omega
    · have hk' : k < l.length := by assumption
      have hp : isDig c = false := by assumption
      have h1 := HR.out
      rw [run_drop _ _ _ hk', L.out hk', hp] at h1
      simp at h1
      subst h1
      go_ret
      exact ⟨rfl, rfl⟩
    · have hk' : ¬ k < l.length := by assumption
      have h1 := HR.out
      rw [run_end _ _ _ (by omega)] at h1
      simp at h1
      subst h1
      go_ret
      exact ⟨rfl, rfl⟩

theorem pastOn (b o cap n : Nat) (l : Bs) (w : World) (hb : BA w b o l) (hn : n ≤ l.length) (hm : l.length < 4611686018427387904) :
    Calls Tryd.prog 23 #[.slice (some ⟨b, o, none⟩) l.length cap, .int .i64 n, .func (.func 30) #[] #[]] w fun e w' => e = .returned (.int .i64 ((n + run isOn (l.drop n) : Nat) : Int)) ∧ w' = w := by
  have B : Hid (BA w b o l) := hb
  clear hb
  generalize hR : n + run isOn (l.drop n) = R
  go_enter Tryd.func23, Tryd.ntmps23
  go_wp2
  go_loop [1] (fun i => ∃ k : Nat, k ≤ l.length ∧ i = .int .i64 (k : Int) ∧ k + run isOn (l.drop k) = R) (fun i => l.length - (intOf i).toNat)
  case atStart => exact ⟨n, hn, rfl, hR⟩
  case round =>
    obtain ⟨k, hk, rfl, hr⟩ := hrel
    obtain ⟨c, hc, hl⟩ := byte_at B.out k
    have L : Hid (∀ h : k < l.length, l[k] = c) := hl
    have HR : Hid (k + run isOn (l.drop k) = R) := hr
    clear hl hr hR
    go_wp2_with (first
      | (go_at_call 30; refine (goesOn_c c _).mono ?_; rintro e w' ⟨rfl, rfl⟩)
      | go_in)
    · have hk' : k < l.length := by assumption
      have hp : isOn c = true := by assumption
      go_round
      case rel =>
        refine ⟨k + 1, by omega, by go_num, ?_⟩
        have h1 := HR.out
        rw [run_drop _ _ _ hk', L.out hk', if_pos hp] at h1
        omega
      case measure => simp [intOf]; omega
    · have hk' : k < l.length := by assumption
      have hp : isOn c = false := by assumption
      have h1 := HR.out
      rw [run_drop _ _ _ hk', L.out hk', hp] at h1
      simp at h1
      subst h1
      go_ret
      exact ⟨rfl, rfl⟩
    · have hk' : ¬ k < l.length := by assumption
      have h1 := HR.out
      rw [run_end _ _ _ (by omega)] at h1
      simp at h1
      subst h1
      go_ret
      exact ⟨rfl, rfl⟩

theorem pastLine (b o cap n : Nat) (l : Bs) (w : World) (hb : BA w b o l) (hn : n ≤ l.length) (hm : l.length < 4611686018427387904) :
    Calls Tryd.prog 23 #[.slice (some ⟨b, o, none⟩) l.length cap, .int .i64 n, .func (.func 43) #[] #[]] w fun e w' => e = .returned (.int .i64 ((n + run isLn (l.drop n) : Nat) : Int)) ∧ w' = w := by
  have B : Hid (BA w b o l) := hb
  clear hb
  generalize hR : n + run isLn (l.drop n) = R
  go_enter Tryd.func23, Tryd.ntmps23
  go_wp2
  go_loop [1] (fun i => ∃ k : Nat, k ≤ l.length ∧ i = .int .i64 (k : Int) ∧ k + run isLn (l.drop k) = R) (fun i => l.length - (intOf i).toNat)
  case atStart => exact ⟨n, hn, rfl, hR⟩
  case round =>
    obtain ⟨k, hk, rfl, hr⟩ := hrel
    obtain ⟨c, hc, hl⟩ := byte_at B.out k
    have L : Hid (∀ h : k < l.length, l[k] = c) := hl
    have HR : Hid (k + run isLn (l.drop k) = R) := hr
    clear hl hr hR
    go_wp2_with (first
      | (go_at_call 43; refine (inLine_c c _).mono ?_; rintro e w' ⟨rfl, rfl⟩)
      | go_in)
    · have hk' : k < l.length := by assumption
      have hp : isLn c = true := by assumption
      go_round
      case rel =>
        refine ⟨k + 1, by omega, by go_num, ?_⟩
        have h1 := HR.out
        rw [run_drop _ _ _ hk', L.out hk', if_pos hp] at h1
        omega
      case measure => simp [intOf]; omega
    · have hk' : k < l.length := by assumption
      have hp : isLn c = false := by assumption
      have h1 := HR.out
      rw [run_drop _ _ _ hk', L.out hk', hp] at h1
      simp at h1
      subst h1
      go_ret
      exact ⟨rfl, rfl⟩
    · have hk' : ¬ k < l.length := by assumption
      have h1 := HR.out
      rw [run_end _ _ _ (by omega)] at h1
      simp at h1
      subst h1
      go_ret
      exact ⟨rfl, rfl⟩

end Go.Proofs.YtbfelkcaakpdiaaDoor
