/-
  Proved: the document's own Item tells where the first struct or enum of a name stands.
-/
import Derived.Test.YtjdkoahbahecoaaGreatDoorAddP
namespace Go.Proofs.YtjdkoahbahecoaaGreatDoor
open Go.RowKit

set_option maxHeartbeats 2000000 in
theorem ritem_c (is : List It) (s : ByteArray) (A : Option Addr) (C : Nat) (w : World) (hi : IsIn w is A) :
    Calls Tryz.prog 19 #[.slice A is.length C, .string s] w fun e w' => e = .returned (fstV (fst s is 0)) ∧ Below w.heap.size w w' := by
  generalize hR : fst s is 0 = R
  have hl := hi.1
  have HI : Hid (IsIn w is A) := hi
  have HR : Hid (fst s (is.drop 0) 0 = R) := hR
  clear hi hR
  go_enter Tryz.func19, Tryz.ntmps19
  go_wp2
  go_loopw [5] (fun i wr => ∃ k : Nat, k ≤ is.length ∧ i = .int .i64 (k : Int) ∧ fst s (is.drop k) k = R ∧ Below w.heap.size w wr) (fun i _ => is.length - (intOf i).toNat)
  case atStart => exact ⟨0, Nat.zero_le _, rfl, HR.out, Below.refl _ _⟩
  case round =>
    obtain ⟨k, hk, rfl, hr, hw⟩ := hrel
    have HK : Hid (fst s (is.drop k) k = R) := hr
    have HW : Hid (Below w.heap.size w wr) := hw
    clear hr hw
    by_cases hlt : k < is.length
    · obtain ⟨b, o, P, pc, V, vc, r, rfl, hrow, _, _⟩ := (HI.out.below HW.out).2 k hlt
      have hdr := fst_drop s is k hlt
      generalize is[k] = it at hrow hdr
      obtain ⟨ik, is', ips, ivs⟩ := it
      have c0 := hrow.2 0 _ rfl
      have c1 := hrow.2 1 _ rfl
      simp only [Nat.add_zero] at c0
      have hlt' : (k : Int) < (is.length : Int) := by omega
      have HD : Hid (fst s (is.drop k) k = if is' = s ∧ (ik = 2 ∨ ik = 3) then some k else fst s (is.drop (k + 1)) (k + 1)) := hdr
      clear hdr hrow
      by_cases h2 : ik = 2
      · subst h2
        by_cases hs : is' = s
        · subst hs
          go_wp2
          go_ret
          exact ⟨by have h1 := HK.out; rw [HD.out, if_pos (by simp)] at h1; subst h1; rfl, HW.out⟩
        · obtain ⟨h1, h3⟩ := str_ne hs
          have HS : Hid (¬ is' = s) := hs
          clear hs
          go_wp2
          go_roundw
          case rel => exact ⟨k + 1, by omega, by go_num, by have h1 := HK.out; rw [HD.out, if_neg (fun h => HS.out h.1)] at h1; exact h1, HW.out⟩
          case measure => simp [intOf]; omega
      · have g2 : (ik == 2) = false := by simpa using h2
        by_cases h3 : ik = 3
        · subst h3
          by_cases hs : is' = s
          · subst hs
            go_wp2
            go_ret
            exact ⟨by have h1 := HK.out; rw [HD.out, if_pos (by simp)] at h1; subst h1; rfl, HW.out⟩
          · obtain ⟨h1, h3⟩ := str_ne hs
            have HS : Hid (¬ is' = s) := hs
            clear hs
            go_wp2
            go_roundw
            case rel => exact ⟨k + 1, by omega, by go_num, by have h1 := HK.out; rw [HD.out, if_neg (fun h => HS.out h.1)] at h1; exact h1, HW.out⟩
            case measure => simp [intOf]; omega
        · have g3 : (ik == 3) = false := by simpa using h3
          have HQ : Hid (¬ (ik = 2 ∨ ik = 3)) := fun h => h.elim h2 h3
          go_wp2
          go_roundw
          case rel => exact ⟨k + 1, by omega, by go_num, by have h1 := HK.out; rw [HD.out, if_neg (fun h => HQ.out h.2)] at h1; exact h1, HW.out⟩
          case measure => simp [intOf]; omega
    · go_wp2
      go_ret
      exact ⟨by have h1 := HK.out; rw [List.drop_eq_nil_of_le (by omega), fst] at h1; subst h1; rfl, HW.out⟩

end Go.Proofs.YtjdkoahbahecoaaGreatDoor
