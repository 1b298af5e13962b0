/-
  Proved: types.first tells where the first struct or enum of a name stands; types.isType, and the sums of amounts.
-/
import Derived.Test.YtjdkoahbahecoaaGreatDoorTrees
import Derived.BigQuiet
import Derived.Deep.QuietTactic
namespace Go.Proofs.YtjdkoahbahecoaaGreatDoor
open Go.RowKit

theorem isType_c (k : Int) (w : World) : Calls Tryz.prog 93 #[.int .i64 k] w fun e w' => e = .returned (.bool (decide (k = 2 ∨ k = 3))) ∧ Below w.heap.size w w' := by
  by_cases h2 : k = 2
  · subst h2
    go_enter Tryz.func93, Tryz.ntmps93
    go_wp2
    go_ret
    exact ⟨rfl, Below.refl _ _⟩
  · by_cases h3 : k = 3
    · subst h3
      go_enter Tryz.func93, Tryz.ntmps93
      go_wp2
      go_ret
      exact ⟨rfl, Below.refl _ _⟩
    · have g2 : (k == 2) = false := by simpa using h2
      have g3 : (k == 3) = false := by simpa using h3
      have g : decide (k = 2 ∨ k = 3) = false := by simp [h2, h3]
      rw [g]
      go_enter Tryz.func93, Tryz.ntmps93
      go_wp2
      go_ret
      exact ⟨rfl, Below.refl _ _⟩

theorem fst_drop (s : ByteArray) (is : List It) (i : Nat) (h : i < is.length) : fst s (is.drop i) i = if is[i].s = s ∧ (is[i].k = 2 ∨ is[i].k = 3) then some i else fst s (is.drop (i + 1)) (i + 1) := by
  rw [List.drop_eq_getElem_cons h, fst]

theorem fst_some {s : ByteArray} : ∀ {is : List It} {k j : Nat}, fst s is k = some j → k ≤ j ∧ j - k < is.length ∧ ∀ h : j - k < is.length, (is[j - k]'h).s = s ∧ ((is[j - k]'h).k = 2 ∨ (is[j - k]'h).k = 3)
  | [], _, _, h => by cases h
  | it :: is, k, j, h => by
    rw [fst] at h
    split at h
    · rename_i hc
      cases h
      simp [hc]
    · obtain ⟨h1, h2, h3⟩ := fst_some h
      have e : j - k = (j - (k + 1)) + 1 := by omega
      refine ⟨by omega, by simp; omega, fun h4 => ?_⟩
      have := h3 h2
      simp only [e, List.getElem_cons_succ]
      exact this

/-- Where it stands, as a number. -/
def fstV : Option Nat → Value
  | none => .int .i64 (-1)
  | some j => .int .i64 (j : Int)

set_option maxHeartbeats 1000000 in
theorem first_c (is : List It) (s : ByteArray) (A : Option Addr) (C : Nat) (w : World) (hi : IsIn w is A) :
    Calls Tryz.prog 80 #[.slice A is.length C, .string s, .func (.func 93) #[] #[]] w fun e w' => e = .returned (fstV (fst s is 0)) ∧ Below w.heap.size w w' := by
  generalize hR : fst s is 0 = R
  have hl := hi.1
  have HI : Hid (IsIn w is A) := hi
  have HR : Hid (fst s (is.drop 0) 0 = R) := hR
  clear hi hR
  go_enter Tryz.func80, Tryz.ntmps80
  go_wp2
  go_loopw [10] (fun i wr => ∃ k : Nat, k ≤ is.length ∧ i = .int .i64 (k : Int) ∧ fst s (is.drop k) k = R ∧ Below w.heap.size w wr) (fun i _ => is.length - (intOf i).toNat)
  case atStart => exact ⟨0, Nat.zero_le _, rfl, HR.out, Below.refl _ _⟩
  case round =>
    obtain ⟨k, hk, rfl, hr, hw⟩ := hrel
    have HK : Hid (fst s (is.drop k) k = R) := hr
    have HW : Hid (Below w.heap.size w wr) := hw
    clear hr hw
    by_cases hlt : k < is.length
    · obtain ⟨b, o, P, pc, V, vc, r, rfl, hrow, _, _⟩ := (HI.out.below HW.out).2 k hlt
      have hdr := fst_drop s is k hlt
      generalize is[k] = it at hrow hdr
      obtain ⟨ik, is', ips, ivs⟩ := it
      have c0 := hrow.2 0 _ rfl
      have c1 := hrow.2 1 _ rfl
      simp only [Nat.add_zero] at c0
      have hlt' : (k : Int) < (is.length : Int) := by omega
      have HD : Hid (fst s (is.drop k) k = if is' = s ∧ (ik = 2 ∨ ik = 3) then some k else fst s (is.drop (k + 1)) (k + 1)) := hdr
      clear hdr hrow
      by_cases hs : is' = s
      · subst hs
        by_cases hq : ik = 2 ∨ ik = 3
        · have HC : Hid (∀ w', Calls Tryz.prog 93 #[.int .i64 ik] w' fun e w'' => e = .returned (.bool true) ∧ Below w'.heap.size w' w'') := fun w' => by
            have := isType_c ik w'
            rw [decide_eq_true hq] at this
            exact this
          have HQ : Hid (ik = 2 ∨ ik = 3) := hq
          clear hq
          go_wp2_with (go_at_call 93; refine (HC.out _).mono ?_; rintro e w1 ⟨rfl, hb1⟩; have M : Hid (Below wr.heap.size wr w1) := hb1; clear hb1)
          go_ret
          exact ⟨by have h1 := HK.out; rw [HD.out, if_pos (by simpa using HQ.out)] at h1; subst h1; rfl, below_next HW.out M.out⟩
        · have HC : Hid (∀ w', Calls Tryz.prog 93 #[.int .i64 ik] w' fun e w'' => e = .returned (.bool false) ∧ Below w'.heap.size w' w'') := fun w' => by
            have := isType_c ik w'
            rw [decide_eq_false hq] at this
            exact this
          have HQ : Hid (¬ (ik = 2 ∨ ik = 3)) := hq
          clear hq
          go_wp2_with (go_at_call 93; refine (HC.out _).mono ?_; rintro e w1 ⟨rfl, hb1⟩; have M : Hid (Below wr.heap.size wr w1) := hb1; clear hb1)
          go_roundw
          case rel => exact ⟨k + 1, by omega, by go_num, by have h1 := HK.out; rw [HD.out, if_neg (fun h => HQ.out h.2)] at h1; exact h1, below_next HW.out M.out⟩
          case measure => simp [intOf]; omega
      · obtain ⟨h1, h2⟩ := str_ne hs
        have HS : Hid (¬ is' = s) := hs
        clear hs
        go_wp2
        go_roundw
        case rel => exact ⟨k + 1, by omega, by go_num, by have h1 := HK.out; rw [HD.out, if_neg (fun h => HS.out h.1)] at h1; exact h1, HW.out⟩
        case measure => simp [intOf]; omega
    · go_wp2
      go_ret
      exact ⟨by have h1 := HK.out; rw [List.drop_eq_nil_of_le (by omega), fst] at h1; subst h1; rfl, HW.out⟩

theorem three_alloc (w : World) (a b c : Obj) : Below w.heap.size w (((w.alloc a).alloc b).alloc c) := below_next (below_next (below_alloc _ _) (below_alloc _ _)) (below_alloc _ _)

theorem below_set3 {n : Nat} {w W : World} (h : Below n w W) {b : Nat} (hb : n ≤ b) (x y z : Value) : Below n w (((W.setCell ⟨b, 0, none⟩ x).setCell ⟨b, 1, none⟩ y).setCell ⟨b, 2, none⟩ z) :=
  ((h.setCell (p := ⟨b, 0, none⟩) hb x).setCell (p := ⟨b, 1, none⟩) hb y).setCell (p := ⟨b, 2, none⟩) hb z

theorem plus_c (a b : Am) (w : World) (h1 : a.p + b.p < 1000000) (h2 : a.w + b.w < 1000000) (h3 : a.m + b.m < 1000000) :
    Calls Tryz.prog 97 #[amV (some a), amV (some b)] w fun e w' => e = .returned (amV (some ⟨a.p + b.p, a.w + b.w, a.m + b.m⟩)) ∧ Below w.heap.size w w' := by
  obtain ⟨ap, aw, am⟩ := a
  obtain ⟨bp, bw, bm⟩ := b
  simp only [amV] at *
  go_enter Tryz.func97, Tryz.ntmps97
  go_wp2
  refine bodyPost_ret (v := .agg #[.int .i64 ((ap + bp : Nat) : Int), .int .i64 ((aw + bw : Nat) : Int), .int .i64 ((am + bm : Nat) : Int)]) (by simp [results, Tryz.results97, go_sem]) rfl ⟨rfl, ?_⟩
  exact three_alloc _ _ _ _

theorem times_c (a : Am) (n : Nat) (w : World) (h1 : a.p * n < 1000000) (h2 : a.w * n < 1000000) (h3 : a.m * n < 1000000) :
    Calls Tryz.prog 98 #[amV (some a), .int .i64 (n : Int)] w fun e w' => e = .returned (amV (some ⟨a.p * n, a.w * n, a.m * n⟩)) ∧ Below w.heap.size w w' := by
  obtain ⟨ap, aw, am⟩ := a
  simp only [amV] at *
  have k1 : ((ap * n : Nat) : Int) < 1000000 := by omega
  have k2 : ((aw * n : Nat) : Int) < 1000000 := by omega
  have k3 : ((am * n : Nat) : Int) < 1000000 := by omega
  rw [Int.natCast_mul] at k1 k2 k3
  have l1 : 0 ≤ (ap : Int) * (n : Int) := by rw [← Int.natCast_mul]; omega
  have l2 : 0 ≤ (aw : Int) * (n : Int) := by rw [← Int.natCast_mul]; omega
  have l3 : 0 ≤ (am : Int) * (n : Int) := by rw [← Int.natCast_mul]; omega
  rw [Int.natCast_mul, Int.natCast_mul, Int.natCast_mul]
  go_enter Tryz.func98, Tryz.ntmps98
  go_wp2
  refine bodyPost_ret (v := .agg #[.int .i64 ((ap : Int) * (n : Int)), .int .i64 ((aw : Int) * (n : Int)), .int .i64 ((am : Int) * (n : Int))]) (by simp [results, Tryz.results98, go_sem]) rfl ⟨rfl, ?_⟩
  exact below_next (below_alloc _ _) (below_alloc _ _)

end Go.Proofs.YtjdkoahbahecoaaGreatDoor
