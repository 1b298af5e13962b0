/-
  Proved: the document's own Taken, Find, Int, Bits, power and Range.
-/
import Derived.Test.YtjdkoahbahecoaaGreatDoorRefItem
import Derived.Test.YtjdkoahbahecoaaGreatDoorConst
import Derived.Test.YtjdkoahbahecoaaGreatDoorItems
namespace Go.Proofs.YtjdkoahbahecoaaGreatDoor
open Go.RowKit

theorem isIn_take (s : ByteArray) (l : List ByteArray) (i : Nat) (h : i < l.length) : isIn s (l.take (i + 1)) = (isIn s (l.take i) || decide (s = l[i])) := by
  rw [isIn, isIn, take_succ' l i h, List.any_append]
  simp

theorem own_cell (i : Nat) (h : i < ownL.length) : ((ownL.map Value.string).toArray)[i]? = some (.string (ownL[i]'h)) := by
  simp [List.getElem?_eq_getElem h]

set_option maxRecDepth 100000 in
set_option maxHeartbeats 800000 in
theorem rTaken_c (s : ByteArray) (w : World) : Calls Tryz.prog 10 #[.string s] w fun e w' => e = .returned (.bool (isIn s ownL)) ∧ Below w.heap.size w w' := by
  generalize hR : isIn s ownL = R
  have HR : Hid (isIn s ownL = R) := hR
  clear hR
  go_enter Tryz.func10, Tryz.ntmps10
  go_wp2
  go_loopw [4] (fun iv wr => ∃ i : Nat, i ≤ 12 ∧ iv = .int .i64 (i : Int) ∧ Hid (isIn s (ownL.take i) = false) ∧ At wr w.heap.size (ownL.map Value.string).toArray 9 ∧ Below w.heap.size w wr) (fun iv _ => 12 - (intOf iv).toNat)
  case atStart => exact ⟨0, Nat.zero_le _, rfl, rfl, At.new _ _ _, below_alloc _ _⟩
  case round =>
    obtain ⟨i, hi, rfl, HN, hat, hbl⟩ := hrel
    have HAT : Hid (At wr w.heap.size (ownL.map Value.string).toArray 9) := hat
    have HBL : Hid (Below w.heap.size w wr) := hbl
    have az := hat.lt
    by_cases hlt : i < 12
    · have hlt' : (i : Int) < 12 := by omega
      have hl : i < ownL.length := hlt
      have c := (hat.cell i).trans (own_cell i hl)
      have HT := isIn_take s ownL i hl
      rw [HN.out, Bool.false_or] at HT
      have HI : Hid (isIn s (ownL.take (i + 1)) = true → isIn s ownL = true) := fun h => by
        rw [isIn_iff] at h ⊢
        exact List.mem_of_mem_take h
      generalize ownL[i] = nm at c HT
      by_cases hs : nm = s
      · subst hs
        have HX : Hid (R = true) := by rw [← HR.out]; exact HI.out (by rw [HT]; simp)
        clear hat hbl HT
        go_wp2
        go_ret
        exact ⟨by rw [HX.out]; rfl, HBL.out⟩
      · obtain ⟨g1, g2⟩ := str_ne hs
        have HN2 : Hid (isIn s (ownL.take (i + 1)) = false) := by rw [HT]; exact decide_eq_false (fun e => hs e.symm)
        clear hat hbl HT hs
        go_wp2
        go_roundw
        case rel => exact ⟨i + 1, by omega, by go_num, HN2.out, HAT.out, HBL.out⟩
        case measure => simp [intOf]; omega
    · obtain rfl : i = 12 := by omega
      have HX : Hid (R = false) := by rw [← HR.out]; exact HN.out
      clear hat hbl
      go_wp2
      go_ret
      exact ⟨by rw [HX.out]; rfl, HBL.out⟩

/-- Where the first item of a name stands, of whatever kind. -/
def fan (s : ByteArray) : List It → Nat → Option Nat
  | [], _ => none
  | it :: is, k => if it.s = s then some k else fan s is (k + 1)

theorem fan_drop (s : ByteArray) (is : List It) (i : Nat) (h : i < is.length) : fan s (is.drop i) i = if is[i].s = s then some i else fan s (is.drop (i + 1)) (i + 1) := by
  rw [List.drop_eq_getElem_cons h, fan]

theorem fan_some (s : ByteArray) : ∀ (is : List It) (k : Nat), (fan s is k).isSome = isIn s (is.map (·.s))
  | [], _ => rfl
  | it :: is, k => by
    rw [fan, List.map_cons, isIn_cons]
    split
    · rename_i h; simp [h]
    · rename_i h
      rw [fan_some s is (k + 1), decide_eq_false (fun e => h e.symm), Bool.false_or]

set_option maxHeartbeats 800000 in
theorem rFind0_c (is : List It) (s : ByteArray) (A : Option Addr) (C : Nat) (w : World) (hi : IsIn w is A) :
    Calls Tryz.prog 14 #[.slice A is.length C, .int .i64 0, .string s] w fun e w' => e = .returned (fstV (fan s is 0)) ∧ w' = w := by
  generalize hR : fan s is 0 = R
  have hl := hi.1
  have HI : Hid (IsIn w is A) := hi
  have HR : Hid (fan s (is.drop 0) 0 = R) := hR
  clear hi hR
  go_enter Tryz.func14, Tryz.ntmps14
  go_wp2
  go_loopw [7] (fun i wr => ∃ k : Nat, k ≤ is.length ∧ i = .int .i64 (k : Int) ∧ Hid (fan s (is.drop k) k = R) ∧ wr = w) (fun i _ => is.length - (intOf i).toNat)
  case atStart => exact ⟨0, Nat.zero_le _, rfl, HR.out, rfl⟩
  case round =>
    obtain ⟨k, hk, rfl, HK, rfl⟩ := hrel
    by_cases hlt : k < is.length
    · obtain ⟨b, o, P, pc, V, vc, r, rfl, hrow, _, _⟩ := HI.out.2 k hlt
      have hdr := fan_drop s is k hlt
      generalize is[k] = it at hrow hdr
      obtain ⟨ik, is', ips, ivs⟩ := it
      have c1 := hrow.2 1 _ rfl
      have hlt' : (k : Int) < (is.length : Int) := by omega
      have HD : Hid (fan s (is.drop k) k = if is' = s then some k else fan s (is.drop (k + 1)) (k + 1)) := hdr
      clear hdr hrow
      by_cases hs : is' = s
      · subst hs
        have HX : Hid (R = some k) := (show R = some k by rw [← HK.out, HD.out, if_pos rfl])
        go_wp2
        go_ret
        exact ⟨by rw [HX.out]; rfl, rfl⟩
      · obtain ⟨h1, h3⟩ := str_ne hs
        have HX : Hid (fan s (is.drop (k + 1)) (k + 1) = R) := (show fan s (is.drop (k + 1)) (k + 1) = R by rw [← HK.out, HD.out, if_neg hs])
        clear hs
        go_wp2
        go_roundw
        case rel => exact ⟨k + 1, by omega, by go_num, HX.out, by trivial⟩
        case measure => simp [intOf]; omega
    · obtain rfl : k = is.length := by omega
      have HX : Hid (R = none) := (show R = none by rw [← HK.out, List.drop_eq_nil_of_le (Nat.le_refl _), fan])
      go_wp2
      go_ret
      exact ⟨by rw [HX.out]; rfl, rfl⟩

set_option maxHeartbeats 800000 in
theorem rFind1_c (is : List It) (s : ByteArray) (A : Option Addr) (C : Nat) (w : World) (hi : IsIn w is A) :
    Calls Tryz.prog 14 #[.slice A is.length C, .int .i64 1, .string s] w fun e w' => e = .returned (fstV (fnd 1 s is 0)) ∧ w' = w := by
  generalize hR : fnd 1 s is 0 = R
  have hl := hi.1
  have HI : Hid (IsIn w is A) := hi
  have HR : Hid (fnd 1 s (is.drop 0) 0 = R) := hR
  clear hi hR
  go_enter Tryz.func14, Tryz.ntmps14
  go_wp2
  go_loopw [7] (fun i wr => ∃ k : Nat, k ≤ is.length ∧ i = .int .i64 (k : Int) ∧ Hid (fnd 1 s (is.drop k) k = R) ∧ wr = w) (fun i _ => is.length - (intOf i).toNat)
  case atStart => exact ⟨0, Nat.zero_le _, rfl, HR.out, rfl⟩
  case round =>
    obtain ⟨k, hk, rfl, HK, rfl⟩ := hrel
    by_cases hlt : k < is.length
    · obtain ⟨b, o, P, pc, V, vc, r, rfl, hrow, _, _⟩ := HI.out.2 k hlt
      have hdr := fnd_drop 1 s is k hlt
      generalize is[k] = it at hrow hdr
      obtain ⟨ik, is', ips, ivs⟩ := it
      have c0 := hrow.2 0 _ rfl
      have c1 := hrow.2 1 _ rfl
      simp only [Nat.add_zero] at c0
      have hlt' : (k : Int) < (is.length : Int) := by omega
      have HD : Hid (fnd 1 s (is.drop k) k = if is' = s ∧ ik = 1 then some k else fnd 1 s (is.drop (k + 1)) (k + 1)) := hdr
      clear hdr hrow
      by_cases h1 : ik = 1
      · subst h1
        by_cases hs : is' = s
        · subst hs
          have HX : Hid (R = some k) := (show R = some k by rw [← HK.out, HD.out, if_pos ⟨rfl, rfl⟩])
          go_wp2
          go_ret
          exact ⟨by rw [HX.out]; rfl, rfl⟩
        · obtain ⟨h1, h3⟩ := str_ne hs
          have HX : Hid (fnd 1 s (is.drop (k + 1)) (k + 1) = R) := (show fnd 1 s (is.drop (k + 1)) (k + 1) = R by rw [← HK.out, HD.out, if_neg (fun h => hs h.1)])
          clear hs
          go_wp2
          go_roundw
          case rel => exact ⟨k + 1, by omega, by go_num, HX.out, by trivial⟩
          case measure => simp [intOf]; omega
      · have g1 : (ik == 1) = false := by simpa using h1
        have HX : Hid (fnd 1 s (is.drop (k + 1)) (k + 1) = R) := (show fnd 1 s (is.drop (k + 1)) (k + 1) = R by rw [← HK.out, HD.out, if_neg (fun h => h1 h.2)])
        go_wp2
        go_roundw
        case rel => exact ⟨k + 1, by omega, by go_num, HX.out, by trivial⟩
        case measure => simp [intOf]; omega
    · obtain rfl : k = is.length := by omega
      have HX : Hid (R = none) := (show R = none by rw [← HK.out, List.drop_eq_nil_of_le (Nat.le_refl _), fnd])
      go_wp2
      go_ret
      exact ⟨by rw [HX.out]; rfl, rfl⟩

theorem rInt_c (k : Int) (w : World) : Calls Tryz.prog 37 #[.int .i64 k] w fun e w' => e = .returned (.bool (decide (3 ≤ k ∧ k ≤ 8))) ∧ w' = w := by
  by_cases h1 : 3 ≤ k
  · by_cases h2 : k ≤ 8
    · rw [decide_eq_true ⟨h1, h2⟩]
      go_enter Tryz.func37, Tryz.ntmps37
      go_wp2
      go_ret
      exact ⟨rfl, rfl⟩
    · rw [decide_eq_false (by omega)]
      go_enter Tryz.func37, Tryz.ntmps37
      go_wp2
      go_ret
      exact ⟨rfl, rfl⟩
  · rw [decide_eq_false (by omega)]
    go_enter Tryz.func37, Tryz.ntmps37
    go_wp2
    go_ret
    exact ⟨rfl, rfl⟩

theorem rpower_c (n p : Int) (w : World) (h : (n = 7 ∧ p = 128) ∨ (n = 15 ∧ p = 32768) ∨ (n = 31 ∧ p = 2147483648) ∨ (n = 8 ∧ p = 256) ∨ (n = 16 ∧ p = 65536) ∨ (n = 32 ∧ p = 4294967296)) :
    Calls Tryz.prog 58 #[.int .i64 n] w fun e w' => e = .returned (.int .i64 p) ∧ w' = w := by
  rcases h with ⟨rfl, rfl⟩ | ⟨rfl, rfl⟩ | ⟨rfl, rfl⟩ | ⟨rfl, rfl⟩ | ⟨rfl, rfl⟩ | ⟨rfl, rfl⟩
  all_goals (go_enter Tryz.func58, Tryz.ntmps58; go_wp2; go_ret; exact ⟨rfl, rfl⟩)

/-- What the document's Bits tells. -/
def btV (k : Int) : Value :=
  if k = 3 then .tuple #[.int .i64 8, .bool true] else if k = 4 then .tuple #[.int .i64 16, .bool true] else if k = 5 then .tuple #[.int .i64 32, .bool true]
  else if k = 6 then .tuple #[.int .i64 8, .bool false] else if k = 7 then .tuple #[.int .i64 16, .bool false] else .tuple #[.int .i64 32, .bool false]

theorem rBits_c (k : Int) (w : World) (h : k = 3 ∨ k = 4 ∨ k = 5 ∨ k = 6 ∨ k = 7 ∨ k = 8) :
    Calls Tryz.prog 57 #[.int .i64 k] w fun e w' => e = .returned (btV k) ∧ w' = w := by
  rcases h with rfl | rfl | rfl | rfl | rfl | rfl
  all_goals (go_enter Tryz.func57, Tryz.ntmps57; go_wp2; exact bodyPost_ret (by simp [results, Tryz.results57, go_sem]; rfl) rfl ⟨rfl, rfl⟩)

set_option maxHeartbeats 800000 in
theorem rRange_c (k : Int) (w : World) (h : k = 3 ∨ k = 4 ∨ k = 5 ∨ k = 6 ∨ k = 7 ∨ k = 8) :
    Calls Tryz.prog 38 #[.int .i64 k] w fun e w' => e = .returned (.tuple #[.int .i64 (rng k).1, .int .i64 (rng k).2]) ∧ w' = w := by
  have BT : Hid (∀ w', Calls Tryz.prog 57 #[.int .i64 k] w' fun e w'' => e = .returned (btV k) ∧ w'' = w') := fun w' => rBits_c k w' h
  have PW : Hid (∀ n p w', (n = 7 ∧ p = 128) ∨ (n = 15 ∧ p = 32768) ∨ (n = 31 ∧ p = 2147483648) ∨ (n = 8 ∧ p = 256) ∨ (n = 16 ∧ p = 65536) ∨ (n = 32 ∧ p = 4294967296) → Calls Tryz.prog 58 #[.int .i64 n] w' fun e w'' => e = .returned (.int .i64 p) ∧ w'' = w') := fun n p w' h => rpower_c n p w' h
  rcases h with rfl | rfl | rfl | rfl | rfl | rfl
  all_goals (
    simp only [btV, rng] at BT ⊢
    go_enter Tryz.func38, Tryz.ntmps38
    go_wp2_with (first
      | (go_at_call 57; refine (BT.out _).mono ?_; rintro e w1 ⟨rfl, rfl⟩; simp)
      | (go_at_call 58; refine (PW.out _ _ _ (by first | exact .inl ⟨rfl, rfl⟩ | exact .inr (.inl ⟨rfl, rfl⟩) | exact .inr (.inr (.inl ⟨rfl, rfl⟩)) | exact .inr (.inr (.inr (.inl ⟨rfl, rfl⟩))) | exact .inr (.inr (.inr (.inr (.inl ⟨rfl, rfl⟩)))) | exact .inr (.inr (.inr (.inr (.inr ⟨rfl, rfl⟩)))))).mono ?_; rintro e w1 ⟨rfl, rfl⟩))
    exact bodyPost_ret (by simp [results, Tryz.results38, go_sem]) rfl ⟨rfl, rfl⟩)

end Go.Proofs.YtjdkoahbahecoaaGreatDoor
