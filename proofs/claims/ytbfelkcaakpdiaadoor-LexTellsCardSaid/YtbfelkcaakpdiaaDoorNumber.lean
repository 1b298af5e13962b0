/-
  Proved: what lex.Number answers for every text.
-/
import Derived.Test.YtbfelkcaakpdiaaDoorSign
namespace Go.Proofs.YtbfelkcaakpdiaaDoor
open Go.RowKit
theorem below_drewN {B : Nat} {w w' : World} (h : Below B w w') (n : Nat) : Below B w (w'.drewN n) := ⟨h.os, h.tape, h.output, h.size, h.block⟩

theorem ofL_get (d : Bs) (i : Nat) (h : i < (ofL d).size) : (ofL d)[i] = d[i]'(by rw [ofL_size] at h; exact h) := by
  simp [ofL, ByteArray.getElem_eq_getElem_data]

theorem isPlain_c (d : Bs) (w : World) (_hm : d.length < 4611686018427387904) : Calls Tryd.prog 25 #[.string (ofL d)] w fun e w' => e = .returned (.bool (plain d)) ∧ w' = w := by
  have hz := ofL_size d
  go_enter Tryd.func25, Tryd.ntmps25
  go_wp2
  · have h : d = [] := by assumption
    subst h
    go_ret
    exact ⟨rfl, rfl⟩
  · have h : ¬ d = [] := by assumption
    have h1 : ((d.length : Int) == 0) = true ∨ 10 < (d.length : Int) := by assumption
    have h0 : ¬ d.length = 0 := fun e => h (List.length_eq_zero_iff.1 e)
    have h2 : ¬ d.length ≤ 10 := by
      rcases h1 with h1 | h1
      · have := eq_of_beq h1; omega
      · omega
    go_ret
    refine ⟨?_, rfl⟩
    simp [plain, h2]
  · have h : (d.length : Int) = 1 := by assumption
    have h2 : d.length = 1 := by omega
    go_ret
    refine ⟨?_, rfl⟩
    simp [plain, h2]
  · have h : ¬ d = [] := by assumption
    have h1 : ((d.length : Int) == 0) = false ∧ (d.length : Int) ≤ 10 := by assumption
    have h2 : ¬ (d.length : Int) = 1 := by assumption
    have h0 : 0 < d.length := by assumption
    have h3 : d.length ≤ 10 := by omega
    have h4 : ¬ d.length = 1 := by omega
    go_ret
    refine ⟨?_, rfl⟩
    match d, h0, h3, h4 with
    | c :: r, h0, h3, h4 =>
      have h5 : r.length + 1 ≤ 10 := h3
      have h6 : ¬ r.length = 0 := fun e => h4 (by simp [e])
      simp only [ofL_get]
      simp [plain, h5, h6]
      rw [Bool.eq_iff_iff]
      simp
      constructor
      · rintro (h | h) e
        · omega
        · exact h (by subst e; rfl)
      · intro h
        right
        intro e
        exact h (UInt8.toNat_inj.1 (by have : (48 : UInt8).toNat = 48 := rfl; omega))
  · have h : ¬ d = [] := by assumption
    have h0 : ¬ 0 < d.length := by assumption
    exact absurd (List.length_eq_zero_iff.1 (by omega)) h

theorem isSuffix_c (d : Bs) (w : World) : Calls Tryd.prog 26 #[.string (ofL d)] w fun e w' => e = .returned (.bool (isSuff d)) ∧ w' = w := by
  have hz := ofL_toList d
  go_enter Tryd.func26, Tryd.ntmps26
  go_wp2
  all_goals go_ret
  all_goals (refine ⟨?_, rfl⟩; simp_all [isSuff, suffL, List.isEmpty_iff])

/-- Number's answer: the number, what stands behind it, the error. -/
def numA (l : Bs) : Nat × Bs × Nat :=
  match num l with
  | none => (0, [], 21)
  | some p => (p.1, p.2, 0)

theorem numA_no (l : Bs) (h : (plain (l.take (run isDig l)) && isSuff (l.drop (run isDig l))) = false) : numA l = (0, [], 21) := by
  simp [numA, num, h]
theorem numA_big (l : Bs) (h : (plain (l.take (run isDig l)) && isSuff (l.drop (run isDig l))) = true) (hv : ¬ val (l.take (run isDig l)) ≤ 4294967295) : numA l = (0, [], 21) := by
  simp only [numA, num, h, if_true, if_neg hv]
theorem numA_yes (l : Bs) (h : (plain (l.take (run isDig l)) && isSuff (l.drop (run isDig l))) = true) (hv : val (l.take (run isDig l)) ≤ 4294967295) : numA l = (val (l.take (run isDig l)), l.drop (run isDig l), 0) := by
  simp only [numA, num, h, if_true, if_pos hv]

theorem run_all (p : UInt8 → Bool) : ∀ (l : Bs) (k : Nat) (_ : k < run p l) (h : k < l.length), p l[k] = true
  | c :: r, k, hk, h => by
    by_cases hc : p c
    · simp only [run, hc, if_true] at hk
      match k, hk, h with
      | 0, _, _ => simpa using hc
      | k + 1, hk, h => simpa using run_all p r k (by omega) (by simpa using h)
    · simp [run, hc] at hk

theorem extract_take (l : Bs) (n : Nat) : (ofL l).extract 0 n = ofL (l.take n) := by
  apply ByteArray.ext
  simp [ofL, ByteArray.data_extract]

theorem extract_drop (l : Bs) (n : Nat) : (ofL l).extract n l.length = ofL (l.drop n) := by
  apply ByteArray.ext
  simp [ofL, ByteArray.data_extract]
  rw [List.take_of_length_le (by simp)]

theorem val_step (l : Bs) (k : Nat) (h : k < l.length) : val (l.take (k + 1)) = val (l.take k) * 10 + (l[k].toNat - 48) := by
  unfold val
  rw [← List.take_append_getElem h, List.foldl_append]
  rfl

theorem val_lt : ∀ (k : Nat) (l : Bs), k ≤ l.length → (∀ i (h : i < l.length), i < k → isDig l[i] = true) → val (l.take k) < 10 ^ k
  | 0, _, _, _ => by simp [val]
  | k + 1, l, hk, hd => by
    rw [val_step l k (by omega)]
    have h1 := val_lt k l (by omega) (fun i h hi => hd i h (by omega))
    have h2 := hd k (by omega) (by omega)
    simp [isDig] at h2
    rw [Nat.pow_succ]
    omega

theorem plain_le {d : Bs} (h : plain d = true) : d.length ≤ 10 := by
  simp [plain] at h
  exact h.1.2

theorem ten_pow {k : Nat} (h : k ≤ 10) : 10 ^ k ≤ 10000000000 := Nat.pow_le_pow_right (by decide) h

theorem pastDigit0 (b cap n : Nat) (l : Bs) (w : World) (hb : BA w b 0 l) (hm : l.length < 4611686018427387904) (hn : run isDig l = n) :
    Calls Tryd.prog 23 #[.slice (some ⟨b, 0, none⟩) l.length cap, .int .i64 0, .func (.func 24) #[] #[]] w fun e w' => e = .returned (.int .i64 (n : Int)) ∧ w' = w := by
  have h := pastDigit b 0 cap 0 l w hb (Nat.zero_le _) hm
  rw [Nat.zero_add, List.drop_zero, hn] at h
  exact h

set_option maxHeartbeats 1000000 in
theorem number_n (l : Bs) (n : Nat) (A : Nat × Bs × Nat) (w : World) (hm : l.length < 4611686018427387904) (hn : Hid (run isDig l = n)) (hle : n ≤ l.length)
    (N : Hid ((plain (l.take n) && isSuff (l.drop n)) = false → A = (0, [], 21)))
    (G : Hid ((plain (l.take n) && isSuff (l.drop n)) = true → ¬ val (l.take n) ≤ 4294967295 → A = (0, [], 21)))
    (Y : Hid ((plain (l.take n) && isSuff (l.drop n)) = true → val (l.take n) ≤ 4294967295 → A = (val (l.take n), l.drop n, 0)))
    (D : Hid (∀ (k : Nat) (h : k < l.length) (_ : k < n), isDig l[k] = true)) : Calls Tryd.prog 11 #[.string (ofL l)] w fun e w' =>
    e = .returned (.tuple #[.int .i64 (A.1 : Int), .string (ofL A.2.1), .int .i64 (A.2.2 : Int)]) ∧ Below w.heap.size w w' := by
  have kc := conv_str
  have hz := ofL_size l
  have h1 := extract_take l n
  have h2 := extract_drop l n
  go_enter Tryd.func11, Tryd.ntmps11
  go_wp2_with (first
      | (go_at_call 23; refine (pastDigit0 _ _ n l _ (bw_BA _ _) hm hn.out).mono ?_; rintro e w' ⟨rfl, he⟩; subst he)
      | (go_at_call 25; refine (isPlain_c (l.take n) _ ?_).mono ?_; (focus (simp; omega)); rintro e w' ⟨rfl, he⟩; subst he)
      | (go_at_call 26; refine (isSuffix_c (l.drop n) _).mono ?_; rintro e w' ⟨rfl, he⟩; subst he)
      | go_in)
  · have p1 : plain (l.take n) = true := by assumption
    have p2 : (!isSuff (l.drop n)) = true := by assumption
    have hA := N.out (by simp at p2; simp [p2])
    subst hA
    go_ret3
    exact ⟨rfl, bw_below _ _⟩
  · have p1 : plain (l.take n) = true := by assumption
    have p2 : (!isSuff (l.drop n)) = false := by assumption
    have p3 : (plain (l.take n) && isSuff (l.drop n)) = true := by simp at p2; simp [p1, p2]
    have P3 : Hid ((plain (l.take n) && isSuff (l.drop n)) = true) := p3
    have h10 : n ≤ 10 := by
      have := plain_le p1
      simp at this
      omega
    clear p1 p2 p3
    go_loop [2, 23] (fun v i => ∃ k : Nat, k ≤ n ∧ v = .int .i64 (val (l.take k) : Int) ∧ i = .int .i64 (k : Int)) (fun _ i => n - (intOf i).toNat)
    case atStart => exact ⟨0, Nat.zero_le _, rfl, rfl⟩
    case round =>
      obtain ⟨k, hk, rfl, rfl⟩ := hrel
      have hb1 : val (l.take k) < 10000000000 := Nat.lt_of_lt_of_le (val_lt k l (by omega) (fun i h hi => D.out i h (by omega))) (ten_pow (by omega))
      obtain ⟨c, hc, hcl, hcu, hv⟩ : ∃ c : Nat, (∀ h : k < (ofL l).size, k < n → (ofL l)[k].toNat = c) ∧ 48 ≤ c ∧ c ≤ 57 ∧ (k < n → val (l.take (k + 1)) = val (l.take k) * 10 + (c - 48)) := by
        by_cases hkn : k < n
        · have hkl : k < l.length := by omega
          have hd := D.out k hkl hkn
          simp [isDig] at hd
          refine ⟨l[k].toNat, fun h _ => by rw [ofL_get], by omega, by omega, fun _ => val_step l k hkl⟩
        · exact ⟨48, fun _ h => absurd h hkn, by omega, by omega, fun h => absurd h hkn⟩
      have V : Hid (k < n → val (l.take (k + 1)) = val (l.take k) * 10 + (c - 48)) := hv
      clear hv
      generalize hu : val (l.take k) = u at hb1
      have U : Hid (val (l.take k) = u) := hu
      clear hu
      go_wp2
      · have hkn : k < n := by assumption
        go_round
        case rel =>
          refine ⟨k + 1, by omega, ?_, by go_num⟩
          rw [V.out hkn, U.out]
          congr 1
          omega
        case measure => simp [intOf]; omega
      · have hkn : ¬ k < n := by assumption
        have hbig : 4294967295 < (u : Int) := by assumption
        have e1 : k = n := by omega
        subst e1
        have hA := G.out P3.out (by rw [U.out]; omega)
        subst hA
        go_ret3
        exact ⟨rfl, bw_below _ _⟩
      · have hkn : ¬ k < n := by assumption
        have hbig : (u : Int) ≤ 4294967295 := by assumption
        have e1 : k = n := by omega
        subst e1
        have hA := Y.out P3.out (by rw [U.out]; omega)
        rw [U.out] at hA
        subst hA
        go_quiet (fail)
        go_wp2
        go_ret3
        exact ⟨rfl, below_drewN (bw_below _ _) _⟩
  · have p1 : ¬ plain (l.take n) = true := by assumption
    have hA := N.out (by simp [p1])
    subst hA
    go_ret3
    exact ⟨rfl, bw_below _ _⟩

theorem number_c (l : Bs) (w : World) (hm : l.length < 4611686018427387904) : Calls Tryd.prog 11 #[.string (ofL l)] w fun e w' =>
    e = .returned (.tuple #[.int .i64 ((numA l).1 : Int), .string (ofL (numA l).2.1), .int .i64 ((numA l).2.2 : Int)]) ∧ Below w.heap.size w w' :=
  number_n l (run isDig l) (numA l) w hm rfl (run_le isDig l) (numA_no l) (numA_big l) (numA_yes l) (fun k h hk => run_all isDig l k hk h)
end Go.Proofs.YtbfelkcaakpdiaaDoor
