/-
  Proved: what insn's form.imm answers: the number that stands in a word.
-/
import Derived.Test.YtcdeckbobabdkaaIput
namespace Go.Proofs.Ytcdeckbobabdkaa
open Go.RowKit
set_option linter.unusedVariables false
set_option linter.unusedSimpArgs false

def getP (x : Int) (p : Pc) : Int := wrap64 (x / 2 ^ p.at_ % 2 ^ p.m * 2 ^ p.fr)
def orG (x : Int) (l : List Pc) : Int := l.foldl (fun a p => bits .or .i64 a (getP x p)) 0

theorem orG_step (n : Int) (l : List Pc) (k : Nat) (p : Pc) (h : l[k]? = some p) : orG n (l.take (k + 1)) = bits .or .i64 (orG n (l.take k)) (getP n p) := by
  unfold orG
  rw [List.take_add_one, h, List.foldl_append]
  rfl

set_option maxHeartbeats 1000000 in
theorem imm_c (f l : Nat) (b1 b2 b3 : Value) (lo hi st : Int) (x : Int) (h1 : f ≤ l) (h2 : l ≤ 13) (l1 : -2147483648 ≤ lo) (l2 : lo ≤ 0) (i1 : 0 ≤ hi) (i2 : hi ≤ 2147483648) (s1 : 0 ≤ st) (s2 : st ≤ 2)
    (x1 : 0 ≤ orG x (cutP f l)) (x2 : orG x (cutP f l) ≤ 4294967296) (w : World) :
    Calls Try.prog 28 #[.agg #[b1, b2, b3, .int .i64 lo, .int .i64 hi, .int .i64 st, .int .i64 f, .int .i64 l], .int .u32 x] w fun e w' =>
      e = .returned (.int .i64 (if hi < orG x (cutP f l) then orG x (cutP f l) - (hi - lo + st) else orG x (cutP f l))) ∧ Below w.heap.size w w' := by
  have LN : Hid ((cutP f l).length = l - f) := cutP_len h1 h2
  have OK : Hid (PcOk (cutP f l)) := cutP_ok f l
  have PCS : Hid (∀ w, Calls Try.prog 38 #[.agg #[b1, b2, b3, .int .i64 lo, .int .i64 hi, .int .i64 st, .int .i64 f, .int .i64 l]] w fun e w' =>
      ∃ b o, e = .returned (.slice (some ⟨b, o, none⟩) (l - f) (l - f)) ∧ PcIn w' b o (cutP f l) ∧ Below w.heap.size w w') := pieces_c f l b1 b2 b3 (.int .i64 lo) (.int .i64 hi) (.int .i64 st) h1 h2
  generalize cutP f l = L at *
  have N13 : l - f ≤ 13 := by omega
  generalize hN : l - f = N at *
  clear hN h1 h2
  go_enter Try.func28, Try.ntmps28
  go_wp2_with (go_at_call 38; refine (PCS.out _).mono ?_; rintro e w1 ⟨b, o, rfl, hP, hB⟩; have HP : Hid (PcIn w1 b o L) := hP; have HB : Hid (Below w.heap.size w w1) := (below_alloc _ _).trans (hB.mono (below_alloc _ _).size); have C4 : Hid (w1.cell? ⟨w.heap.size, 4, none⟩ = some (.int .i64 hi) ∧ w1.cell? ⟨w.heap.size, 3, none⟩ = some (.int .i64 lo) ∧ w1.cell? ⟨w.heap.size, 5, none⟩ = some (.int .i64 st)) := ⟨(hB.cell (p := ⟨_, _, none⟩) (At.new w _ _).lt).trans ((At.new w _ _).cell 4), (hB.cell (p := ⟨_, _, none⟩) (At.new w _ _).lt).trans ((At.new w _ _).cell 3), (hB.cell (p := ⟨_, _, none⟩) (At.new w _ _).lt).trans ((At.new w _ _).cell 5)⟩; have SZ : Hid (w.heap.size < w1.heap.size) := Nat.lt_of_lt_of_le (At.new w _ 54).lt hB.size; clear hP hB)
  go_loopw [5, 11] (fun acc i wr => ∃ k : Nat, k ≤ N ∧ i = .int .i64 (k : Int) ∧ acc = .int .i64 (orG x (L.take k)) ∧ Below w1.heap.size w1 wr) (fun _ i _ => N - (intOf i).toNat)
  case atStart => exact ⟨0, by omega, rfl, rfl, Below.refl _ _⟩
  case round =>
    obtain ⟨k, hk, rfl, rfl, hb⟩ := hrel
    have HK : Hid (Below w1.heap.size w1 wr) := hb
    have HQ : Hid (PcIn wr b o L) := HP.out.below hb
    have C := C4.out
    have d4 : wr.cell? ⟨w.heap.size, 4, none⟩ = some (.int .i64 hi) := (hb.cell (p := ⟨_, _, none⟩) SZ.out).trans C.1
    have d3 : wr.cell? ⟨w.heap.size, 3, none⟩ = some (.int .i64 lo) := (hb.cell (p := ⟨_, _, none⟩) SZ.out).trans C.2.1
    have d5 : wr.cell? ⟨w.heap.size, 5, none⟩ = some (.int .i64 st) := (hb.cell (p := ⟨_, _, none⟩) SZ.out).trans C.2.2
    clear hb C
    rcases Nat.lt_or_ge k N with hk' | hk'
    · have hkz : (k : Int) < N := by omega
      have hkL : k < L.length := by rw [LN.out]; exact hk'
      obtain ⟨p, hp⟩ : ∃ p, L[k]? = some p := ⟨L[k], List.getElem?_eq_getElem hkL⟩
      have ST : Hid (orG x (L.take (k + 1)) = bits .or .i64 (orG x (L.take k)) (getP x p)) := orG_step x L k p hp
      obtain ⟨o1, o2, o3⟩ := OK.out k p hp
      have hbw := HQ.out.1
      obtain ⟨c1, c2, c3⟩ := HQ.out.2 k p hp
      have PP : Hid (getP x p = wrap64 (x / 2 ^ p.at_ % 2 ^ p.m * 2 ^ p.fr)) := rfl
      clear hp
      generalize p.at_ = pa at *
      generalize p.fr = pf at *
      generalize p.m = pm at *
      generalize orG x (L.take k) = A at *
      have m1 : 0 ≤ x / 2 ^ pa % 2 ^ pm ∧ x / 2 ^ pa % 2 ^ pm < 9223372036854775808 := ⟨Int.emod_nonneg _ (by have : (0 : Int) < 2 ^ pm := Int.pow_pos (by decide); omega), Int.lt_of_lt_of_le (Int.emod_lt_of_pos _ (Int.pow_pos (by decide))) (by
        have h : (2 : Nat) ^ pm ≤ 2 ^ 31 := Nat.pow_le_pow_right (by decide) o3
        have : (((2 : Nat) ^ pm : Nat) : Int) = (2 : Int) ^ pm := by simp
        omega)⟩
      have hB : ∀ m, Below w1.heap.size w1 ((wr.alloc (.cells #[.int .u8 pa, .int .u8 pf, .int .u8 pm] 92)).drewN m) := fun m => drew_below (HK.out.trans ((below_alloc _ _).mono HK.out.size)) m
      have HB1 : Hid (∀ m, Below w1.heap.size w1 ((wr.alloc (.cells #[.int .u8 pa, .int .u8 pf, .int .u8 pm] 92)).drewN m)) := hB
      clear hB
      go_wp2
      go_quiet ((go_at_call 26; exact Calls.quiet_of_same (part_c _ _ _ o1 o3 _)))
      go_wp2
      go_roundw
      case rel => exact ⟨k + 1, by omega, by go_num, by rw [ST.out, PP.out], HB1.out _⟩
      case measure => simp [intOf]; omega
    · have hkz : ¬ (k : Int) < N := by omega
      obtain rfl : k = N := by omega
      have E : Hid (L.take k = L) := List.take_of_length_le (by rw [LN.out]; exact Nat.le_refl _)
      rw [E.out]
      have Z : Hid (Below w.heap.size w wr) := HB.out.trans (HK.out.mono HB.out.size)
      by_cases h : hi < orG x L
      · go_wp2
        go_ret
        exact ⟨by first | rfl | (rw [if_pos h]; rfl), Z.out⟩
      · go_wp2
        go_ret
        exact ⟨by first | rfl | (rw [if_neg (Int.not_lt.2 h)]; rfl), Z.out⟩
end Go.Proofs.Ytcdeckbobabdkaa
