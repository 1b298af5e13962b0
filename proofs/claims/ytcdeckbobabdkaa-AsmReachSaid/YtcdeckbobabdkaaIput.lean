/-
  Proved: what insn's form.bits answers: the bits of a number where its form's pieces tell, one behind the other.
-/
import Derived.Test.YtcdeckbobabdkaaIpieces
namespace Go.Proofs.Ytcdeckbobabdkaa
open Go.RowKit
set_option linter.unusedVariables false
set_option linter.unusedSimpArgs false

def putP (n : Int) (p : Pc) : Int := n % 4294967296 / 2 ^ p.fr % 2 ^ p.m * 2 ^ p.at_ % 4294967296
def orB (n : Int) (l : List Pc) : Int := l.foldl (fun a p => bits .or .u32 a (putP n p)) 0

theorem orB_step (n : Int) (l : List Pc) (k : Nat) (p : Pc) (h : l[k]? = some p) : orB n (l.take (k + 1)) = bits .or .u32 (orB n (l.take k)) (putP n p) := by
  unfold orB
  rw [List.take_add_one, h, List.foldl_append]
  rfl

/-- Pieces of which all are of a word. -/
def PcOk (l : List Pc) : Prop := ∀ (k : Nat) (p : Pc), l[k]? = some p → p.at_ ≤ 31 ∧ p.fr ≤ 31 ∧ p.m ≤ 31

theorem PL_ok : (PL.all fun p : Pc => decide (p.at_ ≤ 31) && decide (p.fr ≤ 31) && decide (p.m ≤ 31)) = true := by decide

theorem cutP_ok (f l : Nat) : PcOk (cutP f l) := by
  intro k p hk
  have h1 : p ∈ cutP f l := List.mem_of_getElem? hk
  have h2 : p ∈ PL := List.mem_of_mem_take (List.mem_of_mem_drop h1)
  have h3 := List.all_eq_true.1 PL_ok p h2
  simp only [Bool.and_eq_true, decide_eq_true_eq] at h3
  exact ⟨h3.1.1, h3.1.2, h3.2⟩

set_option maxHeartbeats 1000000 in
theorem fbits_c (f l : Nat) (b1 b2 b3 lo hi st : Value) (n : Int) (h1 : f ≤ l) (h2 : l ≤ 13) (w : World) :
    Calls Try.prog 43 #[.agg #[b1, b2, b3, lo, hi, st, .int .i64 f, .int .i64 l], .int .i64 n] w fun e w' =>
      e = .returned (.int .u32 (orB n (cutP f l))) ∧ Below w.heap.size w w' := by
  have LN : Hid ((cutP f l).length = l - f) := cutP_len h1 h2
  have OK : Hid (PcOk (cutP f l)) := cutP_ok f l
  have PCS : Hid (∀ w, Calls Try.prog 38 #[.agg #[b1, b2, b3, lo, hi, st, .int .i64 f, .int .i64 l]] w fun e w' =>
      ∃ b o, e = .returned (.slice (some ⟨b, o, none⟩) (l - f) (l - f)) ∧ PcIn w' b o (cutP f l) ∧ Below w.heap.size w w') := pieces_c f l b1 b2 b3 lo hi st h1 h2
  generalize cutP f l = L at *
  have N13 : l - f ≤ 13 := by omega
  generalize hN : l - f = N at *
  clear hN h1 h2
  go_enter Try.func43, Try.ntmps43
  go_wp2_with (go_at_call 38; refine (PCS.out _).mono ?_; rintro e w1 ⟨b, o, rfl, hP, hB⟩; have HP : Hid (PcIn w1 b o L) := hP; have HB : Hid (Below w.heap.size w w1) := (below_alloc _ _).trans (hB.mono (below_alloc _ _).size); clear hP hB)
  go_loopw [5, 11] (fun acc i wr => ∃ k : Nat, k ≤ N ∧ i = .int .i64 (k : Int) ∧ acc = .int .u32 (orB n (L.take k)) ∧ Below w.heap.size w wr ∧ PcIn wr b o L) (fun _ i _ => N - (intOf i).toNat)
  case atStart => exact ⟨0, by omega, rfl, rfl, HB.out, HP.out⟩
  case round =>
    obtain ⟨k, hk, rfl, rfl, hb, hp⟩ := hrel
    have HK : Hid (Below w.heap.size w wr) := hb
    have HQ : Hid (PcIn wr b o L) := hp
    clear hb hp
    rcases Nat.lt_or_ge k N with hk' | hk'
    · have hkz : (k : Int) < N := by omega
      have hkL : k < L.length := by rw [LN.out]; exact hk'
      obtain ⟨p, hp⟩ : ∃ p, L[k]? = some p := ⟨L[k], List.getElem?_eq_getElem hkL⟩
      have ST : Hid (orB n (L.take (k + 1)) = bits .or .u32 (orB n (L.take k)) (putP n p)) := orB_step n L k p hp
      obtain ⟨o1, o2, o3⟩ := OK.out k p hp
      have hbw := HQ.out.1
      obtain ⟨c1, c2, c3⟩ := HQ.out.2 k p hp
      have PP : Hid (putP n p = n % 4294967296 / 2 ^ p.fr % 2 ^ p.m * 2 ^ p.at_ % 4294967296) := rfl
      clear hp
      generalize p.at_ = pa at *
      generalize p.fr = pf at *
      generalize p.m = pm at *
      generalize orB n (L.take k) = A at *
      have hB : ∀ m, Below w.heap.size w ((wr.alloc (.cells #[.int .u8 pa, .int .u8 pf, .int .u8 pm] 92)).drewN m) := fun m => drew_below (HK.out.trans ((below_alloc _ _).mono HK.out.size)) m
      have hQ : ∀ m, PcIn ((wr.alloc (.cells #[.int .u8 pa, .int .u8 pf, .int .u8 pm] 92)).drewN m) b o L := fun m => (HQ.out.below (below_alloc _ _)).below (below_drewN _ _)
      have HB1 : Hid (∀ m, Below w.heap.size w ((wr.alloc (.cells #[.int .u8 pa, .int .u8 pf, .int .u8 pm] 92)).drewN m)) := hB
      have HQ1 : Hid (∀ m, PcIn ((wr.alloc (.cells #[.int .u8 pa, .int .u8 pf, .int .u8 pm] 92)).drewN m) b o L) := hQ
      clear hB hQ
      go_wp2
      go_quiet ((go_at_call 26; exact Calls.quiet_of_same (part_c _ _ _ o2 o3 _)))
      trace_state
      go_wp2
      go_roundw
      case rel => exact ⟨k + 1, by omega, by go_num, by rw [ST.out, PP.out], HB1.out _, HQ1.out _⟩
      case measure => simp [intOf]; omega
    · have hkz : ¬ (k : Int) < N := by omega
      obtain rfl : k = N := by omega
      have E : Hid (L.take k = L) := List.take_of_length_le (by rw [LN.out]; exact Nat.le_refl _)
      rw [E.out]
      go_wp2
      go_ret
      exact ⟨rfl, HK.out⟩
end Go.Proofs.Ytcdeckbobabdkaa
