/-
  Proved: the statement's own functions below and deep answer a number, whatever the tree.
-/
import Derived.Test.YtdpmdonneoadbaaAlike
namespace Go.Proofs.Ytdpmdonneoadbaa
open Go.RowKit

/-- What a call of below answers: some number. -/
def DeepC (f : FuncId) (a : X) : Prop := ∀ (w : World) (m : Int) (cs : List Value), XIn w a cs →
  Calls Try.prog f #[.agg cs.toArray, .int .i64 m] w fun e w' => (∃ r : Int, e = .returned (.int .i64 r)) ∧ Below w.heap.size w w'

theorem deep_step (kd n : Int) (s : ByteArray) (ks : List X) (ts : List T) (ih : ∀ (i : Nat) (h : i < ks.length), DeepC 6 (ks[i]'h)) : DeepC 6 (.mk kd n s ks ts) := by
  intro w m cs ha
  obtain ⟨at1, A, C, B, D, p, q, r, Z, zl, zc, rfl, xa, ta⟩ := ha.inv
  show Calls Try.prog 6 #[.agg #[.int .i64 kd, .int .i64 at1, .int .i64 n, .string s, .slice A ks.length C, .slice B ts.length D, .int .i64 p, .string q, .int .i64 r, .slice Z zl zc], .int .i64 m] w _
  have hl := xa.1
  have IH : Hid (∀ (i : Nat) (h : i < ks.length), DeepC 6 (ks[i]'h)) := ih
  have HA : Hid (XsIn w ks A) := xa
  clear ih xa ta ha
  go_enter Try.func6, Try.ntmps6
  go_wp2
  generalize hw1 : w.alloc (.cells #[.int .i64 kd, .int .i64 at1, .int .i64 n, .string s, .slice A ks.length C, .slice B ts.length D, .int .i64 p, .string q, .int .i64 r, .slice Z zl zc] 27) = w1
  have hc : w1.cell? ⟨w.heap.size, 4, none⟩ = some (.slice A ks.length C) := by subst hw1; go_simp
  have hz : w.heap.size < w1.heap.size := by subst hw1; simp
  have W1 : Hid (Below w.heap.size w w1) := by subst hw1; exact below_alloc _ _
  have HC : Hid (w1.cell? ⟨w.heap.size, 4, none⟩ = some (.slice A ks.length C)) := hc
  clear hc hw1
  go_loopw [5, 6] (fun v i wr => ∃ (x : Int) (k : Nat), v = .int .i64 x ∧ i = .int .i64 (k : Int) ∧ k ≤ ks.length ∧ Below w1.heap.size w1 wr) (fun _ i _ => ks.length - (intOf i).toNat)
  case atStart => exact ⟨0, 0, rfl, rfl, Nat.zero_le _, Below.refl _ _⟩
  case round =>
    obtain ⟨x, k, rfl, rfl, hk, hw⟩ := hrel
    have hc : wr.cell? ⟨w.heap.size, 4, none⟩ = some (.slice A ks.length C) := (hw.cell (p := ⟨w.heap.size, 4, none⟩) hz).trans HC.out
    have HW : Hid (Below w1.heap.size w1 wr) := hw
    have HX : Hid (Below w.heap.size w wr) := below_next W1.out hw
    clear hw
    by_cases hlt : k < ks.length
    · obtain ⟨b1, o1, cs1, rfl, hr1, ht1⟩ := (HA.out.below HX.out).2 k hlt
      have key := IH.out k hlt
      generalize ks[k] = e1 at ht1 key
      obtain ⟨k1, n1, s1, ks1, ts1⟩ := e1
      have key' : ∀ w' m', Below wr.heap.size wr w' → _ := fun w' m' hw' => key w' m' cs1 (ht1.stays hw')
      obtain ⟨at2, A1, C1, B1, D1, p1, q1, r1, Z1, zl1, zc1, rfl, _, _⟩ := ht1.inv
      have c10 := hr1.2 0 _ rfl
      have c11 := hr1.2 1 _ rfl
      have c12 := hr1.2 2 _ rfl
      have c13 := hr1.2 3 _ rfl
      have c14 := hr1.2 4 _ rfl
      have c15 := hr1.2 5 _ rfl
      have c16 := hr1.2 6 _ rfl
      have c17 := hr1.2 7 _ rfl
      have c18 := hr1.2 8 _ rfl
      have c19 := hr1.2 9 _ rfl
      simp only [Nat.add_zero] at c10
      have KEY : Hid (∀ w' m', Below wr.heap.size wr w' → Calls Try.prog 6 #[.agg #[.int .i64 k1, .int .i64 at2, .int .i64 n1, .string s1, .slice A1 ks1.length C1, .slice B1 ts1.length D1, .int .i64 p1, .string q1, .int .i64 r1, .slice Z1 zl1 zc1], .int .i64 m'] w' fun e w'' => (∃ r : Int, e = .returned (.int .i64 r)) ∧ Below w'.heap.size w' w'') := key'
      clear key key' hr1 ht1
      go_wp2_with (go_at_call 6; refine (KEY.out _ _ (Below.refl _ _)).mono ?_; rintro e w2 ⟨⟨rr, rfl⟩, hb1⟩; have M : Hid (Below wr.heap.size wr w2) := hb1; clear hb1)
      · go_roundw
        case rel => exact ⟨_, k + 1, rfl, by go_num, by omega, below_next HW.out M.out⟩
        case measure => simp [intOf]; omega
      all_goals (go_ret; exact ⟨⟨_, rfl⟩, HX.out⟩)
    · go_wp2
      all_goals (go_ret; exact ⟨⟨_, rfl⟩, HX.out⟩)

theorem below_c (a : X) : DeepC 6 a := X.one (p := DeepC 6) deep_step a

theorem deep_c (k at1 n : Int) (s : ByteArray) (A : Option Addr) (L C : Nat) (B : Option Addr) (M D : Nat) (p : Int) (q : ByteArray) (r : Int) (Z : Option Addr) (zl zc : Nat) (a : X) (w : World)
    (h : XIn w a [.int .i64 k, .int .i64 at1, .int .i64 n, .string s, .slice A L C, .slice B M D, .int .i64 p, .string q, .int .i64 r, .slice Z zl zc]) :
    Calls Try.prog 4 #[.agg #[.int .i64 k, .int .i64 at1, .int .i64 n, .string s, .slice A L C, .slice B M D, .int .i64 p, .string q, .int .i64 r, .slice Z zl zc]] w fun e w' => (∃ r : Int, e = .returned (.int .i64 r)) ∧ Below w.heap.size w w' := by
  have KEY : Hid (∀ w' m', Below w.heap.size w w' → Calls Try.prog 6 #[.agg #[.int .i64 k, .int .i64 at1, .int .i64 n, .string s, .slice A L C, .slice B M D, .int .i64 p, .string q, .int .i64 r, .slice Z zl zc], .int .i64 m'] w' fun e w'' => (∃ r : Int, e = .returned (.int .i64 r)) ∧ Below w'.heap.size w' w'') :=
    fun w' m' hw => below_c a w' m' _ (h.stays hw)
  clear h
  go_enter Try.func4, Try.ntmps4
  go_wp2_with (go_at_call 6; refine (KEY.out _ _ (below_alloc _ _)).mono ?_; rintro e w2 ⟨⟨rr, rfl⟩, hb1⟩; have M : Hid (Below w.heap.size w w2) := below_next (below_alloc _ _) hb1; clear hb1)
  go_ret
  exact ⟨⟨_, rfl⟩, M.out⟩

end Go.Proofs.Ytdpmdonneoadbaa
