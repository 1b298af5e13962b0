/-
  Proved: show.Alike answers whether two trees are alike; slices.EqualFunc over it whether two lists of trees are.
-/
import Derived.Test.YtdpmdonneoadbaaDoorSame
namespace Go.Proofs.YtdpmdonneoadbaaDoor
open Go.RowKit

/-- What a call that compares two trees answers. -/
def AlikeC (f : FuncId) (a b : X) : Prop := ∀ (w : World) (cs ds : List Value), XIn w a cs → XIn w b ds →
  Calls Tryd.prog f #[.agg cs.toArray, .agg ds.toArray] w fun e w' => e = .returned (.bool (X.alike a b)) ∧ Below w.heap.size w w'

theorem eqX_len (n m : Nat) (hlen : ¬ n = m) (A B : Option Addr) (C D : Nat) (w : World) :
    Calls Tryd.prog 18 #[.slice A n C, .slice B m D, .func (.func 7) #[] #[]] w fun e w' => e = .returned (.bool false) ∧ w' = w := by
  have g1 : ¬ (n : Int) = (m : Int) := by omega
  have g2 : ((n : Int) == (m : Int)) = false := by simpa using g1
  have g3 : (n == m) = false := by simpa using hlen
  go_enter Tryd.func18, Tryd.ntmps18
  go_wp2
  go_ret
  exact ⟨rfl, rfl⟩

theorem eqX_c (ls ms : List X) (ih : ∀ i (h1 : i < ls.length) (h2 : i < ms.length), AlikeC 7 (ls[i]'h1) (ms[i]'h2)) (A B : Option Addr) (C D : Nat) (w : World) (ha : XsIn w ls A) (hb : XsIn w ms B) :
    Calls Tryd.prog 18 #[.slice A ls.length C, .slice B ms.length D, .func (.func 7) #[] #[]] w fun e w' => e = .returned (.bool (X.alikes ls ms)) ∧ Below w.heap.size w w' := by
  by_cases hlen : ls.length = ms.length
  · generalize hR : X.alikes ls ms = R
    have hl := ha.1
    have IH : Hid (∀ i (h1 : i < ls.length) (h2 : i < ms.length), AlikeC 7 (ls[i]'h1) (ms[i]'h2)) := ih
    have HA : Hid (XsIn w ls A) := ha
    have HB : Hid (XsIn w ms B) := hb
    have HL : Hid (ls.length = ms.length) := hlen
    have HR : Hid (X.alikes ls ms = R) := hR
    clear ih ha hb hR
    rw [← hlen]
    clear hlen
    go_enter Tryd.func18, Tryd.ntmps18
    go_wp2
    go_loopw [17] (fun i wr => ∃ k : Nat, k ≤ ls.length ∧ i = .int .i64 (k : Int) ∧ X.alikes (ls.drop k) (ms.drop k) = R ∧ Below w.heap.size w wr) (fun i _ => ls.length - (intOf i).toNat)
    case atStart => exact ⟨0, Nat.zero_le _, rfl, HR.out, Below.refl _ _⟩
    case round =>
      obtain ⟨k, hk, rfl, hr, hw⟩ := hrel
      have HK : Hid (X.alikes (ls.drop k) (ms.drop k) = R) := hr
      have HW : Hid (Below w.heap.size w wr) := hw
      clear hr hw
      by_cases hlt : k < ls.length
      · have hlt2 : k < ms.length := by rw [← HL.out]; exact hlt
        obtain ⟨b1, o1, cs1, rfl, hr1, ht1⟩ := (HA.out.below HW.out).2 k hlt
        obtain ⟨b2, o2, cs2, rfl, hr2, ht2⟩ := (HB.out.below HW.out).2 k hlt2
        have hdr := X.alikes_drop ls ms k hlt hlt2
        have key := IH.out k hlt hlt2
        generalize ls[k] = e1 at ht1 hdr key
        generalize ms[k] = e2 at ht2 hdr key
        obtain ⟨k1, n1, s1, ks1, ts1⟩ := e1
        obtain ⟨k2, n2, s2, ks2, ts2⟩ := e2
        have key' : ∀ w', Below wr.heap.size wr w' → _ := fun w' hw' => key w' cs1 cs2 (ht1.stays hw') (ht2.stays hw')
        obtain ⟨at1, A1, C1, B1, D1, p1, q1, r1, Z1, zl1, zc1, rfl, _, _⟩ := ht1.inv
        obtain ⟨at2, A2, C2, B2, D2, p2, q2, r2, Z2, zl2, zc2, rfl, _, _⟩ := ht2.inv
        have c10 := hr1.2 0 _ rfl
        have c11 := hr1.2 1 _ rfl
        have c12 := hr1.2 2 _ rfl
        have c13 := hr1.2 3 _ rfl
        have c14 := hr1.2 4 _ rfl
        have c15 := hr1.2 5 _ rfl
        have c16 := hr1.2 6 _ rfl
        have c17 := hr1.2 7 _ rfl
        have c18 := hr1.2 8 _ rfl
        have c19 := hr1.2 9 _ rfl
        have c20 := hr2.2 0 _ rfl
        have c21 := hr2.2 1 _ rfl
        have c22 := hr2.2 2 _ rfl
        have c23 := hr2.2 3 _ rfl
        have c24 := hr2.2 4 _ rfl
        have c25 := hr2.2 5 _ rfl
        have c26 := hr2.2 6 _ rfl
        have c27 := hr2.2 7 _ rfl
        have c28 := hr2.2 8 _ rfl
        have c29 := hr2.2 9 _ rfl
        have l1 := hr1.1
        have l2 := hr2.1
        simp only [Nat.add_zero] at c10 c20
        generalize X.alike (.mk k1 n1 s1 ks1 ts1) (.mk k2 n2 s2 ks2 ts2) = S at hdr key'
        have KEY : Hid (∀ w', Below wr.heap.size wr w' → Calls Tryd.prog 7 #[.agg #[.int .i64 k1, .int .i64 at1, .int .i64 n1, .string s1, .slice A1 ks1.length C1, .slice B1 ts1.length D1, .int .i64 p1, .string q1, .int .i64 r1, .slice Z1 zl1 zc1], .agg #[.int .i64 k2, .int .i64 at2, .int .i64 n2, .string s2, .slice A2 ks2.length C2, .slice B2 ts2.length D2, .int .i64 p2, .string q2, .int .i64 r2, .slice Z2 zl2 zc2]] w' fun e w'' => e = .returned (.bool S) ∧ Below w'.heap.size w' w'') := key'
        have HD : Hid (X.alikes (ls.drop k) (ms.drop k) = (S && X.alikes (ls.drop (k + 1)) (ms.drop (k + 1)))) := hdr
        clear key key' hdr hr1 hr2 ht1 ht2
        cases S with
        | true =>
          go_wp2_with (go_at_call 7; refine (KEY.out _ (below_next (below_alloc _ _) (below_alloc _ _))).mono ?_; rintro e w1 ⟨rfl, hb1⟩; have M : Hid (Below wr.heap.size wr w1) := below_next (below_next (below_alloc _ _) (below_alloc _ _)) hb1; clear hb1)
          go_roundw
          case rel => exact ⟨k + 1, by omega, by go_num, by have h1 := HK.out; rw [HD.out] at h1; simpa using h1, below_next HW.out M.out⟩
          case measure => simp [intOf]; omega
        | false =>
          go_wp2_with (go_at_call 7; refine (KEY.out _ (below_next (below_alloc _ _) (below_alloc _ _))).mono ?_; rintro e w1 ⟨rfl, hb1⟩; have M : Hid (Below wr.heap.size wr w1) := below_next (below_next (below_alloc _ _) (below_alloc _ _)) hb1; clear hb1)
          go_ret
          exact ⟨by have h1 := HK.out; rw [HD.out] at h1; simp at h1; subst h1; rfl, below_next HW.out M.out⟩
      · go_wp2
        go_ret
        exact ⟨by have h1 := HK.out; rw [List.drop_eq_nil_of_le (by omega), List.drop_eq_nil_of_le (by rw [← HL.out]; omega), X.alikes_nil] at h1; exact congrArg (fun r => Ending.returned (Value.bool r)) h1, HW.out⟩
  · rw [X.alikes_len hlen]
    refine (eqX_len _ _ hlen A B C D w).mono ?_
    rintro e w' ⟨rfl, rfl⟩
    exact ⟨rfl, Below.refl _ _⟩

/-- Two trees by their own cells: what the call answers, given what the two lists of kids come to. -/
theorem alike_cells (k1 at1 n1 : Int) (s1 : ByteArray) (ts1 : List T) (A1 : Option Addr) (L1 C1 : Nat) (B1 : Option Addr) (D1 : Nat) (p1 : Int) (q1 : ByteArray) (r1 : Int) (Z1 : Option Addr) (zl1 zc1 : Nat)
    (k2 at2 n2 : Int) (s2 : ByteArray) (ts2 : List T) (A2 : Option Addr) (L2 C2 : Nat) (B2 : Option Addr) (D2 : Nat) (p2 : Int) (q2 : ByteArray) (r2 : Int) (Z2 : Option Addr) (zl2 zc2 : Nat) (w : World) (ta : TsIn w ts1 B1) (tb : TsIn w ts2 B2) (S : Bool)
    (EQ : Hid (∀ w', Below w.heap.size w w' → Calls Tryd.prog 18 #[.slice A1 L1 C1, .slice A2 L2 C2, .func (.func 7) #[] #[]] w' fun e w'' => e = .returned (.bool S) ∧ Below w'.heap.size w' w'')) :
    Calls Tryd.prog 7 #[.agg #[.int .i64 k1, .int .i64 at1, .int .i64 n1, .string s1, .slice A1 L1 C1, .slice B1 ts1.length D1, .int .i64 p1, .string q1, .int .i64 r1, .slice Z1 zl1 zc1], .agg #[.int .i64 k2, .int .i64 at2, .int .i64 n2, .string s2, .slice A2 L2 C2, .slice B2 ts2.length D2, .int .i64 p2, .string q2, .int .i64 r2, .slice Z2 zl2 zc2]] w
      fun e w' => e = .returned (.bool (decide (k1 = k2) && decide (n1 = n2) && decide (s1 = s2) && T.sames ts1 ts2 && S)) ∧ Below w.heap.size w w' := by
  have TQ : Hid (∀ w', Below w.heap.size w w' → Calls Tryd.prog 16 #[.slice B1 ts1.length D1, .slice B2 ts2.length D2, .func (.func 17) #[] #[]] w' fun e w'' => e = .returned (.bool (T.sames ts1 ts2)) ∧ Below w'.heap.size w' w'') :=
    fun w' hw => eqTs_c ts1 ts2 B1 B2 D1 D2 w' (ta.below hw) (tb.below hw)
  clear ta tb
  have W2 : ∀ o1 o2, Below w.heap.size w ((w.alloc o1).alloc o2) := fun _ _ => below_next (below_alloc _ _) (below_alloc _ _)
  generalize T.sames ts1 ts2 = R at TQ
  by_cases hk : k1 = k2
  · subst hk
    by_cases hn : n1 = n2
    · subst hn
      by_cases hs : s1 = s2
      · subst hs
        simp only [decide_true, Bool.true_and]
        cases R with
        | false =>
          go_enter Tryd.func7, Tryd.ntmps7
          go_wp2_with (go_at_call 16; refine (TQ.out _ (W2 _ _)).mono ?_; rintro e w1 ⟨rfl, hb1⟩; have M : Hid (Below w.heap.size w w1) := below_next (W2 _ _) hb1; clear hb1)
          go_ret
          exact ⟨rfl, M.out⟩
        | true =>
          go_enter Tryd.func7, Tryd.ntmps7
          go_wp2_with (first
            | (go_at_call 18; have M' := M; refine (EQ.out _ M.out).mono ?_; rintro e w2 ⟨rfl, hb2⟩; have N : Hid (Below w.heap.size w w2) := below_next M.out hb2; clear hb2)
            | (go_at_call 16; refine (TQ.out _ (W2 _ _)).mono ?_; rintro e w1 ⟨rfl, hb1⟩; have M : Hid (Below w.heap.size w w1) := below_next (W2 _ _) hb1; have cc := bcell hb1; clear hb1))
          all_goals go_ret
          all_goals exact ⟨by first | rfl | simp_all, N.out⟩
      · obtain ⟨h1, h2⟩ := str_ne hs
        simp only [hs, decide_true, decide_false, Bool.true_and, Bool.false_and]
        go_enter Tryd.func7, Tryd.ntmps7
        go_wp2
        go_ret
        exact ⟨rfl, W2 _ _⟩
    · have h1 : (n1 == n2) = false := by simpa using hn
      simp only [hn, decide_true, decide_false, Bool.true_and, Bool.false_and]
      go_enter Tryd.func7, Tryd.ntmps7
      go_wp2
      go_ret
      exact ⟨rfl, W2 _ _⟩
  · have h1 : (k1 == k2) = false := by simpa using hk
    simp only [hk, decide_false, Bool.false_and]
    go_enter Tryd.func7, Tryd.ntmps7
    go_wp2
    go_ret
    exact ⟨rfl, W2 _ _⟩

theorem alike_step (k1 n1 : Int) (s1 : ByteArray) (ks1 : List X) (ts1 : List T) (k2 n2 : Int) (s2 : ByteArray) (ks2 : List X) (ts2 : List T) (ih : ∀ (i : Nat) (h1 : i < ks1.length) (h2 : i < ks2.length), AlikeC 7 (ks1[i]'h1) (ks2[i]'h2)) :
    AlikeC 7 (.mk k1 n1 s1 ks1 ts1) (.mk k2 n2 s2 ks2 ts2) := by
  intro w cs ds ha hb
  obtain ⟨at1, A1, C1, B1, D1, p1, q1, r1, Z1, zl1, zc1, rfl, xa, ta⟩ := ha.inv
  obtain ⟨at2, A2, C2, B2, D2, p2, q2, r2, Z2, zl2, zc2, rfl, xb, tb⟩ := hb.inv
  rw [X.alike_mk]
  exact alike_cells k1 at1 n1 s1 ts1 A1 ks1.length C1 B1 D1 p1 q1 r1 Z1 zl1 zc1 k2 at2 n2 s2 ts2 A2 ks2.length C2 B2 D2 p2 q2 r2 Z2 zl2 zc2 w ta tb (X.alikes ks1 ks2) (fun w' hw => eqX_c ks1 ks2 ih A1 A2 C1 C2 w' (xa.below hw) (xb.below hw))

theorem alike_c (a b : X) : AlikeC 7 a b := X.both (p := AlikeC 7) alike_step a b

theorem eqXs_c (ls ms : List X) (A B : Option Addr) (C D : Nat) (w : World) (ha : XsIn w ls A) (hb : XsIn w ms B) :
    Calls Tryd.prog 18 #[.slice A ls.length C, .slice B ms.length D, .func (.func 7) #[] #[]] w fun e w' => e = .returned (.bool (X.alikes ls ms)) ∧ Below w.heap.size w w' :=
  eqX_c ls ms (fun _ _ _ => alike_c _ _) A B C D w ha hb

end Go.Proofs.YtdpmdonneoadbaaDoor
