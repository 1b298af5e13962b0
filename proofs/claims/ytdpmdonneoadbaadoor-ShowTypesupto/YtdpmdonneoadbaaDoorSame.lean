/-
  Proved: show.sameType answers whether two types are wholly alike; slices.EqualFunc over it whether two lists of types are.
-/
import Derived.Test.YtdpmdonneoadbaaDoorTrees
namespace Go.Proofs.YtdpmdonneoadbaaDoor
open Go.RowKit

/-- What a call that compares two types answers. -/
def SameC (f : FuncId) (a b : T) : Prop := ∀ (w : World) (cs ds : List Value), TIn w a cs → TIn w b ds →
  Calls Tryd.prog f #[.agg cs.toArray, .agg ds.toArray] w fun e w' => e = .returned (.bool (T.same a b)) ∧ Below w.heap.size w w'

theorem eqT_c (ls ms : List T) (ih : ∀ i (h1 : i < ls.length) (h2 : i < ms.length), SameC 17 (ls[i]'h1) (ms[i]'h2)) (A B : Option Addr) (C D : Nat) (w : World) (ha : TsIn w ls A) (hb : TsIn w ms B) :
    Calls Tryd.prog 16 #[.slice A ls.length C, .slice B ms.length D, .func (.func 17) #[] #[]] w fun e w' => e = .returned (.bool (T.sames ls ms)) ∧ Below w.heap.size w w' := by
  by_cases hlen : ls.length = ms.length
  · generalize hR : T.sames ls ms = R
    have hl := ha.1
    have IH : Hid (∀ i (h1 : i < ls.length) (h2 : i < ms.length), SameC 17 (ls[i]'h1) (ms[i]'h2)) := ih
    have HA : Hid (TsIn w ls A) := ha
    have HB : Hid (TsIn w ms B) := hb
    have HL : Hid (ls.length = ms.length) := hlen
    have HR : Hid (T.sames ls ms = R) := hR
    clear ih ha hb hR
    rw [← hlen]
    clear hlen
    go_enter Tryd.func16, Tryd.ntmps16
    go_wp2
    go_loopw [17] (fun i wr => ∃ k : Nat, k ≤ ls.length ∧ i = .int .i64 (k : Int) ∧ T.sames (ls.drop k) (ms.drop k) = R ∧ Below w.heap.size w wr) (fun i _ => ls.length - (intOf i).toNat)
    case atStart => exact ⟨0, Nat.zero_le _, rfl, HR.out, Below.refl _ _⟩
    case round =>
      obtain ⟨k, hk, rfl, hr, hw⟩ := hrel
      have HK : Hid (T.sames (ls.drop k) (ms.drop k) = R) := hr
      have HW : Hid (Below w.heap.size w wr) := hw
      clear hr hw
      by_cases hlt : k < ls.length
      · have hlt2 : k < ms.length := by rw [← HL.out]; exact hlt
        obtain ⟨b1, o1, cs1, rfl, hr1, ht1⟩ := (HA.out.below HW.out).2 k hlt
        obtain ⟨b2, o2, cs2, rfl, hr2, ht2⟩ := (HB.out.below HW.out).2 k hlt2
        have hdr := T.sames_drop ls ms k hlt hlt2
        have key := IH.out k hlt hlt2
        generalize ls[k] = e1 at ht1 hdr key
        generalize ms[k] = e2 at ht2 hdr key
        obtain ⟨k1, s1, n1, es1⟩ := e1
        obtain ⟨k2, s2, n2, es2⟩ := e2
        have key' : ∀ w', Below wr.heap.size wr w' → _ := fun w' hw' => key w' cs1 cs2 (ht1.stays hw') (ht2.stays hw')
        obtain ⟨A1, C1, rfl, _⟩ := ht1.inv
        obtain ⟨A2, C2, rfl, _⟩ := ht2.inv
        have c10 := hr1.2 0 _ rfl
        have c11 := hr1.2 1 _ rfl
        have c12 := hr1.2 2 _ rfl
        have c13 := hr1.2 3 _ rfl
        have c20 := hr2.2 0 _ rfl
        have c21 := hr2.2 1 _ rfl
        have c22 := hr2.2 2 _ rfl
        have c23 := hr2.2 3 _ rfl
        have l1 := hr1.1
        have l2 := hr2.1
        simp only [Nat.add_zero] at c10 c20
        generalize T.same (.mk k1 s1 n1 es1) (.mk k2 s2 n2 es2) = S at hdr key'
        have KEY : Hid (∀ w', Below wr.heap.size wr w' → Calls Tryd.prog 17 #[.agg #[.int .i64 k1, .string s1, .int .i64 n1, .slice A1 es1.length C1], .agg #[.int .i64 k2, .string s2, .int .i64 n2, .slice A2 es2.length C2]] w' fun e w'' => e = .returned (.bool S) ∧ Below w'.heap.size w' w'') := key'
        have HD : Hid (T.sames (ls.drop k) (ms.drop k) = (S && T.sames (ls.drop (k + 1)) (ms.drop (k + 1)))) := hdr
        clear key key' hdr hr1 hr2 ht1 ht2
        cases S with
        | true =>
          go_wp2_with (go_at_call 17; refine (KEY.out _ (below_next (below_alloc _ _) (below_alloc _ _))).mono ?_; rintro e w1 ⟨rfl, hb1⟩; have M : Hid (Below wr.heap.size wr w1) := below_next (below_next (below_alloc _ _) (below_alloc _ _)) hb1; clear hb1)
          go_roundw
          case rel => exact ⟨k + 1, by omega, by go_num, by have h1 := HK.out; rw [HD.out] at h1; simpa using h1, below_next HW.out M.out⟩
          case measure => simp [intOf]; omega
        | false =>
          go_wp2_with (go_at_call 17; refine (KEY.out _ (below_next (below_alloc _ _) (below_alloc _ _))).mono ?_; rintro e w1 ⟨rfl, hb1⟩; have M : Hid (Below wr.heap.size wr w1) := below_next (below_next (below_alloc _ _) (below_alloc _ _)) hb1; clear hb1)
          go_ret
          exact ⟨by have h1 := HK.out; rw [HD.out] at h1; simp at h1; subst h1; rfl, below_next HW.out M.out⟩
      · go_wp2
        go_ret
        exact ⟨by have h1 := HK.out; rw [List.drop_eq_nil_of_le (by omega), List.drop_eq_nil_of_le (by rw [← HL.out]; omega), T.sames_nil] at h1; exact congrArg (fun r => Ending.returned (Value.bool r)) h1, HW.out⟩
  · have hf := T.sames_len hlen
    have g1 : ¬ (ls.length : Int) = (ms.length : Int) := by omega
    have g2 : ((ls.length : Int) == (ms.length : Int)) = false := by simpa using g1
    have g3 : (ls.length == ms.length) = false := by simpa using hlen
    rw [hf]
    clear ha hb ih hf
    go_enter Tryd.func16, Tryd.ntmps16
    go_wp2
    go_ret
    exact ⟨rfl, Below.refl _ _⟩

/-- The two calls' worlds: both types boxed. -/
theorem same_step (k1 : Int) (s1 : ByteArray) (n1 : Int) (es1 : List T) (k2 : Int) (s2 : ByteArray) (n2 : Int) (es2 : List T) (ih : ∀ (i : Nat) (h1 : i < es1.length) (h2 : i < es2.length), SameC 17 (es1[i]'h1) (es2[i]'h2)) :
    SameC 17 (.mk k1 s1 n1 es1) (.mk k2 s2 n2 es2) := by
  intro w cs ds ha hb
  obtain ⟨A1, C1, rfl, ta⟩ := ha.inv
  obtain ⟨A2, C2, rfl, tb⟩ := hb.inv
  clear ha hb
  have EQ : Hid (∀ w', Below w.heap.size w w' → Calls Tryd.prog 16 #[.slice A1 es1.length C1, .slice A2 es2.length C2, .func (.func 17) #[] #[]] w' fun e w'' => e = .returned (.bool (T.sames es1 es2)) ∧ Below w'.heap.size w' w'') :=
    fun w' hw => eqT_c es1 es2 ih A1 A2 C1 C2 w' (ta.below hw) (tb.below hw)
  clear ta tb ih
  show Calls Tryd.prog 17 #[.agg #[.int .i64 k1, .string s1, .int .i64 n1, .slice A1 es1.length C1], .agg #[.int .i64 k2, .string s2, .int .i64 n2, .slice A2 es2.length C2]] w _
  have W2 : ∀ o1 o2, Below w.heap.size w ((w.alloc o1).alloc o2) := fun _ _ => below_next (below_alloc _ _) (below_alloc _ _)
  rw [T.same_mk]
  generalize T.sames es1 es2 = S at EQ
  by_cases hk : k1 = k2
  · subst hk
    by_cases hs : s1 = s2
    · subst hs
      by_cases hn : n1 = n2
      · subst hn
        simp only [decide_true, Bool.true_and]
        go_enter Tryd.func17, Tryd.ntmps17
        go_wp2_with (go_at_call 16; refine (EQ.out _ (W2 _ _)).mono ?_; rintro e w1 ⟨rfl, hb1⟩; have M : Hid (Below w.heap.size w w1) := below_next (W2 _ _) hb1; clear hb1)
        all_goals go_ret
        all_goals exact ⟨by first | rfl | simp_all, M.out⟩
      · have h1 : (n1 == n2) = false := by simpa using hn
        simp only [hn, decide_true, decide_false, Bool.true_and, Bool.false_and]
        go_enter Tryd.func17, Tryd.ntmps17
        go_wp2
        go_ret
        exact ⟨rfl, W2 _ _⟩
    · obtain ⟨h1, h2⟩ := str_ne hs
      simp only [hs, decide_true, decide_false, Bool.true_and, Bool.false_and]
      go_enter Tryd.func17, Tryd.ntmps17
      go_wp2
      go_ret
      exact ⟨rfl, W2 _ _⟩
  · have h1 : (k1 == k2) = false := by simpa using hk
    simp only [hk, decide_false, Bool.false_and]
    go_enter Tryd.func17, Tryd.ntmps17
    go_wp2
    go_ret
    exact ⟨rfl, W2 _ _⟩

theorem same_c (a b : T) : SameC 17 a b := T.both (p := SameC 17) same_step a b

theorem eqTs_c (ls ms : List T) (A B : Option Addr) (C D : Nat) (w : World) (ha : TsIn w ls A) (hb : TsIn w ms B) :
    Calls Tryd.prog 16 #[.slice A ls.length C, .slice B ms.length D, .func (.func 17) #[] #[]] w fun e w' => e = .returned (.bool (T.sames ls ms)) ∧ Below w.heap.size w w' :=
  eqT_c ls ms (fun _ _ _ => same_c _ _) A B C D w ha hb

end Go.Proofs.YtdpmdonneoadbaaDoor
