/-
  Proved: the document's own comparison of two types answers whether they are wholly alike.
-/
import Derived.Test.YtdekgebpbopfpaaDoorFirst
namespace Go.Proofs.YtdekgebpbopfpaaDoor
open Go.RowKit

/-- What a call that compares two types answers. -/
def SameC (f : FuncId) (a b : T) : Prop := ∀ (w : World) (cs ds : List Value), TIn w a cs → TIn w b ds →
  Calls Tryd.prog f #[.agg cs.toArray, .agg ds.toArray] w fun e w' => e = .returned (.bool (T.same a b)) ∧ Below w.heap.size w w'

/-- The worlds in which nothing old has turned. -/
def After (w : World) : Type := { w' : World // Below w.heap.size w w' }

def After.w {w : World} (x : After w) : World := x.1
theorem After.has (w : World) : Nonempty (After w) := ⟨⟨w, Below.refl _ w⟩⟩
theorem After.below {w : World} (x : After w) : Below w.heap.size w x.w := x.2

theorem wp_region_after {P : Program} {id : Nat} {Q : Exit → Act → World → Prop} {a : Act} {w : World} {l : List Oper} (hm : P.follows .mixedOrders = true) (hB : Region.lexB .any l.toArray = true)
    (h : wpQuiet P l.toArray (fun w' => ∃ x : After w, w' = x.w) (fun a' => ∀ w', (∃ x : After w, w' = x.w) → Q .normal a' w') l a) : (Code.region id l.toArray true).wp P Q a w :=
  wp_region_quiet (C := fun w' => ∃ x : After w, w' = x.w) hm hB ⟨⟨w.drew, (Below.refl _ w).drew⟩, rfl⟩ (by simpa using h)

/-- A callee's contract, met in such a world. -/
theorem Calls.after {P : Program} {f : FuncId} {args : Array Value} {w : World} {x : After w} {v : Value} (h : Calls P f args x.w fun e w' => e = .returned v ∧ Below x.w.heap.size x.w w') : Calls P f args x.w fun e w'' => e = .returned v ∧ ∃ y : After w, w'' = y.w :=
  h.mono fun _ w'' ⟨he, hb⟩ => ⟨he, ⟨w'', below_next x.below hb⟩, rfl⟩

theorem After.cell {w : World} {a : Addr} {v : Value} (h : w.cell? a = some v) (x : After w) : x.w.cell? a = some v := by
  rw [← h]
  refine x.below.cell ?_
  unfold World.cell? at h
  split at h
  · rename_i hh; exact (Array.getElem?_eq_some_iff.1 hh).1
  · cases h

theorem rsame_step (k1 : Int) (s1 : ByteArray) (n1 : Int) (es1 : List T) (k2 : Int) (s2 : ByteArray) (n2 : Int) (es2 : List T) (ih : ∀ (i : Nat) (h1 : i < es1.length) (h2 : i < es2.length), SameC 12 (es1[i]'h1) (es2[i]'h2)) :
    SameC 12 (.mk k1 s1 n1 es1) (.mk k2 s2 n2 es2) := by
  intro w cs ds ha hb
  obtain ⟨A1, C1, rfl, ta⟩ := ha.inv
  obtain ⟨A2, C2, rfl, tb⟩ := hb.inv
  clear ha hb
  show Calls Tryd.prog 12 #[.agg #[.int .i64 k1, .string s1, .int .i64 n1, .slice A1 es1.length C1], .agg #[.int .i64 k2, .string s2, .int .i64 n2, .slice A2 es2.length C2]] w _
  have W2 : ∀ o1 o2, Below w.heap.size w ((w.alloc o1).alloc o2) := fun _ _ => below_next (below_alloc _ _) (below_alloc _ _)
  rw [T.same_mk]
  by_cases hk : k1 = k2
  · subst hk
    by_cases hs : s1 = s2
    · subst hs
      by_cases hn : n1 = n2
      · subst hn
        by_cases hlen : es1.length = es2.length
        · simp only [decide_true, Bool.true_and]
          generalize hR : T.sames es1 es2 = R
          have hl := ta.1
          have IH : Hid (∀ (i : Nat) (h1 : i < es1.length) (h2 : i < es2.length), SameC 12 (es1[i]'h1) (es2[i]'h2)) := ih
          have HA : Hid (TsIn w es1 A1) := ta
          have HB : Hid (TsIn w es2 A2) := tb
          have HL : Hid (es1.length = es2.length) := hlen
          have HR : Hid (T.sames es1 es2 = R) := hR
          have W2' : Hid (∀ o1 o2, Below w.heap.size w ((w.alloc o1).alloc o2)) := W2
          clear ih ta tb hR W2
          rw [← hlen]
          clear hlen
          go_enter Tryd.func12, Tryd.ntmps12
          go_wp2
          generalize hw2 : ((w.alloc (.cells #[.int .i64 k1, .string s1, .int .i64 n1, .slice A1 es1.length C1] 25)).alloc (.cells #[.int .i64 k1, .string s1, .int .i64 n1, .slice A2 es1.length C2] 25)) = w2
          have c0 : w2.cell? ⟨w.heap.size, 3, none⟩ = some (.slice A1 es1.length C1) := by subst hw2; go_simp
          have c1 : w2.cell? ⟨w.heap.size + 1, 3, none⟩ = some (.slice A2 es1.length C2) := by subst hw2; go_simp
          have hz : w.heap.size + 1 < w2.heap.size := by subst hw2; simp
          have WW : Hid (Below w.heap.size w w2) := by subst hw2; exact W2'.out _ _
          have D0 : Hid (w2.cell? ⟨w.heap.size, 3, none⟩ = some (.slice A1 es1.length C1) ∧ w2.cell? ⟨w.heap.size + 1, 3, none⟩ = some (.slice A2 es1.length C2)) := ⟨c0, c1⟩
          clear c0 c1 hw2
          go_loopw [5] (fun i wr => ∃ k : Nat, k ≤ es1.length ∧ i = .int .i64 (k : Int) ∧ T.sames (es1.drop k) (es2.drop k) = R ∧ Below w2.heap.size w2 wr) (fun i _ => es1.length - (intOf i).toNat)
          case atStart => exact ⟨0, Nat.zero_le _, rfl, HR.out, Below.refl _ _⟩
          case round =>
            obtain ⟨k, hk, rfl, hr, hw⟩ := hrel
            have HK : Hid (T.sames (es1.drop k) (es2.drop k) = R) := hr
            have HW : Hid (Below w2.heap.size w2 wr) := hw
            have HX : Hid (Below w.heap.size w wr) := below_next WW.out hw
            have d0 : wr.cell? ⟨w.heap.size, 3, none⟩ = some (.slice A1 es1.length C1) := (hw.cell (p := ⟨w.heap.size, 3, none⟩) (show w.heap.size < w2.heap.size by omega)).trans D0.out.1
            have d1 : wr.cell? ⟨w.heap.size + 1, 3, none⟩ = some (.slice A2 es1.length C2) := (hw.cell (p := ⟨w.heap.size + 1, 3, none⟩) hz).trans D0.out.2
            clear hr hw
            by_cases hlt : k < es1.length
            · have hlt2 : k < es2.length := by rw [← HL.out]; exact hlt
              obtain ⟨b1, o1, cs1, rfl, hr1, ht1⟩ := (HA.out.below HX.out).2 k hlt
              obtain ⟨b2, o2, cs2, rfl, hr2, ht2⟩ := (HB.out.below HX.out).2 k hlt2
              have hdr := T.sames_drop es1 es2 k hlt hlt2
              have key := IH.out k hlt hlt2
              generalize es1[k] = e1 at ht1 hdr key
              generalize es2[k] = e2 at ht2 hdr key
              obtain ⟨kk1, ss1, nn1, ees1⟩ := e1
              obtain ⟨kk2, ss2, nn2, ees2⟩ := e2
              have key' : ∀ w', Below wr.heap.size wr w' → _ := fun w' hw' => key w' cs1 cs2 (ht1.stays hw') (ht2.stays hw')
              obtain ⟨AA1, CC1, rfl, _⟩ := ht1.inv
              obtain ⟨AA2, CC2, rfl, _⟩ := ht2.inv
              have c10 := hr1.2 0 _ rfl
              have c11 := hr1.2 1 _ rfl
              have c12 := hr1.2 2 _ rfl
              have c13 := hr1.2 3 _ rfl
              have c20 := hr2.2 0 _ rfl
              have c21 := hr2.2 1 _ rfl
              have c22 := hr2.2 2 _ rfl
              have c23 := hr2.2 3 _ rfl
              simp only [Nat.add_zero] at c10 c20
              have x10 := fun x : After wr => After.cell c10 x
              have x11 := fun x : After wr => After.cell c11 x
              have x12 := fun x : After wr => After.cell c12 x
              have x13 := fun x : After wr => After.cell c13 x
              have x20 := fun x : After wr => After.cell c20 x
              have x21 := fun x : After wr => After.cell c21 x
              have x22 := fun x : After wr => After.cell c22 x
              have x23 := fun x : After wr => After.cell c23 x
              have y0 := fun x : After wr => After.cell d0 x
              have y1 := fun x : After wr => After.cell d1 x
              generalize T.same (.mk kk1 ss1 nn1 ees1) (.mk kk2 ss2 nn2 ees2) = S at hdr key'
              have KEY : Hid (∀ x : After wr, Calls Tryd.prog 12 #[.agg #[.int .i64 kk1, .string ss1, .int .i64 nn1, .slice AA1 ees1.length CC1], .agg #[.int .i64 kk2, .string ss2, .int .i64 nn2, .slice AA2 ees2.length CC2]] x.w fun e w'' => e = .returned (.bool S) ∧ Below x.w.heap.size x.w w'') := fun x => key' x.w x.below
              have HD : Hid (T.sames (es1.drop k) (es2.drop k) = (S && T.sames (es1.drop (k + 1)) (es2.drop (k + 1)))) := hdr
              clear key key' hdr hr1 hr2 ht1 ht2 c10 c11 c12 c13 c20 c21 c22 c23
              go_wp2
              haveI := After.has wr
              refine wp_region_after (by kernel_rfl) (by kernel_rfl) ?_
              repeat (quiet_step (exact Calls.after (KEY.out _)))
              refine wpQuiet_nil ?_
              intro _ hw'
              obtain ⟨xq, hw''⟩ := hw'
              subst hw''
              have M : Hid (Below wr.heap.size wr xq.w) := xq.below
              cases S with
              | true =>
                go_wp2
                go_roundw
                case rel => exact ⟨k + 1, by omega, by go_num, by have h1 := HK.out; rw [HD.out] at h1; simpa using h1, below_next HW.out M.out⟩
                case measure => simp [intOf]; omega
              | false =>
                go_wp2
                go_ret
                exact ⟨by have h1 := HK.out; rw [HD.out] at h1; simp at h1; subst h1; rfl, below_next HX.out M.out⟩
            · go_wp2
              go_ret
              exact ⟨by have h1 := HK.out; rw [List.drop_eq_nil_of_le (by omega), List.drop_eq_nil_of_le (by rw [← HL.out]; omega), T.sames_nil] at h1; exact congrArg (fun r => Ending.returned (Value.bool r)) h1, HX.out⟩
        · rw [T.sames_len hlen]
          simp only [Bool.and_false]
          have g1 : ¬ (es1.length : Int) = (es2.length : Int) := by omega
          have g2 : ((es1.length : Int) == (es2.length : Int)) = false := by simpa using g1
          have g3 : (es1.length == es2.length) = false := by simpa using hlen
          have g4 : ((es1.length : Int) != (es2.length : Int)) = true := by simpa using g1
          clear ih ta tb
          go_enter Tryd.func12, Tryd.ntmps12
          go_wp2
          go_ret
          exact ⟨rfl, W2 _ _⟩
      · have h1 : (n1 == n2) = false := by simpa using hn
        have h2 : (n1 != n2) = true := by simpa using hn
        simp only [hn, decide_false, Bool.and_false, Bool.false_and]
        clear ih ta tb
        go_enter Tryd.func12, Tryd.ntmps12
        go_wp2
        go_ret
        exact ⟨rfl, W2 _ _⟩
    · obtain ⟨h1, h2⟩ := str_ne hs
      have h3 : (s1.toList != s2.toList) = true := by simpa using h1
      simp only [hs, decide_false, Bool.and_false, Bool.false_and]
      clear ih ta tb
      go_enter Tryd.func12, Tryd.ntmps12
      go_wp2
      go_ret
      exact ⟨rfl, W2 _ _⟩
  · have h1 : (k1 == k2) = false := by simpa using hk
    have h2 : (k1 != k2) = true := by simpa using hk
    simp only [hk, decide_false, Bool.false_and]
    clear ih ta tb
    go_enter Tryd.func12, Tryd.ntmps12
    go_wp2
    go_ret
    exact ⟨rfl, W2 _ _⟩

theorem rsame_c (a b : T) : SameC 12 a b := T.both (p := SameC 12) rsame_step a b

end Go.Proofs.YtdekgebpbopfpaaDoor
