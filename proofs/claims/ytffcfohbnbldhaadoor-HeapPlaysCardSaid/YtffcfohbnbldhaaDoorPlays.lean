/-
  Proved: HeapPlays answers true of every list of calls that lies in memory.
-/
import Derived.Test.YtffcfohbnbldhaaDoorBoth2
import Derived.Test.YtffcfohbnbldhaaDoorFillsW
namespace Go.Proofs.YtffcfohbnbldhaaDoor
open Go.RowKit

/-- A call, as cells. -/
def aL (p : Int × Int × Int × Int) : List Value := [.int .i64 p.1, .int .i64 p.2.1, .int .i64 p.2.2.1, .int .i64 p.2.2.2]
theorem aL_len (p : Int × Int × Int × Int) : (aL p).length = 4 := rfl

theorem clsV_tup (R : Option Nat) : ∃ a b c d, clsV R = .tuple #[.int .i64 a, .int .i64 b, .int .i64 c, .int .i64 d] := by
  cases R with
  | none => exact ⟨_, _, _, _, rfl⟩
  | some k => exact ⟨_, _, _, _, rfl⟩

set_option maxRecDepth 4000 in
set_option maxHeartbeats 8000000 in
theorem plays_walk (acts : List (Int × Int × Int × Int)) (A : Option Addr) (C : Nat) (w : World) (ht : Tab w) (hA : RowsIn w 4 aL acts A) (hl : acts.length ≤ 9223372036854775807) : Calls Tryd.prog 3 #[.slice A acts.length C] w fun e w' => e = .returned (.bool true) ∧ Below w.heap.size w w' := by
  have T : Hid (Tab w) := ht
  have RA : Hid (RowsIn w 4 aL acts A) := hA
  clear ht hA
  go_enter Tryd.func3, Tryd.ntmps3
  go_wp2_with (first
    | (go_at_call 8; refine (new_c _ T.out).mono ?_; rintro e w1 ⟨g, rfl, hw1, hH⟩; have N1 : Hid (Below w.heap.size w w1) := hw1; have H1 : Hid (HIn w1 w.heap.size g (fun _ _ => false)) := hH; have T1 : Hid (Tab w1) := T.out.below hw1 T.out.lt; clear hw1 hH)
    | go_in)
  rw [show (#[Value.bool true].getD 0 undef) = Value.bool true from rfl]
  have PS : Hid (PM w w.heap.size g w1.heap.size (w1.alloc (.cells #[.slice none 0 0] 28)).heap.size (fun _ _ => false) [] (.slice none 0 0) [] (.slice none 0 0) (w1.alloc (.cells #[.slice none 0 0] 28))) := by
    have e : (w1.alloc (.cells #[.slice none 0 0] 28)).heap.size = w1.heap.size + 1 := by simp
    refine ⟨H1.out.below (below_alloc _ _), ⟨At.new _ _ _, ⟨Nat.le_refl _, by simp, Or.inl ⟨rfl, rfl⟩⟩⟩, ⟨Nat.le_refl _, by simp, Or.inl ⟨rfl, rfl⟩⟩, below_next N1.out (below_alloc _ _), T1.out.below (below_alloc _ _) T1.out.lt, ?_, Nat.le_refl _, N1.out.size, ?_, T.out.lt⟩
    · have := (H1.out.rows 3 (by omega)).lt; omega
    · omega
  clear N1 H1 T1
  generalize w1.alloc (.cells #[.slice none 0 0] 28) = w2 at *
  go_loopw [5, 6] (fun tv i wr => ∃ (k : Nat) (us : Nat → Nat → Bool) (bs : List (Nat × Nat)) (lv : Value) (told : List Int), k ≤ acts.length ∧ k ≤ 300 ∧ i = .int .i64 (k : Int) ∧ PM w w.heap.size g w1.heap.size w2.heap.size us bs lv told tv wr ∧ Rel us bs ∧ bs.length ≤ k ∧ told.length ≤ k) (fun _ i _ => 300 - (intOf i).toNat)
  case atStart => exact ⟨0, _, _, _, _, by omega, by omega, rfl, PS.out, Rel.start, by simp, by simp⟩
  case round =>
    obtain ⟨k, us, bs, lv, told, hk1, hk2, rfl, hP, hR, hbl, htl⟩ := hrel
    have P : Hid (PM w w.heap.size g w1.heap.size w2.heap.size us bs lv told _ wr) := hP
    have RR : Hid (Rel us bs) := hR
    clear PS hP hR
    by_cases hk3 : k < acts.length ∧ k < 300
    · obtain ⟨hk3, hk4⟩ := hk3
      have hkz : (k : Int) < acts.length := by omega
      have hkz2 : (k : Int) < 300 := by omega
      obtain ⟨b, o, hAe, hrow⟩ := RA.out k hk3
      subst hAe
      have hrow' := hrow.below P.out.b
      obtain ⟨⟨kd, n, q, p⟩, hak⟩ : ∃ a, a = acts[k] := ⟨_, rfl⟩
      rw [← hak] at hrow'
      have c0 := hrow'.2 0 _ rfl
      have c1 := hrow'.2 1 _ rfl
      have c2 := hrow'.2 2 _ rfl
      have c3 := hrow'.2 3 _ rfl
      have hbl2 : b < wr.heap.size := hrow'.1
      simp only [Nat.add_zero] at c0 c1 c2 c3
      clear hrow hrow' hak
      have HB0 : Hid (bs.length ≤ 1000) := (by omega : bs.length ≤ 1000)
      have HT0 : Hid (told.length ≤ 1000) := (by omega : told.length ≤ 1000)
      obtain ⟨x1, x2, x3, x4, hcv⟩ := clsV_tup (clsOf n)
      by_cases kd0 : kd = 0
      · subst kd0
        as_aux_lemma =>
          have PA0 : Hid (PA w w.heap.size g w1.heap.size w2.heap.size us bs lv told u5 wr.heap.size #[.int .i64 0, .int .i64 n, .int .i64 q, .int .i64 p] (wr.alloc (.cells #[.int .i64 0, .int .i64 n, .int .i64 q, .int .i64 p] 32))) := ⟨P.out.below (below_alloc _ _), At.new _ _ _⟩
          have KA := PA0.out.alloc n
          have KB : ∀ W, PA w w.heap.size g w1.heap.size w2.heap.size (alA us (clsOf n)).2.2 bs lv told u5 wr.heap.size #[.int .i64 0, .int .i64 n, .int .i64 q, .int .i64 p] W → _ := fun W (hW : PA w w.heap.size g w1.heap.size w2.heap.size (alA us (clsOf n)).2.2 bs lv told u5 wr.heap.size #[.int .i64 0, .int .i64 n, .int .i64 q, .int .i64 p] W) => hW.ralloc RR.out HB0.out n
          have R3 := RR.out.allocA n
          have L3 := bsA_len (us := us) (bs := bs) (clsOf n)
          generalize (alA us (clsOf n)).1 = X at KA KB
          generalize (alA us (clsOf n)).2.1 = E at KA KB
          generalize (alA us (clsOf n)).2.2 = us3 at KA KB R3
          generalize bsA us bs (clsOf n) = bs4 at KB R3 L3
          have KA : Hid (Calls Tryd.prog 10 #[.pointer (some ⟨w.heap.size, 0, none⟩), .int .i64 n] (wr.alloc (.cells #[.int .i64 0, .int .i64 n, .int .i64 q, .int .i64 p] 32)) fun e w' => e = .returned (.tuple #[.int .i64 X, .int .i64 E]) ∧ PA w w.heap.size g w1.heap.size w2.heap.size us3 bs lv told u5 wr.heap.size #[.int .i64 0, .int .i64 n, .int .i64 q, .int .i64 p] w') := KA
          have KB : Hid (∀ W, PA w w.heap.size g w1.heap.size w2.heap.size us3 bs lv told u5 wr.heap.size #[.int .i64 0, .int .i64 n, .int .i64 q, .int .i64 p] W → Calls Tryd.prog 11 #[.pointer (some ⟨w1.heap.size, 0, none⟩), .int .i64 n] W fun e w' => e = .returned (.tuple #[.int .i64 X, .int .i64 E]) ∧ ∃ lv', PA w w.heap.size g w1.heap.size w2.heap.size us3 bs4 lv' told u5 wr.heap.size #[.int .i64 0, .int .i64 n, .int .i64 q, .int .i64 p] w') := KB
          have R8 : Hid (Rel us3 bs4) := R3
          have HB8 : Hid (bs4.length ≤ 1000) := (by omega : bs4.length ≤ 1000)
          have L8 : Hid (bs4.length ≤ k + 1) := (by omega : bs4.length ≤ k + 1)
          have T8 : Hid ((told ++ [X]).length ≤ k + 1) := (by simp; omega : (told ++ [X]).length ≤ k + 1)
          clear R3 L3
          go_wp2_with (first
          | (go_at_call 10; refine KA.out.mono ?_; rintro e w3 ⟨rfl, h3⟩; have P3 : Hid (PA w w.heap.size g w1.heap.size w2.heap.size us3 bs lv told u5 wr.heap.size #[.int .i64 0, .int .i64 n, .int .i64 q, .int .i64 p] w3) := h3; have d0 : w3.cell? ⟨wr.heap.size, 0, none⟩ = some (.int .i64 0) := (h3.a.cell 0).trans rfl; have d1 : w3.cell? ⟨wr.heap.size, 1, none⟩ = some (.int .i64 n) := (h3.a.cell 1).trans rfl; have d2 : w3.cell? ⟨wr.heap.size, 2, none⟩ = some (.int .i64 q) := (h3.a.cell 2).trans rfl; have d3 : w3.cell? ⟨wr.heap.size, 3, none⟩ = some (.int .i64 p) := (h3.a.cell 3).trans rfl; clear h3)
          | (go_at_call 11; refine (KB.out _ P3.out).mono ?_; rintro e w4 ⟨rfl, lv4, h4⟩; have P4 : Hid (PA w w.heap.size g w1.heap.size w2.heap.size us3 bs4 lv4 told u5 wr.heap.size #[.int .i64 0, .int .i64 n, .int .i64 q, .int .i64 p] w4) := h4; have d0 : w4.cell? ⟨wr.heap.size, 0, none⟩ = some (.int .i64 0) := (h4.a.cell 0).trans rfl; have d1 : w4.cell? ⟨wr.heap.size, 1, none⟩ = some (.int .i64 n) := (h4.a.cell 1).trans rfl; have d2 : w4.cell? ⟨wr.heap.size, 2, none⟩ = some (.int .i64 q) := (h4.a.cell 2).trans rfl; have d3 : w4.cell? ⟨wr.heap.size, 3, none⟩ = some (.int .i64 p) := (h4.a.cell 3).trans rfl; clear h4)
          | (refine OwnB.appendLK _ rfl _ _ rfl _ rfl X (P4.out.below (below_alloc _ _)).pm.t ⟨w4.heap.size, 0, none⟩ 1 rfl (fun j u hj => cells_new _ (iL X) 3 j u hj) HT0.out ?_; intro tv5 w5 h5 k5 m5; have P5 : Hid (PA w w.heap.size g w1.heap.size w2.heap.size us3 bs4 lv4 (told ++ [X]) tv5 wr.heap.size #[.int .i64 0, .int .i64 n, .int .i64 q, .int .i64 p] w5) := (P4.out.below (below_alloc _ _)).byT h5 k5 m5; have h6 := P5.out; have d0 : w5.cell? ⟨wr.heap.size, 0, none⟩ = some (.int .i64 0) := (h6.a.cell 0).trans rfl; have d1 : w5.cell? ⟨wr.heap.size, 1, none⟩ = some (.int .i64 n) := (h6.a.cell 1).trans rfl; have d2 : w5.cell? ⟨wr.heap.size, 2, none⟩ = some (.int .i64 q) := (h6.a.cell 2).trans rfl; have d3 : w5.cell? ⟨wr.heap.size, 3, none⟩ = some (.int .i64 p) := (h6.a.cell 3).trans rfl; clear h5 k5 m5 h6)
          | (go_at_call 14; refine (P5.out.class n).mono ?_; rintro e w8 ⟨rfl, h8⟩; rw [hcv]; have P8 : Hid (PA w w.heap.size g w1.heap.size w2.heap.size us3 bs4 lv4 (told ++ [X]) tv5 wr.heap.size #[.int .i64 0, .int .i64 n, .int .i64 q, .int .i64 p] w8) := h8; have d0 : w8.cell? ⟨wr.heap.size, 0, none⟩ = some (.int .i64 0) := (h8.a.cell 0).trans rfl; have d1 : w8.cell? ⟨wr.heap.size, 1, none⟩ = some (.int .i64 n) := (h8.a.cell 1).trans rfl; have d2 : w8.cell? ⟨wr.heap.size, 2, none⟩ = some (.int .i64 q) := (h8.a.cell 2).trans rfl; have d3 : w8.cell? ⟨wr.heap.size, 3, none⟩ = some (.int .i64 p) := (h8.a.cell 3).trans rfl; clear h8)
          | (go_at_call 15; refine (rclass_c n _).mono ?_; rintro e w9 ⟨rfl, h9⟩; rw [hcv, h9]; clear h9 w9))
          have KL : Hid (∀ y : After w8, Calls Tryd.prog 16 #[.pointer (some ⟨w.heap.size, 0, none⟩), .int .i64 q] y.w fun e w' => e = .returned (.int .i64 (liA us3 q : Int)) ∧ Below y.w.heap.size y.w w') := fun y => live_c (P8.out.pm.h.below y.below) q
          have KR : Hid (∀ y : After w8, Calls Tryd.prog 17 #[.pointer (some ⟨w1.heap.size, 0, none⟩), .int .i64 q] y.w fun e w' => e = .returned (.int .i64 (liA us3 q : Int)) ∧ Below y.w.heap.size y.w w') := fun y => by
            have := rlive_c (P8.out.pm.r.below y.below) HB8.out q
            rw [← R8.out.live q] at this
            exact this
          have KW : Hid (∀ (y : After w8) (x m : Int), Calls Tryd.prog 18 #[.pointer (some ⟨w.heap.size, 0, none⟩), .int .i64 x, .int .i64 m] y.w fun e w' => e = .returned (.bool (wB bs4 x m).isSome) ∧ Below y.w.heap.size y.w w') := fun y x m => by
            have := within_c (P8.out.pm.h.below y.below) x m (P8.out.pm.tab.below y.below P8.out.pm.tab.lt)
            rw [R8.out.within x m] at this
            exact this
          have KV : Hid (∀ (y : After w8) (x m : Int), Calls Tryd.prog 19 #[.pointer (some ⟨w1.heap.size, 0, none⟩), .int .i64 x, .int .i64 m] y.w fun e w' => e = .returned (.bool (wB bs4 x m).isSome) ∧ Below y.w.heap.size y.w w') := fun y x m => rwithin_c (P8.out.pm.r.below y.below) HB8.out R8.out.ok x m
          have d1 := After.cell d1
          have d2 := After.cell d2
          have d3 := After.cell d3
          generalize (liA us3 q : Int) = LQ at KL KR
          haveI := After.has w8
          refine wp_region_after (by kernel_rfl) (by kernel_rfl) ?_
          repeat (quiet_step ((first
            | (go_at_call 16; exact Calls.after (KL.out _))
            | (go_at_call 17; exact Calls.after (KR.out _))
            | (go_at_call 18; exact Calls.after (KW.out _ _ _))
            | (go_at_call 19; exact Calls.after (KV.out _ _ _)))))
          refine wpQuiet_nil ?_
          intro _ hw'
          obtain ⟨xq, hw''⟩ := hw'
          subst hw''
          have PZ : Hid (PM w w.heap.size g w1.heap.size w2.heap.size us3 bs4 lv4 (told ++ [X]) _ xq.w) := P8.out.pm.below xq.below
          clear d1 d2 d3
          go_wp2
          go_roundw
          case rel => exact ⟨k + 1, us3, bs4, lv4, (told ++ [X]), by omega, by omega, by go_num, PZ.out, R8.out, L8.out, T8.out⟩
          case measure => simp [intOf]; omega
      by_cases kd1 : kd = 1
      · subst kd1
        rcases Nat.eq_zero_or_pos told.length with htl0 | htl0
        · have htl1 := htl0
          as_aux_lemma =>
            obtain ⟨TA, TC, htv, hsh⟩ := P.out.t.shape
            rw [htl0] at htv
            subst htv
            have PA0 : Hid (PA w w.heap.size g w1.heap.size w2.heap.size us bs lv told (.slice TA 0 TC) wr.heap.size #[.int .i64 1, .int .i64 n, .int .i64 q, .int .i64 p] (wr.alloc (.cells #[.int .i64 1, .int .i64 n, .int .i64 q, .int .i64 p] 32))) := ⟨P.out.below (below_alloc _ _), At.new _ _ _⟩
            have KA := PA0.out.free (p)
            have KB : ∀ W, PA w w.heap.size g w1.heap.size w2.heap.size (frA us (p) (atOf (p))).2 bs lv told (.slice TA 0 TC) wr.heap.size #[.int .i64 1, .int .i64 n, .int .i64 q, .int .i64 p] W → _ := fun W (hW : PA w w.heap.size g w1.heap.size w2.heap.size (frA us (p) (atOf (p))).2 bs lv told (.slice TA 0 TC) wr.heap.size #[.int .i64 1, .int .i64 n, .int .i64 q, .int .i64 p] W) => hW.rfree RR.out HB0.out (p)
            have R3 := (RR.out.free (p)).2
            have L3 := bsF_len (bs := bs) (fx bs (p))
            generalize (frA us (p) (atOf (p))).1 = E at KA KB
            generalize (frA us (p) (atOf (p))).2 = us3 at KA KB R3
            generalize bsF bs (fx bs (p)) = bs4 at KB R3 L3
            have KA : Hid (Calls Tryd.prog 12 #[.pointer (some ⟨w.heap.size, 0, none⟩), .int .i64 (p)] (wr.alloc (.cells #[.int .i64 1, .int .i64 n, .int .i64 q, .int .i64 p] 32)) fun e w' => e = .returned (.int .i64 E) ∧ PA w w.heap.size g w1.heap.size w2.heap.size us3 bs lv told (.slice TA 0 TC) wr.heap.size #[.int .i64 1, .int .i64 n, .int .i64 q, .int .i64 p] w') := KA
            have KB : Hid (∀ W, PA w w.heap.size g w1.heap.size w2.heap.size us3 bs lv told (.slice TA 0 TC) wr.heap.size #[.int .i64 1, .int .i64 n, .int .i64 q, .int .i64 p] W → Calls Tryd.prog 13 #[.pointer (some ⟨w1.heap.size, 0, none⟩), .int .i64 (p)] W fun e w' => e = .returned (.int .i64 E) ∧ ∃ lv', PA w w.heap.size g w1.heap.size w2.heap.size us3 bs4 lv' told (.slice TA 0 TC) wr.heap.size #[.int .i64 1, .int .i64 n, .int .i64 q, .int .i64 p] w') := KB
            have R8 : Hid (Rel us3 bs4) := R3
            have HB8 : Hid (bs4.length ≤ 1000) := (by omega : bs4.length ≤ 1000)
            have L8 : Hid (bs4.length ≤ k + 1) := (by omega : bs4.length ≤ k + 1)
            have T8 : Hid (told.length ≤ k + 1) := (by omega : told.length ≤ k + 1)
            clear R3 L3
            go_wp2_with (first
            | (go_at_call 12; refine KA.out.mono ?_; rintro e w3 ⟨rfl, h3⟩; have P3 : Hid (PA w w.heap.size g w1.heap.size w2.heap.size us3 bs lv told (.slice TA 0 TC) wr.heap.size #[.int .i64 1, .int .i64 n, .int .i64 q, .int .i64 p] w3) := h3; have d0 : w3.cell? ⟨wr.heap.size, 0, none⟩ = some (.int .i64 1) := (h3.a.cell 0).trans rfl; have d1 : w3.cell? ⟨wr.heap.size, 1, none⟩ = some (.int .i64 n) := (h3.a.cell 1).trans rfl; have d2 : w3.cell? ⟨wr.heap.size, 2, none⟩ = some (.int .i64 q) := (h3.a.cell 2).trans rfl; have d3 : w3.cell? ⟨wr.heap.size, 3, none⟩ = some (.int .i64 p) := (h3.a.cell 3).trans rfl; clear h3)
            | (go_at_call 13; refine (KB.out _ P3.out).mono ?_; rintro e w4 ⟨rfl, lv4, h4⟩; have P4 : Hid (PA w w.heap.size g w1.heap.size w2.heap.size us3 bs4 lv4 told (.slice TA 0 TC) wr.heap.size #[.int .i64 1, .int .i64 n, .int .i64 q, .int .i64 p] w4) := h4; have d0 : w4.cell? ⟨wr.heap.size, 0, none⟩ = some (.int .i64 1) := (h4.a.cell 0).trans rfl; have d1 : w4.cell? ⟨wr.heap.size, 1, none⟩ = some (.int .i64 n) := (h4.a.cell 1).trans rfl; have d2 : w4.cell? ⟨wr.heap.size, 2, none⟩ = some (.int .i64 q) := (h4.a.cell 2).trans rfl; have d3 : w4.cell? ⟨wr.heap.size, 3, none⟩ = some (.int .i64 p) := (h4.a.cell 3).trans rfl; clear h4)
            | (go_at_call 14; refine (P4.out.class n).mono ?_; rintro e w8 ⟨rfl, h8⟩; rw [hcv]; have P8 : Hid (PA w w.heap.size g w1.heap.size w2.heap.size us3 bs4 lv4 told (.slice TA 0 TC) wr.heap.size #[.int .i64 1, .int .i64 n, .int .i64 q, .int .i64 p] w8) := h8; have d0 : w8.cell? ⟨wr.heap.size, 0, none⟩ = some (.int .i64 1) := (h8.a.cell 0).trans rfl; have d1 : w8.cell? ⟨wr.heap.size, 1, none⟩ = some (.int .i64 n) := (h8.a.cell 1).trans rfl; have d2 : w8.cell? ⟨wr.heap.size, 2, none⟩ = some (.int .i64 q) := (h8.a.cell 2).trans rfl; have d3 : w8.cell? ⟨wr.heap.size, 3, none⟩ = some (.int .i64 p) := (h8.a.cell 3).trans rfl; clear h8)
            | (go_at_call 15; refine (rclass_c n _).mono ?_; rintro e w9 ⟨rfl, h9⟩; rw [hcv, h9]; clear h9 w9))
            have KL : Hid (∀ y : After w8, Calls Tryd.prog 16 #[.pointer (some ⟨w.heap.size, 0, none⟩), .int .i64 q] y.w fun e w' => e = .returned (.int .i64 (liA us3 q : Int)) ∧ Below y.w.heap.size y.w w') := fun y => live_c (P8.out.pm.h.below y.below) q
            have KR : Hid (∀ y : After w8, Calls Tryd.prog 17 #[.pointer (some ⟨w1.heap.size, 0, none⟩), .int .i64 q] y.w fun e w' => e = .returned (.int .i64 (liA us3 q : Int)) ∧ Below y.w.heap.size y.w w') := fun y => by
              have := rlive_c (P8.out.pm.r.below y.below) HB8.out q
              rw [← R8.out.live q] at this
              exact this
            have KW : Hid (∀ (y : After w8) (x m : Int), Calls Tryd.prog 18 #[.pointer (some ⟨w.heap.size, 0, none⟩), .int .i64 x, .int .i64 m] y.w fun e w' => e = .returned (.bool (wB bs4 x m).isSome) ∧ Below y.w.heap.size y.w w') := fun y x m => by
              have := within_c (P8.out.pm.h.below y.below) x m (P8.out.pm.tab.below y.below P8.out.pm.tab.lt)
              rw [R8.out.within x m] at this
              exact this
            have KV : Hid (∀ (y : After w8) (x m : Int), Calls Tryd.prog 19 #[.pointer (some ⟨w1.heap.size, 0, none⟩), .int .i64 x, .int .i64 m] y.w fun e w' => e = .returned (.bool (wB bs4 x m).isSome) ∧ Below y.w.heap.size y.w w') := fun y x m => rwithin_c (P8.out.pm.r.below y.below) HB8.out R8.out.ok x m
            have d1 := After.cell d1
            have d2 := After.cell d2
            have d3 := After.cell d3
            generalize (liA us3 q : Int) = LQ at KL KR
            haveI := After.has w8
            refine wp_region_after (by kernel_rfl) (by kernel_rfl) ?_
            repeat (quiet_step ((first
              | (go_at_call 16; exact Calls.after (KL.out _))
              | (go_at_call 17; exact Calls.after (KR.out _))
              | (go_at_call 18; exact Calls.after (KW.out _ _ _))
              | (go_at_call 19; exact Calls.after (KV.out _ _ _)))))
            refine wpQuiet_nil ?_
            intro _ hw'
            obtain ⟨xq, hw''⟩ := hw'
            subst hw''
            have PZ : Hid (PM w w.heap.size g w1.heap.size w2.heap.size us3 bs4 lv4 told _ xq.w) := P8.out.pm.below xq.below
            clear d1 d2 d3
            go_wp2
            go_roundw
            case rel => exact ⟨k + 1, us3, bs4, lv4, told, by omega, by omega, by go_num, PZ.out, R8.out, L8.out, T8.out⟩
            case measure => simp [intOf]; omega
        · have htl1 := htl0
          as_aux_lemma =>
            obtain ⟨TA, TC, htv, hsh⟩ := P.out.t.shape
            obtain ⟨TB, hTA, _, hTB, hTC⟩ := hsh (by omega)
            subst hTA
            subst htv
            clear hsh
            obtain ⟨t, ht1, ht2⟩ := turn_of q (told.length : Int) (by omega) (by omega)
            have ht3 : t < told.length := by omega
            have htz : (t : Int) < (told.length : Int) := ht2
            have hlz : ¬ (told.length : Int) = 0 := by omega
            have hlp : (0 : Int) < (told.length : Int) := by omega
            have PA0 : Hid (PA w w.heap.size g w1.heap.size w2.heap.size us bs lv told (.slice (some ⟨TB, 0, none⟩) told.length TC) wr.heap.size #[.int .i64 1, .int .i64 n, .int .i64 q, .int .i64 p] (wr.alloc (.cells #[.int .i64 1, .int .i64 n, .int .i64 q, .int .i64 p] 32))) := ⟨P.out.below (below_alloc _ _), At.new _ _ _⟩
            have hce : (wr.alloc (.cells #[.int .i64 1, .int .i64 n, .int .i64 q, .int .i64 p] 32)).cell? ⟨TB, t, none⟩ = some (.int .i64 told[t]) := PA0.out.pm.t.icell t ht3
            have KA := PA0.out.free (told[t])
            have KB : ∀ W, PA w w.heap.size g w1.heap.size w2.heap.size (frA us (told[t]) (atOf (told[t]))).2 bs lv told (.slice (some ⟨TB, 0, none⟩) told.length TC) wr.heap.size #[.int .i64 1, .int .i64 n, .int .i64 q, .int .i64 p] W → _ := fun W (hW : PA w w.heap.size g w1.heap.size w2.heap.size (frA us (told[t]) (atOf (told[t]))).2 bs lv told (.slice (some ⟨TB, 0, none⟩) told.length TC) wr.heap.size #[.int .i64 1, .int .i64 n, .int .i64 q, .int .i64 p] W) => hW.rfree RR.out HB0.out (told[t])
            have R3 := (RR.out.free (told[t])).2
            have L3 := bsF_len (bs := bs) (fx bs (told[t]))
            generalize (frA us (told[t]) (atOf (told[t]))).1 = E at KA KB
            generalize (frA us (told[t]) (atOf (told[t]))).2 = us3 at KA KB R3
            generalize bsF bs (fx bs (told[t])) = bs4 at KB R3 L3
            have KA : Hid (Calls Tryd.prog 12 #[.pointer (some ⟨w.heap.size, 0, none⟩), .int .i64 (told[t])] (wr.alloc (.cells #[.int .i64 1, .int .i64 n, .int .i64 q, .int .i64 p] 32)) fun e w' => e = .returned (.int .i64 E) ∧ PA w w.heap.size g w1.heap.size w2.heap.size us3 bs lv told (.slice (some ⟨TB, 0, none⟩) told.length TC) wr.heap.size #[.int .i64 1, .int .i64 n, .int .i64 q, .int .i64 p] w') := KA
            have KB : Hid (∀ W, PA w w.heap.size g w1.heap.size w2.heap.size us3 bs lv told (.slice (some ⟨TB, 0, none⟩) told.length TC) wr.heap.size #[.int .i64 1, .int .i64 n, .int .i64 q, .int .i64 p] W → Calls Tryd.prog 13 #[.pointer (some ⟨w1.heap.size, 0, none⟩), .int .i64 (told[t])] W fun e w' => e = .returned (.int .i64 E) ∧ ∃ lv', PA w w.heap.size g w1.heap.size w2.heap.size us3 bs4 lv' told (.slice (some ⟨TB, 0, none⟩) told.length TC) wr.heap.size #[.int .i64 1, .int .i64 n, .int .i64 q, .int .i64 p] w') := KB
            have R8 : Hid (Rel us3 bs4) := R3
            have HB8 : Hid (bs4.length ≤ 1000) := (by omega : bs4.length ≤ 1000)
            have L8 : Hid (bs4.length ≤ k + 1) := (by omega : bs4.length ≤ k + 1)
            have T8 : Hid (told.length ≤ k + 1) := (by omega : told.length ≤ k + 1)
            clear R3 L3
            go_wp2_with (first
            | (go_at_call 12; refine KA.out.mono ?_; rintro e w3 ⟨rfl, h3⟩; have P3 : Hid (PA w w.heap.size g w1.heap.size w2.heap.size us3 bs lv told (.slice (some ⟨TB, 0, none⟩) told.length TC) wr.heap.size #[.int .i64 1, .int .i64 n, .int .i64 q, .int .i64 p] w3) := h3; have d0 : w3.cell? ⟨wr.heap.size, 0, none⟩ = some (.int .i64 1) := (h3.a.cell 0).trans rfl; have d1 : w3.cell? ⟨wr.heap.size, 1, none⟩ = some (.int .i64 n) := (h3.a.cell 1).trans rfl; have d2 : w3.cell? ⟨wr.heap.size, 2, none⟩ = some (.int .i64 q) := (h3.a.cell 2).trans rfl; have d3 : w3.cell? ⟨wr.heap.size, 3, none⟩ = some (.int .i64 p) := (h3.a.cell 3).trans rfl; clear h3)
            | (go_at_call 13; refine (KB.out _ P3.out).mono ?_; rintro e w4 ⟨rfl, lv4, h4⟩; have P4 : Hid (PA w w.heap.size g w1.heap.size w2.heap.size us3 bs4 lv4 told (.slice (some ⟨TB, 0, none⟩) told.length TC) wr.heap.size #[.int .i64 1, .int .i64 n, .int .i64 q, .int .i64 p] w4) := h4; have d0 : w4.cell? ⟨wr.heap.size, 0, none⟩ = some (.int .i64 1) := (h4.a.cell 0).trans rfl; have d1 : w4.cell? ⟨wr.heap.size, 1, none⟩ = some (.int .i64 n) := (h4.a.cell 1).trans rfl; have d2 : w4.cell? ⟨wr.heap.size, 2, none⟩ = some (.int .i64 q) := (h4.a.cell 2).trans rfl; have d3 : w4.cell? ⟨wr.heap.size, 3, none⟩ = some (.int .i64 p) := (h4.a.cell 3).trans rfl; clear h4)
            | (go_at_call 14; refine (P4.out.class n).mono ?_; rintro e w8 ⟨rfl, h8⟩; rw [hcv]; have P8 : Hid (PA w w.heap.size g w1.heap.size w2.heap.size us3 bs4 lv4 told (.slice (some ⟨TB, 0, none⟩) told.length TC) wr.heap.size #[.int .i64 1, .int .i64 n, .int .i64 q, .int .i64 p] w8) := h8; have d0 : w8.cell? ⟨wr.heap.size, 0, none⟩ = some (.int .i64 1) := (h8.a.cell 0).trans rfl; have d1 : w8.cell? ⟨wr.heap.size, 1, none⟩ = some (.int .i64 n) := (h8.a.cell 1).trans rfl; have d2 : w8.cell? ⟨wr.heap.size, 2, none⟩ = some (.int .i64 q) := (h8.a.cell 2).trans rfl; have d3 : w8.cell? ⟨wr.heap.size, 3, none⟩ = some (.int .i64 p) := (h8.a.cell 3).trans rfl; clear h8)
            | (go_at_call 15; refine (rclass_c n _).mono ?_; rintro e w9 ⟨rfl, h9⟩; rw [hcv, h9]; clear h9 w9))
            have KL : Hid (∀ y : After w8, Calls Tryd.prog 16 #[.pointer (some ⟨w.heap.size, 0, none⟩), .int .i64 q] y.w fun e w' => e = .returned (.int .i64 (liA us3 q : Int)) ∧ Below y.w.heap.size y.w w') := fun y => live_c (P8.out.pm.h.below y.below) q
            have KR : Hid (∀ y : After w8, Calls Tryd.prog 17 #[.pointer (some ⟨w1.heap.size, 0, none⟩), .int .i64 q] y.w fun e w' => e = .returned (.int .i64 (liA us3 q : Int)) ∧ Below y.w.heap.size y.w w') := fun y => by
              have := rlive_c (P8.out.pm.r.below y.below) HB8.out q
              rw [← R8.out.live q] at this
              exact this
            have KW : Hid (∀ (y : After w8) (x m : Int), Calls Tryd.prog 18 #[.pointer (some ⟨w.heap.size, 0, none⟩), .int .i64 x, .int .i64 m] y.w fun e w' => e = .returned (.bool (wB bs4 x m).isSome) ∧ Below y.w.heap.size y.w w') := fun y x m => by
              have := within_c (P8.out.pm.h.below y.below) x m (P8.out.pm.tab.below y.below P8.out.pm.tab.lt)
              rw [R8.out.within x m] at this
              exact this
            have KV : Hid (∀ (y : After w8) (x m : Int), Calls Tryd.prog 19 #[.pointer (some ⟨w1.heap.size, 0, none⟩), .int .i64 x, .int .i64 m] y.w fun e w' => e = .returned (.bool (wB bs4 x m).isSome) ∧ Below y.w.heap.size y.w w') := fun y x m => rwithin_c (P8.out.pm.r.below y.below) HB8.out R8.out.ok x m
            have d1 := After.cell d1
            have d2 := After.cell d2
            have d3 := After.cell d3
            generalize (liA us3 q : Int) = LQ at KL KR
            haveI := After.has w8
            refine wp_region_after (by kernel_rfl) (by kernel_rfl) ?_
            repeat (quiet_step ((first
              | (go_at_call 16; exact Calls.after (KL.out _))
              | (go_at_call 17; exact Calls.after (KR.out _))
              | (go_at_call 18; exact Calls.after (KW.out _ _ _))
              | (go_at_call 19; exact Calls.after (KV.out _ _ _)))))
            refine wpQuiet_nil ?_
            intro _ hw'
            obtain ⟨xq, hw''⟩ := hw'
            subst hw''
            have PZ : Hid (PM w w.heap.size g w1.heap.size w2.heap.size us3 bs4 lv4 told _ xq.w) := P8.out.pm.below xq.below
            clear d1 d2 d3
            go_wp2
            go_roundw
            case rel => exact ⟨k + 1, us3, bs4, lv4, told, by omega, by omega, by go_num, PZ.out, R8.out, L8.out, T8.out⟩
            case measure => simp [intOf]; omega
      by_cases kd2 : kd = 2
      · subst kd2
        as_aux_lemma =>
          have PA0 : Hid (PA w w.heap.size g w1.heap.size w2.heap.size us bs lv told u5 wr.heap.size #[.int .i64 2, .int .i64 n, .int .i64 q, .int .i64 p] (wr.alloc (.cells #[.int .i64 2, .int .i64 n, .int .i64 q, .int .i64 p] 32))) := ⟨P.out.below (below_alloc _ _), At.new _ _ _⟩
          have KA := PA0.out.free (p)
          have KB : ∀ W, PA w w.heap.size g w1.heap.size w2.heap.size (frA us (p) (atOf (p))).2 bs lv told u5 wr.heap.size #[.int .i64 2, .int .i64 n, .int .i64 q, .int .i64 p] W → _ := fun W (hW : PA w w.heap.size g w1.heap.size w2.heap.size (frA us (p) (atOf (p))).2 bs lv told u5 wr.heap.size #[.int .i64 2, .int .i64 n, .int .i64 q, .int .i64 p] W) => hW.rfree RR.out HB0.out (p)
          have R3 := (RR.out.free (p)).2
          have L3 := bsF_len (bs := bs) (fx bs (p))
          generalize (frA us (p) (atOf (p))).1 = E at KA KB
          generalize (frA us (p) (atOf (p))).2 = us3 at KA KB R3
          generalize bsF bs (fx bs (p)) = bs4 at KB R3 L3
          have KA : Hid (Calls Tryd.prog 12 #[.pointer (some ⟨w.heap.size, 0, none⟩), .int .i64 (p)] (wr.alloc (.cells #[.int .i64 2, .int .i64 n, .int .i64 q, .int .i64 p] 32)) fun e w' => e = .returned (.int .i64 E) ∧ PA w w.heap.size g w1.heap.size w2.heap.size us3 bs lv told u5 wr.heap.size #[.int .i64 2, .int .i64 n, .int .i64 q, .int .i64 p] w') := KA
          have KB : Hid (∀ W, PA w w.heap.size g w1.heap.size w2.heap.size us3 bs lv told u5 wr.heap.size #[.int .i64 2, .int .i64 n, .int .i64 q, .int .i64 p] W → Calls Tryd.prog 13 #[.pointer (some ⟨w1.heap.size, 0, none⟩), .int .i64 (p)] W fun e w' => e = .returned (.int .i64 E) ∧ ∃ lv', PA w w.heap.size g w1.heap.size w2.heap.size us3 bs4 lv' told u5 wr.heap.size #[.int .i64 2, .int .i64 n, .int .i64 q, .int .i64 p] w') := KB
          have R8 : Hid (Rel us3 bs4) := R3
          have HB8 : Hid (bs4.length ≤ 1000) := (by omega : bs4.length ≤ 1000)
          have L8 : Hid (bs4.length ≤ k + 1) := (by omega : bs4.length ≤ k + 1)
          have T8 : Hid (told.length ≤ k + 1) := (by omega : told.length ≤ k + 1)
          clear R3 L3
          go_wp2_with (first
          | (go_at_call 12; refine KA.out.mono ?_; rintro e w3 ⟨rfl, h3⟩; have P3 : Hid (PA w w.heap.size g w1.heap.size w2.heap.size us3 bs lv told u5 wr.heap.size #[.int .i64 2, .int .i64 n, .int .i64 q, .int .i64 p] w3) := h3; have d0 : w3.cell? ⟨wr.heap.size, 0, none⟩ = some (.int .i64 2) := (h3.a.cell 0).trans rfl; have d1 : w3.cell? ⟨wr.heap.size, 1, none⟩ = some (.int .i64 n) := (h3.a.cell 1).trans rfl; have d2 : w3.cell? ⟨wr.heap.size, 2, none⟩ = some (.int .i64 q) := (h3.a.cell 2).trans rfl; have d3 : w3.cell? ⟨wr.heap.size, 3, none⟩ = some (.int .i64 p) := (h3.a.cell 3).trans rfl; clear h3)
          | (go_at_call 13; refine (KB.out _ P3.out).mono ?_; rintro e w4 ⟨rfl, lv4, h4⟩; have P4 : Hid (PA w w.heap.size g w1.heap.size w2.heap.size us3 bs4 lv4 told u5 wr.heap.size #[.int .i64 2, .int .i64 n, .int .i64 q, .int .i64 p] w4) := h4; have d0 : w4.cell? ⟨wr.heap.size, 0, none⟩ = some (.int .i64 2) := (h4.a.cell 0).trans rfl; have d1 : w4.cell? ⟨wr.heap.size, 1, none⟩ = some (.int .i64 n) := (h4.a.cell 1).trans rfl; have d2 : w4.cell? ⟨wr.heap.size, 2, none⟩ = some (.int .i64 q) := (h4.a.cell 2).trans rfl; have d3 : w4.cell? ⟨wr.heap.size, 3, none⟩ = some (.int .i64 p) := (h4.a.cell 3).trans rfl; clear h4)
          | (go_at_call 14; refine (P4.out.class n).mono ?_; rintro e w8 ⟨rfl, h8⟩; rw [hcv]; have P8 : Hid (PA w w.heap.size g w1.heap.size w2.heap.size us3 bs4 lv4 told u5 wr.heap.size #[.int .i64 2, .int .i64 n, .int .i64 q, .int .i64 p] w8) := h8; have d0 : w8.cell? ⟨wr.heap.size, 0, none⟩ = some (.int .i64 2) := (h8.a.cell 0).trans rfl; have d1 : w8.cell? ⟨wr.heap.size, 1, none⟩ = some (.int .i64 n) := (h8.a.cell 1).trans rfl; have d2 : w8.cell? ⟨wr.heap.size, 2, none⟩ = some (.int .i64 q) := (h8.a.cell 2).trans rfl; have d3 : w8.cell? ⟨wr.heap.size, 3, none⟩ = some (.int .i64 p) := (h8.a.cell 3).trans rfl; clear h8)
          | (go_at_call 15; refine (rclass_c n _).mono ?_; rintro e w9 ⟨rfl, h9⟩; rw [hcv, h9]; clear h9 w9))
          have KL : Hid (∀ y : After w8, Calls Tryd.prog 16 #[.pointer (some ⟨w.heap.size, 0, none⟩), .int .i64 q] y.w fun e w' => e = .returned (.int .i64 (liA us3 q : Int)) ∧ Below y.w.heap.size y.w w') := fun y => live_c (P8.out.pm.h.below y.below) q
          have KR : Hid (∀ y : After w8, Calls Tryd.prog 17 #[.pointer (some ⟨w1.heap.size, 0, none⟩), .int .i64 q] y.w fun e w' => e = .returned (.int .i64 (liA us3 q : Int)) ∧ Below y.w.heap.size y.w w') := fun y => by
            have := rlive_c (P8.out.pm.r.below y.below) HB8.out q
            rw [← R8.out.live q] at this
            exact this
          have KW : Hid (∀ (y : After w8) (x m : Int), Calls Tryd.prog 18 #[.pointer (some ⟨w.heap.size, 0, none⟩), .int .i64 x, .int .i64 m] y.w fun e w' => e = .returned (.bool (wB bs4 x m).isSome) ∧ Below y.w.heap.size y.w w') := fun y x m => by
            have := within_c (P8.out.pm.h.below y.below) x m (P8.out.pm.tab.below y.below P8.out.pm.tab.lt)
            rw [R8.out.within x m] at this
            exact this
          have KV : Hid (∀ (y : After w8) (x m : Int), Calls Tryd.prog 19 #[.pointer (some ⟨w1.heap.size, 0, none⟩), .int .i64 x, .int .i64 m] y.w fun e w' => e = .returned (.bool (wB bs4 x m).isSome) ∧ Below y.w.heap.size y.w w') := fun y x m => rwithin_c (P8.out.pm.r.below y.below) HB8.out R8.out.ok x m
          have d1 := After.cell d1
          have d2 := After.cell d2
          have d3 := After.cell d3
          generalize (liA us3 q : Int) = LQ at KL KR
          haveI := After.has w8
          refine wp_region_after (by kernel_rfl) (by kernel_rfl) ?_
          repeat (quiet_step ((first
            | (go_at_call 16; exact Calls.after (KL.out _))
            | (go_at_call 17; exact Calls.after (KR.out _))
            | (go_at_call 18; exact Calls.after (KW.out _ _ _))
            | (go_at_call 19; exact Calls.after (KV.out _ _ _)))))
          refine wpQuiet_nil ?_
          intro _ hw'
          obtain ⟨xq, hw''⟩ := hw'
          subst hw''
          have PZ : Hid (PM w w.heap.size g w1.heap.size w2.heap.size us3 bs4 lv4 told _ xq.w) := P8.out.pm.below xq.below
          clear d1 d2 d3
          go_wp2
          go_roundw
          case rel => exact ⟨k + 1, us3, bs4, lv4, told, by omega, by omega, by go_num, PZ.out, R8.out, L8.out, T8.out⟩
          case measure => simp [intOf]; omega
      have k0 : (kd == 0) = false := by simpa using kd0
      have k1 : (kd == 1) = false := by simpa using kd1
      have k2 : (kd == 2) = false := by simpa using kd2
      as_aux_lemma =>
        have PA0 : Hid (PA w w.heap.size g w1.heap.size w2.heap.size us bs lv told _ wr.heap.size #[.int .i64 kd, .int .i64 n, .int .i64 q, .int .i64 p] (wr.alloc (.cells #[.int .i64 kd, .int .i64 n, .int .i64 q, .int .i64 p] 32))) := ⟨P.out.below (below_alloc _ _), At.new _ _ _⟩
        have R8 : Hid (Rel us bs) := RR.out
        have HB8 : Hid (bs.length ≤ 1000) := HB0.out
        have L8 : Hid (bs.length ≤ k + 1) := (by omega : bs.length ≤ k + 1)
        have T8 : Hid (told.length ≤ k + 1) := (by omega : told.length ≤ k + 1)
        go_wp2_with (first
        | (go_at_call 14; refine (PA0.out.class n).mono ?_; rintro e w8 ⟨rfl, h8⟩; rw [hcv]; have P8 : Hid (PA w w.heap.size g w1.heap.size w2.heap.size us bs lv told _ wr.heap.size #[.int .i64 kd, .int .i64 n, .int .i64 q, .int .i64 p] w8) := h8; have d0 : w8.cell? ⟨wr.heap.size, 0, none⟩ = some (.int .i64 kd) := (h8.a.cell 0).trans rfl; have d1 : w8.cell? ⟨wr.heap.size, 1, none⟩ = some (.int .i64 n) := (h8.a.cell 1).trans rfl; have d2 : w8.cell? ⟨wr.heap.size, 2, none⟩ = some (.int .i64 q) := (h8.a.cell 2).trans rfl; have d3 : w8.cell? ⟨wr.heap.size, 3, none⟩ = some (.int .i64 p) := (h8.a.cell 3).trans rfl; clear h8)
        | (go_at_call 15; refine (rclass_c n _).mono ?_; rintro e w9 ⟨rfl, h9⟩; rw [hcv, h9]; clear h9 w9))
        have KL : Hid (∀ y : After w8, Calls Tryd.prog 16 #[.pointer (some ⟨w.heap.size, 0, none⟩), .int .i64 q] y.w fun e w' => e = .returned (.int .i64 (liA us q : Int)) ∧ Below y.w.heap.size y.w w') := fun y => live_c (P8.out.pm.h.below y.below) q
        have KR : Hid (∀ y : After w8, Calls Tryd.prog 17 #[.pointer (some ⟨w1.heap.size, 0, none⟩), .int .i64 q] y.w fun e w' => e = .returned (.int .i64 (liA us q : Int)) ∧ Below y.w.heap.size y.w w') := fun y => by
          have := rlive_c (P8.out.pm.r.below y.below) HB8.out q
          rw [← R8.out.live q] at this
          exact this
        have KW : Hid (∀ (y : After w8) (x m : Int), Calls Tryd.prog 18 #[.pointer (some ⟨w.heap.size, 0, none⟩), .int .i64 x, .int .i64 m] y.w fun e w' => e = .returned (.bool (wB bs x m).isSome) ∧ Below y.w.heap.size y.w w') := fun y x m => by
          have := within_c (P8.out.pm.h.below y.below) x m (P8.out.pm.tab.below y.below P8.out.pm.tab.lt)
          rw [R8.out.within x m] at this
          exact this
        have KV : Hid (∀ (y : After w8) (x m : Int), Calls Tryd.prog 19 #[.pointer (some ⟨w1.heap.size, 0, none⟩), .int .i64 x, .int .i64 m] y.w fun e w' => e = .returned (.bool (wB bs x m).isSome) ∧ Below y.w.heap.size y.w w') := fun y x m => rwithin_c (P8.out.pm.r.below y.below) HB8.out R8.out.ok x m
        have d1 := After.cell d1
        have d2 := After.cell d2
        have d3 := After.cell d3
        generalize (liA us q : Int) = LQ at KL KR
        haveI := After.has w8
        refine wp_region_after (by kernel_rfl) (by kernel_rfl) ?_
        repeat (quiet_step ((first
          | (go_at_call 16; exact Calls.after (KL.out _))
          | (go_at_call 17; exact Calls.after (KR.out _))
          | (go_at_call 18; exact Calls.after (KW.out _ _ _))
          | (go_at_call 19; exact Calls.after (KV.out _ _ _)))))
        refine wpQuiet_nil ?_
        intro _ hw'
        obtain ⟨xq, hw''⟩ := hw'
        subst hw''
        have PZ : Hid (PM w w.heap.size g w1.heap.size w2.heap.size us bs lv told _ xq.w) := P8.out.pm.below xq.below
        clear d1 d2 d3
        go_wp2
        go_roundw
        case rel => exact ⟨k + 1, us, bs, lv, told, by omega, by omega, by go_num, PZ.out, R8.out, L8.out, T8.out⟩
        case measure => simp [intOf]; omega
    · have hkz : (k : Int) < acts.length → ¬ (k : Int) < 300 := by omega
      go_wp2
      all_goals (go_ret; exact ⟨rfl, P.out.b⟩)
end Go.Proofs.YtffcfohbnbldhaaDoor
