/-
  Proved: TypesAdd answers true at a struct.
-/
import Derived.Test.YtdekgebpbopfpaaDoorAddW
import Derived.Test.YtdekgebpbopfpaaDoorAddS
namespace Go.Proofs.YtdekgebpbopfpaaDoor
open Go.RowKit

set_option maxRecDepth 100000 in
set_option maxHeartbeats 4000000 in
theorem add_struct2 (s : ByteArray) (n : Int) (EA : Option Addr) (el EC l C : Nat) (A : Option Addr) (y : Int) (m : Nat) (hm1 : 1 ≤ m) (hm8 : m ≤ 8) (hm : 1 + y % 8 = (m : Int)) (j : Nat) (w : World) (a p : Nat) (hp : (m : Int) * (a : Int) = (p : Int)) (hp0 : p ≤ 1024) (hp1 : p ≤ 128) (hj : j < l) (b o : Nat) (hA : A = some ⟨b, o, none⟩) (ps : List (ByteArray × T)) (P : Option Addr) (pc : Nat) (hpl : ps.length ≤ 9223372036854775807) (ws : Nat → Nat) (cp cq : Nat → Bool)
    (CI : Hid (∀ w', Below (w.alloc (.cells #[.int .i64 9, .string s, .int .i64 n, .slice EA el EC] 25)).heap.size (w.alloc (.cells #[.int .i64 9, .string s, .int .i64 n, .slice EA el EC] 25)) w' → w'.cell? ⟨b, o + j * 20, none⟩ = some (.int .i64 2) ∧ w'.cell? ⟨b, o + j * 20 + 3, none⟩ = some (.slice P ps.length pc) ∧ b < w'.heap.size))
    (PI : Hid (∀ w', Below (w.alloc (.cells #[.int .i64 9, .string s, .int .i64 n, .slice EA el EC] 25)).heap.size (w.alloc (.cells #[.int .i64 9, .string s, .int .i64 n, .slice EA el EC] 25)) w' → PsIn w' ps P)) (HWS : Hid (∀ k, pre ws k ≤ 1000000)) (HA : Hid (pre ws ps.length = a))
    (HC : Hid (cp 0 = true ∧ ∀ i, i < ps.length → cp (i + 1) = (cp i && cq i)))
    (WF : Hid (∀ i (h : i < ps.length) w' cs, Below (w.alloc (.cells #[.int .i64 9, .string s, .int .i64 n, .slice EA el EC] 25)).heap.size (w.alloc (.cells #[.int .i64 9, .string s, .int .i64 n, .slice EA el EC] 25)) w' → TIn w' (ps[i]'h).2 cs → Ans 7 #[.slice A l C, .agg cs.toArray] (.tuple #[.int .i64 (ws i : Int), .bool true]) w'))
    (CF : Hid (∀ i (h : i < ps.length) w' cs, Below (w.alloc (.cells #[.int .i64 9, .string s, .int .i64 n, .slice EA el EC] 25)).heap.size (w.alloc (.cells #[.int .i64 9, .string s, .int .i64 n, .slice EA el EC] 25)) w' → TIn w' (ps[i]'h).2 cs → Ans 9 #[.slice A l C, .agg cs.toArray] (.bool (cq i)) w'))
    (FD : Hid (∀ i (h : i < ps.length), ∃ f tf, f ≤ i ∧ (f = i → tf = (ps[i]'h).2) ∧ ∀ w', Below (w.alloc (.cells #[.int .i64 9, .string s, .int .i64 n, .slice EA el EC] 25)).heap.size (w.alloc (.cells #[.int .i64 9, .string s, .int .i64 n, .slice EA el EC] 25)) w' → Calls Tryd.prog 11 #[.slice A l C, .agg #[.int .i64 9, .string s, .int .i64 n, .slice EA el EC], .string (ps[i]'h).1] w' fun e w'' => FldB ws f tf e w'' ∧ Below w'.heap.size w' w''))
    (CE : Hid (∀ w', Below (w.alloc (.cells #[.int .i64 9, .string s, .int .i64 n, .slice EA el EC] 25)).heap.size (w.alloc (.cells #[.int .i64 9, .string s, .int .i64 n, .slice EA el EC] 25)) w' → Ans 9 #[.slice A l C, .agg #[.int .i64 9, .string s, .int .i64 n, .slice EA el EC]] (.bool (cp ps.length)) w'))
    (FW : Hid (∀ w', Below (w.alloc (.cells #[.int .i64 9, .string s, .int .i64 n, .slice EA el EC] 25)).heap.size (w.alloc (.cells #[.int .i64 9, .string s, .int .i64 n, .slice EA el EC] 25)) w' → Ans 6 #[.slice A l C] (.bool true) w'))
    (WN : Hid (∀ w', Below (w.alloc (.cells #[.int .i64 9, .string s, .int .i64 n, .slice EA el EC] 25)).heap.size (w.alloc (.cells #[.int .i64 9, .string s, .int .i64 n, .slice EA el EC] 25)) w' → Ans 7 #[.slice none 0 0, .agg #[.int .i64 2, .string ⟨#[]⟩, .int .i64 0, .slice none 0 0]] (.tuple #[.int .i64 1, .bool true]) w'))
    (WT : Hid (∀ w', Below (w.alloc (.cells #[.int .i64 9, .string s, .int .i64 n, .slice EA el EC] 25)).heap.size (w.alloc (.cells #[.int .i64 9, .string s, .int .i64 n, .slice EA el EC] 25)) w' → Ans 7 #[.slice A l C, .agg #[.int .i64 9, .string s, .int .i64 n, .slice EA el EC]] (.tuple #[.int .i64 (a : Int), .bool true]) w'))
    (WA : Hid (∀ w', Below (w.alloc (.cells #[.int .i64 9, .string s, .int .i64 n, .slice EA el EC] 25)).heap.size (w.alloc (.cells #[.int .i64 9, .string s, .int .i64 n, .slice EA el EC] 25)) w' → Ans 7 #[.slice A l C, .agg #[.int .i64 10, .string ⟨#[]⟩, .int .i64 (m : Int), .slice (some ⟨w'.heap.size, 0, none⟩) 1 1]] (.tuple #[.int .i64 0, .bool false]) (w'.alloc (.cells #[.int .i64 9, .string s, .int .i64 n, .slice EA el EC] 25))))
    (SM : Hid (∀ w', Below (w.alloc (.cells #[.int .i64 9, .string s, .int .i64 n, .slice EA el EC] 25)).heap.size (w.alloc (.cells #[.int .i64 9, .string s, .int .i64 n, .slice EA el EC] 25)) w' → Ans 8 #[.slice A l C, .agg #[.int .i64 9, .string s, .int .i64 n, .slice EA el EC], .int .i64 (m : Int)] (.bool false) w'))
    (WB : Hid (∀ w', Below (w.alloc (.cells #[.int .i64 9, .string s, .int .i64 n, .slice EA el EC] 25)).heap.size (w.alloc (.cells #[.int .i64 9, .string s, .int .i64 n, .slice EA el EC] 25)) w' → Ans 7 #[.slice A l C, .agg #[.int .i64 11, .string ⟨#[]⟩, .int .i64 0, .slice (some ⟨w'.heap.size, 0, none⟩) 1 1]] (.tuple #[.int .i64 1, .bool true]) (w'.alloc (.cells #[.int .i64 9, .string s, .int .i64 n, .slice EA el EC] 25))))
    (CB : Hid (∀ w', Below (w.alloc (.cells #[.int .i64 9, .string s, .int .i64 n, .slice EA el EC] 25)).heap.size (w.alloc (.cells #[.int .i64 9, .string s, .int .i64 n, .slice EA el EC] 25)) w' → Ans 9 #[.slice A l C, .agg #[.int .i64 11, .string ⟨#[]⟩, .int .i64 0, .slice (some ⟨w'.heap.size, 0, none⟩) 1 1]] (.bool false) (w'.alloc (.cells #[.int .i64 9, .string s, .int .i64 n, .slice EA el EC] 25))))
    (IT : Hid (∀ w', Below (w.alloc (.cells #[.int .i64 9, .string s, .int .i64 n, .slice EA el EC] 25)).heap.size (w.alloc (.cells #[.int .i64 9, .string s, .int .i64 n, .slice EA el EC] 25)) w' → Ans 10 #[.slice A l C, .string s] (.int .i64 j) w')) :
    Ans 3 #[.slice A l C, .agg #[.int .i64 9, .string s, .int .i64 n, .slice EA el EC], .int .i64 y] (.bool true) w := by
  unfold Ans
  have H0 : Hid (Below w.heap.size w (w.alloc (.cells #[.int .i64 9, .string s, .int .i64 n, .slice EA el EC] 25))) := below_alloc _ _
  have SBX : Hid (∀ (w' : World) a, Below w'.heap.size w' (w'.alloc a)) := below_alloc
  have SA : ∀ (t : T) (w' : World) (cs ds : List Value), TIn w' t cs → TIn w' t ds → Ans 12 #[.agg cs.toArray, .agg ds.toArray] (.bool true) w' := same_ans
  have h7 := and7 y
  have hp2 : (p : Int) ≤ 128 := by omega
  subst hA
  have hjI : (j : Int) < (l : Int) := by omega
  go_enter Tryd.func3, Tryd.ntmps3
  go_wp2_with (first
    | (go_at_call 10; refine Ans.go (IT.out _ M7.out) ?_; intro w8 hb; have M8 : Hid (Below (w.alloc (.cells #[.int .i64 9, .string s, .int .i64 n, .slice EA el EC] 25)).heap.size (w.alloc (.cells #[.int .i64 9, .string s, .int .i64 n, .slice EA el EC] 25)) w8) := below_next M7.out hb; clear hb; obtain ⟨c80, c81, c82, c83⟩ := box_all M8.out; obtain ⟨i0, i3, ib⟩ := CI.out _ M8.out)
    | (go_at_call 9; refine Ans.go (CB.out _ M6.out) ?_; intro w7 hb; have M7 : Hid (Below (w.alloc (.cells #[.int .i64 9, .string s, .int .i64 n, .slice EA el EC] 25)).heap.size (w.alloc (.cells #[.int .i64 9, .string s, .int .i64 n, .slice EA el EC] 25)) w7) := below_next M6.out (below_next (below_alloc _ _) hb); clear hb; obtain ⟨c70, c71, c72, c73⟩ := box_all M7.out)
    | (go_at_call 7; have M' := M5; refine Ans.go (WB.out _ M5.out) ?_; intro w6 hb; have M6 : Hid (Below (w.alloc (.cells #[.int .i64 9, .string s, .int .i64 n, .slice EA el EC] 25)).heap.size (w.alloc (.cells #[.int .i64 9, .string s, .int .i64 n, .slice EA el EC] 25)) w6) := below_next M5.out (below_next (below_alloc _ _) hb); clear hb M'; obtain ⟨c60, c61, c62, c63⟩ := box_all M6.out)
    | (go_at_call 8; refine Ans.go (SM.out _ M4.out) ?_; intro w5 hb; have M5 : Hid (Below (w.alloc (.cells #[.int .i64 9, .string s, .int .i64 n, .slice EA el EC] 25)).heap.size (w.alloc (.cells #[.int .i64 9, .string s, .int .i64 n, .slice EA el EC] 25)) w5) := below_next M4.out hb; clear hb; obtain ⟨c50, c51, c52, c53⟩ := box_all M5.out)
    | (go_at_call 7; have M' := M3; refine Ans.go (WA.out _ M3.out) ?_; intro w4 hb; have M4 : Hid (Below (w.alloc (.cells #[.int .i64 9, .string s, .int .i64 n, .slice EA el EC] 25)).heap.size (w.alloc (.cells #[.int .i64 9, .string s, .int .i64 n, .slice EA el EC] 25)) w4) := below_next M3.out (below_next (below_alloc _ _) hb); clear hb M'; obtain ⟨c40, c41, c42, c43⟩ := box_all M4.out)
    | (go_at_call 7; have M' := M2; refine Ans.go (WT.out _ M2.out) ?_; intro w3 hb; have M3 : Hid (Below (w.alloc (.cells #[.int .i64 9, .string s, .int .i64 n, .slice EA el EC] 25)).heap.size (w.alloc (.cells #[.int .i64 9, .string s, .int .i64 n, .slice EA el EC] 25)) w3) := below_next M2.out hb; clear hb M'; obtain ⟨c30, c31, c32, c33⟩ := box_all M3.out)
    | (go_at_call 7; have M' := M1; refine Ans.go (WN.out _ M1.out) ?_; intro w2 hb; have M2 : Hid (Below (w.alloc (.cells #[.int .i64 9, .string s, .int .i64 n, .slice EA el EC] 25)).heap.size (w.alloc (.cells #[.int .i64 9, .string s, .int .i64 n, .slice EA el EC] 25)) w2) := below_next M1.out hb; clear hb M'; obtain ⟨c20, c21, c22, c23⟩ := box_all M2.out)
    | (go_at_call 6; refine Ans.go (FW.out _ (Below.refl _ _)) ?_; intro w1 hb; have M1 : Hid (Below (w.alloc (.cells #[.int .i64 9, .string s, .int .i64 n, .slice EA el EC] 25)).heap.size (w.alloc (.cells #[.int .i64 9, .string s, .int .i64 n, .slice EA el EC] 25)) w1) := hb; clear hb))
  go_loopw [16, 17, 18] (fun sv cv iv wr => ∃ (i x : Nat) (c : Bool), i ≤ ps.length ∧ iv = .int .i64 (i : Int) ∧ sv = .int .i64 (x : Int) ∧ cv = .bool c ∧ x ≤ 1000000 ∧ Hid (x = pre ws i ∧ c = cp i) ∧ Hid (Below (w.alloc (.cells #[.int .i64 9, .string s, .int .i64 n, .slice EA el EC] 25)).heap.size (w.alloc (.cells #[.int .i64 9, .string s, .int .i64 n, .slice EA el EC] 25)) wr)) (fun _ _ iv _ => ps.length - (intOf iv).toNat)
  case atStart => exact ⟨0, 0, true, Nat.zero_le _, rfl, rfl, rfl, by omega, ⟨rfl, HC.out.1.symm⟩, M8.out⟩
  case round =>
    obtain ⟨i, x, c, hi, rfl, rfl, rfl, hx, HX, HB⟩ := hrel
    obtain ⟨i0, i3, ib⟩ := CI.out _ HB.out
    obtain ⟨t0, t1, t2, t3⟩ := box_all HB.out
    by_cases hlt : i < ps.length
    · have hlt' : (i : Int) < (ps.length : Int) := by omega
      obtain ⟨pb, po, mu, at', cs1, hP, hrow, ht1⟩ := (PI.out _ HB.out).2 i hlt
      subst hP
      have wf := WF.out i hlt
      have cf := CF.out i hlt
      have hcp := HC.out.2 i hlt
      obtain ⟨f, tf, hfi, hff, fd⟩ := FD.out i hlt
      have hxw : x + ws i ≤ 1000000 := by have h1 := HX.out.1; have h2 := HWS.out (i + 1); rw [pre] at h2; omega
      have HXW : Hid (x + ws i = pre ws (i + 1)) := by show _ = _; rw [pre, HX.out.1]
      have HPF : Hid (f = i → pre ws f = x) := fun h => by rw [h, HX.out.1]
      have HCN : Hid (cp (i + 1) = (c && cq i)) := by show _ = _; rw [hcp, HX.out.2]
      clear hcp
      generalize ps[i] = v at hrow ht1 wf cf hff fd
      obtain ⟨vn, vt⟩ := v
      obtain ⟨tk, ts, tn, tes⟩ := vt
      simp only at hrow ht1 wf cf hff fd
      have HT1 : Hid (∀ w', Below wr.heap.size wr w' → TIn w' (.mk tk ts tn tes) cs1) := fun w' hw => ht1.stays hw
      obtain ⟨TA, TC, rfl, _⟩ := ht1.inv
      have c0 := hrow.2 0 _ rfl
      have c1 := hrow.2 1 _ rfl
      have c2 := hrow.2 2 _ rfl
      have c3 := hrow.2 3 _ rfl
      have c4 := hrow.2 4 _ rfl
      have c5 := hrow.2 5 _ rfl
      have c6 := hrow.2 6 _ rfl
      simp only [Nat.add_zero] at c0
      have pbz := hrow.1
      generalize ws i = wk at hxw HXW wf
      generalize cq i = ck at HCN cf
      have WK : Hid (∀ w', Below wr.heap.size wr w' → Ans 7 #[.slice (some ⟨b, o, none⟩) l C, .agg #[.int .i64 tk, .string ts, .int .i64 tn, .slice TA tes.length TC]] (.tuple #[.int .i64 (wk : Int), .bool true]) w') := fun w' hw => wf w' _ (below_next HB.out hw) (HT1.out w' hw)
      have CK : Hid (∀ w', Below wr.heap.size wr w' → Ans 9 #[.slice (some ⟨b, o, none⟩) l C, .agg #[.int .i64 tk, .string ts, .int .i64 tn, .slice TA tes.length TC]] (.bool ck) w') := fun w' hw => cf w' _ (below_next HB.out hw) (HT1.out w' hw)
      have FK : Hid (∀ w', Below wr.heap.size wr w' → Calls Tryd.prog 11 #[.slice (some ⟨b, o, none⟩) l C, .agg #[.int .i64 9, .string s, .int .i64 n, .slice EA el EC], .string vn] w' fun e w'' => FldB ws f tf e w'' ∧ Below w'.heap.size w' w'') := fun w' hw => fd w' (below_next HB.out hw)
      clear hrow ht1 wf cf fd
      by_cases hfe : f = i
      · obtain rfl : tf = .mk tk ts tn tes := hff hfe
        have hpf := HPF.out hfe
        subst hfe
        unfold FldB at FK
        rw [hpf] at FK
        cases c
        · go_wp2_with (first
            | (go_at_call 12; refine Ans.go (SA _ _ _ _ (HTF.out.stays (SBX.out _ _)) (HT1.out _ (below_next N2.out (SBX.out _ _)))) ?_; intro w3 hb; have N3 : Hid (Below wr.heap.size wr w3) := below_next N2.out (below_next (SBX.out _ _) hb); clear hb)
            | (go_at_call 11; refine Calls.mono (FK.out _ N1.out) ?_; rintro e w2 ⟨⟨k', s', n', A', l', C', rfl, htf⟩, hb⟩; have HTF : Hid (TIn w2 (.mk tk ts tn tes) [.int .i64 k', .string s', .int .i64 n', .slice A' l' C']) := htf; have N2 : Hid (Below wr.heap.size wr w2) := below_next N1.out hb; have O2 : Hid (Below w1.heap.size w1 w2) := hb; have ez : wr.heap.size < w2.heap.size := (PB.out _ hb).lt; clear hb htf; have AX := PB.out _ O2.out; have e0 : w2.cell? ⟨wr.heap.size, 0, none⟩ = some (.string vn) := (AX.cell 0).trans rfl; have e2 : w2.cell? ⟨wr.heap.size, 2, none⟩ = some (.int .i64 tk) := (AX.cell 2).trans rfl; have e3 : w2.cell? ⟨wr.heap.size, 3, none⟩ = some (.string ts) := (AX.cell 3).trans rfl; have e4 : w2.cell? ⟨wr.heap.size, 4, none⟩ = some (.int .i64 tn) := (AX.cell 4).trans rfl; have e5 : w2.cell? ⟨wr.heap.size, 5, none⟩ = some (.slice TA tes.length TC) := (AX.cell 5).trans rfl; clear AX; obtain ⟨v0, v1, v2, v3⟩ := box_all (below_next HB.out N2.out))
            | (go_at_call 7; refine Ans.go (WK.out _ (below_alloc _ _)) ?_; intro w1 hb; have N1 : Hid (Below wr.heap.size wr w1) := below_next (below_alloc _ _) hb; have PB : Hid (∀ w', Below w1.heap.size w1 w' → At w' wr.heap.size #[.string vn, .bool mu, .int .i64 tk, .string ts, .int .i64 tn, .slice TA tes.length TC, .int .i64 at'] 40) := fun w' hw => ((At.new wr _ 40).below hb (At.new wr _ 40).lt).below hw (Nat.lt_of_lt_of_le (At.new wr _ 40).lt hb.size); clear hb; have AX := PB.out _ (Below.refl _ _); have d0 : w1.cell? ⟨wr.heap.size, 0, none⟩ = some (.string vn) := (AX.cell 0).trans rfl; have d2 : w1.cell? ⟨wr.heap.size, 2, none⟩ = some (.int .i64 tk) := (AX.cell 2).trans rfl; have d3 : w1.cell? ⟨wr.heap.size, 3, none⟩ = some (.string ts) := (AX.cell 3).trans rfl; have d4 : w1.cell? ⟨wr.heap.size, 4, none⟩ = some (.int .i64 tn) := (AX.cell 4).trans rfl; have d5 : w1.cell? ⟨wr.heap.size, 5, none⟩ = some (.slice TA tes.length TC) := (AX.cell 5).trans rfl; clear AX; obtain ⟨u0, u1, u2, u3⟩ := box_all (below_next HB.out N1.out)))
          go_roundw
          case rel => exact ⟨f + 1, x + wk, false, by omega, by go_num, by go_num, rfl, by omega, ⟨HXW.out, by rw [HCN.out]; rfl⟩, below_next HB.out N3.out⟩
          case measure => simp [intOf]; omega
        · go_wp2_with (first
            | (go_at_call 9; refine Ans.go (CK.out _ N3.out) ?_; intro w4 hb; have N4 : Hid (Below wr.heap.size wr w4) := below_next N3.out hb; clear hb)
            | (go_at_call 12; refine Ans.go (SA _ _ _ _ (HTF.out.stays (SBX.out _ _)) (HT1.out _ (below_next N2.out (SBX.out _ _)))) ?_; intro w3 hb; have N3 : Hid (Below wr.heap.size wr w3) := below_next N2.out (below_next (SBX.out _ _) hb); have O3 : Hid (Below w1.heap.size w1 w3) := below_next O2.out (below_next (SBX.out _ _) hb); clear hb; have AX := PB.out _ O3.out; have g0 : w3.cell? ⟨wr.heap.size, 0, none⟩ = some (.string vn) := (AX.cell 0).trans rfl; have g2 : w3.cell? ⟨wr.heap.size, 2, none⟩ = some (.int .i64 tk) := (AX.cell 2).trans rfl; have g3 : w3.cell? ⟨wr.heap.size, 3, none⟩ = some (.string ts) := (AX.cell 3).trans rfl; have g4 : w3.cell? ⟨wr.heap.size, 4, none⟩ = some (.int .i64 tn) := (AX.cell 4).trans rfl; have g5 : w3.cell? ⟨wr.heap.size, 5, none⟩ = some (.slice TA tes.length TC) := (AX.cell 5).trans rfl; clear AX)
            | (go_at_call 11; refine Calls.mono (FK.out _ N1.out) ?_; rintro e w2 ⟨⟨k', s', n', A', l', C', rfl, htf⟩, hb⟩; have HTF : Hid (TIn w2 (.mk tk ts tn tes) [.int .i64 k', .string s', .int .i64 n', .slice A' l' C']) := htf; have N2 : Hid (Below wr.heap.size wr w2) := below_next N1.out hb; have O2 : Hid (Below w1.heap.size w1 w2) := hb; have ez : wr.heap.size < w2.heap.size := (PB.out _ hb).lt; clear hb htf; have AX := PB.out _ O2.out; have e0 : w2.cell? ⟨wr.heap.size, 0, none⟩ = some (.string vn) := (AX.cell 0).trans rfl; have e2 : w2.cell? ⟨wr.heap.size, 2, none⟩ = some (.int .i64 tk) := (AX.cell 2).trans rfl; have e3 : w2.cell? ⟨wr.heap.size, 3, none⟩ = some (.string ts) := (AX.cell 3).trans rfl; have e4 : w2.cell? ⟨wr.heap.size, 4, none⟩ = some (.int .i64 tn) := (AX.cell 4).trans rfl; have e5 : w2.cell? ⟨wr.heap.size, 5, none⟩ = some (.slice TA tes.length TC) := (AX.cell 5).trans rfl; clear AX; obtain ⟨v0, v1, v2, v3⟩ := box_all (below_next HB.out N2.out))
            | (go_at_call 7; refine Ans.go (WK.out _ (below_alloc _ _)) ?_; intro w1 hb; have N1 : Hid (Below wr.heap.size wr w1) := below_next (below_alloc _ _) hb; have PB : Hid (∀ w', Below w1.heap.size w1 w' → At w' wr.heap.size #[.string vn, .bool mu, .int .i64 tk, .string ts, .int .i64 tn, .slice TA tes.length TC, .int .i64 at'] 40) := fun w' hw => ((At.new wr _ 40).below hb (At.new wr _ 40).lt).below hw (Nat.lt_of_lt_of_le (At.new wr _ 40).lt hb.size); clear hb; have AX := PB.out _ (Below.refl _ _); have d0 : w1.cell? ⟨wr.heap.size, 0, none⟩ = some (.string vn) := (AX.cell 0).trans rfl; have d2 : w1.cell? ⟨wr.heap.size, 2, none⟩ = some (.int .i64 tk) := (AX.cell 2).trans rfl; have d3 : w1.cell? ⟨wr.heap.size, 3, none⟩ = some (.string ts) := (AX.cell 3).trans rfl; have d4 : w1.cell? ⟨wr.heap.size, 4, none⟩ = some (.int .i64 tn) := (AX.cell 4).trans rfl; have d5 : w1.cell? ⟨wr.heap.size, 5, none⟩ = some (.slice TA tes.length TC) := (AX.cell 5).trans rfl; clear AX; obtain ⟨u0, u1, u2, u3⟩ := box_all (below_next HB.out N1.out)))
          go_roundw
          case rel => exact ⟨f + 1, x + wk, ck, by omega, by go_num, by go_num, rfl, by omega, ⟨HXW.out, by rw [HCN.out]; rfl⟩, below_next HB.out N4.out⟩
          case measure => simp [intOf]; omega
      · have hfl : f < i := by omega
        have hfl' : (f : Int) < (i : Int) := by omega
        have hfg : ¬ (i : Int) < (f : Int) := by omega
        have hfn : ¬ (f : Int) = (i : Int) := by omega
        unfold FldB at FK
        generalize pre ws f = px at FK
        cases c
        · go_wp2_with (first
            | (go_at_call 11; refine Calls.mono (FK.out _ N1.out) ?_; rintro e w2 ⟨⟨k', s', n', A', l', C', rfl, htf⟩, hb⟩; have HTF : Hid (TIn w2 tf [.int .i64 k', .string s', .int .i64 n', .slice A' l' C']) := htf; have N2 : Hid (Below wr.heap.size wr w2) := below_next N1.out hb; have O2 : Hid (Below w1.heap.size w1 w2) := hb; have ez : wr.heap.size < w2.heap.size := (PB.out _ hb).lt; clear hb htf; have AX := PB.out _ O2.out; have e0 : w2.cell? ⟨wr.heap.size, 0, none⟩ = some (.string vn) := (AX.cell 0).trans rfl; have e2 : w2.cell? ⟨wr.heap.size, 2, none⟩ = some (.int .i64 tk) := (AX.cell 2).trans rfl; have e3 : w2.cell? ⟨wr.heap.size, 3, none⟩ = some (.string ts) := (AX.cell 3).trans rfl; have e4 : w2.cell? ⟨wr.heap.size, 4, none⟩ = some (.int .i64 tn) := (AX.cell 4).trans rfl; have e5 : w2.cell? ⟨wr.heap.size, 5, none⟩ = some (.slice TA tes.length TC) := (AX.cell 5).trans rfl; clear AX; obtain ⟨v0, v1, v2, v3⟩ := box_all (below_next HB.out N2.out))
            | (go_at_call 7; refine Ans.go (WK.out _ (below_alloc _ _)) ?_; intro w1 hb; have N1 : Hid (Below wr.heap.size wr w1) := below_next (below_alloc _ _) hb; have PB : Hid (∀ w', Below w1.heap.size w1 w' → At w' wr.heap.size #[.string vn, .bool mu, .int .i64 tk, .string ts, .int .i64 tn, .slice TA tes.length TC, .int .i64 at'] 40) := fun w' hw => ((At.new wr _ 40).below hb (At.new wr _ 40).lt).below hw (Nat.lt_of_lt_of_le (At.new wr _ 40).lt hb.size); clear hb; have AX := PB.out _ (Below.refl _ _); have d0 : w1.cell? ⟨wr.heap.size, 0, none⟩ = some (.string vn) := (AX.cell 0).trans rfl; have d2 : w1.cell? ⟨wr.heap.size, 2, none⟩ = some (.int .i64 tk) := (AX.cell 2).trans rfl; have d3 : w1.cell? ⟨wr.heap.size, 3, none⟩ = some (.string ts) := (AX.cell 3).trans rfl; have d4 : w1.cell? ⟨wr.heap.size, 4, none⟩ = some (.int .i64 tn) := (AX.cell 4).trans rfl; have d5 : w1.cell? ⟨wr.heap.size, 5, none⟩ = some (.slice TA tes.length TC) := (AX.cell 5).trans rfl; clear AX; obtain ⟨u0, u1, u2, u3⟩ := box_all (below_next HB.out N1.out)))
          go_roundw
          case rel => exact ⟨i + 1, x + wk, false, by omega, by go_num, by go_num, rfl, by omega, ⟨HXW.out, by rw [HCN.out]; rfl⟩, below_next HB.out (below_next N2.out (SBX.out _ _))⟩
          case measure => simp [intOf]; omega
        · go_wp2_with (first
            | (go_at_call 9; refine Ans.go (CK.out _ (below_next N2.out (SBX.out _ _))) ?_; intro w4 hb; have N4 : Hid (Below wr.heap.size wr w4) := below_next N2.out (below_next (SBX.out _ _) hb); clear hb)
            | (go_at_call 11; refine Calls.mono (FK.out _ N1.out) ?_; rintro e w2 ⟨⟨k', s', n', A', l', C', rfl, htf⟩, hb⟩; have HTF : Hid (TIn w2 tf [.int .i64 k', .string s', .int .i64 n', .slice A' l' C']) := htf; have N2 : Hid (Below wr.heap.size wr w2) := below_next N1.out hb; have O2 : Hid (Below w1.heap.size w1 w2) := hb; have ez : wr.heap.size < w2.heap.size := (PB.out _ hb).lt; clear hb htf; have AX := PB.out _ O2.out; have e0 : w2.cell? ⟨wr.heap.size, 0, none⟩ = some (.string vn) := (AX.cell 0).trans rfl; have e2 : w2.cell? ⟨wr.heap.size, 2, none⟩ = some (.int .i64 tk) := (AX.cell 2).trans rfl; have e3 : w2.cell? ⟨wr.heap.size, 3, none⟩ = some (.string ts) := (AX.cell 3).trans rfl; have e4 : w2.cell? ⟨wr.heap.size, 4, none⟩ = some (.int .i64 tn) := (AX.cell 4).trans rfl; have e5 : w2.cell? ⟨wr.heap.size, 5, none⟩ = some (.slice TA tes.length TC) := (AX.cell 5).trans rfl; clear AX; obtain ⟨v0, v1, v2, v3⟩ := box_all (below_next HB.out N2.out))
            | (go_at_call 7; refine Ans.go (WK.out _ (below_alloc _ _)) ?_; intro w1 hb; have N1 : Hid (Below wr.heap.size wr w1) := below_next (below_alloc _ _) hb; have PB : Hid (∀ w', Below w1.heap.size w1 w' → At w' wr.heap.size #[.string vn, .bool mu, .int .i64 tk, .string ts, .int .i64 tn, .slice TA tes.length TC, .int .i64 at'] 40) := fun w' hw => ((At.new wr _ 40).below hb (At.new wr _ 40).lt).below hw (Nat.lt_of_lt_of_le (At.new wr _ 40).lt hb.size); clear hb; have AX := PB.out _ (Below.refl _ _); have d0 : w1.cell? ⟨wr.heap.size, 0, none⟩ = some (.string vn) := (AX.cell 0).trans rfl; have d2 : w1.cell? ⟨wr.heap.size, 2, none⟩ = some (.int .i64 tk) := (AX.cell 2).trans rfl; have d3 : w1.cell? ⟨wr.heap.size, 3, none⟩ = some (.string ts) := (AX.cell 3).trans rfl; have d4 : w1.cell? ⟨wr.heap.size, 4, none⟩ = some (.int .i64 tn) := (AX.cell 4).trans rfl; have d5 : w1.cell? ⟨wr.heap.size, 5, none⟩ = some (.slice TA tes.length TC) := (AX.cell 5).trans rfl; clear AX; obtain ⟨u0, u1, u2, u3⟩ := box_all (below_next HB.out N1.out)))
          go_roundw
          case rel => exact ⟨i + 1, x + wk, ck, by omega, by go_num, by go_num, rfl, by omega, ⟨HXW.out, by rw [HCN.out]; rfl⟩, below_next HB.out N4.out⟩
          case measure => simp [intOf]; omega
    · obtain rfl : i = ps.length := by omega
      obtain rfl : x = a := HX.out.1.trans HA.out
      have CE2 : Hid (∀ w', Below (w.alloc (.cells #[.int .i64 9, .string s, .int .i64 n, .slice EA el EC] 25)).heap.size (w.alloc (.cells #[.int .i64 9, .string s, .int .i64 n, .slice EA el EC] 25)) w' → Ans 9 #[.slice (some ⟨b, o, none⟩) l C, .agg #[.int .i64 9, .string s, .int .i64 n, .slice EA el EC]] (.bool c) w') := fun w' hw => by have h := CE.out w' hw; rw [← HX.out.2] at h; exact h
      cases c
      · go_wp2_with (go_at_call 9; refine Ans.go (CE2.out _ HB.out) ?_; intro w4 hb; have M9 : Hid (Below (w.alloc (.cells #[.int .i64 9, .string s, .int .i64 n, .slice EA el EC] 25)).heap.size (w.alloc (.cells #[.int .i64 9, .string s, .int .i64 n, .slice EA el EC] 25)) w4) := below_next HB.out hb; clear hb)
        go_ret
        exact ⟨rfl, below_next H0.out M9.out⟩
      · go_wp2_with (go_at_call 9; refine Ans.go (CE2.out _ HB.out) ?_; intro w4 hb; have M9 : Hid (Below (w.alloc (.cells #[.int .i64 9, .string s, .int .i64 n, .slice EA el EC] 25)).heap.size (w.alloc (.cells #[.int .i64 9, .string s, .int .i64 n, .slice EA el EC] 25)) w4) := below_next HB.out hb; clear hb)
        go_ret
        exact ⟨rfl, below_next H0.out M9.out⟩

end Go.Proofs.YtdekgebpbopfpaaDoor
