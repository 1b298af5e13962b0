/-
  Proved: AsmMore answers true of any lines and numbers.
-/
import Derived.Test.YtcdeckbobabdkaaLmorep
import Derived.Test.YtcdeckbobabdkaaLnames
import Derived.Test.YtcdeckbobabdkaaAopen2
import Derived.Test.YtcdeckbobabdkaaLslice
namespace Go.Proofs.Ytcdeckbobabdkaa
open Go.RowKit
set_option linter.unusedVariables false
set_option linter.unusedSimpArgs false
set_option maxRecDepth 20000

theorem pd2_fine : Fine [pdE 2] (fun _ => false) where
  f := by decide +kernel
  b := ⟨fun i y hy hk => by
    match i, hy with
    | 0, hy => simp at hy; subst hy; simp [pdE] at hk, fun y hy hg => by
    simp at hy
    subst hy
    simp [goes, pdE] at hg⟩
  g := by decide +kernel
  s := ⟨Low.none _, fun j hb => by
    match j with
    | 0 => simp [isB, pdE] at hb
    | j + 1 => simp [isB] at hb⟩
  z := by decide +kernel
theorem pd2_words : asmW [pdE 2] (fun _ => false) 1 = [19, 19] := by decide +kernel

theorem pd2_c (W : World) (g : Nat) (hg : W.heap.size = g) : Calls Try.prog 7 #[.slice (some ⟨g, 0, none⟩) 1 1] (W.alloc (.cells #[.int .i64 5, .string ⟨#[]⟩, .int .i64 0, .int .i64 0, .int .i64 0, .int .i64 0, .string ⟨#[]⟩, .int .i64 2] 30)) fun e w' => ∃ b o C, e = .returned (.tuple #[.slice (some ⟨b, o, none⟩) 2 C, .int .i64 0]) ∧ w'.cell? ⟨b, o + 1, none⟩ = some (.int .u32 19) ∧ Below W.heap.size W w' := by
  refine (assemble_ok pd2_fine _ _ (ls_at (l := [pdE 2]) (C := 1) (At.newS W _ 30 hg)) (by simp) (fun y hy => ?_)).mono fun e w' ⟨A, C, h1, h3, h2⟩ => ?_
  · simp at hy
    subst hy
    exact ⟨by simp [pdE, maxLen, ByteArray.size], by simp [pdE, maxLen, ByteArray.size]⟩
  · rw [show [pdE 2].length = 1 from rfl, pd2_words] at h1 h3
    obtain ⟨b, o, rfl, _, q⟩ := h3 1 (by simp)
    exact ⟨b, o, C, h1, q 0 _ rfl, below_next (below_alloc _ _) h2⟩

theorem ap_n (w : World) {ops : Array Oper} {rest : List Oper} {o : Oper} {a : Act} {Q : Exit → Act → World → Prop} (hgd : o.guard = none) (s x : Operand)
    (ho : o.op = .call { callee := .builtin .append, args := #[s, x], argTypes := #[22, 22] })
    (v : Value) (hs : a.eval s = v) (base : Nat) (l m : List Ln) (hown : OwnB 30 8 lnC base l v w) (A : Option Addr) (n C k : Nat) (hx : a.eval x = .slice A n C) (hn : n = m.length) (hk : l.length + m.length = k)
    (hr : RowsIn w 8 lnC m A) (hl : l.length + m.length ≤ 100000)
    (h : ∀ A' C' w', OwnB 30 8 lnC base (l ++ m) (.slice A' k C') w' → Below base w w' → wpList Try.prog ops Q rest (a.put o.dst (.slice A' k C')) w') : wpList Try.prog ops Q (o :: rest) a w := by
  subst hn hk
  refine OwnB.append_any 22 30 lnC _ 8 80 infoAsm Try.underlying22 rfl (by decide) (by decide) lnC_len lnC_one w hgd s x ho v hs base l m hown A C hx hr hl fun v' w' h1 h2 => ?_
  obtain ⟨A', C', e, -⟩ := OwnB.shape lnC_len h1
  rw [List.length_append] at e
  subst e
  exact h A' C' w' h1 h2
theorem one_line (y : Ln) (cs : Array Value) (hc : cs = (lnC y).toArray) (W : World) (g : Nat) (hg : W.heap.size = g) : RowsIn (W.alloc (.cells cs 30)) 8 lnC [y] (some ⟨g, 0, none⟩) := by
  subst hc
  obtain ⟨A9, C9, e9, h9⟩ := ls_at (l := [y]) (C := 1) (At.newS W (([y]).flatMap lnC).toArray 30 hg)
  injection e9 with e9
  rw [← e9] at h9
  simp only [List.flatMap_cons, List.flatMap_nil, List.append_nil] at h9
  exact h9

theorem at_of (a : Int) (N : Nat) (hN : N ≤ 1000) : ∃ r : Int, ∃ t : Nat, a.tmod ((N : Int) + 1) = r ∧ -1001 ≤ r ∧ r ≤ 1001 ∧ (r + N + 1).tmod ((N : Int) + 1) = (t : Int) ∧ t ≤ N := by
  have h1 := Int.tmod_lt_of_pos a (show (0 : Int) < (N : Int) + 1 by omega)
  have h2 := Int.lt_tmod_of_pos a (show (0 : Int) < (N : Int) + 1 by omega)
  refine ⟨_, ((a.tmod ((N : Int) + 1) + N + 1).tmod ((N : Int) + 1)).toNat, rfl, by omega, by omega, ?_, ?_⟩
  · rw [Int.tmod_eq_emod_of_nonneg (by omega)]
    have := Int.emod_nonneg (a.tmod ((N : Int) + 1) + N + 1) (show (N : Int) + 1 ≠ 0 by omega)
    omega
  · rw [Int.tmod_eq_emod_of_nonneg (by omega)]
    have := Int.emod_nonneg (a.tmod ((N : Int) + 1) + N + 1) (show (N : Int) + 1 ≠ 0 by omega)
    have := Int.emod_lt_of_pos (a.tmod ((N : Int) + 1) + N + 1) (show (0 : Int) < (N : Int) + 1 by omega)
    omega

set_option maxHeartbeats 8000000 in
theorem asmMore_walk (l : List Ln) (v : Value) (a n : Int) (w : World) (h : LsC w l v) : Calls Try.prog 5 #[v, .int .i64 a, .int .i64 n] w fun e w' => e = .returned (.bool true) ∧ Below w.heap.size w w' := by
  obtain ⟨A, C, rfl, hC, hCn, hr, hok⟩ := h
  have LV : Hid (LsIn w l (.slice A l.length C)) := ⟨A, C, rfl, hr⟩
  have R : Hid (RowsIn w 8 lnC l A) := hr
  have OK : Hid (∀ y ∈ l, LOk y) := hok
  clear hr hok
  go_enter Try.func5, Try.ntmps5
  by_cases hl : 150 < l.length
  · have hlz : (150 : Int) < (l.length : Int) := by omega
    go_wp2
    go_ret
    exact ⟨rfl, Below.refl _ _⟩
  have hlz : ¬ (150 : Int) < (l.length : Int) := by omega
  have hlen : l.length ≤ 150 := by omega
  have AC : Hid (∀ w', Below w.heap.size w w' → Calls Try.prog 7 #[.slice A l.length C] w' (AsmR l w')) := fun w' hb => assemble_c l _ w' (LV.out.below hb) (by omega) OK.out
  go_wp2_with (go_at_call 7; refine (pd2_c _ _ rfl).mono ?_; rintro e w1 ⟨bq, oq, C1, rfl, hq, hb⟩; have B1 : Hid (Below w.heap.size w w1) := hb; clear hb)
  go_loopw [9] (fun iv wr => ∃ i : Nat, i ≤ l.length ∧ iv = .int .i64 (i : Int) ∧ wr = w1 ∧ ∀ y ∈ l.take i, y.lb.data.toList ≠ moT) (fun iv _ => l.length - (intOf iv).toNat)
  case atStart => exact ⟨0, by omega, rfl, rfl, by simp⟩
  case round =>
    obtain ⟨i, hi, rfl, rfl, hall⟩ := hrel
    rcases Nat.lt_or_ge i l.length with hlt | hge
    · have hiz : (i : Int) < l.length := by omega
      obtain ⟨y, hy⟩ : ∃ y, l[i]? = some y := ⟨l[i], List.getElem?_eq_getElem hlt⟩
      obtain ⟨b1, o1, rfl, hb1, c0, c1, c2, c3, c4, c5, c6, c7⟩ := ln_cells R.out B1.out i y hy
      by_cases e : y.lb.data.toList = moT
      · have e2 : y.lb = ⟨#[109, 111, 114, 101]⟩ := ba_eq e
        rw [e2] at c6
        clear hall e e2 hq LV R OK AC hy
        go_wp2
        go_ret
        exact ⟨rfl, B1.out⟩
      · obtain ⟨f1, f2⟩ := ba_ne (t := moT) e
        unfold moT at f1 f2
        have HA : Hid (∀ z ∈ l.take (i + 1), z.lb.data.toList ≠ moT) := fun z hz => by
          rw [List.take_add_one, hy] at hz
          rcases List.mem_append.1 hz with h1 | h1
          · exact hall z h1
          · simp at h1
            subst h1
            exact e
        clear hall e hq LV R OK AC hy
        go_wp2
        go_roundw
        case rel => exact ⟨i + 1, by omega, by congr 1, (by first | trivial | rfl), HA.out⟩
        case measure => simp [intOf]; omega
    · have hiz : ¬ (i : Int) < l.length := by omega
      obtain rfl : i = l.length := by omega
      rw [List.take_of_length_le (Nat.le_refl _)] at hall
      have NM : Hid (noMo l) := hall
      clear hall hq
      by_cases he : errP l = 0
      · obtain ⟨L, hF⟩ := fine_of he
        obtain ⟨ws, hws⟩ : ∃ ws, asmW l L l.length = ws := ⟨_, rfl⟩
        have hwl : ws.length ≤ 16384 := by
          have h1 := asmW_len hF.f hF.s.1.1 l.length (Nat.le_refl _)
          have h2 := hF.z
          rw [hws] at h1
          omega
        have A0 : Hid (Calls Try.prog 7 #[.slice A l.length C] wr fun e w' => ∃ A C, e = .returned (.tuple #[.slice A ws.length C, .int .i64 0]) ∧ RowsIn w' 1 wdC ws A ∧ Below wr.heap.size wr w') := by
          have := assemble_ok hF _ wr (LV.out.below B1.out) (by omega) OK.out
          rw [hws] at this
          exact this
        have hm : bits .and .i64 n 7 = n % 8 := and_mask n 3 (by decide)
        obtain ⟨m, hm1, hm2⟩ : ∃ m : Nat, n % 8 = (m : Int) ∧ m < 8 := ⟨(n % 8).toNat, by omega, by omega⟩
        rw [hm1] at hm
        clear hm1
        obtain ⟨r, t, ht1, ht2, ht3, ht4, ht5⟩ := at_of a l.length (by omega)
        have wz1 : IntKind.i64.wrap (r + (l.length : Int)) = r + (l.length : Int) := wrap_in _ (by omega)
        have wz2 : IntKind.i64.wrap (r + (l.length : Int) + 1) = r + (l.length : Int) + 1 := wrap_in _ (by omega)
        have wz3 : ¬ (l.length : Int) + 1 = 0 := by omega
        have HF : Hid (Fine l L) := hF
        have HW : Hid (asmW l L l.length = ws) := hws
        clear hF hws he AC
        go_upto_region 16 with (go_at_call 7; refine A0.out.mono ?_; rintro e w5 ⟨A5, C5, rfl, hr5, hb5⟩; have R5 : Hid (RowsIn w5 1 wdC ws A5) := hr5; have B5 : Hid (Below w.heap.size w w5) := B1.out.trans (hb5.mono B1.out.size); clear hr5 hb5)
        have hlt1 : (l.take t).length = t := by rw [List.length_take]; omega
        have hld : (l.drop t).length = l.length - t := by rw [List.length_drop]
        have SL1 := fun w => slice_lo A l.length C t ht5 hC w
        obtain ⟨AD, SL2, RD⟩ : ∃ AD, (∀ w, (Instr.sliceAt 22 (.slice A l.length C) (some (.int .i64 (t : Int))) none none).run Try.prog w = .ok (.slice AD (l.length - t) (C - t)) w) ∧ ∀ w', Below w.heap.size w w' → RowsIn w' 8 lnC (l.drop t) AD := ⟨_, slice_hi A l.length C t ht5 hC, fun w' hb => rows_hi (R.out.below hb) hC t⟩
        have RD : Hid (∀ w', Below w.heap.size w w' → RowsIn w' 8 lnC (l.drop t) AD) := RD
        have LBM : Hid (∀ (W : World) (g : Nat), W.heap.size = g → RowsIn (W.alloc (.cells #[.int .i64 2, .string ⟨#[]⟩, .int .i64 0, .int .i64 0, .int .i64 0, .int .i64 0, .string ⟨#[109, 111, 114, 101]⟩, .int .i64 0] 30)) 8 lnC [lbM] (some ⟨g, 0, none⟩)) := fun W g hg => one_line lbM _ rfl W g hg
        have PDM : Hid (∀ (W : World) (g : Nat), W.heap.size = g → RowsIn (W.alloc (.cells #[.int .i64 5, .string ⟨#[]⟩, .int .i64 0, .int .i64 0, .int .i64 0, .int .i64 0, .string ⟨#[]⟩, .int .i64 (m : Int)] 30)) 8 lnC [pdE (m : Int)] (some ⟨g, 0, none⟩)) := fun W g hg => one_line (pdE m) _ rfl W g hg
        have R2 : Hid (∀ w', Below w.heap.size w w' → RowsIn w' 8 lnC l A) := fun w' hb => R.out.below hb
        have T5 : Hid (t ≤ l.length) := ht5
        have HLT : Hid ((l.take t).length = t) := hlt1
        have HLD : Hid (l.length - t = (l.drop t).length) := hld.symm
        clear ht1 ht2 ht3 ht4 hlt1 hld hm wz1 wz2 A0 R
        go_upto_region 17 with (first | (at_builtin; have M2 := O6; refine ap_n _ rfl _ _ rfl _ rfl w5.heap.size (l.take t) [lbM] (O6.out.below (below_alloc _ _)) (some ⟨w6.heap.size, 0, none⟩) 1 1 (t + 1) rfl rfl (by rw [HLT.out]; rfl) (LBM.out _ _ rfl) (by simp; omega) ?_; intro A7 C7 w7 ho7 hb7; have O7 : Hid (OwnB 30 8 lnC w5.heap.size (l.take t ++ [lbM]) (.slice A7 (t + 1) C7) w7) := ho7; have B7 : Hid (Below w5.heap.size w5 w7) := (B6.out.trans ((below_alloc _ _).mono O6.out.1)).trans hb7; clear ho7 hb7) | (at_builtin; refine ap_n _ rfl _ _ rfl _ rfl w5.heap.size [] (l.take t) (OwnB.fresh (At.new w5 #[] _) (Nat.le_refl _)) A t C t rfl HLT.out.symm (by rw [HLT.out]; exact Nat.zero_add t) (rows_take (R2.out _ (B5.out.trans ((below_alloc _ _).mono B5.out.size))) t) (by simp; omega) ?_; intro A6 C6 w6 ho6 hb6; rw [List.nil_append] at ho6; have O6 : Hid (OwnB 30 8 lnC w5.heap.size (l.take t) (.slice A6 t C6) w6) := ho6; have B6 : Hid (Below w5.heap.size w5 w6) := (below_alloc w5 _).trans hb6; clear ho6 hb6))
        have BW7 : Hid (Below w.heap.size w w7) := B5.out.trans (B7.out.mono B5.out.size)
        have HIN : Hid (l.take t ++ [lbM] ++ l.drop t = ins l t) := (show _ = _ by unfold ins; simp)
        obtain ⟨hF8, hw8⟩ := more_label HF.out NM.out T5.out
        have K8 : Hid (∀ v w', LsIn w' (ins l t) v → Calls Try.prog 7 #[v] w' fun e w'' => ∃ A C, e = .returned (.tuple #[.slice A ws.length C, .int .i64 0]) ∧ RowsIn w'' 1 wdC ws A ∧ Below w'.heap.size w' w'') := fun v w' hv => by
          have := assemble_ok hF8 v w' hv (by rw [ins_len l T5.out]; omega) (fun y hy => by
            unfold ins at hy
            rcases List.mem_append.1 hy with h | h
            · exact OK.out y (List.mem_of_mem_take h)
            · rcases List.mem_cons.1 h with rfl | h
              · exact ⟨by decide, by decide⟩
              · exact OK.out y (List.mem_of_mem_drop h))
          rw [hw8, HW.out] at this
          exact this
        have INL : Hid ((ins l t).length = l.length + 1) := ins_len l T5.out
        clear hF8 hw8
        go_upto_region 19 with (first | (go_at_call 7; refine (K8.out _ w8 ⟨A8, C8, (by rw [INL.out]), OwnB.rows lnC_len O8.out⟩).mono ?_; rintro e w9 ⟨A9, C9, rfl, hr9, hb9⟩; have R9 : Hid (RowsIn w9 1 wdC ws A9) := hr9; have R9' : Hid (RowsIn w9 1 wdC ws A5) := (R5.out.below B8.out).below hb9; have B9 : Hid (Below w.heap.size w w9) := BW8.out.trans (hb9.mono BW8.out.size); clear hr9 hb9) | (at_builtin; have M2 := O7; refine ap_n _ rfl _ _ rfl _ rfl w5.heap.size (l.take t ++ [lbM]) (l.drop t) O7.out _ (l.length - t) _ (l.length + 1) rfl HLD.out (by rw [List.length_append, HLT.out, ← HLD.out]; have := T5.out; simp; omega) (RD.out _ BW7.out) (by rw [List.length_append, HLT.out, ← HLD.out]; simp; omega) ?_; intro A8 C8 w8 ho8 hb8; rw [HIN.out] at ho8; have O8 : Hid (OwnB 30 8 lnC w5.heap.size (ins l t) (.slice A8 (l.length + 1) C8) w8) := ho8; have B8 : Hid (Below w5.heap.size w5 w8) := B7.out.trans hb8; have BW8 : Hid (Below w.heap.size w w8) := B5.out.trans (B8.out.mono B5.out.size); clear ho8 hb8))
        have PO : Hid (∀ y ∈ l ++ [pdE (m : Int)], LOk y) := fun y hy => by
          rcases List.mem_append.1 hy with h | h
          · exact OK.out y h
          · simp at h
            subst h
            exact ⟨by simp [pdE, maxLen, ByteArray.size], by simp [pdE, maxLen, ByteArray.size]⟩
        clear O8 B8 BW8 O7 B7 BW7 O6 B6 RD SL1 SL2 K8 HLT HLD INL HIN T5 NM LBM
        rcases more_pad HF.out (m : Int) with h10 | h72 | ⟨h0, hw0⟩
        · have KP : Hid (∀ v w', LsIn w' (l ++ [pdE (m : Int)]) v → Calls Try.prog 7 #[v] w' fun e w'' => e = .returned (.tuple #[.slice none 0 0, .int .i64 10]) ∧ Below w'.heap.size w' w'') := fun v w' hv => (assemble_c _ v w' hv (by simp; omega) PO.out).mono fun e w'' ⟨q1, q2⟩ => by
            rw [h10] at q1
            rcases q1 with ⟨_, q3⟩ | ⟨q3, _⟩
            · exact ⟨q3, q2⟩
            · exact absurd q3 (by decide)
          go_upto_region 20 with (first | (go_at_call 7; refine (KP.out _ w11 ⟨A11, C11, (by rw [List.length_append]; rfl), OwnB.rows lnC_len O11.out⟩).mono ?_; rintro e w12 ⟨rfl, hb12⟩; have Q9 : Hid (RowsIn w12 1 wdC ws A9) := (R9.out.below B11.out).below hb12; have Q5 : Hid (RowsIn w12 1 wdC ws A5) := (R9'.out.below B11.out).below hb12; have B12 : Hid (Below w.heap.size w w12) := (B9.out.trans (B11.out.mono B9.out.size)).trans (hb12.mono (by have := B9.out.size; have := B11.out.size; omega)); clear hb12) | (at_builtin; have M2 := O10; refine ap_n _ rfl _ _ rfl _ rfl w9.heap.size l [pdE (m : Int)] (O10.out.below (below_alloc _ _)) (some ⟨w10.heap.size, 0, none⟩) 1 1 (l.length + 1) rfl rfl rfl (PDM.out _ _ rfl) (by simp; omega) ?_; intro A11 C11 w11 ho11 hb11; have O11 : Hid (OwnB 30 8 lnC w9.heap.size (l ++ [pdE (m : Int)]) (.slice A11 (l.length + 1) C11) w11) := ho11; have B11 : Hid (Below w9.heap.size w9 w11) := (B10.out.trans ((below_alloc _ _).mono O10.out.1)).trans hb11; clear ho11 hb11) | (at_builtin; refine ap_n _ rfl _ _ rfl _ rfl w9.heap.size [] l (OwnB.fresh (At.new w9 #[] _) (Nat.le_refl _)) A l.length C l.length rfl rfl (Nat.zero_add _) (R2.out _ (B9.out.trans ((below_alloc _ _).mono B9.out.size))) (by simp; omega) ?_; intro A10 C10 w10 ho10 hb10; rw [List.nil_append] at ho10; have O10 : Hid (OwnB 30 8 lnC w9.heap.size l (.slice A10 l.length C10) w10) := ho10; have B10 : Hid (Below w9.heap.size w9 w10) := (below_alloc w9 _).trans hb10; clear ho10 hb10))
          clear R9 R9' B9 B11 O11 O10 B10
          go_wp2
          generalize hwO : wr = W0 at *
          clear hwO
          go_loopw [15] (fun iv wr => ∃ i : Nat, i ≤ ws.length ∧ iv = .int .i64 (i : Int) ∧ ∃ nq, wr = w12.drewN nq) (fun iv _ => ws.length - (intOf iv).toNat)
          case atStart => exact ⟨0, by omega, rfl, 0, rfl⟩
          case round =>
            obtain ⟨i, hi, rfl, nq, rfl⟩ := hrel
            rcases Nat.lt_or_ge i ws.length with hlt | hge
            · have hiz : (i : Int) < ws.length := by omega
              obtain ⟨b5, o5, rfl, -, q5⟩ := Q5.out i hlt
              obtain ⟨b9, o9, rfl, -, q9⟩ := Q9.out i hlt
              have d5 : w12.cell? ⟨b5, o5 + i, none⟩ = some (.int .u32 ws[i]) := by have := q5 0 _ rfl; rwa [Nat.mul_one, Nat.add_zero] at this
              have d9 : w12.cell? ⟨b9, o9 + i, none⟩ = some (.int .u32 ws[i]) := by have := q9 0 _ rfl; rwa [Nat.mul_one, Nat.add_zero] at this
              generalize ws[i] = x at *
              clear q5 q9
              go_wp2
              go_quiet (fail)
              go_wp2
              go_roundw
              case rel => exact ⟨i + 1, by omega, by congr 1, _, rfl⟩
              case measure => simp [intOf]; omega
            · have hiz : ¬ (i : Int) < ws.length := by omega
              go_wp2
              go_ret
              exact ⟨rfl, drew_below B12.out nq⟩
        · have KP : Hid (∀ v w', LsIn w' (l ++ [pdE (m : Int)]) v → Calls Try.prog 7 #[v] w' fun e w'' => e = .returned (.tuple #[.slice none 0 0, .int .i64 72]) ∧ Below w'.heap.size w' w'') := fun v w' hv => (assemble_c _ v w' hv (by simp; omega) PO.out).mono fun e w'' ⟨q1, q2⟩ => by
            rw [h72] at q1
            rcases q1 with ⟨_, q3⟩ | ⟨q3, _⟩
            · exact ⟨q3, q2⟩
            · exact absurd q3 (by decide)
          go_upto_region 20 with (first | (go_at_call 7; refine (KP.out _ w11 ⟨A11, C11, (by rw [List.length_append]; rfl), OwnB.rows lnC_len O11.out⟩).mono ?_; rintro e w12 ⟨rfl, hb12⟩; have Q9 : Hid (RowsIn w12 1 wdC ws A9) := (R9.out.below B11.out).below hb12; have Q5 : Hid (RowsIn w12 1 wdC ws A5) := (R9'.out.below B11.out).below hb12; have B12 : Hid (Below w.heap.size w w12) := (B9.out.trans (B11.out.mono B9.out.size)).trans (hb12.mono (by have := B9.out.size; have := B11.out.size; omega)); clear hb12) | (at_builtin; have M2 := O10; refine ap_n _ rfl _ _ rfl _ rfl w9.heap.size l [pdE (m : Int)] (O10.out.below (below_alloc _ _)) (some ⟨w10.heap.size, 0, none⟩) 1 1 (l.length + 1) rfl rfl rfl (PDM.out _ _ rfl) (by simp; omega) ?_; intro A11 C11 w11 ho11 hb11; have O11 : Hid (OwnB 30 8 lnC w9.heap.size (l ++ [pdE (m : Int)]) (.slice A11 (l.length + 1) C11) w11) := ho11; have B11 : Hid (Below w9.heap.size w9 w11) := (B10.out.trans ((below_alloc _ _).mono O10.out.1)).trans hb11; clear ho11 hb11) | (at_builtin; refine ap_n _ rfl _ _ rfl _ rfl w9.heap.size [] l (OwnB.fresh (At.new w9 #[] _) (Nat.le_refl _)) A l.length C l.length rfl rfl (Nat.zero_add _) (R2.out _ (B9.out.trans ((below_alloc _ _).mono B9.out.size))) (by simp; omega) ?_; intro A10 C10 w10 ho10 hb10; rw [List.nil_append] at ho10; have O10 : Hid (OwnB 30 8 lnC w9.heap.size l (.slice A10 l.length C10) w10) := ho10; have B10 : Hid (Below w9.heap.size w9 w10) := (below_alloc w9 _).trans hb10; clear ho10 hb10))
          clear R9 R9' B9 B11 O11 O10 B10
          go_wp2
          generalize hwO : wr = W0 at *
          clear hwO
          go_loopw [15] (fun iv wr => ∃ i : Nat, i ≤ ws.length ∧ iv = .int .i64 (i : Int) ∧ ∃ nq, wr = w12.drewN nq) (fun iv _ => ws.length - (intOf iv).toNat)
          case atStart => exact ⟨0, by omega, rfl, 0, rfl⟩
          case round =>
            obtain ⟨i, hi, rfl, nq, rfl⟩ := hrel
            rcases Nat.lt_or_ge i ws.length with hlt | hge
            · have hiz : (i : Int) < ws.length := by omega
              obtain ⟨b5, o5, rfl, -, q5⟩ := Q5.out i hlt
              obtain ⟨b9, o9, rfl, -, q9⟩ := Q9.out i hlt
              have d5 : w12.cell? ⟨b5, o5 + i, none⟩ = some (.int .u32 ws[i]) := by have := q5 0 _ rfl; rwa [Nat.mul_one, Nat.add_zero] at this
              have d9 : w12.cell? ⟨b9, o9 + i, none⟩ = some (.int .u32 ws[i]) := by have := q9 0 _ rfl; rwa [Nat.mul_one, Nat.add_zero] at this
              generalize ws[i] = x at *
              clear q5 q9
              go_wp2
              go_quiet (fail)
              go_wp2
              go_roundw
              case rel => exact ⟨i + 1, by omega, by congr 1, _, rfl⟩
              case measure => simp [intOf]; omega
            · have hiz : ¬ (i : Int) < ws.length := by omega
              go_wp2
              go_ret
              exact ⟨rfl, drew_below B12.out nq⟩
        · have KP : Hid (∀ v w', LsIn w' (l ++ [pdE (m : Int)]) v → Calls Try.prog 7 #[v] w' fun e w'' => ∃ A C, e = .returned (.tuple #[.slice A (ws.length + m) C, .int .i64 0]) ∧ RowsIn w'' 1 wdC (ws ++ List.replicate m 19) A ∧ Below w'.heap.size w' w'') := fun v w' hv => (assemble_c _ v w' hv (by simp; omega) PO.out).mono fun e w'' ⟨q1, q2⟩ => by
            rcases q1 with ⟨q3, _⟩ | ⟨_, A7, C7, L7, q4, _, q5, q6⟩
            · exact absurd h0 q3
            · have q7 := hw0 L7 q4
              rw [Int.toNat_natCast, HW.out] at q7
              rw [List.length_append, show [pdE (m : Int)].length = 1 from rfl, q7] at q5 q6
              rw [List.length_append, List.length_replicate] at q5
              exact ⟨A7, C7, q5, q6, q2⟩
          have hwm : IntKind.i64.wrap ((ws.length : Int) + (m : Int)) = (ws.length : Int) + (m : Int) := wrap_in _ (by omega)
          have hcm : ((ws.length + m : Nat) : Int) = (ws.length : Int) + (m : Int) := by omega
          go_upto_region 20 with (first | (go_at_call 7; refine (KP.out _ w11 ⟨A11, C11, (by rw [List.length_append]; rfl), OwnB.rows lnC_len O11.out⟩).mono ?_; rintro e w12 ⟨A12, C12, rfl, hr12, hb12⟩; have R12 : Hid (RowsIn w12 1 wdC (ws ++ List.replicate m 19) A12) := hr12; have Q9 : Hid (RowsIn w12 1 wdC ws A9) := (R9.out.below B11.out).below hb12; have Q5 : Hid (RowsIn w12 1 wdC ws A5) := (R9'.out.below B11.out).below hb12; have B12 : Hid (Below w.heap.size w w12) := (B9.out.trans (B11.out.mono B9.out.size)).trans (hb12.mono (by have := B9.out.size; have := B11.out.size; omega)); clear hr12 hb12) | (at_builtin; have M2 := O10; refine ap_n _ rfl _ _ rfl _ rfl w9.heap.size l [pdE (m : Int)] (O10.out.below (below_alloc _ _)) (some ⟨w10.heap.size, 0, none⟩) 1 1 (l.length + 1) rfl rfl rfl (PDM.out _ _ rfl) (by simp; omega) ?_; intro A11 C11 w11 ho11 hb11; have O11 : Hid (OwnB 30 8 lnC w9.heap.size (l ++ [pdE (m : Int)]) (.slice A11 (l.length + 1) C11) w11) := ho11; have B11 : Hid (Below w9.heap.size w9 w11) := (B10.out.trans ((below_alloc _ _).mono O10.out.1)).trans hb11; clear ho11 hb11) | (at_builtin; refine ap_n _ rfl _ _ rfl _ rfl w9.heap.size [] l (OwnB.fresh (At.new w9 #[] _) (Nat.le_refl _)) A l.length C l.length rfl rfl (Nat.zero_add _) (R2.out _ (B9.out.trans ((below_alloc _ _).mono B9.out.size))) (by simp; omega) ?_; intro A10 C10 w10 ho10 hb10; rw [List.nil_append] at ho10; have O10 : Hid (OwnB 30 8 lnC w9.heap.size l (.slice A10 l.length C10) w10) := ho10; have B10 : Hid (Below w9.heap.size w9 w10) := (below_alloc w9 _).trans hb10; clear ho10 hb10))
          clear R9 R9' B9 B11 O11 O10 B10
          go_wp2
          generalize hwO : wr = W0 at *
          clear hwO
          go_loopw [15] (fun iv wr => ∃ i : Nat, i ≤ ws.length ∧ iv = .int .i64 (i : Int) ∧ ∃ nq, wr = w12.drewN nq) (fun iv _ => ws.length - (intOf iv).toNat)
          case atStart => exact ⟨0, by omega, rfl, 0, rfl⟩
          case round =>
            obtain ⟨i, hi, rfl, nq, rfl⟩ := hrel
            rcases Nat.lt_or_ge i ws.length with hlt | hge
            · have hiz : (i : Int) < ws.length := by omega
              obtain ⟨b5, o5, rfl, -, q5⟩ := Q5.out i hlt
              obtain ⟨b9, o9, rfl, -, q9⟩ := Q9.out i hlt
              have d5 : w12.cell? ⟨b5, o5 + i, none⟩ = some (.int .u32 ws[i]) := by have := q5 0 _ rfl; rwa [Nat.mul_one, Nat.add_zero] at this
              have d9 : w12.cell? ⟨b9, o9 + i, none⟩ = some (.int .u32 ws[i]) := by have := q9 0 _ rfl; rwa [Nat.mul_one, Nat.add_zero] at this
              obtain ⟨b2, o2, rfl, -, q2⟩ := R12.out i (by rw [List.length_append]; omega)
              have d2 : w12.cell? ⟨b2, o2 + i, none⟩ = some (.int .u32 ws[i]) := by
                have := q2 0 _ rfl
                rw [List.getElem_append_left hlt, Nat.mul_one, Nat.add_zero] at this
                exact this
              have hiz2 : (i : Int) < (ws.length : Int) + (m : Int) := by omega
              clear q2
              generalize ws[i] = x at *
              clear q5 q9
              go_wp2
              go_quiet (fail)
              go_wp2
              go_roundw
              case rel => exact ⟨i + 1, by omega, by congr 1, _, rfl⟩
              case measure => simp [intOf]; omega
            · have hiz : ¬ (i : Int) < ws.length := by omega
              go_wp2
              go_ret
              exact ⟨rfl, drew_below B12.out nq⟩
      · have A0 : Hid (Calls Try.prog 7 #[.slice A l.length C] wr fun e w' => e = .returned (.tuple #[.slice none 0 0, .int .i64 (errP l)]) ∧ Below wr.heap.size wr w') := (AC.out wr B1.out).mono fun e w' ⟨h1, h2⟩ => by
          rcases h1 with ⟨_, h3⟩ | ⟨h3, _⟩
          · exact ⟨h3, h2⟩
          · exact absurd h3 he
        have hee : ¬ errP l = 0 := he
        generalize errP l = ee at *
        clear AC LV OK he R
        go_wp2_with (go_at_call 7; refine A0.out.mono ?_; rintro e w5 ⟨rfl, hb5⟩; have B5 : Hid (Below w.heap.size w w5) := B1.out.trans (hb5.mono B1.out.size); clear hb5)
        go_ret
        exact ⟨rfl, B5.out⟩
end Go.Proofs.Ytcdeckbobabdkaa
