/-
  Proved: AsmReach answers true of any lines.
-/
import Derived.Test.YtcdeckbobabdkaaLreachp
import Derived.Test.YtcdeckbobabdkaaLnames
namespace Go.Proofs.Ytcdeckbobabdkaa
open Go.RowKit
set_option linter.unusedVariables false
set_option linter.unusedSimpArgs false
set_option maxRecDepth 20000

def laE : Ln := ⟨2, ⟨#[]⟩, zI, ⟨#[97]⟩, 0⟩
def beE : Ln := ⟨3, ⟨#[98, 101, 113]⟩, zI, ⟨#[97]⟩, 0⟩
theorem la_fine : Fine [laE, beE] (fun _ => false) where
  f := by decide +kernel
  b := ⟨fun i y hy hk => by
    match i, hy with
    | 0, hy => simp at hy; subst hy; simp [lbOf]
    | 1, hy => simp at hy; subst hy; simp [beE] at hk, fun y hy hg => by
    simp at hy
    rcases hy with rfl | rfl
    · simp [goes, laE] at hg
    · simp [lbOf, isL, laE, beE, List.findIdx?_cons]⟩
  g := by decide +kernel
  s := ⟨Low.none _, fun j hb => by
    match j with
    | 0 => simp [isB, laE] at hb
    | 1 => intro _ hf; revert hf; unfold far way; decide +kernel
    | j + 2 => simp [isB] at hb⟩
  z := by decide +kernel
theorem la_words : (asmW [laE, beE] (fun _ => false) 2).length = 1 := by decide +kernel
theorem la_c (W : World) (g : Nat) (hg : W.heap.size = g) : Calls Try.prog 7 #[.slice (some ⟨g, 0, none⟩) 2 2] (W.alloc (.cells #[.int .i64 2, .string ⟨#[]⟩, .int .i64 0, .int .i64 0, .int .i64 0, .int .i64 0, .string ⟨#[97]⟩, .int .i64 0, .int .i64 3, .string ⟨#[98, 101, 113]⟩, .int .i64 0, .int .i64 0, .int .i64 0, .int .i64 0, .string ⟨#[97]⟩, .int .i64 0] 30)) fun e w' => ∃ A C, e = .returned (.tuple #[.slice A 1 C, .int .i64 0]) ∧ Below W.heap.size W w' := by
  refine (assemble_ok la_fine _ _ (ls_at (l := [laE, beE]) (C := 2) (At.newS W _ 30 hg)) (by simp) (fun y hy => ?_)).mono fun e w' ⟨A, C, h1, _, h2⟩ => ⟨A, C, ?_, below_next (below_alloc _ _) h2⟩
  · simp at hy
    rcases hy with rfl | rfl <;> exact ⟨by decide, by decide⟩
  · rw [show [laE, beE].length = 2 from rfl, la_words] at h1
    exact h1

set_option maxHeartbeats 8000000 in
theorem asmReach_walk (l : List Ln) (v : Value) (w : World) (h : LsA w l v) : Calls Try.prog 3 #[v] w fun e w' => e = .returned (.bool true) ∧ Below w.heap.size w w' := by
  obtain ⟨⟨A, C, rfl, hr⟩, hok⟩ := h
  have LV : Hid (LsIn w l (.slice A l.length C)) := ⟨A, C, rfl, hr⟩
  have R : Hid (RowsIn w 8 lnC l A) := hr
  have OK : Hid (∀ y ∈ l, LOk y) := hok
  clear hr hok
  go_enter Try.func3, Try.ntmps3
  by_cases hl : 200 < l.length
  · have hlz : (200 : Int) < (l.length : Int) := by omega
    go_wp2
    go_ret
    exact ⟨rfl, Below.refl _ _⟩
  have hlz : ¬ (200 : Int) < (l.length : Int) := by omega
  have hlen : l.length ≤ 200 := by omega
  by_cases he : errP l = 0
  · obtain ⟨L, hF⟩ := fine_of he
    obtain ⟨ws, hws⟩ : ∃ ws, asmW l L l.length = ws := ⟨_, rfl⟩
    have hwl := asmW_len hF.f hF.s.1.1 l.length (Nat.le_refl _)
    rw [hws] at hwl
    have hz := hF.z
    have HF : Hid (Fine l L) := hF
    have HW : Hid (asmW l L l.length = ws) := hws
    have PC : Hid (∀ w', Below w.heap.size w w' → Calls Try.prog 8 #[.slice A l.length C] w' fun e w'' => ∃ ab, e = .returned (.tuple #[.slice (some ⟨ab, 0, none⟩) l.length l.length, .int .i64 (atP l L l.length), .int .i64 0]) ∧ IZ w'' ab (l.length + 1) (atP l L) ∧ Below w'.heap.size w' w'') := fun w' hb => (pplace_c l _ w' (LV.out.below hb) (by omega) OK.out).mono fun e w'' ⟨q1, q2⟩ => by
      rcases q1 with ⟨q3, _⟩ | ⟨_, ab, L2, q4, _, q5, q6⟩
      · exact absurd he q3
      · obtain rfl := hF.s.one q4
        exact ⟨ab, q5, q6, q2⟩
    have A0 : Hid (∀ w', Below w.heap.size w w' → Calls Try.prog 7 #[.slice A l.length C] w' fun e w'' => ∃ A C, e = .returned (.tuple #[.slice A ws.length C, .int .i64 0]) ∧ RowsIn w'' 1 wdC ws A ∧ Below w'.heap.size w' w'') := fun w' hb => by
      have := assemble_ok hF _ w' (LV.out.below hb) (by omega) OK.out
      rw [hws] at this
      exact this
    have hw4 : IntKind.i64.wrap (4 * (ws.length : Int)) = 4 * (ws.length : Int) := wrap_in _ (by omega)
    have hw5 : atP l L l.length = 4 * (ws.length : Int) := hwl.symm
    rw [hw5] at PC
    clear hF hws he LV OK hw5
    go_upto_region 12 with (first | (go_at_call 8; refine (PC.out _ B1.out).mono ?_; rintro e w2 ⟨ab, rfl, hz2, hb2⟩; have Z2 : Hid (IZ w2 ab (l.length + 1) (atP l L)) := hz2; have B2 : Hid (Below w.heap.size w w2) := B1.out.trans (hb2.mono B1.out.size); clear hz2 hb2) | (go_at_call 7; have M2 := B2; refine (A0.out _ B2.out).mono ?_; rintro e w3 ⟨A3, C3, rfl, hr3, hb3⟩; have R3 : Hid (RowsIn w3 1 wdC ws A3) := hr3; have Z3 : Hid (IZ w3 ab (l.length + 1) (atP l L)) := IZ.below Z2.out hb3 (GZ.lt Z2.out); have B3 : Hid (Below w.heap.size w w3) := B2.out.trans (hb3.mono B2.out.size); clear hr3 hb3) | (go_at_call 7; refine (la_c _ _ rfl).mono ?_; rintro e w1 ⟨A1, C1, rfl, hb⟩; have B1 : Hid (Below w.heap.size w w1) := hb; clear hb))
    clear PC A0 hwl hw4
    have BB3 : Hid (w.heap.size ≤ w3.heap.size) := B3.out.size
    have AB3 : Hid (ab < w3.heap.size) := GZ.lt Z3.out
    go_wp2
    go_loopw [9] (fun iv wr => ∃ i : Nat, i ≤ l.length ∧ iv = .int .i64 (i : Int) ∧ Below w3.heap.size w3 wr) (fun iv _ => l.length - (intOf iv).toNat)
    case atStart => exact ⟨0, by omega, rfl, Below.refl _ _⟩
    case round =>
      obtain ⟨i, hi, rfl, hbl⟩ := hrel
      have hbw : Below w.heap.size w wr := B3.out.trans (hbl.mono B3.out.size)
      rcases Nat.lt_or_ge i l.length with hlt | hge
      · have hiz : (i : Int) < l.length := by omega
        obtain ⟨y, hy⟩ : ∃ y, l[i]? = some y := ⟨l[i], List.getElem?_eq_getElem hlt⟩
        obtain ⟨b1, o1, rfl, hb1, c0, c1, c2, c3, c4, c5, c6, c7⟩ := ln_cells R.out hbw i y hy
        have BN : Hid (∀ o, Below w3.heap.size w3 (wr.alloc o)) := fun o => hbl.trans ((below_alloc _ _).mono hbl.size)
        by_cases hg : goes y = true
        · obtain ⟨y1, y2, y3, y4, zz, y5, y6, y7⟩ := HF.out.ways hy hg
          have hgl := goal_in l i hlt
          have hpi := atP_step l L (Nat.zero_le i)
          have hpg := atP_step l L (Nat.zero_le (goal l i))
          have hp1 := atP_step l L (show i ≤ i + 1 by omega)
          have hp2 := atP_step l L (show i + 1 ≤ l.length from hlt)
          have hp3 := atP_step l L (Nat.le_of_lt hgl)
          simp only [atP] at hpi hpg
          have hbx : At (wr.alloc (.cells (lnC y).toArray 30)) wr.heap.size (lnC y).toArray 30 := At.new _ _ _
          have hzx : IZ (wr.alloc (.cells (lnC y).toArray 30)) ab (l.length + 1) (atP l L) := Z3.out.below (BN.out _) AB3.out
          have hlx : ∀ (k : Nat) (z : Ln), l[k]? = some z → ∃ d, (wr.alloc (.cells (lnC y).toArray 30)).cell? ⟨b1, o1 + k * 8, none⟩ = some (.int .i64 z.k) ∧ (wr.alloc (.cells (lnC y).toArray 30)).cell? ⟨b1, o1 + k * 8 + 6, none⟩ = some (.string z.lb) ∧ d = 0 := fun k z hk => by
            obtain ⟨b9, o9, e9, _, d0, _, _, _, _, _, d6, _⟩ := ln_cells R.out (hbw.trans ((below_alloc wr (.cells (lnC y).toArray 30)).mono hbw.size)) k z hk
            cases e9
            exact ⟨0, d0, d6, rfl⟩
          have HLX : Hid (∀ (k : Nat) (z : Ln), l[k]? = some z → ∃ d, (wr.alloc (.cells (lnC y).toArray 30)).cell? ⟨b1, o1 + k * 8, none⟩ = some (.int .i64 z.k) ∧ (wr.alloc (.cells (lnC y).toArray 30)).cell? ⟨b1, o1 + k * 8 + 6, none⟩ = some (.string z.lb) ∧ d = 0) := hlx
          have HBX : Hid (At (wr.alloc (.cells (lnC y).toArray 30)) wr.heap.size (lnC y).toArray 30) := hbx
          have HZX : Hid (IZ (wr.alloc (.cells (lnC y).toArray 30)) ab (l.length + 1) (atP l L)) := hzx
          have HB1 : Hid (Below w3.heap.size w3 (wr.alloc (.cells (lnC y).toArray 30))) := BN.out _
          have hbc : (wr.alloc (.cells (lnC y).toArray 30)).cell? ⟨wr.heap.size, 6, none⟩ = some (.string y.lb) := hbx.cell 6
          have UNI : Hid (∀ (k : Nat) (z : Ln), l[k]? = some z → z.k = 2 → z.lb = y.lb → k = goal l i) := fun k z hk h2 he => by
            have h1 := lbOf_at HF.out.b.1 hk h2
            rw [he] at h1
            unfold goal
            rw [hy]
            simp only [Option.bind_some, h1]
            rfl
          have GOA : Hid (∀ z, l[goal l i]? = some z → z.k = 2 ∧ z.lb = y.lb) := fun z hz => by
            rw [y5] at hz
            cases hz
            refine ⟨y6, ?_⟩
            have := ba_eq y7
            rw [this]
          have gk : (¬ y.k ≠ 3) ∨ (y.k ≠ 3 ∧ ¬ y.k ≠ 4) := by
            simp only [goes, Bool.or_eq_true, decide_eq_true_eq] at hg
            omega
          have YK : Hid (y.k = 3 ∨ y.k = 4) := (show _ ∨ _ by simp only [goes, Bool.or_eq_true, decide_eq_true_eq] at hg; exact hg)
          have HY : Hid (l[i]? = some y) := hy
          clear hlx hbx hzx hbl hbw y5 y6 y7 hy hg R
          rcases YK.out with hk | hk
          · cases hL : L i with
            | true =>
              as_aux_lemma =>
                obtain ⟨x1, x2, hx1, hx2, hr1, hr2, hd1, hd2, hne⟩ := reach_long HF.out HY.out hk hL
                rw [HW.out] at hx1 hx2
                have hL' : L i = true := hL
                have hD : atP l L (i + 1) = atP l L i + 8 := by
                  show atP l L i + (shA l i + if L i then 4 else 0) = _
                  unfold shA
                  rw [HY.out, hL']
                  simp [shB, hk]
                have hpp : 4 * ((asmW l L i).length : Int) = atP l L i := asmW_len HF.out.f HF.out.s.1.1 i (by omega)
                have hfar := HF.out.s.long hL
                obtain ⟨t, hte⟩ : ∃ t : ByteArray, t = ⟨(opp y.s.data.toList).toArray⟩ := ⟨_, rfl⟩
                have htn : ¬ t = y.s := fun h => hne (by have h1 := congrArg (fun b : ByteArray => b.data.toList) h; rw [hte] at h1; simpa using h1)
                obtain ⟨tn1, tn2⟩ := str_ne htn
                have hp1x := (List.getElem?_eq_some_iff.1 hx1).1
                have hp2x := (List.getElem?_eq_some_iff.1 hx2).1
                obtain ⟨b3, o3, hA3, hb3, hq3⟩ := R3.out (asmW l L i).length (by omega)
                have hc1 : w3.cell? ⟨b3, o3 + (asmW l L i).length, none⟩ = some (.int .u32 x1) := by
                  have h1 := hq3 0 _ rfl
                  rw [(List.getElem?_eq_some_iff.1 hx1).2, Nat.mul_one, Nat.add_zero] at h1
                  exact h1
                obtain ⟨b4, o4, hA4, hb4, hq4⟩ := R3.out ((asmW l L i).length + 1) (by omega)
                rw [hA3] at hA4
                cases hA4
                have hc2 : w3.cell? ⟨b3, o3 + ((asmW l L i).length + 1), none⟩ = some (.int .u32 x2) := by
                  have h1 := hq4 0 _ rfl
                  rw [(List.getElem?_eq_some_iff.1 hx2).2, Nat.mul_one, Nat.add_zero] at h1
                  exact h1
                have DC : Hid (∀ w', Calls Try.prog 9 #[.int .u32 x1] w' fun e w'' => e = .returned (.tuple #[.agg #[.string t, .int .i64 y.i.rd, .int .i64 y.i.r1, .int .i64 y.i.r2, .int .i64 8], .int .i64 0]) ∧ Below w'.heap.size w' w'') := fun w' => by
                  have h1 := decode_c x1 hr1.1 hr1.2 w'
                  rw [hd1] at h1
                  rw [hte]
                  exact h1
                have DD : Hid (∀ w', Calls Try.prog 9 #[.int .u32 x2] w' fun e w'' => e = .returned (.tuple #[.agg #[.string ⟨#[106, 97, 108]⟩, .int .i64 0, .int .i64 0, .int .i64 0, .int .i64 (way l L i - 4)], .int .i64 0]) ∧ Below w'.heap.size w' w'') := fun w' => by
                  have h1 := decode_c x2 hr2.1 hr2.2 w'
                  rw [hd2] at h1
                  exact h1
                have hqq : atP l L i / 4 = ((asmW l L i).length : Int) := by omega
                have hwD : IntKind.i64.wrap (atP l L (i + 1) - atP l L i) = 8 := by rw [hD, show atP l L i + 8 - atP l L i = 8 by omega]; exact wrap_in _ (by omega)
                have hwE : atP l L (i + 1) - atP l L i = 8 := by omega
                have hz4 : atP l L i + 8 - atP l L i = 8 := by omega
                have hwW : IntKind.i64.wrap (atP l L i + way l L i) = atP l L i + way l L i := wrap_in _ (by omega)
                have hq1 : IntKind.i64.wrap (((asmW l L i).length : Int) + 1) = ((asmW l L i).length : Int) + 1 := wrap_in _ (by omega)
                have hw4 : IntKind.i64.wrap (atP l L i + 4) = atP l L i + 4 := wrap_in _ (by omega)
                have hw5 : IntKind.i64.wrap (atP l L i + 4 + (way l L i - 4)) = atP l L i + way l L i := by rw [show atP l L i + 4 + (way l L i - 4) = atP l L i + way l L i by omega]; exact hwW
                have hw6 : IntKind.i64.wrap (atP l L i + way l L i - atP l L i) = way l L i := by rw [show atP l L i + way l L i - atP l L i = way l L i by omega]; exact wrap_in _ (by omega)
                have hw7 : IntKind.i64.wrap (way l L i - 4) = way l L i - 4 := wrap_in _ (by omega)
                have hpz : ((asmW l L i).length : Int) < (ws.length : Int) := by omega
                have hpz2 : ((asmW l L i).length : Int) + 1 < (ws.length : Int) := by omega
                have hk1 : IntKind.i64.wrap ((i : Int) + 1) = (i : Int) + 1 := wrap_in _ (by omega)
                have HEND : Hid (¬ i + 1 < l.length → atP l L l.length = atP l L (i + 1)) := fun h => by rw [show l.length = i + 1 by omega]
                have HPG : Hid (atP l L (goal l i) = atP l L i + way l L i) := y4
                have HC1 : Hid (∀ w', Below w3.heap.size w3 w' → w'.cell? ⟨b3, o3 + (asmW l L i).length, none⟩ = some (.int .u32 x1) ∧ w'.cell? ⟨b3, o3 + ((asmW l L i).length + 1), none⟩ = some (.int .u32 x2)) := fun w' hb => ⟨(hb.cell (p := ⟨b3, o3 + (asmW l L i).length, none⟩) hb3).trans hc1, (hb.cell (p := ⟨b3, o3 + ((asmW l L i).length + 1), none⟩) hb3).trans hc2⟩
                have HGL : Hid (goal l i < l.length) := hgl
                have hgl0 : 0 ≤ atP l L (goal l i) := hpg
                clear y4 hx1 hd1 hr1 hq3 hc1 hx2 hd2 hr2 hq4 hc2 hne hte htn
                subst hA3
                obtain ⟨k0, s, ⟨rd, q1, q2, im⟩, lb, n0⟩ := y
                simp only at hk
                subst hk
                simp only [lnC] at *
                generalize hgg : goal l i = g at *
                generalize hpgg : atP l L g = pg at *
                have HPX : Hid (atP l L g = pg) := hpgg
                clear hpgg
                go_wp2
                generalize hW1 : wr.alloc (.cells #[.int .i64 3, .string s, .int .i64 rd, .int .i64 q1, .int .i64 q2, .int .i64 im, .string lb, .int .i64 n0] 30) = W1 at *
                generalize hpb : wr.heap.size = pb at *
                have HB1W : Hid (Below w.heap.size w W1) := B3.out.trans (HB1.out.mono B3.out.size)
                go_loopw [11, 12] (fun tv kv wr => ∃ k : Nat, k ≤ l.length ∧ kv = .int .i64 (k : Int) ∧ tv = .int .i64 (if g < k then pg else -1) ∧ ∃ nq, wr = W1.drewN nq) (fun _ kv _ => l.length - (intOf kv).toNat)
                case atStart => exact ⟨0, by omega, rfl, by rw [if_neg (by omega)], 0, rfl⟩
                case round =>
                  obtain ⟨k, hk, rfl, rfl, nq, rfl⟩ := hrel
                  rcases Nat.lt_or_ge k l.length with hkl | hkg
                  · have hkz : (k : Int) < l.length := by omega
                    obtain ⟨z, hz⟩ : ∃ z, l[k]? = some z := ⟨l[k], List.getElem?_eq_getElem hkl⟩
                    obtain ⟨_, d0, d6, _⟩ := HLX.out k z hz
                    have da : W1.cell? ⟨ab, k, none⟩ = some (.int .i64 (atP l L k)) := GZ.cell HZX.out k (by omega)
                    have UNk := UNI.out k z hz
                    have GOk : Hid (g = k → z.k = 2 ∧ z.lb = lb) := fun h => GOA.out z (by rw [h]; exact hz)
                    clear HLX HBX HZX HB1 BN HC1 DC HEND HF HW HY
                    by_cases e2 : z.k = 2
                    · by_cases e6 : z.lb = lb
                      · have hkk := UNk e2 e6
                        subst hkk
                        rw [e2] at d0
                        rw [e6] at d6
                        have hap := HPX.out
                        rw [hap] at da
                        have N1 : Hid ((if k < k then pg else (-1 : Int)) = -1) := (show _ = _ by rw [if_neg (by omega)])
                        have N2 : Hid ((if k < k + 1 then pg else (-1 : Int)) = pg) := (show _ = _ by rw [if_pos (by omega)])
                        clear UNk GOk UNI GOA
                        go_wp2
                        go_quiet (fail)
                        go_wp2
                        go_roundw
                        case rel => exact ⟨k + 1, by omega, by congr 1, by rw [N2.out], _, rfl⟩
                        case measure => simp [intOf]; omega
                      · obtain ⟨n1, n2⟩ := str_ne e6
                        have hng : ¬ g = k := fun h => e6 (GOk.out h).2
                        have N2 : Hid ((if g < k then pg else (-1 : Int)) = (if g < k + 1 then pg else (-1 : Int))) := (show _ = _ by
                          have : (g < k) = (g < k + 1) := by rw [eq_iff_iff]; omega
                          simp only [this])
                        generalize (if g < k then pg else (-1 : Int)) = tv at *
                        rw [e2] at d0
                        clear UNk GOk UNI GOA
                        go_wp2
                        go_quiet (fail)
                        go_wp2
                        go_roundw
                        case rel => exact ⟨k + 1, by omega, by congr 1, by rw [N2.out], _, rfl⟩
                        case measure => simp [intOf]; omega
                    · have hng : ¬ g = k := fun h => e2 (GOk.out h).1
                      have N2 : Hid ((if g < k then pg else (-1 : Int)) = (if g < k + 1 then pg else (-1 : Int))) := (show _ = _ by
                        have : (g < k) = (g < k + 1) := by rw [eq_iff_iff]; omega
                        simp only [this])
                      generalize (if g < k then pg else (-1 : Int)) = tv at *
                      have e3 : (z.k == 2) = false := by simpa using e2
                      clear UNk GOk UNI GOA
                      go_wp2
                      go_quiet (fail)
                      go_wp2
                      go_roundw
                      case rel => exact ⟨k + 1, by omega, by congr 1, by rw [N2.out], _, rfl⟩
                      case measure => simp [intOf]; omega
                  · obtain rfl : k = l.length := by omega
                    have hkz : ¬ (l.length : Int) < l.length := by omega
                    rw [if_pos HGL.out]
                    have hpgg := HPG.out
                    subst hpgg
                    have hai : W1.cell? ⟨ab, i, none⟩ = some (.int .i64 (atP l L i)) := GZ.cell HZX.out i (by omega)
                    have hc1 := (HC1.out W1 HB1.out).1
                    have BX : Hid (∀ w', Below (W1.drewN nq).heap.size (W1.drewN nq) w' → At w' pb #[.int .i64 3, .string s, .int .i64 rd, .int .i64 q1, .int .i64 q2, .int .i64 im, .string lb, .int .i64 n0] 30 ∧ w'.cell? ⟨ab, i, none⟩ = some (.int .i64 (atP l L i)) ∧ Below w3.heap.size w3 w' ∧ pb < w'.heap.size ∧ ab < w'.heap.size) := fun w' hb => by
                      have hb2 : Below W1.heap.size W1 w' := (below_drewN _ nq).trans (hb.mono (Nat.le_refl _))
                      exact ⟨HBX.out.below hb2 HBX.out.lt, (hb2.cell (p := ⟨ab, i, none⟩) (GZ.lt HZX.out)).trans hai, HB1.out.trans (hb2.mono HB1.out.size), by have := hb2.size; have := HBX.out.lt; omega, by have := hb2.size; have := GZ.lt HZX.out; omega⟩
                    have hto : ¬ atP l L i + way l L i < 0 := by omega
                    by_cases hin : i + 1 < l.length
                    · have hinz : (i : Int) + 1 < (l.length : Int) := by omega
                      have hai1 : W1.cell? ⟨ab, i + 1, none⟩ = some (.int .i64 (atP l L (i + 1))) := GZ.cell HZX.out (i + 1) (by omega)
                      clear HLX UNI GOA HBX HZX HB1 BN HEND HF HW HY HPX
                      rcases hfar with hfar | hfar
                      · have hd0 : ¬ 0 < way l L i := by omega
                        have hd1 : decide (-4096 ≤ way l L i) = false := by simp; omega
                        go_wp2_with (first | (go_at_call 9; have M2 := B53; refine (DD.out _).mono ?_; rintro e w7 ⟨rfl, hb⟩; have hi7 := (At.new w5 #[.string t, .int .i64 rd, .int .i64 q1, .int .i64 q2, .int .i64 8] 28).below hb (At.new w5 _ _).lt; have bx7 := (BX5.out.al (.cells #[.string t, .int .i64 rd, .int .i64 q1, .int .i64 q2, .int .i64 8] 28)).below hb (BX5.out.al _).lt; have gb : w7.cell? ⟨ab, i, none⟩ = some (.int .i64 (atP l L i)) := (hb.cell (p := ⟨ab, i, none⟩) (by have := z5.out.2; simp; omega)).trans (cell_new _ ga5.out); have h0 : w7.cell? ⟨pb, 0, none⟩ = some (.int .i64 3) := bx7.cell 0; have h1 : w7.cell? ⟨pb, 1, none⟩ = some (.string s) := bx7.cell 1; have h2 : w7.cell? ⟨pb, 2, none⟩ = some (.int .i64 rd) := bx7.cell 2; have h3 : w7.cell? ⟨pb, 3, none⟩ = some (.int .i64 q1) := bx7.cell 3; have h4 : w7.cell? ⟨pb, 4, none⟩ = some (.int .i64 q2) := bx7.cell 4; have h5 : w7.cell? ⟨pb, 5, none⟩ = some (.int .i64 im) := bx7.cell 5; have h6 : w7.cell? ⟨pb, 6, none⟩ = some (.string lb) := bx7.cell 6; have h7 : w7.cell? ⟨pb, 7, none⟩ = some (.int .i64 n0) := bx7.cell 7; have i0 : w7.cell? ⟨w5.heap.size, 0, none⟩ = some (.string t) := hi7.cell 0; have i1 : w7.cell? ⟨w5.heap.size, 1, none⟩ = some (.int .i64 rd) := hi7.cell 1; have i2 : w7.cell? ⟨w5.heap.size, 2, none⟩ = some (.int .i64 q1) := hi7.cell 2; have i3 : w7.cell? ⟨w5.heap.size, 3, none⟩ = some (.int .i64 q2) := hi7.cell 3; have i4 : w7.cell? ⟨w5.heap.size, 4, none⟩ = some (.int .i64 8) := hi7.cell 4; have zp7 : pb < w7.heap.size := bx7.lt; have za7 : ab < w7.heap.size := World.block_lt_of_cell? _ _ gb; have zi7 : w5.heap.size < w7.heap.size := hi7.lt; have B73 : Hid (Below w3.heap.size w3 w7) := (B53.out.trans ((below_alloc _ _).mono B53.out.size)).trans (hb.mono (by have := B53.out.size; simp; omega)); clear hb hi7 bx7) | (go_at_call 9; refine (DC.out _).mono ?_; rintro e w5 ⟨rfl, hb⟩; obtain ⟨bx5, ga, B53, zp, za⟩ := BX.out w5 hb; have g0 : w5.cell? ⟨pb, 0, none⟩ = some (.int .i64 3) := bx5.cell 0; have g1 : w5.cell? ⟨pb, 1, none⟩ = some (.string s) := bx5.cell 1; have g2 : w5.cell? ⟨pb, 2, none⟩ = some (.int .i64 rd) := bx5.cell 2; have g3 : w5.cell? ⟨pb, 3, none⟩ = some (.int .i64 q1) := bx5.cell 3; have g4 : w5.cell? ⟨pb, 4, none⟩ = some (.int .i64 q2) := bx5.cell 4; have g5 : w5.cell? ⟨pb, 5, none⟩ = some (.int .i64 im) := bx5.cell 5; have g6 : w5.cell? ⟨pb, 6, none⟩ = some (.string lb) := bx5.cell 6; have g7 : w5.cell? ⟨pb, 7, none⟩ = some (.int .i64 n0) := bx5.cell 7; have B53 : Hid (Below w3.heap.size w3 w5) := B53; have BX5 : Hid (At w5 pb #[.int .i64 3, .string s, .int .i64 rd, .int .i64 q1, .int .i64 q2, .int .i64 im, .string lb, .int .i64 n0] 30) := bx5; obtain ⟨-, gc2⟩ := HC1.out w5 B53.out; have zb3 := World.block_lt_of_cell? _ _ gc2; have z5 : Hid (pb < w5.heap.size ∧ ab < w5.heap.size) := ⟨zp, za⟩; have ga5 : Hid (w5.cell? ⟨ab, i, none⟩ = some (.int .i64 (atP l L i))) := ga; clear hb bx5))
                        go_quiet (fail)
                        go_wp2
                        go_roundw
                        case rel => exact ⟨i + 1, by omega, by congr 1, drew_below (B73.out.trans ((below_alloc _ _).mono B73.out.size)) _⟩
                        case measure => simp [intOf]; omega
                      · have hd0 : 0 < way l L i := by omega
                        have hd1 : decide (-4096 ≤ way l L i - 4) = true := by simp; omega
                        have hd2 : decide (way l L i - 4 ≤ 4094) = false := by simp; omega
                        go_wp2_with (first | (go_at_call 9; have M2 := B53; refine (DD.out _).mono ?_; rintro e w7 ⟨rfl, hb⟩; have hi7 := (At.new w5 #[.string t, .int .i64 rd, .int .i64 q1, .int .i64 q2, .int .i64 8] 28).below hb (At.new w5 _ _).lt; have bx7 := (BX5.out.al (.cells #[.string t, .int .i64 rd, .int .i64 q1, .int .i64 q2, .int .i64 8] 28)).below hb (BX5.out.al _).lt; have gb : w7.cell? ⟨ab, i, none⟩ = some (.int .i64 (atP l L i)) := (hb.cell (p := ⟨ab, i, none⟩) (by have := z5.out.2; simp; omega)).trans (cell_new _ ga5.out); have h0 : w7.cell? ⟨pb, 0, none⟩ = some (.int .i64 3) := bx7.cell 0; have h1 : w7.cell? ⟨pb, 1, none⟩ = some (.string s) := bx7.cell 1; have h2 : w7.cell? ⟨pb, 2, none⟩ = some (.int .i64 rd) := bx7.cell 2; have h3 : w7.cell? ⟨pb, 3, none⟩ = some (.int .i64 q1) := bx7.cell 3; have h4 : w7.cell? ⟨pb, 4, none⟩ = some (.int .i64 q2) := bx7.cell 4; have h5 : w7.cell? ⟨pb, 5, none⟩ = some (.int .i64 im) := bx7.cell 5; have h6 : w7.cell? ⟨pb, 6, none⟩ = some (.string lb) := bx7.cell 6; have h7 : w7.cell? ⟨pb, 7, none⟩ = some (.int .i64 n0) := bx7.cell 7; have i0 : w7.cell? ⟨w5.heap.size, 0, none⟩ = some (.string t) := hi7.cell 0; have i1 : w7.cell? ⟨w5.heap.size, 1, none⟩ = some (.int .i64 rd) := hi7.cell 1; have i2 : w7.cell? ⟨w5.heap.size, 2, none⟩ = some (.int .i64 q1) := hi7.cell 2; have i3 : w7.cell? ⟨w5.heap.size, 3, none⟩ = some (.int .i64 q2) := hi7.cell 3; have i4 : w7.cell? ⟨w5.heap.size, 4, none⟩ = some (.int .i64 8) := hi7.cell 4; have zp7 : pb < w7.heap.size := bx7.lt; have za7 : ab < w7.heap.size := World.block_lt_of_cell? _ _ gb; have zi7 : w5.heap.size < w7.heap.size := hi7.lt; have B73 : Hid (Below w3.heap.size w3 w7) := (B53.out.trans ((below_alloc _ _).mono B53.out.size)).trans (hb.mono (by have := B53.out.size; simp; omega)); clear hb hi7 bx7) | (go_at_call 9; refine (DC.out _).mono ?_; rintro e w5 ⟨rfl, hb⟩; obtain ⟨bx5, ga, B53, zp, za⟩ := BX.out w5 hb; have g0 : w5.cell? ⟨pb, 0, none⟩ = some (.int .i64 3) := bx5.cell 0; have g1 : w5.cell? ⟨pb, 1, none⟩ = some (.string s) := bx5.cell 1; have g2 : w5.cell? ⟨pb, 2, none⟩ = some (.int .i64 rd) := bx5.cell 2; have g3 : w5.cell? ⟨pb, 3, none⟩ = some (.int .i64 q1) := bx5.cell 3; have g4 : w5.cell? ⟨pb, 4, none⟩ = some (.int .i64 q2) := bx5.cell 4; have g5 : w5.cell? ⟨pb, 5, none⟩ = some (.int .i64 im) := bx5.cell 5; have g6 : w5.cell? ⟨pb, 6, none⟩ = some (.string lb) := bx5.cell 6; have g7 : w5.cell? ⟨pb, 7, none⟩ = some (.int .i64 n0) := bx5.cell 7; have B53 : Hid (Below w3.heap.size w3 w5) := B53; have BX5 : Hid (At w5 pb #[.int .i64 3, .string s, .int .i64 rd, .int .i64 q1, .int .i64 q2, .int .i64 im, .string lb, .int .i64 n0] 30) := bx5; obtain ⟨-, gc2⟩ := HC1.out w5 B53.out; have zb3 := World.block_lt_of_cell? _ _ gc2; have z5 : Hid (pb < w5.heap.size ∧ ab < w5.heap.size) := ⟨zp, za⟩; have ga5 : Hid (w5.cell? ⟨ab, i, none⟩ = some (.int .i64 (atP l L i))) := ga; clear hb bx5))
                        go_quiet (fail)
                        go_wp2
                        go_roundw
                        case rel => exact ⟨i + 1, by omega, by congr 1, drew_below (B73.out.trans ((below_alloc _ _).mono B73.out.size)) _⟩
                        case measure => simp [intOf]; omega
                    · have hinz : ¬ (i : Int) + 1 < (l.length : Int) := by omega
                      have hE := HEND.out hin
                      rw [← hE] at hwD hwE
                      clear hE
                      clear HLX UNI GOA HBX HZX HB1 BN HEND HF HW HY HPX
                      rcases hfar with hfar | hfar
                      · have hd0 : ¬ 0 < way l L i := by omega
                        have hd1 : decide (-4096 ≤ way l L i) = false := by simp; omega
                        go_wp2_with (first | (go_at_call 9; have M2 := B53; refine (DD.out _).mono ?_; rintro e w7 ⟨rfl, hb⟩; have hi7 := (At.new w5 #[.string t, .int .i64 rd, .int .i64 q1, .int .i64 q2, .int .i64 8] 28).below hb (At.new w5 _ _).lt; have bx7 := (BX5.out.al (.cells #[.string t, .int .i64 rd, .int .i64 q1, .int .i64 q2, .int .i64 8] 28)).below hb (BX5.out.al _).lt; have gb : w7.cell? ⟨ab, i, none⟩ = some (.int .i64 (atP l L i)) := (hb.cell (p := ⟨ab, i, none⟩) (by have := z5.out.2; simp; omega)).trans (cell_new _ ga5.out); have h0 : w7.cell? ⟨pb, 0, none⟩ = some (.int .i64 3) := bx7.cell 0; have h1 : w7.cell? ⟨pb, 1, none⟩ = some (.string s) := bx7.cell 1; have h2 : w7.cell? ⟨pb, 2, none⟩ = some (.int .i64 rd) := bx7.cell 2; have h3 : w7.cell? ⟨pb, 3, none⟩ = some (.int .i64 q1) := bx7.cell 3; have h4 : w7.cell? ⟨pb, 4, none⟩ = some (.int .i64 q2) := bx7.cell 4; have h5 : w7.cell? ⟨pb, 5, none⟩ = some (.int .i64 im) := bx7.cell 5; have h6 : w7.cell? ⟨pb, 6, none⟩ = some (.string lb) := bx7.cell 6; have h7 : w7.cell? ⟨pb, 7, none⟩ = some (.int .i64 n0) := bx7.cell 7; have i0 : w7.cell? ⟨w5.heap.size, 0, none⟩ = some (.string t) := hi7.cell 0; have i1 : w7.cell? ⟨w5.heap.size, 1, none⟩ = some (.int .i64 rd) := hi7.cell 1; have i2 : w7.cell? ⟨w5.heap.size, 2, none⟩ = some (.int .i64 q1) := hi7.cell 2; have i3 : w7.cell? ⟨w5.heap.size, 3, none⟩ = some (.int .i64 q2) := hi7.cell 3; have i4 : w7.cell? ⟨w5.heap.size, 4, none⟩ = some (.int .i64 8) := hi7.cell 4; have zp7 : pb < w7.heap.size := bx7.lt; have za7 : ab < w7.heap.size := World.block_lt_of_cell? _ _ gb; have zi7 : w5.heap.size < w7.heap.size := hi7.lt; have B73 : Hid (Below w3.heap.size w3 w7) := (B53.out.trans ((below_alloc _ _).mono B53.out.size)).trans (hb.mono (by have := B53.out.size; simp; omega)); clear hb hi7 bx7) | (go_at_call 9; refine (DC.out _).mono ?_; rintro e w5 ⟨rfl, hb⟩; obtain ⟨bx5, ga, B53, zp, za⟩ := BX.out w5 hb; have g0 : w5.cell? ⟨pb, 0, none⟩ = some (.int .i64 3) := bx5.cell 0; have g1 : w5.cell? ⟨pb, 1, none⟩ = some (.string s) := bx5.cell 1; have g2 : w5.cell? ⟨pb, 2, none⟩ = some (.int .i64 rd) := bx5.cell 2; have g3 : w5.cell? ⟨pb, 3, none⟩ = some (.int .i64 q1) := bx5.cell 3; have g4 : w5.cell? ⟨pb, 4, none⟩ = some (.int .i64 q2) := bx5.cell 4; have g5 : w5.cell? ⟨pb, 5, none⟩ = some (.int .i64 im) := bx5.cell 5; have g6 : w5.cell? ⟨pb, 6, none⟩ = some (.string lb) := bx5.cell 6; have g7 : w5.cell? ⟨pb, 7, none⟩ = some (.int .i64 n0) := bx5.cell 7; have B53 : Hid (Below w3.heap.size w3 w5) := B53; have BX5 : Hid (At w5 pb #[.int .i64 3, .string s, .int .i64 rd, .int .i64 q1, .int .i64 q2, .int .i64 im, .string lb, .int .i64 n0] 30) := bx5; obtain ⟨-, gc2⟩ := HC1.out w5 B53.out; have zb3 := World.block_lt_of_cell? _ _ gc2; have z5 : Hid (pb < w5.heap.size ∧ ab < w5.heap.size) := ⟨zp, za⟩; have ga5 : Hid (w5.cell? ⟨ab, i, none⟩ = some (.int .i64 (atP l L i))) := ga; clear hb bx5))
                        go_quiet (fail)
                        go_wp2
                        go_roundw
                        case rel => exact ⟨i + 1, by omega, by congr 1, drew_below (B73.out.trans ((below_alloc _ _).mono B73.out.size)) _⟩
                        case measure => simp [intOf]; omega
                      · have hd0 : 0 < way l L i := by omega
                        have hd1 : decide (-4096 ≤ way l L i - 4) = true := by simp; omega
                        have hd2 : decide (way l L i - 4 ≤ 4094) = false := by simp; omega
                        go_wp2_with (first | (go_at_call 9; have M2 := B53; refine (DD.out _).mono ?_; rintro e w7 ⟨rfl, hb⟩; have hi7 := (At.new w5 #[.string t, .int .i64 rd, .int .i64 q1, .int .i64 q2, .int .i64 8] 28).below hb (At.new w5 _ _).lt; have bx7 := (BX5.out.al (.cells #[.string t, .int .i64 rd, .int .i64 q1, .int .i64 q2, .int .i64 8] 28)).below hb (BX5.out.al _).lt; have gb : w7.cell? ⟨ab, i, none⟩ = some (.int .i64 (atP l L i)) := (hb.cell (p := ⟨ab, i, none⟩) (by have := z5.out.2; simp; omega)).trans (cell_new _ ga5.out); have h0 : w7.cell? ⟨pb, 0, none⟩ = some (.int .i64 3) := bx7.cell 0; have h1 : w7.cell? ⟨pb, 1, none⟩ = some (.string s) := bx7.cell 1; have h2 : w7.cell? ⟨pb, 2, none⟩ = some (.int .i64 rd) := bx7.cell 2; have h3 : w7.cell? ⟨pb, 3, none⟩ = some (.int .i64 q1) := bx7.cell 3; have h4 : w7.cell? ⟨pb, 4, none⟩ = some (.int .i64 q2) := bx7.cell 4; have h5 : w7.cell? ⟨pb, 5, none⟩ = some (.int .i64 im) := bx7.cell 5; have h6 : w7.cell? ⟨pb, 6, none⟩ = some (.string lb) := bx7.cell 6; have h7 : w7.cell? ⟨pb, 7, none⟩ = some (.int .i64 n0) := bx7.cell 7; have i0 : w7.cell? ⟨w5.heap.size, 0, none⟩ = some (.string t) := hi7.cell 0; have i1 : w7.cell? ⟨w5.heap.size, 1, none⟩ = some (.int .i64 rd) := hi7.cell 1; have i2 : w7.cell? ⟨w5.heap.size, 2, none⟩ = some (.int .i64 q1) := hi7.cell 2; have i3 : w7.cell? ⟨w5.heap.size, 3, none⟩ = some (.int .i64 q2) := hi7.cell 3; have i4 : w7.cell? ⟨w5.heap.size, 4, none⟩ = some (.int .i64 8) := hi7.cell 4; have zp7 : pb < w7.heap.size := bx7.lt; have za7 : ab < w7.heap.size := World.block_lt_of_cell? _ _ gb; have zi7 : w5.heap.size < w7.heap.size := hi7.lt; have B73 : Hid (Below w3.heap.size w3 w7) := (B53.out.trans ((below_alloc _ _).mono B53.out.size)).trans (hb.mono (by have := B53.out.size; simp; omega)); clear hb hi7 bx7) | (go_at_call 9; refine (DC.out _).mono ?_; rintro e w5 ⟨rfl, hb⟩; obtain ⟨bx5, ga, B53, zp, za⟩ := BX.out w5 hb; have g0 : w5.cell? ⟨pb, 0, none⟩ = some (.int .i64 3) := bx5.cell 0; have g1 : w5.cell? ⟨pb, 1, none⟩ = some (.string s) := bx5.cell 1; have g2 : w5.cell? ⟨pb, 2, none⟩ = some (.int .i64 rd) := bx5.cell 2; have g3 : w5.cell? ⟨pb, 3, none⟩ = some (.int .i64 q1) := bx5.cell 3; have g4 : w5.cell? ⟨pb, 4, none⟩ = some (.int .i64 q2) := bx5.cell 4; have g5 : w5.cell? ⟨pb, 5, none⟩ = some (.int .i64 im) := bx5.cell 5; have g6 : w5.cell? ⟨pb, 6, none⟩ = some (.string lb) := bx5.cell 6; have g7 : w5.cell? ⟨pb, 7, none⟩ = some (.int .i64 n0) := bx5.cell 7; have B53 : Hid (Below w3.heap.size w3 w5) := B53; have BX5 : Hid (At w5 pb #[.int .i64 3, .string s, .int .i64 rd, .int .i64 q1, .int .i64 q2, .int .i64 im, .string lb, .int .i64 n0] 30) := bx5; obtain ⟨-, gc2⟩ := HC1.out w5 B53.out; have zb3 := World.block_lt_of_cell? _ _ gc2; have z5 : Hid (pb < w5.heap.size ∧ ab < w5.heap.size) := ⟨zp, za⟩; have ga5 : Hid (w5.cell? ⟨ab, i, none⟩ = some (.int .i64 (atP l L i))) := ga; clear hb bx5))
            | false =>
              as_aux_lemma =>
                obtain ⟨x1, hx1, hr1, hd1⟩ := reach_short HF.out HY.out hk hL
                rw [HW.out] at hx1
                have hL' : L i = false := hL
                have hD : atP l L (i + 1) = atP l L i + 4 := by
                  show atP l L i + (shA l i + if L i then 4 else 0) = _
                  unfold shA
                  rw [HY.out, hL']
                  simp [shB, hk]
                have hpp : 4 * ((asmW l L i).length : Int) = atP l L i := asmW_len HF.out.f HF.out.s.1.1 i (by omega)
                have hp1x := (List.getElem?_eq_some_iff.1 hx1).1
                obtain ⟨b3, o3, hA3, hb3, hq3⟩ := R3.out (asmW l L i).length (by omega)
                have hc1 : w3.cell? ⟨b3, o3 + (asmW l L i).length, none⟩ = some (.int .u32 x1) := by
                  have h1 := hq3 0 _ rfl
                  rw [(List.getElem?_eq_some_iff.1 hx1).2, Nat.mul_one, Nat.add_zero] at h1
                  exact h1
                have DC : Hid (∀ w', Calls Try.prog 9 #[.int .u32 x1] w' fun e w'' => e = .returned (.tuple #[.agg #[.string y.s, .int .i64 y.i.rd, .int .i64 y.i.r1, .int .i64 y.i.r2, .int .i64 (way l L i)], .int .i64 0]) ∧ Below w'.heap.size w' w'') := fun w' => by
                  have h1 := decode_c x1 hr1.1 hr1.2 w'
                  rw [hd1] at h1
                  exact h1
                have hqq : atP l L i / 4 = ((asmW l L i).length : Int) := by omega
                have hwD : IntKind.i64.wrap (atP l L (i + 1) - atP l L i) = 4 := by rw [hD, show atP l L i + 4 - atP l L i = 4 by omega]; exact wrap_in _ (by omega)
                have hwE : atP l L (i + 1) - atP l L i = 4 := by omega
                have hz4 : atP l L i + 4 - atP l L i = 4 := by omega
                have hwW : IntKind.i64.wrap (atP l L i + way l L i) = atP l L i + way l L i := wrap_in _ (by omega)
                have hpz : ((asmW l L i).length : Int) < (ws.length : Int) := by omega
                have hk1 : IntKind.i64.wrap ((i : Int) + 1) = (i : Int) + 1 := wrap_in _ (by omega)
                have HEND : Hid (¬ i + 1 < l.length → atP l L l.length = atP l L (i + 1)) := fun h => by rw [show l.length = i + 1 by omega]
                have HPG : Hid (atP l L (goal l i) = atP l L i + way l L i) := y4
                have HC1 : Hid (∀ w', Below w3.heap.size w3 w' → w'.cell? ⟨b3, o3 + (asmW l L i).length, none⟩ = some (.int .u32 x1)) := fun w' hb => (hb.cell (p := ⟨b3, o3 + (asmW l L i).length, none⟩) hb3).trans hc1
                have HGL : Hid (goal l i < l.length) := hgl
                have hgl0 : 0 ≤ atP l L (goal l i) := hpg
                clear y4 hx1 hd1 hr1 hq3 hc1
                subst hA3
                obtain ⟨k0, s, ⟨rd, q1, q2, im⟩, lb, n0⟩ := y
                simp only at hk
                subst hk
                simp only [lnC] at *
                generalize hgg : goal l i = g at *
                generalize hpgg : atP l L g = pg at *
                have HPX : Hid (atP l L g = pg) := hpgg
                clear hpgg
                go_wp2
                generalize hW1 : wr.alloc (.cells #[.int .i64 3, .string s, .int .i64 rd, .int .i64 q1, .int .i64 q2, .int .i64 im, .string lb, .int .i64 n0] 30) = W1 at *
                generalize hpb : wr.heap.size = pb at *
                have HB1W : Hid (Below w.heap.size w W1) := B3.out.trans (HB1.out.mono B3.out.size)
                go_loopw [11, 12] (fun tv kv wr => ∃ k : Nat, k ≤ l.length ∧ kv = .int .i64 (k : Int) ∧ tv = .int .i64 (if g < k then pg else -1) ∧ ∃ nq, wr = W1.drewN nq) (fun _ kv _ => l.length - (intOf kv).toNat)
                case atStart => exact ⟨0, by omega, rfl, by rw [if_neg (by omega)], 0, rfl⟩
                case round =>
                  obtain ⟨k, hk, rfl, rfl, nq, rfl⟩ := hrel
                  rcases Nat.lt_or_ge k l.length with hkl | hkg
                  · have hkz : (k : Int) < l.length := by omega
                    obtain ⟨z, hz⟩ : ∃ z, l[k]? = some z := ⟨l[k], List.getElem?_eq_getElem hkl⟩
                    obtain ⟨_, d0, d6, _⟩ := HLX.out k z hz
                    have da : W1.cell? ⟨ab, k, none⟩ = some (.int .i64 (atP l L k)) := GZ.cell HZX.out k (by omega)
                    have UNk := UNI.out k z hz
                    have GOk : Hid (g = k → z.k = 2 ∧ z.lb = lb) := fun h => GOA.out z (by rw [h]; exact hz)
                    clear HLX HBX HZX HB1 BN HC1 DC HEND HF HW HY
                    by_cases e2 : z.k = 2
                    · by_cases e6 : z.lb = lb
                      · have hkk := UNk e2 e6
                        subst hkk
                        rw [e2] at d0
                        rw [e6] at d6
                        have hap := HPX.out
                        rw [hap] at da
                        have N1 : Hid ((if k < k then pg else (-1 : Int)) = -1) := (show _ = _ by rw [if_neg (by omega)])
                        have N2 : Hid ((if k < k + 1 then pg else (-1 : Int)) = pg) := (show _ = _ by rw [if_pos (by omega)])
                        clear UNk GOk UNI GOA
                        go_wp2
                        go_quiet (fail)
                        go_wp2
                        go_roundw
                        case rel => exact ⟨k + 1, by omega, by congr 1, by rw [N2.out], _, rfl⟩
                        case measure => simp [intOf]; omega
                      · obtain ⟨n1, n2⟩ := str_ne e6
                        have hng : ¬ g = k := fun h => e6 (GOk.out h).2
                        have N2 : Hid ((if g < k then pg else (-1 : Int)) = (if g < k + 1 then pg else (-1 : Int))) := (show _ = _ by
                          have : (g < k) = (g < k + 1) := by rw [eq_iff_iff]; omega
                          simp only [this])
                        generalize (if g < k then pg else (-1 : Int)) = tv at *
                        rw [e2] at d0
                        clear UNk GOk UNI GOA
                        go_wp2
                        go_quiet (fail)
                        go_wp2
                        go_roundw
                        case rel => exact ⟨k + 1, by omega, by congr 1, by rw [N2.out], _, rfl⟩
                        case measure => simp [intOf]; omega
                    · have hng : ¬ g = k := fun h => e2 (GOk.out h).1
                      have N2 : Hid ((if g < k then pg else (-1 : Int)) = (if g < k + 1 then pg else (-1 : Int))) := (show _ = _ by
                        have : (g < k) = (g < k + 1) := by rw [eq_iff_iff]; omega
                        simp only [this])
                      generalize (if g < k then pg else (-1 : Int)) = tv at *
                      have e3 : (z.k == 2) = false := by simpa using e2
                      clear UNk GOk UNI GOA
                      go_wp2
                      go_quiet (fail)
                      go_wp2
                      go_roundw
                      case rel => exact ⟨k + 1, by omega, by congr 1, by rw [N2.out], _, rfl⟩
                      case measure => simp [intOf]; omega
                  · obtain rfl : k = l.length := by omega
                    have hkz : ¬ (l.length : Int) < l.length := by omega
                    rw [if_pos HGL.out]
                    have hpgg := HPG.out
                    subst hpgg
                    have hai : W1.cell? ⟨ab, i, none⟩ = some (.int .i64 (atP l L i)) := GZ.cell HZX.out i (by omega)
                    have hc1 := HC1.out W1 HB1.out
                    have BX : Hid (∀ w', Below (W1.drewN nq).heap.size (W1.drewN nq) w' → At w' pb #[.int .i64 3, .string s, .int .i64 rd, .int .i64 q1, .int .i64 q2, .int .i64 im, .string lb, .int .i64 n0] 30 ∧ w'.cell? ⟨ab, i, none⟩ = some (.int .i64 (atP l L i)) ∧ Below w3.heap.size w3 w' ∧ pb < w'.heap.size ∧ ab < w'.heap.size) := fun w' hb => by
                      have hb2 : Below W1.heap.size W1 w' := (below_drewN _ nq).trans (hb.mono (Nat.le_refl _))
                      exact ⟨HBX.out.below hb2 HBX.out.lt, (hb2.cell (p := ⟨ab, i, none⟩) (GZ.lt HZX.out)).trans hai, HB1.out.trans (hb2.mono HB1.out.size), by have := hb2.size; have := HBX.out.lt; omega, by have := hb2.size; have := GZ.lt HZX.out; omega⟩
                    have hto : ¬ atP l L i + way l L i < 0 := by omega
                    by_cases hin : i + 1 < l.length
                    · have hinz : (i : Int) + 1 < (l.length : Int) := by omega
                      have hai1 : W1.cell? ⟨ab, i + 1, none⟩ = some (.int .i64 (atP l L (i + 1))) := GZ.cell HZX.out (i + 1) (by omega)
                      clear HLX UNI GOA HBX HZX HB1 BN HEND HF HW HY HPX
                      go_wp2_with (go_at_call 9; refine (DC.out _).mono ?_; rintro e w5 ⟨rfl, hb⟩; obtain ⟨bx5, ga, B53, zp, za⟩ := BX.out w5 hb; have g0 : w5.cell? ⟨pb, 0, none⟩ = some (.int .i64 3) := bx5.cell 0; have g1 : w5.cell? ⟨pb, 1, none⟩ = some (.string s) := bx5.cell 1; have g2 : w5.cell? ⟨pb, 2, none⟩ = some (.int .i64 rd) := bx5.cell 2; have g3 : w5.cell? ⟨pb, 3, none⟩ = some (.int .i64 q1) := bx5.cell 3; have g4 : w5.cell? ⟨pb, 4, none⟩ = some (.int .i64 q2) := bx5.cell 4; have g5 : w5.cell? ⟨pb, 5, none⟩ = some (.int .i64 im) := bx5.cell 5; have g6 : w5.cell? ⟨pb, 6, none⟩ = some (.string lb) := bx5.cell 6; have g7 : w5.cell? ⟨pb, 7, none⟩ = some (.int .i64 n0) := bx5.cell 7; have B53 : Hid (Below w3.heap.size w3 w5) := B53; have BX5 : Hid (At w5 pb #[.int .i64 3, .string s, .int .i64 rd, .int .i64 q1, .int .i64 q2, .int .i64 im, .string lb, .int .i64 n0] 30) := bx5; clear hb bx5)
                      go_quiet (fail)
                      go_wp2
                      go_roundw
                      case rel => exact ⟨i + 1, by omega, by congr 1, drew_below (B53.out.trans ((below_alloc _ _).mono B53.out.size)) _⟩
                      case measure => simp [intOf]; omega
                    · have hinz : ¬ (i : Int) + 1 < (l.length : Int) := by omega
                      have hE := HEND.out hin
                      rw [← hE] at hwD hwE
                      clear hE
                      clear HLX UNI GOA HBX HZX HB1 BN HEND HF HW HY HPX
                      go_wp2_with (go_at_call 9; refine (DC.out _).mono ?_; rintro e w5 ⟨rfl, hb⟩; obtain ⟨bx5, ga, B53, zp, za⟩ := BX.out w5 hb; have g0 : w5.cell? ⟨pb, 0, none⟩ = some (.int .i64 3) := bx5.cell 0; have g1 : w5.cell? ⟨pb, 1, none⟩ = some (.string s) := bx5.cell 1; have g2 : w5.cell? ⟨pb, 2, none⟩ = some (.int .i64 rd) := bx5.cell 2; have g3 : w5.cell? ⟨pb, 3, none⟩ = some (.int .i64 q1) := bx5.cell 3; have g4 : w5.cell? ⟨pb, 4, none⟩ = some (.int .i64 q2) := bx5.cell 4; have g5 : w5.cell? ⟨pb, 5, none⟩ = some (.int .i64 im) := bx5.cell 5; have g6 : w5.cell? ⟨pb, 6, none⟩ = some (.string lb) := bx5.cell 6; have g7 : w5.cell? ⟨pb, 7, none⟩ = some (.int .i64 n0) := bx5.cell 7; have B53 : Hid (Below w3.heap.size w3 w5) := B53; have BX5 : Hid (At w5 pb #[.int .i64 3, .string s, .int .i64 rd, .int .i64 q1, .int .i64 q2, .int .i64 im, .string lb, .int .i64 n0] 30) := bx5; clear hb bx5)
                      go_quiet (fail)
                      go_wp2
                      go_roundw
                      case rel => exact ⟨i + 1, by omega, by congr 1, drew_below (B53.out.trans ((below_alloc _ _).mono B53.out.size)) _⟩
                      case measure => simp [intOf]; omega
          · as_aux_lemma =>
              obtain ⟨x1, hx1, hr1, hd1⟩ := reach_jump HF.out HY.out hk
              rw [HW.out] at hx1
              have hL' : L i = false := (by cases e : L i with | false => rfl | true => have h1 := HF.out.s.1.1 i e; rw [isB_at HY.out] at h1; simp [hk] at h1)
              have hD : atP l L (i + 1) = atP l L i + 4 := by
                show atP l L i + (shA l i + if L i then 4 else 0) = _
                unfold shA
                rw [HY.out, hL']
                simp [shB, hk]
              have hpp : 4 * ((asmW l L i).length : Int) = atP l L i := asmW_len HF.out.f HF.out.s.1.1 i (by omega)
              have hp1x := (List.getElem?_eq_some_iff.1 hx1).1
              obtain ⟨b3, o3, hA3, hb3, hq3⟩ := R3.out (asmW l L i).length (by omega)
              have hc1 : w3.cell? ⟨b3, o3 + (asmW l L i).length, none⟩ = some (.int .u32 x1) := by
                have h1 := hq3 0 _ rfl
                rw [(List.getElem?_eq_some_iff.1 hx1).2, Nat.mul_one, Nat.add_zero] at h1
                exact h1
              have DC : Hid (∀ w', Calls Try.prog 9 #[.int .u32 x1] w' fun e w'' => e = .returned (.tuple #[.agg #[.string y.s, .int .i64 y.i.rd, .int .i64 y.i.r1, .int .i64 y.i.r2, .int .i64 (way l L i)], .int .i64 0]) ∧ Below w'.heap.size w' w'') := fun w' => by
                have h1 := decode_c x1 hr1.1 hr1.2 w'
                rw [hd1] at h1
                exact h1
              have hqq : atP l L i / 4 = ((asmW l L i).length : Int) := by omega
              have hwD : IntKind.i64.wrap (atP l L (i + 1) - atP l L i) = 4 := by rw [hD, show atP l L i + 4 - atP l L i = 4 by omega]; exact wrap_in _ (by omega)
              have hwE : atP l L (i + 1) - atP l L i = 4 := by omega
              have hz4 : atP l L i + 4 - atP l L i = 4 := by omega
              have hwW : IntKind.i64.wrap (atP l L i + way l L i) = atP l L i + way l L i := wrap_in _ (by omega)
              have hpz : ((asmW l L i).length : Int) < (ws.length : Int) := by omega
              have hk1 : IntKind.i64.wrap ((i : Int) + 1) = (i : Int) + 1 := wrap_in _ (by omega)
              have HEND : Hid (¬ i + 1 < l.length → atP l L l.length = atP l L (i + 1)) := fun h => by rw [show l.length = i + 1 by omega]
              have HPG : Hid (atP l L (goal l i) = atP l L i + way l L i) := y4
              have HC1 : Hid (∀ w', Below w3.heap.size w3 w' → w'.cell? ⟨b3, o3 + (asmW l L i).length, none⟩ = some (.int .u32 x1)) := fun w' hb => (hb.cell (p := ⟨b3, o3 + (asmW l L i).length, none⟩) hb3).trans hc1
              have HGL : Hid (goal l i < l.length) := hgl
              have hgl0 : 0 ≤ atP l L (goal l i) := hpg
              clear y4 hx1 hd1 hr1 hq3 hc1
              subst hA3
              obtain ⟨k0, s, ⟨rd, q1, q2, im⟩, lb, n0⟩ := y
              simp only at hk
              subst hk
              simp only [lnC] at *
              generalize hgg : goal l i = g at *
              generalize hpgg : atP l L g = pg at *
              have HPX : Hid (atP l L g = pg) := hpgg
              clear hpgg
              go_wp2
              generalize hW1 : wr.alloc (.cells #[.int .i64 4, .string s, .int .i64 rd, .int .i64 q1, .int .i64 q2, .int .i64 im, .string lb, .int .i64 n0] 30) = W1 at *
              generalize hpb : wr.heap.size = pb at *
              have HB1W : Hid (Below w.heap.size w W1) := B3.out.trans (HB1.out.mono B3.out.size)
              go_loopw [11, 12] (fun tv kv wr => ∃ k : Nat, k ≤ l.length ∧ kv = .int .i64 (k : Int) ∧ tv = .int .i64 (if g < k then pg else -1) ∧ ∃ nq, wr = W1.drewN nq) (fun _ kv _ => l.length - (intOf kv).toNat)
              case atStart => exact ⟨0, by omega, rfl, by rw [if_neg (by omega)], 0, rfl⟩
              case round =>
                obtain ⟨k, hk, rfl, rfl, nq, rfl⟩ := hrel
                rcases Nat.lt_or_ge k l.length with hkl | hkg
                · have hkz : (k : Int) < l.length := by omega
                  obtain ⟨z, hz⟩ : ∃ z, l[k]? = some z := ⟨l[k], List.getElem?_eq_getElem hkl⟩
                  obtain ⟨_, d0, d6, _⟩ := HLX.out k z hz
                  have da : W1.cell? ⟨ab, k, none⟩ = some (.int .i64 (atP l L k)) := GZ.cell HZX.out k (by omega)
                  have UNk := UNI.out k z hz
                  have GOk : Hid (g = k → z.k = 2 ∧ z.lb = lb) := fun h => GOA.out z (by rw [h]; exact hz)
                  clear HLX HBX HZX HB1 BN HC1 DC HEND HF HW HY
                  by_cases e2 : z.k = 2
                  · by_cases e6 : z.lb = lb
                    · have hkk := UNk e2 e6
                      subst hkk
                      rw [e2] at d0
                      rw [e6] at d6
                      have hap := HPX.out
                      rw [hap] at da
                      have N1 : Hid ((if k < k then pg else (-1 : Int)) = -1) := (show _ = _ by rw [if_neg (by omega)])
                      have N2 : Hid ((if k < k + 1 then pg else (-1 : Int)) = pg) := (show _ = _ by rw [if_pos (by omega)])
                      clear UNk GOk UNI GOA
                      go_wp2
                      go_quiet (fail)
                      go_wp2
                      go_roundw
                      case rel => exact ⟨k + 1, by omega, by congr 1, by rw [N2.out], _, rfl⟩
                      case measure => simp [intOf]; omega
                    · obtain ⟨n1, n2⟩ := str_ne e6
                      have hng : ¬ g = k := fun h => e6 (GOk.out h).2
                      have N2 : Hid ((if g < k then pg else (-1 : Int)) = (if g < k + 1 then pg else (-1 : Int))) := (show _ = _ by
                        have : (g < k) = (g < k + 1) := by rw [eq_iff_iff]; omega
                        simp only [this])
                      generalize (if g < k then pg else (-1 : Int)) = tv at *
                      rw [e2] at d0
                      clear UNk GOk UNI GOA
                      go_wp2
                      go_quiet (fail)
                      go_wp2
                      go_roundw
                      case rel => exact ⟨k + 1, by omega, by congr 1, by rw [N2.out], _, rfl⟩
                      case measure => simp [intOf]; omega
                  · have hng : ¬ g = k := fun h => e2 (GOk.out h).1
                    have N2 : Hid ((if g < k then pg else (-1 : Int)) = (if g < k + 1 then pg else (-1 : Int))) := (show _ = _ by
                      have : (g < k) = (g < k + 1) := by rw [eq_iff_iff]; omega
                      simp only [this])
                    generalize (if g < k then pg else (-1 : Int)) = tv at *
                    have e3 : (z.k == 2) = false := by simpa using e2
                    clear UNk GOk UNI GOA
                    go_wp2
                    go_quiet (fail)
                    go_wp2
                    go_roundw
                    case rel => exact ⟨k + 1, by omega, by congr 1, by rw [N2.out], _, rfl⟩
                    case measure => simp [intOf]; omega
                · obtain rfl : k = l.length := by omega
                  have hkz : ¬ (l.length : Int) < l.length := by omega
                  rw [if_pos HGL.out]
                  have hpgg := HPG.out
                  subst hpgg
                  have hai : W1.cell? ⟨ab, i, none⟩ = some (.int .i64 (atP l L i)) := GZ.cell HZX.out i (by omega)
                  have hc1 := HC1.out W1 HB1.out
                  have BX : Hid (∀ w', Below (W1.drewN nq).heap.size (W1.drewN nq) w' → At w' pb #[.int .i64 4, .string s, .int .i64 rd, .int .i64 q1, .int .i64 q2, .int .i64 im, .string lb, .int .i64 n0] 30 ∧ w'.cell? ⟨ab, i, none⟩ = some (.int .i64 (atP l L i)) ∧ Below w3.heap.size w3 w' ∧ pb < w'.heap.size ∧ ab < w'.heap.size) := fun w' hb => by
                    have hb2 : Below W1.heap.size W1 w' := (below_drewN _ nq).trans (hb.mono (Nat.le_refl _))
                    exact ⟨HBX.out.below hb2 HBX.out.lt, (hb2.cell (p := ⟨ab, i, none⟩) (GZ.lt HZX.out)).trans hai, HB1.out.trans (hb2.mono HB1.out.size), by have := hb2.size; have := HBX.out.lt; omega, by have := hb2.size; have := GZ.lt HZX.out; omega⟩
                  have hto : ¬ atP l L i + way l L i < 0 := by omega
                  by_cases hin : i + 1 < l.length
                  · have hinz : (i : Int) + 1 < (l.length : Int) := by omega
                    have hai1 : W1.cell? ⟨ab, i + 1, none⟩ = some (.int .i64 (atP l L (i + 1))) := GZ.cell HZX.out (i + 1) (by omega)
                    clear HLX UNI GOA HBX HZX HB1 BN HEND HF HW HY HPX
                    go_wp2_with (go_at_call 9; refine (DC.out _).mono ?_; rintro e w5 ⟨rfl, hb⟩; obtain ⟨bx5, ga, B53, zp, za⟩ := BX.out w5 hb; have g0 : w5.cell? ⟨pb, 0, none⟩ = some (.int .i64 4) := bx5.cell 0; have g1 : w5.cell? ⟨pb, 1, none⟩ = some (.string s) := bx5.cell 1; have g2 : w5.cell? ⟨pb, 2, none⟩ = some (.int .i64 rd) := bx5.cell 2; have g3 : w5.cell? ⟨pb, 3, none⟩ = some (.int .i64 q1) := bx5.cell 3; have g4 : w5.cell? ⟨pb, 4, none⟩ = some (.int .i64 q2) := bx5.cell 4; have g5 : w5.cell? ⟨pb, 5, none⟩ = some (.int .i64 im) := bx5.cell 5; have g6 : w5.cell? ⟨pb, 6, none⟩ = some (.string lb) := bx5.cell 6; have g7 : w5.cell? ⟨pb, 7, none⟩ = some (.int .i64 n0) := bx5.cell 7; have B53 : Hid (Below w3.heap.size w3 w5) := B53; have BX5 : Hid (At w5 pb #[.int .i64 4, .string s, .int .i64 rd, .int .i64 q1, .int .i64 q2, .int .i64 im, .string lb, .int .i64 n0] 30) := bx5; clear hb bx5)
                    go_quiet (fail)
                    go_wp2
                    go_roundw
                    case rel => exact ⟨i + 1, by omega, by congr 1, drew_below (B53.out.trans ((below_alloc _ _).mono B53.out.size)) _⟩
                    case measure => simp [intOf]; omega
                  · have hinz : ¬ (i : Int) + 1 < (l.length : Int) := by omega
                    have hE := HEND.out hin
                    rw [← hE] at hwD hwE
                    clear hE
                    clear HLX UNI GOA HBX HZX HB1 BN HEND HF HW HY HPX
                    go_wp2_with (go_at_call 9; refine (DC.out _).mono ?_; rintro e w5 ⟨rfl, hb⟩; obtain ⟨bx5, ga, B53, zp, za⟩ := BX.out w5 hb; have g0 : w5.cell? ⟨pb, 0, none⟩ = some (.int .i64 4) := bx5.cell 0; have g1 : w5.cell? ⟨pb, 1, none⟩ = some (.string s) := bx5.cell 1; have g2 : w5.cell? ⟨pb, 2, none⟩ = some (.int .i64 rd) := bx5.cell 2; have g3 : w5.cell? ⟨pb, 3, none⟩ = some (.int .i64 q1) := bx5.cell 3; have g4 : w5.cell? ⟨pb, 4, none⟩ = some (.int .i64 q2) := bx5.cell 4; have g5 : w5.cell? ⟨pb, 5, none⟩ = some (.int .i64 im) := bx5.cell 5; have g6 : w5.cell? ⟨pb, 6, none⟩ = some (.string lb) := bx5.cell 6; have g7 : w5.cell? ⟨pb, 7, none⟩ = some (.int .i64 n0) := bx5.cell 7; have B53 : Hid (Below w3.heap.size w3 w5) := B53; have BX5 : Hid (At w5 pb #[.int .i64 4, .string s, .int .i64 rd, .int .i64 q1, .int .i64 q2, .int .i64 im, .string lb, .int .i64 n0] 30) := bx5; clear hb bx5)
                    go_quiet (fail)
                    go_wp2
                    go_roundw
                    case rel => exact ⟨i + 1, by omega, by congr 1, drew_below (B53.out.trans ((below_alloc _ _).mono B53.out.size)) _⟩
                    case measure => simp [intOf]; omega
        · have g3 : (y.k != 3) = true := by simp [goes] at hg; simp; omega
          have g4 : (y.k != 4) = true := by simp [goes] at hg; simp; omega
          clear hbl hbw R hy
          obtain ⟨k0, s, ⟨rd, q1, q2, im⟩, lb, n0⟩ := y
          simp only [lnC] at *
          go_wp2
          go_roundw
          case rel => exact ⟨i + 1, by omega, by congr 1, BN.out _⟩
          case measure => simp [intOf]; omega
      · have hiz : ¬ (i : Int) < l.length := by omega
        have BW : Hid (Below w.heap.size w wr) := hbw
        go_wp2
        go_ret
        exact ⟨rfl, BW.out⟩
  · have PC : Hid (∀ w', Below w.heap.size w w' → Calls Try.prog 8 #[.slice A l.length C] w' fun e w'' => e = .returned (.tuple #[.slice none 0 0, .int .i64 0, .int .i64 (errP l)]) ∧ Below w'.heap.size w' w'') := fun w' hb => (pplace_c l _ w' (LV.out.below hb) (by omega) OK.out).mono fun e w'' ⟨q1, q2⟩ => by
      rcases q1 with ⟨_, q3⟩ | ⟨q3, _⟩
      · exact ⟨q3, q2⟩
      · exact absurd q3 he
    have A0 : Hid (∀ w', Below w.heap.size w w' → Calls Try.prog 7 #[.slice A l.length C] w' fun e w'' => e = .returned (.tuple #[.slice none 0 0, .int .i64 (errP l)]) ∧ Below w'.heap.size w' w'') := fun w' hb => (assemble_c l _ w' (LV.out.below hb) (by omega) OK.out).mono fun e w'' ⟨q1, q2⟩ => by
      rcases q1 with ⟨_, q3⟩ | ⟨q3, _⟩
      · exact ⟨q3, q2⟩
      · exact absurd q3 he
    have hee : ¬ errP l = 0 := he
    generalize errP l = ee at *
    clear he LV OK R
    go_wp2_with (first | (go_at_call 8; refine (PC.out _ B1.out).mono ?_; rintro e w2 ⟨rfl, hb2⟩; have B2 : Hid (Below w.heap.size w w2) := B1.out.trans (hb2.mono B1.out.size); clear hb2) | (go_at_call 7; have M2 := B2; refine (A0.out _ B2.out).mono ?_; rintro e w3 ⟨rfl, hb3⟩; have B3 : Hid (Below w.heap.size w w3) := B2.out.trans (hb3.mono B2.out.size); clear hb3) | (go_at_call 7; refine (la_c _ _ rfl).mono ?_; rintro e w1 ⟨A1, C1, rfl, hb⟩; have B1 : Hid (Below w.heap.size w w1) := hb; clear hb))
    go_ret
    exact ⟨by simp, B3.out⟩
end Go.Proofs.Ytcdeckbobabdkaa
