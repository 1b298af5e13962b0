/-
  Proved: AsmNames answers true of any lines.
-/
import Derived.Test.YtcdeckbobabdkaaLalike
import Derived.Test.YtcdeckbobabdkaaAopen
import Derived.BigQuiet
namespace Go.Proofs.Ytcdeckbobabdkaa
open Go.RowKit
set_option linter.unusedVariables false
set_option linter.unusedSimpArgs false
set_option maxRecDepth 20000

def ecE : Ln := ⟨1, ⟨#[101, 99, 97, 108, 108]⟩, zI, ⟨#[]⟩, 0⟩
theorem ec_fine : Fine [ecE] (fun _ => false) where
  f := by decide +kernel
  b := ⟨fun i y hy hk => by
    match i, hy with
    | 0, hy => simp at hy; subst hy; simp [ecE] at hk, fun y hy hg => by
    simp at hy
    subst hy
    simp [goes, ecE] at hg⟩
  g := by decide +kernel
  s := ⟨Low.none _, fun j hb => by
    match j with
    | 0 => simp [isB, ecE] at hb
    | j + 1 => simp [isB] at hb⟩
  z := by decide +kernel
theorem ec_words : asmW [ecE] (fun _ => false) 1 = [115] := by decide +kernel

theorem ec_c (W : World) (g : Nat) (hg : W.heap.size = g) : Calls Try.prog 7 #[.slice (some ⟨g, 0, none⟩) 1 1] (W.alloc (.cells #[.int .i64 1, .string ⟨#[101, 99, 97, 108, 108]⟩, .int .i64 0, .int .i64 0, .int .i64 0, .int .i64 0, .string ⟨#[]⟩, .int .i64 0] 30)) fun e w' => ∃ A C, e = .returned (.tuple #[.slice A 1 C, .int .i64 0]) ∧ Below W.heap.size W w' := by
  refine (assemble_ok ec_fine _ _ (ls_at (l := [ecE]) (C := 1) (At.newS W _ 30 hg)) (by simp) (fun y hy => ?_)).mono fun e w' ⟨A, C, h1, _, h2⟩ => ⟨A, C, ?_, below_next (below_alloc _ _) h2⟩
  · simp at hy
    subst hy
    exact ⟨by decide, by decide⟩
  · rw [show [ecE].length = 1 from rfl, ec_words] at h1
    exact h1

theorem infoAsm : (Try.prog.info? 30).map (fun i => (i.zero, i.size, i.bytes)) = some (some (.agg #[.int .i64 0, .string ⟨#[]⟩, .int .i64 0, .int .i64 0, .int .i64 0, .int .i64 0, .string ⟨#[]⟩, .int .i64 0]), 8, 80) := by kernel_rfl
theorem lnC_one (y : Ln) : ∀ u ∈ lnC y, u.oneCell' = true := by
  intro u hu
  simp only [lnC, List.mem_cons, List.not_mem_nil, or_false] at hu
  rcases hu with rfl | rfl | rfl | rfl | rfl | rfl | rfl | rfl <;> rfl

set_option maxHeartbeats 4000000 in
theorem asmNames_walk (l : List Ln) (v : Value) (w : World) (h : LsA w l v) : Calls Try.prog 6 #[v] w fun e w' => e = .returned (.bool true) ∧ Below w.heap.size w w' := by
  obtain ⟨⟨A, C, rfl, hr⟩, hok⟩ := h
  have LV : Hid (LsIn w l (.slice A l.length C)) := ⟨A, C, rfl, hr⟩
  have R : Hid (RowsIn w 8 lnC l A) := hr
  have OK : Hid (∀ y ∈ l, LOk y) := hok
  clear hr hok
  go_enter Try.func6, Try.ntmps6
  by_cases hl : 150 < l.length
  · have hlz : (150 : Int) < (l.length : Int) := by omega
    go_wp2
    go_ret
    exact ⟨rfl, Below.refl _ _⟩
  have hlz : ¬ (150 : Int) < (l.length : Int) := by omega
  have hlen : l.length ≤ 150 := by omega
  have AC : Hid (∀ w', Below w.heap.size w w' → Calls Try.prog 7 #[.slice A l.length C] w' (AsmR l w')) := fun w' hb => assemble_c l _ w' (LV.out.below hb) (by omega) OK.out
  go_wp2_with (go_at_call 7; refine (ec_c _ _ rfl).mono ?_; rintro e w1 ⟨A1, C1, rfl, hb⟩; have B1 : Hid (Below w.heap.size w w1) := hb; clear hb)
  have BW1 : Hid (w.heap.size ≤ w1.heap.size) := B1.out.size
  go_loopw [5, 6] (fun rv iv wr => ∃ i : Nat, i ≤ l.length ∧ iv = .int .i64 (i : Int) ∧ OwnB 30 8 lnC w1.heap.size ((l.take i).map ren) rv wr ∧ Below w1.heap.size w1 wr ∧ ∀ y ∈ l.take i, y.lb.size ≤ 1000) (fun _ iv _ => l.length - (intOf iv).toNat)
  case atStart => exact ⟨0, by omega, rfl, ⟨Nat.le_refl _, by simp, Or.inl ⟨rfl, rfl⟩⟩, Below.refl _ _, by simp⟩
  case round =>
    obtain ⟨i, hi, rfl, hown, hbl, hall⟩ := hrel
    obtain ⟨Av, Cv, rfl, -⟩ := OwnB.shape lnC_len hown
    have hbw : Below w.heap.size w wr := B1.out.trans (hbl.mono B1.out.size)
    rw [List.length_map, List.length_take, Nat.min_eq_left hi] at *
    rcases Nat.lt_or_ge i l.length with hlt | hge
    · have hiz : (i : Int) < l.length := by omega
      obtain ⟨y, hy⟩ : ∃ y, l[i]? = some y := ⟨l[i], List.getElem?_eq_getElem hlt⟩
      obtain ⟨b1, o1, rfl, hb1, c0, c1, c2, c3, c4, c5, c6, c7⟩ := ln_cells R.out hbw i y hy
      have zb : w1.heap.size ≤ wr.heap.size := hown.1
      have ON : Hid (∀ wx, Below wr.heap.size wr wx → OwnB 30 8 lnC w1.heap.size ((l.take i).map ren) (.slice Av i Cv) wx) := fun wx hx => hown.below hx
      have BL : Hid (∀ wx, Below wr.heap.size wr wx → Below w1.heap.size w1 wx) := fun wx hx => hbl.trans (hx.mono zb)
      have BWW : Hid (∀ wx, Below wr.heap.size wr wx → Below w.heap.size w wx) := fun wx hx => hbw.trans (hx.mono hbw.size)
      have HT : Hid (((l.take (i + 1)).map ren) = (l.take i).map ren ++ [ren y]) := (show _ = _ by rw [List.take_add_one, hy, List.map_append]; rfl)
      have HA : Hid (y.lb.size ≤ 1000 → ∀ z ∈ l.take (i + 1), z.lb.size ≤ 1000) := fun h z hz => by
        rw [List.take_add_one, hy] at hz
        rcases List.mem_append.1 hz with h1 | h1
        · exact hall z h1
        · simp at h1
          subst h1
          exact h
      have HTL : Hid (((l.take i).map ren).length = i) := (show _ = _ by rw [List.length_map, List.length_take, Nat.min_eq_left hi])
      clear hown hbl hbw hall R LV OK AC hy
      by_cases hlb : 1000 < y.lb.size
      · obtain ⟨k, s, ⟨rd, q1, q2, im⟩, lb, n⟩ := y
        simp only [lnC] at *
        have hlbz : (1000 : Int) < (lb.size : Int) := by omega
        go_wp2
        go_ret
        exact ⟨rfl, BWW.out _ (below_alloc _ _)⟩
      have hlbz : ¬ (1000 : Int) < (y.lb.size : Int) := by omega
      have HB2 := HA.out (by omega)
      have HA2 : Hid (∀ z ∈ l.take (i + 1), z.lb.size ≤ 1000) := HB2
      clear HA HB2
      by_cases hk : 2 ≤ y.k ∧ y.k ≤ 4
      · obtain ⟨hk1, hk2⟩ := hk
        have hr2 : lnC (ren y) = [.int .i64 y.k, .string y.s, .int .i64 y.i.rd, .int .i64 y.i.r1, .int .i64 y.i.r2, .int .i64 y.i.im, .string (ofS ++ y.lb), .int .i64 y.n] := by unfold ren; rw [if_pos ⟨hk1, hk2⟩]; rfl
        have RN : Hid (∀ (W : World) (g : Nat), W.heap.size = g → RowsIn (W.alloc (.cells #[.int .i64 y.k, .string y.s, .int .i64 y.i.rd, .int .i64 y.i.r1, .int .i64 y.i.r2, .int .i64 y.i.im, .string (ofS ++ y.lb), .int .i64 y.n] 30)) 8 lnC [ren y] (some ⟨g, 0, none⟩)) := fun W g hg => by
          obtain ⟨A9, C9, e9, h9⟩ := ls_at (l := [ren y]) (C := 1) (At.newS W (([ren y]).flatMap lnC).toArray 30 hg)
          injection e9 with e9
          rw [← e9] at h9
          simp only [List.flatMap_cons, List.flatMap_nil, List.append_nil, hr2] at h9
          exact h9
        generalize ren y = ry at *
        clear hr2
        obtain ⟨k, s, ⟨rd, q1, q2, im⟩, lb, n⟩ := y
        simp only [lnC, ofS] at *
        have hk3 : (2 : Int) ≤ k := hk1
        have hk4 : k ≤ (4 : Int) := hk2
        go_wp2_with (at_builtin; refine OwnB.append_any 22 30 lnC _ 8 80 infoAsm Try.underlying22 rfl (by decide) (by decide) lnC_len lnC_one _ rfl _ _ rfl _ rfl w1.heap.size ((l.take i).map ren) [ry] (by rw [HTL.out] at *; exact ON.out _ (below_two _ _ _)) (some ⟨wr.heap.size + 1, 0, none⟩) 1 rfl (RN.out _ _ (by simp)) (by have := HTL.out; simp; omega) ?_; intro v6 w6 ho6 hb6; have O6 : Hid (OwnB 30 8 lnC w1.heap.size ((l.take (i + 1)).map ren) v6 w6) := (show OwnB _ _ _ _ _ _ _ by rw [HT.out]; exact ho6); have B6 : Hid (Below w1.heap.size w1 w6) := (BL.out _ (below_two _ _ _)).trans hb6; obtain ⟨A6, C6, rfl, -⟩ := OwnB.shape lnC_len ho6; clear ho6 hb6)
        go_roundw
        case rel => exact ⟨i + 1, by omega, by congr 1, (by have h9 := O6.out; rw [List.length_append, HTL.out] at h9; exact h9), B6.out, HA2.out⟩
        case measure => simp [intOf]; omega
      · have hr2 : ren y = y := by unfold ren; rw [if_neg hk]
        have RN : Hid (∀ (W : World) (g : Nat), W.heap.size = g → RowsIn (W.alloc (.cells (lnC y).toArray 30)) 8 lnC [y] (some ⟨g, 0, none⟩)) := fun W g hg => by
          obtain ⟨A9, C9, e9, h9⟩ := ls_at (l := [y]) (C := 1) (At.newS W (([y]).flatMap lnC).toArray 30 hg)
          injection e9 with e9
          rw [← e9] at h9
          simp only [List.flatMap_cons, List.flatMap_nil, List.append_nil] at h9
          exact h9
        rw [hr2] at HT
        have hkk : (¬ (2 : Int) ≤ y.k) ∨ ((2 : Int) ≤ y.k ∧ ¬ y.k ≤ 4) := by omega
        clear hr2 hk
        obtain ⟨k, s, ⟨rd, q1, q2, im⟩, lb, n⟩ := y
        simp only [lnC] at RN c0 c1 c2 c3 c4 c5 c6 c7 hlb hlbz hkk
        rcases hkk with hk3 | ⟨hk3, hk4⟩
        · have g3 : decide ((2 : Int) ≤ k) = false := by simp; omega
          go_wp2_with (at_builtin; refine OwnB.append_any 22 30 lnC _ 8 80 infoAsm Try.underlying22 rfl (by decide) (by decide) lnC_len lnC_one _ rfl _ _ rfl _ rfl w1.heap.size ((l.take i).map ren) [⟨k, s, ⟨rd, q1, q2, im⟩, lb, n⟩] (by rw [HTL.out] at *; exact ON.out _ (below_two _ _ _)) (some ⟨wr.heap.size + 1, 0, none⟩) 1 rfl (RN.out _ _ (by simp)) (by have := HTL.out; simp; omega) ?_; intro v6 w6 ho6 hb6; have O6 : Hid (OwnB 30 8 lnC w1.heap.size ((l.take (i + 1)).map ren) v6 w6) := (show OwnB _ _ _ _ _ _ _ by rw [HT.out]; exact ho6); have B6 : Hid (Below w1.heap.size w1 w6) := (BL.out _ (below_two _ _ _)).trans hb6; obtain ⟨A6, C6, rfl, -⟩ := OwnB.shape lnC_len ho6; clear ho6 hb6)
          go_roundw
          case rel => exact ⟨i + 1, by omega, by congr 1, (by have h9 := O6.out; rw [List.length_append, HTL.out] at h9; exact h9), B6.out, HA2.out⟩
          case measure => simp [intOf]; omega
        · have g3 : decide ((2 : Int) ≤ k) = true := by simp; omega
          have g4 : decide (k ≤ (4 : Int)) = false := by simp; omega
          go_wp2_with (at_builtin; refine OwnB.append_any 22 30 lnC _ 8 80 infoAsm Try.underlying22 rfl (by decide) (by decide) lnC_len lnC_one _ rfl _ _ rfl _ rfl w1.heap.size ((l.take i).map ren) [⟨k, s, ⟨rd, q1, q2, im⟩, lb, n⟩] (by rw [HTL.out] at *; exact ON.out _ (below_two _ _ _)) (some ⟨wr.heap.size + 1, 0, none⟩) 1 rfl (RN.out _ _ (by simp)) (by have := HTL.out; simp; omega) ?_; intro v6 w6 ho6 hb6; have O6 : Hid (OwnB 30 8 lnC w1.heap.size ((l.take (i + 1)).map ren) v6 w6) := (show OwnB _ _ _ _ _ _ _ by rw [HT.out]; exact ho6); have B6 : Hid (Below w1.heap.size w1 w6) := (BL.out _ (below_two _ _ _)).trans hb6; obtain ⟨A6, C6, rfl, -⟩ := OwnB.shape lnC_len ho6; clear ho6 hb6)
          go_roundw
          case rel => exact ⟨i + 1, by omega, by congr 1, (by have h9 := O6.out; rw [List.length_append, HTL.out] at h9; exact h9), B6.out, HA2.out⟩
          case measure => simp [intOf]; omega
    · have hiz : ¬ (i : Int) < l.length := by omega
      obtain rfl : i = l.length := by omega
      rw [List.take_of_length_le (Nat.le_refl _)] at hown hall
      have KL : Hid (∀ w', Below wr.heap.size wr w' → LsIn w' (l.map ren) (.slice Av l.length Cv)) := fun w' hb => by
        have hown' : OwnB 30 8 lnC w1.heap.size (l.map ren) (.slice Av (l.map ren).length Cv) wr := by rw [List.length_map]; exact hown
        exact ⟨Av, Cv, by rw [List.length_map], (OwnB.rows lnC_len hown').below hb⟩
      have KO : Hid (∀ z ∈ l.map ren, LOk z) := fun z hz => by
        obtain ⟨y, hy, rfl⟩ := List.mem_map.1 hz
        have h1 := OK.out y hy
        have h2 := hall y hy
        unfold ren
        split
        · refine ⟨h1.1, ?_⟩
          show (ofS ++ y.lb).size ≤ maxLen
          rw [ByteArray.size_append]
          have : ofS.size = 3 := rfl
          unfold maxLen
          omega
        · exact h1
      have KLN : Hid ((l.map ren).length = l.length) := (show _ = _ by simp)
      have BW : Hid (Below w.heap.size w wr) := hbw
      clear hown hbl hall hbw R
      by_cases he : errP l = 0
      · obtain ⟨L, hF⟩ := fine_of he
        have hrs := ren_same l
        obtain ⟨L2, hF2⟩ := fine_of (hrs.1.trans he)
        obtain rfl : L2 = L := ((ren_ali l).lst L2).1 hF2.s |>.one hF.s
        obtain ⟨ws, hws⟩ : ∃ ws, asmW l L2 l.length = ws := ⟨_, rfl⟩
        have hwl : ws.length ≤ 16384 := by
          have h1 := asmW_len hF.f hF.s.1.1 l.length (Nat.le_refl _)
          have h2 := hF.z
          rw [hws] at h1
          omega
        have A0 : Hid (Calls Try.prog 7 #[.slice A l.length C] wr fun e w' => ∃ A C, e = .returned (.tuple #[.slice A ws.length C, .int .i64 0]) ∧ RowsIn w' 1 wdC ws A ∧ Below wr.heap.size wr w') := by
          have := assemble_ok hF _ wr (LV.out.below BW.out) (by omega) OK.out
          rw [hws] at this
          exact this
        have K0 : Hid (∀ w', Below wr.heap.size wr w' → Calls Try.prog 7 #[.slice Av l.length Cv] w' fun e w'' => ∃ A C, e = .returned (.tuple #[.slice A ws.length C, .int .i64 0]) ∧ RowsIn w'' 1 wdC ws A ∧ Below w'.heap.size w' w'') := fun w' hb => by
          have := assemble_ok hF2 _ w' (KL.out w' hb) (by rw [KLN.out]; omega) KO.out
          rw [hrs.2, KLN.out, hws] at this
          exact this
        clear AC KL KO LV OK hrs hws hF hF2 he KLN
        go_wp2_with (first | (go_at_call 7; have M2 := M1; refine (K0.out _ M1.out).mono ?_; rintro e w6 ⟨A6, C6, rfl, hr6, hb6⟩; have R6 : Hid (RowsIn w6 1 wdC ws A6) := hr6; have R5' : Hid (RowsIn w6 1 wdC ws A5) := R5.out.below hb6; have B6 : Hid (Below w.heap.size w w6) := (BW.out.trans (M1.out.mono BW.out.size)).trans (hb6.mono (by have := BW.out.size; have := M1.out.size; omega)); clear hr6 hb6) | (go_at_call 7; refine A0.out.mono ?_; rintro e w5 ⟨A5, C5, rfl, hr5, hb5⟩; have R5 : Hid (RowsIn w5 1 wdC ws A5) := hr5; have M1 : Hid (Below wr.heap.size wr w5) := hb5; clear hr5 hb5))
        generalize hwW : wr = W2 at *
        clear hwW
        go_loopw [12] (fun iv wr => ∃ i : Nat, i ≤ ws.length ∧ iv = .int .i64 (i : Int) ∧ ∃ nq, wr = w6.drewN nq) (fun iv _ => ws.length - (intOf iv).toNat)
        case atStart => exact ⟨0, by omega, rfl, 0, rfl⟩
        case round =>
          obtain ⟨i, hi, rfl, nq, rfl⟩ := hrel
          rcases Nat.lt_or_ge i ws.length with hlt | hge
          · have hiz : (i : Int) < ws.length := by omega
            obtain ⟨b5, o5, rfl, -, q5⟩ := R5'.out i hlt
            obtain ⟨b6, o6, rfl, -, q6⟩ := R6.out i hlt
            have d5 : w6.cell? ⟨b5, o5 + i, none⟩ = some (.int .u32 ws[i]) := by have := q5 0 _ rfl; rwa [Nat.mul_one, Nat.add_zero] at this
            have d6 : w6.cell? ⟨b6, o6 + i, none⟩ = some (.int .u32 ws[i]) := by have := q6 0 _ rfl; rwa [Nat.mul_one, Nat.add_zero] at this
            generalize ws[i] = x at *
            clear q5 q6
            go_wp2
            go_quiet (fail)
            go_wp2
            go_roundw
            case rel => exact ⟨i + 1, by omega, by congr 1, _, rfl⟩
            case measure => simp [intOf]; omega
          · have hiz : ¬ (i : Int) < ws.length := by omega
            go_wp2
            go_ret
            exact ⟨rfl, drew_below B6.out nq⟩
      · have hrs := ren_same l
        have A0 : Hid (Calls Try.prog 7 #[.slice A l.length C] wr fun e w' => e = .returned (.tuple #[.slice none 0 0, .int .i64 (errP l)]) ∧ Below wr.heap.size wr w') := (AC.out wr BW.out).mono fun e w' ⟨h1, h2⟩ => by
          rcases h1 with ⟨_, h3⟩ | ⟨h3, _⟩
          · exact ⟨h3, h2⟩
          · exact absurd h3 he
        have K0 : Hid (∀ w', Below wr.heap.size wr w' → Calls Try.prog 7 #[.slice Av l.length Cv] w' fun e w'' => e = .returned (.tuple #[.slice none 0 0, .int .i64 (errP l)]) ∧ Below w'.heap.size w' w'') := fun w' hb => (assemble_c (l.map ren) _ w' (KL.out w' hb) (by rw [KLN.out]; omega) KO.out).mono fun e w'' ⟨h1, h2⟩ => by
          rw [hrs.1] at h1
          rcases h1 with ⟨_, h3⟩ | ⟨h3, _⟩
          · exact ⟨h3, h2⟩
          · exact absurd h3 he
        generalize errP l = ee at *
        clear AC KL KO LV OK hrs he KLN
        go_wp2_with (first | (go_at_call 7; have M2 := M1; refine (K0.out _ M1.out).mono ?_; rintro e w6 ⟨rfl, hb6⟩; have B6 : Hid (Below w.heap.size w w6) := (BW.out.trans (M1.out.mono BW.out.size)).trans (hb6.mono (by have := BW.out.size; have := M1.out.size; omega)); clear hb6) | (go_at_call 7; refine A0.out.mono ?_; rintro e w5 ⟨rfl, hb5⟩; have M1 : Hid (Below wr.heap.size wr w5) := hb5; clear hb5))
        generalize hwW : wr = W2 at *
        clear hwW
        go_loopw [12] (fun iv wr => iv = .int .i64 0 ∧ wr = w6) (fun iv _ => 0)
        case atStart => exact ⟨rfl, rfl⟩
        case round =>
          obtain ⟨rfl, rfl⟩ := hrel
          go_wp2
          go_ret
          exact ⟨rfl, B6.out⟩
end Go.Proofs.Ytcdeckbobabdkaa
