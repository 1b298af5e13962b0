/-
  Proved: LayoutApart answers true of any function and number.
-/
import Derived.Test.YtligjglleomeeaaDoorPlayo
import Derived.Test.YtligjglleomeeaaDoorPsplit
namespace Go.Proofs.YtligjglleomeeaaDoor
open Go.RowKit

theorem fw_bound (pl : Nat → Bool) (lo : List Int) (h : ∀ k, k < lo.length → lo.getD k 0 ≤ 1073741824) : ∀ k, k ≤ lo.length → fwP pl lo k ≤ 1073741824 * (k : Int)
  | 0, _ => by simp [fwP]
  | k + 1, hk => by
    have h1 := fw_bound pl lo h k (by omega)
    have h2 := h k (by omega)
    have h3 := fwP_in pl lo k
    simp only [fwP]
    generalize fwP pl lo k = x at *
    generalize lo.getD k 0 = l at *
    unfold tgh
    split <;> omega
theorem fw_step (pl : Nat → Bool) (lo : List Int) (h : ∀ k, k < lo.length → lo.getD k 0 ≤ 1073741824) (hn : lo.length ≤ 100) (k : Nat) (hk : k < lo.length) : fwP pl lo (k + 1) = if pl k then fwP pl lo k else fwP pl lo k + max (lo.getD k 0) 0 := by
  have h1 := fw_bound pl lo h k (by omega)
  have h2 := h k hk
  have h3 := fwP_in pl lo k
  simp only [fwP]
  generalize fwP pl lo k = x at *
  generalize lo.getD k 0 = l at *
  unfold tgh
  split <;> omega
theorem fw_mono (pl : Nat → Bool) (lo : List Int) (i : Nat) : ∀ j, i ≤ j → fwP pl lo i ≤ fwP pl lo j
  | 0, h => by
    obtain rfl : i = 0 := by omega
    exact Int.le_refl _
  | j + 1, h => by
    rcases Nat.lt_or_ge i (j + 1) with h1 | h1
    · have h2 := fw_mono pl lo i j (by omega)
      have h3 := fwP_in pl lo j
      have h4 := tgh_in (fwP pl lo j) (lo.getD j 0) h3.1 h3.2
      simp only [fwP]
      split <;> omega
    · obtain rfl : i = j + 1 := by omega
      exact Int.le_refl _

/-- What the places and the words of a frame keep. -/
structure Kept (n : Nat) (lo at' : Nat → Int) (x : Int) : Prop where
  zero : 0 ≤ x
  inn : ∀ i, i < n → 0 ≤ at' i → 0 ≤ at' i + max (lo i) 0 ∧ at' i + max (lo i) 0 ≤ x
  apart : ∀ i k, i < n → k < i → 0 ≤ at' i → 0 ≤ at' k → at' k + max (lo k) 0 ≤ at' i
  big : x ≤ 107374182400

theorem kept (pl : Nat → Bool) (lo : List Int) (h : ∀ k, k < lo.length → lo.getD k 0 ≤ 1073741824) (hn : lo.length ≤ 100) : Kept lo.length (fun i => lo.getD i 0) (latP pl lo) (fwP pl lo lo.length) := by
  have key : ∀ i, i < lo.length → 0 ≤ latP pl lo i → latP pl lo i = fwP pl lo i ∧ latP pl lo i + max (lo.getD i 0) 0 = fwP pl lo (i + 1) := fun i hi h0 => by
    rw [fw_step pl lo h hn i hi]
    unfold latP at h0 ⊢
    cases hp : pl i with
    | true => rw [hp] at h0; simp at h0
    | false => simp
  refine ⟨(fwP_in _ _ _).1, fun i hi h0 => ?_, fun i k hi hk h0 h1 => ?_, ?_⟩
  · rw [(key i hi h0).2]
    exact ⟨(fwP_in _ _ _).1, fw_mono _ _ _ _ (by omega)⟩
  · rw [(key k (by omega) h1).2, (key i hi h0).1]
    exact fw_mono _ _ _ _ (by omega)
  · have := fw_bound pl lo h lo.length (Nat.le_refl _)
    omega

theorem upp_in (n : Int) : 0 ≤ uppP n ∧ uppP n < 1048576 := by unfold uppP; omega
theorem fit_low (n : Int) : fitB (lowP n) false = true := by
  unfold fitB lowP
  simp only [Bool.false_eq_true, if_false, decide_eq_true_eq]
  omega
theorem both_parts (n : Int) : (uppP n % 4294967296 * 4096 % 4294967296 + lowP n % 4294967296) % 4294967296 = n % 4294967296 := by
  unfold uppP lowP
  omega

set_option maxRecDepth 20000 in
set_option maxHeartbeats 1000000 in
theorem layoutApart_walk (f : Fm) (cs : List Value) (z : Int) (w : World) (T : Tab w) (h : FmIn w f cs) :
    Calls Tryd.prog 3 #[.agg cs.toArray, .int .i64 z] w fun e w' => e = .returned (.bool true) ∧ Below w.heap.size w w' := by
  have PC : Hid (f.lo.length ≤ 1000 → ∀ w', Below w.heap.size w w' → Calls Tryd.prog 4 #[.agg cs.toArray] w' _) := fun hn w' hw => playout_c f cs w' (h.below hw) (T.next hw) hn
  obtain ⟨lv, bv, rfl, hlo, hbs⟩ := h
  obtain ⟨_, LA, LC, rfl, -⟩ := id hlo
  obtain ⟨hbl, BA, BC, rfl, -⟩ := id hbs
  have LO : Hid (NosIn w f.lo (.slice LA f.lo.length LC)) := hlo
  clear hlo hbs T
  have KK : Hid ((∀ k, k < f.lo.length → f.lo.getD k 0 ≤ 1073741824) → f.lo.length ≤ 100 → Kept f.lo.length (fun i => f.lo.getD i 0) (latP (pln f) f.lo) (fwP (pln f) f.lo f.lo.length)) := kept _ _
  generalize latP (pln f) f.lo = lat at *
  generalize fwP (pln f) f.lo f.lo.length = fw at *
  obtain ⟨nm, lo, pa, an, qu, bs⟩ := f
  simp only [fmC] at *
  have AF0 : Hid (At (w.alloc (.cells #[.string nm, .slice LA lo.length LC, .int .i64 pa, .int .i64 an, .bool qu, .slice BA bs.length BC] 25)) w.heap.size #[.string nm, .slice LA lo.length LC, .int .i64 pa, .int .i64 an, .bool qu, .slice BA bs.length BC] 25) := At.new _ _ _
  have B0 : Hid (Below w.heap.size w (w.alloc (.cells #[.string nm, .slice LA lo.length LC, .int .i64 pa, .int .i64 an, .bool qu, .slice BA bs.length BC] 25))) := below_alloc _ _
  have Z0 : Hid ((w.alloc (.cells #[.string nm, .slice LA lo.length LC, .int .i64 pa, .int .i64 an, .bool qu, .slice BA bs.length BC] 25)).heap.size = w.heap.size + 1) := (show _ = _ by simp)
  by_cases h100 : (100 : Int) < lo.length
  · go_enter Tryd.func3, Tryd.ntmps3
    go_wp2
    go_ret
    exact ⟨rfl, B0.out⟩
  go_enter Tryd.func3, Tryd.ntmps3
  go_wp2
  generalize w.alloc (.cells #[.string nm, .slice LA lo.length LC, .int .i64 pa, .int .i64 an, .bool qu, .slice BA bs.length BC] 25) = W0 at *
  go_loopw [5] (fun iv wr => ∃ i : Nat, i ≤ lo.length ∧ iv = .int .i64 (i : Int) ∧ Below W0.heap.size W0 wr ∧ ∀ j, j < i → lo.getD j 0 ≤ 1073741824) (fun iv _ => lo.length - (intOf iv).toNat)
  case atStart => exact ⟨0, by omega, rfl, Below.refl _ _, fun j hj => by omega⟩
  case round =>
    obtain ⟨i, hi, rfl, hB, hS⟩ := hrel
    have N1 : Hid (Below W0.heap.size W0 wr) := hB
    have SM : Hid (∀ j, j < i → lo.getD j 0 ≤ 1073741824) := hS
    have AF : Hid (At wr w.heap.size #[.string nm, .slice LA lo.length LC, .int .i64 pa, .int .i64 an, .bool qu, .slice BA bs.length BC] 25) := AF0.out.below hB AF0.out.lt
    have NW : Hid (Below w.heap.size w wr) := B0.out.trans (hB.mono (by rw [Z0.out]; omega))
    have z1 : w.heap.size < wr.heap.size := AF.out.lt
    have f1 : wr.cell? ⟨w.heap.size, 1, none⟩ = some (.slice LA lo.length LC) := AF.out.cell 1
    clear hB hS
    rcases Nat.lt_or_ge i lo.length with hi' | hi'
    · have hiz : (i : Int) < lo.length := by omega
      obtain ⟨_, A', C', e', hr⟩ := LO.out.below NW.out
      obtain ⟨b, o, cs, e2, hrow, e3⟩ := hr i hi'
      cases e'
      cases e2
      cases e3
      have ck := hrow.2 0 _ rfl
      have hb := hrow.1
      simp only [Nat.mul_one, Nat.add_zero] at ck
      have LG : Hid (lo.getD i 0 = lo[i]) := (show _ = _ by rw [List.getD_eq_getElem?_getD, List.getElem?_eq_getElem hi', Option.getD_some])
      clear hr hrow
      generalize lo[i] = li at *
      by_cases hl : 1073741824 < li
      · go_wp2
        go_ret
        exact ⟨rfl, NW.out⟩
      · go_wp2
        go_roundw
        case rel => exact ⟨i + 1, by omega, by go_num, N1.out, fun j hj => by
          rcases Nat.lt_or_ge j i with h1 | h1
          · exact SM.out j h1
          · obtain rfl : j = i := by omega
            rw [LG.out]; omega⟩
        case measure => simp [intOf]; omega
    · have hiz : ¬ (i : Int) < lo.length := by omega
      obtain rfl : i = lo.length := by omega
      have KP : Hid (Kept lo.length (fun i => lo.getD i 0) lat fw) := KK.out SM.out (by omega)
      have kz := KP.out.zero
      have f0 : wr.cell? ⟨w.heap.size, 0, none⟩ = some (.string nm) := AF.out.cell 0
      have f2 : wr.cell? ⟨w.heap.size, 2, none⟩ = some (.int .i64 pa) := AF.out.cell 2
      have f3 : wr.cell? ⟨w.heap.size, 3, none⟩ = some (.int .i64 an) := AF.out.cell 3
      have f4 : wr.cell? ⟨w.heap.size, 4, none⟩ = some (.bool qu) := AF.out.cell 4
      have f5 : wr.cell? ⟨w.heap.size, 5, none⟩ = some (.slice BA bs.length BC) := AF.out.cell 5
      have PD := PC.out (by omega) wr NW.out
      go_wp2_with (go_at_call 4; refine PD.mono ?_; rintro e w1 ⟨rb, rfl, hr1, hi1, hb1⟩; have R1 : Hid (IR w1 rb lo.length lat) := hi1; have N2 : Hid (Below wr.heap.size wr w1) := hb1; have z2 : w.heap.size < w1.heap.size := Nat.lt_of_lt_of_le z1 hb1.size; have g1 : w1.cell? ⟨w.heap.size, 1, none⟩ = some (.slice LA lo.length LC) := (hb1.cell (p := ⟨w.heap.size, 1, none⟩) z1).trans f1; clear hr1 hi1 hb1 f0 f1 f2 f3 f4 f5)
      go_loopw [8] (fun iv wz => ∃ i : Nat, i ≤ lo.length ∧ iv = .int .i64 (i : Int) ∧ Below w1.heap.size w1 wz) (fun iv _ => lo.length - (intOf iv).toNat)
      case atStart => exact ⟨0, by omega, rfl, Below.refl _ _⟩
      case round =>
        rename World => wy
        obtain ⟨i, hi2, rfl, hB⟩ := hrel
        have N3 : Hid (Below w1.heap.size w1 wy) := hB
        have R3 : Hid (IR wy rb lo.length lat) := At.below R1.out hB R1.out.lt
        have z3 : w.heap.size < wy.heap.size := Nat.lt_of_lt_of_le z2 hB.size
        have y3 : rb < wy.heap.size := R3.out.lt
        have k1 : wy.cell? ⟨w.heap.size, 1, none⟩ = some (.slice LA lo.length LC) := (hB.cell (p := ⟨w.heap.size, 1, none⟩) z2).trans g1
        have NY : Hid (Below w.heap.size w wy) := below_next (below_next NW.out N2.out) hB
        clear hB
        rcases Nat.lt_or_ge i lo.length with hi' | hi'
        · have hiz : (i : Int) < lo.length := by omega
          obtain ⟨_, A', C', e', hr⟩ := LO.out.below NY.out
          obtain ⟨b, o, cs, e2, hrow, e3⟩ := hr i hi'
          cases e'
          cases e2
          cases e3
          have ck := hrow.2 0 _ rfl
          have hb := hrow.1
          simp only [Nat.mul_one, Nat.add_zero] at ck
          have ca := R3.out.cell i hi'
          have LG : lo[i] = lo.getD i 0 := (show _ = _ by rw [List.getD_eq_getElem?_getD, List.getElem?_eq_getElem hi', Option.getD_some])
          have IN : Hid (0 ≤ lat i → 0 ≤ lat i + max (lo.getD i 0) 0 ∧ lat i + max (lo.getD i 0) 0 ≤ fw) := KP.out.inn i hi'
          have AQ : Hid (∀ k, k < i → 0 ≤ lat i → 0 ≤ lat k → lat k + max (lo.getD k 0) 0 ≤ lat i) := fun k => KP.out.apart i k hi'
          have bg := KP.out.big
          clear hr hrow
          rw [LG] at ck
          clear LG
          generalize lo.getD i 0 = li at *
          generalize hai : lat i = ai at *
          clear hai
          by_cases a0 : ai < 0
          · go_wp2
            go_roundw
            case rel => exact ⟨i + 1, by omega, by go_num, N3.out⟩
            case measure => simp [intOf]; omega
          have inn := IN.out (by omega)
          by_cases l0 : li < 0
          · have l1 : ¬ 0 ≤ li := by omega
            have in2 : ai + 0 ≤ fw := by omega
            have in1 : 0 ≤ ai + 0 := by omega
            have bg2 : fw ≤ 107374182400 := by omega
            go_wp2
            go_quiet (fail)
            go_wp2
            go_loopw [9] (fun kv wz => ∃ k : Nat, k ≤ i ∧ kv = .int .i64 (k : Int) ∧ Below wy.heap.size wy wz) (fun kv _ => i - (intOf kv).toNat)
            case atStart => exact ⟨0, by omega, rfl, drew_below (Below.refl _ _) _⟩
            case round =>
              rename World => wz
              obtain ⟨k, hk, rfl, hB⟩ := hrel
              have N4 : Hid (Below wy.heap.size wy wz) := hB
              rcases Nat.lt_or_ge k i with hk' | hk'
              · have hkz : (k : Int) < (i : Int) := by omega
                have hkn : (k : Int) < lo.length := by omega
                have R4 : Hid (IR wz rb lo.length lat) := At.below R3.out hB y3
                have z4 : w.heap.size < wz.heap.size := Nat.lt_of_lt_of_le z3 hB.size
                have y4 : rb < wz.heap.size := R4.out.lt
                have m1 : wz.cell? ⟨w.heap.size, 1, none⟩ = some (.slice (some ⟨b, o, none⟩) lo.length LC) := (hB.cell (p := ⟨w.heap.size, 1, none⟩) z3).trans k1
                have hb4 : b < wz.heap.size := Nat.lt_of_lt_of_le hb hB.size
                have cki : wz.cell? ⟨b, o + i, none⟩ = some (.int .i64 li) := (hB.cell (p := ⟨b, o + i, none⟩) hb).trans ck
                have cai : wz.cell? ⟨rb, i, none⟩ = some (.int .i64 ai) := (hB.cell (p := ⟨rb, i, none⟩) y3).trans ca
                have cak := R4.out.cell k (by omega)
                have ckk : wz.cell? ⟨b, o + k, none⟩ = some (.int .i64 (lo.getD k 0)) := by
                  obtain ⟨_, A', C', e', hr⟩ := LO.out.below (below_next NY.out hB)
                  obtain ⟨b', o', cs, e2, hrow, e3⟩ := hr k (by omega)
                  cases e'
                  cases e2
                  cases e3
                  have := hrow.2 0 _ rfl
                  simp only [Nat.mul_one, Nat.add_zero] at this
                  rw [this, List.getD_eq_getElem?_getD, List.getElem?_eq_getElem (by omega : k < lo.length), Option.getD_some]
                have AP : Hid (0 ≤ lat k → lat k + max (lo.getD k 0) 0 ≤ ai) := AQ.out k hk' (by omega)
                clear hB
                generalize lo.getD k 0 = lk at *
                generalize hak : lat k = ak at *
                clear hak
                by_cases a0 : 0 ≤ ak
                · have d0 : decide (0 ≤ ak) = true := by simpa using a0
                  have ap := AP.out a0
                  by_cases l0 : lk < 0
                  · have l1 : ¬ 0 ≤ lk := by omega
                    have ap2 : ak + 0 ≤ ai := by omega
                    by_cases x0 : ak < ai
                    · have d1 : decide (ak < ai) = true := by simpa using x0
                      have d2 : decide (ai < ak) = false := by simp; omega
                      go_wp2
                      go_quiet (fail)
                      go_wp2
                      go_roundw
                      case rel => exact ⟨k + 1, by omega, by go_num, drew_below N4.out _⟩
                      case measure => simp [intOf]; omega
                    · have d1 : decide (ak < ai) = false := by simp; omega
                      go_wp2
                      go_quiet (fail)
                      go_wp2
                      go_roundw
                      case rel => exact ⟨k + 1, by omega, by go_num, drew_below N4.out _⟩
                      case measure => simp [intOf]; omega
                  · have l1 : 0 ≤ lk := by omega
                    have ap2 : ak + lk ≤ ai := by omega
                    by_cases x0 : ak < ai
                    · have d1 : decide (ak < ai) = true := by simpa using x0
                      have d2 : decide (ai < ak + lk) = false := by simp; omega
                      go_wp2
                      go_quiet (fail)
                      go_wp2
                      go_roundw
                      case rel => exact ⟨k + 1, by omega, by go_num, drew_below N4.out _⟩
                      case measure => simp [intOf]; omega
                    · have d1 : decide (ak < ai) = false := by simp; omega
                      go_wp2
                      go_quiet (fail)
                      go_wp2
                      go_roundw
                      case rel => exact ⟨k + 1, by omega, by go_num, drew_below N4.out _⟩
                      case measure => simp [intOf]; omega
                · have d0 : decide (0 ≤ ak) = false := by simpa using a0
                  go_wp2
                  go_quiet (fail)
                  go_wp2
                  go_roundw
                  case rel => exact ⟨k + 1, by omega, by go_num, drew_below N4.out _⟩
                  case measure => simp [intOf]; omega
              · have hkz : ¬ (k : Int) < (i : Int) := by omega
                clear hB
                go_wp2
                go_roundw
                case rel => exact ⟨i + 1, by omega, by go_num, below_next N3.out N4.out⟩
                case measure => simp [intOf]; omega
          · have l1 : 0 ≤ li := by omega
            have in2 : ai + li ≤ fw := by omega
            have in1 : 0 ≤ ai + li := by omega
            have bg2 : fw ≤ 107374182400 := by omega
            go_wp2
            go_quiet (fail)
            go_wp2
            go_loopw [9] (fun kv wz => ∃ k : Nat, k ≤ i ∧ kv = .int .i64 (k : Int) ∧ Below wy.heap.size wy wz) (fun kv _ => i - (intOf kv).toNat)
            case atStart => exact ⟨0, by omega, rfl, drew_below (Below.refl _ _) _⟩
            case round =>
              rename World => wz
              obtain ⟨k, hk, rfl, hB⟩ := hrel
              have N4 : Hid (Below wy.heap.size wy wz) := hB
              rcases Nat.lt_or_ge k i with hk' | hk'
              · have hkz : (k : Int) < (i : Int) := by omega
                have hkn : (k : Int) < lo.length := by omega
                have R4 : Hid (IR wz rb lo.length lat) := At.below R3.out hB y3
                have z4 : w.heap.size < wz.heap.size := Nat.lt_of_lt_of_le z3 hB.size
                have y4 : rb < wz.heap.size := R4.out.lt
                have m1 : wz.cell? ⟨w.heap.size, 1, none⟩ = some (.slice (some ⟨b, o, none⟩) lo.length LC) := (hB.cell (p := ⟨w.heap.size, 1, none⟩) z3).trans k1
                have hb4 : b < wz.heap.size := Nat.lt_of_lt_of_le hb hB.size
                have cki : wz.cell? ⟨b, o + i, none⟩ = some (.int .i64 li) := (hB.cell (p := ⟨b, o + i, none⟩) hb).trans ck
                have cai : wz.cell? ⟨rb, i, none⟩ = some (.int .i64 ai) := (hB.cell (p := ⟨rb, i, none⟩) y3).trans ca
                have cak := R4.out.cell k (by omega)
                have ckk : wz.cell? ⟨b, o + k, none⟩ = some (.int .i64 (lo.getD k 0)) := by
                  obtain ⟨_, A', C', e', hr⟩ := LO.out.below (below_next NY.out hB)
                  obtain ⟨b', o', cs, e2, hrow, e3⟩ := hr k (by omega)
                  cases e'
                  cases e2
                  cases e3
                  have := hrow.2 0 _ rfl
                  simp only [Nat.mul_one, Nat.add_zero] at this
                  rw [this, List.getD_eq_getElem?_getD, List.getElem?_eq_getElem (by omega : k < lo.length), Option.getD_some]
                have AP : Hid (0 ≤ lat k → lat k + max (lo.getD k 0) 0 ≤ ai) := AQ.out k hk' (by omega)
                clear hB
                generalize lo.getD k 0 = lk at *
                generalize hak : lat k = ak at *
                clear hak
                by_cases a0 : 0 ≤ ak
                · have d0 : decide (0 ≤ ak) = true := by simpa using a0
                  have ap := AP.out a0
                  by_cases l0 : lk < 0
                  · have l1 : ¬ 0 ≤ lk := by omega
                    have ap2 : ak + 0 ≤ ai := by omega
                    by_cases x0 : ak < ai + li
                    · have d1 : decide (ak < ai + li) = true := by simpa using x0
                      have d2 : decide (ai < ak) = false := by simp; omega
                      go_wp2
                      go_quiet (fail)
                      go_wp2
                      go_roundw
                      case rel => exact ⟨k + 1, by omega, by go_num, drew_below N4.out _⟩
                      case measure => simp [intOf]; omega
                    · have d1 : decide (ak < ai + li) = false := by simp; omega
                      go_wp2
                      go_quiet (fail)
                      go_wp2
                      go_roundw
                      case rel => exact ⟨k + 1, by omega, by go_num, drew_below N4.out _⟩
                      case measure => simp [intOf]; omega
                  · have l1 : 0 ≤ lk := by omega
                    have ap2 : ak + lk ≤ ai := by omega
                    by_cases x0 : ak < ai + li
                    · have d1 : decide (ak < ai + li) = true := by simpa using x0
                      have d2 : decide (ai < ak + lk) = false := by simp; omega
                      go_wp2
                      go_quiet (fail)
                      go_wp2
                      go_roundw
                      case rel => exact ⟨k + 1, by omega, by go_num, drew_below N4.out _⟩
                      case measure => simp [intOf]; omega
                    · have d1 : decide (ak < ai + li) = false := by simp; omega
                      go_wp2
                      go_quiet (fail)
                      go_wp2
                      go_roundw
                      case rel => exact ⟨k + 1, by omega, by go_num, drew_below N4.out _⟩
                      case measure => simp [intOf]; omega
                · have d0 : decide (0 ≤ ak) = false := by simpa using a0
                  go_wp2
                  go_quiet (fail)
                  go_wp2
                  go_roundw
                  case rel => exact ⟨k + 1, by omega, by go_num, drew_below N4.out _⟩
                  case measure => simp [intOf]; omega
              · have hkz : ¬ (k : Int) < (i : Int) := by omega
                clear hB
                go_wp2
                go_roundw
                case rel => exact ⟨i + 1, by omega, by go_num, below_next N3.out N4.out⟩
                case measure => simp [intOf]; omega
        · have hiz : ¬ (i : Int) < lo.length := by omega
          have U1 := upp_in z
          have FL := fit_low z
          have BP := both_parts z
          go_wp2_with (first
            | (go_at_call 5; refine (psplit_c _ _).mono ?_; rintro e w5 ⟨rfl, hw⟩; rw [hw]; clear hw w5)
            | (go_at_call 6; refine (pfits_c _ _ _).mono ?_; rintro e w5 ⟨rfl, hw⟩; rw [hw]; clear hw w5))
          go_ret
          exact ⟨congrArg (fun x => Ending.returned (.bool x)) (by rw [beq_iff_eq]; omega), NY.out⟩
end Go.Proofs.YtligjglleomeeaaDoor
