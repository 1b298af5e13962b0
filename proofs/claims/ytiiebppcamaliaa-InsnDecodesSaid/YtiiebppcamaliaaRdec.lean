/-
  Proved: what the reference's Decode answers.
-/
import Derived.Test.YtiiebppcamaliaaRof
import Derived.Test.YtiiebppcamaliaaRenc
import Derived.Test.YtiiebppcamaliaaIdec
namespace Go.Proofs.Ytiiebppcamaliaa
open Go.RowKit
set_option linter.unusedVariables false
set_option linter.unusedSimpArgs false

/-- Row k of the table, with all that the reference's Decode asks of it. -/
def RDk (x : Int) (y : List UInt8 × Rw) : Prop :=
  ∃ (nb fs : ByteArray) (op f3 f7 v1 v2 v3 v4 wv : Int) (tb : Bool), (⟨y.1.toArray⟩ : ByteArray) = nb ∧ fmS y.2.fm = fs ∧ y.2.op = op ∧ y.2.f3 = f3 ∧ y.2.f7 = f7
    ∧ decV (some (y.1, fo y.2 x)) = .tuple #[.agg #[.string nb, .int .i64 v1, .int .i64 v2, .int .i64 v3, .int .i64 v4], .int .i64 0]
    ∧ (∀ w, Calls Try.prog 25 #[.agg #[.string nb, .string fs, .int .i64 op, .int .i64 f3, .int .i64 f7], .int .i64 x] w fun e w' => e = .returned (.agg #[.string nb, .int .i64 v1, .int .i64 v2, .int .i64 v3, .int .i64 v4]) ∧ Below w.heap.size w w')
    ∧ (∀ w, Calls Try.prog 20 #[.agg #[.string nb, .string fs, .int .i64 op, .int .i64 f3, .int .i64 f7], .agg #[.string nb, .int .i64 v1, .int .i64 v2, .int .i64 v3, .int .i64 v4]] w fun e w' => e = .returned (.bool tb) ∧ Below w.heap.size w w')
    ∧ (tb = true → ∀ w, Calls Try.prog 21 #[.agg #[.string nb, .string fs, .int .i64 op, .int .i64 f3, .int .i64 f7], .agg #[.string nb, .int .i64 v1, .int .i64 v2, .int .i64 v3, .int .i64 v4]] w fun e w' => e = .returned (.int .i64 wv) ∧ Below w.heap.size w w')
    ∧ (fxB y.2 x = true ↔ tb = true ∧ wv = x)

theorem rdk {k : Nat} {y : List UInt8 × Rw} {x : Int} (h : insT[k]? = some y) (x0 : 0 ≤ x) (x1 : x < 4294967296) : RDk x y := by
  have RK := rok h
  have TI := takB_iff RK (fo y.2 x)
  refine ⟨⟨y.1.toArray⟩, fmS y.2.fm, y.2.op, y.2.f3, y.2.f7, (fo y.2 x).rd, (fo y.2 x).r1, (fo y.2 x).r2, (fo y.2 x).im, wo y.2 (fo y.2 x), takB y.2 (fo y.2 x), rfl, rfl, rfl, rfl, rfl, rfl, ?_, ?_, ?_, ?_⟩
  · exact fun w => rof_c RK _ x w
  · exact fun w => rtakes_c RK _ _ (fo y.2 x) w
  · exact fun ht w => rword_c h _ (fo y.2 x) (TI.1 ht) w
  · rw [fxB_iff RK, TI]
    exact (fx_iff RK.1 x0 x1).symm

set_option maxRecDepth 20000 in
set_option maxHeartbeats 4000000 in
theorem rdecode_c (x : Int) (x0 : 0 ≤ x) (x1 : x < 4294967296) (w : World) :
    Calls Try.prog 12 #[.int .i64 x] w fun e w' => e = .returned (decV (decF x)) ∧ Below w.heap.size w w' := by
  have RX : Hid (∀ (w : World) (B : Nat), (∀ j u, (rowsR.flatMap rrC)[j]? = some u → w.cell? ((⟨B, 0, none⟩ : Addr).add j) = some u) → ∀ (k : Nat) (x : List UInt8 × Rw), insT[k]? = some x → w.cell? ⟨B, k * 5, none⟩ = some (.string ⟨x.1.toArray⟩) ∧ w.cell? ⟨B, k * 5 + 1, none⟩ = some (.string (fmS x.2.fm)) ∧ w.cell? ⟨B, k * 5 + 2, none⟩ = some (.int .i64 x.2.op) ∧ w.cell? ⟨B, k * 5 + 3, none⟩ = some (.int .i64 x.2.f3) ∧ w.cell? ⟨B, k * 5 + 4, none⟩ = some (.int .i64 x.2.f7)) := fun w B h k x hx => rr_at h hx
  have RDS : Hid (∀ (k : Nat) (y : List UInt8 × Rw), insT[k]? = some y → RDk x y) := fun k y hy => rdk hy x0 x1
  have DS : Hid (∀ (k : Nat) (y : List UInt8 × Rw), insT[k]? = some y → fxB y.2 x = true → decV (decF x) = decV (some (y.1, fo y.2 x))) := fun k y hy hf => by rw [decF_some hy hf]
  have DN : Hid ((∀ (a : Nat) (y : List UInt8 × Rw), insT[a]? = some y → fxB y.2 x = false) → decV (decF x) = decV none) := fun h => by rw [decF_none h]
  have LN : Hid (insT.length = 47) := rfl
  generalize hDV : decV (decF x) = DV at *
  clear x0 x1 hDV
  have K0 : At (w.alloc (.cells #[.string ⟨#[]⟩, .int .i64 0, .int .i64 0, .int .i64 0, .int .i64 0] 23)) w.heap.size #[.string ⟨#[]⟩, .int .i64 0, .int .i64 0, .int .i64 0, .int .i64 0] 23 := At.new _ _ _
  go_enter Try.func12, Try.ntmps12
  go_wp2_with (go_at_call 19; refine (all_c _).mono ?_; rintro e w1 ⟨B, C, rfl, hc, hb⟩; have HC : Hid (∀ j u, (rowsR.flatMap rrC)[j]? = some u → w1.cell? ((⟨B, 0, none⟩ : Addr).add j) = some u) := hc; have B1 : Hid (Below w.heap.size w w1) := r_ch (below_alloc _ _) hb; have K1 : Hid (At w1 w.heap.size #[.string ⟨#[]⟩, .int .i64 0, .int .i64 0, .int .i64 0, .int .i64 0] 23) := K0.below hb K0.lt; clear hc hb)
  go_loopw [5] (fun i wr => ∃ k : Nat, k ≤ 47 ∧ i = .int .i64 (k : Int) ∧ (∀ (a : Nat) (y : List UInt8 × Rw), a < k → insT[a]? = some y → fxB y.2 x = false) ∧ Below w1.heap.size w1 wr) (fun i _ => 47 - (intOf i).toNat)
  case atStart => exact ⟨0, by omega, rfl, fun a y h => absurd h (Nat.not_lt_zero _), Below.refl _ _⟩
  case round =>
    obtain ⟨k, hk, rfl, hno, hbe⟩ := hrel
    have NO : Hid (∀ (a : Nat) (y : List UInt8 × Rw), a < k → insT[a]? = some y → fxB y.2 x = false) := hno
    have BW : Hid (Below w1.heap.size w1 wr) := hbe
    clear hno hbe
    rcases Nat.lt_or_ge k 47 with hk' | hk'
    · have hkz : (k : Int) < 47 := by omega
      obtain ⟨y, hy⟩ : ∃ y, insT[k]? = some y := ⟨insT[k]'hk', List.getElem?_eq_getElem hk'⟩
      have NX : Hid (fxB y.2 x = false → ∀ (a : Nat) (z : List UInt8 × Rw), a < k + 1 → insT[a]? = some z → fxB z.2 x = false) := fun hf a z ha hz => by
        rcases Nat.lt_or_ge a k with h | h
        · exact NO.out a z h hz
        · obtain rfl : a = k := by omega
          rw [hy] at hz
          cases hz
          exact hf
      have YY : Hid (fxB y.2 x = true → DV = decV (some (y.1, fo y.2 x))) := DS.out k y hy
      have CX := RX.out w1 B HC.out k y hy
      obtain ⟨nb, fs, op, f3, f7, v1, v2, v3, v4, wv, tb, e1, e2, e3, e4, e5, hv, hF, hT, hW, hx⟩ := RDS.out k y hy
      rw [hv] at YY
      rw [e1, e2, e3, e4, e5] at CX
      clear e1 e2 e3 e4 e5 hv hy
      have OFC : Hid (∀ w, Calls Try.prog 25 #[.agg #[.string nb, .string fs, .int .i64 op, .int .i64 f3, .int .i64 f7], .int .i64 x] w fun e w' => e = .returned (.agg #[.string nb, .int .i64 v1, .int .i64 v2, .int .i64 v3, .int .i64 v4]) ∧ Below w.heap.size w w') := hF
      have TKC : Hid (∀ w, Calls Try.prog 20 #[.agg #[.string nb, .string fs, .int .i64 op, .int .i64 f3, .int .i64 f7], .agg #[.string nb, .int .i64 v1, .int .i64 v2, .int .i64 v3, .int .i64 v4]] w fun e w' => e = .returned (.bool tb) ∧ Below w.heap.size w w') := hT
      have WOC : Hid (tb = true → ∀ w, Calls Try.prog 21 #[.agg #[.string nb, .string fs, .int .i64 op, .int .i64 f3, .int .i64 f7], .agg #[.string nb, .int .i64 v1, .int .i64 v2, .int .i64 v3, .int .i64 v4]] w fun e w' => e = .returned (.int .i64 wv) ∧ Below w.heap.size w w') := hW
      have hBl : B < w1.heap.size := World.block_lt_of_cell? _ _ CX.1
      have CA : Hid (∀ x : After w1, x.w.cell? ⟨B, k * 5, none⟩ = some (.string nb) ∧ x.w.cell? ⟨B, k * 5 + 1, none⟩ = some (.string fs) ∧ x.w.cell? ⟨B, k * 5 + 2, none⟩ = some (.int .i64 op) ∧ x.w.cell? ⟨B, k * 5 + 3, none⟩ = some (.int .i64 f3) ∧ x.w.cell? ⟨B, k * 5 + 4, none⟩ = some (.int .i64 f7)) := fun x => ⟨After.cell CX.1 x, After.cell CX.2.1 x, After.cell CX.2.2.1 x, After.cell CX.2.2.2.1 x, After.cell CX.2.2.2.2 x⟩
      clear CX hF hT hW
      generalize fxB y.2 x = FX at *
      have hcase : (FX = true ∧ tb = true ∧ wv = x) ∨ (FX = false ∧ tb = false) ∨ (FX = false ∧ tb = true ∧ ¬ wv = x) := by
        cases tb
        · exact Or.inr (Or.inl ⟨by cases FX; rfl; exact absurd (hx.1 rfl).1 (by decide), rfl⟩)
        · by_cases c : wv = x
          · exact Or.inl ⟨hx.2 ⟨rfl, c⟩, rfl, c⟩
          · exact Or.inr (Or.inr ⟨by cases FX; rfl; exact absurd (hx.1 rfl).2 c, rfl, c⟩)
      clear hx
      have q := CA.out ⟨wr, BW.out⟩
      have q0 : wr.cell? ⟨B, k * 5, none⟩ = some (.string nb) := q.1
      have q1 : wr.cell? ⟨B, k * 5 + 1, none⟩ = some (.string fs) := q.2.1
      have q2 : wr.cell? ⟨B, k * 5 + 2, none⟩ = some (.int .i64 op) := q.2.2.1
      have q3 : wr.cell? ⟨B, k * 5 + 3, none⟩ = some (.int .i64 f3) := q.2.2.2.1
      have q4 : wr.cell? ⟨B, k * 5 + 4, none⟩ = some (.int .i64 f7) := q.2.2.2.2
      clear q
      rcases hcase with ⟨rfl, rfl, rfl⟩ | ⟨rfl, rfl⟩ | ⟨rfl, rfl, hne⟩
      · skip
        go_upto_region 6 with (go_at_call 25; refine (OFC.out _).mono ?_; rintro e w2 ⟨rfl, hb⟩; have B2 : Hid (Below w1.heap.size w1 w2) := r_ch BW.out hb; clear hb q0 q1 q2 q3 q4)
        have B3 : Hid (Below w1.heap.size w1 (w2.alloc (.cells #[.string nb, .int .i64 v1, .int .i64 v2, .int .i64 v3, .int .i64 v4] 23))) := r_ch B2.out (below_alloc _ _)
        have K3 : Hid (At (w2.alloc (.cells #[.string nb, .int .i64 v1, .int .i64 v2, .int .i64 v3, .int .i64 v4] 23)) w2.heap.size #[.string nb, .int .i64 v1, .int .i64 v2, .int .i64 v3, .int .i64 v4] 23) := At.new _ _ _
        generalize w2.alloc (.cells #[.string nb, .int .i64 v1, .int .i64 v2, .int .i64 v3, .int .i64 v4] 23) = w3 at *
        generalize w2.heap.size = bi at *
        have j0 : ∀ x : After w3, x.w.cell? ⟨B, k * 5, none⟩ = some (.string nb) := fun x => (CA.out ⟨x.w, r_ch B3.out x.below⟩).1
        have j1 : ∀ x : After w3, x.w.cell? ⟨B, k * 5 + 1, none⟩ = some (.string fs) := fun x => (CA.out ⟨x.w, r_ch B3.out x.below⟩).2.1
        have j2 : ∀ x : After w3, x.w.cell? ⟨B, k * 5 + 2, none⟩ = some (.int .i64 op) := fun x => (CA.out ⟨x.w, r_ch B3.out x.below⟩).2.2.1
        have j3 : ∀ x : After w3, x.w.cell? ⟨B, k * 5 + 3, none⟩ = some (.int .i64 f3) := fun x => (CA.out ⟨x.w, r_ch B3.out x.below⟩).2.2.2.1
        have j4 : ∀ x : After w3, x.w.cell? ⟨B, k * 5 + 4, none⟩ = some (.int .i64 f7) := fun x => (CA.out ⟨x.w, r_ch B3.out x.below⟩).2.2.2.2
        have i0 := fun x : After w3 => After.cell (K3.out.cell 0) x
        have i1 := fun x : After w3 => After.cell (K3.out.cell 1) x
        have i2 := fun x : After w3 => After.cell (K3.out.cell 2) x
        have i3 := fun x : After w3 => After.cell (K3.out.cell 3) x
        have i4 := fun x : After w3 => After.cell (K3.out.cell 4) x
        simp at i0 i1 i2 i3 i4
        haveI := After.has w3
        refine wp_region_after (by kernel_rfl) (by kernel_rfl) ?_
        repeat (quiet_step (first | (go_at_call 20; exact Calls.after (TKC.out _)) | (go_at_call 21; exact Calls.after (WOC.out (by first | exact rfl | trivial) _))))
        refine wpQuiet_nil ?_
        intro _ hw'
        obtain ⟨xq, hw''⟩ := hw'
        subst hw''
        have B4 : Hid (Below w1.heap.size w1 xq.w) := r_ch B3.out xq.below
        have K4 : Hid (At xq.w bi #[.string nb, .int .i64 v1, .int .i64 v2, .int .i64 v3, .int .i64 v4] 23) := K3.out.below xq.below K3.out.lt
        generalize xq.w = w4 at *
        clear j0 j1 j2 j3 j4 i0 i1 i2 i3 i4
        have DE := YY.out (by first | exact rfl | trivial)
        have A4 : Hid (At w4 w.heap.size #[.string ⟨#[]⟩, .int .i64 0, .int .i64 0, .int .i64 0, .int .i64 0] 23) := K1.out.below B4.out K1.out.lt
        go_upto_region 7 with fail
        refine wp_region_list ?_
        refine wpList_load_row rfl 23 (.tmp 6) rfl bi rfl 23 #[.string nb, .int .i64 v1, .int .i64 v2, .int .i64 v3, .int .i64 v4] (0, 0) _ K4.out Try.underlying23 rfl (by kernel_rfl) ?_
        refine wpList_store_row rfl 23 (.tmp 2) (.tmp 36) rfl w.heap.size #[.string nb, .int .i64 v1, .int .i64 v2, .int .i64 v3, .int .i64 v4] rfl rfl 23 _ A4.out (by kernel_rfl) (by rfl) (by kernel_rfl) ?_
        go_wp2
        refine bodyPost_ret (res2 rfl _ _ w.heap.size 23 #[.string nb, .int .i64 v1, .int .i64 v2, .int .i64 v3, .int .i64 v4] (0, 0) _ rfl (setRow_heap _ _ _ _ _ _ A4.out) Try.underlying23 rfl sizeI) rfl ?_
        exact ⟨by first | rfl | (rw [DE]; rfl), (B1.out.trans (B4.out.mono B1.out.size)).trans (setRow_below _ (Nat.le_refl _))⟩
      · skip
        go_upto_region 6 with (go_at_call 25; refine (OFC.out _).mono ?_; rintro e w2 ⟨rfl, hb⟩; have B2 : Hid (Below w1.heap.size w1 w2) := r_ch BW.out hb; clear hb q0 q1 q2 q3 q4)
        have B3 : Hid (Below w1.heap.size w1 (w2.alloc (.cells #[.string nb, .int .i64 v1, .int .i64 v2, .int .i64 v3, .int .i64 v4] 23))) := r_ch B2.out (below_alloc _ _)
        have K3 : Hid (At (w2.alloc (.cells #[.string nb, .int .i64 v1, .int .i64 v2, .int .i64 v3, .int .i64 v4] 23)) w2.heap.size #[.string nb, .int .i64 v1, .int .i64 v2, .int .i64 v3, .int .i64 v4] 23) := At.new _ _ _
        generalize w2.alloc (.cells #[.string nb, .int .i64 v1, .int .i64 v2, .int .i64 v3, .int .i64 v4] 23) = w3 at *
        generalize w2.heap.size = bi at *
        have j0 : ∀ x : After w3, x.w.cell? ⟨B, k * 5, none⟩ = some (.string nb) := fun x => (CA.out ⟨x.w, r_ch B3.out x.below⟩).1
        have j1 : ∀ x : After w3, x.w.cell? ⟨B, k * 5 + 1, none⟩ = some (.string fs) := fun x => (CA.out ⟨x.w, r_ch B3.out x.below⟩).2.1
        have j2 : ∀ x : After w3, x.w.cell? ⟨B, k * 5 + 2, none⟩ = some (.int .i64 op) := fun x => (CA.out ⟨x.w, r_ch B3.out x.below⟩).2.2.1
        have j3 : ∀ x : After w3, x.w.cell? ⟨B, k * 5 + 3, none⟩ = some (.int .i64 f3) := fun x => (CA.out ⟨x.w, r_ch B3.out x.below⟩).2.2.2.1
        have j4 : ∀ x : After w3, x.w.cell? ⟨B, k * 5 + 4, none⟩ = some (.int .i64 f7) := fun x => (CA.out ⟨x.w, r_ch B3.out x.below⟩).2.2.2.2
        have i0 := fun x : After w3 => After.cell (K3.out.cell 0) x
        have i1 := fun x : After w3 => After.cell (K3.out.cell 1) x
        have i2 := fun x : After w3 => After.cell (K3.out.cell 2) x
        have i3 := fun x : After w3 => After.cell (K3.out.cell 3) x
        have i4 := fun x : After w3 => After.cell (K3.out.cell 4) x
        simp at i0 i1 i2 i3 i4
        haveI := After.has w3
        refine wp_region_after (by kernel_rfl) (by kernel_rfl) ?_
        repeat (quiet_step (first | (go_at_call 20; exact Calls.after (TKC.out _)) | (go_at_call 21; exact Calls.after (WOC.out (by first | exact rfl | trivial) _))))
        refine wpQuiet_nil ?_
        intro _ hw'
        obtain ⟨xq, hw''⟩ := hw'
        subst hw''
        have B4 : Hid (Below w1.heap.size w1 xq.w) := r_ch B3.out xq.below
        have K4 : Hid (At xq.w bi #[.string nb, .int .i64 v1, .int .i64 v2, .int .i64 v3, .int .i64 v4] 23) := K3.out.below xq.below K3.out.lt
        generalize xq.w = w4 at *
        clear j0 j1 j2 j3 j4 i0 i1 i2 i3 i4
        go_wp2
        go_roundw
        case rel => exact ⟨k + 1, by omega, by go_num, NX.out (by first | exact rfl | trivial), B4.out⟩
        case measure => simp [intOf]; omega
      · skip
        go_upto_region 6 with (go_at_call 25; refine (OFC.out _).mono ?_; rintro e w2 ⟨rfl, hb⟩; have B2 : Hid (Below w1.heap.size w1 w2) := r_ch BW.out hb; clear hb q0 q1 q2 q3 q4)
        have B3 : Hid (Below w1.heap.size w1 (w2.alloc (.cells #[.string nb, .int .i64 v1, .int .i64 v2, .int .i64 v3, .int .i64 v4] 23))) := r_ch B2.out (below_alloc _ _)
        have K3 : Hid (At (w2.alloc (.cells #[.string nb, .int .i64 v1, .int .i64 v2, .int .i64 v3, .int .i64 v4] 23)) w2.heap.size #[.string nb, .int .i64 v1, .int .i64 v2, .int .i64 v3, .int .i64 v4] 23) := At.new _ _ _
        generalize w2.alloc (.cells #[.string nb, .int .i64 v1, .int .i64 v2, .int .i64 v3, .int .i64 v4] 23) = w3 at *
        generalize w2.heap.size = bi at *
        have j0 : ∀ x : After w3, x.w.cell? ⟨B, k * 5, none⟩ = some (.string nb) := fun x => (CA.out ⟨x.w, r_ch B3.out x.below⟩).1
        have j1 : ∀ x : After w3, x.w.cell? ⟨B, k * 5 + 1, none⟩ = some (.string fs) := fun x => (CA.out ⟨x.w, r_ch B3.out x.below⟩).2.1
        have j2 : ∀ x : After w3, x.w.cell? ⟨B, k * 5 + 2, none⟩ = some (.int .i64 op) := fun x => (CA.out ⟨x.w, r_ch B3.out x.below⟩).2.2.1
        have j3 : ∀ x : After w3, x.w.cell? ⟨B, k * 5 + 3, none⟩ = some (.int .i64 f3) := fun x => (CA.out ⟨x.w, r_ch B3.out x.below⟩).2.2.2.1
        have j4 : ∀ x : After w3, x.w.cell? ⟨B, k * 5 + 4, none⟩ = some (.int .i64 f7) := fun x => (CA.out ⟨x.w, r_ch B3.out x.below⟩).2.2.2.2
        have i0 := fun x : After w3 => After.cell (K3.out.cell 0) x
        have i1 := fun x : After w3 => After.cell (K3.out.cell 1) x
        have i2 := fun x : After w3 => After.cell (K3.out.cell 2) x
        have i3 := fun x : After w3 => After.cell (K3.out.cell 3) x
        have i4 := fun x : After w3 => After.cell (K3.out.cell 4) x
        simp at i0 i1 i2 i3 i4
        haveI := After.has w3
        refine wp_region_after (by kernel_rfl) (by kernel_rfl) ?_
        repeat (quiet_step (first | (go_at_call 20; exact Calls.after (TKC.out _)) | (go_at_call 21; exact Calls.after (WOC.out (by first | exact rfl | trivial) _))))
        refine wpQuiet_nil ?_
        intro _ hw'
        obtain ⟨xq, hw''⟩ := hw'
        subst hw''
        have B4 : Hid (Below w1.heap.size w1 xq.w) := r_ch B3.out xq.below
        have K4 : Hid (At xq.w bi #[.string nb, .int .i64 v1, .int .i64 v2, .int .i64 v3, .int .i64 v4] 23) := K3.out.below xq.below K3.out.lt
        generalize xq.w = w4 at *
        clear j0 j1 j2 j3 j4 i0 i1 i2 i3 i4
        go_wp2
        go_roundw
        case rel => exact ⟨k + 1, by omega, by go_num, NX.out (by first | exact rfl | trivial), B4.out⟩
        case measure => simp [intOf]; omega
    · have hkz : ¬ (k : Int) < 47 := by omega
      obtain rfl : k = 47 := by omega
      have DE := DN.out (fun a y hy => NO.out a y (by
        have : a < insT.length := by
          rcases Nat.lt_or_ge a insT.length with h | h
          · exact h
          · rw [List.getElem?_eq_none h] at hy; cases hy
        rw [LN.out] at this
        exact this) hy)
      have A4 : Hid (At wr w.heap.size #[.string ⟨#[]⟩, .int .i64 0, .int .i64 0, .int .i64 0, .int .i64 0] 23) := K1.out.below BW.out K1.out.lt
      go_upto_region 8 with fail
      refine wp_region_list ?_
      refine wpList_build rfl 23 #[] rfl (by kernel_rfl) ?_
      refine wpList_store_row rfl 23 (.tmp 2) (.tmp 37) rfl w.heap.size #[.string ⟨#[]⟩, .int .i64 0, .int .i64 0, .int .i64 0, .int .i64 0] rfl (by kernel_rfl) 23 _ A4.out (by kernel_rfl) (by rfl) (by kernel_rfl) ?_
      go_wp2
      refine bodyPost_ret (res2 rfl _ _ w.heap.size 23 #[.string ⟨#[]⟩, .int .i64 0, .int .i64 0, .int .i64 0, .int .i64 0] (0, 0) _ rfl (setRow_heap _ _ _ _ _ _ A4.out) Try.underlying23 rfl sizeI) rfl ?_
      exact ⟨by first | rfl | (rw [DE]; rfl), (B1.out.trans (BW.out.mono B1.out.size)).trans (setRow_below _ (Nat.le_refl _))⟩
end Go.Proofs.Ytiiebppcamaliaa
