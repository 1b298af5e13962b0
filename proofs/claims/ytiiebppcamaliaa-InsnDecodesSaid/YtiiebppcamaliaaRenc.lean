/-
  Proved: what the reference's Encode answers.
-/
import Derived.Test.YtiiebppcamaliaaRcon
namespace Go.Proofs.Ytiiebppcamaliaa
open Go.RowKit
set_option linter.unusedVariables false
set_option linter.unusedSimpArgs false

theorem r_ch {w w1 w2 : World} (h1 : Below w.heap.size w w1) (h2 : Below w1.heap.size w1 w2) : Below w.heap.size w w2 := h1.trans (h2.mono h1.size)

/-- Row k of the reference's table lies in memory. -/
theorem rr_at {w : World} {B : Nat} (h : ∀ j u, (rowsR.flatMap rrC)[j]? = some u → w.cell? ((⟨B, 0, none⟩ : Addr).add j) = some u) {k : Nat} {x : List UInt8 × Rw} (hx : insT[k]? = some x) :
    w.cell? ⟨B, k * 5, none⟩ = some (.string ⟨x.1.toArray⟩) ∧ w.cell? ⟨B, k * 5 + 1, none⟩ = some (.string (fmS x.2.fm)) ∧ w.cell? ⟨B, k * 5 + 2, none⟩ = some (.int .i64 x.2.op) ∧ w.cell? ⟨B, k * 5 + 3, none⟩ = some (.int .i64 x.2.f3) ∧ w.cell? ⟨B, k * 5 + 4, none⟩ = some (.int .i64 x.2.f7) := by
  have key : ∀ (l : List RR) (k : Nat) (y : RR), l[k]? = some y → ∀ j, j < 5 → (l.flatMap rrC)[k * 5 + j]? = (rrC y)[j]? := by
    intro l
    induction l with
    | nil => intro k y h; cases h
    | cons a l ih =>
      intro k y h j hj
      cases k with
      | zero =>
        cases h
        rw [List.flatMap_cons, List.getElem?_append_left (by rw [rr_len]; omega)]
        simp
      | succ k =>
        rw [List.flatMap_cons, List.getElem?_append_right (by rw [rr_len]; omega), rr_len, show (k + 1) * 5 + j - 5 = k * 5 + j by omega]
        exact ih k y (by simpa using h) j hj
  have hr : rowsR[k]? = some (rrOf x) := by unfold rowsR; rw [List.getElem?_map, hx]; rfl
  have kk := key rowsR k (rrOf x) hr
  have g : ∀ j u, (rowsR.flatMap rrC)[j]? = some u → w.cell? ⟨B, j, none⟩ = some u := fun j u hu => by
    have := h j u hu
    rwa [add_none', Nat.zero_add] at this
  exact ⟨g _ _ (kk 0 (by decide)), g _ _ (kk 1 (by decide)), g _ _ (kk 2 (by decide)), g _ _ (kk 3 (by decide)), g _ _ (kk 4 (by decide))⟩

theorem encF_yes {k : Nat} {x : List UInt8 × Rw} {i : Ins} (hx : insT[k]? = some x) (ht : takB x.2 i = true) : encF x.1 i = some (wo x.2 i) := by
  have hr : rowOf x.1 = some x.2 := rowOf_of (a := k) hx
  unfold encF
  rw [hr]
  simp [ht]
theorem encF_no {s : List UInt8} {i : Ins} (h : ∀ (a : Nat) (y : List UInt8 × Rw), insT[a]? = some y → y.1 = s → takB y.2 i = false) : encF s i = none := by
  unfold encF
  cases e : rowOf s with
  | none => rfl
  | some r =>
    obtain ⟨a, ha⟩ := rowOf_at e
    have := h a _ ha rfl
    simp only at this
    simp [this]

set_option maxRecDepth 20000 in
set_option maxHeartbeats 4000000 in
theorem rencode_c (s : ByteArray) (rd r1 r2 im : Int) {o : Option Int} (hO : encF s.data.toList ⟨rd, r1, r2, im⟩ = o) (w : World) :
    Calls Try.prog 10 #[.agg #[.string s, .int .i64 rd, .int .i64 r1, .int .i64 r2, .int .i64 im]] w fun e w' => e = .returned (.tuple #[.int .i64 (o.getD 0), .bool o.isSome]) ∧ Below w.heap.size w w' := by
  have RX : Hid (∀ (w : World) (B : Nat), (∀ j u, (rowsR.flatMap rrC)[j]? = some u → w.cell? ((⟨B, 0, none⟩ : Addr).add j) = some u) → ∀ (k : Nat) (x : List UInt8 × Rw), insT[k]? = some x → w.cell? ⟨B, k * 5, none⟩ = some (.string ⟨x.1.toArray⟩) ∧ w.cell? ⟨B, k * 5 + 1, none⟩ = some (.string (fmS x.2.fm)) ∧ w.cell? ⟨B, k * 5 + 2, none⟩ = some (.int .i64 x.2.op) ∧ w.cell? ⟨B, k * 5 + 3, none⟩ = some (.int .i64 x.2.f3) ∧ w.cell? ⟨B, k * 5 + 4, none⟩ = some (.int .i64 x.2.f7)) := fun w B h k x hx => rr_at h hx
  have TK : Hid (∀ (k : Nat) (x : List UInt8 × Rw), insT[k]? = some x → ∀ w, Calls Try.prog 20 #[.agg #[.string ⟨x.1.toArray⟩, .string (fmS x.2.fm), .int .i64 x.2.op, .int .i64 x.2.f3, .int .i64 x.2.f7], .agg #[.string s, .int .i64 rd, .int .i64 r1, .int .i64 r2, .int .i64 im]] w fun e w' => e = .returned (.bool (takB x.2 ⟨rd, r1, r2, im⟩)) ∧ Below w.heap.size w w') := fun k x hx w => rtakes_c (rok hx) _ _ ⟨rd, r1, r2, im⟩ w
  have WO : Hid (∀ (k : Nat) (x : List UInt8 × Rw), insT[k]? = some x → takB x.2 ⟨rd, r1, r2, im⟩ = true → ∀ w, Calls Try.prog 21 #[.agg #[.string ⟨x.1.toArray⟩, .string (fmS x.2.fm), .int .i64 x.2.op, .int .i64 x.2.f3, .int .i64 x.2.f7], .agg #[.string s, .int .i64 rd, .int .i64 r1, .int .i64 r2, .int .i64 im]] w fun e w' => e = .returned (.int .i64 (wo x.2 ⟨rd, r1, r2, im⟩)) ∧ Below w.heap.size w w') := fun k x hx ht w => rword_c hx _ ⟨rd, r1, r2, im⟩ ((takB_iff (rok hx) _).1 ht) w
  have YS : Hid (∀ (k : Nat) (x : List UInt8 × Rw), insT[k]? = some x → x.1 = s.data.toList → takB x.2 ⟨rd, r1, r2, im⟩ = true → o = some (wo x.2 ⟨rd, r1, r2, im⟩)) := fun k x hx hs ht => by rw [← hO, ← hs]; exact encF_yes hx ht
  have NS : Hid ((∀ (a : Nat) (y : List UInt8 × Rw), insT[a]? = some y → y.1 = s.data.toList → takB y.2 ⟨rd, r1, r2, im⟩ = false) → o = none) := fun h => by rw [← hO]; exact encF_no h
  have LN : Hid (insT.length = 47) := rfl
  clear hO
  have K0 : At (w.alloc (.cells #[.string s, .int .i64 rd, .int .i64 r1, .int .i64 r2, .int .i64 im] 23)) w.heap.size #[.string s, .int .i64 rd, .int .i64 r1, .int .i64 r2, .int .i64 im] 23 := At.new _ _ _
  go_enter Try.func10, Try.ntmps10
  go_wp2_with (go_at_call 19; refine (all_c _).mono ?_; rintro e w1 ⟨B, C, rfl, hc, hb⟩; have HC : Hid (∀ j u, (rowsR.flatMap rrC)[j]? = some u → w1.cell? ((⟨B, 0, none⟩ : Addr).add j) = some u) := hc; have B1 : Hid (Below w.heap.size w w1) := r_ch (below_alloc _ _) hb; have K1 : Hid (At w1 w.heap.size #[.string s, .int .i64 rd, .int .i64 r1, .int .i64 r2, .int .i64 im] 23) := K0.below hb K0.lt; clear hc hb)
  go_loopw [5] (fun i wr => ∃ k : Nat, k ≤ 47 ∧ i = .int .i64 (k : Int) ∧ (∀ (a : Nat) (y : List UInt8 × Rw), a < k → insT[a]? = some y → y.1 = s.data.toList → takB y.2 ⟨rd, r1, r2, im⟩ = false) ∧ Below w1.heap.size w1 wr) (fun i _ => 47 - (intOf i).toNat)
  case atStart => exact ⟨0, by omega, rfl, fun a y h => absurd h (Nat.not_lt_zero _), Below.refl _ _⟩
  case round =>
    obtain ⟨k, hk, rfl, hno, hbe⟩ := hrel
    have NO : Hid (∀ (a : Nat) (y : List UInt8 × Rw), a < k → insT[a]? = some y → y.1 = s.data.toList → takB y.2 ⟨rd, r1, r2, im⟩ = false) := hno
    have BW : Hid (Below w1.heap.size w1 wr) := hbe
    clear hno hbe
    rcases Nat.lt_or_ge k 47 with hk' | hk'
    · have hkz : (k : Int) < 47 := by omega
      obtain ⟨y, hy⟩ : ∃ y, insT[k]? = some y := ⟨insT[k]'hk', List.getElem?_eq_getElem hk'⟩
      have NX : Hid ((y.1 = s.data.toList → takB y.2 ⟨rd, r1, r2, im⟩ = false) → ∀ (a : Nat) (z : List UInt8 × Rw), a < k + 1 → insT[a]? = some z → z.1 = s.data.toList → takB z.2 ⟨rd, r1, r2, im⟩ = false) := fun hf a z ha hz => by
        rcases Nat.lt_or_ge a k with h | h
        · exact NO.out a z h hz
        · obtain rfl : a = k := by omega
          rw [hy] at hz
          cases hz
          exact hf
      have YY : Hid (y.1 = s.data.toList → takB y.2 ⟨rd, r1, r2, im⟩ = true → o = some (wo y.2 ⟨rd, r1, r2, im⟩)) := YS.out k y hy
      have TY : Hid (∀ w, _) := TK.out k y hy
      have WY : Hid (takB y.2 ⟨rd, r1, r2, im⟩ = true → ∀ w, _) := WO.out k y hy
      have CX := RX.out w1 B HC.out k y hy
      have hBl : B < w1.heap.size := World.block_lt_of_cell? _ _ CX.1
      have CA : Hid (∀ x : After w1, x.w.cell? ⟨B, k * 5, none⟩ = some (.string ⟨y.1.toArray⟩) ∧ x.w.cell? ⟨B, k * 5 + 1, none⟩ = some (.string (fmS y.2.fm)) ∧ x.w.cell? ⟨B, k * 5 + 2, none⟩ = some (.int .i64 y.2.op) ∧ x.w.cell? ⟨B, k * 5 + 3, none⟩ = some (.int .i64 y.2.f3) ∧ x.w.cell? ⟨B, k * 5 + 4, none⟩ = some (.int .i64 y.2.f7)) := fun x => ⟨After.cell CX.1 x, After.cell CX.2.1 x, After.cell CX.2.2.1 x, After.cell CX.2.2.2.1 x, After.cell CX.2.2.2.2 x⟩
      clear CX hy
      generalize takB y.2 ⟨rd, r1, r2, im⟩ = TB at *
      generalize wo y.2 ⟨rd, r1, r2, im⟩ = WV at *
      obtain ⟨nm, fm, op, f3, f7⟩ := y
      simp only at *
      generalize fmS fm = fs at *
      have hnb : nm = s.data.toList ↔ (⟨nm.toArray⟩ : ByteArray) = s := by
        constructor
        · intro h
          subst h
          cases s; simp
        · intro h
          rw [← h]
      generalize (⟨nm.toArray⟩ : ByteArray) = nb at *
      have IA : Hid (∀ x : After w1, x.w.cell? ⟨w.heap.size, 0, none⟩ = some (.string s) ∧ x.w.cell? ⟨w.heap.size, 1, none⟩ = some (.int .i64 rd) ∧ x.w.cell? ⟨w.heap.size, 2, none⟩ = some (.int .i64 r1) ∧ x.w.cell? ⟨w.heap.size, 3, none⟩ = some (.int .i64 r2) ∧ x.w.cell? ⟨w.heap.size, 4, none⟩ = some (.int .i64 im)) := fun x => ⟨After.cell (K1.out.cell 0) x, After.cell (K1.out.cell 1) x, After.cell (K1.out.cell 2) x, After.cell (K1.out.cell 3) x, After.cell (K1.out.cell 4) x⟩
      by_cases hs : nb = s
      · have hnm := hnb.2 hs
        subst nb
        clear hnb
        cases TB with
        | false =>
          skip
          go_wp2
          have j0 : ∀ x : After wr, x.w.cell? ⟨B, k * 5, none⟩ = some (.string s) := fun x => (CA.out ⟨x.w, r_ch BW.out x.below⟩).1
          have j1 : ∀ x : After wr, x.w.cell? ⟨B, k * 5 + 1, none⟩ = some (.string fs) := fun x => (CA.out ⟨x.w, r_ch BW.out x.below⟩).2.1
          have j2 : ∀ x : After wr, x.w.cell? ⟨B, k * 5 + 2, none⟩ = some (.int .i64 op) := fun x => (CA.out ⟨x.w, r_ch BW.out x.below⟩).2.2.1
          have j3 : ∀ x : After wr, x.w.cell? ⟨B, k * 5 + 3, none⟩ = some (.int .i64 f3) := fun x => (CA.out ⟨x.w, r_ch BW.out x.below⟩).2.2.2.1
          have j4 : ∀ x : After wr, x.w.cell? ⟨B, k * 5 + 4, none⟩ = some (.int .i64 f7) := fun x => (CA.out ⟨x.w, r_ch BW.out x.below⟩).2.2.2.2
          have i0 : ∀ x : After wr, x.w.cell? ⟨w.heap.size, 0, none⟩ = some (.string s) := fun x => (IA.out ⟨x.w, r_ch BW.out x.below⟩).1
          have i1 : ∀ x : After wr, x.w.cell? ⟨w.heap.size, 1, none⟩ = some (.int .i64 rd) := fun x => (IA.out ⟨x.w, r_ch BW.out x.below⟩).2.1
          have i2 : ∀ x : After wr, x.w.cell? ⟨w.heap.size, 2, none⟩ = some (.int .i64 r1) := fun x => (IA.out ⟨x.w, r_ch BW.out x.below⟩).2.2.1
          have i3 : ∀ x : After wr, x.w.cell? ⟨w.heap.size, 3, none⟩ = some (.int .i64 r2) := fun x => (IA.out ⟨x.w, r_ch BW.out x.below⟩).2.2.2.1
          have i4 : ∀ x : After wr, x.w.cell? ⟨w.heap.size, 4, none⟩ = some (.int .i64 im) := fun x => (IA.out ⟨x.w, r_ch BW.out x.below⟩).2.2.2.2
          haveI := After.has wr
          refine wp_region_after (by kernel_rfl) (by kernel_rfl) ?_
          repeat (quiet_step ((go_at_call 20; exact Calls.after (TY.out _))))
          refine wpQuiet_nil ?_
          intro _ hw'
          obtain ⟨xq, hw''⟩ := hw'
          subst hw''
          have B4 : Hid (Below w1.heap.size w1 xq.w) := r_ch BW.out xq.below
          generalize xq.w = w4 at *
          clear j0 j1 j2 j3 j4 i0 i1 i2 i3 i4
          go_wp2
          go_roundw
          case rel => exact ⟨k + 1, by omega, by go_num, NX.out (fun _ => by first | exact rfl | trivial), B4.out⟩
          case measure => simp [intOf]; omega
        | true =>
          skip
          have OE := YY.out hnm (by first | exact rfl | trivial)
          go_wp2
          have j0 : ∀ x : After wr, x.w.cell? ⟨B, k * 5, none⟩ = some (.string s) := fun x => (CA.out ⟨x.w, r_ch BW.out x.below⟩).1
          have j1 : ∀ x : After wr, x.w.cell? ⟨B, k * 5 + 1, none⟩ = some (.string fs) := fun x => (CA.out ⟨x.w, r_ch BW.out x.below⟩).2.1
          have j2 : ∀ x : After wr, x.w.cell? ⟨B, k * 5 + 2, none⟩ = some (.int .i64 op) := fun x => (CA.out ⟨x.w, r_ch BW.out x.below⟩).2.2.1
          have j3 : ∀ x : After wr, x.w.cell? ⟨B, k * 5 + 3, none⟩ = some (.int .i64 f3) := fun x => (CA.out ⟨x.w, r_ch BW.out x.below⟩).2.2.2.1
          have j4 : ∀ x : After wr, x.w.cell? ⟨B, k * 5 + 4, none⟩ = some (.int .i64 f7) := fun x => (CA.out ⟨x.w, r_ch BW.out x.below⟩).2.2.2.2
          have i0 : ∀ x : After wr, x.w.cell? ⟨w.heap.size, 0, none⟩ = some (.string s) := fun x => (IA.out ⟨x.w, r_ch BW.out x.below⟩).1
          have i1 : ∀ x : After wr, x.w.cell? ⟨w.heap.size, 1, none⟩ = some (.int .i64 rd) := fun x => (IA.out ⟨x.w, r_ch BW.out x.below⟩).2.1
          have i2 : ∀ x : After wr, x.w.cell? ⟨w.heap.size, 2, none⟩ = some (.int .i64 r1) := fun x => (IA.out ⟨x.w, r_ch BW.out x.below⟩).2.2.1
          have i3 : ∀ x : After wr, x.w.cell? ⟨w.heap.size, 3, none⟩ = some (.int .i64 r2) := fun x => (IA.out ⟨x.w, r_ch BW.out x.below⟩).2.2.2.1
          have i4 : ∀ x : After wr, x.w.cell? ⟨w.heap.size, 4, none⟩ = some (.int .i64 im) := fun x => (IA.out ⟨x.w, r_ch BW.out x.below⟩).2.2.2.2
          haveI := After.has wr
          refine wp_region_after (by kernel_rfl) (by kernel_rfl) ?_
          repeat (quiet_step ((go_at_call 20; exact Calls.after (TY.out _))))
          refine wpQuiet_nil ?_
          intro _ hw'
          obtain ⟨xq, hw''⟩ := hw'
          subst hw''
          have B4 : Hid (Below w1.heap.size w1 xq.w) := r_ch BW.out xq.below
          generalize xq.w = w4 at *
          clear j0 j1 j2 j3 j4 i0 i1 i2 i3 i4
          go_wp2
          have j0 : ∀ x : After w4, x.w.cell? ⟨B, k * 5, none⟩ = some (.string s) := fun x => (CA.out ⟨x.w, r_ch B4.out x.below⟩).1
          have j1 : ∀ x : After w4, x.w.cell? ⟨B, k * 5 + 1, none⟩ = some (.string fs) := fun x => (CA.out ⟨x.w, r_ch B4.out x.below⟩).2.1
          have j2 : ∀ x : After w4, x.w.cell? ⟨B, k * 5 + 2, none⟩ = some (.int .i64 op) := fun x => (CA.out ⟨x.w, r_ch B4.out x.below⟩).2.2.1
          have j3 : ∀ x : After w4, x.w.cell? ⟨B, k * 5 + 3, none⟩ = some (.int .i64 f3) := fun x => (CA.out ⟨x.w, r_ch B4.out x.below⟩).2.2.2.1
          have j4 : ∀ x : After w4, x.w.cell? ⟨B, k * 5 + 4, none⟩ = some (.int .i64 f7) := fun x => (CA.out ⟨x.w, r_ch B4.out x.below⟩).2.2.2.2
          have i0 : ∀ x : After w4, x.w.cell? ⟨w.heap.size, 0, none⟩ = some (.string s) := fun x => (IA.out ⟨x.w, r_ch B4.out x.below⟩).1
          have i1 : ∀ x : After w4, x.w.cell? ⟨w.heap.size, 1, none⟩ = some (.int .i64 rd) := fun x => (IA.out ⟨x.w, r_ch B4.out x.below⟩).2.1
          have i2 : ∀ x : After w4, x.w.cell? ⟨w.heap.size, 2, none⟩ = some (.int .i64 r1) := fun x => (IA.out ⟨x.w, r_ch B4.out x.below⟩).2.2.1
          have i3 : ∀ x : After w4, x.w.cell? ⟨w.heap.size, 3, none⟩ = some (.int .i64 r2) := fun x => (IA.out ⟨x.w, r_ch B4.out x.below⟩).2.2.2.1
          have i4 : ∀ x : After w4, x.w.cell? ⟨w.heap.size, 4, none⟩ = some (.int .i64 im) := fun x => (IA.out ⟨x.w, r_ch B4.out x.below⟩).2.2.2.2
          haveI := After.has w4
          refine wp_region_after (by kernel_rfl) (by kernel_rfl) ?_
          repeat (quiet_step ((go_at_call 21; exact Calls.after (WY.out (by first | exact rfl | trivial) _))))
          refine wpQuiet_nil ?_
          intro _ hw'
          obtain ⟨xq, hw''⟩ := hw'
          subst hw''
          have B5 : Hid (Below w1.heap.size w1 xq.w) := r_ch B4.out xq.below
          generalize xq.w = w5 at *
          clear j0 j1 j2 j3 j4 i0 i1 i2 i3 i4
          go_wp2
          go_ret2
          exact ⟨by first | (rw [OE]; rfl) | rfl, r_ch B1.out B5.out⟩
      · have hne := str_ne hs
        have hnm : ¬ nm = s.data.toList := fun h => hs (hnb.1 h)
        go_wp2
        have j0 : ∀ x : After wr, x.w.cell? ⟨B, k * 5, none⟩ = some (.string nb) := fun x => (CA.out ⟨x.w, r_ch BW.out x.below⟩).1
        have j1 : ∀ x : After wr, x.w.cell? ⟨B, k * 5 + 1, none⟩ = some (.string fs) := fun x => (CA.out ⟨x.w, r_ch BW.out x.below⟩).2.1
        have j2 : ∀ x : After wr, x.w.cell? ⟨B, k * 5 + 2, none⟩ = some (.int .i64 op) := fun x => (CA.out ⟨x.w, r_ch BW.out x.below⟩).2.2.1
        have j3 : ∀ x : After wr, x.w.cell? ⟨B, k * 5 + 3, none⟩ = some (.int .i64 f3) := fun x => (CA.out ⟨x.w, r_ch BW.out x.below⟩).2.2.2.1
        have j4 : ∀ x : After wr, x.w.cell? ⟨B, k * 5 + 4, none⟩ = some (.int .i64 f7) := fun x => (CA.out ⟨x.w, r_ch BW.out x.below⟩).2.2.2.2
        have i0 : ∀ x : After wr, x.w.cell? ⟨w.heap.size, 0, none⟩ = some (.string s) := fun x => (IA.out ⟨x.w, r_ch BW.out x.below⟩).1
        have i1 : ∀ x : After wr, x.w.cell? ⟨w.heap.size, 1, none⟩ = some (.int .i64 rd) := fun x => (IA.out ⟨x.w, r_ch BW.out x.below⟩).2.1
        have i2 : ∀ x : After wr, x.w.cell? ⟨w.heap.size, 2, none⟩ = some (.int .i64 r1) := fun x => (IA.out ⟨x.w, r_ch BW.out x.below⟩).2.2.1
        have i3 : ∀ x : After wr, x.w.cell? ⟨w.heap.size, 3, none⟩ = some (.int .i64 r2) := fun x => (IA.out ⟨x.w, r_ch BW.out x.below⟩).2.2.2.1
        have i4 : ∀ x : After wr, x.w.cell? ⟨w.heap.size, 4, none⟩ = some (.int .i64 im) := fun x => (IA.out ⟨x.w, r_ch BW.out x.below⟩).2.2.2.2
        haveI := After.has wr
        refine wp_region_after (by kernel_rfl) (by kernel_rfl) ?_
        repeat (quiet_step ((go_at_call 20; exact Calls.after (TY.out _))))
        refine wpQuiet_nil ?_
        intro _ hw'
        obtain ⟨xq, hw''⟩ := hw'
        subst hw''
        have B4 : Hid (Below w1.heap.size w1 xq.w) := r_ch BW.out xq.below
        generalize xq.w = w4 at *
        clear j0 j1 j2 j3 j4 i0 i1 i2 i3 i4
        go_wp2
        go_roundw
        case rel => exact ⟨k + 1, by omega, by go_num, NX.out (fun h => (hnm h).elim), B4.out⟩
        case measure => simp [intOf]; omega
    · have hkz : ¬ (k : Int) < 47 := by omega
      obtain rfl : k = 47 := by omega
      have OE := NS.out (fun a y hy => NO.out a y (by
        have : a < insT.length := by
          rcases Nat.lt_or_ge a insT.length with h | h
          · exact h
          · rw [List.getElem?_eq_none h] at hy; cases hy
        rw [LN.out] at this
        exact this) hy)
      go_wp2
      go_ret2
      exact ⟨by first | (rw [OE]; rfl) | rfl, r_ch B1.out BW.out⟩
end Go.Proofs.Ytiiebppcamaliaa
