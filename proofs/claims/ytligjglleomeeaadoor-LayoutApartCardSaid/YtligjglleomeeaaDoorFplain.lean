/-
  Proved: what fold.Plain answers of any function: of each local whether it is plain.
-/
import Derived.Test.YtligjglleomeeaaDoorFeach
import Derived.Deep.OwnRows
namespace Go.Proofs.YtligjglleomeeaaDoor
open Go.RowKit

theorem make_b (n : Nat) (hn : n ≤ 1000) (w : World) : (Instr.makeSlice 34 (.int .i64 (n : Int)) (.int .i64 (n : Int))).run Tryd.prog w = .ok (.slice (some ⟨w.heap.size, 0, none⟩) n n) (w.alloc (.cells (madeCells #[.bool false] n) 4)) :=
  run_make_row' (P := Tryd.prog) 34 4 (.bool false) 1 Tryd.underlying34 infoBool rfl .i64 .i64 n (by omega) (by omega) w

/-- What Plain has laid: its function's cells, the truths, their variable. -/
def FW (w : World) (fc : Array Value) (bx rb n : Nat) (g : Nat → Bool) (wr : World) : Prop := At wr w.heap.size fc 25 ∧ Below w.heap.size w wr ∧ PB wr bx rb n g
theorem FW.ext {w wr : World} {fc : Array Value} {bx rb n : Nat} {p q : Nat → Bool} (h : FW w fc bx rb n p wr) (e : ∀ k, k < n → p k = q k) : FW w fc bx rb n q wr := ⟨h.1, h.2.1, h.2.2.ext e⟩
theorem FW.start (w : World) (fc : Array Value) (n : Nat) : FW w fc (w.heap.size + 1 + 1) (w.heap.size + 1) n (fun _ => false) (((w.alloc (.cells fc 25)).alloc (.cells (madeCells #[.bool false] n) 4)).alloc (.cells #[.slice (some ⟨w.heap.size + 1, 0, none⟩) n n] 34)) := by
  have s1 : (w.alloc (.cells fc 25)).heap.size = w.heap.size + 1 := by simp
  have s2 : ((w.alloc (.cells fc 25)).alloc (.cells (madeCells #[.bool false] n) 4)).heap.size = w.heap.size + 1 + 1 := by simp
  have b1 := below_alloc w (.cells fc 25)
  have b2 := below_alloc (w.alloc (.cells fc 25)) (.cells (madeCells #[.bool false] n) 4)
  have b3 := below_alloc ((w.alloc (.cells fc 25)).alloc (.cells (madeCells #[.bool false] n) 4)) (.cells #[.slice (some ⟨w.heap.size + 1, 0, none⟩) n n] 34)
  refine ⟨At.below (At.below (At.new _ _ _) b2 (by omega)) b3 (by omega), below_next (below_next b1 b2) b3, At.newS _ _ _ s2, ?_⟩
  have := BR.made (w.alloc (.cells fc 25)) n
  rw [s1] at this
  exact At.below this b3 (by omega)
theorem FW.move {w wr w' : World} {fc : Array Value} {bx rb n : Nat} {p q : Nat → Bool} (h : FW w fc bx rb n p wr) (hrb : w.heap.size < rb) (k : Kp (fun c => c = rb) wr w') (hp : PB w' bx rb n q) : FW w fc bx rb n q w' :=
  ⟨k.at h.1 (by omega), h.2.1.trans (k.below h.2.1.size fun b hb => by omega), hp⟩
theorem FW.set {w wr : World} {fc : Array Value} {bx n : Nat} {g : Nat → Bool} (h : FW w fc bx (w.heap.size + 1) n g wr) (j : Nat) (hj : j < n) (x : Bool) : FW w fc bx (w.heap.size + 1) n (pb g j x) (wr.setCell ⟨w.heap.size + 1, j, none⟩ (.bool x)) :=
  h.move (by omega) (Kp.set _ _ _ rfl) (h.2.2.set j hj x)

set_option maxRecDepth 20000 in
set_option maxHeartbeats 2000000 in
theorem fplain_c (f : Fm) (cs : List Value) (w : World) (h : FmIn w f cs) (T : Tab w) (hn : f.lo.length ≤ 1000) :
    Calls Tryd.prog 7 #[.agg cs.toArray] w fun e w' => ∃ rb, e = .returned (.slice (some ⟨rb, 0, none⟩) f.lo.length f.lo.length) ∧ w.heap.size ≤ rb ∧ BR w' rb f.lo.length (pln f) ∧ Below w.heap.size w w' := by
  obtain ⟨lv, bv, rfl, hlo, hbs⟩ := h
  obtain ⟨_, LA, LC, rfl, -⟩ := id hlo
  obtain ⟨hbl, BA, BC, rfl, -⟩ := id hbs
  have LO : Hid (NosIn w f.lo (.slice LA f.lo.length LC)) := hlo
  have BS : Hid (BksIn w f.bs (.slice BA f.bs.length BC)) := hbs
  have TB : Hid (Tab w) := T
  clear hlo hbs T
  have PL : Hid (∀ k, pln f k = (decide (f.lo.getD k 0 = 1) && clrs k f.bs)) := fun _ => rfl
  generalize pln f = pl at *
  obtain ⟨nm, lo, pa, an, qu, bs⟩ := f
  simp only [fmC] at *
  have hmk := make_b lo.length hn
  go_enter Tryd.func7, Tryd.ntmps7
  go_wp2
  have F0 : Hid (FW w #[.string nm, .slice LA lo.length LC, .int .i64 pa, .int .i64 an, .bool qu, .slice BA bs.length BC] (w.heap.size + 1 + 1) (w.heap.size + 1) lo.length (fun _ => false) (((w.alloc (.cells #[.string nm, .slice LA lo.length LC, .int .i64 pa, .int .i64 an, .bool qu, .slice BA bs.length BC] 25)).alloc (.cells (madeCells #[.bool false] lo.length) 4)).alloc (.cells #[.slice (some ⟨w.heap.size + 1, 0, none⟩) lo.length lo.length] 34))) := FW.start w #[.string nm, .slice LA lo.length LC, .int .i64 pa, .int .i64 an, .bool qu, .slice BA bs.length BC] lo.length
  generalize ((w.alloc (.cells #[.string nm, .slice LA lo.length LC, .int .i64 pa, .int .i64 an, .bool qu, .slice BA bs.length BC] 25)).alloc (.cells (madeCells #[.bool false] lo.length) 4)).alloc (.cells #[.slice (some ⟨w.heap.size + 1, 0, none⟩) lo.length lo.length] 34) = W0 at *
  clear hmk
  go_loopw [16] (fun iv wr => ∃ k : Nat, k ≤ lo.length ∧ iv = .int .i64 (k : Int) ∧ FW w #[.string nm, .slice LA lo.length LC, .int .i64 pa, .int .i64 an, .bool qu, .slice BA bs.length BC] (w.heap.size + 1 + 1) (w.heap.size + 1) lo.length (fun j => decide (j < k) && decide (lo.getD j 0 = 1)) wr) (fun iv _ => lo.length - (intOf iv).toNat)
  case atStart => exact ⟨0, by omega, rfl, F0.out.ext fun k hk => by simp⟩
  case round =>
    obtain ⟨k, hk, rfl, hF⟩ := hrel
    have F1 : Hid (FW w #[.string nm, .slice LA lo.length LC, .int .i64 pa, .int .i64 an, .bool qu, .slice BA bs.length BC] (w.heap.size + 1 + 1) (w.heap.size + 1) lo.length (fun j => decide (j < k) && decide (lo.getD j 0 = 1)) wr) := hF
    rcases Nat.lt_or_ge k lo.length with hk' | hk'
    · have hkz : (k : Int) < lo.length := by omega
      obtain ⟨_, A', C', e', hr⟩ := LO.out.below hF.2.1
      obtain ⟨b, o, cs, e2, hrow, e3⟩ := hr k hk'
      cases e'
      cases e2
      cases e3
      have ck := hrow.2 0 _ rfl
      have hb := hrow.1
      simp only [Nat.mul_one, Nat.add_zero] at ck
      have cx : wr.cell? ⟨w.heap.size + 1 + 1, 0, none⟩ = some (.slice (some ⟨w.heap.size + 1, 0, none⟩) lo.length lo.length) := hF.2.2.1.cell 0
      have cj := hF.2.2.2.cell k hk'
      have fz := hF.2.2.2.frozen k
      have z1 := hF.2.2.1.lt
      have FN : Hid (FW w #[.string nm, .slice (some ⟨b, o, none⟩) lo.length LC, .int .i64 pa, .int .i64 an, .bool qu, .slice BA bs.length BC] (w.heap.size + 1 + 1) (w.heap.size + 1) lo.length (fun j => decide (j < k + 1) && decide (lo.getD j 0 = 1)) (wr.setCell ⟨w.heap.size + 1, k, none⟩ (.bool (lo[k] == 1)))) := (hF.set k hk' _).ext fun j hj => by
        unfold pb
        by_cases e : j = k
        · subst e
          rw [if_pos rfl, List.getD_eq_getElem?_getD, List.getElem?_eq_getElem hk']
          simp
          rw [Bool.eq_iff_iff]
          simp
        · rw [if_neg e]
          have : (j < k) = (j < k + 1) := by rw [eq_iff_iff]; omega
          simp [this]
      clear hr hrow hF
      generalize lo[k] = lk at *
      go_wp2
      go_roundw
      case rel => exact ⟨k + 1, by omega, by go_num, FN.out⟩
      case measure => simp [intOf]; omega
    · have hkz : ¬ (k : Int) < lo.length := by omega
      have F2 : Hid (FW w #[.string nm, .slice LA lo.length LC, .int .i64 pa, .int .i64 an, .bool qu, .slice BA bs.length BC] (w.heap.size + 1 + 1) (w.heap.size + 1) lo.length (fun j => decide (lo.getD j 0 = 1) && clrs j (bs.take 0)) wr) := hF.ext fun j hj => by
        have : j < k := by omega
        simp [this, clrs]
      have c5 : wr.cell? ⟨w.heap.size, 5, none⟩ = some (.slice BA bs.length BC) := hF.1.cell 5
      have z0 := hF.1.lt
      clear hF
      go_wp2
      go_loopw [30] (fun iv wz => ∃ i : Nat, i ≤ bs.length ∧ iv = .int .i64 (i : Int) ∧ FW w #[.string nm, .slice LA lo.length LC, .int .i64 pa, .int .i64 an, .bool qu, .slice BA bs.length BC] (w.heap.size + 1 + 1) (w.heap.size + 1) lo.length (fun j => decide (lo.getD j 0 = 1) && clrs j (bs.take i)) wz) (fun iv _ => bs.length - (intOf iv).toNat)
      case atStart => exact ⟨0, by omega, rfl, F2.out⟩
      case round =>
        rename World => wy
        obtain ⟨i, hi, rfl, hF⟩ := hrel
        have F3 : Hid (FW w #[.string nm, .slice LA lo.length LC, .int .i64 pa, .int .i64 an, .bool qu, .slice BA bs.length BC] (w.heap.size + 1 + 1) (w.heap.size + 1) lo.length (fun j => decide (lo.getD j 0 = 1) && clrs j (bs.take i)) wy) := hF
        have c5 : wy.cell? ⟨w.heap.size, 5, none⟩ = some (.slice BA bs.length BC) := hF.1.cell 5
        have cx : wy.cell? ⟨w.heap.size + 1 + 1, 0, none⟩ = some (.slice (some ⟨w.heap.size + 1, 0, none⟩) lo.length lo.length) := hF.2.2.1.cell 0
        have z0 := hF.1.lt
        have z1 := hF.2.2.1.lt
        rcases Nat.lt_or_ge i bs.length with hi' | hi'
        · have hiz : (i : Int) < bs.length := by omega
          have S1 : Hid (∀ k : Nat, clrs k (bs.take (i + 1)) = (clrs k (bs.take i) && clr k bs[i].li)) := fun k => clrs_step _ _ _ hi'
          obtain ⟨_, A', C', e', hr⟩ := BS.out
          obtain ⟨b, o, cs, e2, hrow, hbk⟩ := hr i hi'
          cases e'
          cases e2
          obtain ⟨lv, av, e3, hli, -⟩ := hbk
          subst e3
          have c0 := (hrow.below hF.2.1).2 0 _ rfl
          have hb2 := (hrow.below hF.2.1).1
          simp only [Nat.add_zero] at c0
          clear hr hrow
          obtain ⟨hll, IA, IC, rfl, -⟩ := id hli
          have LI : Hid (LiIn w bs[i].li (.slice IA bs[i].li.length IC)) := hli
          have F4 : Hid (FW w #[.string nm, .slice LA lo.length LC, .int .i64 pa, .int .i64 an, .bool qu, .slice (some ⟨b, o, none⟩) bs.length BC] (w.heap.size + 1 + 1) (w.heap.size + 1) lo.length (fun j => (decide (lo.getD j 0 = 1) && clrs j (bs.take i)) && clr j (bs[i].li.take 0)) wy) := hF.ext fun j hj => by simp [clr]
          clear hli hF
          generalize bs[i].li = li at *
          go_wp2
          go_loopw [41] (fun jv wz => ∃ j : Nat, j ≤ li.length ∧ jv = .int .i64 (j : Int) ∧ FW w #[.string nm, .slice LA lo.length LC, .int .i64 pa, .int .i64 an, .bool qu, .slice (some ⟨b, o, none⟩) bs.length BC] (w.heap.size + 1 + 1) (w.heap.size + 1) lo.length (fun k => (decide (lo.getD k 0 = 1) && clrs k (bs.take i)) && clr k (li.take j)) wz) (fun jv _ => li.length - (intOf jv).toNat)
          case atStart => exact ⟨0, by omega, rfl, F4.out⟩
          case round =>
            rename World => wz
            obtain ⟨j, hj, rfl, hF⟩ := hrel
            rcases Nat.lt_or_ge j li.length with hj' | hj'
            · have hjz : (j : Int) < li.length := by omega
              have S2 : Hid (∀ k : Nat, clr k (li.take (j + 1)) = (clr k (li.take j) && !tch li[j] k)) := fun k => clr_step _ _ _ hj'
              obtain ⟨_, A', C', e', hr⟩ := LI.out
              obtain ⟨b3, o3, cs3, e2, hrow, hins⟩ := hr j hj'
              cases e'
              cases e2
              have EC : Hid (Calls Tryd.prog 10 #[.pointer (some ⟨b3, o3 + j * 18, none⟩), .func (.func 11) #[] #[.pointer (some ⟨w.heap.size + 1 + 1, 0, none⟩)]] wz _) := each_c li[j] cs3 b3 (o3 + j * 18) (w.heap.size + 1 + 1) (w.heap.size + 1) lo.length _ w wz hF.2.1 (by omega) hrow hins TB.out hF.2.2
              have F5 : Hid (FW w #[.string nm, .slice LA lo.length LC, .int .i64 pa, .int .i64 an, .bool qu, .slice (some ⟨b, o, none⟩) bs.length BC] (w.heap.size + 1 + 1) (w.heap.size + 1) lo.length (fun k => (decide (lo.getD k 0 = 1) && clrs k (bs.take i)) && clr k (li.take j)) wz) := hF
              have hb3 : b3 < wz.heap.size := (hrow.below hF.2.1).1
              clear hr hrow hins hF
              go_wp2_with (go_at_call 10; refine EC.out.mono ?_; rintro e w5 ⟨rfl, hp5, hk5⟩; have F6 : Hid (FW w #[.string nm, .slice LA lo.length LC, .int .i64 pa, .int .i64 an, .bool qu, .slice (some ⟨b, o, none⟩) bs.length BC] (w.heap.size + 1 + 1) (w.heap.size + 1) lo.length (fun k => (decide (lo.getD k 0 = 1) && clrs k (bs.take i)) && clr k (li.take (j + 1))) w5) := (F5.out.move (by omega) hk5 hp5).ext (fun k hk => by rw [S2.out, Bool.and_assoc]); clear hp5 hk5)
              go_roundw
              case rel => exact ⟨j + 1, by omega, by go_num, F6.out⟩
              case measure => simp [intOf]; omega
            · have hjz : ¬ (j : Int) < li.length := by omega
              have F6 : Hid (FW w #[.string nm, .slice LA lo.length LC, .int .i64 pa, .int .i64 an, .bool qu, .slice (some ⟨b, o, none⟩) bs.length BC] (w.heap.size + 1 + 1) (w.heap.size + 1) lo.length (fun k => decide (lo.getD k 0 = 1) && clrs k (bs.take (i + 1))) wz) := hF.ext fun k hk => by rw [S1.out, List.take_of_length_le (l := li) (i := j) (by omega), Bool.and_assoc]
              clear hF
              go_wp2
              go_roundw
              case rel => exact ⟨i + 1, by omega, by go_num, F6.out⟩
              case measure => simp [intOf]; omega
        · have hiz : ¬ (i : Int) < bs.length := by omega
          have F6 : Hid (FW w #[.string nm, .slice LA lo.length LC, .int .i64 pa, .int .i64 an, .bool qu, .slice BA bs.length BC] (w.heap.size + 1 + 1) (w.heap.size + 1) lo.length pl wy) := hF.ext fun k hk => by rw [PL.out, List.take_of_length_le (by omega)]
          clear hF
          go_wp2
          go_ret
          exact ⟨_, rfl, by omega, F6.out.2.2.2, F6.out.2.1⟩
end Go.Proofs.YtligjglleomeeaaDoor
