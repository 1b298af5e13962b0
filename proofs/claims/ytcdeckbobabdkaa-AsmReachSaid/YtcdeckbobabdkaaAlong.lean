/-
  Proved: what longOnes answers: the least lines that are closed under 'too far', unless all are too big.
-/
import Derived.Test.YtcdeckbobabdkaaAgrow
import Derived.WalkMore
namespace Go.Proofs.Ytcdeckbobabdkaa
open Go.RowKit
set_option linter.unusedVariables false
set_option linter.unusedSimpArgs false
set_option maxRecDepth 20000

theorem least_ex (p : Nat → Prop) (h : ∃ m, p m) : ∃ m, p m ∧ ∀ j, p j → m ≤ j := by
  obtain ⟨m, hm⟩ := h
  induction m using Nat.strongRecOn with
  | ind m ih =>
    by_cases e : ∃ j, j < m ∧ p j
    · obtain ⟨j, h1, h2⟩ := e
      exact ih j h1 h2
    · exact ⟨m, hm, fun j hj => Nat.le_of_not_lt fun h => e ⟨j, h, hj⟩⟩
noncomputable def lst (p : Nat → Prop) : Nat := @dite _ (∃ m, p m) (Classical.propDecidable _) (fun h => Classical.choose (least_ex p h)) (fun _ => 0)
theorem lst_spec {p : Nat → Prop} (h : ∃ m, p m) : p (lst p) := by
  unfold lst
  rw [dif_pos h]
  exact (Classical.choose_spec (least_ex p h)).1
theorem lst_le {p : Nat → Prop} {m : Nat} (h : p m) : lst p ≤ m := by
  have hx : ∃ m, p m := ⟨m, h⟩
  unfold lst
  rw [dif_pos hx]
  exact (Classical.choose_spec (least_ex p hx)).2 m h

theorem cn_lt {q r : Nat → Bool} (h : ∀ i, q i = true → r i = true) {j p : Nat} (hj : j < p) (h1 : q j = false) (h2 : r j = true) : cn q p < cn r p := by
  have a := cn_sub (q := q) (r := r) (Nat.zero_le j) (fun i _ _ => h i)
  have b := cn_sub (q := q) (r := r) (show j + 1 ≤ p from hj) (fun i _ _ => h i)
  have c1 : cn q (j + 1) = cn q j := by show cn q j + (if q j then 1 else 0) = _; rw [h1]; rfl
  have c2 : cn r (j + 1) = cn r j + 1 := by show cn r j + (if r j then 1 else 0) = _; rw [h2]; rfl
  have m1 := cn_mono q (show j + 1 ≤ p from hj)
  have m2 := cn_mono r (show j + 1 ≤ p from hj)
  simp only [cn, Nat.sub_zero] at a
  omega

/-- The growing's state: so many branches, at most, are still short. -/
def OS (l : List Ln) (b : Bk) (n : Nat) (w0 w : World) (g : Nat) : Prop := ∃ L, LE w l b L L ∧ Low l L ∧ Below n w0 w ∧ l.length - cn L l.length = g

theorem At.al {w : World} {B : Nat} {cs : Array Value} {t : TypeId} (h : At w B cs t) (o : Obj) : At (w.alloc o) B cs t := h.below (below_alloc _ _) h.lt

theorem LE.start (w1 : World) (l : List Ln) (A1 : Option Addr) (C1 : Nat) (h : BrIn w1 l A1) : LE ((((((w1.alloc (.cells #[.slice A1 (brs l l.length).length C1] 73)).alloc (.cells (madeCells #[.bool false] l.length) 4)).alloc (.cells #[.slice (some ⟨w1.heap.size + 1, 0, none⟩) l.length l.length] 60)).alloc (.cells (madeCells #[.int .i64 0] ((brs l l.length).length + 1)) 3)).alloc (.cells #[.slice (some ⟨w1.heap.size + 1 + 1 + 1, 0, none⟩) ((brs l l.length).length + 1) ((brs l l.length).length + 1)] 31)).alloc (.cells #[.func (.func 32) #[] #[.pointer (some ⟨w1.heap.size, 0, none⟩), .pointer (some ⟨w1.heap.size + 1 + 1 + 1 + 1, 0, none⟩)]] 78)) l ⟨A1, C1, w1.heap.size + 1, w1.heap.size + 1 + 1 + 1, w1.heap.size, w1.heap.size + 1 + 1, w1.heap.size + 1 + 1 + 1 + 1, w1.heap.size + 1 + 1 + 1 + 1 + 1⟩ (fun _ => false) (fun _ => false) ∧ Below w1.heap.size w1 ((((((w1.alloc (.cells #[.slice A1 (brs l l.length).length C1] 73)).alloc (.cells (madeCells #[.bool false] l.length) 4)).alloc (.cells #[.slice (some ⟨w1.heap.size + 1, 0, none⟩) l.length l.length] 60)).alloc (.cells (madeCells #[.int .i64 0] ((brs l l.length).length + 1)) 3)).alloc (.cells #[.slice (some ⟨w1.heap.size + 1 + 1 + 1, 0, none⟩) ((brs l l.length).length + 1) ((brs l l.length).length + 1)] 31)).alloc (.cells #[.func (.func 32) #[] #[.pointer (some ⟨w1.heap.size, 0, none⟩), .pointer (some ⟨w1.heap.size + 1 + 1 + 1 + 1, 0, none⟩)]] 78)) := by
  have s1 : ∀ (w : World) (o : Obj), (w.alloc o).heap.size = w.heap.size + 1 := fun w o => by simp
  refine ⟨⟨?_, ?_, ?_, ?_, ?_, ?_, ?_, ?_⟩, ?_⟩
  · exact (((((At.new w1 _ _).al _).al _).al _).al _).al _
  · exact (((At.newS _ _ _ (by simp only [s1])).al _).al _).al _
  · exact (At.newS _ _ _ (by simp only [s1])).al _
  · exact At.newS _ _ _ (by simp only [s1])
  · exact (((((RowsIn.below h (below_alloc _ _)).below (below_alloc _ _)).below (below_alloc _ _)).below (below_alloc _ _)).below (below_alloc _ _)).below (below_alloc _ _)
  · exact ⟨_, ((((At.newS _ _ _ (by simp only [s1])).al _).al _).al _).al _, fun i hi => made_get _ _ _ hi⟩
  · exact IZ.ext (f := fun _ => 0) ⟨_, ((At.newS _ _ _ (by simp only [s1])).al _).al _, fun i hi => made_get _ _ _ hi⟩ fun i _ => by simp [gr, gc]
  · intro bb o e hp
    obtain ⟨b2, o2, e2, h2, _⟩ := h 0 hp
    have e := e
    rw [e2] at e
    injection e with e
    injection e with e
    subst e
    exact ⟨by simp only; omega, by simp only; omega⟩
  · exact below_next (below_next (below_next (below_next (below_next (below_alloc _ _) (below_alloc _ _)) (below_alloc _ _)) (below_alloc _ _)) (below_alloc _ _)) (below_alloc _ _)

set_option maxHeartbeats 8000000 in
theorem longOnes_c (l : List Ln) (v : Value) (mb : Nat) (w : World) (h : LsIn w l v) (hM : MapL w mb 1000 (lbF l)) (hl : l.length ≤ 1000) (hsm : Sml l) (hok : ∀ y ∈ l, LOk y) :
    Calls Try.prog 20 #[v, .map (some mb)] w fun e w' => ∃ rb L, e = .returned (.slice (some ⟨rb, 0, none⟩) l.length l.length) ∧ w.heap.size ≤ rb ∧ BZ w' rb l.length L ∧ Low l L ∧ (Clo l L ∨ 65536 < atP l L l.length) ∧ Below w.heap.size w w' := by
  obtain ⟨A, C, rfl, hr⟩ := h
  have BC : Hid (Calls Try.prog 31 #[.slice A l.length C, .map (some mb)] w fun e w' => ∃ A C, e = .returned (.tuple #[.slice A (brs l l.length).length C, .int .i64 (atP l (fun _ => false) l.length)]) ∧ BrIn w' l A ∧ Below w.heap.size w w') := by
    have := branchesOf_c l _ mb w ⟨A, C, rfl, hr⟩ hM hl hsm hok
    rw [← brs_len] at this
    exact this
  have SM : Hid (Sml l) := hsm
  clear hr hM hsm hok
  have hm : (brs l l.length).length ≤ l.length := by rw [brs_len]; exact cn_le _ _
  have hmb := make_b l.length (by omega)
  have hmk := make_i ((brs l l.length).length + 1) (by omega)
  have hc1 : (((brs l l.length).length + 1 : Nat) : Int) = ((brs l l.length).length : Int) + 1 := by omega
  rw [hc1] at hmk
  go_enter Try.func20, Try.ntmps20
  go_wp2
  go_step3
  go_wp2_with (go_at_call 31; refine BC.out.mono ?_; rintro e w1 ⟨A1, C1, rfl, hbr, hb⟩; have BW : Hid (Below w.heap.size w w1) := hb; have BR : Hid (BrIn w1 l A1) := hbr; clear hb hbr)
  go_step3
  go_wp2
  obtain ⟨hle0, hbl0⟩ := LE.start w1 l A1 C1 BR.out
  have LO : Hid (w.heap.size ≤ w1.heap.size + 1 ∧ w.heap.size ≤ w1.heap.size + 1 + 1 + 1) := (show _ ∧ _ by have := BW.out.size; omega)
  have B0 := BW.out.trans (hbl0.mono BW.out.size)
  have OS0 : Hid (OS l ⟨A1, C1, w1.heap.size + 1, w1.heap.size + 1 + 1 + 1, w1.heap.size, w1.heap.size + 1 + 1, w1.heap.size + 1 + 1 + 1 + 1, w1.heap.size + 1 + 1 + 1 + 1 + 1⟩ w.heap.size w ((((((w1.alloc (.cells #[.slice A1 (brs l l.length).length C1] 73)).alloc (.cells (madeCells #[.bool false] l.length) 4)).alloc (.cells #[.slice (some ⟨w1.heap.size + 1, 0, none⟩) l.length l.length] 60)).alloc (.cells (madeCells #[.int .i64 0] ((brs l l.length).length + 1)) 3)).alloc (.cells #[.slice (some ⟨w1.heap.size + 1 + 1 + 1, 0, none⟩) ((brs l l.length).length + 1) ((brs l l.length).length + 1)] 31)).alloc (.cells #[.func (.func 32) #[] #[.pointer (some ⟨w1.heap.size, 0, none⟩), .pointer (some ⟨w1.heap.size + 1 + 1 + 1 + 1, 0, none⟩)]] 78)) l.length) := ⟨_, hle0, Low.none l, B0, by
    have : ∀ p, cn (fun _ => false) p = 0 := fun p => by
      induction p with
      | zero => rfl
      | succ p ih => show cn (fun _ => false) p + (if false = true then 1 else 0) = 0; rw [ih]; rfl
    rw [this]; omega⟩
  clear hle0 hbl0 B0 BW BR BC hmb hmk
  generalize ((((((w1.alloc (.cells #[.slice A1 (brs l l.length).length C1] 73)).alloc (.cells (madeCells #[.bool false] l.length) 4)).alloc (.cells #[.slice (some ⟨w1.heap.size + 1, 0, none⟩) l.length l.length] 60)).alloc (.cells (madeCells #[.int .i64 0] ((brs l l.length).length + 1)) 3)).alloc (.cells #[.slice (some ⟨w1.heap.size + 1 + 1 + 1, 0, none⟩) ((brs l l.length).length + 1) ((brs l l.length).length + 1)] 31)).alloc (.cells #[.func (.func 32) #[] #[.pointer (some ⟨w1.heap.size, 0, none⟩), .pointer (some ⟨w1.heap.size + 1 + 1 + 1 + 1, 0, none⟩)]] 78)) = W6 at *
  generalize w1.heap.size + 1 + 1 + 1 + 1 + 1 = pw at *
  generalize w1.heap.size + 1 + 1 + 1 + 1 = pg at *
  generalize w1.heap.size + 1 + 1 + 1 = gb at *
  generalize w1.heap.size + 1 + 1 = pl at *
  generalize w1.heap.size + 1 = rb at *
  generalize w1.heap.size = pb at *
  have hq : (brs l l.length).length = cn (isB l) l.length := brs_len _ _
  have HQ : Hid ((brs l l.length).length = cn (isB l) l.length) := hq
  clear hq
  go_loopw [] (fun wr => ∃ g, OS l ⟨A1, C1, rb, gb, pb, pl, pg, pw⟩ w.heap.size w wr g) (fun wr => lst (OS l ⟨A1, C1, rb, gb, pb, pl, pg, pw⟩ w.heap.size w wr))
  case atStart => exact ⟨_, OS0.out⟩
  case round =>
    have hz := lst_spec hrel
    obtain ⟨g, hg⟩ : ∃ g, g = lst (OS l ⟨A1, C1, rb, gb, pb, pl, pg, pw⟩ w.heap.size w wr) := ⟨_, rfl⟩
    rw [← hg] at hz
    have MM : Hid (g = lst (OS l ⟨A1, C1, rb, gb, pb, pl, pg, pw⟩ w.heap.size w wr)) := hg
    clear hg hrel
    obtain ⟨L, hle, hlow, hbl, hgn⟩ := hz
    obtain ⟨h1, h2, h3, h4, h5, h6, h7, h8⟩ := id hle
    have d1 : wr.cell? ⟨pb, 0, none⟩ = some (.slice A1 (brs l l.length).length C1) := h1.cell 0
    have d2 : wr.cell? ⟨pl, 0, none⟩ = some (.slice (some ⟨rb, 0, none⟩) l.length l.length) := h2.cell 0
    have d3 : wr.cell? ⟨pg, 0, none⟩ = some (.slice (some ⟨gb, 0, none⟩) ((brs l l.length).length + 1) ((brs l l.length).length + 1)) := h3.cell 0
    have dN : wr.cell? ⟨gb, (brs l l.length).length, none⟩ = some (.int .i64 (gr l l.length L (brs l l.length).length)) := GZ.cell h7 _ (by omega)
    have hsum : atP l (fun _ => false) l.length + gr l l.length L (brs l l.length).length = atP l L l.length := by
      unfold gr
      rw [HQ.out, gc_cn hlow.1 (Nat.le_refl _), atP_cn l L]
    have hin := atP_in SM.out L (p := l.length) (Nat.le_refl _)
    have wz1 : IntKind.i64.wrap (atP l (fun _ => false) l.length + gr l l.length L (brs l l.length).length) = atP l L l.length := by rw [hsum]; exact wrap_in _ (by omega)
    have wz2 : atP l (fun _ => false) l.length + gr l l.length L (brs l l.length).length = atP l L l.length := hsum
    have HZ : Hid (BZ wr rb l.length L) := h6
    have HLW : Hid (Low l L) := hlow
    have HB : Hid (Below w.heap.size w wr) := hbl
    have HLE : Hid (LE wr l ⟨A1, C1, rb, gb, pb, pl, pg, pw⟩ L L) := hle
    have HG : Hid (l.length - cn L l.length = g) := hgn
    have hmz : ((brs l l.length).length : Int) < ((brs l l.length).length : Int) + 1 := by omega
    clear h1 h2 h3 h4 h5 h6 h7 h8 hle hlow hbl hgn hsum hin
    generalize hpa : atP l (fun _ => false) l.length = pa at *
    generalize hgm : gr l l.length L (brs l l.length).length = gm at *
    clear hgm
    by_cases hbig : atP l L l.length ≤ 65536
    · have hb2 : pa + gm ≤ 65536 := by omega
      clear wz2
      generalize hpt : atP l L l.length = pt at *
      have hb1 : pt ≤ 65536 := hbig
      generalize hwo : wr = WO at *
      clear hwo
      go_wp2
      go_loopw [37] (fun iv wr => ∃ k : Nat, k ≤ (brs l l.length).length ∧ iv = .int .i64 (k : Int) ∧ LE wr l ⟨A1, C1, rb, gb, pb, pl, pg, pw⟩ L L ∧ Below w.heap.size w wr ∧ ∀ k' j', k' < k → (brs l l.length)[k']? = some j' → L j' = false → ¬ far (way l L j')) (fun iv _ => (brs l l.length).length - (intOf iv).toNat)
      case atStart => exact ⟨0, by omega, rfl, HLE.out, HB.out, fun k' j' h => absurd h (by omega)⟩
      case round =>
        obtain ⟨k, hk, rfl, hle, hbl, hall⟩ := hrel
        rcases Nat.lt_or_ge k (brs l l.length).length with hlt | hge
        · have hkz : (k : Int) < (brs l l.length).length := by omega
          obtain ⟨j, hj⟩ : ∃ j, (brs l l.length)[k]? = some j := ⟨(brs l l.length)[k], List.getElem?_eq_getElem hlt⟩
          have hji := brs_in hj
          have FC : Hid (Calls Try.prog 33 #[.int .i64 (k : Int), .pointer (some ⟨pl, 0, none⟩), .pointer (some ⟨pb, 0, none⟩), .pointer (some ⟨pw, 0, none⟩)] wr fun e w' => e = .returned (.bool (!L j && decide (far (way l L j)))) ∧ ∃ m, w' = wr.drewN m) := far_c l ⟨A1, C1, rb, gb, pb, pl, pg, pw⟩ L L k j wr hle HLW.out.1 hj SM.out hl
          cases hfar : (!L j && decide (far (way l L j))) with
          | false =>
            rw [hfar] at FC
            have NX : Hid (∀ m, LE (wr.drewN m) l ⟨A1, C1, rb, gb, pb, pl, pg, pw⟩ L L ∧ Below w.heap.size w (wr.drewN m)) := fun m => ⟨hle.drewN m, drew_below hbl m⟩
            have AL : Hid (∀ k' j', k' < k + 1 → (brs l l.length)[k']? = some j' → L j' = false → ¬ far (way l L j')) := fun k' j' h2 h3 h4 h5 => by
              rcases Nat.lt_or_ge k' k with h6 | h6
              · exact hall k' j' h6 h3 h4 h5
              · obtain rfl : k' = k := by omega
                rw [hj] at h3
                cases h3
                rw [h4] at hfar
                simp [h5] at hfar
            clear hle hbl hall hfar hj HLE HB HZ HLW SM d1 d2 d3 dN
            go_wp2_with (go_at_call 33; refine FC.out.mono ?_; rintro e w5 ⟨rfl, m1, hw1⟩; rw [hw1]; clear hw1 w5)
            go_roundw
            case rel => exact ⟨k + 1, by omega, by congr 1, (NX.out _).1, (NX.out _).2, AL.out⟩
            case measure => simp [intOf]; omega
          | true =>
            rw [hfar] at FC
            rw [Bool.and_eq_true, decide_eq_true_eq, Bool.not_eq_true'] at hfar
            have LEN : Hid (∀ m, Calls Try.prog 34 #[.slice A1 (brs l l.length).length C1, .int .i64 (k : Int), .slice (some ⟨rb, 0, none⟩) l.length l.length, .func (.func 33) #[] #[.pointer (some ⟨pl, 0, none⟩), .pointer (some ⟨pb, 0, none⟩), .pointer (some ⟨pw, 0, none⟩)]] (wr.drewN m) fun e w' => e = .returned (.tuple #[]) ∧ ∃ L2, LE w' l ⟨A1, C1, rb, gb, pb, pl, pg, pw⟩ L2 L ∧ Grw l L L2 ∧ (∀ k2 j, k ≤ k2 → (brs l l.length)[k2]? = some j → far (way l L j) → L2 j = true) ∧ Kp (fun c => c = rb) (wr.drewN m) w') := fun m => lengthen_c l ⟨A1, C1, rb, gb, pb, pl, pg, pw⟩ L k _ (hle.drewN m) HLW.out.1 (by omega) SM.out hl
            have SUM : Hid (∀ L2 w, LE w l ⟨A1, C1, rb, gb, pb, pl, pg, pw⟩ L2 L → Calls Try.prog 35 #[.slice A1 (brs l l.length).length C1, .slice (some ⟨rb, 0, none⟩) l.length l.length, .slice (some ⟨gb, 0, none⟩) ((brs l l.length).length + 1) ((brs l l.length).length + 1)] w fun e w' => e = .returned (.tuple #[]) ∧ LE w' l ⟨A1, C1, rb, gb, pb, pl, pg, pw⟩ L2 L2 ∧ Kp (fun c => c = gb) w w') := fun L2 w h => sumUp_c l ⟨A1, C1, rb, gb, pb, pl, pg, pw⟩ L2 L w h hl
            have e1 : wr.cell? ⟨pb, 0, none⟩ = some (.slice A1 (brs l l.length).length C1) := hle.1.cell 0
            have e2 : wr.cell? ⟨pl, 0, none⟩ = some (.slice (some ⟨rb, 0, none⟩) l.length l.length) := hle.2.1.cell 0
            have FIN : Hid (∀ m L2 w2 w3, Grw l L L2 → (∀ k2 j, k ≤ k2 → (brs l l.length)[k2]? = some j → far (way l L j) → L2 j = true) → Kp (fun c => c = rb) (wr.drewN m) w2 → LE w3 l ⟨A1, C1, rb, gb, pb, pl, pg, pw⟩ L2 L2 → Kp (fun c => c = gb) w2 w3 → ∃ g2, OS l ⟨A1, C1, rb, gb, pb, pl, pg, pw⟩ w.heap.size w w3 g2 ∧ g2 < g) := fun m L2 w2 w3 hg2 ha2 hk2 hl3 hk3 => by
              have q1 := drew_below hbl m
              have q2 := q1.trans (Kp.below hk2 q1.size fun b hb => by have := LO.out; omega)
              have q3 := q2.trans (Kp.below hk3 q2.size fun b hb => by have := LO.out; omega)
              refine ⟨_, ⟨L2, hl3, HLW.out.grow hg2.2, q3, rfl⟩, ?_⟩
              have c1 := cn_lt (q := L) (r := L2) hg2.1 hji.1 hfar.1 (ha2 k j (Nat.le_refl _) hj hfar.2)
              have c2 := cn_le L2 l.length
              rw [← HG.out]
              omega
            clear hle hbl hall hfar hj HLE HB HZ HLW SM d1 d2 d3 dN
            go_wp2_with (first | (go_at_call 33; refine FC.out.mono ?_; rintro e w5 ⟨rfl, m1, hw1⟩; rw [hw1]; clear hw1 w5) | (go_at_call 34; refine (LEN.out _).mono ?_; rintro e w2 ⟨rfl, L2, hle2, hgr2, hall2, hkp2⟩; have E2 : Hid (LE w2 l ⟨A1, C1, rb, gb, pb, pl, pg, pw⟩ L2 L) := hle2; have G2 : Hid (Grw l L L2) := hgr2; have H2 : Hid (∀ k2 j, k ≤ k2 → (brs l l.length)[k2]? = some j → far (way l L j) → L2 j = true) := hall2; have K2 : Hid (Kp (fun c => c = rb) _ w2) := hkp2; have x1 : w2.cell? ⟨pb, 0, none⟩ = some (.slice A1 (brs l l.length).length C1) := hle2.1.cell 0; have x2 : w2.cell? ⟨pl, 0, none⟩ = some (.slice (some ⟨rb, 0, none⟩) l.length l.length) := hle2.2.1.cell 0; have x3 : w2.cell? ⟨pg, 0, none⟩ = some (.slice (some ⟨gb, 0, none⟩) ((brs l l.length).length + 1) ((brs l l.length).length + 1)) := hle2.2.2.1.cell 0; clear hle2 hgr2 hall2 hkp2) | (go_at_call 35; refine (SUM.out _ _ E2.out).mono ?_; rintro e w3 ⟨rfl, hle3, hkp3⟩; have E3 : Hid (LE w3 l ⟨A1, C1, rb, gb, pb, pl, pg, pw⟩ L2 L2) := hle3; have K3 : Hid (Kp (fun c => c = gb) w2 w3) := hkp3; clear hle3 hkp3))
            obtain ⟨g2, hos, hgl⟩ := FIN.out _ _ _ _ G2.out H2.out K2.out E3.out K3.out
            have O3 : Hid (OS l ⟨A1, C1, rb, gb, pb, pl, pg, pw⟩ w.heap.size w w3 g2) := hos
            clear hos FIN G2 H2 K2 E3 K3 E2 LEN SUM FC x1 x2 x3
            go_roundw
            case rel => exact ⟨g2, O3.out⟩
            case measure => rw [← MM.out]; exact Nat.lt_of_le_of_lt (lst_le O3.out) hgl
        · have hkz : ¬ (k : Int) < (brs l l.length).length := by omega
          have CL : Hid (Clo l L) := fun j hb hL => by
            have hjl : j < l.length := by
              unfold isB at hb
              rcases Nat.lt_or_ge j l.length with h | h
              · exact h
              · rw [List.getElem?_eq_none h] at hb; cases hb
            have h1 := brs_at (n := l.length) hjl hb
            exact hall _ j (by have := (List.getElem?_eq_some_iff.1 h1).1; omega) h1 hL
          have e2 : wr.cell? ⟨pl, 0, none⟩ = some (.slice (some ⟨rb, 0, none⟩) l.length l.length) := hle.2.1.cell 0
          have HZ2 : Hid (BZ wr rb l.length L) := hle.2.2.2.2.2.1
          have HB2 : Hid (Below w.heap.size w wr) := hbl
          clear hle hbl hall HLE HB HZ SM d1 d2 d3 dN
          go_wp2
          go_ret
          exact ⟨rb, L, rfl, LO.out.1, HZ2.out, HLW.out, Or.inl CL.out, HB2.out⟩
    · have hb2 : ¬ pa + gm ≤ 65536 := by omega
      have hb1 : 65536 < atP l L l.length := by omega
      have BG : Hid (65536 < atP l L l.length) := hb1
      clear wz2 hb1
      generalize hpt : atP l L l.length = pt at *
      have HPT : Hid (atP l L l.length = pt) := hpt
      clear hpt
      clear HLE SM
      go_wp2
      go_ret
      exact ⟨rb, L, rfl, LO.out.1, HZ.out, HLW.out, Or.inr (by rw [HPT.out]; exact BG.out), HB.out⟩
end Go.Proofs.Ytcdeckbobabdkaa
