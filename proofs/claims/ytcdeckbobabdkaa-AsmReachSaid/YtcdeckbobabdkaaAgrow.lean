/-
  Proved: what lengthen and sumUp do: all branches that are too far become long; by how many bytes those ahead grew.
-/
import Derived.Test.YtcdeckbobabdkaaAclo
namespace Go.Proofs.Ytcdeckbobabdkaa
open Go.RowKit
set_option linter.unusedVariables false
set_option linter.unusedSimpArgs false
set_option maxRecDepth 20000

/-- Some that are too far, beside these. -/
def Grw (l : List Ln) (M L : Nat → Bool) : Prop := (∀ j, M j = true → L j = true) ∧ ∀ j, L j = true → M j = true ∨ (isB l j = true ∧ far (way l M j))

set_option maxHeartbeats 4000000 in
theorem lengthen_c (l : List Ln) (b : Bk) (M : Nat → Bool) (first : Nat) (w : World) (h : LE w l b M M) (hM : ∀ j, M j = true → isB l j = true) (hf : first ≤ (brs l l.length).length) (hsm : Sml l) (hl : l.length ≤ 1000) :
    Calls Try.prog 34 #[.slice b.A (brs l l.length).length b.C, .int .i64 (first : Int), .slice (some ⟨b.rb, 0, none⟩) l.length l.length, farV b] w fun e w' => e = .returned (.tuple #[]) ∧ ∃ L, LE w' l b L M ∧ Grw l M L ∧ (∀ k j, first ≤ k → (brs l l.length)[k]? = some j → far (way l M j) → L j = true) ∧ Kp (fun c => c = b.rb) w w' := by
  have LH : Hid (LE w l b M M) := h
  have HM : Hid (∀ j, M j = true → isB l j = true) := hM
  have SM : Hid (Sml l) := hsm
  have hm : (brs l l.length).length ≤ l.length := by rw [brs_len]; exact cn_le _ _
  clear h hM hsm
  unfold farV
  go_enter Try.func34, Try.ntmps34
  go_wp2
  go_loopw [8] (fun iv wr => ∃ (k : Nat) (L : Nat → Bool), first ≤ k ∧ k ≤ (brs l l.length).length ∧ iv = .int .i64 (k : Int) ∧ LE wr l b L M ∧ Grw l M L ∧ (∀ k' j, first ≤ k' → k' < k → (brs l l.length)[k']? = some j → far (way l M j) → L j = true) ∧ Kp (fun c => c = b.rb) w wr) (fun iv _ => (brs l l.length).length - (intOf iv).toNat)
  case atStart => exact ⟨first, M, Nat.le_refl _, hf, rfl, LH.out, ⟨fun j h => h, fun j h => Or.inl h⟩, (fun k' j h1 h2 => absurd h2 (by omega)), Kp.refl _ _⟩
  case round =>
    obtain ⟨k, L, hk0, hk, rfl, hle, hgr, hall, hkp⟩ := hrel
    rcases Nat.lt_or_ge k (brs l l.length).length with hlt | hge
    · have hkz : (k : Int) < (brs l l.length).length := by omega
      obtain ⟨j, hj⟩ : ∃ j, (brs l l.length)[k]? = some j := ⟨(brs l l.length)[k], List.getElem?_eq_getElem hlt⟩
      have hji := brs_in hj
      have FC : Hid (Calls Try.prog 33 #[.int .i64 (k : Int), .pointer (some ⟨b.pl, 0, none⟩), .pointer (some ⟨b.pb, 0, none⟩), .pointer (some ⟨b.pw, 0, none⟩)] wr fun e w' => e = .returned (.bool (!L j && decide (far (way l M j)))) ∧ ∃ m, w' = wr.drewN m) := far_c l b L M k j wr hle HM.out hj SM.out hl
      cases hfar : (!L j && decide (far (way l M j))) with
      | false =>
        rw [hfar] at FC
        have NX : Hid (∀ m, LE (wr.drewN m) l b L M ∧ Kp (fun c => c = b.rb) w (wr.drewN m)) := fun m => ⟨hle.drewN m, hkp.drewN m⟩
        have GG : Hid (Grw l M L) := hgr
        have AL : Hid (∀ k' j, first ≤ k' → k' < k + 1 → (brs l l.length)[k']? = some j → far (way l M j) → L j = true) := fun k' j' h1 h2 h3 h4 => by
          rcases Nat.lt_or_ge k' k with h5 | h5
          · exact hall k' j' h1 h5 h3 h4
          · obtain rfl : k' = k := by omega
            rw [hj] at h3
            cases h3
            cases e : L j with
            | true => rfl
            | false => rw [e] at hfar; simp [h4] at hfar
        clear hle hgr hall hkp hfar hj LH HM SM
        go_wp2_with (go_at_call 33; refine FC.out.mono ?_; rintro e w1 ⟨rfl, m1, hw1⟩; rw [hw1]; clear hw1 w1)
        go_roundw
        case rel => exact ⟨k + 1, L, by omega, by omega, by congr 1, (NX.out _).1, GG.out, AL.out, (NX.out _).2⟩
        case measure => simp [intOf]; omega
      | true =>
        rw [hfar] at FC
        rw [Bool.and_eq_true, decide_eq_true_eq] at hfar
        have ST : Hid (∀ m, LE ((wr.drewN m).setCell ⟨b.rb, j, none⟩ (.bool true)) l b (pu L j true) M ∧ Kp (fun c => c = b.rb) w ((wr.drewN m).setCell ⟨b.rb, j, none⟩ (.bool true))) := fun m => by
          obtain ⟨q1, q2⟩ := (hle.drewN m).setL hji.1 true
          exact ⟨q1, (hkp.drewN m).trans q2⟩
        have GG : Hid (Grw l M (pu L j true)) := ⟨fun i hi => by
          unfold pu
          split
          · rfl
          · exact hgr.1 i hi, fun i hi => by
          unfold pu at hi
          split at hi
          · rename_i e
            subst e
            exact Or.inr ⟨hji.2, hfar.2⟩
          · exact hgr.2 i hi⟩
        have AL : Hid (∀ k' j', first ≤ k' → k' < k + 1 → (brs l l.length)[k']? = some j' → far (way l M j') → pu L j true j' = true) := fun k' j' h1 h2 h3 h4 => by
          unfold pu
          split
          · rfl
          · rename_i e
            rcases Nat.lt_or_ge k' k with h5 | h5
            · exact hall k' j' h1 h5 h3 h4
            · obtain rfl : k' = k := by omega
              rw [hj] at h3
              cases h3
              exact absurd rfl e
        obtain ⟨h1, h2, h3, h4, h5, h6, h7, h8⟩ := hle
        obtain ⟨bb, o, hA, hbb, c0, -, -⟩ := br_cells h5 hj
        rw [hA]
        have dl : wr.cell? ⟨b.rb, j, none⟩ = some (.bool (L j)) := GZ.cell h6 j hji.1
        have fz := GZ.frozen h6 j
        have HJ : (j : Int) < (l.length : Int) := by omega
        clear hgr hall hkp hfar hj LH HM SM h1 h2 h3 h4 h5 h6 h7 h8
        go_wp2_with (go_at_call 33; refine FC.out.mono ?_; rintro e w1 ⟨rfl, m1, hw1⟩; rw [hw1]; clear hw1 w1)
        go_roundw
        case rel => exact ⟨k + 1, _, by omega, by omega, by congr 1, (ST.out _).1, GG.out, AL.out, (ST.out _).2⟩
        case measure => simp [intOf]; omega
    · have hkz : ¬ (k : Int) < (brs l l.length).length := by omega
      have FIN : Hid (∃ L, LE wr l b L M ∧ Grw l M L ∧ (∀ k j, first ≤ k → (brs l l.length)[k]? = some j → far (way l M j) → L j = true) ∧ Kp (fun c => c = b.rb) w wr) :=
        ⟨L, hle, hgr, fun k' j h1 h2 h3 => hall k' j h1 (by have := (List.getElem?_eq_some_iff.1 h2).1; omega) h2 h3, hkp⟩
      clear hle hgr hall hkp LH HM SM
      go_wp2
      go_end0
      exact ⟨rfl, Hid.out FIN⟩

set_option maxHeartbeats 4000000 in
theorem sumUp_c (l : List Ln) (b : Bk) (L M : Nat → Bool) (w : World) (h : LE w l b L M) (hl : l.length ≤ 1000) :
    Calls Try.prog 35 #[.slice b.A (brs l l.length).length b.C, .slice (some ⟨b.rb, 0, none⟩) l.length l.length, .slice (some ⟨b.gb, 0, none⟩) ((brs l l.length).length + 1) ((brs l l.length).length + 1)] w fun e w' => e = .returned (.tuple #[]) ∧ LE w' l b L L ∧ Kp (fun c => c = b.gb) w w' := by
  have hm : (brs l l.length).length ≤ l.length := by rw [brs_len]; exact cn_le _ _
  have LH : Hid (LE w l b L M) := h
  clear h
  go_enter Try.func35, Try.ntmps35
  go_wp2
  go_loopw [10] (fun iv wr => ∃ (k : Nat), k ≤ (brs l l.length).length ∧ iv = .int .i64 (k : Int) ∧ IZ wr b.gb ((brs l l.length).length + 1) (fun i => if i ≤ k then gr l l.length L i else gr l l.length M i) ∧ Kp (fun c => c = b.gb) w wr) (fun iv _ => (brs l l.length).length - (intOf iv).toNat)
  case atStart => exact ⟨0, by omega, rfl, IZ.ext LH.out.2.2.2.2.2.2.1 fun i hi => by
    split
    · obtain rfl : i = 0 := by omega
      simp [gr, gc]
    · rfl, Kp.refl _ _⟩
  case round =>
    obtain ⟨k, hk, rfl, hz, hkp⟩ := hrel
    rcases Nat.lt_or_ge k (brs l l.length).length with hlt | hge
    · have hkz : (k : Int) < (brs l l.length).length := by omega
      obtain ⟨j, hj⟩ : ∃ j, (brs l l.length)[k]? = some j := ⟨(brs l l.length)[k], List.getElem?_eq_getElem hlt⟩
      have hji := brs_in hj
      obtain ⟨h1, h2, h3, h4, h5, h6, h7, h8⟩ := LH.out
      have h5' : BrIn wr l b.A := rows_kp h5 hkp fun bb o e hp => (h8 bb o e hp).2
      obtain ⟨cs, hcs, _⟩ := id h6
      obtain ⟨ds, hds, _⟩ := id h7
      have h6' : BZ wr b.rb l.length L := GZ.kp h6 hkp (At.type hcs hds (by decide))
      have hrg : b.rb ≠ b.gb := At.type hcs hds (by decide)
      obtain ⟨bb, o, hA, hbb, c0, c1, c2⟩ := br_cells h5' hj
      have hne := (h8 bb o hA (by omega)).2
      have hst := gc_step l l.length L hj
      have i1 := gc_le l l.length L k
      have z1 : b.gb < wr.heap.size := GZ.lt hz
      have z2 : b.rb < wr.heap.size := GZ.lt h6'
      have k1 : IZ (wr.alloc (.cells (brC l j).toArray 77)) b.gb _ _ := hz.below (below_alloc wr (.cells (brC l j).toArray 77)) z1
      have d0 := GZ.cell k1 k (by omega)
      have d1 := GZ.cell k1 (k + 1) (by omega)
      have hn : ¬ k + 1 ≤ k := by omega
      simp only [Nat.le_refl, hn, if_true, if_false] at d0 d1
      have f1 := GZ.frozen k1 (k + 1)
      have KB : Hid (∀ x, IZ (wr.setCell ⟨b.gb, k + 1, none⟩ (.int .i64 x)) b.gb ((brs l l.length).length + 1) (pu (fun i => if i ≤ k then gr l l.length L i else gr l l.length M i) (k + 1) x) ∧ Kp (fun c => c = b.gb) w (wr.setCell ⟨b.gb, k + 1, none⟩ (.int .i64 x)) ∧ (wr.setCell ⟨b.gb, k + 1, none⟩ (.int .i64 x)).heap.size = wr.heap.size ∧ BZ (wr.setCell ⟨b.gb, k + 1, none⟩ (.int .i64 x)) b.rb l.length L) := fun x =>
        ⟨hz.set (k + 1) (by omega) x, hkp.trans (Kp.set (F := fun c => c = b.gb) wr (b := b.gb) (k + 1) (.int .i64 x) rfl), by simp [World.setCell], GZ.kp h6' (Kp.set (F := fun c => c = b.gb) wr (b := b.gb) (k + 1) (.int .i64 x) rfl) hrg⟩
      have NX : Hid (∀ i, i < (brs l l.length).length + 1 → pu (fun i => if i ≤ k then gr l l.length L i else gr l l.length M i) (k + 1) (gr l l.length L k + if L j then 4 else 0) i = if i ≤ k + 1 then gr l l.length L i else gr l l.length M i) := fun i hi => by
        unfold pu
        by_cases e : i = k + 1
        · subst e
          rw [if_pos rfl, if_pos (Nat.le_refl _)]
          unfold gr
          rw [hst]
          split <;> omega
        · rw [if_neg e]
          have : (i ≤ k) = (i ≤ k + 1) := by rw [eq_iff_iff]; omega
          simp only [this]
      have HK3 : (k : Int) < ((brs l l.length).length : Int) + 1 := by omega
      have HK4 : (k : Int) + 1 < ((brs l l.length).length : Int) + 1 := by omega
      have HJ : (j : Int) < (l.length : Int) := by omega
      have HG : Hid (∀ x, (wr.setCell ⟨b.gb, k + 1, none⟩ (.int .i64 x)).cell? ⟨b.rb, j, none⟩ = some (.bool (L j))) := fun x => GZ.cell (KB.out x).2.2.2 j hji.1
      have i2 : 0 ≤ gr l l.length L k ∧ gr l l.length L k ≤ 4000 := by unfold gr; omega
      clear hz hkp LH h1 h2 h3 h4 h5 h6 h7 h8 h5' h6' hcs hds hj hst i1 k1 hn
      simp only [brC] at *
      rw [hA] at *
      generalize hgl : gr l l.length L k = gl at *
      obtain ⟨g1, g2, g3, g4⟩ := KB.out gl
      have d2 := HG.out gl
      clear hgl
      cases hL : L j with
      | false =>
        rw [hL] at d2
        rw [hL] at NX
        simp only [Bool.false_eq_true, if_false, Int.add_zero] at NX
        have ZZ : Hid (IZ ((wr.setCell ⟨b.gb, k + 1, none⟩ (.int .i64 gl)).alloc (.cells #[.int .i64 (j : Int), .int .i64 (way l (fun _ => false) j), .int .i64 (cn (isB l) (goal l j) : Int)] 77)) b.gb ((brs l l.length).length + 1) (fun i => if i ≤ k + 1 then gr l l.length L i else gr l l.length M i)) := IZ.ext (g1.below (below_alloc _ _) (by omega)) NX.out
        have KK : Hid (Kp (fun c => c = b.gb) w ((wr.setCell ⟨b.gb, k + 1, none⟩ (.int .i64 gl)).alloc (.cells #[.int .i64 (j : Int), .int .i64 (way l (fun _ => false) j), .int .i64 (cn (isB l) (goal l j) : Int)] 77))) := g2.trans (Kp.of_below (below_alloc _ _))
        clear KB HG NX g1 g2 g3 g4
        go_wp2
        go_roundw
        case rel => exact ⟨k + 1, by omega, by congr 1, ZZ.out, KK.out⟩
        case measure => simp [intOf]; omega
      | true =>
        rw [hL] at d2
        rw [hL] at NX
        simp only [if_true] at NX
        have e1 : ((wr.setCell ⟨b.gb, k + 1, none⟩ (.int .i64 gl)).alloc (.cells #[.int .i64 (j : Int), .int .i64 (way l (fun _ => false) j), .int .i64 (cn (isB l) (goal l j) : Int)] 77)).cell? ⟨b.gb, k + 1, none⟩ = some (.int .i64 gl) := by
          have := GZ.cell (g1.below (below_alloc _ (.cells #[.int .i64 (j : Int), .int .i64 (way l (fun _ => false) j), .int .i64 (cn (isB l) (goal l j) : Int)] 77)) (by omega)) (k + 1) (by omega)
          simpa [pu] using this
        have f2 := GZ.frozen (g1.below (below_alloc _ (.cells #[.int .i64 (j : Int), .int .i64 (way l (fun _ => false) j), .int .i64 (cn (isB l) (goal l j) : Int)] 77)) (by omega)) (k + 1)
        have ZZ : Hid (IZ (((wr.setCell ⟨b.gb, k + 1, none⟩ (.int .i64 gl)).setCell ⟨b.gb, k + 1, none⟩ (.int .i64 (gl + 4))).alloc (.cells #[.int .i64 (j : Int), .int .i64 (way l (fun _ => false) j), .int .i64 (cn (isB l) (goal l j) : Int)] 77)) b.gb ((brs l l.length).length + 1) (fun i => if i ≤ k + 1 then gr l l.length L i else gr l l.length M i)) := IZ.ext ((IZ.set g1 (k + 1) (by omega) _).below (below_alloc _ _) (by simp [World.setCell]; omega)) fun i hi => by
          rw [← NX.out i hi]
          unfold pu
          split <;> rfl
        have KK : Hid (Kp (fun c => c = b.gb) w (((wr.setCell ⟨b.gb, k + 1, none⟩ (.int .i64 gl)).setCell ⟨b.gb, k + 1, none⟩ (.int .i64 (gl + 4))).alloc (.cells #[.int .i64 (j : Int), .int .i64 (way l (fun _ => false) j), .int .i64 (cn (isB l) (goal l j) : Int)] 77))) := (g2.trans (Kp.set (F := fun c => c = b.gb) _ (b := b.gb) (k + 1) _ rfl)).trans (Kp.of_below (below_alloc _ _))
        clear KB HG NX g1 g2 g4
        go_wp2
        go_roundw
        case rel => exact ⟨k + 1, by omega, by congr 1, ZZ.out, KK.out⟩
        case measure => simp [intOf]; omega
    · have hkz : ¬ (k : Int) < (brs l l.length).length := by omega
      have FIN : Hid (LE wr l b L L ∧ Kp (fun c => c = b.gb) w wr) := ⟨LH.out.setG hkp (IZ.ext hz fun i hi => by
        have : i ≤ k := by omega
        simp [this]), hkp⟩
      clear hz hkp LH
      go_wp2
      go_end0
      exact ⟨rfl, Hid.out FIN⟩
end Go.Proofs.Ytcdeckbobabdkaa
