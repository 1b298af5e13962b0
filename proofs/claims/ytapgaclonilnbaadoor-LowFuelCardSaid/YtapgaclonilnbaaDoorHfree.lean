/-
  Proved: what heap.Free answers, and which blocks are in use then.
-/
import Derived.Test.YtapgaclonilnbaaDoorHalloc
namespace Go.Proofs.YtapgaclonilnbaaDoor
open Go.RowKit

/-- An address's block, and how far behind its beginning it lies. -/
def kOf (x : Int) (c : Nat) : Nat := ((x - st c) / (4 * (sz c : Int))).toNat
def rOf (x : Int) (c : Nat) : Nat := ((x - st c) % (4 * (sz c : Int))).toNat

theorem k_of (x : Int) (c : Nat) (h : atP x c = true) : (x - st c) / (4 * (sz c : Int)) = (kOf x c : Int) ∧ kOf x c < bl c ∧ (x - st c) % (4 * (sz c : Int)) = (rOf x c : Int) ∧ rOf x c < 4 * sz c := by
  simp only [atP, Bool.and_eq_true, decide_eq_true_eq] at h
  have hz := span_le c
  have h0 : 0 ≤ (x - st c) / (4 * (sz c : Int)) := Int.ediv_nonneg (by omega) (by omega)
  have h1 : (x - st c) / (4 * (sz c : Int)) < bl c := Int.ediv_lt_of_lt_mul (by omega) (by omega)
  have h2 : 0 ≤ (x - st c) % (4 * (sz c : Int)) := Int.emod_nonneg _ (by omega)
  have h3 : (x - st c) % (4 * (sz c : Int)) < 4 * (sz c : Int) := Int.emod_lt_of_pos _ (by omega)
  unfold kOf rOf
  omega

/-- What Free answers, and which blocks are in use then. -/
def frR (us : Nat → Nat → Bool) (c k r : Nat) : Int × (Nat → Nat → Bool) := if r = 0 ∧ us c k = true then (0, upd us c k false) else (13, us)

def frA (us : Nat → Nat → Bool) (x : Int) : Option Nat → Int × (Nat → Nat → Bool)
  | none => (13, us)
  | some c => frR us c (kOf x c) (rOf x c)

set_option maxHeartbeats 1000000 in
set_option maxHeartbeats 1000000 in
set_option maxHeartbeats 1000000 in
set_option maxHeartbeats 1000000 in
theorem free_c {w : World} {hb : Nat} {g : Nat → Nat} {us : Nat → Nat → Bool} (h : HIn w hb g us) (x : Int) (ht : Tab w) : Calls Tryd.prog 56 #[.pointer (some ⟨hb, 0, none⟩), .int .i64 x] w fun e w' =>
    e = .returned (.int .i64 (frA us x (atOf x)).1) ∧ HIn w' hb g (frA us x (atOf x)).2 ∧ Kp (Gs g) w w' := by
  have H : Hid (HIn w hb g us) := h
  have T : Hid (Tab w) := ht
  have L := ff_lt (atP x) 4 0
  change ∀ i, atOf x = some i → _ at L
  have CL : Hid (∀ w, Tab w → Calls Tryd.prog 61 #[.int .i64 x] w fun e w' => e = .returned (placeV x (atOf x)) ∧ Below w.heap.size w w') := fun w ht => find_c x w ht
  clear h ht
  generalize atOf x = R at *
  cases R with
  | none =>
    unfold placeV at CL
    go_enter Tryd.func56, Tryd.ntmps56
    go_wp2_with (first
      | (go_at_call 60; refine (made_c H.out).mono ?_; rintro e w0 ⟨rfl, hw⟩; rw [hw]; clear hw w0)
      | (go_at_call 61; refine (CL.out _ T.out).mono ?_; rintro e w1 ⟨rfl, he⟩; have NN : Hid (Below w.heap.size w w1) := he; clear he))
    have hP : At (w1.alloc (.cells #[.int .i64 0, .int .i64 0, .int .i64 0] 121)) w1.heap.size #[.int .i64 0, .int .i64 0, .int .i64 0] 121 := At.new _ _ _
    have N2 : Hid (Below w.heap.size w (w1.alloc (.cells #[.int .i64 0, .int .i64 0, .int .i64 0] 121))) := below_next NN.out (below_alloc _ _)
    have H2 : Hid (HIn (w1.alloc (.cells #[.int .i64 0, .int .i64 0, .int .i64 0] 121)) hb g us) := H.out.below N2.out
    have hn1 : hb < w1.heap.size := Nat.lt_of_lt_of_le H.out.head.lt NN.out.size
    generalize w1.alloc (.cells #[.int .i64 0, .int .i64 0, .int .i64 0] 121) = w2 at *
    have p0 := hP.cell 0
    have p1 := hP.cell 1
    have p2 := hP.cell 2
    simp at p0 p1 p2
    clear hP
    go_quiet (fail)
    go_wp2
    go_ret
    exact ⟨rfl, H2.out.below (below_drewN _ _), (Kp.of_below N2.out).drewN _⟩
  | some c =>
    have hc := (L c rfl).2.1
    obtain ⟨e1, e2, e3, e4⟩ := k_of x c (L c rfl).2.2
    clear L
    unfold placeV at CL
    simp only [e1, e3] at CL
    show Calls Tryd.prog 56 #[.pointer (some ⟨hb, 0, none⟩), .int .i64 x] w fun e w' => e = .returned (.int .i64 (frR us c (kOf x c) (rOf x c)).1) ∧ HIn w' hb g (frR us c (kOf x c) (rOf x c)).2 ∧ Kp (Gs g) w w'
    clear e1 e3
    generalize kOf x c = k at *
    generalize rOf x c = r at *
    have hcz : (c : Int) < 4 := by omega
    have hkz : (k : Int) < bl c := by omega
    have hbl := span_le c
    go_enter Tryd.func56, Tryd.ntmps56
    go_wp2_with (first
      | (go_at_call 60; refine (made_c H.out).mono ?_; rintro e w0 ⟨rfl, hw⟩; rw [hw]; clear hw w0)
      | (go_at_call 61; refine (CL.out _ T.out).mono ?_; rintro e w1 ⟨rfl, he⟩; have NN : Hid (Below w.heap.size w w1) := he; clear he))
    have hP : At (w1.alloc (.cells #[.int .i64 (c : Int), .int .i64 (k : Int), .int .i64 (r : Int)] 121)) w1.heap.size #[.int .i64 (c : Int), .int .i64 (k : Int), .int .i64 (r : Int)] 121 := At.new _ _ _
    have N2 : Hid (Below w.heap.size w (w1.alloc (.cells #[.int .i64 (c : Int), .int .i64 (k : Int), .int .i64 (r : Int)] 121))) := below_next NN.out (below_alloc _ _)
    have H2 : Hid (HIn (w1.alloc (.cells #[.int .i64 (c : Int), .int .i64 (k : Int), .int .i64 (r : Int)] 121)) hb g us) := H.out.below N2.out
    have hn1 : hb < w1.heap.size := Nat.lt_of_lt_of_le H.out.head.lt NN.out.size
    generalize w1.alloc (.cells #[.int .i64 (c : Int), .int .i64 (k : Int), .int .i64 (r : Int)] 121) = w2 at *
    have p0 := hP.cell 0
    have p1 := hP.cell 1
    have p2 := hP.cell 2
    simp at p0 p1 p2
    clear hP
    have hh : w2.cell? ⟨hb, c, none⟩ = some (.slice (some ⟨g c, 0, none⟩) (bl c) (bl c)) := H2.out.cell (by omega)
    have hbit : w2.cell? ⟨g c, k, none⟩ = some (.bool (us c k)) := H2.out.bit (by omega) e2
    have hfz := (H2.out.rows c (by omega)).frozen k
    have hlt := (H2.out.rows c (by omega)).lt
    have hn2 : hb ≠ g c := Nat.ne_of_lt (H2.out.after c (by omega))
    have hn3 : w1.heap.size ≠ g c := Nat.ne_of_gt (Nat.lt_of_lt_of_le (H.out.rows c (by omega)).lt NN.out.size)
    by_cases hr : r = 0
    · subst hr
      generalize hu : us c k = u at hbit
      cases u with
      | false =>
        have FR : frR us c k 0 = (13, us) := by simp [frR, hu]
        go_quiet (fail)
        go_wp2
        go_ret
        exact ⟨by rw [FR]; rfl, by rw [FR]; exact H2.out.below (below_drewN _ _), (Kp.of_below N2.out).drewN _⟩
      | true =>
        have FR : frR us c k 0 = (0, upd us c k false) := by simp [frR, hu]
        go_quiet (fail)
        go_wp2
        have S1 : Hid ((w2.drewN nq).drew.cell? ⟨w1.heap.size, 0, none⟩ = some (.int .i64 (c : Int)) ∧ (w2.drewN nq).drew.cell? ⟨w1.heap.size, 1, none⟩ = some (.int .i64 (k : Int)) ∧ (w2.drewN nq).drew.cell? ⟨hb, c, none⟩ = some (.slice (some ⟨g c, 0, none⟩) (bl c) (bl c))) := ⟨p0, p1, hh⟩
        have S2 : Hid (∀ (W : World) (v : Value), (W.cell? ⟨w1.heap.size, 0, none⟩ = some (.int .i64 (c : Int)) ∧ W.cell? ⟨w1.heap.size, 1, none⟩ = some (.int .i64 (k : Int)) ∧ W.cell? ⟨hb, c, none⟩ = some (.slice (some ⟨g c, 0, none⟩) (bl c) (bl c))) → ((W.setCell ⟨g c, k, none⟩ v).cell? ⟨w1.heap.size, 0, none⟩ = some (.int .i64 (c : Int)) ∧ (W.setCell ⟨g c, k, none⟩ v).cell? ⟨w1.heap.size, 1, none⟩ = some (.int .i64 (k : Int)) ∧ (W.setCell ⟨g c, k, none⟩ v).cell? ⟨hb, c, none⟩ = some (.slice (some ⟨g c, 0, none⟩) (bl c) (bl c)))) := fun W v h => ⟨by rw [World.cell?_setCell_far _ _ _ _ (Ne.symm hn3)]; exact h.1, by rw [World.cell?_setCell_far _ _ _ _ (Ne.symm hn3)]; exact h.2.1, by rw [World.cell?_setCell_far _ _ _ _ (Ne.symm hn2)]; exact h.2.2⟩
        go_region_held3 (fun w' => w'.cell? ⟨w1.heap.size, 0, none⟩ = some (.int .i64 (c : Int)) ∧ w'.cell? ⟨w1.heap.size, 1, none⟩ = some (.int .i64 (k : Int)) ∧ w'.cell? ⟨hb, c, none⟩ = some (.slice (some ⟨g c, 0, none⟩) (bl c) (bl c)))
          (first | exact S1.out | exact S2.out _ _ (by assumption) | exact S2.out _ _ S1.out) (fail)
        all_goals go_wp2
        go_ret
        exact ⟨by rw [FR]; rfl, by rw [FR]; exact (H2.out.below (below_drewN _ _)).set (by omega) k false, ((Kp.of_below N2.out).drewN _).trans (Kp.set _ k _ ⟨c, by omega, rfl⟩)⟩
    · have FR : frR us c k r = (13, us) := by simp [frR, hr]
      have hrz : ((r : Int) == 0) = false := by simpa using hr
      go_quiet (fail)
      go_wp2
      go_ret
      exact ⟨by rw [FR]; rfl, by rw [FR]; exact H2.out.below (below_drewN _ _), (Kp.of_below N2.out).drewN _⟩
end Go.Proofs.YtapgaclonilnbaaDoor
