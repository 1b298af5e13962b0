/-
  Proved: the Go function NumFits answers true for every three ints: what Do answers without a fault is in the type's range, and with one it is 0; adding and taking away come back; a quotient and a rest make the number again. Its arguments read afterwards as they read before.
  Conditions: the table num.shapes reads, when the call begins, as the program's own text lays it (the card ties it to that text, over the pruned copy of the project that the seat holds); nothing else beyond the given row's own.
-/
import Derived.Test.YtjcinojbbfjnjaaDoorLift
import Derived.Test.YtjcinojbbfjnjaaDoorDo
import Derived.Test.YtjcinojbbfjnjaaDoorBits
import Derived.Test.YtjcinojbbfjnjaaDoorTie
import Derived.Test.YtjcinojbbfjnjaaDoorCards
import Derived.SevenTiedAt
import Derived.Deep.RegionWith
namespace Go.Proofs.YtjcinojbbfjnjaaDoor
open Go.ChangeShapes Go.WideShapes Go.ChangeAt Go.RowKit

theorem wr_in' {k n : Int} {s : Bool} {l m : Int} (h : KK k n s l m) (v : Int) : l ≤ wr k v ∧ wr k v ≤ m := by
  obtain ⟨-, b, c, d⟩ := h
  unfold Rg at b
  rcases b with ⟨rfl, rfl, rfl⟩ | ⟨rfl, rfl, rfl⟩ | ⟨rfl, rfl, rfl⟩ | ⟨rfl, rfl, rfl⟩ | ⟨rfl, rfl, rfl⟩ | ⟨rfl, rfl, rfl⟩ | ⟨hk, rfl, rfl⟩
  · simp [wr]; omega
  · simp [wr]; omega
  · simp [wr]; omega
  · simp [wr]; omega
  · simp [wr]; omega
  · simp [wr]; omega
  · omega

/-- The ten signs, in the order of the law's list. -/
def sgn : Nat → ByteArray
  | 0 => ⟨#[43]⟩ | 1 => ⟨#[45]⟩ | 2 => ⟨#[42]⟩ | 3 => ⟨#[47]⟩ | 4 => ⟨#[37]⟩ | 5 => ⟨#[38]⟩ | 6 => ⟨#[124]⟩ | 7 => ⟨#[94]⟩ | 8 => ⟨#[60, 60]⟩ | _ => ⟨#[62, 62]⟩

/-- What Do's answer is like: a number of the range, or 0 and a fault that is not NoSign. -/
def Good (l m : Int) (e : Ending) : Prop :=
  (∃ v : Int, e = .returned (.tuple #[.int .i64 v, .int .i64 0]) ∧ l ≤ v ∧ v ≤ m) ∨ e = .returned (.tuple #[.int .i64 0, .int .i64 1]) ∨ e = .returned (.tuple #[.int .i64 0, .int .i64 2])

theorem good_fit (l m v : Int) : Good l m (.returned (.tuple #[.int .i64 (fitv l m v), .int .i64 (fitf l m v)])) := by
  by_cases hv : l ≤ v ∧ v ≤ m
  · rw [show fitv l m v = v from if_pos hv, show fitf l m v = 0 from if_pos hv]; exact .inl ⟨v, rfl, hv.1, hv.2⟩
  · rw [show fitv l m v = 0 from if_neg hv, show fitf l m v = 1 from if_neg hv]; exact .inr (.inl rfl)

theorem do_good {k n : Int} {s : Bool} {l m : Int} (i : Nat) (hi : i < 10) (a b : Int) (h : KK k n s l m) (a1 : l ≤ a) (a2 : a ≤ m) (b1 : l ≤ b) (b2 : b ≤ m) (w : World) (t : Tab w) :
    Calls Tryd.prog 17 #[.string (sgn i), .int .i64 k, .int .i64 a, .int .i64 b] w fun e w' => Good l m e ∧ Below w.heap.size w w' := by
  have hd := h.bd
  have hi' : i = 0 ∨ i = 1 ∨ i = 2 ∨ i = 3 ∨ i = 4 ∨ i = 5 ∨ i = 6 ∨ i = 7 ∨ i = 8 ∨ i = 9 := by omega
  rcases hi' with rfl | rfl | rfl | rfl | rfl | rfl | rfl | rfl | rfl | rfl
  · exact (do_add a b h a1 a2 b1 b2 w t).mono fun e w' ⟨he, hb⟩ => ⟨by rw [he]; exact good_fit _ _ _, hb⟩
  · exact (do_sub a b h a1 a2 b1 b2 w t).mono fun e w' ⟨he, hb⟩ => ⟨by rw [he]; exact good_fit _ _ _, hb⟩
  · exact (do_mul a b h a1 a2 b1 b2 w t).mono fun e w' ⟨he, hb⟩ => ⟨by rw [he]; exact good_fit _ _ _, hb⟩
  · by_cases h0 : b = 0
    · exact (do_div0 a b h a1 a2 b1 b2 h0 w t).mono fun e w' ⟨he, hb⟩ => ⟨.inr (.inr he), hb⟩
    · exact (do_div a b h a1 a2 b1 b2 h0 w t).mono fun e w' ⟨he, hb⟩ => ⟨by rw [he]; exact good_fit _ _ _, hb⟩
  · by_cases h0 : b = 0
    · exact (do_rem0 a b h a1 a2 b1 b2 h0 w t).mono fun e w' ⟨he, hb⟩ => ⟨.inr (.inr he), hb⟩
    · by_cases hq : l ≤ a.tdiv b ∧ a.tdiv b ≤ m
      · exact (do_rem a b h a1 a2 b1 b2 h0 (if_pos hq) w t).mono fun e w' ⟨he, hb⟩ => ⟨.inl ⟨_, he, by have := tmod_between a b; omega, by have := tmod_between a b; omega⟩, hb⟩
      · exact (do_remo a b h a1 a2 b1 b2 h0 (if_neg hq) w t).mono fun e w' ⟨he, hb⟩ => ⟨.inr (.inl he), hb⟩
  · have hr := bits_in h.rg h.lo h.hi .and (.inl rfl) a b a1 a2 b1 b2
    exact (do_and a b h a1 a2 b1 b2 w t).mono fun e w' ⟨he, hb⟩ => ⟨.inl ⟨_, he, hr.1, hr.2⟩, hb⟩
  · have hr := bits_in h.rg h.lo h.hi .or (.inr (.inl rfl)) a b a1 a2 b1 b2
    exact (do_or a b h a1 a2 b1 b2 w t).mono fun e w' ⟨he, hb⟩ => ⟨.inl ⟨_, he, hr.1, hr.2⟩, hb⟩
  · have hr := bits_in h.rg h.lo h.hi .xor (.inr (.inr rfl)) a b a1 a2 b1 b2
    exact (do_xor a b h a1 a2 b1 b2 w t).mono fun e w' ⟨he, hb⟩ => ⟨.inl ⟨_, he, hr.1, hr.2⟩, hb⟩
  · by_cases hs : 0 ≤ b ∧ b < n
    · have hr := wr_in' h (wrap64 (a * 2 ^ b.toNat))
      exact (do_shl a b h a1 a2 hs.1 hs.2 w t).mono fun e w' ⟨he, hb⟩ => ⟨.inl ⟨_, he, hr.1, hr.2⟩, hb⟩
    · exact (do_shlo a b h a1 a2 (by omega) w t).mono fun e w' ⟨he, hb⟩ => ⟨.inr (.inl he), hb⟩
  · by_cases hs : 0 ≤ b ∧ b < n
    · have hr := ediv_between a b.toNat
      exact (do_shr a b h a1 a2 hs.1 hs.2 w t).mono fun e w' ⟨he, hb⟩ => ⟨.inl ⟨_, he, by omega, by omega⟩, hb⟩
    · exact (do_shro a b h a1 a2 (by omega) w t).mono fun e w' ⟨he, hb⟩ => ⟨.inr (.inl he), hb⟩

/-- The signs lie in block B. -/
def Sg (w : World) (B : Nat) : Prop := B < w.heap.size ∧ ∀ i : Nat, i < 10 → w.cell? ⟨B, i, none⟩ = some (.string (sgn i))

theorem sg_alloc (w : World) : Sg (w.alloc (Obj.cells #[Value.string { data := #[43] }, Value.string { data := #[45] }, Value.string { data := #[42] }, Value.string { data := #[47] }, Value.string { data := #[37] }, Value.string { data := #[38] }, Value.string { data := #[124] }, Value.string { data := #[94] }, Value.string { data := #[60, 60] }, Value.string { data := #[62, 62] }] 9)) w.heap.size := by
  refine ⟨by simp, fun i hi => ?_⟩
  have hi' : i = 0 ∨ i = 1 ∨ i = 2 ∨ i = 3 ∨ i = 4 ∨ i = 5 ∨ i = 6 ∨ i = 7 ∨ i = 8 ∨ i = 9 := by omega
  rcases hi' with rfl | rfl | rfl | rfl | rfl | rfl | rfl | rfl | rfl | rfl <;> exact (World.cell?_alloc_at (w := w) _ _ _ _ rfl).trans rfl

theorem Sg.below {w w' : World} {B : Nat} (h : Sg w B) (hb : Below w.heap.size w w') : Sg w' B :=
  ⟨by have := hb.size; have := h.1; omega, fun i hi => (hb.cell (p := ⟨B, i, none⟩) h.1).trans (h.2 i hi)⟩

theorem tmod_abs (A C : Int) (h0 : ¬ C = 0) : (A.tmod C).natAbs < C.natAbs := by
  rw [Int.natAbs_tmod]; exact Nat.mod_lt _ (by omega)

theorem back_sum {l m A : Int} {k n : Int} {s : Bool} (h : KK k n s l m) (A1 : l ≤ A) (A2 : A ≤ m) (C : Int) : wrap64 (wrap64 (A.tdiv C * C) + A.tmod C) = A := by
  have hd := h.bd
  have e : A.tdiv C * C + A.tmod C = A := by rw [Int.mul_comm]; exact Int.mul_tdiv_add_tmod A C
  have hb := tmod_between A C
  rw [wrap64_id (x := A.tdiv C * C) (by omega) (by omega), e]
  exact wrap64_id (by omega) (by omega)

theorem div_in {l m A C : Int} {k n : Int} {s : Bool} (h : KK k n s l m) (A1 : l ≤ A) (A2 : A ≤ m) (C1 : l ≤ C) (h0 : ¬ C = 0) (h1 : ¬ C = -1) : l ≤ A.tdiv C ∧ A.tdiv C ≤ m := by
  have hd := h.bd
  by_cases hc1 : C = 1
  · subst hc1; rw [Int.tdiv_one]; omega
  have h3 : (A.tdiv C).natAbs ≤ A.natAbs / 2 := by
    rw [Int.natAbs_tdiv]
    exact Nat.div_le_div_left (by omega) (by decide)
  have hsym : l = -m - 1 ∨ l = 0 := by
    have := h.rg; unfold Rg at this; have := h.lo; have := h.hi; omega
  rcases hsym with e2 | e2
  · omega
  · have := Int.tdiv_nonneg (show 0 ≤ A by omega) (show 0 ≤ C by omega); omega


set_option maxHeartbeats 2000000 in
set_option maxRecDepth 20000 in
theorem nf_core (kind a b q k n l m A C : Int) (s : Bool) (h : KK k n s l m) (hq : bits .and .i64 kind 7 = q) (q0 : 0 ≤ q) (q7 : q ≤ 7) (hk : 3 + q % 6 = k)
    (hA : wr k a = A) (hC : wr k b = C) (A1 : l ≤ A) (A2 : A ≤ m) (C1 : l ≤ C) (C2 : C ≤ m) (w : World) (t : Tab w) :
    Calls Tryd.prog 5 #[.int .i64 kind, .int .i64 a, .int .i64 b] w fun e w' => e = .returned (.bool true) ∧ Below w.heap.size w w' := by
  have hd := h.bd
  obtain ⟨e1, e2, e3, e4, e5, e6, -⟩ := hd
  have hlm : decide (m ≤ l) = false := by simp; omega
  have hla : decide (A < l) = false := by simp; omega
  have hma : decide (m < A) = false := by simp; omega
  have hlc : decide (C < l) = false := by simp; omega
  have hmc : decide (m < C) = false := by simp; omega
  have H : Hid (KK k n s l m) := h
  have N : Hid (0 < n) := by show 0 < n; omega
  have T : Hid (Tab w) := t
  have R : Hid (Below w.heap.size w w) := Below.refl _ _
  clear h t
  go_enter Tryd.func5, Tryd.ntmps5
  go_wp2_with (first
    | (go_at_call 12; refine (int_yes H.out.sh N.out _ (Hid.out (by assumption))).mono ?_; rintro e w1 ⟨rfl, hb⟩; have R : Hid (Below w.heap.size w w1) := Below.next R.out hb; have T : Hid (Tab w1) := T.out.below hb; clear hb)
    | (go_at_call 14; refine (wrap_any _ H.out.lo H.out.hi _ (Hid.out (by assumption))).mono ?_; rintro e w1 ⟨rfl, hb⟩; have R : Hid (Below w.heap.size w w1) := Below.next R.out hb; have T : Hid (Tab w1) := T.out.below hb; clear hb)
    | (go_at_call 10; refine (range_any H.out.rg _ (Hid.out (by assumption))).mono ?_; rintro e w1 ⟨rfl, hb⟩; have R : Hid (Below w.heap.size w w1) := Below.next R.out hb; have T : Hid (Tab w1) := T.out.below hb; clear hb))
  go_loopw [63] (fun i wr => ∃ j : Nat, j ≤ 10 ∧ i = .int .i64 j ∧ Hid (Below w.heap.size w wr) ∧ Hid (Tab wr) ∧ Hid (Sg wr w1.heap.size)) (fun i _ => 10 - (intOf i).toNat)
  case atStart => exact ⟨0, by omega, rfl, R.out.alloc R.out.size _, T.out.below ((Below.refl _ _).alloc (Nat.le_refl _) _), sg_alloc _⟩
  case round =>
    obtain ⟨j, hj10, rfl, R, T, S⟩ := hrel
    clear hlm hla hma hlc hmc hq hk hA hC
    by_cases hj : j < 10
    · have hcell := S.out.2 j hj
      go_wp2_with (first
        | (go_at_call 17; refine (do_good j hj A C H.out A1 A2 C1 C2 _ (Hid.out (by assumption))).mono ?_; rintro e w2 ⟨⟨v, rfl, v1, v2⟩ | rfl | rfl, hb⟩ <;> (have R : Hid (Below w.heap.size w w2) := Below.next R.out hb; have T : Hid (Tab w2) := T.out.below hb; have S : Hid (Sg w2 w1.heap.size) := S.out.below hb; clear hb)))
      all_goals
        go_roundw
        case rel => exact ⟨j + 1, by omega, by go_num, R, T, S⟩
        case measure => simp [intOf]; omega
    · have hj' : j = 10 := by omega
      subst hj'
      rcases (show (l ≤ A + C ∧ A + C ≤ m) ∨ A + C < l ∨ (l ≤ A + C ∧ m < A + C) by omega) with hs | hs | hs
      · obtain ⟨s1, s2⟩ := hs
        have f1 : fitv l m (A + C) = A + C := if_pos ⟨s1, s2⟩
        have f2 : fitf l m (A + C) = 0 := if_pos ⟨s1, s2⟩
        have f3 : fitv l m A = A := if_pos ⟨A1, A2⟩
        have f4 : fitf l m A = 0 := if_pos ⟨A1, A2⟩
        have f5 : A + C - C = A := by omega
        go_wp2_with fail
        refine (do_add A C H.out A1 A2 C1 C2 _ (Hid.out (by assumption))).mono ?_
        rintro e w1 ⟨rfl, hb⟩; have R : Hid (Below w.heap.size w w1) := Below.next R.out hb; have T : Hid (Tab w1) := T.out.below hb; clear hb
        go_wp2_with fail
        refine (do_sub (A + C) C H.out s1 s2 C1 C2 _ (Hid.out (by assumption))).mono ?_
        rintro e w1 ⟨rfl, hb⟩; have R : Hid (Below w.heap.size w w1) := Below.next R.out hb; have T : Hid (Tab w1) := T.out.below hb; clear hb
        go_wp2_with fail
        clear f1 f2 f3 f4 f5
        by_cases h0 : C = 0
        · subst h0
          refine (do_div0 A 0 H.out A1 A2 C1 C2 rfl _ (Hid.out (by assumption))).mono ?_
          rintro e w1 ⟨rfl, hb⟩; have R : Hid (Below w.heap.size w w1) := Below.next R.out hb; have T : Hid (Tab w1) := T.out.below hb; clear hb
          go_wp2_with fail
          refine (do_rem0 A 0 H.out A1 A2 C1 C2 rfl _ (Hid.out (by assumption))).mono ?_
          rintro e w1 ⟨rfl, hb⟩; have R : Hid (Below w.heap.size w w1) := Below.next R.out hb; have T : Hid (Tab w1) := T.out.below hb; clear hb
          go_wp2_with fail
          go_ret
          exact ⟨rfl, R.out⟩
        · by_cases hq : l ≤ A.tdiv C ∧ A.tdiv C ≤ m
          · have g1 : fitv l m (A.tdiv C) = A.tdiv C := if_pos hq
            have g2 : fitf l m (A.tdiv C) = 0 := if_pos hq
            have G2 : Hid (fitf l m (A.tdiv C) = 0) := g2
            have z0 : (C == 0) = false := by simpa using h0
            refine (do_div A C H.out A1 A2 C1 C2 h0 _ (Hid.out (by assumption))).mono ?_
            rintro e w1 ⟨rfl, hb⟩; have R : Hid (Below w.heap.size w w1) := Below.next R.out hb; have T : Hid (Tab w1) := T.out.below hb; clear hb
            go_wp2_with fail
            refine (do_rem A C H.out A1 A2 C1 C2 h0 G2.out _ (Hid.out (by assumption))).mono ?_
            rintro e w1 ⟨rfl, hb⟩; have R : Hid (Below w.heap.size w w1) := Below.next R.out hb; have T : Hid (Tab w1) := T.out.below hb; clear hb
            have hsum := back_sum H.out A1 A2 C
            have hlt := tmod_abs A C h0
            by_cases hneg : C < 0
            · have r1 : A.tmod C < -C := by omega
              have r2 : -(A.tmod C) < -C := by omega
              clear hlt hq
              go_wp2_with fail
              go_ret
              exact ⟨rfl, R.out⟩
            · have r0 : -C ≤ C := by omega
              have r1 : A.tmod C < C := by omega
              have r2 : -(A.tmod C) < C := by omega
              clear hlt hq
              go_wp2_with fail
              go_ret
              exact ⟨rfl, R.out⟩
          · have hm1 : C = -1 := by
              by_cases e : C = -1
              · exact e
              · exact absurd (div_in H.out A1 A2 C1 h0 e) hq
            have g1 : fitv l m (A.tdiv C) = 0 := if_neg hq
            have g2 : fitf l m (A.tdiv C) = 1 := if_neg hq
            have G2 : Hid (fitf l m (A.tdiv C) = 1) := g2
            have z0 : (C == 0) = false := by simpa using h0
            have z1 : (C == -1) = true := by simpa using hm1
            refine (do_div A C H.out A1 A2 C1 C2 h0 _ (Hid.out (by assumption))).mono ?_
            rintro e w1 ⟨rfl, hb⟩; have R : Hid (Below w.heap.size w w1) := Below.next R.out hb; have T : Hid (Tab w1) := T.out.below hb; clear hb
            clear hm1 hq
            go_wp2_with fail
            refine (do_remo A C H.out A1 A2 C1 C2 h0 G2.out _ (Hid.out (by assumption))).mono ?_
            rintro e w1 ⟨rfl, hb⟩; have R : Hid (Below w.heap.size w w1) := Below.next R.out hb; have T : Hid (Tab w1) := T.out.below hb; clear hb
            go_wp2_with fail
            go_ret
            exact ⟨rfl, R.out⟩

      · have f1 : fitv l m (A + C) = 0 := if_neg (by omega)
        have f2 : fitf l m (A + C) = 1 := if_neg (by omega)
        have f3 : decide (l ≤ A + C) = false := by simp; omega
        go_wp2_with fail
        refine (do_add A C H.out A1 A2 C1 C2 _ (Hid.out (by assumption))).mono ?_
        rintro e w1 ⟨rfl, hb⟩; have R : Hid (Below w.heap.size w w1) := Below.next R.out hb; have T : Hid (Tab w1) := T.out.below hb; clear hb
        go_wp2_with fail
        clear f1 f2 f3 hs
        by_cases h0 : C = 0
        · subst h0
          refine (do_div0 A 0 H.out A1 A2 C1 C2 rfl _ (Hid.out (by assumption))).mono ?_
          rintro e w1 ⟨rfl, hb⟩; have R : Hid (Below w.heap.size w w1) := Below.next R.out hb; have T : Hid (Tab w1) := T.out.below hb; clear hb
          go_wp2_with fail
          refine (do_rem0 A 0 H.out A1 A2 C1 C2 rfl _ (Hid.out (by assumption))).mono ?_
          rintro e w1 ⟨rfl, hb⟩; have R : Hid (Below w.heap.size w w1) := Below.next R.out hb; have T : Hid (Tab w1) := T.out.below hb; clear hb
          go_wp2_with fail
          go_ret
          exact ⟨rfl, R.out⟩
        · by_cases hq : l ≤ A.tdiv C ∧ A.tdiv C ≤ m
          · have g1 : fitv l m (A.tdiv C) = A.tdiv C := if_pos hq
            have g2 : fitf l m (A.tdiv C) = 0 := if_pos hq
            have G2 : Hid (fitf l m (A.tdiv C) = 0) := g2
            have z0 : (C == 0) = false := by simpa using h0
            refine (do_div A C H.out A1 A2 C1 C2 h0 _ (Hid.out (by assumption))).mono ?_
            rintro e w1 ⟨rfl, hb⟩; have R : Hid (Below w.heap.size w w1) := Below.next R.out hb; have T : Hid (Tab w1) := T.out.below hb; clear hb
            go_wp2_with fail
            refine (do_rem A C H.out A1 A2 C1 C2 h0 G2.out _ (Hid.out (by assumption))).mono ?_
            rintro e w1 ⟨rfl, hb⟩; have R : Hid (Below w.heap.size w w1) := Below.next R.out hb; have T : Hid (Tab w1) := T.out.below hb; clear hb
            have hsum := back_sum H.out A1 A2 C
            have hlt := tmod_abs A C h0
            by_cases hneg : C < 0
            · have r1 : A.tmod C < -C := by omega
              have r2 : -(A.tmod C) < -C := by omega
              clear hlt hq
              go_wp2_with fail
              go_ret
              exact ⟨rfl, R.out⟩
            · have r0 : -C ≤ C := by omega
              have r1 : A.tmod C < C := by omega
              have r2 : -(A.tmod C) < C := by omega
              clear hlt hq
              go_wp2_with fail
              go_ret
              exact ⟨rfl, R.out⟩
          · have hm1 : C = -1 := by
              by_cases e : C = -1
              · exact e
              · exact absurd (div_in H.out A1 A2 C1 h0 e) hq
            have g1 : fitv l m (A.tdiv C) = 0 := if_neg hq
            have g2 : fitf l m (A.tdiv C) = 1 := if_neg hq
            have G2 : Hid (fitf l m (A.tdiv C) = 1) := g2
            have z0 : (C == 0) = false := by simpa using h0
            have z1 : (C == -1) = true := by simpa using hm1
            refine (do_div A C H.out A1 A2 C1 C2 h0 _ (Hid.out (by assumption))).mono ?_
            rintro e w1 ⟨rfl, hb⟩; have R : Hid (Below w.heap.size w w1) := Below.next R.out hb; have T : Hid (Tab w1) := T.out.below hb; clear hb
            clear hm1 hq
            go_wp2_with fail
            refine (do_remo A C H.out A1 A2 C1 C2 h0 G2.out _ (Hid.out (by assumption))).mono ?_
            rintro e w1 ⟨rfl, hb⟩; have R : Hid (Below w.heap.size w w1) := Below.next R.out hb; have T : Hid (Tab w1) := T.out.below hb; clear hb
            go_wp2_with fail
            go_ret
            exact ⟨rfl, R.out⟩

      · obtain ⟨s1, s2⟩ := hs
        have f1 : fitv l m (A + C) = 0 := if_neg (by omega)
        have f2 : fitf l m (A + C) = 1 := if_neg (by omega)
        have f3 : decide (A + C ≤ m) = false := by simp; omega
        go_wp2_with fail
        refine (do_add A C H.out A1 A2 C1 C2 _ (Hid.out (by assumption))).mono ?_
        rintro e w1 ⟨rfl, hb⟩; have R : Hid (Below w.heap.size w w1) := Below.next R.out hb; have T : Hid (Tab w1) := T.out.below hb; clear hb
        go_wp2_with fail
        clear f1 f2 f3 s1 s2
        by_cases h0 : C = 0
        · subst h0
          refine (do_div0 A 0 H.out A1 A2 C1 C2 rfl _ (Hid.out (by assumption))).mono ?_
          rintro e w1 ⟨rfl, hb⟩; have R : Hid (Below w.heap.size w w1) := Below.next R.out hb; have T : Hid (Tab w1) := T.out.below hb; clear hb
          go_wp2_with fail
          refine (do_rem0 A 0 H.out A1 A2 C1 C2 rfl _ (Hid.out (by assumption))).mono ?_
          rintro e w1 ⟨rfl, hb⟩; have R : Hid (Below w.heap.size w w1) := Below.next R.out hb; have T : Hid (Tab w1) := T.out.below hb; clear hb
          go_wp2_with fail
          go_ret
          exact ⟨rfl, R.out⟩
        · by_cases hq : l ≤ A.tdiv C ∧ A.tdiv C ≤ m
          · have g1 : fitv l m (A.tdiv C) = A.tdiv C := if_pos hq
            have g2 : fitf l m (A.tdiv C) = 0 := if_pos hq
            have G2 : Hid (fitf l m (A.tdiv C) = 0) := g2
            have z0 : (C == 0) = false := by simpa using h0
            refine (do_div A C H.out A1 A2 C1 C2 h0 _ (Hid.out (by assumption))).mono ?_
            rintro e w1 ⟨rfl, hb⟩; have R : Hid (Below w.heap.size w w1) := Below.next R.out hb; have T : Hid (Tab w1) := T.out.below hb; clear hb
            go_wp2_with fail
            refine (do_rem A C H.out A1 A2 C1 C2 h0 G2.out _ (Hid.out (by assumption))).mono ?_
            rintro e w1 ⟨rfl, hb⟩; have R : Hid (Below w.heap.size w w1) := Below.next R.out hb; have T : Hid (Tab w1) := T.out.below hb; clear hb
            have hsum := back_sum H.out A1 A2 C
            have hlt := tmod_abs A C h0
            by_cases hneg : C < 0
            · have r1 : A.tmod C < -C := by omega
              have r2 : -(A.tmod C) < -C := by omega
              clear hlt hq
              go_wp2_with fail
              go_ret
              exact ⟨rfl, R.out⟩
            · have r0 : -C ≤ C := by omega
              have r1 : A.tmod C < C := by omega
              have r2 : -(A.tmod C) < C := by omega
              clear hlt hq
              go_wp2_with fail
              go_ret
              exact ⟨rfl, R.out⟩
          · have hm1 : C = -1 := by
              by_cases e : C = -1
              · exact e
              · exact absurd (div_in H.out A1 A2 C1 h0 e) hq
            have g1 : fitv l m (A.tdiv C) = 0 := if_neg hq
            have g2 : fitf l m (A.tdiv C) = 1 := if_neg hq
            have G2 : Hid (fitf l m (A.tdiv C) = 1) := g2
            have z0 : (C == 0) = false := by simpa using h0
            have z1 : (C == -1) = true := by simpa using hm1
            refine (do_div A C H.out A1 A2 C1 C2 h0 _ (Hid.out (by assumption))).mono ?_
            rintro e w1 ⟨rfl, hb⟩; have R : Hid (Below w.heap.size w w1) := Below.next R.out hb; have T : Hid (Tab w1) := T.out.below hb; clear hb
            clear hm1 hq
            go_wp2_with fail
            refine (do_remo A C H.out A1 A2 C1 C2 h0 G2.out _ (Hid.out (by assumption))).mono ?_
            rintro e w1 ⟨rfl, hb⟩; have R : Hid (Below w.heap.size w w1) := Below.next R.out hb; have T : Hid (Tab w1) := T.out.below hb; clear hb
            go_wp2_with fail
            go_ret
            exact ⟨rfl, R.out⟩


theorem and7' (v : Int) : bits .and .i64 v 7 = v % 8 := and_mask v 3 (by decide)

theorem numFits_walk (kind a b : Int) (_ : (Lit.int .i64 kind).wf = true) (_ : (Lit.int .i64 a).wf = true) (_ : (Lit.int .i64 b).wf = true) (w : World) (t : Tab w) :
    Calls Tryd.prog 5 #[.int .i64 kind, .int .i64 a, .int .i64 b] w fun e w' => e = .returned (.bool true) ∧ Below w.heap.size w w' := by
  obtain ⟨n, s, l, m, h⟩ := KK.ex (k := 3 + (kind % 8) % 6) (by omega) (by omega)
  have hA := wr_in' h a
  have hC := wr_in' h b
  exact nf_core kind a b (kind % 8) (3 + (kind % 8) % 6) n l m _ _ s h (and7' kind) (by omega) (by omega) rfl rfl rfl hA.1 hA.2 hC.1 hC.2 w t

set_option maxRecDepth 100000 in
theorem numFits_lifted (os : Os) (started : os.Started) (H : Type) (enc : TypeId × Value → H) :
    ReturnsInHanded {} Tryd.checked os 5 .any (fun w args => (Rows.numFitsSpec.pre enc Tryd.prog Tryd.f5 [] false w args ∧ laidMetH Tryd.prog laid1 w) ∧ sizedMet enc Tryd.prog Tryd.f5 (OpenSpec.ofChange Rows.numFitsSpec) false w args)
      (Rows.numFitsSpec.post enc Tryd.prog Tryd.f5 false true false false) := by
  refine returnsInHanded_of_change_and (C := Tryd.checked) (X := fun w _ => laidMetH Tryd.prog laid1 w) (fun _ _ _ hh h => h.of_heap hh) own started (by kernel_rfl) Tryd.func5
    (ChangeSpec.witness_shaped (enc := enc) (C := Tryd.checked) (os := os) (X := fun w _ => laidMetH Tryd.prog laid1 w) false (World.doorLaid Tryd.prog 400 os) #[.int .i64 0, .int .i64 0, .int .i64 0] 8 rfl (World.shaped_of_RefB (by kernel_rfl) (by kernel_rfl)) (by kernel_rfl) (by kernel_rfl) (by kernel_rfl) (door_met os _)) ?_
  intro W base args ds gs before hval0 hW _ _ hL _
  have hval : ∀ (j : Nat) t v, Tryd.f5.params[j]? = some t → args[j]? = some v → Value.okWide Tryd.prog W .any base t v := hval0
  have hW' := hW
  obtain ⟨p, q, hA0, hV, rfl, hfz, hnd⟩ := hW
  have hA : DataW.TrodAll enc Tryd.prog W 0 (fun _ => true) true Tryd.f5.params.toList args.toList ds p := hA0
  rw [Tryd.params5] at hA hval
  obtain ⟨v0, vs0, d0, ds0, p0, q0, hargs, rfl, rfl, h0, r0⟩ := trodAll_cons hA
  obtain ⟨v1, vs1, d1, ds1, p1, q1, rfl, rfl, rfl, h1, r1⟩ := trodAll_cons r0
  obtain ⟨v2, vs2, d2, ds2, p2, q2, rfl, rfl, rfl, h2, r2⟩ := trodAll_cons r1
  obtain ⟨rfl, rfl, rfl⟩ := trodAll_nil r2
  obtain rfl : args = #[v0, v1, v2] := by cases args; simp_all
  obtain ⟨rfl, rfl⟩ := trodVars_none hV
  obtain ⟨a0, rfl, rfl, rfl, w0⟩ := open_int Tryd.underlying3 (hval 0 3 v0 rfl rfl) h0
  obtain ⟨a1, rfl, rfl, rfl, w1⟩ := open_int Tryd.underlying3 (hval 1 3 v1 rfl rfl) h1
  obtain ⟨a2, rfl, rfl, rfl, w2⟩ := open_int Tryd.underlying3 (hval 2 3 v2 rfl rfl) h2
  clear hA0 hval0
  simp only [List.append_nil] at hW'
  refine (numFits_walk a0 a1 a2 w0 w1 w2 W (of_laid hL)).mono fun e W' ⟨he, hg⟩ => ?_
  subst he
  exact ⟨_, rfl, _, _, _, [], [], [], hW', (trodAll_cons_mk (shut_bool Tryd.underlying4 _) trodAll_mk0), (trodAll_cons_mk (shut_int Tryd.underlying3 w0) (trodAll_cons_mk (shut_int Tryd.underlying3 w1) (trodAll_cons_mk (shut_int Tryd.underlying3 w2) trodAll_mk0))), rfl, hg.frame _, fun h => by cases h⟩

theorem numFits_row : Rows.NumFitsSaid :=
  OpenClaim.holds_of_wide 5 Tryd.f5 rfl rfl rfl rfl rfl rfl rfl ⟨rfl, rfl, rfl, rfl, rfl⟩ rfl rfl rfl rfl rfl (by kernel_rfl) Tryd.func5 (by kernel_rfl)
    (of_decide_eq_true (by kernel_rfl)) (by unfold Func.isWrapper; first | (rw [if_pos (by decide +kernel)]; kernel_rfl) | (rw [if_neg (by decide +kernel)]; exact ⟨rfl, rfl⟩))
    (fun os started H enc _ => numFits_lifted os started H enc)

theorem numFits_holds : Rows.NumFitsCardSaid :=
  Claim7.holds_tied_plain_at .later [] [.data] true (true, "302cc928f815ed1bdd036c7b84ed4e8f37c164cd36297476f1d171a20a166aa9") false
    numFits_row (fun _ h => by cases h) (by kernel_rfl) (fun _ h => by cases h) numFits_row_tie rfl ⟨rfl, rfl⟩ (by kernel_rfl) rfl
    (fun f fn hf hfn => by
      obtain rfl : f = 5 := Option.some.inj ((show Tryd.prog.funcNamed "ferrule/ferrulelaw01.NumFits" = some 5 by kernel_rfl).symm.trans hf) |>.symm
      obtain rfl : fn = Tryd.f5 := (Option.some.inj (Tryd.func5.symm.trans hfn)).symm
      exact ⟨by kernel_rfl, fun j t ht => by
        rw [Tryd.params5] at ht
        have hm : t ∈ [3, 3, 3] := by simpa using Array.mem_of_getElem? ht
        have hall : ([3, 3, 3].all fun u => !Tryd.prog.wantsStandIn u) = true := by kernel_rfl
        exact (show Tryd.prog.wantsStandIn t = false by simpa using List.all_eq_true.1 hall t (by simpa using hm))⟩)
    (by kernel_rfl)
#print axioms numFits_holds
end Go.Proofs.YtjcinojbbfjnjaaDoor
