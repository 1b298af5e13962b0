/-
  Proved: the Go function NumShifts answers true for every three ints: a number of an integer type that is shifted to the left and back keeps the bits that were not lost; by nothing it is itself; by as many bits as there are it is a fault. Its arguments read afterwards as they read before.
  Conditions: the table num.shapes reads, when the call begins, as the program's own text lays it (the card ties it to that text, over the pruned copy of the project that the seat holds); nothing else beyond the given row's own.
-/
import Derived.Test.YtjcinojbbfjnjaaDoorLift
import Derived.Test.YtjcinojbbfjnjaaDoorDo
import Derived.Test.YtjcinojbbfjnjaaDoorTie
import Derived.Test.YtjcinojbbfjnjaaDoorCards
import Derived.SevenTiedAt
import Derived.Deep.RegionWith
namespace Go.Proofs.YtjcinojbbfjnjaaDoor
open Go.ChangeShapes Go.WideShapes Go.ChangeAt Go.RowKit


theorem and7 (v : Int) : bits .and .i64 v 7 = v % 8 := and_mask v 3 (by decide)

theorem wr_cong {k n : Int} {s : Bool} {l m : Int} (h : KK k n s l m) (v : Int) : ∃ j, wr k (wrap64 v) = v + j * 2 ^ n.toNat := by
  obtain ⟨a, -, c, d⟩ := h
  unfold Sh at a
  have a' : (k = 3 ∧ n = 8) ∨ (k = 4 ∧ n = 16) ∨ (k = 5 ∧ n = 32) ∨ (k = 6 ∧ n = 8) ∨ (k = 7 ∧ n = 16) ∨ (k = 8 ∧ n = 32) := by omega
  rcases a' with ⟨rfl, rfl⟩ | ⟨rfl, rfl⟩ | ⟨rfl, rfl⟩ | ⟨rfl, rfl⟩ | ⟨rfl, rfl⟩ | ⟨rfl, rfl⟩
  · refine ⟨(wr 3 (wrap64 v) - v) / 256, ?_⟩
    have : (wr 3 (wrap64 v) - v) % 256 = 0 := by simp only [wr, wrap64]; simp; omega
    rw [show (2 : Int) ^ Int.toNat 8 = 256 from rfl]; omega
  · refine ⟨(wr 4 (wrap64 v) - v) / 65536, ?_⟩
    have : (wr 4 (wrap64 v) - v) % 65536 = 0 := by simp only [wr, wrap64]; simp; omega
    rw [show (2 : Int) ^ Int.toNat 16 = 65536 from rfl]; omega
  · refine ⟨(wr 5 (wrap64 v) - v) / 4294967296, ?_⟩
    have : (wr 5 (wrap64 v) - v) % 4294967296 = 0 := by simp only [wr, wrap64]; simp; omega
    rw [show (2 : Int) ^ Int.toNat 32 = 4294967296 from rfl]; omega
  · refine ⟨(wr 6 (wrap64 v) - v) / 256, ?_⟩
    have : (wr 6 (wrap64 v) - v) % 256 = 0 := by simp only [wr, wrap64]; simp; omega
    rw [show (2 : Int) ^ Int.toNat 8 = 256 from rfl]; omega
  · refine ⟨(wr 7 (wrap64 v) - v) / 65536, ?_⟩
    have : (wr 7 (wrap64 v) - v) % 65536 = 0 := by simp only [wr, wrap64]; simp; omega
    rw [show (2 : Int) ^ Int.toNat 16 = 65536 from rfl]; omega
  · refine ⟨(wr 8 (wrap64 v) - v) / 4294967296, ?_⟩
    have : (wr 8 (wrap64 v) - v) % 4294967296 = 0 := by simp only [wr, wrap64]; simp; omega
    rw [show (2 : Int) ^ Int.toNat 32 = 4294967296 from rfl]; omega

theorem wr_in {k n : Int} {s : Bool} {l m : Int} (h : KK k n s l m) (v : Int) : l ≤ wr k v ∧ wr k v ≤ m := by
  obtain ⟨-, b, c, d⟩ := h
  unfold Rg at b
  rcases b with ⟨rfl, rfl, rfl⟩ | ⟨rfl, rfl, rfl⟩ | ⟨rfl, rfl, rfl⟩ | ⟨rfl, rfl, rfl⟩ | ⟨rfl, rfl, rfl⟩ | ⟨rfl, rfl, rfl⟩ | ⟨hk, rfl, rfl⟩
  · simp [wr]; omega
  · simp [wr]; omega
  · simp [wr]; omega
  · simp [wr]; omega
  · simp [wr]; omega
  · simp [wr]; omega
  · omega

theorem wr_id {k n : Int} {s : Bool} {l m : Int} (h : KK k n s l m) (v : Int) (h1 : l ≤ v) (h2 : v ≤ m) : wr k v = v := by
  obtain ⟨-, b, c, d⟩ := h
  unfold Rg at b
  rcases b with ⟨rfl, rfl, rfl⟩ | ⟨rfl, rfl, rfl⟩ | ⟨rfl, rfl, rfl⟩ | ⟨rfl, rfl, rfl⟩ | ⟨rfl, rfl, rfl⟩ | ⟨rfl, rfl, rfl⟩ | ⟨hk, rfl, rfl⟩
  · simp [wr]; omega
  · simp [wr]; omega
  · simp [wr]; omega
  · simp [wr]; omega
  · simp [wr]; omega
  · simp [wr]; omega
  · omega

theorem wr_neg {k n : Int} {s : Bool} {l m : Int} (h : KK k n s l m) : (s == decide (wr k (-1) < 0)) = true := by
  obtain ⟨a, -, c, d⟩ := h
  unfold Sh at a
  rcases a with ⟨rfl, rfl, rfl⟩ | ⟨rfl, rfl, rfl⟩ | ⟨rfl, rfl, rfl⟩ | ⟨rfl, rfl, rfl⟩ | ⟨rfl, rfl, rfl⟩ | ⟨rfl, rfl, rfl⟩ | ⟨rfl, rfl, rfl⟩ | ⟨rfl, rfl, rfl⟩ | ⟨rfl, rfl, rfl⟩ | ⟨hk, rfl, rfl⟩ | ⟨hk, rfl, rfl⟩
  all_goals first | (exfalso; omega) | (simp [wr])

theorem low_bits {k n : Int} {s : Bool} {l m : Int} (h : KK k n s l m) (A c : Int) (c0 : 0 ≤ c) (cn : c < n) :
    bits .and .i64 (wrap64 (wr k (wrap64 (A * 2 ^ c.toNat)) / 2 ^ c.toNat - A)) (wrap64 (wrap64 (2 ^ (n - c).toNat) - 1)) = 0 := by
  have hd := h.bd
  obtain ⟨C, rfl⟩ : ∃ C : Nat, c = C := ⟨c.toNat, by omega⟩
  obtain ⟨N, hN⟩ : ∃ N : Nat, n - C = N := ⟨(n - C).toNat, by omega⟩
  have hn : n.toNat = N + C := by omega
  obtain ⟨j, hj⟩ := wr_cong h (A * 2 ^ (C : Int).toNat)
  rw [hj, hN, hn]
  simp only [Int.toNat_natCast]
  have p0 : (0 : Int) < 2 ^ N := Int.pow_pos (by decide)
  have q0 : (2 : Int) ^ C ≠ 0 := by have : (0 : Int) < 2 ^ C := Int.pow_pos (by decide); omega
  have p1 : (2 : Int) ^ N ≤ 4294967296 := by
    have : (2 : Nat) ^ N ≤ 2 ^ 32 := Nat.pow_le_pow_right (by decide) (by omega)
    have e : ((2 ^ N : Nat) : Int) = (2 : Int) ^ N := by simp
    omega
  rw [wrap64_id (x := 2 ^ N) (by omega) (by omega), wrap64_id (x := 2 ^ N - 1) (by omega) (by omega), and_mask _ N (by omega)]
  have e1 : A * 2 ^ C + j * 2 ^ (N + C) = (A + j * 2 ^ N) * 2 ^ C := by rw [Int.pow_add, Int.add_mul, Int.mul_assoc j]
  rw [e1, Int.mul_ediv_cancel _ q0, show A + j * 2 ^ N - A = j * 2 ^ N by omega]
  have hdv : ((2 : Int) ^ N) ∣ 18446744073709551616 := ⟨2 ^ (64 - N), by rw [← Int.pow_add, show N + (64 - N) = 64 by omega]; rfl⟩
  obtain ⟨d, hd2⟩ := hdv
  have e2 : wrap64 (j * 2 ^ N) = j * 2 ^ N - 18446744073709551616 * ((j * 2 ^ N + 9223372036854775808) / 18446744073709551616) := by unfold wrap64; omega
  rw [e2, hd2, show j * 2 ^ N - 2 ^ N * d * ((j * 2 ^ N + 9223372036854775808) / (2 ^ N * d)) = (j - d * ((j * 2 ^ N + 9223372036854775808) / (2 ^ N * d))) * 2 ^ N by rw [Int.sub_mul, Int.mul_comm (2 ^ N) d, Int.mul_assoc d, Int.mul_comm (2 ^ N) (_ / _), ← Int.mul_assoc d]]
  exact Int.mul_emod_left _ _

set_option maxHeartbeats 1000000 in
theorem ns_core (kind a b q k n l m A c L : Int) (s : Bool) (h : KK k n s l m) (hq : bits .and .i64 kind 7 = q) (q0 : 0 ≤ q) (q7 : q ≤ 7) (hk : 3 + q % 6 = k)
    (hA : wr k a = A) (hc : (b.tmod n + n).tmod n = c) (m1 : -n < b.tmod n) (m2 : b.tmod n < n) (c0 : 0 ≤ c) (cn : c < n) (c32 : c < 32) (A1 : l ≤ A) (A2 : A ≤ m)
    (hL : wr k (wrap64 (A * 2 ^ c.toNat)) = L) (L1 : l ≤ L) (L2 : L ≤ m) (hz : wr k (wrap64 A) = A)
    (hb0 : bits .and .i64 (wrap64 (L / 2 ^ c.toNat - A)) (wrap64 (wrap64 (2 ^ (n - c).toNat) - 1)) = 0) (hs : (s == decide (wr k (-1) < 0)) = true) (w : World) (t : Tab w) :
    Calls Tryd.prog 7 #[.int .i64 kind, .int .i64 a, .int .i64 b] w fun e w' => e = .returned (.bool true) ∧ Below w.heap.size w w' := by
  have hd := h.bd
  obtain ⟨e1, e2, e3, e4, e5, e6, -⟩ := hd
  have H : Hid (KK k n s l m) := h
  have N : Hid (0 < n) := by show 0 < n; omega
  have T : Hid (Tab w) := t
  have R : Hid (Below w.heap.size w w) := Below.refl _ _
  clear h t
  go_enter Tryd.func7, Tryd.ntmps7
  go_wp2_with (first
    | (go_at_call 8; refine (bits_any H.out.sh _ (Hid.out (by assumption))).mono ?_; rintro e w1 ⟨rfl, hb⟩; have R : Hid (Below w.heap.size w w1) := Below.next R.out hb; have T : Hid (Tab w1) := T.out.below hb; clear hb)
    | (go_at_call 14; refine (wrap_any _ H.out.lo H.out.hi _ (Hid.out (by assumption))).mono ?_; rintro e w1 ⟨rfl, hb⟩; have R : Hid (Below w.heap.size w w1) := Below.next R.out hb; have T : Hid (Tab w1) := T.out.below hb; clear hb))
  refine (do_shl A c H.out A1 A2 c0 cn _ (Hid.out (by assumption))).mono ?_
  rintro e w1 ⟨rfl, hb⟩; have R : Hid (Below w.heap.size w w1) := Below.next R.out hb; have T : Hid (Tab w1) := T.out.below hb; clear hb
  go_wp2_with fail
  refine (do_shr L c H.out L1 L2 c0 cn _ (Hid.out (by assumption))).mono ?_
  rintro e w1 ⟨rfl, hb⟩; have R : Hid (Below w.heap.size w w1) := Below.next R.out hb; have T : Hid (Tab w1) := T.out.below hb; clear hb
  go_wp2_with fail
  refine (do_shl A 0 H.out A1 A2 (by omega) (by omega) _ (Hid.out (by assumption))).mono ?_
  rintro e w1 ⟨rfl, hb⟩; have R : Hid (Below w.heap.size w w1) := Below.next R.out hb; have T : Hid (Tab w1) := T.out.below hb; clear hb
  go_wp2_with fail
  refine (do_shro A n H.out A1 A2 (Or.inr (Int.le_refl n)) _ (Hid.out (by assumption))).mono ?_
  rintro e w1 ⟨rfl, hb⟩; have R : Hid (Below w.heap.size w w1) := Below.next R.out hb; have T : Hid (Tab w1) := T.out.below hb; clear hb
  go_wp2_with (go_at_call 14; refine (wrap_any _ H.out.lo H.out.hi _ (Hid.out (by assumption))).mono ?_; rintro e w1 ⟨rfl, hb⟩; have R : Hid (Below w.heap.size w w1) := Below.next R.out hb; have T : Hid (Tab w1) := T.out.below hb; clear hb)
  go_ret
  exact ⟨rfl, R.out⟩

theorem tmod_gt' (v n : Int) (hn : 0 < n) : -n < v.tmod n := by
  have h0 := Int.emod_nonneg v (show n ≠ 0 by omega)
  rw [Int.tmod_eq_emod]
  split
  · omega
  · rename_i h
    have h1 : v % n ≠ 0 := fun e => h (Or.inr (Int.dvd_of_emod_eq_zero e))
    omega

theorem numShifts_walk (kind a b : Int) (_ : (Lit.int .i64 kind).wf = true) (_ : (Lit.int .i64 a).wf = true) (_ : (Lit.int .i64 b).wf = true) (w : World) (t : Tab w) :
    Calls Tryd.prog 7 #[.int .i64 kind, .int .i64 a, .int .i64 b] w fun e w' => e = .returned (.bool true) ∧ Below w.heap.size w w' := by
  obtain ⟨n, s, l, m, h⟩ := KK.ex (k := 3 + (kind % 8) % 6) (by omega) (by omega)
  have hd := h.bd
  have m1 := tmod_gt' b n (by omega)
  have m2 : b.tmod n < n := Int.tmod_lt_of_pos b (by omega)
  have hA := wr_in h a
  have c0 : 0 ≤ (b.tmod n + n).tmod n := Int.tmod_nonneg n (by omega)
  have cn : (b.tmod n + n).tmod n < n := Int.tmod_lt_of_pos _ (by omega)
  have hL := wr_in h (wrap64 (wr (3 + (kind % 8) % 6) a * 2 ^ ((b.tmod n + n).tmod n).toNat))
  refine ns_core kind a b (kind % 8) (3 + (kind % 8) % 6) n l m _ _ _ s h (and7 kind) (by omega) (by omega) rfl rfl rfl m1 m2 c0 cn (by omega) hA.1 hA.2 rfl hL.1 hL.2 ?_ (low_bits h _ _ c0 cn) (wr_neg h) w t
  rw [wrap64_id (by omega) (by omega)]
  exact wr_id h _ hA.1 hA.2

set_option maxRecDepth 100000 in
theorem numShifts_lifted (os : Os) (started : os.Started) (H : Type) (enc : TypeId × Value → H) :
    ReturnsInHanded {} Tryd.checked os 7 .any (fun w args => (Rows.numShiftsSpec.pre enc Tryd.prog Tryd.f7 [] false w args ∧ laidMetH Tryd.prog laid1 w) ∧ sizedMet enc Tryd.prog Tryd.f7 (OpenSpec.ofChange Rows.numShiftsSpec) false w args)
      (Rows.numShiftsSpec.post enc Tryd.prog Tryd.f7 false true false false) := by
  refine returnsInHanded_of_change_and (C := Tryd.checked) (X := fun w _ => laidMetH Tryd.prog laid1 w) (fun _ _ _ hh h => h.of_heap hh) own started (by kernel_rfl) Tryd.func7
    (ChangeSpec.witness_shaped (enc := enc) (C := Tryd.checked) (os := os) (X := fun w _ => laidMetH Tryd.prog laid1 w) false (World.doorLaid Tryd.prog 400 os) #[.int .i64 0, .int .i64 0, .int .i64 0] 8 rfl (World.shaped_of_RefB (by kernel_rfl) (by kernel_rfl)) (by kernel_rfl) (by kernel_rfl) (by kernel_rfl) (door_met os _)) ?_
  intro W base args ds gs before hval0 hW _ _ hL _
  have hval : ∀ (j : Nat) t v, Tryd.f7.params[j]? = some t → args[j]? = some v → Value.okWide Tryd.prog W .any base t v := hval0
  have hW' := hW
  obtain ⟨p, q, hA0, hV, rfl, hfz, hnd⟩ := hW
  have hA : DataW.TrodAll enc Tryd.prog W 0 (fun _ => true) true Tryd.f7.params.toList args.toList ds p := hA0
  rw [Tryd.params7] at hA hval
  obtain ⟨v0, vs0, d0, ds0, p0, q0, hargs, rfl, rfl, h0, r0⟩ := trodAll_cons hA
  obtain ⟨v1, vs1, d1, ds1, p1, q1, rfl, rfl, rfl, h1, r1⟩ := trodAll_cons r0
  obtain ⟨v2, vs2, d2, ds2, p2, q2, rfl, rfl, rfl, h2, r2⟩ := trodAll_cons r1
  obtain ⟨rfl, rfl, rfl⟩ := trodAll_nil r2
  obtain rfl : args = #[v0, v1, v2] := by cases args; simp_all
  obtain ⟨rfl, rfl⟩ := trodVars_none hV
  obtain ⟨a0, rfl, rfl, rfl, w0⟩ := open_int Tryd.underlying3 (hval 0 3 v0 rfl rfl) h0
  obtain ⟨a1, rfl, rfl, rfl, w1⟩ := open_int Tryd.underlying3 (hval 1 3 v1 rfl rfl) h1
  obtain ⟨a2, rfl, rfl, rfl, w2⟩ := open_int Tryd.underlying3 (hval 2 3 v2 rfl rfl) h2
  clear hA0 hval0
  simp only [List.append_nil] at hW'
  refine (numShifts_walk a0 a1 a2 w0 w1 w2 W (of_laid hL)).mono fun e W' ⟨he, hg⟩ => ?_
  subst he
  exact ⟨_, rfl, _, _, _, [], [], [], hW', (trodAll_cons_mk (shut_bool Tryd.underlying4 _) trodAll_mk0), (trodAll_cons_mk (shut_int Tryd.underlying3 w0) (trodAll_cons_mk (shut_int Tryd.underlying3 w1) (trodAll_cons_mk (shut_int Tryd.underlying3 w2) trodAll_mk0))), rfl, hg.frame _, fun h => by cases h⟩

theorem numShifts_row : Rows.NumShiftsSaid :=
  OpenClaim.holds_of_wide 7 Tryd.f7 rfl rfl rfl rfl rfl rfl rfl ⟨rfl, rfl, rfl, rfl, rfl⟩ rfl rfl rfl rfl rfl (by kernel_rfl) Tryd.func7 (by kernel_rfl)
    (of_decide_eq_true (by kernel_rfl)) (by unfold Func.isWrapper; first | (rw [if_pos (by decide +kernel)]; kernel_rfl) | (rw [if_neg (by decide +kernel)]; exact ⟨rfl, rfl⟩))
    (fun os started H enc _ => numShifts_lifted os started H enc)

theorem numShifts_holds : Rows.NumShiftsCardSaid :=
  Claim7.holds_tied_plain_at .later [] [.data] true (true, "302cc928f815ed1bdd036c7b84ed4e8f37c164cd36297476f1d171a20a166aa9") false
    numShifts_row (fun _ h => by cases h) (by kernel_rfl) (fun _ h => by cases h) numShifts_row_tie rfl ⟨rfl, rfl⟩ (by kernel_rfl) rfl
    (fun f fn hf hfn => by
      obtain rfl : f = 7 := Option.some.inj ((show Tryd.prog.funcNamed "ferrule/ferrulelaw01.NumShifts" = some 7 by kernel_rfl).symm.trans hf) |>.symm
      obtain rfl : fn = Tryd.f7 := (Option.some.inj (Tryd.func7.symm.trans hfn)).symm
      exact ⟨by kernel_rfl, fun j t ht => by
        rw [Tryd.params7] at ht
        have hm : t ∈ [3, 3, 3] := by simpa using Array.mem_of_getElem? ht
        have hall : ([3, 3, 3].all fun u => !Tryd.prog.wantsStandIn u) = true := by kernel_rfl
        exact (show Tryd.prog.wantsStandIn t = false by simpa using List.all_eq_true.1 hall t (by simpa using hm))⟩)
    (by kernel_rfl)
#print axioms numShifts_holds
end Go.Proofs.YtjcinojbbfjnjaaDoor
