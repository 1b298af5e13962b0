/-
  Proved: what placed.words answers: a line's words.
-/
import Derived.Test.YtcdeckbobabdkaaAword
namespace Go.Proofs.Ytcdeckbobabdkaa
open Go.RowKit
set_option linter.unusedVariables false
set_option linter.unusedSimpArgs false
set_option maxRecDepth 20000

theorem mixedW : Try.prog.follows .mixedOrders = true := by kernel_rfl
theorem rows_wd {w : World} {g : Nat} {ws : List Int} (hg : g < w.heap.size) (h : ∀ i x, ws[i]? = some x → w.cell? ⟨g, i, none⟩ = some (.int .u32 x)) : RowsIn w 1 wdC ws (some ⟨g, 0, none⟩) := fun i hi => by
  refine ⟨g, 0, rfl, hg, fun j v hj => ?_⟩
  have h1 := h i _ (List.getElem?_eq_getElem hi)
  cases j with
  | zero =>
    simp only [wdC, List.getElem?_cons_zero, Option.some.injEq] at hj
    subst hj
    rw [show 0 + i * 1 + 0 = i by omega]
    exact h1
  | succ j => simp [wdC] at hj
theorem rows_one (w : World) (x : Int) : RowsIn (w.alloc (.cells #[.int .u32 x] 36)) 1 wdC [x] (some ⟨w.heap.size, 0, none⟩) := rows_wd (by simp) fun i y hy => by
  have := At.new w #[.int .u32 x] 36
  cases i with
  | zero => simp at hy; subst hy; exact this.cell 0
  | succ i => simp at hy
theorem rows_two (w : World) (x y : Int) : RowsIn (w.alloc (.cells #[.int .u32 x, .int .u32 y] 36)) 1 wdC [x, y] (some ⟨w.heap.size, 0, none⟩) := rows_wd (by simp) fun i z hz => by
  have := At.new w #[.int .u32 x, .int .u32 y] 36
  match i, hz with
  | 0, hz => simp at hz; subst hz; exact this.cell 0
  | 1, hz => simp at hz; subst hz; exact this.cell 1
theorem addi_word : e1 [97, 100, 100, 105] ⟨0, 0, 0, 0⟩ = 19 := by decide +kernel

/-- What words tells. -/
def WdR (B : World) (ws : List Int) (e : Ending) (w' : World) : Prop := ∃ A C, e = .returned (.slice A ws.length C) ∧ RowsIn w' 1 wdC ws A ∧ Below B.heap.size B w'

set_option maxHeartbeats 4000000 in
theorem words_lab (l : List Ln) (mb ab k : Nat) (L : Nat → Bool) (y : Ln) (hy : l[k]? = some y) (ok : LOk y) (w : World) (h : PlIn w l mb ab L) (hsm : Sml l) (hl : l.length ≤ 1000) (hk : y.k = 2) :
    Calls Try.prog 11 #[plV l mb ab, .int .i64 (k : Int), .agg (lnC y).toArray] w (WdR w ([])) := by
  unfold plV
  obtain ⟨k0, s, ⟨rd, q1, q2, im⟩, lb, n0⟩ := y
  simp only [lnC, w0] at *
  have HB3 : Hid (Below w.heap.size w (((w.alloc (.cells #[.map (some mb), .slice (some ⟨ab, 0, none⟩) (l.length + 1) (l.length + 1)] 42)).alloc (.cells #[.int .i64 2, .string s, .int .i64 rd, .int .i64 q1, .int .i64 q2, .int .i64 im, .string lb, .int .i64 n0] 30)).alloc (.cells #[.string s, .int .i64 rd, .int .i64 q1, .int .i64 q2, .int .i64 im] 28))) := below_next (below_two _ _ _) (below_alloc _ _)
  subst hk
  go_enter Try.func11, Try.ntmps11
  go_wp2
  go_ret
  exact ⟨none, 0, rfl, fun i hi => absurd hi (by simp), HB3.out⟩

set_option maxHeartbeats 4000000 in
theorem words_insn (l : List Ln) (mb ab k : Nat) (L : Nat → Bool) (y : Ln) (hy : l[k]? = some y) (ok : LOk y) (w : World) (h : PlIn w l mb ab L) (hsm : Sml l) (hl : l.length ≤ 1000) (hk : y.k = 1) :
    Calls Try.prog 11 #[plV l mb ab, .int .i64 (k : Int), .agg (lnC y).toArray] w (WdR w ([e1 y.s.data.toList y.i])) := by
  have HS : Hid (y.s.size ≤ maxLen) := ok.1
  unfold plV
  obtain ⟨k0, s, ⟨rd, q1, q2, im⟩, lb, n0⟩ := y
  simp only [lnC, w0] at *
  have HB3 : Hid (Below w.heap.size w (((w.alloc (.cells #[.map (some mb), .slice (some ⟨ab, 0, none⟩) (l.length + 1) (l.length + 1)] 42)).alloc (.cells #[.int .i64 1, .string s, .int .i64 rd, .int .i64 q1, .int .i64 q2, .int .i64 im, .string lb, .int .i64 n0] 30)).alloc (.cells #[.string s, .int .i64 rd, .int .i64 q1, .int .i64 q2, .int .i64 im] 28))) := below_next (below_two _ _ _) (below_alloc _ _)
  subst hk
  go_enter Try.func11, Try.ntmps11
  go_wp2_with (go_at_call 21; refine (word_c _ _ _ _ _ HS.out _).mono ?_; rintro e w1 ⟨rfl, hb⟩; have B1 : Hid (Below w.heap.size w w1) := HB3.out.trans (hb.mono HB3.out.size); clear hb)
  go_ret
  exact ⟨_, 1, rfl, rows_one w1 _, B1.out.trans ((below_alloc _ _).mono B1.out.size)⟩

set_option maxHeartbeats 4000000 in
theorem words_pad (l : List Ln) (mb ab k : Nat) (L : Nat → Bool) (y : Ln) (hy : l[k]? = some y) (ok : LOk y) (w : World) (h : PlIn w l mb ab L) (hsm : Sml l) (hl : l.length ≤ 1000) (hk : y.k = 5) (hn : y.n ≤ 20000) :
    Calls Try.prog 11 #[plV l mb ab, .int .i64 (k : Int), .agg (lnC y).toArray] w (WdR w (List.replicate y.n.toNat 19)) := by
  unfold plV
  obtain ⟨k0, s, ⟨rd, q1, q2, im⟩, lb, n0⟩ := y
  simp only [lnC, w0] at *
  have HB3 : Hid (Below w.heap.size w (((w.alloc (.cells #[.map (some mb), .slice (some ⟨ab, 0, none⟩) (l.length + 1) (l.length + 1)] 42)).alloc (.cells #[.int .i64 5, .string s, .int .i64 rd, .int .i64 q1, .int .i64 q2, .int .i64 im, .string lb, .int .i64 n0] 30)).alloc (.cells #[.string s, .int .i64 rd, .int .i64 q1, .int .i64 q2, .int .i64 im] 28))) := below_next (below_two _ _ _) (below_alloc _ _)
  have al : At (((w.alloc (.cells #[.map (some mb), .slice (some ⟨ab, 0, none⟩) (l.length + 1) (l.length + 1)] 42)).alloc (.cells #[.int .i64 5, .string s, .int .i64 rd, .int .i64 q1, .int .i64 q2, .int .i64 im, .string lb, .int .i64 n0] 30)).alloc (.cells #[.string s, .int .i64 rd, .int .i64 q1, .int .i64 q2, .int .i64 im] 28)) (w.heap.size + 1) #[.int .i64 5, .string s, .int .i64 rd, .int .i64 q1, .int .i64 q2, .int .i64 im, .string lb, .int .i64 n0] 30 := (At.newS _ _ _ (by simp)).al _
  subst hk
  have AW : e1 [97, 100, 100, 105] ⟨0, 0, 0, 0⟩ = 19 := addi_word
  unfold e1 at AW
  obtain ⟨m, hm⟩ : ∃ m : Nat, max n0 0 = (m : Int) ∧ n0.toNat = m := ⟨n0.toNat, by omega, rfl⟩
  have hmx := hm.1
  have hm2 : m ≤ 20000 := by omega
  rw [hm.2]
  have RC : Hid (∀ w b, w.cell? ⟨b, 0, none⟩ = some (.int .u32 19) → Calls Try.prog 22 #[.slice (some ⟨b, 0, none⟩) 1 1, .int .i64 (m : Int)] w fun e w' => ∃ g, e = .returned (.slice (some ⟨g, 0, none⟩) m m) ∧ w.heap.size ≤ g ∧ GZ 36 w' g m (fun _ => .int .u32 19) ∧ Below w.heap.size w w') := fun w b hc => repeat_c 19 m hm2 b w hc
  have AL : Hid (∀ w', Below (((w.alloc (.cells #[.map (some mb), .slice (some ⟨ab, 0, none⟩) (l.length + 1) (l.length + 1)] 42)).alloc (.cells #[.int .i64 5, .string s, .int .i64 rd, .int .i64 q1, .int .i64 q2, .int .i64 im, .string lb, .int .i64 n0] 30)).alloc (.cells #[.string s, .int .i64 rd, .int .i64 q1, .int .i64 q2, .int .i64 im] 28)).heap.size (((w.alloc (.cells #[.map (some mb), .slice (some ⟨ab, 0, none⟩) (l.length + 1) (l.length + 1)] 42)).alloc (.cells #[.int .i64 5, .string s, .int .i64 rd, .int .i64 q1, .int .i64 q2, .int .i64 im, .string lb, .int .i64 n0] 30)).alloc (.cells #[.string s, .int .i64 rd, .int .i64 q1, .int .i64 q2, .int .i64 im] 28)) w' → w'.cell? ⟨w.heap.size + 1, 7, none⟩ = some (.int .i64 n0)) := fun w' hw => (al.below hw al.lt).cell 7
  clear hm al
  have HMX : Hid (max n0 0 = (m : Int)) := hmx
  clear hmx
  go_enter Try.func11, Try.ntmps11
  rcases Int.lt_trichotomy n0 0 with hn0 | hn0 | hn0
  · have hm9 : m = 0 := by have := HMX.out; omega
    subst hm9
    have hge : ¬ 0 ≤ n0 := by omega
    go_wp2_with (first | (go_at_call 21; refine (word_c _ _ _ _ _ (by decide) _).mono ?_; rintro e w1 ⟨rfl, hb⟩; have B1 : Hid (Below w.heap.size w w1) := HB3.out.trans (hb.mono HB3.out.size); have c7 := AL.out w1 hb; have z7 : w.heap.size + 1 < w1.heap.size := (by have := hb.size; simp at this; omega); rw [AW]; clear hb) | (go_at_call 22; refine (RC.out _ _ ((At.new w1 _ _).cell 0)).mono ?_; rintro e w2 ⟨g, rfl, hg, hz, hb⟩; have B2 : Hid (Below w.heap.size w w2) := B1.out.trans ((below_next (below_alloc _ _) hb).mono B1.out.size); have Z2 : Hid (GZ 36 w2 g 0 (fun _ => .int .u32 19)) := hz; clear hb hz hg))
    go_ret
    exact ⟨_, _, rfl, fun i hi => absurd hi (by simp), B2.out⟩
  · subst hn0
    have hm9 : m = 0 := by have := HMX.out; omega
    subst hm9
    go_wp2_with (first | (go_at_call 21; refine (word_c _ _ _ _ _ (by decide) _).mono ?_; rintro e w1 ⟨rfl, hb⟩; have B1 : Hid (Below w.heap.size w w1) := HB3.out.trans (hb.mono HB3.out.size); have c7 := AL.out w1 hb; have z7 : w.heap.size + 1 < w1.heap.size := (by have := hb.size; simp at this; omega); rw [AW]; clear hb) | (go_at_call 22; refine (RC.out _ _ ((At.new w1 _ _).cell 0)).mono ?_; rintro e w2 ⟨g, rfl, hg, hz, hb⟩; have B2 : Hid (Below w.heap.size w w2) := B1.out.trans ((below_next (below_alloc _ _) hb).mono B1.out.size); have Z2 : Hid (GZ 36 w2 g 0 (fun _ => .int .u32 19)) := hz; clear hb hz hg))
    go_ret
    exact ⟨_, _, rfl, fun i hi => absurd hi (by simp), B2.out⟩
  · obtain rfl : n0 = (m : Int) := by have := HMX.out; omega
    clear HMX
    have hge : (0 : Int) ≤ (m : Int) := by omega
    have hlt : ¬ (m : Int) < 0 := by omega
    go_wp2_with (first | (go_at_call 21; refine (word_c _ _ _ _ _ (by decide) _).mono ?_; rintro e w1 ⟨rfl, hb⟩; have B1 : Hid (Below w.heap.size w w1) := HB3.out.trans (hb.mono HB3.out.size); have c7 := AL.out w1 hb; have z7 : w.heap.size + 1 < w1.heap.size := (by have := hb.size; simp at this; omega); rw [AW]; clear hb) | (go_at_call 22; refine (RC.out _ _ ((At.new w1 _ _).cell 0)).mono ?_; rintro e w2 ⟨g, rfl, hg, hz, hb⟩; have B2 : Hid (Below w.heap.size w w2) := B1.out.trans ((below_next (below_alloc _ _) hb).mono B1.out.size); have Z2 : Hid (GZ 36 w2 g m (fun _ => .int .u32 19)) := hz; clear hb hz hg))
    go_ret
    exact ⟨_, _, by first | rfl | (rw [List.length_replicate]; rfl), rows_wd (GZ.lt Z2.out) fun i x hx => by
      obtain ⟨q1, q2⟩ := List.getElem?_eq_some_iff.1 hx
      rw [List.length_replicate] at q1
      rw [List.getElem_replicate] at q2
      subst q2
      exact GZ.cell Z2.out i q1, B2.out⟩

set_option maxHeartbeats 4000000 in
theorem words_jump (l : List Ln) (mb ab k : Nat) (L : Nat → Bool) (y : Ln) (hy : l[k]? = some y) (ok : LOk y) (w : World) (h : PlIn w l mb ab L) (hsm : Sml l) (hl : l.length ≤ 1000) (hk : y.k = 4) :
    Calls Try.prog 11 #[plV l mb ab, .int .i64 (k : Int), .agg (lnC y).toArray] w (WdR w ([e1 y.s.data.toList (w0 y.i (way l L k))])) := by
  have PW : Hid (∀ w', Below w.heap.size w w' → Calls Try.prog 24 #[plV l mb ab, .int .i64 (k : Int), .agg (lnC y).toArray] w' fun e w'' => e = .returned (.int .i64 (way l L k)) ∧ Below w'.heap.size w' w'') := fun w' hb => pway_c l mb ab k L y hy ok w' (h.below hb) hsm hl
  unfold plV at PW
  have HS : Hid (y.s.size ≤ maxLen) := ok.1
  unfold plV
  obtain ⟨k0, s, ⟨rd, q1, q2, im⟩, lb, n0⟩ := y
  simp only [lnC, w0] at *
  subst hk
  have HB3 : Hid (Below w.heap.size w (((w.alloc (.cells #[.map (some mb), .slice (some ⟨ab, 0, none⟩) (l.length + 1) (l.length + 1)] 42)).alloc (.cells #[.int .i64 4, .string s, .int .i64 rd, .int .i64 q1, .int .i64 q2, .int .i64 im, .string lb, .int .i64 n0] 30)).alloc (.cells #[.string s, .int .i64 rd, .int .i64 q1, .int .i64 q2, .int .i64 im] 28))) := below_next (below_two _ _ _) (below_alloc _ _)
  have ap : At (((w.alloc (.cells #[.map (some mb), .slice (some ⟨ab, 0, none⟩) (l.length + 1) (l.length + 1)] 42)).alloc (.cells #[.int .i64 4, .string s, .int .i64 rd, .int .i64 q1, .int .i64 q2, .int .i64 im, .string lb, .int .i64 n0] 30)).alloc (.cells #[.string s, .int .i64 rd, .int .i64 q1, .int .i64 q2, .int .i64 im] 28)) w.heap.size #[.map (some mb), .slice (some ⟨ab, 0, none⟩) (l.length + 1) (l.length + 1)] 42 := ((At.new w _ _).al _).al _
  have al : At (((w.alloc (.cells #[.map (some mb), .slice (some ⟨ab, 0, none⟩) (l.length + 1) (l.length + 1)] 42)).alloc (.cells #[.int .i64 4, .string s, .int .i64 rd, .int .i64 q1, .int .i64 q2, .int .i64 im, .string lb, .int .i64 n0] 30)).alloc (.cells #[.string s, .int .i64 rd, .int .i64 q1, .int .i64 q2, .int .i64 im] 28)) (w.heap.size + 1) #[.int .i64 4, .string s, .int .i64 rd, .int .i64 q1, .int .i64 q2, .int .i64 im, .string lb, .int .i64 n0] 30 := (At.newS _ _ _ (by simp)).al _
  have ai : At (((w.alloc (.cells #[.map (some mb), .slice (some ⟨ab, 0, none⟩) (l.length + 1) (l.length + 1)] 42)).alloc (.cells #[.int .i64 4, .string s, .int .i64 rd, .int .i64 q1, .int .i64 q2, .int .i64 im, .string lb, .int .i64 n0] 30)).alloc (.cells #[.string s, .int .i64 rd, .int .i64 q1, .int .i64 q2, .int .i64 im] 28)) (w.heap.size + 1 + 1) #[.string s, .int .i64 rd, .int .i64 q1, .int .i64 q2, .int .i64 im] 28 := At.newS _ _ _ (by simp)
  have SF : Hid (∀ w', Below (((w.alloc (.cells #[.map (some mb), .slice (some ⟨ab, 0, none⟩) (l.length + 1) (l.length + 1)] 42)).alloc (.cells #[.int .i64 4, .string s, .int .i64 rd, .int .i64 q1, .int .i64 q2, .int .i64 im, .string lb, .int .i64 n0] 30)).alloc (.cells #[.string s, .int .i64 rd, .int .i64 q1, .int .i64 q2, .int .i64 im] 28)).heap.size (((w.alloc (.cells #[.map (some mb), .slice (some ⟨ab, 0, none⟩) (l.length + 1) (l.length + 1)] 42)).alloc (.cells #[.int .i64 4, .string s, .int .i64 rd, .int .i64 q1, .int .i64 q2, .int .i64 im, .string lb, .int .i64 n0] 30)).alloc (.cells #[.string s, .int .i64 rd, .int .i64 q1, .int .i64 q2, .int .i64 im] 28)) w' → w'.cell? ⟨w.heap.size, 0, none⟩ = some (.map (some mb)) ∧ w'.cell? ⟨w.heap.size, 1, none⟩ = some (.slice (some ⟨ab, 0, none⟩) (l.length + 1) (l.length + 1)) ∧ w'.cell? ⟨w.heap.size + 1, 0, none⟩ = some (.int .i64 4) ∧ w'.cell? ⟨w.heap.size + 1, 1, none⟩ = some (.string s) ∧ w'.cell? ⟨w.heap.size + 1, 2, none⟩ = some (.int .i64 rd) ∧ w'.cell? ⟨w.heap.size + 1, 3, none⟩ = some (.int .i64 q1) ∧ w'.cell? ⟨w.heap.size + 1, 4, none⟩ = some (.int .i64 q2) ∧ w'.cell? ⟨w.heap.size + 1, 5, none⟩ = some (.int .i64 im) ∧ w'.cell? ⟨w.heap.size + 1, 6, none⟩ = some (.string lb) ∧ w'.cell? ⟨w.heap.size + 1, 7, none⟩ = some (.int .i64 n0) ∧ w'.cell? ⟨w.heap.size + 1 + 1, 0, none⟩ = some (.string s) ∧ w'.cell? ⟨w.heap.size + 1 + 1, 1, none⟩ = some (.int .i64 rd) ∧ w'.cell? ⟨w.heap.size + 1 + 1, 2, none⟩ = some (.int .i64 q1) ∧ w'.cell? ⟨w.heap.size + 1 + 1, 3, none⟩ = some (.int .i64 q2) ∧ w'.cell? ⟨w.heap.size + 1 + 1, 4, none⟩ = some (.int .i64 im)) := fun w' hw => by
    have a1 := ap.below hw ap.lt
    have a2 := al.below hw al.lt
    have a3 := ai.below hw ai.lt
    exact ⟨a1.cell 0, a1.cell 1, a2.cell 0, a2.cell 1, a2.cell 2, a2.cell 3, a2.cell 4, a2.cell 5, a2.cell 6, a2.cell 7, a3.cell 0, a3.cell 1, a3.cell 2, a3.cell 3, a3.cell 4⟩
  clear ap al ai
  generalize way l L k = wy at *
  clear h hsm ok hy
  go_enter Try.func11, Try.ntmps11
  go_wp2
  generalize ((w.alloc (.cells #[.map (some mb), .slice (some ⟨ab, 0, none⟩) (l.length + 1) (l.length + 1)] 42)).alloc (.cells #[.int .i64 4, .string s, .int .i64 rd, .int .i64 q1, .int .i64 q2, .int .i64 im, .string lb, .int .i64 n0] 30)).alloc (.cells #[.string s, .int .i64 rd, .int .i64 q1, .int .i64 q2, .int .i64 im] 28) = W4 at *
  have SFd : Hid (∀ w', Below W4.drew.heap.size W4.drew w' → w'.cell? ⟨w.heap.size, 0, none⟩ = some (.map (some mb)) ∧ w'.cell? ⟨w.heap.size, 1, none⟩ = some (.slice (some ⟨ab, 0, none⟩) (l.length + 1) (l.length + 1)) ∧ w'.cell? ⟨w.heap.size + 1, 0, none⟩ = some (.int .i64 4) ∧ w'.cell? ⟨w.heap.size + 1, 1, none⟩ = some (.string s) ∧ w'.cell? ⟨w.heap.size + 1, 2, none⟩ = some (.int .i64 rd) ∧ w'.cell? ⟨w.heap.size + 1, 3, none⟩ = some (.int .i64 q1) ∧ w'.cell? ⟨w.heap.size + 1, 4, none⟩ = some (.int .i64 q2) ∧ w'.cell? ⟨w.heap.size + 1, 5, none⟩ = some (.int .i64 im) ∧ w'.cell? ⟨w.heap.size + 1, 6, none⟩ = some (.string lb) ∧ w'.cell? ⟨w.heap.size + 1, 7, none⟩ = some (.int .i64 n0) ∧ w'.cell? ⟨w.heap.size + 1 + 1, 0, none⟩ = some (.string s) ∧ w'.cell? ⟨w.heap.size + 1 + 1, 1, none⟩ = some (.int .i64 rd) ∧ w'.cell? ⟨w.heap.size + 1 + 1, 2, none⟩ = some (.int .i64 q1) ∧ w'.cell? ⟨w.heap.size + 1 + 1, 3, none⟩ = some (.int .i64 q2) ∧ w'.cell? ⟨w.heap.size + 1 + 1, 4, none⟩ = some (.int .i64 im)) := fun w' hw => SF.out w' ((below_drew W4).trans (hw.mono (Nat.le_refl _)))
  have HBd : Hid (Below w.heap.size w W4.drew) := HB3.out.trans ((below_drew W4).mono HB3.out.size)
  refine wp_region_N (fun w' => w'.cell? ⟨w.heap.size, 0, none⟩ = some (.map (some mb)) ∧ w'.cell? ⟨w.heap.size, 1, none⟩ = some (.slice (some ⟨ab, 0, none⟩) (l.length + 1) (l.length + 1)) ∧ w'.cell? ⟨w.heap.size + 1, 0, none⟩ = some (.int .i64 4) ∧ w'.cell? ⟨w.heap.size + 1, 1, none⟩ = some (.string s) ∧ w'.cell? ⟨w.heap.size + 1, 2, none⟩ = some (.int .i64 rd) ∧ w'.cell? ⟨w.heap.size + 1, 3, none⟩ = some (.int .i64 q1) ∧ w'.cell? ⟨w.heap.size + 1, 4, none⟩ = some (.int .i64 q2) ∧ w'.cell? ⟨w.heap.size + 1, 5, none⟩ = some (.int .i64 im) ∧ w'.cell? ⟨w.heap.size + 1, 6, none⟩ = some (.string lb) ∧ w'.cell? ⟨w.heap.size + 1, 7, none⟩ = some (.int .i64 n0) ∧ w'.cell? ⟨w.heap.size + 1 + 1, 0, none⟩ = some (.string s) ∧ w'.cell? ⟨w.heap.size + 1 + 1, 1, none⟩ = some (.int .i64 rd) ∧ w'.cell? ⟨w.heap.size + 1 + 1, 2, none⟩ = some (.int .i64 q1) ∧ w'.cell? ⟨w.heap.size + 1 + 1, 3, none⟩ = some (.int .i64 q2) ∧ w'.cell? ⟨w.heap.size + 1 + 1, 4, none⟩ = some (.int .i64 im)) (fun _ => true) mixedW (SFd.out _ (Below.refl _ _)) ?_
  intro S0
  generalize W4.drew = wd at *
  refine wpAnyN_take (i := 0) (v := ?_) rfl (by kernel_rfl) (by kernel_rfl) (by kernel_rfl) (by kernel_rfl) (fun _ _ _ h => h) (Or.inl ⟨by rfl, ?_⟩) S0 ?_
  rotate_left
  · intro w' hS'
    obtain ⟨h0, h1, h2, h3, h4, h5, h6, h7, h8, h9, h10, h11, h12, h13, h14⟩ := hS'
    (try go_simp)
    first | done | exact rfl | exact ⟨rfl, rfl⟩
  (try simp only [Act.put, List.getElem_toArray, List.getElem_cons_zero, List.setIfInBounds_toArray, List.set_cons_zero, List.set_cons_succ])
  refine wpAnyN_take (i := 1) (v := ?_) rfl (by kernel_rfl) (by kernel_rfl) (by kernel_rfl) (by kernel_rfl) (fun _ _ _ h => h) (Or.inl ⟨by rfl, ?_⟩) S0 ?_
  rotate_left
  · intro w' hS'
    obtain ⟨h0, h1, h2, h3, h4, h5, h6, h7, h8, h9, h10, h11, h12, h13, h14⟩ := hS'
    (try go_simp)
    first | done | exact rfl | exact ⟨rfl, rfl⟩
  (try simp only [Act.put, List.getElem_toArray, List.getElem_cons_succ, List.getElem_cons_zero, List.setIfInBounds_toArray, List.set_cons_zero, List.set_cons_succ])
  refine wpAnyN_take (i := 2) (v := ?_) rfl (by kernel_rfl) (by kernel_rfl) (by kernel_rfl) (by kernel_rfl) (fun _ _ _ h => h) (Or.inl ⟨by rfl, ?_⟩) S0 ?_
  rotate_left
  · intro w' hS'
    obtain ⟨h0, h1, h2, h3, h4, h5, h6, h7, h8, h9, h10, h11, h12, h13, h14⟩ := hS'
    (try go_simp)
    first | done | exact rfl | exact ⟨rfl, rfl⟩
  (try simp only [Act.put, List.getElem_toArray, List.getElem_cons_succ, List.getElem_cons_zero, List.setIfInBounds_toArray, List.set_cons_zero, List.set_cons_succ])
  refine wpAnyN_take (i := 3) (v := ?_) rfl (by kernel_rfl) (by kernel_rfl) (by kernel_rfl) (by kernel_rfl) (fun _ _ _ h => h) (Or.inl ⟨by rfl, ?_⟩) S0 ?_
  rotate_left
  · intro w' hS'
    obtain ⟨h0, h1, h2, h3, h4, h5, h6, h7, h8, h9, h10, h11, h12, h13, h14⟩ := hS'
    (try go_simp)
    first | done | exact rfl | exact ⟨rfl, rfl⟩
  (try simp only [Act.put, List.getElem_toArray, List.getElem_cons_succ, List.getElem_cons_zero, List.setIfInBounds_toArray, List.set_cons_zero, List.set_cons_succ])
  refine wpAnyN_one (i := 4) (by kernel_rfl) rfl (fun K hK => ?_)
  go_simp
  go_at_call 24
  refine (PW.out _ HBd.out).mono ?_
  rintro e w4 ⟨rfl, hb4⟩
  have C4 : Below wd.heap.size wd w4 := hb4
  have S5 := SFd.out w4 C4
  clear hb4
  go_wp2_with fail
  refine hK _ _ (fun _ => S5) ?_
  clear hK K
  (try simp only [Act.put, List.getElem_toArray, List.getElem_cons_succ, List.getElem_cons_zero, List.setIfInBounds_toArray, List.set_cons_zero, List.set_cons_succ])
  refine wpAnyN_one (i := 5) (by kernel_rfl) rfl (fun K hK => ?_)
  go_simp
  go_at_call 23
  refine (withImm_c _ _ _ _ _ _ _).mono ?_
  rintro e w5 ⟨rfl, hb5⟩
  have C5 : Below wd.heap.size wd w5 := below_next C4 hb5
  have S6 := SFd.out w5 C5
  clear hb5
  go_wp2_with fail
  refine hK _ _ (fun _ => S6) ?_
  clear hK K
  (try simp only [Act.put, List.getElem_toArray, List.getElem_cons_succ, List.getElem_cons_zero, List.setIfInBounds_toArray, List.set_cons_zero, List.set_cons_succ])
  refine wpAnyN_one (i := 6) (by kernel_rfl) rfl (fun K hK => ?_)
  go_simp
  go_at_call 21
  refine (word_c _ _ _ _ _ HS.out _).mono ?_
  rintro e w6 ⟨rfl, hb6⟩
  have C6 : Below wd.heap.size wd w6 := below_next C5 hb6
  have S7 := SFd.out w6 C6
  clear hb6
  go_wp2_with fail
  refine hK _ _ (fun _ => S7) ?_
  clear hK K
  (try simp only [Act.put, List.getElem_toArray, List.getElem_cons_succ, List.getElem_cons_zero, List.setIfInBounds_toArray, List.set_cons_zero, List.set_cons_succ])
  refine wpAnyN_one (i := 7) (by kernel_rfl) rfl (fun K hK => ?_)
  go_simp
  have S8 := SFd.out _ (below_next C6 (below_alloc w6 (.cells #[.int .u32 ((encF s.data.toList ⟨rd, q1, q2, wy⟩).getD 0)] 36)))
  refine hK _ _ (fun _ => S8) ?_
  clear hK K
  (try simp only [Act.put, List.getElem_toArray, List.getElem_cons_succ, List.getElem_cons_zero, List.setIfInBounds_toArray, List.set_cons_zero, List.set_cons_succ])
  refine wpAnyN_take (i := 8) (v := ?_) rfl (by kernel_rfl) (by kernel_rfl) (by kernel_rfl) (by kernel_rfl) (fun _ _ _ h => h) (Or.inl ⟨by rfl, ?_⟩) S8 ?_
  rotate_left
  · intro w' hS'
    obtain ⟨h0, h1, h2, h3, h4, h5, h6, h7, h8, h9, h10, h11, h12, h13, h14⟩ := hS'
    (try go_simp)
    first | done | exact rfl | exact ⟨rfl, rfl⟩
  (try simp only [Act.put, List.getElem_toArray, List.getElem_cons_succ, List.getElem_cons_zero, List.setIfInBounds_toArray, List.set_cons_zero, List.set_cons_succ])
  refine wpAnyN_done (by kernel_rfl) ?_ _
  go_wp2
  have B7 : Hid (Below w.heap.size w w6) := HBd.out.trans (C6.mono HBd.out.size)
  clear S0 S5 S6 S7 S8 C4 C5 C6 SF SFd
  go_ret
  exact ⟨_, 1, rfl, rows_one w6 _, B7.out.trans ((below_alloc _ _).mono B7.out.size)⟩

set_option maxHeartbeats 4000000 in
theorem words_short (l : List Ln) (mb ab k : Nat) (L : Nat → Bool) (y : Ln) (hy : l[k]? = some y) (ok : LOk y) (w : World) (h : PlIn w l mb ab L) (hsm : Sml l) (hl : l.length ≤ 1000) (hk : y.k = 3) (hL : L k = false) :
    Calls Try.prog 11 #[plV l mb ab, .int .i64 (k : Int), .agg (lnC y).toArray] w (WdR w ([e1 y.s.data.toList (w0 y.i (way l L k))])) := by
  have PW : Hid (∀ w', Below w.heap.size w w' → Calls Try.prog 24 #[plV l mb ab, .int .i64 (k : Int), .agg (lnC y).toArray] w' fun e w'' => e = .returned (.int .i64 (way l L k)) ∧ Below w'.heap.size w' w'') := fun w' hb => pway_c l mb ab k L y hy ok w' (h.below hb) hsm hl
  unfold plV at PW
  have HS : Hid (y.s.size ≤ maxLen) := ok.1
  have hlt := (List.getElem?_eq_some_iff.1 hy).1
  have z1 : ab < w.heap.size := GZ.lt h.2
  have z2 : ab < w.heap.size + 1 := by omega
  have z3 : ab < w.heap.size + 1 + 1 := by omega
  have dk : w.cell? ⟨ab, k, none⟩ = some (.int .i64 (atP l L k)) := GZ.cell h.2 k (by omega)
  have dk1 : w.cell? ⟨ab, k + 1, none⟩ = some (.int .i64 (atP l L (k + 1))) := GZ.cell h.2 (k + 1) (by omega)
  have hst : atP l L (k + 1) = atP l L k + (4 + if L k then 4 else 0) := by
    show atP l L k + (shA l k + if L k then 4 else 0) = _
    unfold shA
    rw [hy]
    simp [shB, hk]
  have pk := atP_in hsm L (p := k) (by omega)
  have hkz : (k : Int) < (l.length : Int) + 1 := by omega
  have hkz1 : (k : Int) + 1 < (l.length : Int) + 1 := by omega
  have hkz2 : (k : Int) < (l.length : Int) := by omega
  have hkz3 : (0 : Int) ≤ (k : Int) + 1 := by omega
  have wk1 : IntKind.i64.wrap ((k : Int) + 1) = (k : Int) + 1 := wrap_in _ (by omega)
  rw [hL] at hst
  simp only [Bool.false_eq_true, if_false, Int.add_zero] at hst
  rw [hst] at dk1
  have wk : IntKind.i64.wrap (atP l L k + 4 - atP l L k) = 4 := by rw [show atP l L k + 4 - atP l L k = 4 by omega]; exact wrap_in _ (by omega)
  have wk2 : atP l L k + 4 - atP l L k = 4 := by omega
  unfold plV
  obtain ⟨k0, s, ⟨rd, q1, q2, im⟩, lb, n0⟩ := y
  simp only [lnC, w0] at *
  subst hk
  have HB3 : Hid (Below w.heap.size w (((w.alloc (.cells #[.map (some mb), .slice (some ⟨ab, 0, none⟩) (l.length + 1) (l.length + 1)] 42)).alloc (.cells #[.int .i64 3, .string s, .int .i64 rd, .int .i64 q1, .int .i64 q2, .int .i64 im, .string lb, .int .i64 n0] 30)).alloc (.cells #[.string s, .int .i64 rd, .int .i64 q1, .int .i64 q2, .int .i64 im] 28))) := below_next (below_two _ _ _) (below_alloc _ _)
  have ap : At (((w.alloc (.cells #[.map (some mb), .slice (some ⟨ab, 0, none⟩) (l.length + 1) (l.length + 1)] 42)).alloc (.cells #[.int .i64 3, .string s, .int .i64 rd, .int .i64 q1, .int .i64 q2, .int .i64 im, .string lb, .int .i64 n0] 30)).alloc (.cells #[.string s, .int .i64 rd, .int .i64 q1, .int .i64 q2, .int .i64 im] 28)) w.heap.size #[.map (some mb), .slice (some ⟨ab, 0, none⟩) (l.length + 1) (l.length + 1)] 42 := ((At.new w _ _).al _).al _
  have al : At (((w.alloc (.cells #[.map (some mb), .slice (some ⟨ab, 0, none⟩) (l.length + 1) (l.length + 1)] 42)).alloc (.cells #[.int .i64 3, .string s, .int .i64 rd, .int .i64 q1, .int .i64 q2, .int .i64 im, .string lb, .int .i64 n0] 30)).alloc (.cells #[.string s, .int .i64 rd, .int .i64 q1, .int .i64 q2, .int .i64 im] 28)) (w.heap.size + 1) #[.int .i64 3, .string s, .int .i64 rd, .int .i64 q1, .int .i64 q2, .int .i64 im, .string lb, .int .i64 n0] 30 := (At.newS _ _ _ (by simp)).al _
  have ai : At (((w.alloc (.cells #[.map (some mb), .slice (some ⟨ab, 0, none⟩) (l.length + 1) (l.length + 1)] 42)).alloc (.cells #[.int .i64 3, .string s, .int .i64 rd, .int .i64 q1, .int .i64 q2, .int .i64 im, .string lb, .int .i64 n0] 30)).alloc (.cells #[.string s, .int .i64 rd, .int .i64 q1, .int .i64 q2, .int .i64 im] 28)) (w.heap.size + 1 + 1) #[.string s, .int .i64 rd, .int .i64 q1, .int .i64 q2, .int .i64 im] 28 := At.newS _ _ _ (by simp)
  have SF : Hid (∀ w', Below (((w.alloc (.cells #[.map (some mb), .slice (some ⟨ab, 0, none⟩) (l.length + 1) (l.length + 1)] 42)).alloc (.cells #[.int .i64 3, .string s, .int .i64 rd, .int .i64 q1, .int .i64 q2, .int .i64 im, .string lb, .int .i64 n0] 30)).alloc (.cells #[.string s, .int .i64 rd, .int .i64 q1, .int .i64 q2, .int .i64 im] 28)).heap.size (((w.alloc (.cells #[.map (some mb), .slice (some ⟨ab, 0, none⟩) (l.length + 1) (l.length + 1)] 42)).alloc (.cells #[.int .i64 3, .string s, .int .i64 rd, .int .i64 q1, .int .i64 q2, .int .i64 im, .string lb, .int .i64 n0] 30)).alloc (.cells #[.string s, .int .i64 rd, .int .i64 q1, .int .i64 q2, .int .i64 im] 28)) w' → w'.cell? ⟨w.heap.size, 0, none⟩ = some (.map (some mb)) ∧ w'.cell? ⟨w.heap.size, 1, none⟩ = some (.slice (some ⟨ab, 0, none⟩) (l.length + 1) (l.length + 1)) ∧ w'.cell? ⟨w.heap.size + 1, 0, none⟩ = some (.int .i64 3) ∧ w'.cell? ⟨w.heap.size + 1, 1, none⟩ = some (.string s) ∧ w'.cell? ⟨w.heap.size + 1, 2, none⟩ = some (.int .i64 rd) ∧ w'.cell? ⟨w.heap.size + 1, 3, none⟩ = some (.int .i64 q1) ∧ w'.cell? ⟨w.heap.size + 1, 4, none⟩ = some (.int .i64 q2) ∧ w'.cell? ⟨w.heap.size + 1, 5, none⟩ = some (.int .i64 im) ∧ w'.cell? ⟨w.heap.size + 1, 6, none⟩ = some (.string lb) ∧ w'.cell? ⟨w.heap.size + 1, 7, none⟩ = some (.int .i64 n0) ∧ w'.cell? ⟨w.heap.size + 1 + 1, 0, none⟩ = some (.string s) ∧ w'.cell? ⟨w.heap.size + 1 + 1, 1, none⟩ = some (.int .i64 rd) ∧ w'.cell? ⟨w.heap.size + 1 + 1, 2, none⟩ = some (.int .i64 q1) ∧ w'.cell? ⟨w.heap.size + 1 + 1, 3, none⟩ = some (.int .i64 q2) ∧ w'.cell? ⟨w.heap.size + 1 + 1, 4, none⟩ = some (.int .i64 im)) := fun w' hw => by
    have a1 := ap.below hw ap.lt
    have a2 := al.below hw al.lt
    have a3 := ai.below hw ai.lt
    exact ⟨a1.cell 0, a1.cell 1, a2.cell 0, a2.cell 1, a2.cell 2, a2.cell 3, a2.cell 4, a2.cell 5, a2.cell 6, a2.cell 7, a3.cell 0, a3.cell 1, a3.cell 2, a3.cell 3, a3.cell 4⟩
  clear ap al ai
  generalize way l L k = wy at *
  generalize atP l L k = pk0 at *
  clear h hsm ok hy hst
  go_enter Try.func11, Try.ntmps11
  go_wp2
  go_quiet (fail)
  go_wp2
  generalize hW4 : (((w.alloc (.cells #[.map (some mb), .slice (some ⟨ab, 0, none⟩) (l.length + 1) (l.length + 1)] 42)).alloc (.cells #[.int .i64 3, .string s, .int .i64 rd, .int .i64 q1, .int .i64 q2, .int .i64 im, .string lb, .int .i64 n0] 30)).alloc (.cells #[.string s, .int .i64 rd, .int .i64 q1, .int .i64 q2, .int .i64 im] 28)).drewN nq = W4 at *
  have SF4 : Hid (∀ w', Below W4.heap.size W4 w' → w'.cell? ⟨w.heap.size, 0, none⟩ = some (.map (some mb)) ∧ w'.cell? ⟨w.heap.size, 1, none⟩ = some (.slice (some ⟨ab, 0, none⟩) (l.length + 1) (l.length + 1)) ∧ w'.cell? ⟨w.heap.size + 1, 0, none⟩ = some (.int .i64 3) ∧ w'.cell? ⟨w.heap.size + 1, 1, none⟩ = some (.string s) ∧ w'.cell? ⟨w.heap.size + 1, 2, none⟩ = some (.int .i64 rd) ∧ w'.cell? ⟨w.heap.size + 1, 3, none⟩ = some (.int .i64 q1) ∧ w'.cell? ⟨w.heap.size + 1, 4, none⟩ = some (.int .i64 q2) ∧ w'.cell? ⟨w.heap.size + 1, 5, none⟩ = some (.int .i64 im) ∧ w'.cell? ⟨w.heap.size + 1, 6, none⟩ = some (.string lb) ∧ w'.cell? ⟨w.heap.size + 1, 7, none⟩ = some (.int .i64 n0) ∧ w'.cell? ⟨w.heap.size + 1 + 1, 0, none⟩ = some (.string s) ∧ w'.cell? ⟨w.heap.size + 1 + 1, 1, none⟩ = some (.int .i64 rd) ∧ w'.cell? ⟨w.heap.size + 1 + 1, 2, none⟩ = some (.int .i64 q1) ∧ w'.cell? ⟨w.heap.size + 1 + 1, 3, none⟩ = some (.int .i64 q2) ∧ w'.cell? ⟨w.heap.size + 1 + 1, 4, none⟩ = some (.int .i64 im)) := fun w' hw => SF.out w' (by rw [← hW4] at hw; exact (below_drewN _ _).trans (hw.mono (Nat.le_refl _)))
  have HB4 : Hid (Below w.heap.size w W4) := (show Below _ _ _ by rw [← hW4]; exact HB3.out.trans ((below_drewN _ _).mono HB3.out.size))
  clear SF HB3 hW4
  rename Hid (∀ w', Below W4.heap.size W4 w' → _) => SF
  have SFd : Hid (∀ w', Below W4.drew.heap.size W4.drew w' → w'.cell? ⟨w.heap.size, 0, none⟩ = some (.map (some mb)) ∧ w'.cell? ⟨w.heap.size, 1, none⟩ = some (.slice (some ⟨ab, 0, none⟩) (l.length + 1) (l.length + 1)) ∧ w'.cell? ⟨w.heap.size + 1, 0, none⟩ = some (.int .i64 3) ∧ w'.cell? ⟨w.heap.size + 1, 1, none⟩ = some (.string s) ∧ w'.cell? ⟨w.heap.size + 1, 2, none⟩ = some (.int .i64 rd) ∧ w'.cell? ⟨w.heap.size + 1, 3, none⟩ = some (.int .i64 q1) ∧ w'.cell? ⟨w.heap.size + 1, 4, none⟩ = some (.int .i64 q2) ∧ w'.cell? ⟨w.heap.size + 1, 5, none⟩ = some (.int .i64 im) ∧ w'.cell? ⟨w.heap.size + 1, 6, none⟩ = some (.string lb) ∧ w'.cell? ⟨w.heap.size + 1, 7, none⟩ = some (.int .i64 n0) ∧ w'.cell? ⟨w.heap.size + 1 + 1, 0, none⟩ = some (.string s) ∧ w'.cell? ⟨w.heap.size + 1 + 1, 1, none⟩ = some (.int .i64 rd) ∧ w'.cell? ⟨w.heap.size + 1 + 1, 2, none⟩ = some (.int .i64 q1) ∧ w'.cell? ⟨w.heap.size + 1 + 1, 3, none⟩ = some (.int .i64 q2) ∧ w'.cell? ⟨w.heap.size + 1 + 1, 4, none⟩ = some (.int .i64 im)) := fun w' hw => SF.out w' ((below_drew W4).trans (hw.mono (Nat.le_refl _)))
  have HBd : Hid (Below w.heap.size w W4.drew) := HB4.out.trans ((below_drew W4).mono HB4.out.size)
  refine wp_region_N (fun w' => w'.cell? ⟨w.heap.size, 0, none⟩ = some (.map (some mb)) ∧ w'.cell? ⟨w.heap.size, 1, none⟩ = some (.slice (some ⟨ab, 0, none⟩) (l.length + 1) (l.length + 1)) ∧ w'.cell? ⟨w.heap.size + 1, 0, none⟩ = some (.int .i64 3) ∧ w'.cell? ⟨w.heap.size + 1, 1, none⟩ = some (.string s) ∧ w'.cell? ⟨w.heap.size + 1, 2, none⟩ = some (.int .i64 rd) ∧ w'.cell? ⟨w.heap.size + 1, 3, none⟩ = some (.int .i64 q1) ∧ w'.cell? ⟨w.heap.size + 1, 4, none⟩ = some (.int .i64 q2) ∧ w'.cell? ⟨w.heap.size + 1, 5, none⟩ = some (.int .i64 im) ∧ w'.cell? ⟨w.heap.size + 1, 6, none⟩ = some (.string lb) ∧ w'.cell? ⟨w.heap.size + 1, 7, none⟩ = some (.int .i64 n0) ∧ w'.cell? ⟨w.heap.size + 1 + 1, 0, none⟩ = some (.string s) ∧ w'.cell? ⟨w.heap.size + 1 + 1, 1, none⟩ = some (.int .i64 rd) ∧ w'.cell? ⟨w.heap.size + 1 + 1, 2, none⟩ = some (.int .i64 q1) ∧ w'.cell? ⟨w.heap.size + 1 + 1, 3, none⟩ = some (.int .i64 q2) ∧ w'.cell? ⟨w.heap.size + 1 + 1, 4, none⟩ = some (.int .i64 im)) (fun _ => true) mixedW (SFd.out _ (Below.refl _ _)) ?_
  intro S0
  generalize W4.drew = wd at *
  refine wpAnyN_take (i := 0) (v := ?_) rfl (by kernel_rfl) (by kernel_rfl) (by kernel_rfl) (by kernel_rfl) (fun _ _ _ h => h) (Or.inl ⟨by rfl, ?_⟩) S0 ?_
  rotate_left
  · intro w' hS'
    obtain ⟨h0, h1, h2, h3, h4, h5, h6, h7, h8, h9, h10, h11, h12, h13, h14⟩ := hS'
    (try go_simp)
    first | done | exact rfl | exact ⟨rfl, rfl⟩
  (try simp only [Act.put, List.getElem_toArray, List.getElem_cons_zero, List.setIfInBounds_toArray, List.set_cons_zero, List.set_cons_succ])
  refine wpAnyN_take (i := 1) (v := ?_) rfl (by kernel_rfl) (by kernel_rfl) (by kernel_rfl) (by kernel_rfl) (fun _ _ _ h => h) (Or.inl ⟨by rfl, ?_⟩) S0 ?_
  rotate_left
  · intro w' hS'
    obtain ⟨h0, h1, h2, h3, h4, h5, h6, h7, h8, h9, h10, h11, h12, h13, h14⟩ := hS'
    (try go_simp)
    first | done | exact rfl | exact ⟨rfl, rfl⟩
  (try simp only [Act.put, List.getElem_toArray, List.getElem_cons_succ, List.getElem_cons_zero, List.setIfInBounds_toArray, List.set_cons_zero, List.set_cons_succ])
  refine wpAnyN_take (i := 2) (v := ?_) rfl (by kernel_rfl) (by kernel_rfl) (by kernel_rfl) (by kernel_rfl) (fun _ _ _ h => h) (Or.inl ⟨by rfl, ?_⟩) S0 ?_
  rotate_left
  · intro w' hS'
    obtain ⟨h0, h1, h2, h3, h4, h5, h6, h7, h8, h9, h10, h11, h12, h13, h14⟩ := hS'
    (try go_simp)
    first | done | exact rfl | exact ⟨rfl, rfl⟩
  (try simp only [Act.put, List.getElem_toArray, List.getElem_cons_succ, List.getElem_cons_zero, List.setIfInBounds_toArray, List.set_cons_zero, List.set_cons_succ])
  refine wpAnyN_take (i := 3) (v := ?_) rfl (by kernel_rfl) (by kernel_rfl) (by kernel_rfl) (by kernel_rfl) (fun _ _ _ h => h) (Or.inl ⟨by rfl, ?_⟩) S0 ?_
  rotate_left
  · intro w' hS'
    obtain ⟨h0, h1, h2, h3, h4, h5, h6, h7, h8, h9, h10, h11, h12, h13, h14⟩ := hS'
    (try go_simp)
    first | done | exact rfl | exact ⟨rfl, rfl⟩
  (try simp only [Act.put, List.getElem_toArray, List.getElem_cons_succ, List.getElem_cons_zero, List.setIfInBounds_toArray, List.set_cons_zero, List.set_cons_succ])
  refine wpAnyN_one (i := 4) (by kernel_rfl) rfl (fun K hK => ?_)
  go_simp
  go_at_call 24
  refine (PW.out _ HBd.out).mono ?_
  rintro e w4 ⟨rfl, hb4⟩
  have C4 : Below wd.heap.size wd w4 := hb4
  have S5 := SFd.out w4 C4
  clear hb4
  go_wp2_with fail
  refine hK _ _ (fun _ => S5) ?_
  clear hK K
  (try simp only [Act.put, List.getElem_toArray, List.getElem_cons_succ, List.getElem_cons_zero, List.setIfInBounds_toArray, List.set_cons_zero, List.set_cons_succ])
  refine wpAnyN_one (i := 5) (by kernel_rfl) rfl (fun K hK => ?_)
  go_simp
  go_at_call 23
  refine (withImm_c _ _ _ _ _ _ _).mono ?_
  rintro e w5 ⟨rfl, hb5⟩
  have C5 : Below wd.heap.size wd w5 := below_next C4 hb5
  have S6 := SFd.out w5 C5
  clear hb5
  go_wp2_with fail
  refine hK _ _ (fun _ => S6) ?_
  clear hK K
  (try simp only [Act.put, List.getElem_toArray, List.getElem_cons_succ, List.getElem_cons_zero, List.setIfInBounds_toArray, List.set_cons_zero, List.set_cons_succ])
  refine wpAnyN_one (i := 6) (by kernel_rfl) rfl (fun K hK => ?_)
  go_simp
  go_at_call 21
  refine (word_c _ _ _ _ _ HS.out _).mono ?_
  rintro e w6 ⟨rfl, hb6⟩
  have C6 : Below wd.heap.size wd w6 := below_next C5 hb6
  have S7 := SFd.out w6 C6
  clear hb6
  go_wp2_with fail
  refine hK _ _ (fun _ => S7) ?_
  clear hK K
  (try simp only [Act.put, List.getElem_toArray, List.getElem_cons_succ, List.getElem_cons_zero, List.setIfInBounds_toArray, List.set_cons_zero, List.set_cons_succ])
  refine wpAnyN_one (i := 7) (by kernel_rfl) rfl (fun K hK => ?_)
  go_simp
  have S8 := SFd.out _ (below_next C6 (below_alloc w6 (.cells #[.int .u32 ((encF s.data.toList ⟨rd, q1, q2, wy⟩).getD 0)] 36)))
  refine hK _ _ (fun _ => S8) ?_
  clear hK K
  (try simp only [Act.put, List.getElem_toArray, List.getElem_cons_succ, List.getElem_cons_zero, List.setIfInBounds_toArray, List.set_cons_zero, List.set_cons_succ])
  refine wpAnyN_take (i := 8) (v := ?_) rfl (by kernel_rfl) (by kernel_rfl) (by kernel_rfl) (by kernel_rfl) (fun _ _ _ h => h) (Or.inl ⟨by rfl, ?_⟩) S8 ?_
  rotate_left
  · intro w' hS'
    obtain ⟨h0, h1, h2, h3, h4, h5, h6, h7, h8, h9, h10, h11, h12, h13, h14⟩ := hS'
    (try go_simp)
    first | done | exact rfl | exact ⟨rfl, rfl⟩
  (try simp only [Act.put, List.getElem_toArray, List.getElem_cons_succ, List.getElem_cons_zero, List.setIfInBounds_toArray, List.set_cons_zero, List.set_cons_succ])
  refine wpAnyN_done (by kernel_rfl) ?_ _
  go_wp2
  have B7 : Hid (Below w.heap.size w w6) := HBd.out.trans (C6.mono HBd.out.size)
  clear S0 S5 S6 S7 S8 C4 C5 C6 SF SFd
  go_ret
  exact ⟨_, 1, rfl, rows_one w6 _, B7.out.trans ((below_alloc _ _).mono B7.out.size)⟩

end Go.Proofs.Ytcdeckbobabdkaa
