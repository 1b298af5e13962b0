/-
  Proved: what placed.words answers of a long branch: two words.
-/
import Derived.Test.YtcdeckbobabdkaaAwords
namespace Go.Proofs.Ytcdeckbobabdkaa
open Go.RowKit
set_option linter.unusedVariables false
set_option linter.unusedSimpArgs false
set_option maxRecDepth 20000

theorem opp_len (s : Tx) : (opp s).length ≤ 4 := by
  unfold opp
  repeat (split; first | decide | skip)
  all_goals decide
set_option maxHeartbeats 4000000 in
theorem words_long (l : List Ln) (mb ab k : Nat) (L : Nat → Bool) (y : Ln) (hy : l[k]? = some y) (ok : LOk y) (w : World) (h : PlIn w l mb ab L) (hsm : Sml l) (hl : l.length ≤ 1000) (hk : y.k = 3) (hL : L k = true) :
    Calls Try.prog 11 #[plV l mb ab, .int .i64 (k : Int), .agg (lnC y).toArray] w (WdR w ([e1 (opp y.s.data.toList) (w0 y.i 8), e1 jalT ⟨0, 0, 0, way l L k - 4⟩])) := by
  have PW : Hid (∀ w', Below w.heap.size w w' → Calls Try.prog 24 #[plV l mb ab, .int .i64 (k : Int), .agg (lnC y).toArray] w' fun e w'' => e = .returned (.int .i64 (way l L k)) ∧ Below w'.heap.size w' w'') := fun w' hb => pway_c l mb ab k L y hy ok w' (h.below hb) hsm hl
  unfold plV at PW
  have HS : Hid (y.s.size ≤ maxLen) := ok.1
  have hlt := (List.getElem?_eq_some_iff.1 hy).1
  have z1 : ab < w.heap.size := GZ.lt h.2
  have z2 : ab < w.heap.size + 1 := by omega
  have z3 : ab < w.heap.size + 1 + 1 := by omega
  have dk : w.cell? ⟨ab, k, none⟩ = some (.int .i64 (atP l L k)) := GZ.cell h.2 k (by omega)
  have dk1 : w.cell? ⟨ab, k + 1, none⟩ = some (.int .i64 (atP l L (k + 1))) := GZ.cell h.2 (k + 1) (by omega)
  have hst : atP l L (k + 1) = atP l L k + (4 + if L k then 4 else 0) := by
    show atP l L k + (shA l k + if L k then 4 else 0) = _
    unfold shA
    rw [hy]
    simp [shB, hk]
  have pk := atP_in hsm L (p := k) (by omega)
  have hkz : (k : Int) < (l.length : Int) + 1 := by omega
  have hkz1 : (k : Int) + 1 < (l.length : Int) + 1 := by omega
  have hkz2 : (k : Int) < (l.length : Int) := by omega
  have hkz3 : (0 : Int) ≤ (k : Int) + 1 := by omega
  have wk1 : IntKind.i64.wrap ((k : Int) + 1) = (k : Int) + 1 := wrap_in _ (by omega)
  rw [hL] at hst
  simp only [if_true] at hst
  rw [hst] at dk1
  have wk : IntKind.i64.wrap (atP l L k + (4 + 4) - atP l L k) = 8 := by rw [show atP l L k + (4 + 4) - atP l L k = 8 by omega]; exact wrap_in _ (by omega)
  have wk2 : atP l L k + (4 + 4) - atP l L k = 8 := by omega
  have hgl := goal_in l k hlt
  have pg := atP_in hsm L (p := goal l k) (by omega)
  have hwy : -5000000 ≤ way l L k ∧ way l L k ≤ 5000000 := by unfold way; omega
  have wz : IntKind.i64.wrap (way l L k - 4) = way l L k - 4 := wrap_in _ (by omega)
  obtain ⟨t, ht, OC⟩ := opposite_t y.s
  have OC : Hid (∀ w, Calls Try.prog 25 #[.string y.s] w fun e w' => e = .returned (.string t) ∧ Below w.heap.size w w') := OC
  have HT : Hid (t.size ≤ maxLen) := (show _ ≤ _ by
    have h1 : t.size = t.data.toList.length := (Array.length_toList).symm
    have h2 := opp_len y.s.data.toList
    rw [← ht] at h2
    unfold maxLen
    omega)
  rw [← ht]
  clear ht hgl pg hwy
  unfold plV
  obtain ⟨k0, s, ⟨rd, q1, q2, im⟩, lb, n0⟩ := y
  simp only [lnC, w0] at *
  subst hk
  have AP : Hid (At (((w.alloc (.cells #[.map (some mb), .slice (some ⟨ab, 0, none⟩) (l.length + 1) (l.length + 1)] 42)).alloc (.cells #[.int .i64 3, .string s, .int .i64 rd, .int .i64 q1, .int .i64 q2, .int .i64 im, .string lb, .int .i64 n0] 30)).alloc (.cells #[.string s, .int .i64 rd, .int .i64 q1, .int .i64 q2, .int .i64 im] 28)) w.heap.size #[.map (some mb), .slice (some ⟨ab, 0, none⟩) (l.length + 1) (l.length + 1)] 42) := ((At.new w _ _).al _).al _
  have AL : Hid (At (((w.alloc (.cells #[.map (some mb), .slice (some ⟨ab, 0, none⟩) (l.length + 1) (l.length + 1)] 42)).alloc (.cells #[.int .i64 3, .string s, .int .i64 rd, .int .i64 q1, .int .i64 q2, .int .i64 im, .string lb, .int .i64 n0] 30)).alloc (.cells #[.string s, .int .i64 rd, .int .i64 q1, .int .i64 q2, .int .i64 im] 28)) (w.heap.size + 1) #[.int .i64 3, .string s, .int .i64 rd, .int .i64 q1, .int .i64 q2, .int .i64 im, .string lb, .int .i64 n0] 30) := (At.newS _ _ _ (by simp)).al _
  have AI : Hid (At (((w.alloc (.cells #[.map (some mb), .slice (some ⟨ab, 0, none⟩) (l.length + 1) (l.length + 1)] 42)).alloc (.cells #[.int .i64 3, .string s, .int .i64 rd, .int .i64 q1, .int .i64 q2, .int .i64 im, .string lb, .int .i64 n0] 30)).alloc (.cells #[.string s, .int .i64 rd, .int .i64 q1, .int .i64 q2, .int .i64 im] 28)) (w.heap.size + 1 + 1) #[.string s, .int .i64 rd, .int .i64 q1, .int .i64 q2, .int .i64 im] 28) := At.newS _ _ _ (by simp)
  have HB3 : Hid (Below w.heap.size w (((w.alloc (.cells #[.map (some mb), .slice (some ⟨ab, 0, none⟩) (l.length + 1) (l.length + 1)] 42)).alloc (.cells #[.int .i64 3, .string s, .int .i64 rd, .int .i64 q1, .int .i64 q2, .int .i64 im, .string lb, .int .i64 n0] 30)).alloc (.cells #[.string s, .int .i64 rd, .int .i64 q1, .int .i64 q2, .int .i64 im] 28))) := below_next (below_two _ _ _) (below_alloc _ _)
  have BLQ : Hid (∀ nq w', Below ((((w.alloc (.cells #[.map (some mb), .slice (some ⟨ab, 0, none⟩) (l.length + 1) (l.length + 1)] 42)).alloc (.cells #[.int .i64 3, .string s, .int .i64 rd, .int .i64 q1, .int .i64 q2, .int .i64 im, .string lb, .int .i64 n0] 30)).alloc (.cells #[.string s, .int .i64 rd, .int .i64 q1, .int .i64 q2, .int .i64 im] 28)).drewN nq).heap.size ((((w.alloc (.cells #[.map (some mb), .slice (some ⟨ab, 0, none⟩) (l.length + 1) (l.length + 1)] 42)).alloc (.cells #[.int .i64 3, .string s, .int .i64 rd, .int .i64 q1, .int .i64 q2, .int .i64 im, .string lb, .int .i64 n0] 30)).alloc (.cells #[.string s, .int .i64 rd, .int .i64 q1, .int .i64 q2, .int .i64 im] 28)).drewN nq) w' → Below (((w.alloc (.cells #[.map (some mb), .slice (some ⟨ab, 0, none⟩) (l.length + 1) (l.length + 1)] 42)).alloc (.cells #[.int .i64 3, .string s, .int .i64 rd, .int .i64 q1, .int .i64 q2, .int .i64 im, .string lb, .int .i64 n0] 30)).alloc (.cells #[.string s, .int .i64 rd, .int .i64 q1, .int .i64 q2, .int .i64 im] 28)).heap.size (((w.alloc (.cells #[.map (some mb), .slice (some ⟨ab, 0, none⟩) (l.length + 1) (l.length + 1)] 42)).alloc (.cells #[.int .i64 3, .string s, .int .i64 rd, .int .i64 q1, .int .i64 q2, .int .i64 im, .string lb, .int .i64 n0] 30)).alloc (.cells #[.string s, .int .i64 rd, .int .i64 q1, .int .i64 q2, .int .i64 im] 28)) w') := fun nq w' hw => (below_drewN _ nq).trans (hw.mono (Nat.le_refl _))
  generalize way l L k = wy at *
  generalize atP l L k = pk0 at *
  clear h hsm ok hy hst HS
  have W6 : Hid (∀ nq w5, Below ((((w.alloc (.cells #[.map (some mb), .slice (some ⟨ab, 0, none⟩) (l.length + 1) (l.length + 1)] 42)).alloc (.cells #[.int .i64 3, .string s, .int .i64 rd, .int .i64 q1, .int .i64 q2, .int .i64 im, .string lb, .int .i64 n0] 30)).alloc (.cells #[.string s, .int .i64 rd, .int .i64 q1, .int .i64 q2, .int .i64 im] 28)).drewN nq).heap.size ((((w.alloc (.cells #[.map (some mb), .slice (some ⟨ab, 0, none⟩) (l.length + 1) (l.length + 1)] 42)).alloc (.cells #[.int .i64 3, .string s, .int .i64 rd, .int .i64 q1, .int .i64 q2, .int .i64 im, .string lb, .int .i64 n0] 30)).alloc (.cells #[.string s, .int .i64 rd, .int .i64 q1, .int .i64 q2, .int .i64 im] 28)).drewN nq) w5 → At (w5.setCell ⟨w.heap.size + 1 + 1, 0, none⟩ (.string t)) w.heap.size #[.map (some mb), .slice (some ⟨ab, 0, none⟩) (l.length + 1) (l.length + 1)] 42 ∧ At (w5.setCell ⟨w.heap.size + 1 + 1, 0, none⟩ (.string t)) (w.heap.size + 1) #[.int .i64 3, .string s, .int .i64 rd, .int .i64 q1, .int .i64 q2, .int .i64 im, .string lb, .int .i64 n0] 30 ∧ At (w5.setCell ⟨w.heap.size + 1 + 1, 0, none⟩ (.string t)) (w.heap.size + 1 + 1) #[.string t, .int .i64 rd, .int .i64 q1, .int .i64 q2, .int .i64 im] 28 ∧ Below w.heap.size w (w5.setCell ⟨w.heap.size + 1 + 1, 0, none⟩ (.string t)) ∧ At w5 (w.heap.size + 1 + 1) #[.string s, .int .i64 rd, .int .i64 q1, .int .i64 q2, .int .i64 im] 28) := fun nq w5 hb => by
    have hb := BLQ.out nq w5 hb
    have kk := Kp.set (F := fun c => c = w.heap.size + 1 + 1) w5 (b := w.heap.size + 1 + 1) 0 (.string t) rfl
    have a1 := AP.out.below hb AP.out.lt
    have a2 := AL.out.below hb AL.out.lt
    have a3 := AI.out.below hb AI.out.lt
    have b5 := HB3.out.trans (hb.mono HB3.out.size)
    exact ⟨kk.at a1 (by omega), kk.at a2 (by omega), At.set (j := 0) a3 (.string t), b5.trans (Kp.below kk b5.size fun b hb => by omega), a3⟩
  clear AP AL AI BLQ
  have e84 : ¬ (8 : Int) = 4 := by decide
  go_enter Try.func11, Try.ntmps11
  go_wp2
  go_quiet (fail)
  have W6' : Hid (∀ w5, Below ((((w.alloc (.cells #[.map (some mb), .slice (some ⟨ab, 0, none⟩) (l.length + 1) (l.length + 1)] 42)).alloc (.cells #[.int .i64 3, .string s, .int .i64 rd, .int .i64 q1, .int .i64 q2, .int .i64 im, .string lb, .int .i64 n0] 30)).alloc (.cells #[.string s, .int .i64 rd, .int .i64 q1, .int .i64 q2, .int .i64 im] 28)).drewN nq).heap.size ((((w.alloc (.cells #[.map (some mb), .slice (some ⟨ab, 0, none⟩) (l.length + 1) (l.length + 1)] 42)).alloc (.cells #[.int .i64 3, .string s, .int .i64 rd, .int .i64 q1, .int .i64 q2, .int .i64 im, .string lb, .int .i64 n0] 30)).alloc (.cells #[.string s, .int .i64 rd, .int .i64 q1, .int .i64 q2, .int .i64 im] 28)).drewN nq) w5 → _) := fun w5 h => W6.out nq w5 h
  clear W6 dk dk1
  go_wp2_with (first | (go_at_call 25; refine (OC.out _).mono ?_; rintro e w5 ⟨rfl, hb⟩; obtain ⟨g1, g2, g3, g4, g5⟩ := W6'.out w5 hb; have i0 : w5.cell? ⟨w.heap.size + 1 + 1, 0, none⟩ = some (.string s) := g5.cell 0; have fz := g5.frozen 0; have B6 : Hid (Below w.heap.size w (w5.setCell ⟨w.heap.size + 1 + 1, 0, none⟩ (.string t))) := g4; have A6 : Hid (At (w5.setCell ⟨w.heap.size + 1 + 1, 0, none⟩ (.string t)) (w.heap.size + 1 + 1) #[.string t, .int .i64 rd, .int .i64 q1, .int .i64 q2, .int .i64 im] 28) := g3; have j0 : (w5.setCell ⟨w.heap.size + 1 + 1, 0, none⟩ (.string t)).cell? ⟨w.heap.size, 0, none⟩ = some (.map (some mb)) := g1.cell 0; have j1 : (w5.setCell ⟨w.heap.size + 1 + 1, 0, none⟩ (.string t)).cell? ⟨w.heap.size, 1, none⟩ = some (.slice (some ⟨ab, 0, none⟩) (l.length + 1) (l.length + 1)) := g1.cell 1; have h0 : (w5.setCell ⟨w.heap.size + 1 + 1, 0, none⟩ (.string t)).cell? ⟨w.heap.size + 1, 0, none⟩ = some (.int .i64 3) := g2.cell 0; have h1 : (w5.setCell ⟨w.heap.size + 1 + 1, 0, none⟩ (.string t)).cell? ⟨w.heap.size + 1, 1, none⟩ = some (.string s) := g2.cell 1; have h2 : (w5.setCell ⟨w.heap.size + 1 + 1, 0, none⟩ (.string t)).cell? ⟨w.heap.size + 1, 2, none⟩ = some (.int .i64 rd) := g2.cell 2; have h3 : (w5.setCell ⟨w.heap.size + 1 + 1, 0, none⟩ (.string t)).cell? ⟨w.heap.size + 1, 3, none⟩ = some (.int .i64 q1) := g2.cell 3; have h4 : (w5.setCell ⟨w.heap.size + 1 + 1, 0, none⟩ (.string t)).cell? ⟨w.heap.size + 1, 4, none⟩ = some (.int .i64 q2) := g2.cell 4; have h5 : (w5.setCell ⟨w.heap.size + 1 + 1, 0, none⟩ (.string t)).cell? ⟨w.heap.size + 1, 5, none⟩ = some (.int .i64 im) := g2.cell 5; have h6 : (w5.setCell ⟨w.heap.size + 1 + 1, 0, none⟩ (.string t)).cell? ⟨w.heap.size + 1, 6, none⟩ = some (.string lb) := g2.cell 6; have h7 : (w5.setCell ⟨w.heap.size + 1 + 1, 0, none⟩ (.string t)).cell? ⟨w.heap.size + 1, 7, none⟩ = some (.int .i64 n0) := g2.cell 7;  clear g1 g2 g3 g4 g5 hb W6') | (go_at_call 24; refine (PW.out _ B6.out).mono ?_; rintro e w7 ⟨rfl, hb⟩; have B7 : Hid (Below w.heap.size w w7) := B6.out.trans (hb.mono B6.out.size); have A7 : Hid (At w7 (w.heap.size + 1 + 1) #[.string t, .int .i64 rd, .int .i64 q1, .int .i64 q2, .int .i64 im] 28) := A6.out.below hb A6.out.lt; clear hb))
  have B8 : Hid (Below w.heap.size w (w7.alloc (.cells #[.string ⟨#[106, 97, 108]⟩, .int .i64 0, .int .i64 0, .int .i64 0, .int .i64 (wy - 4)] 28))) := B7.out.trans ((below_alloc _ _).mono B7.out.size)
  have SF : Hid (∀ w', Below (w7.alloc (.cells #[.string ⟨#[106, 97, 108]⟩, .int .i64 0, .int .i64 0, .int .i64 0, .int .i64 (wy - 4)] 28)).heap.size (w7.alloc (.cells #[.string ⟨#[106, 97, 108]⟩, .int .i64 0, .int .i64 0, .int .i64 0, .int .i64 (wy - 4)] 28)) w' → w'.cell? ⟨w.heap.size + 1 + 1, 0, none⟩ = some (.string t) ∧ w'.cell? ⟨w.heap.size + 1 + 1, 1, none⟩ = some (.int .i64 rd) ∧ w'.cell? ⟨w.heap.size + 1 + 1, 2, none⟩ = some (.int .i64 q1) ∧ w'.cell? ⟨w.heap.size + 1 + 1, 3, none⟩ = some (.int .i64 q2) ∧ w'.cell? ⟨w.heap.size + 1 + 1, 4, none⟩ = some (.int .i64 im) ∧ w'.cell? ⟨w7.heap.size, 0, none⟩ = some (.string ⟨#[106, 97, 108]⟩) ∧ w'.cell? ⟨w7.heap.size, 1, none⟩ = some (.int .i64 0) ∧ w'.cell? ⟨w7.heap.size, 2, none⟩ = some (.int .i64 0) ∧ w'.cell? ⟨w7.heap.size, 3, none⟩ = some (.int .i64 0) ∧ w'.cell? ⟨w7.heap.size, 4, none⟩ = some (.int .i64 (wy - 4))) := fun w' hw => by
    have a1 := (A7.out.al _).below hw (A7.out.al _).lt
    have a2 := (At.new w7 #[.string ⟨#[106, 97, 108]⟩, .int .i64 0, .int .i64 0, .int .i64 0, .int .i64 (wy - 4)] 28).below hw (At.new w7 _ _).lt
    exact ⟨a1.cell 0, a1.cell 1, a1.cell 2, a1.cell 3, a1.cell 4, a2.cell 0, a2.cell 1, a2.cell 2, a2.cell 3, a2.cell 4⟩
  generalize w7.alloc (.cells #[.string ⟨#[106, 97, 108]⟩, .int .i64 0, .int .i64 0, .int .i64 0, .int .i64 (wy - 4)] 28) = W4 at *
  have SFd : Hid (∀ w', Below W4.drew.heap.size W4.drew w' → w'.cell? ⟨w.heap.size + 1 + 1, 0, none⟩ = some (.string t) ∧ w'.cell? ⟨w.heap.size + 1 + 1, 1, none⟩ = some (.int .i64 rd) ∧ w'.cell? ⟨w.heap.size + 1 + 1, 2, none⟩ = some (.int .i64 q1) ∧ w'.cell? ⟨w.heap.size + 1 + 1, 3, none⟩ = some (.int .i64 q2) ∧ w'.cell? ⟨w.heap.size + 1 + 1, 4, none⟩ = some (.int .i64 im) ∧ w'.cell? ⟨w7.heap.size, 0, none⟩ = some (.string ⟨#[106, 97, 108]⟩) ∧ w'.cell? ⟨w7.heap.size, 1, none⟩ = some (.int .i64 0) ∧ w'.cell? ⟨w7.heap.size, 2, none⟩ = some (.int .i64 0) ∧ w'.cell? ⟨w7.heap.size, 3, none⟩ = some (.int .i64 0) ∧ w'.cell? ⟨w7.heap.size, 4, none⟩ = some (.int .i64 (wy - 4))) := fun w' hw => SF.out w' ((below_drew W4).trans (hw.mono (Nat.le_refl _)))
  have HBd : Hid (Below w.heap.size w W4.drew) := B8.out.trans ((below_drew W4).mono B8.out.size)
  refine wp_region_N (fun w' => w'.cell? ⟨w.heap.size + 1 + 1, 0, none⟩ = some (.string t) ∧ w'.cell? ⟨w.heap.size + 1 + 1, 1, none⟩ = some (.int .i64 rd) ∧ w'.cell? ⟨w.heap.size + 1 + 1, 2, none⟩ = some (.int .i64 q1) ∧ w'.cell? ⟨w.heap.size + 1 + 1, 3, none⟩ = some (.int .i64 q2) ∧ w'.cell? ⟨w.heap.size + 1 + 1, 4, none⟩ = some (.int .i64 im) ∧ w'.cell? ⟨w7.heap.size, 0, none⟩ = some (.string ⟨#[106, 97, 108]⟩) ∧ w'.cell? ⟨w7.heap.size, 1, none⟩ = some (.int .i64 0) ∧ w'.cell? ⟨w7.heap.size, 2, none⟩ = some (.int .i64 0) ∧ w'.cell? ⟨w7.heap.size, 3, none⟩ = some (.int .i64 0) ∧ w'.cell? ⟨w7.heap.size, 4, none⟩ = some (.int .i64 (wy - 4))) (fun _ => true) mixedW (SFd.out _ (Below.refl _ _)) ?_
  intro S0
  generalize W4.drew = wd at *
  refine wpAnyN_take (i := 0) (v := ?_) rfl (by kernel_rfl) (by kernel_rfl) (by kernel_rfl) (by kernel_rfl) (fun _ _ _ h => h) (Or.inl ⟨by rfl, ?_⟩) S0 ?_
  rotate_left
  · intro w' hS'
    obtain ⟨h0, h1, h2, h3, h4, h5, h6, h7, h8, h9⟩ := hS'
    (try go_simp)
    first | done | exact rfl | exact ⟨rfl, rfl⟩
  (try simp only [Act.put, List.getElem_toArray, List.getElem_cons_zero, List.setIfInBounds_toArray, List.set_cons_zero, List.set_cons_succ])
  refine wpAnyN_take (i := 3) (v := ?_) rfl (by kernel_rfl) (by kernel_rfl) (by kernel_rfl) (by kernel_rfl) (fun _ _ _ h => h) (Or.inl ⟨by rfl, ?_⟩) S0 ?_
  rotate_left
  · intro w' hS'
    obtain ⟨h0, h1, h2, h3, h4, h5, h6, h7, h8, h9⟩ := hS'
    (try go_simp)
    first | done | exact rfl | exact ⟨rfl, rfl⟩
  (try simp only [Act.put, List.getElem_toArray, List.getElem_cons_succ, List.getElem_cons_zero, List.setIfInBounds_toArray, List.set_cons_zero, List.set_cons_succ])
  refine wpAnyN_one (i := 1) (by kernel_rfl) rfl (fun K hK => ?_)
  go_simp
  go_at_call 23
  refine (withImm_c _ _ _ _ _ _ _).mono ?_
  rintro e w10 ⟨rfl, hb10⟩
  have C10 : Below wd.heap.size wd w10 := hb10
  have S2 := SFd.out w10 C10
  clear hb10
  go_wp2_with fail
  refine hK _ _ (fun _ => S2) ?_
  clear hK K
  (try simp only [Act.put, List.getElem_toArray, List.getElem_cons_succ, List.getElem_cons_zero, List.setIfInBounds_toArray, List.set_cons_zero, List.set_cons_succ])
  refine wpAnyN_one (i := 2) (by kernel_rfl) rfl (fun K hK => ?_)
  go_simp
  go_at_call 21
  refine (word_c _ _ _ _ _ HT.out _).mono ?_
  rintro e w11 ⟨rfl, hb11⟩
  have C11 : Below wd.heap.size wd w11 := below_next C10 hb11
  have S3 := SFd.out w11 C11
  clear hb11
  go_wp2_with fail
  refine hK _ _ (fun _ => S3) ?_
  clear hK K
  (try simp only [Act.put, List.getElem_toArray, List.getElem_cons_succ, List.getElem_cons_zero, List.setIfInBounds_toArray, List.set_cons_zero, List.set_cons_succ])
  refine wpAnyN_one (i := 4) (by kernel_rfl) rfl (fun K hK => ?_)
  go_simp
  go_at_call 21
  refine (word_c _ _ _ _ _ (by decide) _).mono ?_
  rintro e w12 ⟨rfl, hb12⟩
  have C12 : Below wd.heap.size wd w12 := below_next C11 hb12
  have S5 := SFd.out w12 C12
  clear hb12
  go_wp2_with fail
  refine hK _ _ (fun _ => S5) ?_
  clear hK K
  (try simp only [Act.put, List.getElem_toArray, List.getElem_cons_succ, List.getElem_cons_zero, List.setIfInBounds_toArray, List.set_cons_zero, List.set_cons_succ])
  refine wpAnyN_one (i := 5) (by kernel_rfl) rfl (fun K hK => ?_)
  go_simp
  have S6 := SFd.out _ (below_next C12 (below_alloc w12 (.cells #[.int .u32 ((encF t.data.toList ⟨rd, q1, q2, 8⟩).getD 0), .int .u32 ((encF [106, 97, 108] ⟨0, 0, 0, wy - 4⟩).getD 0)] 36)))
  refine hK _ _ (fun _ => S6) ?_
  clear hK K
  (try simp only [Act.put, List.getElem_toArray, List.getElem_cons_succ, List.getElem_cons_zero, List.setIfInBounds_toArray, List.set_cons_zero, List.set_cons_succ])
  refine wpAnyN_take (i := 6) (v := ?_) rfl (by kernel_rfl) (by kernel_rfl) (by kernel_rfl) (by kernel_rfl) (fun _ _ _ h => h) (Or.inl ⟨by rfl, ?_⟩) S6 ?_
  rotate_left
  · intro w' hS'
    obtain ⟨h0, h1, h2, h3, h4, h5, h6, h7, h8, h9⟩ := hS'
    (try go_simp)
    first | done | exact rfl | exact ⟨rfl, rfl⟩
  (try simp only [Act.put, List.getElem_toArray, List.getElem_cons_succ, List.getElem_cons_zero, List.setIfInBounds_toArray, List.set_cons_zero, List.set_cons_succ])
  refine wpAnyN_done (by kernel_rfl) ?_ _
  go_wp2
  have B13 : Hid (Below w.heap.size w w12) := HBd.out.trans (C12.mono HBd.out.size)
  clear S0 S2 S3 S5 S6 C10 C11 C12 SF SFd
  go_ret
  exact ⟨_, 2, rfl, rows_two w12 _ _, B13.out.trans ((below_alloc _ _).mono B13.out.size)⟩
end Go.Proofs.Ytcdeckbobabdkaa
