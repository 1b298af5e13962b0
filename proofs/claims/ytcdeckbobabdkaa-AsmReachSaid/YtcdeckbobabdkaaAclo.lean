/-
  Proved: what longOnes' closures answer: how far it is from a branch to its label, and whether that is too far for a short one.
-/
import Derived.Test.YtcdeckbobabdkaaAbr
import Derived.Test.YtcdeckbobabdkaaAbm
import Derived.Laws.EntriesVeiled
import Derived.BigQuiet
namespace Go.Proofs.Ytcdeckbobabdkaa
open Go.RowKit
set_option linter.unusedVariables false
set_option linter.unusedSimpArgs false
set_option maxRecDepth 20000

/-- Where the rows and the variables lie. -/
structure Bk where
  A : Option Addr
  C : Nat
  rb : Nat
  gb : Nat
  pb : Nat
  pl : Nat
  pg : Nat
  pw : Nat
def wayV (b : Bk) : Value := .func (.func 32) #[] #[.pointer (some ⟨b.pb, 0, none⟩), .pointer (some ⟨b.pg, 0, none⟩)]
def farV (b : Bk) : Value := .func (.func 33) #[] #[.pointer (some ⟨b.pl, 0, none⟩), .pointer (some ⟨b.pb, 0, none⟩), .pointer (some ⟨b.pw, 0, none⟩)]
/-- All that the closures stand on: branches, which are long (L), how many bytes those ahead grew (by M). -/
def LE (w : World) (l : List Ln) (b : Bk) (L M : Nat → Bool) : Prop :=
  At w b.pb #[.slice b.A (brs l l.length).length b.C] 73 ∧ At w b.pl #[.slice (some ⟨b.rb, 0, none⟩) l.length l.length] 60 ∧ At w b.pg #[.slice (some ⟨b.gb, 0, none⟩) ((brs l l.length).length + 1) ((brs l l.length).length + 1)] 31 ∧ At w b.pw #[wayV b] 78 ∧
  BrIn w l b.A ∧ BZ w b.rb l.length L ∧ IZ w b.gb ((brs l l.length).length + 1) (gr l l.length M) ∧ (∀ bb o, b.A = some ⟨bb, o, none⟩ → 0 < (brs l l.length).length → bb ≠ b.rb ∧ bb ≠ b.gb)

theorem LE.drewN {w : World} {l : List Ln} {b : Bk} {L M : Nat → Bool} (h : LE w l b L M) (n : Nat) : LE (w.drewN n) l b L M := by
  obtain ⟨h1, h2, h3, h4, h5, h6, h7, h8⟩ := h
  have k := below_drewN w n
  exact ⟨h1.below k h1.lt, h2.below k h2.lt, h3.below k h3.lt, h4.below k h4.lt, h5.below k, h6.below k (GZ.lt h6), h7.below k (GZ.lt h7), h8⟩
theorem LE.below {w w' : World} {l : List Ln} {b : Bk} {L M : Nat → Bool} (h : LE w l b L M) (k : Below w.heap.size w w') : LE w' l b L M := by
  obtain ⟨h1, h2, h3, h4, h5, h6, h7, h8⟩ := h
  exact ⟨h1.below k h1.lt, h2.below k h2.lt, h3.below k h3.lt, h4.below k h4.lt, h5.below k, h6.below k (GZ.lt h6), h7.below k (GZ.lt h7), h8⟩
theorem rows_kp {α : Type} {F : Nat → Prop} {w w' : World} {size : Nat} {enc : α → List Value} {l : List α} {A : Option Addr} (h : RowsIn w size enc l A) (k : Kp F w w') (hF : ∀ bb o, A = some ⟨bb, o, none⟩ → 0 < l.length → ¬ F bb) : RowsIn w' size enc l A := fun i hi => by
  obtain ⟨bb, o, e, h1, h2⟩ := h i hi
  refine ⟨bb, o, e, by have := k.1.size; omega, fun j v hv => ?_⟩
  have h3 := h2 j v hv
  have h4 := k.2 bb h1 (hF bb o e (by omega))
  simp only [World.cell?, h4] at h3 ⊢
  exact h3
theorem brs_filter (l : List Ln) : (List.range l.length).filter (isB l) = brs l l.length := rfl
theorem LE.setL {w : World} {l : List Ln} {b : Bk} {L M : Nat → Bool} (h : LE w l b L M) {j : Nat} (hj : j < l.length) (x : Bool) : LE (w.setCell ⟨b.rb, j, none⟩ (.bool x)) l b (pu L j x) M ∧ Kp (fun c => c = b.rb) w (w.setCell ⟨b.rb, j, none⟩ (.bool x)) := by
  obtain ⟨h1, h2, h3, h4, h5, h6, h7, h8⟩ := h
  have k := Kp.set (F := fun c => c = b.rb) w (b := b.rb) j (.bool x) rfl
  obtain ⟨cs, hcs, _⟩ := id h6
  obtain ⟨ds, hds, _⟩ := id h7
  refine ⟨⟨k.at h1 (At.type h1 hcs (by decide)), k.at h2 (At.type h2 hcs (by decide)), k.at h3 (At.type h3 hcs (by decide)), k.at h4 (At.type h4 hcs (by decide)), rows_kp h5 k fun bb o e hp => (h8 bb o e hp).1, h6.set j hj x, GZ.kp h7 k (At.type hds hcs (by decide)), h8⟩, k⟩
theorem LE.setG {w : World} {l : List Ln} {b : Bk} {L M : Nat → Bool} {f' : Nat → Bool} (h : LE w l b L M) {w' : World} (k : Kp (fun c => c = b.gb) w w') (hz : IZ w' b.gb ((brs l l.length).length + 1) (gr l l.length f')) : LE w' l b L f' := by
  obtain ⟨h1, h2, h3, h4, h5, h6, h7, h8⟩ := h
  obtain ⟨cs, hcs, _⟩ := id h6
  obtain ⟨ds, hds, _⟩ := id h7
  exact ⟨k.at h1 (At.type h1 hds (by decide)), k.at h2 (At.type h2 hds (by decide)), k.at h3 (At.type h3 hds (by decide)), k.at h4 (At.type h4 hds (by decide)), rows_kp h5 k fun bb o e hp => (h8 bb o e hp).2, GZ.kp h6 k (At.type hcs hds (by decide)), hz, h8⟩
theorem br_cells {w : World} {l : List Ln} {A : Option Addr} (h : BrIn w l A) {k j : Nat} (hk : (brs l l.length)[k]? = some j) : ∃ b o, A = some ⟨b, o, none⟩ ∧ b < w.heap.size ∧ w.cell? ⟨b, o + k * 3, none⟩ = some (.int .i64 (j : Int)) ∧ w.cell? ⟨b, o + k * 3 + 1, none⟩ = some (.int .i64 (way l (fun _ => false) j)) ∧ w.cell? ⟨b, o + k * 3 + 2, none⟩ = some (.int .i64 (cn (isB l) (goal l j) : Int)) := by
  obtain ⟨hlt, rfl⟩ := List.getElem?_eq_some_iff.1 hk
  obtain ⟨b, o, e, h1, h2⟩ := h k hlt
  exact ⟨b, o, e, h1, h2 0 _ rfl, h2 1 _ rfl, h2 2 _ rfl⟩

set_option maxHeartbeats 2000000 in
theorem way_c (l : List Ln) (b : Bk) (L M : Nat → Bool) (k j : Nat) (w : World) (h : LE w l b L M) (hM : ∀ j, M j = true → isB l j = true) (hk : (brs l l.length)[k]? = some j) (hsm : Sml l) (hl : l.length ≤ 1000) :
    Calls Try.prog 32 #[.int .i64 (k : Int), .pointer (some ⟨b.pb, 0, none⟩), .pointer (some ⟨b.pg, 0, none⟩)] w fun e w' => e = .returned (.int .i64 (way l M j)) ∧ ∃ m, w' = w.drewN m := by
  obtain ⟨h1, h2, h3, h4, h5, h6, h7, h8⟩ := h
  obtain ⟨bb, o, hA, hbb, c0, c1, c2⟩ := br_cells h5 hk
  have hj := brs_in hk
  have hkl : k < (brs l l.length).length := (List.getElem?_eq_some_iff.1 hk).1
  have hg := goal_in l j hj.1
  have hcg : cn (isB l) (goal l j) ≤ (brs l l.length).length := by rw [brs_len]; exact cn_mono _ (by omega)
  have g1 : w.cell? ⟨b.gb, cn (isB l) (goal l j), none⟩ = some (.int .i64 (gr l l.length M (cn (isB l) (goal l j)))) := GZ.cell h7 _ (by omega)
  have g2 : w.cell? ⟨b.gb, k, none⟩ = some (.int .i64 (gr l l.length M k)) := GZ.cell h7 _ (by omega)
  have hw := way_gr hM hk (by omega : goal l j ≤ l.length)
  have i1 := gc_le l l.length M (cn (isB l) (goal l j))
  have i2 := gc_le l l.length M k
  have p1 := atP_in hsm (fun _ => false) (p := goal l j) (by omega)
  have p2 := atP_in hsm (fun _ => false) (p := j) (by omega)
  have d1 : w.cell? ⟨b.pb, 0, none⟩ = some (.slice (some ⟨bb, o, none⟩) (brs l l.length).length b.C) := by rw [← hA]; exact h1.cell 0
  have d3 : w.cell? ⟨b.pg, 0, none⟩ = some (.slice (some ⟨b.gb, 0, none⟩) ((brs l l.length).length + 1) ((brs l l.length).length + 1)) := h3.cell 0
  have wz1 : IntKind.i64.wrap (way l (fun _ => false) j + gr l l.length M (cn (isB l) (goal l j))) = way l (fun _ => false) j + gr l l.length M (cn (isB l) (goal l j)) := wrap_in _ (by unfold way gr; omega)
  have wz2 : IntKind.i64.wrap (way l (fun _ => false) j + gr l l.length M (cn (isB l) (goal l j)) - gr l l.length M k) = way l M j := by rw [hw]; exact wrap_in _ (by rw [← hw]; unfold way gr; omega)
  have HL : ((cn (isB l) (goal l j) : Nat) : Int) < ((brs l l.length).length : Int) + 1 := by omega
  have HK : (k : Int) < ((brs l l.length).length : Int) + 1 := by omega
  have HK2 : (k : Int) < ((brs l l.length).length : Int) := by omega
  clear h1 h2 h3 h4 h5 h6 h7 h8 hA hk hM hw i1 i2 p1 p2 hg hcg hj
  generalize gr l l.length M (cn (isB l) (goal l j)) = ga at *
  generalize gr l l.length M k = gk at *
  generalize way l (fun _ => false) j = wy at *
  generalize way l M j = wm at *
  generalize cn (isB l) (goal l j) = c at *
  generalize (brs l l.length).length = m at *
  go_enter Try.func32, Try.ntmps32
  go_wp2
  go_quiet (fail)
  go_wp2
  go_ret
  exact ⟨by rw [← wz2]; rfl, _, rfl⟩

set_option maxHeartbeats 2000000 in
theorem far_c (l : List Ln) (b : Bk) (L M : Nat → Bool) (k j : Nat) (w : World) (h : LE w l b L M) (hM : ∀ j, M j = true → isB l j = true) (hk : (brs l l.length)[k]? = some j) (hsm : Sml l) (hl : l.length ≤ 1000) :
    Calls Try.prog 33 #[.int .i64 (k : Int), .pointer (some ⟨b.pl, 0, none⟩), .pointer (some ⟨b.pb, 0, none⟩), .pointer (some ⟨b.pw, 0, none⟩)] w fun e w' => e = .returned (.bool (!L j && decide (far (way l M j)))) ∧ ∃ m, w' = w.drewN m := by
  have WC : Hid (∀ n, Calls Try.prog 32 #[.int .i64 (k : Int), .pointer (some ⟨b.pb, 0, none⟩), .pointer (some ⟨b.pg, 0, none⟩)] (w.drewN n) fun e w' => e = .returned (.int .i64 (way l M j)) ∧ ∃ m, w' = (w.drewN n).drewN m) := fun n => way_c l b L M k j _ (h.drewN n) hM hk hsm hl
  obtain ⟨h1, h2, h3, h4, h5, h6, h7, h8⟩ := h
  obtain ⟨bb, o, hA, hbb, c0, c1, c2⟩ := br_cells h5 hk
  have hj := brs_in hk
  have hkl : k < (brs l l.length).length := (List.getElem?_eq_some_iff.1 hk).1
  have d1 : w.cell? ⟨b.pb, 0, none⟩ = some (.slice (some ⟨bb, o, none⟩) (brs l l.length).length b.C) := by rw [← hA]; exact h1.cell 0
  have d2 : w.cell? ⟨b.pl, 0, none⟩ = some (.slice (some ⟨b.rb, 0, none⟩) l.length l.length) := h2.cell 0
  have d4 : w.cell? ⟨b.pw, 0, none⟩ = some (wayV b) := h4.cell 0
  unfold wayV at d4
  have dl : w.cell? ⟨b.rb, j, none⟩ = some (.bool (L j)) := GZ.cell h6 j hj.1
  have HJ : (j : Int) < (l.length : Int) := by omega
  have HK2 : (k : Int) < ((brs l l.length).length : Int) := by omega
  clear h1 h2 h3 h4 h5 h6 h7 h8 hA hk hM hj c1 c2 hsm
  generalize way l M j = wm at *
  generalize (brs l l.length).length = m at *
  generalize L j = lj at *
  unfold far
  cases lj with
  | true =>
    go_enter Try.func33, Try.ntmps33
    go_wp2
    go_quiet (fail)
    go_wp2
    go_ret
    exact ⟨rfl, _, rfl⟩
  | false =>
    by_cases e1 : wm < -4096
    · have g1 : decide (wm < -4096) = true := by simp [e1]
      go_enter Try.func33, Try.ntmps33
      go_wp2
      go_quiet ((go_at_call 32; exact Calls.quiet_of (WC.out _)))
      go_wp2
      go_ret
      exact ⟨by simp [e1], _, rfl⟩
    · have g1 : decide (wm < -4096) = false := by simp [e1]
      by_cases e2 : 4094 < wm
      · have g2 : decide (4094 < wm) = true := by simp [e2]
        go_enter Try.func33, Try.ntmps33
        go_wp2
        go_quiet ((go_at_call 32; exact Calls.quiet_of (WC.out _)))
        go_wp2
        go_ret
        exact ⟨by simp [e2], _, rfl⟩
      · have g2 : decide (4094 < wm) = false := by simp [e2]
        go_enter Try.func33, Try.ntmps33
        go_wp2
        go_quiet ((go_at_call 32; exact Calls.quiet_of (WC.out _)))
        go_wp2
        go_ret
        have e3 : ¬ (wm < -4096 ∨ 4094 < wm) := by omega
        exact ⟨by simp [e3], _, rfl⟩
end Go.Proofs.Ytcdeckbobabdkaa
