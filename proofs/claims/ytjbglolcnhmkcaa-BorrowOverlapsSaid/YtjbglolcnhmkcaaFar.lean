/-
  Proved: parts holds two steps against each other; far counts the first kids, up to 200.
-/
import Derived.Test.YtjbglolcnhmkcaaSmall
namespace Go.Proofs.Ytjbglolcnhmkcaa
open Go.RowKit

theorem below_two (w : World) (a b : Obj) : Below w.heap.size w ((w.alloc a).alloc b) := below_next (below_alloc _ _) (below_alloc _ _)

set_option maxHeartbeats 1000000 in
theorem parts_c (s t : Int × Int × Bool) (w : World) : Calls Try.prog 12 #[.agg (cst s), .agg (cst t)] w fun e w' => e = .returned (.bool (prt s t)) ∧ Below w.heap.size w w' := by
  obtain ⟨sk, sw, sb⟩ := s
  obtain ⟨tk, tw, tb⟩ := t
  simp only [cst]
  by_cases hk : sk = tk
  · subst hk
    cases sb with
    | false =>
      rw [show prt (sk, sw, false) (sk, tw, tb) = false by simp [prt]]
      go_enter Try.func12, Try.ntmps12
      go_wp2
      go_ret
      exact ⟨rfl, below_two _ _ _⟩
    | true =>
      cases tb with
      | false =>
        rw [show prt (sk, sw, true) (sk, tw, false) = false by simp [prt]]
        go_enter Try.func12, Try.ntmps12
        go_wp2
        go_ret
        exact ⟨rfl, below_two _ _ _⟩
      | true =>
        by_cases hw : sw = tw
        · subst hw
          rw [show prt (sk, sw, true) (sk, sw, true) = false by simp [prt]]
          go_enter Try.func12, Try.ntmps12
          go_wp2
          go_ret
          exact ⟨rfl, below_two _ _ _⟩
        · have g : (sw == tw) = false := by simpa using hw
          rw [show prt (sk, sw, true) (sk, tw, true) = true by simp [prt, hw]]
          go_enter Try.func12, Try.ntmps12
          go_wp2
          go_ret
          exact ⟨rfl, below_two _ _ _⟩
  · have g : (sk == tk) = false := by simpa using hk
    rw [show prt (sk, sw, sb) (tk, tw, tb) = false by simp [prt, hk]]
    go_enter Try.func12, Try.ntmps12
    go_wp2
    go_ret
    exact ⟨rfl, below_two _ _ _⟩

/-- The cells of a block. -/
def At (W : World) (B : Nat) (cs : Array Value) (t : TypeId) : Prop := W.heap[B]? = some (.cells cs t (0, 0))

theorem At.lt {W : World} {B : Nat} {cs : Array Value} {t : TypeId} (h : At W B cs t) : B < W.heap.size := (Array.getElem?_eq_some_iff.1 h).1
theorem At.cell {W : World} {B : Nat} {cs : Array Value} {t : TypeId} (h : At W B cs t) (j : Nat) : W.cell? ⟨B, j, none⟩ = cs[j]? := by simp [World.cell?, show W.heap[B]? = _ from h]
theorem At.frozen {W : World} {B : Nat} {cs : Array Value} {t : TypeId} (h : At W B cs t) (j : Nat) : W.frozen? ⟨B, j, none⟩ = false := by simp [World.frozen?, show W.heap[B]? = _ from h]
theorem At.new (W : World) (cs : Array Value) (t : TypeId) : At (W.alloc (.cells cs t)) W.heap.size cs t := alloc_at W _
theorem At.below {W W' : World} {B n : Nat} {cs : Array Value} {t : TypeId} (h : At W B cs t) (hb : Below n W W') (hn : B < n) : At W' B cs t := (hb.block B hn).trans h
theorem At.set {W : World} {B j : Nat} {cs : Array Value} {t : TypeId} (h : At W B cs t) (v : Value) : At (W.setCell ⟨B, j, none⟩ v) B (cs.setIfInBounds j v) t := by
  have hv : W.heap[B]'h.lt = .cells cs t (0, 0) := (Array.getElem?_eq_some_iff.1 h).2
  unfold At World.setCell
  rw [Array.getElem?_eq_getElem (by simpa using h.lt), Array.getElem_modify]
  simp [hv]

theorem At.set10 {W : World} {B : Nat} {a0 a1 a2 a3 a4 a5 a6 a7 a8 a9 : Value} {t : TypeId} (h : At W B #[a0, a1, a2, a3, a4, a5, a6, a7, a8, a9] t) (b0 b1 b2 b3 b4 b5 b6 b7 b8 b9 : Value) :
    At ((((((((((W.setCell ⟨B, 0, none⟩ b0).setCell ⟨B, 1, none⟩ b1).setCell ⟨B, 2, none⟩ b2).setCell ⟨B, 3, none⟩ b3).setCell ⟨B, 4, none⟩ b4).setCell ⟨B, 5, none⟩ b5).setCell ⟨B, 6, none⟩ b6).setCell ⟨B, 7, none⟩ b7).setCell ⟨B, 8, none⟩ b8).setCell ⟨B, 9, none⟩ b9) B #[b0, b1, b2, b3, b4, b5, b6, b7, b8, b9] t := by
  have h0 : At (W.setCell ⟨B, 0, none⟩ b0) B #[b0, a1, a2, a3, a4, a5, a6, a7, a8, a9] t := h.set (j := 0) b0
  have h1 : At ((W.setCell ⟨B, 0, none⟩ b0).setCell ⟨B, 1, none⟩ b1) B #[b0, b1, a2, a3, a4, a5, a6, a7, a8, a9] t := h0.set (j := 1) b1
  have h2 : At (((W.setCell ⟨B, 0, none⟩ b0).setCell ⟨B, 1, none⟩ b1).setCell ⟨B, 2, none⟩ b2) B #[b0, b1, b2, a3, a4, a5, a6, a7, a8, a9] t := h1.set (j := 2) b2
  have h3 : At ((((W.setCell ⟨B, 0, none⟩ b0).setCell ⟨B, 1, none⟩ b1).setCell ⟨B, 2, none⟩ b2).setCell ⟨B, 3, none⟩ b3) B #[b0, b1, b2, b3, a4, a5, a6, a7, a8, a9] t := h2.set (j := 3) b3
  have h4 : At (((((W.setCell ⟨B, 0, none⟩ b0).setCell ⟨B, 1, none⟩ b1).setCell ⟨B, 2, none⟩ b2).setCell ⟨B, 3, none⟩ b3).setCell ⟨B, 4, none⟩ b4) B #[b0, b1, b2, b3, b4, a5, a6, a7, a8, a9] t := h3.set (j := 4) b4
  have h5 : At ((((((W.setCell ⟨B, 0, none⟩ b0).setCell ⟨B, 1, none⟩ b1).setCell ⟨B, 2, none⟩ b2).setCell ⟨B, 3, none⟩ b3).setCell ⟨B, 4, none⟩ b4).setCell ⟨B, 5, none⟩ b5) B #[b0, b1, b2, b3, b4, b5, a6, a7, a8, a9] t := h4.set (j := 5) b5
  have h6 : At (((((((W.setCell ⟨B, 0, none⟩ b0).setCell ⟨B, 1, none⟩ b1).setCell ⟨B, 2, none⟩ b2).setCell ⟨B, 3, none⟩ b3).setCell ⟨B, 4, none⟩ b4).setCell ⟨B, 5, none⟩ b5).setCell ⟨B, 6, none⟩ b6) B #[b0, b1, b2, b3, b4, b5, b6, a7, a8, a9] t := h5.set (j := 6) b6
  have h7 : At ((((((((W.setCell ⟨B, 0, none⟩ b0).setCell ⟨B, 1, none⟩ b1).setCell ⟨B, 2, none⟩ b2).setCell ⟨B, 3, none⟩ b3).setCell ⟨B, 4, none⟩ b4).setCell ⟨B, 5, none⟩ b5).setCell ⟨B, 6, none⟩ b6).setCell ⟨B, 7, none⟩ b7) B #[b0, b1, b2, b3, b4, b5, b6, b7, a8, a9] t := h6.set (j := 7) b7
  have h8 : At (((((((((W.setCell ⟨B, 0, none⟩ b0).setCell ⟨B, 1, none⟩ b1).setCell ⟨B, 2, none⟩ b2).setCell ⟨B, 3, none⟩ b3).setCell ⟨B, 4, none⟩ b4).setCell ⟨B, 5, none⟩ b5).setCell ⟨B, 6, none⟩ b6).setCell ⟨B, 7, none⟩ b7).setCell ⟨B, 8, none⟩ b8) B #[b0, b1, b2, b3, b4, b5, b6, b7, b8, a9] t := h7.set (j := 8) b8
  have h9 : At ((((((((((W.setCell ⟨B, 0, none⟩ b0).setCell ⟨B, 1, none⟩ b1).setCell ⟨B, 2, none⟩ b2).setCell ⟨B, 3, none⟩ b3).setCell ⟨B, 4, none⟩ b4).setCell ⟨B, 5, none⟩ b5).setCell ⟨B, 6, none⟩ b6).setCell ⟨B, 7, none⟩ b7).setCell ⟨B, 8, none⟩ b8).setCell ⟨B, 9, none⟩ b9) B #[b0, b1, b2, b3, b4, b5, b6, b7, b8, b9] t := h8.set (j := 9) b9
  exact h9

theorem below_set10 {n : Nat} {w W : World} (h : Below n w W) {B : Nat} (hB : n ≤ B) (b0 b1 b2 b3 b4 b5 b6 b7 b8 b9 : Value) :
    Below n w ((((((((((W.setCell ⟨B, 0, none⟩ b0).setCell ⟨B, 1, none⟩ b1).setCell ⟨B, 2, none⟩ b2).setCell ⟨B, 3, none⟩ b3).setCell ⟨B, 4, none⟩ b4).setCell ⟨B, 5, none⟩ b5).setCell ⟨B, 6, none⟩ b6).setCell ⟨B, 7, none⟩ b7).setCell ⟨B, 8, none⟩ b8).setCell ⟨B, 9, none⟩ b9) :=
  (((((((((h.setCell hB b0).setCell hB b1).setCell hB b2).setCell hB b3).setCell hB b4).setCell hB b5).setCell hB b6).setCell hB b7).setCell hB b8).setCell hB b9

theorem cells10 {W : World} {B : Nat} {a0 a1 a2 a3 a4 a5 a6 a7 a8 a9 : Value} {t : TypeId} (h : At W B #[a0, a1, a2, a3, a4, a5, a6, a7, a8, a9] t) :
    (W.cell? ⟨B, 0, none⟩ = some a0 ∧ W.cell? ⟨B, 1, none⟩ = some a1 ∧ W.cell? ⟨B, 2, none⟩ = some a2 ∧ W.cell? ⟨B, 3, none⟩ = some a3 ∧ W.cell? ⟨B, 4, none⟩ = some a4 ∧ W.cell? ⟨B, 5, none⟩ = some a5 ∧ W.cell? ⟨B, 6, none⟩ = some a6 ∧ W.cell? ⟨B, 7, none⟩ = some a7 ∧ W.cell? ⟨B, 8, none⟩ = some a8 ∧ W.cell? ⟨B, 9, none⟩ = some a9) ∧
    (W.frozen? ⟨B, 0, none⟩ = false ∧ W.frozen? ⟨B, 1, none⟩ = false ∧ W.frozen? ⟨B, 2, none⟩ = false ∧ W.frozen? ⟨B, 3, none⟩ = false ∧ W.frozen? ⟨B, 4, none⟩ = false ∧ W.frozen? ⟨B, 5, none⟩ = false ∧ W.frozen? ⟨B, 6, none⟩ = false ∧ W.frozen? ⟨B, 7, none⟩ = false ∧ W.frozen? ⟨B, 8, none⟩ = false ∧ W.frozen? ⟨B, 9, none⟩ = false) :=
  ⟨⟨h.cell 0, h.cell 1, h.cell 2, h.cell 3, h.cell 4, h.cell 5, h.cell 6, h.cell 7, h.cell 8, h.cell 9⟩, ⟨h.frozen 0, h.frozen 1, h.frozen 2, h.frozen 3, h.frozen 4, h.frozen 5, h.frozen 6, h.frozen 7, h.frozen 8, h.frozen 9⟩⟩

theorem dpt_pos (k n : Int) (s : ByteArray) (ks : List X) (ts : List T) (h : 0 < ks.length) : dpt (.mk k n s ks ts) = dpt (ks[0]'h) + 1 := by
  match ks, h with
  | e :: es, _ => rfl

set_option maxRecDepth 100000 in
set_option maxHeartbeats 4000000 in
theorem far_c (x : X) (cs : List Value) (w : World) (h : XIn w x cs) : Calls Try.prog 5 #[.agg cs.toArray] w fun e w' => e = .returned (.int .i64 ((min (dpt x) 200 : Nat) : Int)) ∧ Below w.heap.size w w' := by
  have HX : Hid (XIn w x cs) := h
  obtain ⟨k, n, s, ks, ts⟩ := x
  obtain ⟨at', A, C, B, D, p, q, r, Z, zl, zc, rfl, _, _⟩ := h.inv
  generalize hR : min (dpt (.mk k n s ks ts)) 200 = R
  have HR : Hid (min (dpt (.mk k n s ks ts)) 200 = R) := hR
  clear h hR
  go_enter Try.func5, Try.ntmps5
  go_wp2
  go_loopw [3] (fun nv wr => ∃ (m : Nat) (y : X) (ds : List Value), m ≤ 200 ∧ nv = .int .i64 (m : Int) ∧ Hid (XIn w y ds) ∧ Hid (At wr w.heap.size ds.toArray 27) ∧ Hid (Below w.heap.size w wr) ∧ Hid (min (m + dpt y) 200 = R)) (fun nv _ => 200 - (intOf nv).toNat)
  case atStart => exact ⟨0, _, _, by omega, rfl, HX.out, At.new _ _ _, below_alloc _ _, by have := HR.out; rw [Nat.zero_add]; exact this⟩
  case round =>
    obtain ⟨m, y, ds, hm, rfl, HY, HA, HB, HM⟩ := hrel
    obtain ⟨k1, n1, s1, ks1, ts1⟩ := y
    obtain ⟨at1, A1, C1, B1, D1, p1, q1, r1, Z1, zl1, zc1, rfl, hks, _⟩ := HY.out.inv
    obtain ⟨⟨c0, c1, c2, c3, c4, c5, c6, c7, c8, c9⟩, ⟨f0, f1, f2, f3, f4, f5, f6, f7, f8, f9⟩⟩ := cells10 HA.out
    have hlt := HA.out.lt
    have hl := hks.1
    by_cases hz : 0 < ks1.length
    · have hpos : (0 : Int) < (ks1.length : Int) := by omega
      by_cases h200 : m < 200
      · have h200' : (m : Int) < 200 := by omega
        obtain ⟨b2, o2, cs2, rfl, hr2, hx2⟩ := hks.2 0 hz
        have hdp := dpt_pos k1 n1 s1 ks1 ts1 hz
        generalize ks1[0]'hz = e at hx2 hdp
        have HX2 : Hid (XIn w e cs2) := hx2
        have HD : Hid (min (m + 1 + dpt e) 200 = R) := by have h := HM.out; rw [hdp] at h; rw [← h]; show min (m + 1 + dpt e) 200 = _; congr 1; omega
        have hr2 := hr2.below HB.out
        obtain ⟨k2, n2, s2, ks2, ts2⟩ := e
        obtain ⟨at2, A2, C2, B2, D2, p2, q2, r2, Z2, zl2, zc2, rfl, _, _⟩ := hx2.inv
        have e0 := hr2.2 0 _ rfl
        have e1 := hr2.2 1 _ rfl
        have e2 := hr2.2 2 _ rfl
        have e3 := hr2.2 3 _ rfl
        have e4 := hr2.2 4 _ rfl
        have e5 := hr2.2 5 _ rfl
        have e6 := hr2.2 6 _ rfl
        have e7 := hr2.2 7 _ rfl
        have e8 := hr2.2 8 _ rfl
        have e9 := hr2.2 9 _ rfl
        simp only [Nat.zero_mul, Nat.add_zero] at e0 e1 e2 e3 e4 e5 e6 e7 e8 e9
        clear hr2 hx2 hks hdp
        go_wp2
        go_roundw
        case rel => exact ⟨m + 1, _, _, by omega, by go_num, HX2.out, HA.out.set10 _ _ _ _ _ _ _ _ _ _, below_set10 HB.out (Nat.le_refl _) _ _ _ _ _ _ _ _ _ _, HD.out⟩
        case measure => simp [intOf]; omega
      · have h200' : ¬ (m : Int) < 200 := by omega
        clear hks
        go_wp2
        go_ret
        exact ⟨by have h := HM.out; rw [← h, show min (m + dpt (X.mk k1 n1 s1 ks1 ts1)) 200 = m by omega]; rfl, HB.out⟩
    · have hpos : ¬ (0 : Int) < (ks1.length : Int) := by omega
      have hnil : ks1 = [] := List.eq_nil_of_length_eq_zero (by omega)
      have HD : Hid (m = R) := by have h := HM.out; rw [hnil, dpt] at h; rw [← h]; show m = _; omega
      clear hks hnil
      go_wp2
      go_ret
      exact ⟨by rw [← HD.out]; rfl, HB.out⟩

end Go.Proofs.Ytjbglolcnhmkcaa
