/-
  Proved: overlaps holds two paths against each other.
-/
import Derived.Test.YtjbglolcnhmkcaaPath
namespace Go.Proofs.Ytjbglolcnhmkcaa
open Go.RowKit

theorem drew_below {n : Nat} {w wr : World} (h : Below n w wr) (m : Nat) : Below n w (wr.drewN m) := ⟨h.os, h.tape, h.output, h.size, h.block⟩

/-- A step's cells in a row. -/
theorem RowsIn.three {w : World} {l : List (Int × Int × Bool)} {A : Option Addr} (h : RowsIn w 3 cstL l A) (i : Nat) (hi : i < l.length) : ∃ b o, A = some ⟨b, o, none⟩ ∧ b < w.heap.size ∧ w.cell? ⟨b, o + i * 3, none⟩ = some (.int .i64 (l[i]'hi).1) ∧ w.cell? ⟨b, o + i * 3 + 1, none⟩ = some (.int .i64 (l[i]'hi).2.1) ∧ w.cell? ⟨b, o + i * 3 + 2, none⟩ = some (.bool (l[i]'hi).2.2) := by
  obtain ⟨b, o, e, h1⟩ := h i hi
  exact ⟨b, o, e, h1.1, h1.2 0 _ rfl, h1.2 1 _ rfl, h1.2 2 _ rfl⟩

set_option maxRecDepth 100000 in
set_option maxHeartbeats 4000000 in
theorem overlaps_c (x y : X) (ss tt : List (Int × Int × Bool)) (u v : Value) (A B : Option Addr) (C D : Nat) (w : World) (hx : PtIn w x u) (hy : PtIn w y v) (hs : RowsIn w 3 cstL ss A) (ht : RowsIn w 3 cstL tt B) (ls : ss.length ≤ 1000) :
    Calls Try.prog 8 #[.agg #[u, .slice A ss.length C], .agg #[v, .slice B tt.length D]] w fun e w' => e = .returned (.bool (decide (x.n = y.n) && !anyOf prt ss tt)) ∧ Below w.heap.size w w' := by
  obtain ⟨b1, o1, cs1, rfl, r1, x1⟩ := hx
  obtain ⟨b2, o2, cs2, rfl, r2, x2⟩ := hy
  obtain ⟨k1, n1, s1, ks1, ts1⟩ := x
  obtain ⟨k2, n2, s2, ks2, ts2⟩ := y
  obtain ⟨at1, A1, C1, B1, D1, p1, q1, rr1, Z1, zl1, zc1, rfl, _, _⟩ := x1.inv
  obtain ⟨at2, A2, C2, B2, D2, p2, q2, rr2, Z2, zl2, zc2, rfl, _, _⟩ := x2.inv
  have c1 := r1.2 2 _ rfl
  have c2 := r2.2 2 _ rfl
  have l1 := r1.1
  have l2 := r2.1
  have HS : Hid (RowsIn w 3 cstL ss A) := hs
  have HT : Hid (RowsIn w 3 cstL tt B) := ht
  clear r1 r2 x1 x2 hs ht
  by_cases hn : n1 = n2
  · subst hn
    simp only [decide_true, Bool.true_and]
    go_enter Try.func8, Try.ntmps8
    go_wp2
    go_quiet (fail)
    go_wp2
    generalize hW0 : (w.alloc (.cells #[.pointer (some ⟨b1, o1, none⟩), .slice A ss.length C] 33)).alloc (.cells #[.pointer (some ⟨b2, o2, none⟩), .slice B tt.length D] 33) = W0
    have HB0 : Hid (Below w.heap.size w W0) := by rw [← hW0]; exact below_two _ _ _
    have hA1 : At W0 w.heap.size #[.pointer (some ⟨b1, o1, none⟩), .slice A ss.length C] 33 := by rw [← hW0]; exact (At.new w _ _).below (below_alloc _ _) (At.new w _ _).lt
    have hA2 : At W0 (w.heap.size + 1) #[.pointer (some ⟨b2, o2, none⟩), .slice B tt.length D] 33 := by rw [← hW0]; have h := At.new (w.alloc (.cells #[.pointer (some ⟨b1, o1, none⟩), .slice A ss.length C] 33)) #[.pointer (some ⟨b2, o2, none⟩), .slice B tt.length D] 33; simpa using h
    have HA1 : Hid (At W0 w.heap.size #[.pointer (some ⟨b1, o1, none⟩), .slice A ss.length C] 33) := hA1
    have HA2 : Hid (At W0 (w.heap.size + 1) #[.pointer (some ⟨b2, o2, none⟩), .slice B tt.length D] 33) := hA2
    clear hW0 hA1 hA2
    go_loopw [24] (fun kv wr => ∃ k : Nat, k ≤ min ss.length tt.length ∧ kv = .int .i64 (k : Int) ∧ Hid (Below W0.heap.size W0 wr) ∧ Hid (anyOf prt (ss.drop k) (tt.drop k) = anyOf prt ss tt)) (fun kv _ => min ss.length tt.length - (intOf kv).toNat)
    case atStart => exact ⟨0, Nat.zero_le _, rfl, drew_below (Below.refl _ _) _, rfl⟩
    case round =>
      obtain ⟨k, hk, rfl, HB, HK⟩ := hrel
      have HB2 : Hid (Below w.heap.size w wr) := below_next HB0.out HB.out
      by_cases hlt : k < min ss.length tt.length
      · have hlt' : (k : Int) < min (ss.length : Int) (tt.length : Int) := by omega
        have hs1 : k < ss.length := by omega
        have hs2 : k < tt.length := by omega
        obtain ⟨b3, o3, rfl, m1, e1, e2, e3⟩ := HS.out.three k hs1
        obtain ⟨b4, o4, rfl, m2, f1, f2, f3⟩ := HT.out.three k hs2
        have hdr := anyOf_drop prt ss tt k hs1 hs2
        generalize ss[k]'hs1 = s at e1 e2 e3 hdr
        generalize tt[k]'hs2 = t at f1 f2 f3 hdr
        have PC : Hid (∀ W, Calls Try.prog 12 #[.agg (cst s), .agg (cst t)] W fun e w' => e = .returned (.bool (prt s t)) ∧ Below W.heap.size W w') := fun W => parts_c s t W
        generalize prt s t = R at PC hdr
        obtain ⟨sk, sw, sb⟩ := s
        obtain ⟨tk, tw, tb⟩ := t
        simp only [cst] at PC
        have HDR : Hid (anyOf prt ss tt = (R || anyOf prt (ss.drop (k + 1)) (tt.drop (k + 1)))) := by have h := HK.out; rw [hdr] at h; exact h.symm
        have CL : Hid (∀ W, Below W0.heap.size W0 W → W.cell? ⟨w.heap.size, 1, none⟩ = some (.slice (some ⟨b3, o3, none⟩) ss.length C) ∧ W.cell? ⟨w.heap.size + 1, 1, none⟩ = some (.slice (some ⟨b4, o4, none⟩) tt.length D) ∧ W.cell? ⟨b3, o3 + k * 3, none⟩ = some (.int .i64 sk) ∧ W.cell? ⟨b3, o3 + k * 3 + 1, none⟩ = some (.int .i64 sw) ∧ W.cell? ⟨b3, o3 + k * 3 + 2, none⟩ = some (.bool sb) ∧ W.cell? ⟨b4, o4 + k * 3, none⟩ = some (.int .i64 tk) ∧ W.cell? ⟨b4, o4 + k * 3 + 1, none⟩ = some (.int .i64 tw) ∧ W.cell? ⟨b4, o4 + k * 3 + 2, none⟩ = some (.bool tb) ∧ Hid (Below W0.heap.size W0 W)) := fun W hW => by
          have hb := below_next HB0.out hW
          exact ⟨(HA1.out.below hW HA1.out.lt).cell 1, (HA2.out.below hW HA2.out.lt).cell 1, (hb.cell m1).trans e1, (hb.cell m1).trans e2, (hb.cell m1).trans e3, (hb.cell m2).trans f1, (hb.cell m2).trans f2, (hb.cell m2).trans f3, hW⟩
        clear hdr e1 e2 e3 f1 f2 f3
        go_wp2
        go_region_held3 (fun W => W.cell? ⟨w.heap.size, 1, none⟩ = some (.slice (some ⟨b3, o3, none⟩) ss.length C) ∧ W.cell? ⟨w.heap.size + 1, 1, none⟩ = some (.slice (some ⟨b4, o4, none⟩) tt.length D) ∧ W.cell? ⟨b3, o3 + k * 3, none⟩ = some (.int .i64 sk) ∧ W.cell? ⟨b3, o3 + k * 3 + 1, none⟩ = some (.int .i64 sw) ∧ W.cell? ⟨b3, o3 + k * 3 + 2, none⟩ = some (.bool sb) ∧ W.cell? ⟨b4, o4 + k * 3, none⟩ = some (.int .i64 tk) ∧ W.cell? ⟨b4, o4 + k * 3 + 1, none⟩ = some (.int .i64 tw) ∧ W.cell? ⟨b4, o4 + k * 3 + 2, none⟩ = some (.bool tb) ∧ Hid (Below W0.heap.size W0 W))
          (first
            | exact CL.out _ HB.out.drew
            | exact CL.out _ OO.out)
          (first
            | (go_at_call 12; refine (PC.out _).mono ?_; rintro e w2 ⟨rfl, hb2⟩; have OO : Hid (Below W0.heap.size W0 w2) := below_next HB.out.drew hb2; clear hb2))
        cases R with
        | true =>
          go_wp2
          go_ret
          exact ⟨by rw [HDR.out]; rfl, below_next HB0.out OO.out⟩
        | false =>
          go_wp2
          go_roundw
          case rel => exact ⟨k + 1, by omega, by go_num, OO.out, by have h := HDR.out; rw [Bool.false_or] at h; exact h.symm⟩
          case measure => simp [intOf]; omega
      · have hke : k = min ss.length tt.length := by omega
        have hlt' : ¬ (k : Int) < min (ss.length : Int) (tt.length : Int) := by omega
        go_wp2
        go_ret
        exact ⟨by have h := HK.out; rw [anyOf_end prt ss tt k (by omega)] at h; rw [← h]; rfl, HB2.out⟩
  · have g : (n1 == n2) = false := by simpa using hn
    simp only [hn, decide_false, Bool.false_and]
    go_enter Try.func8, Try.ntmps8
    go_wp2
    go_quiet (fail)
    go_wp2
    go_ret
    exact ⟨rfl, drew_below (below_two _ _ _) _⟩

end Go.Proofs.Ytjbglolcnhmkcaa
