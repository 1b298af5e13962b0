/-
  Proved: what the reference's place, find, Live and Within answer.
-/
import Derived.Test.YtffcfohbnbldhaaDoorFills
namespace Go.Proofs.YtffcfohbnbldhaaDoor
open Go.RowKit

theorem below_drewN' (w : World) (n : Nat) : Below w.heap.size w (w.drewN n) := drew_below (Below.refl _ _) n

set_option maxHeartbeats 1000000 in
theorem place_c (c k : Nat) (hc : c < 4) (hk : k ≤ 64) (w : World) : Calls Tryd.prog 23 #[.int .i64 (c : Int), .int .i64 (k : Int)] w fun e w' => e = .returned (.int .i64 (adr c k)) ∧ Below w.heap.size w w' := by
  have hkz : (k : Int) ≤ 64 := by omega
  go_enter Tryd.func23, Tryd.ntmps23
  go_wp2
  have NN : Hid (Below w.heap.size w ((w.alloc (.cells #[.int .i64 4, .int .i64 16, .int .i64 64, .int .i64 128] 3)).alloc (.cells #[.int .i64 64, .int .i64 32, .int .i64 16, .int .i64 8] 3))) := below_two _ _ _
  have hA : At ((w.alloc (.cells #[.int .i64 4, .int .i64 16, .int .i64 64, .int .i64 128] 3)).alloc (.cells #[.int .i64 64, .int .i64 32, .int .i64 16, .int .i64 8] 3)) w.heap.size #[.int .i64 4, .int .i64 16, .int .i64 64, .int .i64 128] 3 := (At.new w _ _).below (below_alloc _ _) (by simp)
  have hB : At ((w.alloc (.cells #[.int .i64 4, .int .i64 16, .int .i64 64, .int .i64 128] 3)).alloc (.cells #[.int .i64 64, .int .i64 32, .int .i64 16, .int .i64 8] 3)) (w.heap.size + 1) #[.int .i64 64, .int .i64 32, .int .i64 16, .int .i64 8] 3 := At.newS _ _ _ (by simp)
  generalize ((w.alloc (.cells #[.int .i64 4, .int .i64 16, .int .i64 64, .int .i64 128] 3)).alloc (.cells #[.int .i64 64, .int .i64 32, .int .i64 16, .int .i64 8] 3)) = w2 at *
  have HA : Hid (At w2 w.heap.size #[.int .i64 4, .int .i64 16, .int .i64 64, .int .i64 128] 3) := hA
  have HB : Hid (At w2 (w.heap.size + 1) #[.int .i64 64, .int .i64 32, .int .i64 16, .int .i64 8] 3) := hB
  clear hA hB
  go_loopw [5, 8] (fun a i wr => ∃ j : Nat, j ≤ c ∧ i = .int .i64 (j : Int) ∧ a = .int .i64 (st j : Int) ∧ At wr w.heap.size #[.int .i64 4, .int .i64 16, .int .i64 64, .int .i64 128] 3 ∧ At wr (w.heap.size + 1) #[.int .i64 64, .int .i64 32, .int .i64 16, .int .i64 8] 3 ∧ Below w.heap.size w wr) (fun _ i _ => c - (intOf i).toNat)
  case atStart => exact ⟨0, by omega, rfl, rfl, HA.out, HB.out, NN.out⟩
  case round =>
    obtain ⟨j, hj, e1, e2, hA, hB, hN⟩ := hrel
    have HA : Hid (At wr w.heap.size #[.int .i64 4, .int .i64 16, .int .i64 64, .int .i64 128] 3) := hA
    have HB : Hid (At wr (w.heap.size + 1) #[.int .i64 64, .int .i64 32, .int .i64 16, .int .i64 8] 3) := hB
    have NN : Hid (Below w.heap.size w wr) := hN
    clear hN
    rcases Nat.lt_or_ge j c with hjc | hjc
    · have hcz : (j : Int) < (c : Int) := by omega
      rcases (by omega : j = 0 ∨ j = 1 ∨ j = 2) with rfl | rfl | rfl
      · have e1' : _ = Value.int .i64 0 := e1
        have e2' : _ = Value.int .i64 262144 := e2
        subst e1' e2'
        have hcz : (0 : Int) < (c : Int) := hcz
        have c0 : wr.cell? ⟨w.heap.size, 0, none⟩ = some (.int .i64 4) := (hA.cell 0).trans rfl
        have c1 : wr.cell? ⟨w.heap.size + 1, 0, none⟩ = some (.int .i64 64) := (hB.cell 0).trans rfl
        clear hA hB
        go_wp2
        go_quiet (fail)
        go_wp2
        go_roundw
        case rel => exact ⟨1, by omega, rfl, rfl, HA.out.below (below_drewN' _ _) HA.out.lt, HB.out.below (below_drewN' _ _) HB.out.lt, drew_below NN.out _⟩
        case measure => simp [intOf]; omega
      · have e1' : _ = Value.int .i64 1 := e1
        have e2' : _ = Value.int .i64 263168 := e2
        subst e1' e2'
        have hcz : (1 : Int) < (c : Int) := hcz
        have c0 : wr.cell? ⟨w.heap.size, 1, none⟩ = some (.int .i64 16) := (hA.cell 1).trans rfl
        have c1 : wr.cell? ⟨w.heap.size + 1, 1, none⟩ = some (.int .i64 32) := (hB.cell 1).trans rfl
        clear hA hB
        go_wp2
        go_quiet (fail)
        go_wp2
        go_roundw
        case rel => exact ⟨2, by omega, rfl, rfl, HA.out.below (below_drewN' _ _) HA.out.lt, HB.out.below (below_drewN' _ _) HB.out.lt, drew_below NN.out _⟩
        case measure => simp [intOf]; omega
      · have e1' : _ = Value.int .i64 2 := e1
        have e2' : _ = Value.int .i64 265216 := e2
        subst e1' e2'
        have hcz : (2 : Int) < (c : Int) := hcz
        have c0 : wr.cell? ⟨w.heap.size, 2, none⟩ = some (.int .i64 64) := (hA.cell 2).trans rfl
        have c1 : wr.cell? ⟨w.heap.size + 1, 2, none⟩ = some (.int .i64 16) := (hB.cell 2).trans rfl
        clear hA hB
        go_wp2
        go_quiet (fail)
        go_wp2
        go_roundw
        case rel => exact ⟨3, by omega, rfl, rfl, HA.out.below (below_drewN' _ _) HA.out.lt, HB.out.below (below_drewN' _ _) HB.out.lt, drew_below NN.out _⟩
        case measure => simp [intOf]; omega
    · obtain rfl : j = c := by omega
      have hcz : ¬ (j : Int) < (j : Int) := by omega
      rcases (by omega : j = 0 ∨ j = 1 ∨ j = 2 ∨ j = 3) with rfl | rfl | rfl | rfl
      · have e1' : _ = Value.int .i64 0 := e1
        have e2' : _ = Value.int .i64 262144 := e2
        subst e1' e2'
        have c0 : wr.cell? ⟨w.heap.size, 0, none⟩ = some (.int .i64 4) := (hA.cell 0).trans rfl
        clear hA hB
        go_wp2
        have ea : adr 0 k = 262144 + 16 * (k : Int) := by show (262144 : Int) + (k : Int) * 16 = _; omega
        go_ret
        exact ⟨by rw [ea]; rfl, NN.out⟩
      · have e1' : _ = Value.int .i64 1 := e1
        have e2' : _ = Value.int .i64 263168 := e2
        subst e1' e2'
        have c0 : wr.cell? ⟨w.heap.size, 1, none⟩ = some (.int .i64 16) := (hA.cell 1).trans rfl
        clear hA hB
        go_wp2
        have ea : adr 1 k = 263168 + 64 * (k : Int) := by show (263168 : Int) + (k : Int) * 64 = _; omega
        go_ret
        exact ⟨by rw [ea]; rfl, NN.out⟩
      · have e1' : _ = Value.int .i64 2 := e1
        have e2' : _ = Value.int .i64 265216 := e2
        subst e1' e2'
        have c0 : wr.cell? ⟨w.heap.size, 2, none⟩ = some (.int .i64 64) := (hA.cell 2).trans rfl
        clear hA hB
        go_wp2
        have ea : adr 2 k = 265216 + 256 * (k : Int) := by show (265216 : Int) + (k : Int) * 256 = _; omega
        go_ret
        exact ⟨by rw [ea]; rfl, NN.out⟩
      · have e1' : _ = Value.int .i64 3 := e1
        have e2' : _ = Value.int .i64 269312 := e2
        subst e1' e2'
        have c0 : wr.cell? ⟨w.heap.size, 3, none⟩ = some (.int .i64 128) := (hA.cell 3).trans rfl
        clear hA hB
        go_wp2
        have ea : adr 3 k = 269312 + 512 * (k : Int) := by show (269312 : Int) + (k : Int) * 512 = _; omega
        go_ret
        exact ⟨by rw [ea]; rfl, NN.out⟩

/-- A block of the reference, as cells. -/
def bL (p : Nat × Nat) : List Value := [.int .i64 (adr p.1 p.2), .int .i64 (p.1 : Int), .int .i64 (sz p.1 : Int)]
theorem bL_len (p : Nat × Nat) : (bL p).length = 3 := rfl
theorem bL_one (p : Nat × Nat) : ∀ u ∈ bL p, u.oneCell' = true := by intro u hu; simp [bL] at hu; rcases hu with rfl | rfl | rfl <;> rfl
theorem info59 : (Tryd.prog.info? 59).map (fun i => (i.zero, i.size, i.bytes)) = some (some (.agg #[.int .i64 0, .int .i64 0, .int .i64 0]), 3, 24) := by kernel_rfl

/-- A reference's heap in memory. -/
def RIn (w : World) (rb base : Nat) (bs : List (Nat × Nat)) (lv : Value) : Prop := At w rb #[lv] 28 ∧ OwnB 59 3 bL base bs lv w

theorem OwnB.bshape {base : Nat} {l : List (Nat × Nat)} {v : Value} {w : World} (h : OwnB 59 3 bL base l v w) : ∃ A C, v = .slice A l.length C ∧ (0 < l.length → ∃ B, A = some ⟨B, 0, none⟩ ∧ base ≤ B ∧ B < w.heap.size ∧ l.length ≤ C ∧ ∀ i (hi : i < l.length), w.cell? ⟨B, i * 3, none⟩ = some (.int .i64 (adr l[i].1 l[i].2)) ∧ w.cell? ⟨B, i * 3 + 1, none⟩ = some (.int .i64 (l[i].1 : Int)) ∧ w.cell? ⟨B, i * 3 + 2, none⟩ = some (.int .i64 (sz l[i].1 : Int))) := by
  have h0 := h
  rcases h.2.2 with ⟨rfl, e0⟩ | ⟨g, cap, cur, rfl, hg, hb, hc, _⟩
  · exact ⟨none, 0, by rw [e0], fun h => by omega⟩
  · refine ⟨_, cap, rfl, fun _ => ⟨g, rfl, hg, (Array.getElem?_eq_some_iff.1 hb).1, hc, fun i hi => ?_⟩⟩
    obtain ⟨b, o, e, h2⟩ := OwnB.rows bL_len h0 i hi
    injection e with e
    injection e with e1 e2
    subst e1 e2
    have c0 := h2.2 0 _ rfl
    have c1 := h2.2 1 _ rfl
    have c2 := h2.2 2 _ rfl
    simp only [Nat.zero_add, Nat.add_zero] at c0 c1 c2
    exact ⟨c0, c1, c2⟩

/-- Where an address's block stands. -/
def adA (bs : List (Nat × Nat)) (i : Nat) : Int := adr (bs.getD i (0, 0)).1 (bs.getD i (0, 0)).2
def fx (bs : List (Nat × Nat)) (x : Int) : Option Nat := ff (fun i => decide (adA bs i = x)) bs.length 0
def fxV : Option Nat → Int
  | none => -1
  | some i => (i : Int)

theorem st_end (c : Nat) (h : c < 4) : (st c : Int) + (bl c : Int) * (4 * (sz c : Int)) ≤ 273408 := by
  rcases (by omega : c = 0 ∨ c = 1 ∨ c = 2 ∨ c = 3) with rfl | rfl | rfl | rfl <;> decide

theorem rfind_c {w : World} {rb base : Nat} {bs : List (Nat × Nat)} {lv : Value} (h : RIn w rb base bs lv) (hl : bs.length ≤ 1000) (x : Int) : Calls Tryd.prog 22 #[.pointer (some ⟨rb, 0, none⟩), .int .i64 x] w fun e w' => e = .returned (.int .i64 (fxV (fx bs x))) ∧ Below w.heap.size w w' := by
  obtain ⟨hA, hO⟩ := h
  obtain ⟨A, C, rfl, hsh⟩ := hO.bshape
  have c0 : w.cell? ⟨rb, 0, none⟩ = some (.slice A bs.length C) := (hA.cell 0).trans rfl
  clear hA hO
  generalize hR : fx bs x = R
  go_enter Tryd.func22, Tryd.ntmps22
  go_wp2
  go_loopw [5] (fun i wr => ∃ k : Nat, k ≤ bs.length ∧ i = .int .i64 (k : Int) ∧ ff (fun i => decide (adA bs i = x)) (bs.length - k) k = R ∧ wr = w) (fun i _ => bs.length - (intOf i).toNat)
  case atStart => exact ⟨0, by omega, rfl, hR, rfl⟩
  case round =>
    obtain ⟨k, hk, rfl, hr, hwr⟩ := hrel
    rw [hwr]
    clear hwr wr hR
    have HR : Hid (ff (fun i => decide (adA bs i = x)) (bs.length - k) k = R) := hr
    clear hr
    rcases Nat.lt_or_ge k bs.length with hk' | hk'
    · have hkz : (k : Int) < bs.length := by omega
      obtain ⟨B, rfl, _, _, _, hce⟩ := hsh (by omega)
      have h0 := (hce k hk').1
      have hg : adA bs k = adr bs[k].1 bs[k].2 := by unfold adA; rw [List.getD_eq_getElem?_getD, List.getElem?_eq_getElem hk']; rfl
      rw [← hg] at h0
      have HS : Hid (ff (fun i => decide (adA bs i = x)) (bs.length - k) k = if adA bs k = x then some k else ff (fun i => decide (adA bs i = x)) (bs.length - (k + 1)) (k + 1)) := by
        show _ = _
        rw [show bs.length - k = (bs.length - (k + 1)) + 1 by omega, ff]
        simp only [decide_eq_true_eq]
      clear hce hg hsh
      generalize adA bs k = y at *
      by_cases hy : y = x
      · have h1 := HR.out
        rw [HS.out, if_pos hy] at h1
        subst h1 hy
        go_wp2
        go_ret
        exact ⟨rfl, Below.refl _ _⟩
      · have h1 := HR.out
        rw [HS.out, if_neg hy] at h1
        have HR2 : Hid (ff (fun i => decide (adA bs i = x)) (bs.length - (k + 1)) (k + 1) = R) := h1
        have hy' : (y == x) = false := by simpa using hy
        clear h1
        go_wp2
        go_roundw
        case rel => exact ⟨k + 1, by omega, by go_num, HR2.out, trivial⟩
        case measure => simp [intOf]; omega
    · have hkz : ¬ (k : Int) < bs.length := by omega
      have h1 := HR.out
      rw [show bs.length - k = 0 by omega] at h1
      have h3 : R = none := h1.symm
      subst h3
      go_wp2
      go_ret
      exact ⟨rfl, Below.refl _ _⟩

/-- How many of the first n are of a class. -/
def cb (bs : List (Nat × Nat)) (x : Int) : Nat → Nat
  | 0 => 0
  | n + 1 => cb bs x n + if ((bs.getD n (0, 0)).1 : Int) = x then 1 else 0

theorem cb_le (bs : List (Nat × Nat)) (x : Int) (n : Nat) : cb bs x n ≤ n := by
  induction n with
  | zero => simp [cb]
  | succ n ih => simp only [cb]; split <;> omega

theorem rlive_c {w : World} {rb base : Nat} {bs : List (Nat × Nat)} {lv : Value} (h : RIn w rb base bs lv) (hl : bs.length ≤ 1000) (x : Int) : Calls Tryd.prog 17 #[.pointer (some ⟨rb, 0, none⟩), .int .i64 x] w fun e w' => e = .returned (.int .i64 (cb bs x bs.length : Int)) ∧ Below w.heap.size w w' := by
  obtain ⟨hA, hO⟩ := h
  obtain ⟨A, C, rfl, hsh⟩ := hO.bshape
  have c0 : w.cell? ⟨rb, 0, none⟩ = some (.slice A bs.length C) := (hA.cell 0).trans rfl
  clear hA hO
  go_enter Tryd.func17, Tryd.ntmps17
  go_wp2
  go_loopw [5, 6] (fun n i wr => ∃ k : Nat, k ≤ bs.length ∧ i = .int .i64 (k : Int) ∧ n = .int .i64 (cb bs x k : Int) ∧ wr = w) (fun _ i _ => bs.length - (intOf i).toNat)
  case atStart => exact ⟨0, by omega, rfl, rfl, rfl⟩
  case round =>
    obtain ⟨k, hk, rfl, rfl, hwr⟩ := hrel
    rw [hwr]
    clear hwr wr
    have CL := cb_le bs x k
    rcases Nat.lt_or_ge k bs.length with hk' | hk'
    · have hkz : (k : Int) < bs.length := by omega
      obtain ⟨B, rfl, _, _, _, hce⟩ := hsh (by omega)
      have h0 := (hce k hk').2.1
      have hg : bs.getD k (0, 0) = bs[k] := by rw [List.getD_eq_getElem?_getD, List.getElem?_eq_getElem hk']; rfl
      rw [← hg] at h0
      have CS : Hid (cb bs x (k + 1) = cb bs x k + if ((bs.getD k (0, 0)).1 : Int) = x then 1 else 0) := rfl
      clear hce hg hsh
      generalize ((bs.getD k (0, 0)).1 : Int) = y at *
      by_cases hy : y = x
      · subst hy
        go_wp2
        go_roundw
        case rel => exact ⟨k + 1, by omega, by go_num, by rw [CS.out, if_pos rfl]; go_num, trivial⟩
        case measure => simp [intOf]; omega
      · have hy' : (y == x) = false := by simpa using hy
        go_wp2
        go_roundw
        case rel => exact ⟨k + 1, by omega, by go_num, by rw [CS.out, if_neg hy]; rfl, trivial⟩
        case measure => simp [intOf]; omega
    · have hkz : ¬ (k : Int) < bs.length := by omega
      obtain rfl : k = bs.length := by omega
      go_wp2
      go_ret
      exact ⟨rfl, Below.refl _ _⟩

/-- Do so many words at an address lie in a block? -/
def wb (p : Nat × Nat) (x n : Int) : Bool := decide (x.tmod 4 = 0) && decide (1 ≤ n) && decide (adr p.1 p.2 ≤ x) && decide (x < adr p.1 p.2 + 4 * (sz p.1 : Int)) && decide (n ≤ (sz p.1 : Int) - (x - adr p.1 p.2) / 4)

def wB (bs : List (Nat × Nat)) (x n : Int) : Option Nat := ff (fun i => wb (bs.getD i (0, 0)) x n) bs.length 0

set_option maxHeartbeats 2000000 in
theorem rwithin_c {w : World} {rb base : Nat} {bs : List (Nat × Nat)} {lv : Value} (h : RIn w rb base bs lv) (hl : bs.length ≤ 1000) (hok : ∀ p ∈ bs, p.1 < 4 ∧ p.2 < bl p.1) (x n : Int) : Calls Tryd.prog 19 #[.pointer (some ⟨rb, 0, none⟩), .int .i64 x, .int .i64 n] w fun e w' => e = .returned (.bool (wB bs x n).isSome) ∧ Below w.heap.size w w' := by
  obtain ⟨hA, hO⟩ := h
  have OK : Hid (∀ p ∈ bs, p.1 < 4 ∧ p.2 < bl p.1) := hok
  have HO : Hid (OwnB 59 3 bL base bs lv w) := hO
  have HA : Hid (At w rb #[lv] 28) := hA
  obtain ⟨A, C, rfl, hsh⟩ := hO.bshape
  clear hA hO hok
  generalize hR : wB bs x n = R
  go_enter Tryd.func19, Tryd.ntmps19
  go_wp2
  go_loopw [7] (fun i wr => ∃ k : Nat, k ≤ bs.length ∧ i = .int .i64 (k : Int) ∧ ff (fun i => wb (bs.getD i (0, 0)) x n) (bs.length - k) k = R ∧ Below w.heap.size w wr) (fun i _ => bs.length - (intOf i).toNat)
  case atStart => exact ⟨0, by omega, rfl, hR, Below.refl _ _⟩
  case round =>
    obtain ⟨k, hk, rfl, hr, hB⟩ := hrel
    have NN : Hid (Below w.heap.size w wr) := hB
    have HR : Hid (ff (fun i => wb (bs.getD i (0, 0)) x n) (bs.length - k) k = R) := hr
    have c0 : wr.cell? ⟨rb, 0, none⟩ = some (.slice A bs.length C) := (NN.out.cell (p := ⟨rb, 0, none⟩) HA.out.lt).trans ((HA.out.cell 0).trans rfl)
    clear hr hR hB
    rcases Nat.lt_or_ge k bs.length with hk' | hk'
    · have hkz : (k : Int) < bs.length := by omega
      obtain ⟨B, rfl, _, hBl, _, hce⟩ := hsh (by omega)
      clear hsh
      have hg : bs.getD k (0, 0) = bs[k] := by rw [List.getD_eq_getElem?_getD, List.getElem?_eq_getElem hk']; rfl
      have hv := OK.out (bs.getD k (0, 0)) (by rw [hg]; exact List.getElem_mem hk')
      have h0 := (NN.out.cell (p := ⟨B, k * 3, none⟩) hBl).trans (hce k hk').1
      have h1 := (NN.out.cell (p := ⟨B, k * 3 + 1, none⟩) hBl).trans (hce k hk').2.1
      have h2 := (NN.out.cell (p := ⟨B, k * 3 + 2, none⟩) hBl).trans (hce k hk').2.2
      rw [← hg] at h0 h1 h2
      clear hce hg
      have HS : Hid (ff (fun i => wb (bs.getD i (0, 0)) x n) (bs.length - k) k = if wb (bs.getD k (0, 0)) x n then some k else ff (fun i => wb (bs.getD i (0, 0)) x n) (bs.length - (k + 1)) (k + 1)) := by
        show _ = _
        rw [show bs.length - k = (bs.length - (k + 1)) + 1 by omega, ff]
      obtain ⟨y, hy⟩ : ∃ y, adr (bs.getD k (0, 0)).1 (bs.getD k (0, 0)).2 = y := ⟨_, rfl⟩
      obtain ⟨z, hz⟩ : ∃ z : Int, (sz (bs.getD k (0, 0)).1 : Int) = z := ⟨_, rfl⟩
      have HY : Hid (adr (bs.getD k (0, 0)).1 (bs.getD k (0, 0)).2 = y ∧ (sz (bs.getD k (0, 0)).1 : Int) = z) := ⟨hy, hz⟩
      have hb1 := adr_in _ _ hv.2
      have hb2 := span_le (bs.getD k (0, 0)).1
      have hb3 : y ≤ 300000 ∧ 262144 ≤ y ∧ 4 ≤ z ∧ z ≤ 128 := by
        have := st_end _ hv.1
        omega
      rw [hy] at h0
      rw [hz] at h2
      clear hy hz hb1 hb2 hv
      generalize ((bs.getD k (0, 0)).1 : Int) = cc at h1
      obtain ⟨hb4, hb5, hb6, hb7⟩ := hb3
      by_cases q1 : x.tmod 4 = 0
      · by_cases q2 : 1 ≤ n
        · by_cases q3 : y ≤ x
          · by_cases q4 : x < y + 4 * z
            · by_cases q5 : n ≤ z - (x - y) / 4
              · have hw : wb (bs.getD k (0, 0)) x n = true := by unfold wb; rw [HY.out.1, HY.out.2]; simp; omega
                have h1 := HR.out
                rw [HS.out, if_pos hw] at h1
                subst h1
                go_wp2
                go_ret
                exact ⟨rfl, below_next NN.out (below_alloc _ _)⟩
              · have hw : wb (bs.getD k (0, 0)) x n = false := by unfold wb; rw [HY.out.1, HY.out.2]; simp; omega
                have h1 := HR.out
                rw [HS.out, hw, if_neg (by simp)] at h1
                have HR2 : Hid (ff (fun i => wb (bs.getD i (0, 0)) x n) (bs.length - (k + 1)) (k + 1) = R) := h1
                clear h1
                go_wp2
                go_roundw
                case rel => exact ⟨k + 1, by omega, by go_num, HR2.out, below_next NN.out (below_alloc _ _)⟩
                case measure => simp [intOf]; omega
            · have hw : wb (bs.getD k (0, 0)) x n = false := by unfold wb; rw [HY.out.1, HY.out.2]; simp; omega
              have h1 := HR.out
              rw [HS.out, hw, if_neg (by simp)] at h1
              have HR2 : Hid (ff (fun i => wb (bs.getD i (0, 0)) x n) (bs.length - (k + 1)) (k + 1) = R) := h1
              clear h1
              go_wp2
              go_roundw
              case rel => exact ⟨k + 1, by omega, by go_num, HR2.out, below_next NN.out (below_alloc _ _)⟩
              case measure => simp [intOf]; omega
          · have hw : wb (bs.getD k (0, 0)) x n = false := by unfold wb; rw [HY.out.1, HY.out.2]; simp; omega
            have h1 := HR.out
            rw [HS.out, hw, if_neg (by simp)] at h1
            have HR2 : Hid (ff (fun i => wb (bs.getD i (0, 0)) x n) (bs.length - (k + 1)) (k + 1) = R) := h1
            clear h1
            go_wp2
            go_roundw
            case rel => exact ⟨k + 1, by omega, by go_num, HR2.out, below_next NN.out (below_alloc _ _)⟩
            case measure => simp [intOf]; omega
        · have hw : wb (bs.getD k (0, 0)) x n = false := by unfold wb; rw [HY.out.1, HY.out.2]; simp; omega
          have h1 := HR.out
          rw [HS.out, hw, if_neg (by simp)] at h1
          have HR2 : Hid (ff (fun i => wb (bs.getD i (0, 0)) x n) (bs.length - (k + 1)) (k + 1) = R) := h1
          clear h1
          go_wp2
          go_roundw
          case rel => exact ⟨k + 1, by omega, by go_num, HR2.out, below_next NN.out (below_alloc _ _)⟩
          case measure => simp [intOf]; omega
      · have hw : wb (bs.getD k (0, 0)) x n = false := by unfold wb; rw [HY.out.1, HY.out.2]; simp; omega
        have h1 := HR.out
        rw [HS.out, hw, if_neg (by simp)] at h1
        have HR2 : Hid (ff (fun i => wb (bs.getD i (0, 0)) x n) (bs.length - (k + 1)) (k + 1) = R) := h1
        clear h1
        go_wp2
        go_roundw
        case rel => exact ⟨k + 1, by omega, by go_num, HR2.out, below_next NN.out (below_alloc _ _)⟩
        case measure => simp [intOf]; omega
    · have hkz : ¬ (k : Int) < bs.length := by omega
      have h1 := HR.out
      rw [show bs.length - k = 0 by omega] at h1
      have h3 : R = none := h1.symm
      subst h3
      go_wp2
      go_ret
      exact ⟨rfl, NN.out⟩
end Go.Proofs.YtffcfohbnbldhaaDoor
