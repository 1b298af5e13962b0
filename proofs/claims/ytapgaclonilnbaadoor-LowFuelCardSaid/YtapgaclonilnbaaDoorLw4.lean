/-
  Proved: which call's frame an address may be in: the binary search of the last one that does not begin behind it.
-/
import Derived.Test.YtapgaclonilnbaaDoorLw2
import Derived.Test.YtapgaclonilnbaaDoorLmu
namespace Go.Proofs.YtapgaclonilnbaaDoor
open Go.RowKit
set_option linter.unusedVariables false
set_option linter.unusedSimpArgs false

set_option maxHeartbeats 1000000 in
theorem search_c (f : FuncId) (cu : Array Value) (n : Nat) (p : Nat → Bool) (hn : n ≤ 100000) (w : World)
    (hcf : ∀ (args : Array Value) (w : World), (callFunc f args).run Tryd.prog w = .ok (.enter f args) w)
    (CL : ∀ k, k < n → ∀ w', Below w.heap.size w w' → Calls Tryd.prog f (#[.int .i64 (k : Int)] ++ cu) w' fun e w2 => e = .returned (.bool (p k)) ∧ Below w'.heap.size w' w2)
    (hm : ∀ i j, i ≤ j → j < n → p i = true → p j = true) :
    Calls Tryd.prog 63 #[.int .i64 (n : Int), .func (.func f) #[] cu] w fun e w' => ∃ k : Nat, k ≤ n ∧ (∀ i, i < k → p i = false) ∧ (∀ i, k ≤ i → i < n → p i = true) ∧ e = .returned (.int .i64 (k : Int)) ∧ Below w.heap.size w w' := by
  have HC : Hid (∀ k, k < n → ∀ w', Below w.heap.size w w' → Calls Tryd.prog f (#[.int .i64 (k : Int)] ++ cu) w' fun e w2 => e = .returned (.bool (p k)) ∧ Below w'.heap.size w' w2) := CL
  have HM : Hid (∀ i j, i ≤ j → j < n → p i = true → p j = true) := hm
  clear CL hm
  go_enter Tryd.func63, Tryd.ntmps63
  go_wp2
  go_loopw [5, 6] (fun iv jv wr => ∃ i j : Nat, i ≤ j ∧ j ≤ n ∧ iv = .int .i64 (i : Int) ∧ jv = .int .i64 (j : Int) ∧ (∀ k, k < i → p k = false) ∧ (∀ k, j ≤ k → k < n → p k = true) ∧ Below w.heap.size w wr) (fun iv jv _ => (intOf jv - intOf iv).toNat)
  case atStart => exact ⟨0, n, by omega, by omega, rfl, rfl, by omega, by omega, Below.refl _ _⟩
  case round =>
    obtain ⟨i, j, hij, hj, rfl, rfl, h1, h2, hB⟩ := hrel
    have BB : Hid (Below w.heap.size w wr) := hB
    have H1 : Hid (∀ k, k < i → p k = false) := h1
    have H2 : Hid (∀ k, j ≤ k → k < n → p k = true) := h2
    clear hB h1 h2
    rcases Nat.lt_or_ge i j with e | e
    · have hz : (i : Int) < j := by omega
      obtain ⟨k, hk⟩ : ∃ k : Nat, k = (i + j) / 2 := ⟨_, rfl⟩
      have hk1 : ((i : Int) + j) / 2 = k := by omega
      have K1 : Hid (i ≤ k ∧ k < j) := ⟨by omega, by omega⟩
      have CK : Hid (Calls Tryd.prog f (#[.int .i64 (k : Int)] ++ cu) wr fun e w2 => e = .returned (.bool (p k)) ∧ Below wr.heap.size wr w2) := HC.out k (by omega) wr BB.out
      have PK : Hid (∀ q, p k = q → (q = true → ∀ z, k ≤ z → z < n → p z = true) ∧ (q = false → ∀ z, z < k + 1 → p z = false)) := fun q hq => ⟨fun h z h1 h2 => HM.out k z h1 h2 (hq.trans h), fun h z h1 => by
        by_cases e : p z = true
        · have := HM.out z k (by omega) (by omega) e
          rw [hq, h] at this
          cases this
        · simpa using e⟩
      cases hq : p k with
      | true =>
        have P2 := (PK.out true hq).1 rfl
        rw [hq] at CK
        have HP2 : Hid (∀ z, k ≤ z → z < n → p z = true) := P2
        clear P2 PK hk hq
        go_wp2_with (show Calls Tryd.prog f _ _ _; refine (CK.out).mono ?_; rintro e w1 ⟨rfl, hw⟩; have B2 : Hid (Below w.heap.size w w1) := below_next BB.out hw; clear hw)
        go_roundw
        case rel => exact ⟨i, k, K1.out.1, by have := K1.out; omega, rfl, by go_num, H1.out, HP2.out, B2.out⟩
        case measure => have := K1.out; simp [intOf]; omega
      | false =>
        have P2 := (PK.out false hq).2 rfl
        rw [hq] at CK
        have HP2 : Hid (∀ z, z < k + 1 → p z = false) := P2
        clear P2 PK hk hq
        go_wp2_with (show Calls Tryd.prog f _ _ _; refine (CK.out).mono ?_; rintro e w1 ⟨rfl, hw⟩; have B2 : Hid (Below w.heap.size w w1) := below_next BB.out hw; clear hw)
        go_roundw
        case rel => exact ⟨k + 1, j, by have := K1.out; omega, hj, by go_num, rfl, HP2.out, H2.out, B2.out⟩
        case measure => have := K1.out; simp [intOf]; omega
    · have hz : ¬ (i : Int) < j := by omega
      obtain rfl : i = j := by omega
      go_wp2
      go_ret
      exact ⟨i, hj, H1.out, H2.out, rfl, BB.out⟩

theorem idx_of {α : Type} (q : α → Bool) : ∀ (l : List α) (k : Nat), k ≤ l.length → (∀ i (h : i < l.length), i < k → q l[i] = false) → (∀ h : k < l.length, q (l[k]'h) = true) → l.findIdx q = k
  | [], k, hk, _, _ => by simp at hk; simp [hk]
  | x :: l, 0, _, _, h => by simp [List.findIdx_cons, show q x = true from h (by simp)]
  | x :: l, k + 1, hk, h1, h2 => by
    rw [List.findIdx_cons, show q x = false from h1 0 (by simp) (by omega)]
    simp only [cond_false]
    rw [idx_of q l k (by simpa using hk) (fun i hi hik => h1 (i + 1) (by simpa using hi) (by omega)) (fun h => h2 (by simpa using h))]

theorem cs_at (m : Mc) (i : Nat) (h : i < m.cs.length) : m.cs[i]'h = callAt m i := by
  have h2 : i < m.bl.length + 1 := by simpa [Mc.cs] using h
  have e : m.cs[i]? = some (callAt m i) := by
    unfold Mc.cs callAt
    rw [List.getElem?_append, List.getD_eq_getElem?_getD]
    split
    · rename_i e; rw [List.getElem?_eq_getElem e]; rfl
    · rename_i e; rw [show i - m.bl.length = 0 by omega, List.getElem?_eq_none (show m.bl.length ≤ i by omega)]; rfl
  rw [List.getElem?_eq_getElem h] at e
  exact Option.some.inj e
theorem cs_len (m : Mc) : m.cs.length = m.bl.length + 1 := by simp [Mc.cs]

section
variable {X : Cx} {m : Mc} {st : Int} {L : Ly} {w w' : World}

/-- The calls in their list. -/
theorem MS.calls (h : MS X m st L w) : ∃ B C, L.cv = .slice (some ⟨B, 0, none⟩) (m.bl.length + 1) C ∧ m.bl.length + 1 ≤ C ∧ ∀ i, i < m.bl.length + 1 → w.cell? ⟨B, i, none⟩ = some (.pointer (some ⟨L.pb i, 0, none⟩)) := by
  obtain ⟨A, C, e, h1⟩ := OwnB.shape ptC_len h.cc
  obtain ⟨B, rfl, _, _, hc, hr⟩ := h1 (by simp)
  simp only [List.length_map, List.length_range] at e hc
  refine ⟨B, C, e, hc, fun i hi => ?_⟩
  have := hr.cell (j := 0) (u := .pointer (some ⟨L.pb i, 0, none⟩)) i (by simpa using hi) (by simp [ptC])
  simpa using this

set_option maxHeartbeats 1000000 in
theorem asks_c (h : MS X m st L w) (b2 b3 : Nat) (a : Int) (k : Nat) (hk : k < m.bl.length + 1) (h2 : w.cell? ⟨b2, 0, none⟩ = some (.pointer (some ⟨X.R, 0, none⟩))) (h3 : w.cell? ⟨b3, 0, none⟩ = some (.int .u32 a)) :
    Calls Tryd.prog 64 (#[.int .i64 (k : Int)] ++ #[.pointer (some ⟨b2, 0, none⟩), .pointer (some ⟨b3, 0, none⟩)]) w fun e w' => e = .returned (.bool (decide (a < (callAt m k).ba))) ∧ Below w.heap.size w w' := by
  have c6 := h.rr.cell 6 (by omega)
  simp only [rnF] at c6
  obtain ⟨B, C, e, _, hc⟩ := h.calls
  rw [e] at c6
  have c1 := hc k hk
  have c3 := (h.at k (by omega)).s.cell 3 (by omega)
  simp only [clF] at c3
  have hkz : (k : Int) < (m.bl.length : Int) + 1 := by omega
  have hkz2 : k < m.bl.length + 1 := hk
  clear h e hc hk
  generalize (callAt m k).ba = ba at *
  generalize L.pb k = pb at *
  generalize m.bl.length = n at *
  go_enter Tryd.func64, Tryd.ntmps64
  go_wp2
  go_quiet (fail)
  go_wp2
  go_ret
  exact ⟨rfl, drw (Below.refl _ _)⟩

set_option maxHeartbeats 1000000 in
theorem around_c (h : MS X m st L w) (a : Int) (hn : m.bl.length ≤ 1000) (hs : ∀ i j, i ≤ j → j ≤ m.bl.length → (callAt m i).ba ≤ (callAt m j).ba) :
    Calls Tryd.prog 53 #[.pointer (some ⟨X.R, 0, none⟩), .int .u32 a] w fun e w' => e = .returned (.pointer (if nAr m.cs a = 0 then none else some ⟨L.pb (nAr m.cs a - 1), 0, none⟩)) ∧ nAr m.cs a ≤ m.bl.length + 1 ∧ Below w.heap.size w w' := by
  have c6 := h.rr.cell 6 (by omega)
  simp only [rnF] at c6
  obtain ⟨B, C, e, _, hc⟩ := h.calls
  have HC : Hid (∀ i, i < m.bl.length + 1 → w.cell? ⟨B, i, none⟩ = some (.pointer (some ⟨L.pb i, 0, none⟩))) := hc
  rw [e] at c6
  have hB : B < w.heap.size := World.block_lt_of_cell? _ _ (hc 0 (by omega))
  have hR := h.rr.lt
  have HK : Hid (∀ k : Nat, k ≤ m.bl.length + 1 → (∀ i, i < k → decide (a < (callAt m i).ba) = false) → (∀ i, k ≤ i → i < m.bl.length + 1 → decide (a < (callAt m i).ba) = true) → nAr m.cs a = k) := fun k hk h1 h2 => by
    unfold nAr
    refine idx_of _ _ k (by rw [cs_len]; exact hk) (fun i hi hik => ?_) fun hh => ?_
    · rw [cs_at]; exact h1 i hik
    · rw [cs_at]; exact h2 k (Nat.le_refl _) (by rw [cs_len] at hh; exact hh)
  have SS : Hid (∀ w2, w2 = (w.alloc (.cells #[.pointer (some ⟨X.R, 0, none⟩)] 45)).alloc (.cells #[.int .u32 a] 82) → Calls Tryd.prog 63 #[.int .i64 ((m.bl.length + 1 : Nat) : Int), .func (.func 64) #[] #[.pointer (some ⟨w.heap.size, 0, none⟩), .pointer (some ⟨w.heap.size + 1, 0, none⟩)]] w2 fun e w' => ∃ k : Nat, k ≤ m.bl.length + 1 ∧ nAr m.cs a = k ∧ e = .returned (.int .i64 (k : Int)) ∧ Below w2.heap.size w2 w') := fun w2 hw2 => by
    have b2 : Below w.heap.size w w2 := by rw [hw2]; exact below_two w _ _
    have d2 : w2.cell? ⟨w.heap.size, 0, none⟩ = some (.pointer (some ⟨X.R, 0, none⟩)) := by
      rw [hw2]
      exact cell_new _ (by rw [(At.new w _ _).cell]; rfl)
    have d3 : w2.cell? ⟨w.heap.size + 1, 0, none⟩ = some (.int .u32 a) := by
      rw [hw2]
      have := (At.new (w.alloc (.cells #[.pointer (some ⟨X.R, 0, none⟩)] 45)) #[.int .u32 a] 82).cell 0
      rw [show (w.alloc (.cells #[.pointer (some ⟨X.R, 0, none⟩)] 45)).heap.size = w.heap.size + 1 from Array.size_push _] at this
      rw [this]; rfl
    refine (search_c 64 _ (m.bl.length + 1) (fun k => decide (a < (callAt m k).ba)) (by omega) w2 (fun _ _ => by kernel_rfl) (fun k hk w3 hb => ?_) (fun i j hij hj hp => ?_)).mono ?_
    · have hc2 : w3.cell? ⟨w.heap.size, 0, none⟩ = some (.pointer (some ⟨X.R, 0, none⟩)) := (hb.cell (p := ⟨w.heap.size, 0, none⟩) (World.block_lt_of_cell? _ _ d2)).trans d2
      have hc3 : w3.cell? ⟨w.heap.size + 1, 0, none⟩ = some (.int .u32 a) := (hb.cell (p := ⟨w.heap.size + 1, 0, none⟩) (World.block_lt_of_cell? _ _ d3)).trans d3
      exact asks_c (h.below (below_next b2 hb)) _ _ a k hk hc2 hc3
    · have := hs i j hij (by omega)
      simp only [decide_eq_true_eq] at hp ⊢
      omega
    · rintro e w' ⟨k, h1, h2, h3, rfl, h5⟩
      exact ⟨k, h1, HK.out k h1 h2 h3, rfl, h5⟩
  have hmf : ∀ (fn : Fn) (first cap : Array Value) (w : World), (Instr.makeFunc fn first cap).run Tryd.prog w = .ok (.func fn first cap) w := fun _ _ _ _ => rfl
  have hlen : ((m.bl.length + 1 : Nat) : Int) = (m.bl.length : Int) + 1 := by omega
  have HB : Hid (∀ o1 o2, Below w.heap.size w ((w.alloc o1).alloc o2)) := fun _ _ => below_two w _ _
  have SX : Hid (∀ w5, Below ((w.alloc (.cells #[.pointer (some ⟨X.R, 0, none⟩)] 45)).alloc (.cells #[.int .u32 a] 82)).heap.size ((w.alloc (.cells #[.pointer (some ⟨X.R, 0, none⟩)] 45)).alloc (.cells #[.int .u32 a] 82)) w5 → w5.cell? ⟨w.heap.size, 0, none⟩ = some (.pointer (some ⟨X.R, 0, none⟩))) := fun w5 hb => by
    have d2 : ((w.alloc (.cells #[.pointer (some ⟨X.R, 0, none⟩)] 45)).alloc (.cells #[.int .u32 a] 82)).cell? ⟨w.heap.size, 0, none⟩ = some (.pointer (some ⟨X.R, 0, none⟩)) := cell_new _ (by rw [(At.new w _ _).cell]; rfl)
    exact (hb.cell (p := ⟨w.heap.size, 0, none⟩) (World.block_lt_of_cell? _ _ d2)).trans d2
  rw [hlen] at SS
  clear h e hc HK hs hlen
  generalize m.bl.length = n at *
  generalize nAr m.cs a = N at *
  rcases N with _ | N
  · show Calls _ _ _ _ fun e w' => e = .returned (.pointer none) ∧ 0 ≤ n + 1 ∧ Below w.heap.size w w'
    go_enter Tryd.func53, Tryd.ntmps53
    go_wp2_with (go_at_call 63; refine (SS.out _ rfl).mono ?_; rintro e w5 ⟨k, k1, k2, rfl, hb5⟩; subst k2; have B5 : Hid (Below w.heap.size w w5) := below_next (HB.out _ _) hb5; have e6 : w5.cell? ⟨X.R, 6, none⟩ = some (.slice (some ⟨B, 0, none⟩) (n + 1) C) := (B5.out.cell (p := ⟨X.R, 6, none⟩) hR).trans c6; have e2 : w5.cell? ⟨w.heap.size, 0, none⟩ = some (.pointer (some ⟨X.R, 0, none⟩)) := SX.out w5 hb5; have e8 : w5.cell? ⟨B, 0, none⟩ = some (.pointer (some ⟨L.pb 0, 0, none⟩)) := (B5.out.cell (p := ⟨B, 0, none⟩) hB).trans (HC.out 0 (by omega)); clear hb5)
    go_ret
    exact ⟨rfl, Nat.zero_le _, B5.out⟩
  · show Calls _ _ _ _ fun e w' => e = .returned (.pointer (some ⟨L.pb N, 0, none⟩)) ∧ N + 1 ≤ n + 1 ∧ Below w.heap.size w w'
    have hz : ¬ ((N : Int) + 1 = 0) := by omega
    go_enter Tryd.func53, Tryd.ntmps53
    go_wp2_with (go_at_call 63; refine (SS.out _ rfl).mono ?_; rintro e w5 ⟨k, k1, k2, rfl, hb5⟩; subst k2; have B5 : Hid (Below w.heap.size w w5) := below_next (HB.out _ _) hb5; have e6 : w5.cell? ⟨X.R, 6, none⟩ = some (.slice (some ⟨B, 0, none⟩) (n + 1) C) := (B5.out.cell (p := ⟨X.R, 6, none⟩) hR).trans c6; have e2 : w5.cell? ⟨w.heap.size, 0, none⟩ = some (.pointer (some ⟨X.R, 0, none⟩)) := SX.out w5 hb5; have e8 : w5.cell? ⟨B, N, none⟩ = some (.pointer (some ⟨L.pb N, 0, none⟩)) := (B5.out.cell (p := ⟨B, N, none⟩) hB).trans (HC.out N (by omega)); clear hb5)

    go_ret
    exact ⟨rfl, by omega, B5.out⟩
end
end Go.Proofs.YtapgaclonilnbaaDoor
