/-
  Proved: what the program's From answers.
-/
import Derived.Test.YtmmgdiecmokipaaPrr
import Derived.Test.YtmmgdiecmokipaaPreach
namespace Go.Proofs.Ytmmgdiecmokipaa
open Go.RowKit

/-- Who comes to i: of the blocks below k, and of k by the first j of its ways. -/
def frJ (n : Nat) (to : List (List Int)) (k j i : Nat) : List Nat := frT n to i k ++ if (keep n ((to.getD k []).take j)).contains i then [k] else []

theorem frJ_zero (n : Nat) (to : List (List Int)) (k : Nat) : frJ n to k 0 = fun i => frT n to i k := by
  funext i
  simp [frJ, keep]

theorem frJ_all (n : Nat) (to : List (List Int)) (k j : Nat) (h : (to.getD k []).length ≤ j) : frJ n to k j = fun i => frT n to i (k + 1) := by
  funext i
  rw [frJ, fr_step, List.take_of_length_le h]
  rfl

theorem frT_lt (n : Nat) (to : List (List Int)) (i k x : Nat) (h : x ∈ frT n to i k) : x < k := by
  have := (List.mem_filter.1 h).1
  simpa using this

theorem frJ_last (n : Nat) (to : List (List Int)) (k j i : Nat) : (frJ n to k j i).getLast? = some k ↔ i ∈ keep n ((to.getD k []).take j) := by
  unfold frJ
  split
  · rename_i h
    simp at h
    simp [List.getLast?_append, h]
  · rename_i h
    simp at h
    rw [List.append_nil]
    constructor
    · intro h2
      have := frT_lt n to i k k (List.mem_of_getLast? h2)
      omega
    · intro h2
      exact absurd h2 h

/-- One more way, to y. -/
theorem frJ_in (n : Nat) (to : List (List Int)) (k j y : Nat) (hj : j < (to.getD k []).length) (hy : (to.getD k [])[j] = (y : Int)) (hn : y < n) (h : y ∉ keep n ((to.getD k []).take j)) : frJ n to k (j + 1) = pu (frJ n to k j) y (frJ n to k j y ++ [k]) := by
  have e1 : keep n ((to.getD k []).take (j + 1)) = keep n ((to.getD k []).take j) ++ [y] := by
    rw [keep_step n _ j hj, if_pos (by rw [hy]; omega), hy, Int.toNat_natCast]
  funext i
  unfold frJ
  rw [e1]
  by_cases e : i = y
  · subst e
    rw [pu_self, if_pos (by simp), if_neg (by rw [List.contains_eq_mem]; simpa using h)]
    simp
  · rw [pu_ne _ _ e]
    congr 2
    simp [e]

theorem frJ_out (n : Nat) (to : List (List Int)) (k j : Nat) (hj : j < (to.getD k []).length) (h : ∀ y : Nat, (to.getD k [])[j] = (y : Int) → y < n → y ∈ keep n ((to.getD k []).take j)) : frJ n to k (j + 1) = frJ n to k j := by
  funext i
  unfold frJ
  rw [keep_step n _ j hj]
  split
  · rename_i e
    have h1 := h _ (show (to.getD k [])[j] = (((to.getD k [])[j].toNat : Nat) : Int) by rw [Int.toNat_of_nonneg e.1]) (by have := e.1; have := e.2; omega)
    by_cases e2 : i = (to.getD k [])[j].toNat
    · rw [← e2] at h1 ⊢
      rw [if_pos (by simp), if_pos (by rw [List.contains_eq_mem]; exact decide_eq_true h1)]
    · congr 2
      simp only [List.contains_eq_mem, List.mem_append, List.mem_singleton, e2, or_false]
  · rw [List.append_nil]

theorem frT_max (n : Nat) (to : List (List Int)) (i k : Nat) (h : min n to.length ≤ k) (hk : k ≤ n) : frT n to i k = fr n to i := by
  have key : ∀ m, k + m ≤ n → frT n to i (k + m) = frT n to i k := fun m => by
    induction m with
    | zero => intro _; rfl
    | succ m ih =>
      intro hm
      rw [← Nat.add_assoc, fr_step, ih (by omega)]
      have : wy n to (k + m) = [] := by
        unfold wy
        rw [List.getD_eq_getElem?_getD, List.getElem?_eq_none (by omega)]
        rfl
      rw [this]
      simp
  have := key (n - k) (by omega)
  rw [show k + (n - k) = n by omega] at this
  exact this.symm

theorem frT_len (n : Nat) (to : List (List Int)) (i k : Nat) : (frT n to i k).length ≤ k := by
  unfold frT
  refine Nat.le_trans (List.length_filter_le _ _) ?_
  simp

theorem frJ_len (n : Nat) (to : List (List Int)) (k j i : Nat) : (frJ n to k j i).length ≤ k + 1 := by
  unfold frJ
  rw [List.length_append]
  have := frT_len n to i k
  split <;> simp <;> omega

set_option maxRecDepth 20000 in
set_option maxHeartbeats 4000000 in
theorem from_p (z : Int) (n : Nat) (hz : IsN z n) (hn : n ≤ 1000) (to : List (List Int)) (tv : Value) (w : World) (h : RwsIn w to tv) (hf : Fw to) :
    Calls Try.prog 10 #[.int .i64 z, tv] w fun e w' => e = .returned (.slice (some ⟨w.heap.size, 0, none⟩) n n) ∧ Below w.heap.size w w' ∧ ∃ vs, RR w' w.heap.size n vs (fr n to) := by
  have RM : Hid (∀ w, Calls Try.prog 17 #[.int .i64 z] w fun e w' => e = .returned (.int .i64 (n : Int)) ∧ w' = w) := fun w => room_z hz hn w
  have hmk := make_rr n hn
  have B1 : Hid (Below w.heap.size w (w.alloc (.cells (madeCells #[.slice none 0 0] n) 28))) := below_alloc _ _
  have R1 : Hid (RR (w.alloc (.cells (madeCells #[.slice none 0 0] n) 28)) w.heap.size n (fun _ => .slice none 0 0) (frJ n to 0 0)) := by
    rw [show frJ n to 0 0 = fun _ => [] from by rw [frJ_zero]; rfl]
    exact RR.made w n
  have TI : Hid (RwsIn w to tv) := h
  obtain ⟨A, C, rfl, hr⟩ := h
  have HR : Hid (∀ i (h : i < to.length), ∃ b o u, A = some ⟨b, o, none⟩ ∧ b < w.heap.size ∧ w.cell? ⟨b, o + i, none⟩ = some u ∧ NumsIn w (to[i]'h) u) := hr
  have FW : Hid (Fw to) := hf
  have hl : to.length ≤ 200 := hf.1
  clear hz hf hr
  rcases Nat.lt_or_ge to.length n with hml | hml
  · have hmz : (to.length : Int) < n := by omega
    go_enter Try.func10, Try.ntmps10
    go_wp2_with (go_at_call 17; refine (RM.out _).mono ?_; rintro e w3 ⟨rfl, hw3⟩; rw [hw3]; clear hw3 w3)
    go_loopw [17] (fun kv wr => ∃ (k : Nat) (vs : Nat → Value), k ≤ to.length ∧ kv = .int .i64 (k : Int) ∧ RR wr w.heap.size n vs (frJ n to k 0) ∧ Below w.heap.size w wr) (fun kv _ => to.length - (intOf kv).toNat)
    case atStart => exact ⟨0, _, Nat.zero_le _, rfl, R1.out, B1.out⟩
    case round =>
      obtain ⟨k, vs, hk, rfl, hR, hB⟩ := hrel
      have R2 : Hid (RR wr w.heap.size n vs (frJ n to k 0)) := hR
      have B2 : Hid (Below w.heap.size w wr) := hB
      clear hR hB
      rcases Nat.lt_or_ge k (to.length) with hk' | hk'
      · have hkz : (k : Int) < to.length := by omega
        have hkl : k < to.length := by omega
        have hkl2 : (k : Int) < to.length := by omega
        have hkn : k < n := by omega
        obtain ⟨b, o, u, rfl, hb, hc, hnum⟩ := HR.out k hkl
        have c0 : wr.cell? ⟨b, o + k, none⟩ = some u := (B2.out.cell (p := ⟨b, o + k, none⟩) hb).trans hc
        have EL : Hid (to.getD k [] = to[k]) := (by rw [List.getD_eq_getElem?_getD, List.getElem?_eq_getElem hkl]; rfl : to.getD k [] = to[k])
        have hlen : to[k].length ≤ 200 := FW.out.2 k hkl
        have FA : Hid (frJ n to k to[k].length = frJ n to (k + 1) 0) := (by rw [frJ_all n to k _ (by rw [EL.out]; exact Nat.le_refl _), frJ_zero] : frJ n to k to[k].length = frJ n to (k + 1) 0)
        have FI : Hid (∀ j (hj : j < to[k].length) (y : Nat), to[k][j] = (y : Int) → y < n → (frJ n to k j y).getLast? ≠ some k → frJ n to k (j + 1) = pu (frJ n to k j) y (frJ n to k j y ++ [k])) := fun j hj y h1 h2 h3 => frJ_in n to k j y (by rw [EL.out]; exact hj) (by simp only [EL.out]; exact h1) h2 (fun h => h3 ((frJ_last _ _ _ _ _).2 h))
        have FO : Hid (∀ j (hj : j < to[k].length), (∀ y : Nat, to[k][j] = (y : Int) → y < n → (frJ n to k j y).getLast? = some k) → frJ n to k (j + 1) = frJ n to k j) := fun j hj h => frJ_out n to k j (by rw [EL.out]; exact hj) (fun y h1 h2 => (frJ_last _ _ _ _ _).1 (h y (by simp only [EL.out] at h1; exact h1) h2))
        clear hc EL
        generalize to[k] = L at *
        obtain ⟨A1, C1, rfl, hn1⟩ := hnum
        have HN : Hid (∀ i (h : i < L.length), ∃ b o, A1 = some ⟨b, o, none⟩ ∧ b < w.heap.size ∧ w.cell? ⟨b, o + i, none⟩ = some (.int .i64 (L[i]'h))) := hn1
        clear hn1
        go_wp2
        go_loopw [25] (fun jv wz => ∃ (j : Nat) (us : Nat → Value), j ≤ L.length ∧ jv = .int .i64 (j : Int) ∧ RR wz w.heap.size n us (frJ n to k j) ∧ Below w.heap.size w wz) (fun jv _ => L.length - (intOf jv).toNat)
        case atStart => exact ⟨0, _, Nat.zero_le _, rfl, R2.out, B2.out⟩
        case round =>
          rename World => wz
          obtain ⟨j, us, hj, rfl, hR, hB⟩ := hrel
          have R3 : Hid (RR wz w.heap.size n us (frJ n to k j)) := hR
          have B3 : Hid (Below w.heap.size w wz) := hB
          clear hR hB R2 B2
          rcases Nat.lt_or_ge j L.length with hj' | hj'
          · have hjz : (j : Int) < L.length := by omega
            obtain ⟨b1, o1, rfl, hb1, hc1⟩ := HN.out j hj'
            have c1 : wz.cell? ⟨b1, o1 + j, none⟩ = some (.int .i64 L[j]) := (B3.out.cell (p := ⟨b1, o1 + j, none⟩) hb1).trans hc1
            have FI2 : Hid (∀ (y : Nat), L[j] = (y : Int) → y < n → (frJ n to k j y).getLast? ≠ some k → frJ n to k (j + 1) = pu (frJ n to k j) y (frJ n to k j y ++ [k])) := FI.out j hj'
            have FO2 : Hid ((∀ y : Nat, L[j] = (y : Int) → y < n → (frJ n to k j y).getLast? = some k) → frJ n to k (j + 1) = frJ n to k j) := FO.out j hj'
            clear hc1
            generalize L[j] = x at *
            by_cases hx : 0 ≤ x ∧ x < (n : Int)
            · obtain ⟨y, rfl⟩ : ∃ y : Nat, x = (y : Int) := ⟨x.toNat, by omega⟩
              have hyn : y < n := by omega
              have hyz : (y : Int) < n := by omega
              have I2 : Hid (∀ w, Calls Try.prog 22 #[.int .i64 (n : Int), .int .i64 (y : Int)] w fun e w' => e = .returned (.bool true) ∧ w' = w) := fun w => by
                have := isBlock_c n (y : Int) w
                rwa [decide_eq_true hx] at this
              have cy := R3.out.cell y hyn
              have fy := R3.out.frozen y
              have O3 : ON (w.heap.size + 1) (frJ n to k j y) (us y) wz := R3.out.2.1 y hyn
              have hfl := frJ_len n to k j y
              have O3' : Hid (ON (w.heap.size + 1) (frJ n to k j y) (us y) wz) := O3
              have EW : Hid (Calls Try.prog 23 #[us y, .int .i64 (k : Int)] wz fun e w' => e = .returned (.bool (decide ((frJ n to k j y).getLast? = some k))) ∧ w' = wz) := endsWith_c O3 k (by omega)
              obtain ⟨Ay, Cy, ey, -⟩ := O3.shape
              have EY : Hid (us y = .slice Ay (frJ n to k j y).length Cy) := ey
              rw [ey] at cy
              clear hx O3 ey
              by_cases hlast : (frJ n to k j y).getLast? = some k
              · have E2 : Hid (Calls Try.prog 23 #[.slice Ay (frJ n to k j y).length Cy, .int .i64 (k : Int)] wz fun e w' => e = .returned (.bool true) ∧ w' = wz) := by
                  have := EW.out
                  rw [decide_eq_true hlast, EY.out] at this
                  exact this
                have FF : Hid (frJ n to k (j + 1) = frJ n to k j) := FO2.out fun y' h1 _ => by
                  obtain rfl : y' = y := by omega
                  exact hlast
                clear hlast
                go_wp2_with (first
                  | (go_at_call 22; refine (I2.out _).mono ?_; rintro e w4 ⟨rfl, hw4⟩; rw [hw4]; clear hw4 w4)
                  | (go_at_call 23; refine E2.out.mono ?_; rintro e w4 ⟨rfl, hw4⟩; rw [hw4]; clear hw4 w4))
                go_roundw
                case rel => exact ⟨j + 1, us, by omega, by go_num, by rw [FF.out]; exact R3.out, B3.out⟩
                case measure => simp [intOf]; omega
              · have E2 : Hid (Calls Try.prog 23 #[.slice Ay (frJ n to k j y).length Cy, .int .i64 (k : Int)] wz fun e w' => e = .returned (.bool false) ∧ w' = wz) := by
                  have := EW.out
                  rw [decide_eq_false hlast, EY.out] at this
                  exact this
                have FF : Hid (frJ n to k (j + 1) = pu (frJ n to k j) y (frJ n to k j y ++ [k])) := FI2.out y rfl hyn hlast
                have R4 : Hid (RR (wz.alloc (.cells (iN k).toArray 3)) w.heap.size n us (frJ n to k j)) := R3.out.kp (Kp.of_below (F := fun _ => False) (below_alloc _ _)) fun _ h => h.elim
                have O4 : Hid (ON (w.heap.size + 1) (frJ n to k j y) (.slice Ay (frJ n to k j y).length Cy) (wz.alloc (.cells (iN k).toArray 3))) := (by rw [← EY.out]; exact R4.out.2.1 y hyn : ON (w.heap.size + 1) (frJ n to k j y) (.slice Ay (frJ n to k j y).length Cy) (wz.alloc (.cells (iN k).toArray 3)))
                clear hlast
                go_wp2_with (first
                  | (go_at_call 22; refine (I2.out _).mono ?_; rintro e w4 ⟨rfl, hw4⟩; rw [hw4]; clear hw4 w4)
                  | (go_at_call 23; refine E2.out.mono ?_; rintro e w4 ⟨rfl, hw4⟩; rw [hw4]; clear hw4 w4)
                  | (at_builtin; refine ON.app _ rfl _ _ rfl _ rfl k O4.out ⟨wz.heap.size, 0, none⟩ 1 rfl (fun j u hj => cells_new _ (iN k) 3 j u hj) (by omega) ?_; intro v5 w5 ho hb5 hk5 hv5; obtain ⟨A5, C5, rfl, -⟩ := ho.shape; have R5 : Hid (RR (w5.setCell ⟨w.heap.size, y, none⟩ (.slice A5 (frJ n to k j y ++ [k]).length C5)) w.heap.size n (pu us y (.slice A5 (frJ n to k j y ++ [k]).length C5)) (frJ n to k (j + 1))) := (by rw [FF.out]; exact R4.out.put hyn ho hb5 (by rw [EY.out]; exact hk5) (by rw [EY.out]; exact hv5)); have B5 : Hid (Below w.heap.size w (w5.setCell ⟨w.heap.size, y, none⟩ (.slice A5 (frJ n to k j y ++ [k]).length C5))) := below_set ((below_next B3.out (below_alloc _ _)).trans (hb5.mono (by omega))) (Nat.le_refl _) _; have a5 := R4.out.1.below hb5 (by omega); have c5 : w5.cell? ⟨w.heap.size, y, none⟩ = some (.slice Ay (frJ n to k j y).length Cy) := (by rw [a5.cell, vC_get, if_pos hyn, EY.out]); have f5 := a5.frozen y; clear ho hb5 hk5 hv5 a5))
                go_roundw
                case rel => exact ⟨j + 1, _, by omega, by go_num, by have := R5.out; rw [List.length_append] at this; exact this, by have := B5.out; rw [List.length_append] at this; exact this⟩
                case measure => simp [intOf]; omega
            · have I2 : Hid (∀ w, Calls Try.prog 22 #[.int .i64 (n : Int), .int .i64 x] w fun e w' => e = .returned (.bool false) ∧ w' = w) := fun w => by
                have := isBlock_c n x w
                rwa [decide_eq_false hx] at this
              have FF : Hid (frJ n to k (j + 1) = frJ n to k j) := FO2.out fun y h1 h2 => absurd (by omega) hx
              clear hx
              go_wp2_with (go_at_call 22; refine (I2.out _).mono ?_; rintro e w4 ⟨rfl, hw4⟩; rw [hw4]; clear hw4 w4)
              go_roundw
              case rel => exact ⟨j + 1, us, by omega, by go_num, by rw [FF.out]; exact R3.out, B3.out⟩
              case measure => simp [intOf]; omega
          · have hjz : ¬ (j : Int) < L.length := by omega
            obtain rfl : j = L.length := by omega
            go_wp2
            go_roundw
            case rel => exact ⟨k + 1, us, by omega, by go_num, by rw [← FA.out]; exact R3.out, B3.out⟩
            case measure => simp [intOf]; omega
      · have hkz : ¬ (k : Int) < to.length := by omega
        go_wp2
        go_ret
        refine ⟨rfl, B2.out, vs, ?_⟩
        have h1 := R2.out
        rw [frJ_zero, show (fun i => frT n to i k) = fr n to from funext fun i => frT_max n to i k (by omega) (by omega)] at h1
        exact h1
  · have hmz : ¬ (to.length : Int) < n := by omega
    go_enter Try.func10, Try.ntmps10
    go_wp2_with (go_at_call 17; refine (RM.out _).mono ?_; rintro e w3 ⟨rfl, hw3⟩; rw [hw3]; clear hw3 w3)
    go_loopw [17] (fun kv wr => ∃ (k : Nat) (vs : Nat → Value), k ≤ n ∧ kv = .int .i64 (k : Int) ∧ RR wr w.heap.size n vs (frJ n to k 0) ∧ Below w.heap.size w wr) (fun kv _ => n - (intOf kv).toNat)
    case atStart => exact ⟨0, _, Nat.zero_le _, rfl, R1.out, B1.out⟩
    case round =>
      obtain ⟨k, vs, hk, rfl, hR, hB⟩ := hrel
      have R2 : Hid (RR wr w.heap.size n vs (frJ n to k 0)) := hR
      have B2 : Hid (Below w.heap.size w wr) := hB
      clear hR hB
      rcases Nat.lt_or_ge k (n) with hk' | hk'
      · have hkz : (k : Int) < n := by omega
        have hkl : k < to.length := by omega
        have hkl2 : (k : Int) < to.length := by omega
        have hkn : k < n := by omega
        obtain ⟨b, o, u, rfl, hb, hc, hnum⟩ := HR.out k hkl
        have c0 : wr.cell? ⟨b, o + k, none⟩ = some u := (B2.out.cell (p := ⟨b, o + k, none⟩) hb).trans hc
        have EL : Hid (to.getD k [] = to[k]) := (by rw [List.getD_eq_getElem?_getD, List.getElem?_eq_getElem hkl]; rfl : to.getD k [] = to[k])
        have hlen : to[k].length ≤ 200 := FW.out.2 k hkl
        have FA : Hid (frJ n to k to[k].length = frJ n to (k + 1) 0) := (by rw [frJ_all n to k _ (by rw [EL.out]; exact Nat.le_refl _), frJ_zero] : frJ n to k to[k].length = frJ n to (k + 1) 0)
        have FI : Hid (∀ j (hj : j < to[k].length) (y : Nat), to[k][j] = (y : Int) → y < n → (frJ n to k j y).getLast? ≠ some k → frJ n to k (j + 1) = pu (frJ n to k j) y (frJ n to k j y ++ [k])) := fun j hj y h1 h2 h3 => frJ_in n to k j y (by rw [EL.out]; exact hj) (by simp only [EL.out]; exact h1) h2 (fun h => h3 ((frJ_last _ _ _ _ _).2 h))
        have FO : Hid (∀ j (hj : j < to[k].length), (∀ y : Nat, to[k][j] = (y : Int) → y < n → (frJ n to k j y).getLast? = some k) → frJ n to k (j + 1) = frJ n to k j) := fun j hj h => frJ_out n to k j (by rw [EL.out]; exact hj) (fun y h1 h2 => (frJ_last _ _ _ _ _).1 (h y (by simp only [EL.out] at h1; exact h1) h2))
        clear hc EL
        generalize to[k] = L at *
        obtain ⟨A1, C1, rfl, hn1⟩ := hnum
        have HN : Hid (∀ i (h : i < L.length), ∃ b o, A1 = some ⟨b, o, none⟩ ∧ b < w.heap.size ∧ w.cell? ⟨b, o + i, none⟩ = some (.int .i64 (L[i]'h))) := hn1
        clear hn1
        go_wp2
        go_loopw [25] (fun jv wz => ∃ (j : Nat) (us : Nat → Value), j ≤ L.length ∧ jv = .int .i64 (j : Int) ∧ RR wz w.heap.size n us (frJ n to k j) ∧ Below w.heap.size w wz) (fun jv _ => L.length - (intOf jv).toNat)
        case atStart => exact ⟨0, _, Nat.zero_le _, rfl, R2.out, B2.out⟩
        case round =>
          rename World => wz
          obtain ⟨j, us, hj, rfl, hR, hB⟩ := hrel
          have R3 : Hid (RR wz w.heap.size n us (frJ n to k j)) := hR
          have B3 : Hid (Below w.heap.size w wz) := hB
          clear hR hB R2 B2
          rcases Nat.lt_or_ge j L.length with hj' | hj'
          · have hjz : (j : Int) < L.length := by omega
            obtain ⟨b1, o1, rfl, hb1, hc1⟩ := HN.out j hj'
            have c1 : wz.cell? ⟨b1, o1 + j, none⟩ = some (.int .i64 L[j]) := (B3.out.cell (p := ⟨b1, o1 + j, none⟩) hb1).trans hc1
            have FI2 : Hid (∀ (y : Nat), L[j] = (y : Int) → y < n → (frJ n to k j y).getLast? ≠ some k → frJ n to k (j + 1) = pu (frJ n to k j) y (frJ n to k j y ++ [k])) := FI.out j hj'
            have FO2 : Hid ((∀ y : Nat, L[j] = (y : Int) → y < n → (frJ n to k j y).getLast? = some k) → frJ n to k (j + 1) = frJ n to k j) := FO.out j hj'
            clear hc1
            generalize L[j] = x at *
            by_cases hx : 0 ≤ x ∧ x < (n : Int)
            · obtain ⟨y, rfl⟩ : ∃ y : Nat, x = (y : Int) := ⟨x.toNat, by omega⟩
              have hyn : y < n := by omega
              have hyz : (y : Int) < n := by omega
              have I2 : Hid (∀ w, Calls Try.prog 22 #[.int .i64 (n : Int), .int .i64 (y : Int)] w fun e w' => e = .returned (.bool true) ∧ w' = w) := fun w => by
                have := isBlock_c n (y : Int) w
                rwa [decide_eq_true hx] at this
              have cy := R3.out.cell y hyn
              have fy := R3.out.frozen y
              have O3 : ON (w.heap.size + 1) (frJ n to k j y) (us y) wz := R3.out.2.1 y hyn
              have hfl := frJ_len n to k j y
              have O3' : Hid (ON (w.heap.size + 1) (frJ n to k j y) (us y) wz) := O3
              have EW : Hid (Calls Try.prog 23 #[us y, .int .i64 (k : Int)] wz fun e w' => e = .returned (.bool (decide ((frJ n to k j y).getLast? = some k))) ∧ w' = wz) := endsWith_c O3 k (by omega)
              obtain ⟨Ay, Cy, ey, -⟩ := O3.shape
              have EY : Hid (us y = .slice Ay (frJ n to k j y).length Cy) := ey
              rw [ey] at cy
              clear hx O3 ey
              by_cases hlast : (frJ n to k j y).getLast? = some k
              · have E2 : Hid (Calls Try.prog 23 #[.slice Ay (frJ n to k j y).length Cy, .int .i64 (k : Int)] wz fun e w' => e = .returned (.bool true) ∧ w' = wz) := by
                  have := EW.out
                  rw [decide_eq_true hlast, EY.out] at this
                  exact this
                have FF : Hid (frJ n to k (j + 1) = frJ n to k j) := FO2.out fun y' h1 _ => by
                  obtain rfl : y' = y := by omega
                  exact hlast
                clear hlast
                go_wp2_with (first
                  | (go_at_call 22; refine (I2.out _).mono ?_; rintro e w4 ⟨rfl, hw4⟩; rw [hw4]; clear hw4 w4)
                  | (go_at_call 23; refine E2.out.mono ?_; rintro e w4 ⟨rfl, hw4⟩; rw [hw4]; clear hw4 w4))
                go_roundw
                case rel => exact ⟨j + 1, us, by omega, by go_num, by rw [FF.out]; exact R3.out, B3.out⟩
                case measure => simp [intOf]; omega
              · have E2 : Hid (Calls Try.prog 23 #[.slice Ay (frJ n to k j y).length Cy, .int .i64 (k : Int)] wz fun e w' => e = .returned (.bool false) ∧ w' = wz) := by
                  have := EW.out
                  rw [decide_eq_false hlast, EY.out] at this
                  exact this
                have FF : Hid (frJ n to k (j + 1) = pu (frJ n to k j) y (frJ n to k j y ++ [k])) := FI2.out y rfl hyn hlast
                have R4 : Hid (RR (wz.alloc (.cells (iN k).toArray 3)) w.heap.size n us (frJ n to k j)) := R3.out.kp (Kp.of_below (F := fun _ => False) (below_alloc _ _)) fun _ h => h.elim
                have O4 : Hid (ON (w.heap.size + 1) (frJ n to k j y) (.slice Ay (frJ n to k j y).length Cy) (wz.alloc (.cells (iN k).toArray 3))) := (by rw [← EY.out]; exact R4.out.2.1 y hyn : ON (w.heap.size + 1) (frJ n to k j y) (.slice Ay (frJ n to k j y).length Cy) (wz.alloc (.cells (iN k).toArray 3)))
                clear hlast
                go_wp2_with (first
                  | (go_at_call 22; refine (I2.out _).mono ?_; rintro e w4 ⟨rfl, hw4⟩; rw [hw4]; clear hw4 w4)
                  | (go_at_call 23; refine E2.out.mono ?_; rintro e w4 ⟨rfl, hw4⟩; rw [hw4]; clear hw4 w4)
                  | (at_builtin; refine ON.app _ rfl _ _ rfl _ rfl k O4.out ⟨wz.heap.size, 0, none⟩ 1 rfl (fun j u hj => cells_new _ (iN k) 3 j u hj) (by omega) ?_; intro v5 w5 ho hb5 hk5 hv5; obtain ⟨A5, C5, rfl, -⟩ := ho.shape; have R5 : Hid (RR (w5.setCell ⟨w.heap.size, y, none⟩ (.slice A5 (frJ n to k j y ++ [k]).length C5)) w.heap.size n (pu us y (.slice A5 (frJ n to k j y ++ [k]).length C5)) (frJ n to k (j + 1))) := (by rw [FF.out]; exact R4.out.put hyn ho hb5 (by rw [EY.out]; exact hk5) (by rw [EY.out]; exact hv5)); have B5 : Hid (Below w.heap.size w (w5.setCell ⟨w.heap.size, y, none⟩ (.slice A5 (frJ n to k j y ++ [k]).length C5))) := below_set ((below_next B3.out (below_alloc _ _)).trans (hb5.mono (by omega))) (Nat.le_refl _) _; have a5 := R4.out.1.below hb5 (by omega); have c5 : w5.cell? ⟨w.heap.size, y, none⟩ = some (.slice Ay (frJ n to k j y).length Cy) := (by rw [a5.cell, vC_get, if_pos hyn, EY.out]); have f5 := a5.frozen y; clear ho hb5 hk5 hv5 a5))
                go_roundw
                case rel => exact ⟨j + 1, _, by omega, by go_num, by have := R5.out; rw [List.length_append] at this; exact this, by have := B5.out; rw [List.length_append] at this; exact this⟩
                case measure => simp [intOf]; omega
            · have I2 : Hid (∀ w, Calls Try.prog 22 #[.int .i64 (n : Int), .int .i64 x] w fun e w' => e = .returned (.bool false) ∧ w' = w) := fun w => by
                have := isBlock_c n x w
                rwa [decide_eq_false hx] at this
              have FF : Hid (frJ n to k (j + 1) = frJ n to k j) := FO2.out fun y h1 h2 => absurd (by omega) hx
              clear hx
              go_wp2_with (go_at_call 22; refine (I2.out _).mono ?_; rintro e w4 ⟨rfl, hw4⟩; rw [hw4]; clear hw4 w4)
              go_roundw
              case rel => exact ⟨j + 1, us, by omega, by go_num, by rw [FF.out]; exact R3.out, B3.out⟩
              case measure => simp [intOf]; omega
          · have hjz : ¬ (j : Int) < L.length := by omega
            obtain rfl : j = L.length := by omega
            go_wp2
            go_roundw
            case rel => exact ⟨k + 1, us, by omega, by go_num, by rw [← FA.out]; exact R3.out, B3.out⟩
            case measure => simp [intOf]; omega
      · have hkz : ¬ (k : Int) < n := by omega
        go_wp2
        go_ret
        refine ⟨rfl, B2.out, vs, ?_⟩
        have h1 := R2.out
        rw [frJ_zero, show (fun i => frT n to i k) = fr n to from funext fun i => frT_max n to i k (by omega) (by omega)] at h1
        exact h1
end Go.Proofs.Ytmmgdiecmokipaa
