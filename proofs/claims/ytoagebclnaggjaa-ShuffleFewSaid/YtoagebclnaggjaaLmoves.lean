/-
  Proved: ShuffleMoves answers true.
-/
import Derived.Test.YtoagebclnaggjaaSopen
set_option linter.unusedVariables false
namespace Go.Proofs.Ytoagebclnaggjaa
open Go.RowKit Go.Maps

/-- 'append([]Move{}, l...)'. -/
theorem append_any (w : World) {ops : Array Oper} {rest : List Oper} {o : Oper} {a : Act} {Q : Exit → Act → World → Prop} (hgd : o.guard = none) (s x : Operand)
    (ho : o.op = .call { callee := .builtin .append, args := #[s, x], argTypes := #[22, 22] })
    (v : Value) (hs : a.eval s = v) (w0 : World) (l : List Mv) (hown : Own 28 2 mC w0 ([] : List Mv) v w) (A : Option Addr) (C : Nat) (hx : a.eval x = .slice A l.length C) (hr : RowsIn w 2 mC l A) (hl : l.length ≤ 1000)
    (h : ∀ v' w', LI w' l v' → Below w0.heap.size w0 w' → wpList Try.prog ops Q rest (a.put o.dst v') w') : wpList Try.prog ops Q (o :: rest) a w := by
  have fin : ∀ v' w', Own 28 2 mC w0 l v' w' → wpList Try.prog ops Q rest (a.put o.dst v') w' := fun v' w' k => by
    obtain ⟨A', C', e, hrows⟩ := Own.done mC_len k
    exact h v' w' ⟨A', C', e, hrows⟩ k.1
  cases A with
  | none =>
    cases l with
    | nil => exact Own.append_nil 22 28 mC _ 2 16 infoMv Try.underlying22 w hgd s x ho v hs w0 [] hown C hx (fin v w hown)
    | cons m l =>
      obtain ⟨b, o, e, _⟩ := hr 0 (by simp)
      cases e
  | some ad =>
    refine Own.append 22 28 mC _ 2 16 infoMv Try.underlying22 rfl (by decide) (by decide) mC_len mC_one w hgd s x ho v hs w0 [] l hown ad C hx (fun j u hj => ?_) (by simp; omega) (fun v' w' k => fin v' w' (by simpa using k))
    by_cases e : l.length = 0
    · rw [List.length_eq_zero_iff.1 e] at hj
      simp at hj
    · obtain ⟨b, o, e1, h2⟩ := rows_all mC_len hr (by omega)
      cases e1
      exact h2 j u hj

theorem own_zero (w : World) : Own 28 2 mC w ([] : List Mv) (.slice (some ⟨w.heap.size, 0, none⟩) 0 0) (w.alloc (.cells #[] 28)) :=
  ⟨below_alloc _ _, by simp, Or.inr ⟨w.heap.size, 0, #[], rfl, Nat.le_refl _, alloc_at _ _, by simp, by unfold maxLen; omega, by simp, by simp⟩⟩

theorem two_li (w : World) (m k : Mv) : LI (w.alloc (.cells #[.int .i64 m.1, .int .i64 m.2, .int .i64 k.1, .int .i64 k.2] 28)) [m, k] (.slice (some ⟨w.heap.size, 0, none⟩) 2 2) := by
  have a : At (w.alloc (.cells #[.int .i64 m.1, .int .i64 m.2, .int .i64 k.1, .int .i64 k.2] 28)) w.heap.size #[.int .i64 m.1, .int .i64 m.2, .int .i64 k.1, .int .i64 k.2] 28 := At.new _ _ _
  refine ⟨_, _, rfl, fun i hi => ⟨_, _, rfl, a.lt, fun j v hj => ?_⟩⟩
  rw [a.cell]
  have hi2 : i = 0 ∨ i = 1 := by simp at hi; omega
  have hj2 : j = 0 ∨ j = 1 := by
    have := (List.getElem?_eq_some_iff.1 hj).1
    rw [mC_len] at this
    omega
  rcases hi2 with rfl | rfl <;> rcases hj2 with rfl | rfl <;> simpa [mC] using hj

theorem swap_is : lineP [(1, 2), (2, 1)] 3 = some [(3, 1), (1, 2), (2, 3)] := by decide +kernel

theorem moves_no (l : List Mv) (lv : Value) (spare : Int) (w : World) (h : LI w l lv) (hf : ¬ l.length < 100) :
    Calls Try.prog 3 #[lv, .int .i64 spare] w fun e w' => e = .returned (.bool true) ∧ Below w.heap.size w w' := by
  have F := few_c l lv w h
  rw [decide_eq_false (by omega)] at F
  have FH : Hid (Calls Try.prog 7 #[lv] w fun e w' => e = .returned (.bool false) ∧ w' = w) := F
  clear F h hf
  go_enter Try.func3, Try.ntmps3
  go_wp2_with (go_at_call 7; refine FH.out.mono ?_; rintro e w3 ⟨rfl, hw⟩; rw [hw]; clear hw w3)
  go_ret
  exact ⟨rfl, Below.refl _ _⟩

set_option maxRecDepth 20000 in
set_option maxHeartbeats 4000000 in
theorem moves_bad (l : List Mv) (lv : Value) (spare : Int) (w : World) (h : LI w l lv) (ha : Al l) (hs : In spare) (hf : l.length < 100) (hok : ¬ OKf l spare) :
    Calls Try.prog 3 #[lv, .int .i64 spare] w fun e w' => e = .returned (.bool true) ∧ Below w.heap.size w w' := by
  have F := few_c l lv w h
  rw [decide_eq_true (by omega)] at F
  have FH : Hid (Calls Try.prog 7 #[lv] w fun e w' => e = .returned (.bool true) ∧ w' = w) := F
  have C1 : Hid (Calls Try.prog 8 #[.slice (some ⟨w.heap.size, 0, none⟩) 2 2, .int .i64 3] (w.alloc (.cells #[.int .i64 1, .int .i64 2, .int .i64 2, .int .i64 1] 28)) fun e w' => ∃ u, e = .returned (.tuple #[u, .int .i64 0]) ∧ LI w' [(3, 1), (1, 2), (2, 3)] u ∧ Below (w.alloc (.cells #[.int .i64 1, .int .i64 2, .int .i64 2, .int .i64 1] 28)).heap.size (w.alloc (.cells #[.int .i64 1, .int .i64 2, .int .i64 2, .int .i64 1] 28)) w') := line_c [(1, 2), (2, 1)] _ 3 _ _ (two_li w (1, 2) (2, 1)) (fun m hm => by simp at hm; rcases hm with rfl | rfl <;> constructor <;> (unfold In; omega)) (by unfold In; omega) (by simp) ⟨by simp [ND], fun m hm => by simp at hm; rcases hm with rfl | rfl <;> simp⟩ swap_is
  have C2 : Hid (∀ w1 v, LI w1 l v → Calls Try.prog 8 #[v, .int .i64 spare] w1 fun e w' => e = .returned (.tuple #[.slice none 0 0, .int .i64 10]) ∧ Below w1.heap.size w1 w') := fun w1 v h1 => line_no l spare v w1 h1 ha (by omega) hok
  have C3 : Hid (∀ w1, Below w.heap.size w w1 → Calls Try.prog 9 #[lv, .int .i64 spare] w1 fun e w' => e = .returned (.bool false) ∧ Below w1.heap.size w1 w') := fun w1 k => right_c l spare false ⟨fun h => Bool.noConfusion h, fun h => absurd h hok⟩ lv w1 (h.below k) (by omega)
  have HL : Hid (LI w l lv) := h
  obtain ⟨A, C, rfl, -⟩ := h
  have hl : Hid (l.length ≤ 1000) := (show l.length ≤ 1000 by omega)
  have hli : (l.length : Int) < 100 := by omega
  clear F ha hs hf hok
  go_enter Try.func3, Try.ntmps3
  go_wp2_with (first
    | (go_at_call 7; refine FH.out.mono ?_; rintro e w3 ⟨rfl, hw⟩; rw [hw]; clear hw w3)
    | (at_builtin; refine append_any _ rfl _ _ rfl _ rfl w1 l (own_zero w1) A C rfl (by obtain ⟨A9, C9, e9, r9⟩ := HL.out; injection e9 with e9 _ _; subst e9; exact (r9.below M1.out).below (below_alloc _ _)) hl.out ?_; intro v2 w2 h2 k2; have M2 : Hid (LI w2 l v2 ∧ Below w.heap.size w w2) := ⟨h2, M1.out.trans (k2.mono M1.out.size)⟩; clear h2 k2)
    | (go_at_call 8; have M2' := M2; refine (C2.out w2 v2 M2.out.1).mono ?_; rintro e w3 ⟨rfl, h2⟩; have M3 : Hid (Below w.heap.size w w3) := M2.out.2.trans (h2.mono M2.out.2.size); clear h2)
    | (go_at_call 8; refine C1.out.mono ?_; rintro e w1 ⟨u1, rfl, h1, h2⟩; obtain ⟨A3, D3, rfl, h3⟩ := h1; have M1 : Hid (Below w.heap.size w w1) := below_next (below_alloc _ _) h2; clear h2 h3)
    | (go_at_call 9; refine (C3.out w3 M3.out).mono ?_; rintro e w4 ⟨rfl, h4⟩; have M4 : Hid (Below w.heap.size w w4) := M3.out.trans (h4.mono M3.out.size); clear h4))
  go_ret
  exact ⟨rfl, M4.out⟩

theorem chase_len : ∀ (g : Nat) (p : List Mv) (x : Int), (chase g p x).2.length + (chase g p x).1.length ≤ p.length := by
  intro g
  induction g with
  | zero => intro p x; simp [chase]
  | succ g ih =>
    intro p x
    cases hy : lk p x with
    | none => rw [chase_none hy]; simp
    | some y =>
      by_cases hr : rd p x = 0
      · rw [chase_step hy hr]
        have h1 := ih (rem p x) y
        have h2 := rem_len hy
        simp
        omega
      · rw [chase_read hr]; simp

theorem ph1_len : ∀ (k : List Mv) (s : List Mv × List Mv), (ph1 k s).2.length + (ph1 k s).1.length ≤ s.2.length + s.1.length := by
  intro k
  induction k with
  | nil => intro s; exact Nat.le_refl _
  | cons m k ih =>
    intro s
    rw [ph1]
    have h1 := ih ((chase s.1.length s.1 m.1).1, s.2 ++ (chase s.1.length s.1 m.1).2)
    have h2 := chase_len s.1.length s.1 m.1
    simp at h1
    omega

theorem circ_len {spare first : Int} : ∀ (g : Nat) (p : List Mv) (x : Int) (r : List Mv × List Mv), circ spare first g p x = some r → r.2.length + 2 * r.1.length + 1 ≤ 2 * p.length := by
  intro g
  induction g with
  | zero => intro p x r h; cases h
  | succ g ih =>
    intro p x r h
    obtain ⟨k, y, hk, hy, h | ⟨_, s, hs, rfl⟩⟩ := circ_some h
    · rw [h.2]
      have := rem_len hy
      simp
      omega
    · obtain rfl : g = k := by omega
      have h1 := ih _ _ s hs
      have h2 := rem_len hy
      simp
      omega

theorem ph2_len {spare : Int} : ∀ (k : List Mv) (s S : List Mv × List Mv), ph2 spare k s = some S → S.2.length + 2 * S.1.length ≤ s.2.length + 2 * s.1.length := by
  intro k
  induction k with
  | nil => intro s S h; cases h; exact Nat.le_refl _
  | cons m k ih =>
    intro s S h
    rw [ph2] at h
    cases hy : lk s.1 m.1 with
    | none => rw [hy] at h; exact ih s S h
    | some y =>
      rw [hy] at h
      simp only at h
      cases hc : circ spare m.1 s.1.length s.1 m.1 with
      | none => rw [hc] at h; cases h
      | some r =>
        rw [hc] at h
        have h1 := ih _ S h
        have h2 := circ_len _ _ _ r hc
        simp at h1
        omega

theorem lineP_len {l out : List Mv} {spare : Int} (h : lineP l spare = some out) : out.length ≤ 2 * l.length := by
  unfold lineP at h
  cases e : ph2 spare l (ph1 l (mvs l, [])) with
  | none => rw [e] at h; cases h
  | some S =>
    rw [e] at h
    have h0 : S.2 = out := by simpa using h
    subst h0
    have h1 := ph2_len l _ S e
    have h2 := ph1_len l (mvs l, [])
    have h3 : (mvs l).length ≤ l.length := List.length_filter_le _ _
    simp at h2
    omega

/-- Both lists lie there. -/
def Bo (l out : List Mv) (lv ov : Value) (w0 wr : World) : Prop := LI wr l lv ∧ LI wr out ov ∧ Below w0.heap.size w0 wr
theorem Bo.below {l out : List Mv} {lv ov : Value} {w0 wr wz : World} (h : Bo l out lv ov w0 wr) (k : Below wr.heap.size wr wz) : Bo l out lv ov w0 wz := ⟨h.1.below k, h.2.1.below k, h.2.2.trans (k.mono h.2.2.size)⟩

theorem li_cells {w : World} {l : List Mv} {A : Option Addr} {n C : Nat} (h : LI w l (.slice A n C)) (i : Nat) (hi : i < l.length) : ∃ b o, A = some ⟨b, o, none⟩ ∧ (∀ w', Below w.heap.size w w' → ∀ k (hk : k < l.length), w'.cell? ⟨b, o + k * 2, none⟩ = some (.int .i64 l[k].1) ∧ w'.cell? ⟨b, o + k * 2 + 1, none⟩ = some (.int .i64 l[k].2)) := by
  obtain ⟨A', C', e, hr⟩ := h
  injection e with e _ _
  subst e
  obtain ⟨b, o, e1, _⟩ := rows_cells hr (Below.refl _ _) i hi
  refine ⟨b, o, e1, fun w' k j hj => ?_⟩
  obtain ⟨b2, o2, e2, _, c1, c2⟩ := rows_cells hr k j hj
  rw [e1] at e2
  cases e2
  exact ⟨c1, c2⟩

set_option maxRecDepth 20000 in
set_option maxHeartbeats 8000000 in
theorem moves_good (l : List Mv) (lv : Value) (spare : Int) (w : World) (h : LI w l lv) (ha : Al l) (hs : In spare) (hf : l.length < 100) (hok : OKf l spare) :
    Calls Try.prog 3 #[lv, .int .i64 spare] w fun e w' => e = .returned (.bool true) ∧ Below w.heap.size w w' := by
  have F := few_c l lv w h
  rw [decide_eq_true (by omega)] at F
  have FH : Hid (Calls Try.prog 7 #[lv] w fun e w' => e = .returned (.bool true) ∧ w' = w) := F
  obtain ⟨out, P1, P2, P3⟩ := lineP_ok hok
  have PL : out.length ≤ 3000 := by have := lineP_len P1; omega
  have C1 : Hid (Calls Try.prog 8 #[.slice (some ⟨w.heap.size, 0, none⟩) 2 2, .int .i64 3] (w.alloc (.cells #[.int .i64 1, .int .i64 2, .int .i64 2, .int .i64 1] 28)) fun e w' => ∃ u, e = .returned (.tuple #[u, .int .i64 0]) ∧ LI w' [(3, 1), (1, 2), (2, 3)] u ∧ Below (w.alloc (.cells #[.int .i64 1, .int .i64 2, .int .i64 2, .int .i64 1] 28)).heap.size (w.alloc (.cells #[.int .i64 1, .int .i64 2, .int .i64 2, .int .i64 1] 28)) w') := line_c [(1, 2), (2, 1)] _ 3 _ _ (two_li w (1, 2) (2, 1)) (fun m hm => by simp at hm; rcases hm with rfl | rfl <;> constructor <;> (unfold In; omega)) (by unfold In; omega) (by simp) ⟨by simp [ND], fun m hm => by simp at hm; rcases hm with rfl | rfl <;> simp⟩ swap_is
  have C2 : Hid (∀ w1 v, LI w1 l v → Calls Try.prog 8 #[v, .int .i64 spare] w1 fun e w' => ∃ u, e = .returned (.tuple #[u, .int .i64 0]) ∧ LI w' out u ∧ Below w1.heap.size w1 w') := fun w1 v h1 => line_c l out spare v w1 h1 ha hs (by omega) hok P1
  have C3 : Hid (∀ w1, Below w.heap.size w w1 → Calls Try.prog 9 #[lv, .int .i64 spare] w1 fun e w' => e = .returned (.bool true) ∧ Below w1.heap.size w1 w') := fun w1 k => right_c l spare true ⟨fun _ => hok, fun _ => rfl⟩ lv w1 (h.below k) (by omega)
  have C4 : Hid (∀ w1 ov x y, LI w1 out ov → x ≠ spare → dst l x = y → Calls Try.prog 10 #[ov, .int .i64 x] w1 fun e w' => e = .returned (.int .i64 y) ∧ Below w1.heap.size w1 w') := fun w1 ov x y h1 hx hy => by
    have := after_c out ov x w1 h1 (by omega)
    rwa [P2 x hx, hy] at this
  have D1 : Hid (∀ i (hi : i < l.length), dst l l[i].1 = l[i].2 ∧ l[i].1 ≠ spare ∧ l[i].2 ≠ spare) := fun i hi => by
    have hm : l[i] ∈ l := List.getElem_mem hi
    refine ⟨?_, hok.2 _ hm⟩
    unfold dst
    rw [lk_of hok.1 (show (l[i].1, l[i].2) ∈ l from hm)]
    rfl
  have D2 : Hid (∀ y, y ∉ l.map (·.1) → dst l y = y) := fun y hy => by
    unfold dst
    cases e : lk l y with
    | none => rfl
    | some u => exact absurd (List.mem_map.2 ⟨_, lk_mem e, rfl⟩) hy
  have D3 : Hid (∀ i (hi : i < out.length), out[i].1 = spare ∨ out[i].1 ∈ l.map (·.1)) := fun i hi => P3 _ (List.getElem_mem hi)
  have HL : Hid (LI w l lv) := h
  obtain ⟨A, C, rfl, -⟩ := h
  have hl : Hid (l.length ≤ 1000) := (show l.length ≤ 1000 by omega)
  have hli : (l.length : Int) < 100 := by omega
  have mixed : Try.prog.follows Departure.mixedOrders = true := by kernel_rfl
  clear F ha hs hf hok P1 P2 P3
  go_enter Try.func3, Try.ntmps3
  go_wp2_with (first
    | (go_at_call 7; refine FH.out.mono ?_; rintro e w3 ⟨rfl, hw⟩; rw [hw]; clear hw w3)
    | (at_builtin; refine append_any _ rfl _ _ rfl _ rfl w1 l (own_zero w1) A C rfl (by obtain ⟨A9, C9, e9, r9⟩ := HL.out; injection e9 with e9 _ _; subst e9; exact (r9.below M1.out).below (below_alloc _ _)) hl.out ?_; intro v2 w2 h2 k2; have M2 : Hid (LI w2 l v2 ∧ Below w.heap.size w w2) := ⟨h2, M1.out.trans (k2.mono M1.out.size)⟩; clear h2 k2)
    | (go_at_call 8; have M2' := M2; refine (C2.out w2 v2 M2.out.1).mono ?_; rintro e w3 ⟨u3, rfl, h1, h2⟩; obtain ⟨A4, D4, rfl, h3⟩ := h1; have M3 : Hid (LI w3 out (.slice A4 out.length D4) ∧ Below w.heap.size w w3) := ⟨⟨A4, D4, rfl, h3⟩, M2.out.2.trans (h2.mono M2.out.2.size)⟩; clear h2 h3)
    | (go_at_call 8; refine C1.out.mono ?_; rintro e w1 ⟨u1, rfl, h1, h2⟩; obtain ⟨A3, D3', rfl, h3⟩ := h1; have M1 : Hid (Below w.heap.size w w1) := below_next (below_alloc _ _) h2; clear h2 h3)
    | (go_at_call 9; refine (C3.out w3 M3.out.2).mono ?_; rintro e w4 ⟨rfl, h4⟩; have M4 : Hid (Bo l out (.slice A l.length C) (.slice A4 out.length D4) w w4) := ⟨HL.out.below (M3.out.2.trans (h4.mono M3.out.2.size)), M3.out.1.below h4, M3.out.2.trans (h4.mono M3.out.2.size)⟩; clear h4))
  clear FH C1 C2 C3 M1 M2 M3 HL
  go_loopw [8] (fun iv wr => ∃ i : Nat, i ≤ l.length ∧ iv = .int .i64 (i : Int) ∧ Bo l out (.slice A l.length C) (.slice A4 out.length D4) w wr) (fun iv _ => l.length - (intOf iv).toNat)
  case atStart => exact ⟨0, by omega, rfl, M4.out⟩
  case round =>
    clear M4
    obtain ⟨i, hi, rfl, hbo⟩ := hrel
    rcases Nat.lt_or_ge i l.length with hlt | hge
    · have hiz : (i : Int) < l.length := by omega
      obtain ⟨b1, o1, rfl, hcs⟩ := li_cells hbo.1 i hlt
      obtain ⟨d1, d2, d3⟩ := D1.out i hlt
      have AC0 := C4.out wr.drew _ _ _ (hbo.below (below_drew wr)).2.1 d2 d1
      have AY0 : ∀ w1, Bo l out (.slice (some ⟨b1, o1, none⟩) l.length C) (.slice A4 out.length D4) w w1 → l[i].2 ∉ l.map (·.1) → _ := fun w1 hb1 hy => C4.out w1 _ _ _ hb1.2.1 d3 (D2.out _ hy)
      have S00 : ∀ w2, Below wr.heap.size wr w2 → _ := fun w2 k => hcs w2 k i hlt
      have B0 : Hid (Bo l out (.slice (some ⟨b1, o1, none⟩) l.length C) (.slice A4 out.length D4) w wr) := hbo
      have CL : Hid (∀ w2, Bo l out (.slice (some ⟨b1, o1, none⟩) l.length C) (.slice A4 out.length D4) w w2 → ∀ k (hk : k < l.length), w2.cell? ⟨b1, o1 + k * 2, none⟩ = some (.int .i64 l[k].1) ∧ w2.cell? ⟨b1, o1 + k * 2 + 1, none⟩ = some (.int .i64 l[k].2)) := fun w2 hb2 k hk => by
        obtain ⟨b9, o9, e9, h9⟩ := li_cells hb2.1 k hk
        cases e9
        exact h9 w2 (Below.refl _ _) k hk
      have CI : Hid (∀ w2, Bo l out (.slice (some ⟨b1, o1, none⟩) l.length C) (.slice A4 out.length D4) w w2 → w2.cell? ⟨b1, o1 + i * 2, none⟩ = some (.int .i64 l[i].1) ∧ w2.cell? ⟨b1, o1 + i * 2 + 1, none⟩ = some (.int .i64 l[i].2)) := fun w2 hb2 => CL.out w2 hb2 i hlt
      generalize l[i].1 = x at *
      generalize l[i].2 = y at *
      have S0 : Hid (∀ w2, Below wr.heap.size wr w2 → w2.cell? ⟨b1, o1 + i * 2, none⟩ = some (.int .i64 x) ∧ w2.cell? ⟨b1, o1 + i * 2 + 1, none⟩ = some (.int .i64 y)) := S00
      have AC : Hid (Calls Try.prog 10 #[.slice A4 out.length D4, .int .i64 x] wr.drew fun e w' => e = .returned (.int .i64 y) ∧ Below wr.drew.heap.size wr.drew w') := AC0
      have AYY : Hid (∀ w1, Bo l out (.slice (some ⟨b1, o1, none⟩) l.length C) (.slice A4 out.length D4) w w1 → y ∉ l.map (·.1) → Calls Try.prog 10 #[.slice A4 out.length D4, .int .i64 y] w1 fun e w' => e = .returned (.int .i64 y) ∧ Below w1.heap.size w1 w') := AY0
      have q : (y != y) = false := by simp
      clear hbo hcs AC0 AY0 S00 d1 d2 d3
      go_wp2
      refine wp_region_N (fun w' => w'.cell? ⟨b1, o1 + i * 2, none⟩ = some (.int .i64 x) ∧ w'.cell? ⟨b1, o1 + i * 2 + 1, none⟩ = some (.int .i64 y)) (fun _ => true) mixed (S0.out _ (below_drew _)) ?_
      intro SS
      refine wpAnyN_take (i := 0) (v := .slice A4 out.length D4) rfl (by kernel_rfl) (by kernel_rfl) (by kernel_rfl) (by kernel_rfl) (fun _ _ _ h => h) (Or.inl ⟨by rfl, ?_⟩) SS ?_
      · intro w' hS'
        obtain ⟨h0, h1⟩ := hS'
        go_simp
      (try simp only [Act.put, List.getElem_toArray, List.getElem_cons_zero, List.setIfInBounds_toArray, List.set_cons_zero, List.set_cons_succ])
      refine wpAnyN_take (i := 1) (v := .slice (some ⟨b1, o1, none⟩) l.length C) rfl (by kernel_rfl) (by kernel_rfl) (by kernel_rfl) (by kernel_rfl) (fun _ _ _ h => h) (Or.inl ⟨by rfl, ?_⟩) SS ?_
      · intro w' hS'
        obtain ⟨h0, h1⟩ := hS'
        go_simp
      (try simp only [Act.put, List.getElem_toArray, List.getElem_cons_succ, List.getElem_cons_zero, List.setIfInBounds_toArray, List.set_cons_zero, List.set_cons_succ])
      refine wpAnyN_take (i := 2) (v := .int .i64 (i : Int)) rfl (by kernel_rfl) (by kernel_rfl) (by kernel_rfl) (by kernel_rfl) (fun _ _ _ h => h) (Or.inl ⟨by rfl, ?_⟩) SS ?_
      · intro w' hS'
        obtain ⟨h0, h1⟩ := hS'
        go_simp
      (try simp only [Act.put, List.getElem_toArray, List.getElem_cons_succ, List.getElem_cons_zero, List.setIfInBounds_toArray, List.set_cons_zero, List.set_cons_succ])
      refine wpAnyN_take (i := 3) (v := .pointer (some ⟨b1, o1 + i * 2, none⟩)) rfl (by kernel_rfl) (by kernel_rfl) (by kernel_rfl) (by kernel_rfl) (fun _ _ _ h => h) (Or.inl ⟨by rfl, ?_⟩) SS ?_
      · intro w' hS'
        obtain ⟨h0, h1⟩ := hS'
        go_simp
      (try simp only [Act.put, List.getElem_toArray, List.getElem_cons_succ, List.getElem_cons_zero, List.setIfInBounds_toArray, List.set_cons_zero, List.set_cons_succ])
      refine wpAnyN_take (i := 4) (v := .pointer (some ⟨b1, o1 + i * 2, none⟩)) rfl (by kernel_rfl) (by kernel_rfl) (by kernel_rfl) (by kernel_rfl) (fun _ _ _ h => h) (Or.inl ⟨by rfl, ?_⟩) SS ?_
      · intro w' hS'
        obtain ⟨h0, h1⟩ := hS'
        go_simp
      (try simp only [Act.put, List.getElem_toArray, List.getElem_cons_succ, List.getElem_cons_zero, List.setIfInBounds_toArray, List.set_cons_zero, List.set_cons_succ])
      refine wpAnyN_take (i := 5) (v := .int .i64 x) rfl (by kernel_rfl) (by kernel_rfl) (by kernel_rfl) (by kernel_rfl) (fun _ _ _ h => h) (Or.inl ⟨by rfl, ?_⟩) SS ?_
      · intro w' hS'
        obtain ⟨h0, h1⟩ := hS'
        go_simp
      (try simp only [Act.put, List.getElem_toArray, List.getElem_cons_succ, List.getElem_cons_zero, List.setIfInBounds_toArray, List.set_cons_zero, List.set_cons_succ])
      refine wpAnyN_take (i := 7) (v := .slice (some ⟨b1, o1, none⟩) l.length C) rfl (by kernel_rfl) (by kernel_rfl) (by kernel_rfl) (by kernel_rfl) (fun _ _ _ h => h) (Or.inl ⟨by rfl, ?_⟩) SS ?_
      · intro w' hS'
        obtain ⟨h0, h1⟩ := hS'
        go_simp
      (try simp only [Act.put, List.getElem_toArray, List.getElem_cons_succ, List.getElem_cons_zero, List.setIfInBounds_toArray, List.set_cons_zero, List.set_cons_succ])
      refine wpAnyN_take (i := 8) (v := .int .i64 (i : Int)) rfl (by kernel_rfl) (by kernel_rfl) (by kernel_rfl) (by kernel_rfl) (fun _ _ _ h => h) (Or.inl ⟨by rfl, ?_⟩) SS ?_
      · intro w' hS'
        obtain ⟨h0, h1⟩ := hS'
        go_simp
      (try simp only [Act.put, List.getElem_toArray, List.getElem_cons_succ, List.getElem_cons_zero, List.setIfInBounds_toArray, List.set_cons_zero, List.set_cons_succ])
      refine wpAnyN_take (i := 9) (v := .pointer (some ⟨b1, o1 + i * 2, none⟩)) rfl (by kernel_rfl) (by kernel_rfl) (by kernel_rfl) (by kernel_rfl) (fun _ _ _ h => h) (Or.inl ⟨by rfl, ?_⟩) SS ?_
      · intro w' hS'
        obtain ⟨h0, h1⟩ := hS'
        go_simp
      (try simp only [Act.put, List.getElem_toArray, List.getElem_cons_succ, List.getElem_cons_zero, List.setIfInBounds_toArray, List.set_cons_zero, List.set_cons_succ])
      refine wpAnyN_take (i := 10) (v := .pointer (some ⟨b1, o1 + i * 2 + 1, none⟩)) rfl (by kernel_rfl) (by kernel_rfl) (by kernel_rfl) (by kernel_rfl) (fun _ _ _ h => h) (Or.inl ⟨by rfl, ?_⟩) SS ?_
      · intro w' hS'
        obtain ⟨h0, h1⟩ := hS'
        go_simp
      (try simp only [Act.put, List.getElem_toArray, List.getElem_cons_succ, List.getElem_cons_zero, List.setIfInBounds_toArray, List.set_cons_zero, List.set_cons_succ])
      refine wpAnyN_take (i := 11) (v := .int .i64 y) rfl (by kernel_rfl) (by kernel_rfl) (by kernel_rfl) (by kernel_rfl) (fun _ _ _ h => h) (Or.inl ⟨by rfl, ?_⟩) SS ?_
      · intro w' hS'
        obtain ⟨h0, h1⟩ := hS'
        go_simp
      (try simp only [Act.put, List.getElem_toArray, List.getElem_cons_succ, List.getElem_cons_zero, List.setIfInBounds_toArray, List.set_cons_zero, List.set_cons_succ])
      refine wpAnyN_one (i := 6) (by kernel_rfl) rfl (fun K hK => ?_)
      go_simp
      (go_at_call 10; refine AC.out.mono ?_; rintro e w5 ⟨rfl, h5⟩; have B5 : Hid (Below wr.heap.size wr w5) := below_next (below_drew _) h5; clear h5)
      go_wp2_with fail
      refine hK _ _ (fun _ => S0.out _ B5.out) ?_
      clear hK K
      (try simp only [Act.put, List.getElem_toArray, List.getElem_cons_succ, List.getElem_cons_zero, List.setIfInBounds_toArray, List.set_cons_zero, List.set_cons_succ])
      refine wpAnyN_one (i := 12) (by kernel_rfl) rfl (fun K hK => ?_)
      go_simp
      refine hK _ _ (fun _ => S0.out _ B5.out) ?_
      clear hK K
      (try simp only [Act.put, List.getElem_toArray, List.getElem_cons_succ, List.getElem_cons_zero, List.setIfInBounds_toArray, List.set_cons_zero, List.set_cons_succ])
      refine wpAnyN_done (by kernel_rfl) ?_ _
      have B6 : Hid (Bo l out (.slice (some ⟨b1, o1, none⟩) l.length C) (.slice A4 out.length D4) w w5) := B0.out.below B5.out
      clear S0 AC B0 B5
      go_wp2
      go_loopw [9, 10] (fun bv kv wr => ∃ (k : Nat) (s : Bool), k ≤ l.length ∧ kv = .int .i64 (k : Int) ∧ bv = .bool s ∧ (s = true ↔ y ∈ (l.take k).map (·.1)) ∧ Bo l out (.slice (some ⟨b1, o1, none⟩) l.length C) (.slice A4 out.length D4) w wr) (fun _ kv _ => l.length - (intOf kv).toNat)
      case atStart => exact ⟨0, false, by omega, rfl, rfl, by simp, B6.out⟩
      case round =>
        clear B6
        obtain ⟨k, s, hk, rfl, rfl, hsy, hbo⟩ := hrel
        have B0 : Hid (Bo l out (.slice (some ⟨b1, o1, none⟩) l.length C) (.slice A4 out.length D4) w wr) := hbo
        obtain ⟨c1, c2⟩ := CI.out wr hbo
        rcases Nat.lt_or_ge k l.length with hlt2 | hge2
        · have hkz : (k : Int) < l.length := by omega
          have c3 := (CL.out wr hbo k hlt2).1
          have T1 := take_tos l k hlt2 y
          generalize l[k].1 = z at *
          clear hbo
          cases s with
          | true =>
            have T2 : Hid (true = true ↔ y ∈ (l.take (k + 1)).map (·.1)) := ⟨fun _ => T1.2 (Or.inl (hsy.1 rfl)), fun _ => rfl⟩
            clear T1 hsy
            go_wp2
            go_quiet (fail)
            go_wp2
            go_roundw
            case rel => exact ⟨k + 1, true, by omega, by go_num, rfl, by simpa using T2.out, B0.out.below (drewN_below _ _)⟩
            case measure => simp [intOf]; omega
          | false =>
            have hn : y ∉ (l.take k).map (·.1) := fun h => Bool.noConfusion (hsy.2 h)
            by_cases e : z = y
            · have q2 : (z == y) = true := by simpa using e
              have T2 : Hid (true = true ↔ y ∈ (l.take (k + 1)).map (·.1)) := ⟨fun _ => T1.2 (Or.inr e.symm), fun _ => rfl⟩
              clear T1 hsy hn e
              go_wp2
              go_quiet (fail)
              go_wp2
              go_roundw
              case rel => exact ⟨k + 1, true, by omega, by go_num, rfl, by simpa using T2.out, B0.out.below (drewN_below _ _)⟩
              case measure => simp [intOf]; omega
            · have q2 : (z == y) = false := by simpa using e
              have T2 : Hid (false = true ↔ y ∈ (l.take (k + 1)).map (·.1)) := ⟨fun h => Bool.noConfusion h, fun h => ((T1.1 h).elim hn (fun h2 => e h2.symm)).elim⟩
              clear T1 hsy hn e
              go_wp2
              go_quiet (fail)
              go_wp2
              go_roundw
              case rel => exact ⟨k + 1, false, by omega, by go_num, rfl, by simpa using T2.out, B0.out.below (drewN_below _ _)⟩
              case measure => simp [intOf]; omega
        · have hkz : ¬ (k : Int) < l.length := by omega
          rw [List.take_of_length_le hge2] at hsy
          cases s with
          | true =>
            clear hsy hbo
            go_wp2
            go_quiet (fail)
            go_wp2
            go_roundw
            case rel => exact ⟨i + 1, by omega, by go_num, B0.out.below (drewN_below _ _)⟩
            case measure => simp [intOf]; omega
          | false =>
            have AY : Hid (Calls Try.prog 10 #[.slice A4 out.length D4, .int .i64 y] wr.drew fun e w' => e = .returned (.int .i64 y) ∧ Below wr.drew.heap.size wr.drew w') := AYY.out wr.drew (hbo.below (below_drew _)) (fun h => Bool.noConfusion (hsy.2 h))
            have S0 : Hid (∀ w2, Below wr.heap.size wr w2 → w2.cell? ⟨b1, o1 + i * 2, none⟩ = some (.int .i64 x) ∧ w2.cell? ⟨b1, o1 + i * 2 + 1, none⟩ = some (.int .i64 y)) := fun w2 k2 => CI.out w2 (hbo.below k2)
            clear hsy hbo c1 c2
            go_wp2
            refine wp_region_N (fun w' => w'.cell? ⟨b1, o1 + i * 2, none⟩ = some (.int .i64 x) ∧ w'.cell? ⟨b1, o1 + i * 2 + 1, none⟩ = some (.int .i64 y)) (fun _ => true) mixed (S0.out _ (below_drew _)) ?_
            intro SS
            refine wpAnyN_take (i := 0) (v := .bool false) rfl (by kernel_rfl) (by kernel_rfl) (by kernel_rfl) (by kernel_rfl) (fun _ _ _ h => h) (Or.inl ⟨by rfl, ?_⟩) SS ?_
            · intro w' hS'
              obtain ⟨h0, h1⟩ := hS'
              go_simp
            (try simp only [Act.put, List.getElem_toArray, List.getElem_cons_zero, List.setIfInBounds_toArray, List.set_cons_zero, List.set_cons_succ])
            refine wpAnyN_take (i := 1) (v := .bool true) rfl (by kernel_rfl) (by kernel_rfl) (by kernel_rfl) (by kernel_rfl) (fun _ _ _ h => h) (Or.inl ⟨by rfl, ?_⟩) SS ?_
            · intro w' hS'
              obtain ⟨h0, h1⟩ := hS'
              go_simp
            (try simp only [Act.put, List.getElem_toArray, List.getElem_cons_succ, List.getElem_cons_zero, List.setIfInBounds_toArray, List.set_cons_zero, List.set_cons_succ])
            refine wpAnyN_take (i := 2) (v := .bool true) rfl (by kernel_rfl) (by kernel_rfl) (by kernel_rfl) (by kernel_rfl) (fun _ _ _ h => h) (Or.inl ⟨by rfl, ?_⟩) SS ?_
            · intro w' hS'
              obtain ⟨h0, h1⟩ := hS'
              go_simp
            (try simp only [Act.put, List.getElem_toArray, List.getElem_cons_succ, List.getElem_cons_zero, List.setIfInBounds_toArray, List.set_cons_zero, List.set_cons_succ])
            refine wpAnyN_take (i := 3) (v := .slice A4 out.length D4) rfl (by kernel_rfl) (by kernel_rfl) (by kernel_rfl) (by kernel_rfl) (fun _ _ _ h => h) (Or.inl ⟨by rfl, ?_⟩) SS ?_
            · intro w' hS'
              obtain ⟨h0, h1⟩ := hS'
              go_simp
            (try simp only [Act.put, List.getElem_toArray, List.getElem_cons_succ, List.getElem_cons_zero, List.setIfInBounds_toArray, List.set_cons_zero, List.set_cons_succ])
            refine wpAnyN_take (i := 4) (v := .slice (some ⟨b1, o1, none⟩) l.length C) rfl (by kernel_rfl) (by kernel_rfl) (by kernel_rfl) (by kernel_rfl) (fun _ _ _ h => h) (Or.inl ⟨by rfl, ?_⟩) SS ?_
            · intro w' hS'
              obtain ⟨h0, h1⟩ := hS'
              go_simp
            (try simp only [Act.put, List.getElem_toArray, List.getElem_cons_succ, List.getElem_cons_zero, List.setIfInBounds_toArray, List.set_cons_zero, List.set_cons_succ])
            refine wpAnyN_take (i := 5) (v := .int .i64 (i : Int)) rfl (by kernel_rfl) (by kernel_rfl) (by kernel_rfl) (by kernel_rfl) (fun _ _ _ h => h) (Or.inl ⟨by rfl, ?_⟩) SS ?_
            · intro w' hS'
              obtain ⟨h0, h1⟩ := hS'
              go_simp
            (try simp only [Act.put, List.getElem_toArray, List.getElem_cons_succ, List.getElem_cons_zero, List.setIfInBounds_toArray, List.set_cons_zero, List.set_cons_succ])
            refine wpAnyN_take (i := 6) (v := .pointer (some ⟨b1, o1 + i * 2, none⟩)) rfl (by kernel_rfl) (by kernel_rfl) (by kernel_rfl) (by kernel_rfl) (fun _ _ _ h => h) (Or.inl ⟨by rfl, ?_⟩) SS ?_
            · intro w' hS'
              obtain ⟨h0, h1⟩ := hS'
              go_simp
            (try simp only [Act.put, List.getElem_toArray, List.getElem_cons_succ, List.getElem_cons_zero, List.setIfInBounds_toArray, List.set_cons_zero, List.set_cons_succ])
            refine wpAnyN_take (i := 7) (v := .pointer (some ⟨b1, o1 + i * 2 + 1, none⟩)) rfl (by kernel_rfl) (by kernel_rfl) (by kernel_rfl) (by kernel_rfl) (fun _ _ _ h => h) (Or.inl ⟨by rfl, ?_⟩) SS ?_
            · intro w' hS'
              obtain ⟨h0, h1⟩ := hS'
              go_simp
            (try simp only [Act.put, List.getElem_toArray, List.getElem_cons_succ, List.getElem_cons_zero, List.setIfInBounds_toArray, List.set_cons_zero, List.set_cons_succ])
            refine wpAnyN_take (i := 8) (v := .int .i64 y) rfl (by kernel_rfl) (by kernel_rfl) (by kernel_rfl) (by kernel_rfl) (fun _ _ _ h => h) (Or.inl ⟨by rfl, ?_⟩) SS ?_
            · intro w' hS'
              obtain ⟨h0, h1⟩ := hS'
              go_simp
            (try simp only [Act.put, List.getElem_toArray, List.getElem_cons_succ, List.getElem_cons_zero, List.setIfInBounds_toArray, List.set_cons_zero, List.set_cons_succ])
            refine wpAnyN_take (i := 10) (v := .slice (some ⟨b1, o1, none⟩) l.length C) rfl (by kernel_rfl) (by kernel_rfl) (by kernel_rfl) (by kernel_rfl) (fun _ _ _ h => h) (Or.inl ⟨by rfl, ?_⟩) SS ?_
            · intro w' hS'
              obtain ⟨h0, h1⟩ := hS'
              go_simp
            (try simp only [Act.put, List.getElem_toArray, List.getElem_cons_succ, List.getElem_cons_zero, List.setIfInBounds_toArray, List.set_cons_zero, List.set_cons_succ])
            refine wpAnyN_take (i := 11) (v := .int .i64 (i : Int)) rfl (by kernel_rfl) (by kernel_rfl) (by kernel_rfl) (by kernel_rfl) (fun _ _ _ h => h) (Or.inl ⟨by rfl, ?_⟩) SS ?_
            · intro w' hS'
              obtain ⟨h0, h1⟩ := hS'
              go_simp
            (try simp only [Act.put, List.getElem_toArray, List.getElem_cons_succ, List.getElem_cons_zero, List.setIfInBounds_toArray, List.set_cons_zero, List.set_cons_succ])
            refine wpAnyN_take (i := 12) (v := .pointer (some ⟨b1, o1 + i * 2, none⟩)) rfl (by kernel_rfl) (by kernel_rfl) (by kernel_rfl) (by kernel_rfl) (fun _ _ _ h => h) (Or.inl ⟨by rfl, ?_⟩) SS ?_
            · intro w' hS'
              obtain ⟨h0, h1⟩ := hS'
              go_simp
            (try simp only [Act.put, List.getElem_toArray, List.getElem_cons_succ, List.getElem_cons_zero, List.setIfInBounds_toArray, List.set_cons_zero, List.set_cons_succ])
            refine wpAnyN_take (i := 13) (v := .pointer (some ⟨b1, o1 + i * 2 + 1, none⟩)) rfl (by kernel_rfl) (by kernel_rfl) (by kernel_rfl) (by kernel_rfl) (fun _ _ _ h => h) (Or.inl ⟨by rfl, ?_⟩) SS ?_
            · intro w' hS'
              obtain ⟨h0, h1⟩ := hS'
              go_simp
            (try simp only [Act.put, List.getElem_toArray, List.getElem_cons_succ, List.getElem_cons_zero, List.setIfInBounds_toArray, List.set_cons_zero, List.set_cons_succ])
            refine wpAnyN_take (i := 14) (v := .int .i64 y) rfl (by kernel_rfl) (by kernel_rfl) (by kernel_rfl) (by kernel_rfl) (fun _ _ _ h => h) (Or.inl ⟨by rfl, ?_⟩) SS ?_
            · intro w' hS'
              obtain ⟨h0, h1⟩ := hS'
              go_simp
            (try simp only [Act.put, List.getElem_toArray, List.getElem_cons_succ, List.getElem_cons_zero, List.setIfInBounds_toArray, List.set_cons_zero, List.set_cons_succ])
            refine wpAnyN_one (i := 9) (by kernel_rfl) rfl (fun K hK => ?_)
            go_simp
            (go_at_call 10; refine AY.out.mono ?_; rintro e w5 ⟨rfl, h5⟩; have B5 : Hid (Below wr.heap.size wr w5) := below_next (below_drew _) h5; clear h5)
            go_wp2_with fail
            refine hK _ _ (fun _ => S0.out _ B5.out) ?_
            clear hK K
            (try simp only [Act.put, List.getElem_toArray, List.getElem_cons_succ, List.getElem_cons_zero, List.setIfInBounds_toArray, List.set_cons_zero, List.set_cons_succ])
            refine wpAnyN_one (i := 15) (by kernel_rfl) rfl (fun K hK => ?_)
            go_simp
            refine hK _ _ (fun _ => S0.out _ B5.out) ?_
            clear hK K
            (try simp only [Act.put, List.getElem_toArray, List.getElem_cons_succ, List.getElem_cons_zero, List.setIfInBounds_toArray, List.set_cons_zero, List.set_cons_succ])
            refine wpAnyN_one (i := 16) (by kernel_rfl) rfl (fun K hK => ?_)
            go_simp
            refine hK _ _ (fun _ => S0.out _ B5.out) ?_
            clear hK K
            (try simp only [Act.put, List.getElem_toArray, List.getElem_cons_succ, List.getElem_cons_zero, List.setIfInBounds_toArray, List.set_cons_zero, List.set_cons_succ])
            refine wpAnyN_done (by kernel_rfl) ?_ _
            have B6 : Hid (Bo l out (.slice (some ⟨b1, o1, none⟩) l.length C) (.slice A4 out.length D4) w w5) := B0.out.below B5.out
            clear S0 AY B0 B5
            go_wp2
            go_roundw
            case rel => exact ⟨i + 1, by omega, by go_num, B6.out⟩
            case measure => simp [intOf]; omega
    · have hiz : ¬ (i : Int) < l.length := by omega
      have B0 : Hid (Bo l out (.slice A l.length C) (.slice A4 out.length D4) w wr) := hbo
      clear hbo C4 D1 D2
      go_wp2
      go_loopw [11] (fun jv wr => ∃ j : Nat, j ≤ out.length ∧ jv = .int .i64 (j : Int) ∧ Bo l out (.slice A l.length C) (.slice A4 out.length D4) w wr) (fun jv _ => out.length - (intOf jv).toNat)
      case atStart => exact ⟨0, by omega, rfl, B0.out⟩
      case round =>
        clear B0
        obtain ⟨j, hj, rfl, hbo⟩ := hrel
        rcases Nat.lt_or_ge j out.length with hlt | hge3
        · have hjz : (j : Int) < out.length := by omega
          obtain ⟨b2, o2, rfl, hcs⟩ := li_cells hbo.2.1 j hlt
          have c1 := (hcs wr (Below.refl _ _) j hlt).1
          have d3 := D3.out j hlt
          have CJ : Hid (∀ w2, Bo l out (.slice A l.length C) (.slice (some ⟨b2, o2, none⟩) out.length D4) w w2 → w2.cell? ⟨b2, o2 + j * 2, none⟩ = some (.int .i64 out[j].1)) := fun w2 hb2 => by
            obtain ⟨b9, o9, e9, h9⟩ := li_cells hb2.2.1 j hlt
            cases e9
            exact (h9 w2 (Below.refl _ _) j hlt).1
          generalize out[j].1 = x at *
          have DX : Hid (x = spare ∨ x ∈ l.map (·.1)) := d3
          have B0 : Hid (Bo l out (.slice A l.length C) (.slice (some ⟨b2, o2, none⟩) out.length D4) w wr) := hbo
          clear hbo hcs d3
          go_wp2
          clear c1
          go_loopw [12, 13] (fun bv kv wr => ∃ (k : Nat) (s : Bool), k ≤ l.length ∧ kv = .int .i64 (k : Int) ∧ bv = .bool s ∧ (s = true ↔ x = spare ∨ x ∈ (l.take k).map (·.1)) ∧ Bo l out (.slice A l.length C) (.slice (some ⟨b2, o2, none⟩) out.length D4) w wr) (fun _ kv _ => l.length - (intOf kv).toNat)
          case atStart => exact ⟨0, x == spare, by omega, rfl, rfl, by simp, B0.out⟩
          case round =>
            clear B0
            obtain ⟨k, s, hk, rfl, rfl, hsy, hbo⟩ := hrel
            have B0 : Hid (Bo l out (.slice A l.length C) (.slice (some ⟨b2, o2, none⟩) out.length D4) w wr) := hbo
            have c1 := CJ.out wr hbo
            rcases Nat.lt_or_ge k l.length with hlt2 | hge2
            · have hkz : (k : Int) < l.length := by omega
              obtain ⟨b1, o1, rfl, hcs⟩ := li_cells hbo.1 k hlt2
              have c3 := (hcs wr (Below.refl _ _) k hlt2).1
              have T1 := take_tos l k hlt2 x
              generalize l[k].1 = z at *
              clear hbo hcs
              cases s with
              | true =>
                have T2 : Hid (x = spare ∨ x ∈ (l.take (k + 1)).map (·.1)) := (hsy.1 rfl).elim Or.inl (fun h => Or.inr (T1.2 (Or.inl h)))
                clear T1 hsy
                go_wp2
                go_quiet (fail)
                go_wp2
                go_roundw
                case rel => exact ⟨k + 1, true, by omega, by go_num, rfl, by simpa using T2.out, B0.out.below (drewN_below _ _)⟩
                case measure => simp [intOf]; omega
              | false =>
                have hn : ¬ (x = spare ∨ x ∈ (l.take k).map (·.1)) := fun h => Bool.noConfusion (hsy.2 h)
                by_cases e : z = x
                · have q2 : (z == x) = true := by simpa using e
                  have T2 : Hid (x = spare ∨ x ∈ (l.take (k + 1)).map (·.1)) := Or.inr (T1.2 (Or.inr e.symm))
                  clear T1 hsy hn e
                  go_wp2
                  go_quiet (fail)
                  go_wp2
                  go_roundw
                  case rel => exact ⟨k + 1, true, by omega, by go_num, rfl, by simpa using T2.out, B0.out.below (drewN_below _ _)⟩
                  case measure => simp [intOf]; omega
                · have q2 : (z == x) = false := by simpa using e
                  have T2 : Hid (false = true ↔ x = spare ∨ x ∈ (l.take (k + 1)).map (·.1)) := ⟨fun h => Bool.noConfusion h, fun h => (hn (h.elim Or.inl (fun h2 => (T1.1 h2).elim Or.inr (fun h3 => absurd h3.symm e)))).elim⟩
                  clear T1 hsy hn e
                  go_wp2
                  go_quiet (fail)
                  go_wp2
                  go_roundw
                  case rel => exact ⟨k + 1, false, by omega, by go_num, rfl, T2.out, B0.out.below (drewN_below _ _)⟩
                  case measure => simp [intOf]; omega
            · have hkz : ¬ (k : Int) < l.length := by omega
              rw [List.take_of_length_le hge2] at hsy
              obtain rfl : s = true := hsy.2 DX.out
              clear hsy hbo c1
              go_wp2
              go_roundw
              case rel => exact ⟨j + 1, by omega, by go_num, B0.out⟩
              case measure => simp [intOf]; omega
        · have hjz : ¬ (j : Int) < out.length := by omega
          have BB : Hid (Below w.heap.size w wr) := hbo.2.2
          clear hbo
          go_wp2
          go_ret
          exact ⟨rfl, BB.out⟩

theorem shuffleMoves_walk (l : List Mv) (lv : Value) (spare : Int) (w : World) (h0 : MsIn w l lv) (hs : In spare) : Calls Try.prog 3 #[lv, .int .i64 spare] w fun e w' => e = .returned (.bool true) ∧ Below w.heap.size w w' := by
  obtain ⟨h, ha⟩ := h0
  by_cases hf : l.length < 100
  · by_cases hok : OKf l spare
    · exact moves_good l lv spare w h ha hs hf hok
    · exact moves_bad l lv spare w h ha hs hf hok
  · exact moves_no l lv spare w h hf
end Go.Proofs.Ytoagebclnaggjaa
