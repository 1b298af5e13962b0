/-
  Proved: the words of a branch and of a jump, decoded: they come to their label. Plain mathematics.
-/
import Derived.Test.YtcdeckbobabdkaaLedgep
namespace Go.Proofs.Ytcdeckbobabdkaa
open Go.RowKit
set_option linter.unusedVariables false
set_option linter.unusedSimpArgs false
set_option maxRecDepth 20000

theorem enc_iff {s : Tx} {r : Rw} (h : rowOf s = some r) (i : Ins) : (encF s i).isSome = true ↔ tk r i := by
  obtain ⟨a, ha⟩ := rowOf_at h
  unfold encF
  rw [h]
  simp only
  rw [← takB_iff (rok ha) i]
  cases takB r i <;> simp
theorem some_of {o : Option Int} (h : o.isSome = true) : ∃ x, o = some x := by
  cases o with
  | none => cases h
  | some x => exact ⟨x, rfl⟩

theorem rowF {s : Tx} {n : Nat} (h : (rowOf s).map (·.fm) = some n) : ∃ r, rowOf s = some r ∧ r.fm = n := Option.map_eq_some_iff.1 h
theorem six_of {s t : Tx} (h1 : (rowOf s).map (·.fm) = some 4) (h2 : (rowOf t).map (·.fm) = some 4) (h3 : t ≠ s) : ∃ r r', rowOf s = some r ∧ r.fm = 4 ∧ rowOf t = some r' ∧ r'.fm = 4 ∧ t ≠ s := by
  obtain ⟨r, a, b⟩ := rowF h1
  obtain ⟨r', c, d⟩ := rowF h2
  exact ⟨r, r', a, b, c, d, h3⟩
theorem six (s : Tx) (h : opp s ≠ []) : ∃ r r', rowOf s = some r ∧ r.fm = 4 ∧ rowOf (opp s) = some r' ∧ r'.fm = 4 ∧ opp s ≠ s := by
  by_cases e1 : s = [98, 101, 113]
  · subst e1
    exact six_of (t := opp [98, 101, 113]) (by decide +kernel) (by decide +kernel) (by decide)
  by_cases e2 : s = [98, 110, 101]
  · subst e2
    exact six_of (t := opp [98, 110, 101]) (by decide +kernel) (by decide +kernel) (by decide)
  by_cases e3 : s = [98, 108, 116]
  · subst e3
    exact six_of (t := opp [98, 108, 116]) (by decide +kernel) (by decide +kernel) (by decide)
  by_cases e4 : s = [98, 103, 101]
  · subst e4
    exact six_of (t := opp [98, 103, 101]) (by decide +kernel) (by decide +kernel) (by decide)
  by_cases e5 : s = [98, 108, 116, 117]
  · subst e5
    exact six_of (t := opp [98, 108, 116, 117]) (by decide +kernel) (by decide +kernel) (by decide)
  by_cases e6 : s = [98, 103, 101, 117]
  · subst e6
    exact six_of (t := opp [98, 103, 101, 117]) (by decide +kernel) (by decide +kernel) (by decide)
  · unfold opp at h
    rw [if_neg e1, if_neg e2, if_neg e3, if_neg e4, if_neg e5, if_neg e6] at h
    exact absurd rfl h
theorem jal_row : ∃ r, rowOf jalT = some r ∧ r.fm = 1 := rowF (by decide +kernel)

theorem enc4 {s t : Tx} {r r' : Rw} (h : rowOf s = some r) (h4 : r.fm = 4) (h' : rowOf t = some r') (h4' : r'.fm = 4) {i : Ins} {d : Int} (he : (encF s (w0 i 0)).isSome = true) (h1 : -4096 ≤ d) (h2 : d ≤ 4094) (h3 : d % 2 = 0) : ∃ x, encF t (w0 i d) = some x := by
  have a := (enc_iff h _).1 he
  refine some_of ((enc_iff h' _).2 ?_)
  obtain ⟨fm, op, f3, f7⟩ := r
  obtain ⟨fm', op', f3', f7'⟩ := r'
  simp only at h4 h4'
  subst h4 h4'
  simp only [tk, w0, regs] at a ⊢
  exact ⟨a.1, a.2.1, h1, h2, h3⟩
theorem enc1 {r : Rw} (h : rowOf jalT = some r) (h4 : r.fm = 1) {i : Ins} {d : Int} (he : (encF jalT (w0 i 0)).isSome = true) (h1 : -1048576 ≤ d) (h2 : d ≤ 1048574) (h3 : d % 2 = 0) : ∃ x, encF jalT (w0 i d) = some x := by
  have a := (enc_iff h _).1 he
  refine some_of ((enc_iff h _).2 ?_)
  obtain ⟨fm, op, f3, f7⟩ := r
  simp only at h4
  subst h4
  simp only [tk, w0, regs] at a ⊢
  exact ⟨a.1, a.2.1, a.2.2.1, h1, h2, h3⟩
theorem encJ {d : Int} (h1 : -1048576 ≤ d) (h2 : d ≤ 1048574) (h3 : d % 2 = 0) : ∃ x, encF jalT ⟨0, 0, 0, d⟩ = some x := by
  obtain ⟨r, hr, h4⟩ := jal_row
  refine some_of ((enc_iff hr _).2 ?_)
  obtain ⟨fm, op, f3, f7⟩ := r
  simp only at h4
  subst h4
  simp only [tk, regs]
  exact ⟨⟨⟨by omega, by omega⟩, ⟨by omega, by omega⟩, ⟨by omega, by omega⟩⟩, trivial, trivial, h1, h2, h3⟩

theorem atP_four (l : List Ln) (L : Nat → Bool) (p : Nat) : atP l L p % 4 = 0 := by
  induction p with
  | zero => rfl
  | succ p ih =>
    show (atP l L p + (shA l p + if L p then 4 else 0)) % 4 = 0
    have hs : shA l p % 4 = 0 := by
      unfold shA
      cases l[p]? with
      | none => rfl
      | some y =>
        simp only [Option.map_some, Option.getD_some]
        unfold shB
        split
        · rfl
        · split <;> omega
    split <;> omega
theorem asm_split (l : List Ln) (L : Nat → Bool) {i : Nat} : ∀ n, i < n → ∃ rest, asmW l L n = asmW l L i ++ (wdsP l L i ++ rest)
  | 0, h => absurd h (Nat.not_lt_zero _)
  | n + 1, h => by
    rcases Nat.lt_or_ge i n with h1 | h1
    · obtain ⟨rest, e⟩ := asm_split l L n h1
      exact ⟨rest ++ wdsP l L n, by rw [asmW_succ, e]; simp⟩
    · obtain rfl : i = n := by omega
      exact ⟨[], by rw [asmW_succ, List.append_nil]⟩
theorem asm_at {l : List Ln} (L : Nat → Bool) {i j : Nat} (hi : i < l.length) {x : Int} (h : (wdsP l L i)[j]? = some x) : (asmW l L l.length)[(asmW l L i).length + j]? = some x := by
  obtain ⟨rest, e⟩ := asm_split l L l.length hi
  rw [e, List.getElem?_append_right (by omega), show (asmW l L i).length + j - (asmW l L i).length = j by omega]
  have hj := (List.getElem?_eq_some_iff.1 h).1
  rw [List.getElem?_append_left hj]
  exact h

/-- Where a branch or a jump stands, and how far it goes. -/
theorem Fine.ways {l : List Ln} {L : Nat → Bool} (hF : Fine l L) {i : Nat} {y : Ln} (hy : l[i]? = some y) (hg : goes y = true) : -65536 ≤ way l L i ∧ way l L i ≤ 65536 ∧ way l L i % 4 = 0 ∧ atP l L (goal l i) = atP l L i + way l L i ∧ ∃ z, l[goal l i]? = some z ∧ z.k = 2 ∧ z.lb.data.toList = y.lb.data.toList := by
  have hi := (List.getElem?_eq_some_iff.1 hy).1
  have hgl := goal_in l i hi
  have a1 := atP_step l L (Nat.zero_le i)
  have a2 := atP_step l L (Nat.zero_le (goal l i))
  have a3 := atP_step l L (Nat.le_of_lt hi)
  have a4 := atP_step l L (Nat.le_of_lt hgl)
  have a5 := hF.z
  have f1 := atP_four l L i
  have f2 := atP_four l L (goal l i)
  simp only [atP] at a1 a2
  refine ⟨by unfold way; omega, by unfold way; omega, by unfold way; omega, by unfold way; omega, ?_⟩
  have := hF.b.2 y (List.mem_of_getElem? hy) hg
  cases e : lbOf l y.lb.data.toList with
  | none => rw [e] at this; cases this
  | some g =>
    have hgg : goal l i = g := by unfold goal; rw [hy]; simp only [Option.bind_some, e]; rfl
    rw [hgg]
    exact lbOf_lt e
theorem Fine.leg_at {l : List Ln} {L : Nat → Bool} (hF : Fine l L) {i : Nat} {y : Ln} (hy : l[i]? = some y) : leg y = true := List.all_eq_true.1 hF.g y (List.mem_of_getElem? hy)

theorem reach_jump {l : List Ln} {L : Nat → Bool} (hF : Fine l L) {i : Nat} {y : Ln} (hy : l[i]? = some y) (hk : y.k = 4) : ∃ x, (asmW l L l.length)[(asmW l L i).length]? = some x ∧ (0 ≤ x ∧ x < 4294967296) ∧ decF x = some (y.s.data.toList, w0 y.i (way l L i)) := by
  obtain ⟨w1, w2, w3, _, _⟩ := hF.ways hy (by simp [goes, hk])
  have hl := hF.leg_at hy
  unfold leg at hl
  rw [hk] at hl
  simp at hl
  obtain ⟨r, hr, h4⟩ := jal_row
  obtain ⟨hs, he⟩ := hl
  rw [hs] at he ⊢
  obtain ⟨x, hx⟩ := enc1 hr h4 he (d := way l L i) (by omega) (by omega) (by omega)
  have hd := dec_enc hx
  refine ⟨x, ?_, hd.1, hd.2⟩
  refine asm_at (j := 0) L (List.getElem?_eq_some_iff.1 hy).1 ?_
  unfold wdsP
  rw [hy]
  simp only
  rw [if_neg (by omega), if_neg (by omega), if_pos hk]
  unfold e1
  rw [hs, hx]
  rfl
theorem reach_short {l : List Ln} {L : Nat → Bool} (hF : Fine l L) {i : Nat} {y : Ln} (hy : l[i]? = some y) (hk : y.k = 3) (hL : L i = false) : ∃ x, (asmW l L l.length)[(asmW l L i).length]? = some x ∧ (0 ≤ x ∧ x < 4294967296) ∧ decF x = some (y.s.data.toList, w0 y.i (way l L i)) := by
  obtain ⟨w1, w2, w3, _, _⟩ := hF.ways hy (by simp [goes, hk])
  have hl := hF.leg_at hy
  unfold leg at hl
  rw [hk] at hl
  simp at hl
  obtain ⟨r, r', hr, h4, _, _, _⟩ := six _ hl.1
  have hc := hF.s.2 i (by rw [isB_at hy]; simp [hk]) hL
  unfold far at hc
  obtain ⟨x, hx⟩ := enc4 hr h4 hr h4 hl.2 (d := way l L i) (by omega) (by omega) (by omega)
  have hd := dec_enc hx
  refine ⟨x, ?_, hd.1, hd.2⟩
  refine asm_at (j := 0) L (List.getElem?_eq_some_iff.1 hy).1 ?_
  unfold wdsP
  rw [hy]
  simp only
  rw [if_neg (by omega), if_neg (by omega), if_neg (by omega), if_pos hk, hL]
  unfold e1
  rw [hx]
  rfl
theorem reach_long {l : List Ln} {L : Nat → Bool} (hF : Fine l L) {i : Nat} {y : Ln} (hy : l[i]? = some y) (hk : y.k = 3) (hL : L i = true) : ∃ x1 x2, (asmW l L l.length)[(asmW l L i).length]? = some x1 ∧ (asmW l L l.length)[(asmW l L i).length + 1]? = some x2 ∧ (0 ≤ x1 ∧ x1 < 4294967296) ∧ (0 ≤ x2 ∧ x2 < 4294967296) ∧ decF x1 = some (opp y.s.data.toList, w0 y.i 8) ∧ decF x2 = some (jalT, ⟨0, 0, 0, way l L i - 4⟩) ∧ opp y.s.data.toList ≠ y.s.data.toList := by
  obtain ⟨w1, w2, w3, _, _⟩ := hF.ways hy (by simp [goes, hk])
  have hl := hF.leg_at hy
  unfold leg at hl
  rw [hk] at hl
  simp at hl
  obtain ⟨r, r', hr, h4, hr', h4', hne⟩ := six _ hl.1
  obtain ⟨x1, hx1⟩ := enc4 hr h4 hr' h4' hl.2 (d := 8) (by omega) (by omega) (by omega)
  obtain ⟨x2, hx2⟩ := encJ (d := way l L i - 4) (by omega) (by omega) (by omega)
  have hw : wdsP l L i = [x1, x2] := by
    unfold wdsP
    rw [hy]
    simp only
    rw [if_neg (by omega), if_neg (by omega), if_neg (by omega), if_pos hk, hL]
    unfold e1
    rw [hx1, hx2]
    rfl
  have hi := (List.getElem?_eq_some_iff.1 hy).1
  exact ⟨x1, x2, asm_at (j := 0) L hi (by rw [hw]; rfl), asm_at (j := 1) L hi (by rw [hw]; rfl), (dec_enc hx1).1, (dec_enc hx2).1, (dec_enc hx1).2, (dec_enc hx2).2, hne⟩
end Go.Proofs.Ytcdeckbobabdkaa
