/-
  Proved: more fuel changes nothing of a run that ended; of one that did not, what was printed is a beginning.
-/
import Derived.Test.YtapgaclonilnbaaDoorGu
import Derived.Test.YtapgaclonilnbaaDoorGd
import Derived.Deep.Slices
import Derived.SizedLaws
import Derived.ProofKit
import Derived.OpenShut
import Derived.Test.YtapgaclonilnbaaDoorGb
import Derived.LaidMore
import Derived.Stop.Joined
namespace Go.Proofs.YtapgaclonilnbaaDoor
open Go.RowKit
set_option linter.unusedVariables false
set_option linter.unusedSimpArgs false

section
variable {l : List Lf} {m m' : Mc} {k : Int × Int}

theorem instr_pre {x : Lo} (e : instrS l m x = .inl m') : ∃ t, m'.out = m.out ++ t := by
  by_cases h8 : x.op = 8
  · unfold instrS at e
    simp [h8] at e
    subst e
    exact ⟨_, rfl⟩
  · refine ⟨[], ?_⟩
    rw [List.append_nil]
    unfold instrS at e
    by_cases h1 : x.op = 1
    · simp [h1] at e; subst e; rfl
    by_cases h2 : x.op = 2
    · simp [h2] at e; subst e; rfl
    by_cases h3 : x.op = 3
    · simp [h3] at e; subst e; rfl
    by_cases h4 : x.op = 4
    · simp [h4] at e; subst e; rfl
    by_cases h5 : x.op = 5
    · simp [h5] at e
      split at e
      · cases e
      · have e := inl_inj e; subst e; rfl
    by_cases h6 : x.op = 6
    · simp [h6] at e
      split at e
      · cases e
      · have e := inl_inj e; subst e; exact stL_out _ _ _
    by_cases h7 : x.op = 7
    · simp [h7] at e
      exact enter_out e
    by_cases h9 : x.op = 9
    · simp [h9] at e; subst e; rfl
    by_cases h10 : x.op = 10
    · simp [h10] at e
      split at e
      · have e := inl_inj e; subst e; rfl
      · cases e
    by_cases h11 : x.op = 11
    · simp [h11] at e
      split at e
      · have e := inl_inj e; subst e; rfl
      · cases e
    simp [h1, h2, h3, h4, h5, h6, h7, h8, h9, h10, h11] at e
    subst e
    rfl

theorem step_pre (e : stepS l m = .inl m') : ∃ t, m'.out = m.out ++ t := by
  unfold stepS at e
  split at e
  · exact ⟨[], by rw [term_out e]; simp⟩
  · have := instr_pre e
    exact this

theorem inr_inj {a b : Int × Int} (e : (Sum.inr a : Sx) = .inr b) : a = b := by injection e

theorem enter_kind {k : Nat} {vs : List Int} {q : Int × Int} (e : enterS l m k vs = .inr q) : q.1 ≠ 0 := by
  unfold enterS at e
  split at e
  · have e := inr_inj e; subst e; decide
  · cases e

theorem instr_kind {x : Lo} (e : instrS l m x = .inr k) : k.1 ≠ 0 := by
  unfold instrS at e
  by_cases h1 : x.op = 1
  · simp [h1] at e
  by_cases h2 : x.op = 2
  · simp [h2] at e
  by_cases h3 : x.op = 3
  · simp [h3] at e
  by_cases h4 : x.op = 4
  · simp [h4] at e
  by_cases h5 : x.op = 5
  · simp [h5] at e
    split at e
    · unfold trapS at e; have e := inr_inj e; subst e; decide
    · cases e
  by_cases h6 : x.op = 6
  · simp [h6] at e
    split at e
    · unfold trapS at e; have e := inr_inj e; subst e; decide
    · cases e
  by_cases h7 : x.op = 7
  · simp [h7] at e
    exact enter_kind e
  by_cases h8 : x.op = 8
  · simp [h8] at e
  by_cases h9 : x.op = 9
  · simp [h9] at e
  by_cases h10 : x.op = 10
  · simp [h10] at e
    split at e
    · cases e
    · have e := inr_inj e; subst e; decide
  by_cases h11 : x.op = 11
  · simp [h11] at e
    split at e
    · cases e
    · unfold trapS at e; have e := inr_inj e; subst e; decide
  simp [h1, h2, h3, h4, h5, h6, h7, h8, h9, h10, h11] at e

theorem term_kind {t : Le} (e : termS l m t = .inr k) : k.1 ≠ 0 := by
  unfold termS at e
  by_cases h1 : t.k = 1
  · simp [h1] at e
  by_cases h2 : t.k = 2
  · simp [h2] at e
  by_cases h3 : t.k = 3
  · simp [h3] at e
    split at e
    · have e := inr_inj e; subst e; decide
    · cases e
  simp [h1, h2, h3] at e
  subst e
  decide

theorem step_kind (e : stepS l m = .inr k) : k.1 ≠ 0 := by
  unfold stepS at e
  split at e
  · exact term_kind e
  · exact instr_kind e

theorem goS_pre : ∀ (n : Nat) (m : Mc), ∃ t, (goS l n m).2.1 = m.out ++ t
  | 0, m => ⟨[], by rw [goS_zero]; exact (List.append_nil _).symm⟩
  | n + 1, m => by
    cases hr : stepS l m with
    | inl m' =>
      rw [goS_inl hr]
      obtain ⟨t, ht⟩ := goS_pre n m'
      obtain ⟨u, hu⟩ := step_pre hr
      exact ⟨u ++ t, by rw [← List.append_assoc, ← hu]; exact ht⟩
    | inr k =>
      rw [goS_inr hr]
      exact ⟨[], (List.append_nil _).symm⟩

theorem goS_le : ∀ (n : Nat) (m : Mc), (goS l n m).2.2 ≤ n
  | 0, m => by rw [goS_zero]; exact Nat.le_refl _
  | n + 1, m => by
    cases hr : stepS l m with
    | inl m' =>
      rw [goS_inl hr]
      have := goS_le n m'
      show _ + 1 ≤ n + 1
      omega
    | inr k =>
      rw [goS_inr hr]
      show 1 ≤ n + 1
      omega

theorem goS_more (b : Nat) : ∀ (n : Nat) (m : Mc), (goS l n m).1.1 ≠ 0 → goS l (n + b) m = goS l n m
  | 0, m, h => by rw [goS_zero] at h; exact absurd rfl h
  | n + 1, m, h => by
    rw [show n + 1 + b = (n + b) + 1 by omega]
    cases hr : stepS l m with
    | inl m' =>
      rw [goS_inl hr] at h ⊢
      rw [goS_inl hr, goS_more b n m' h]
    | inr k => rw [goS_inr hr, goS_inr hr]

theorem goS_less (b : Nat) : ∀ (n : Nat) (m : Mc), ∃ t, (goS l (n + b) m).2.1 = (goS l n m).2.1 ++ t
  | 0, m => by
    rw [goS_zero]
    exact goS_pre _ m
  | n + 1, m => by
    rw [show n + 1 + b = (n + b) + 1 by omega]
    cases hr : stepS l m with
    | inl m' =>
      rw [goS_inl hr, goS_inl hr]
      exact goS_less b n m'
    | inr k => rw [goS_inr hr, goS_inr hr]; exact ⟨[], (List.append_nil _).symm⟩

theorem runE_le (l : List Lf) (ip : List Int) (n : Nat) : (runE l ip n).2.2 ≤ n := by
  unfold runE runS
  split
  · split
    · exact Nat.zero_le _
    · split
      · exact Nat.zero_le _
      · exact goS_le _ _
  · exact Nat.zero_le _

theorem goS_out : ∀ (n : Nat) (m : Mc), (goS l n m).2.1.length ≤ m.out.length + n
  | 0, m => by rw [goS_zero]; exact Nat.le_refl _
  | n + 1, m => by
    cases hr : stepS l m with
    | inl m' =>
      rw [goS_inl hr]
      have := goS_out n m'
      have := step_out hr
      show (goS l n m').2.1.length ≤ _
      omega
    | inr k =>
      rw [goS_inr hr]
      show m.out.length ≤ _
      omega

theorem runE_out (l : List Lf) (ip : List Int) (n : Nat) : (runE l ip n).2.1.length ≤ n := by
  unfold runE runS
  split
  · split
    · exact Nat.zero_le _
    · split
      · exact Nat.zero_le _
      · refine Nat.le_trans (goS_out n _) ?_
        simp [beginM]
  · exact Nat.zero_le _

theorem runE_more (l : List Lf) (ip : List Int) (n b : Nat) (h : (runE l ip n).1.1 ≠ 0) : runE l ip (n + b) = runE l ip n := by
  unfold runE runS at *
  split
  · rename_i hc
    simp only [hc, if_true] at h
    split
    · rfl
    · rename_i k hk
      simp only [hk] at h
      split
      · rfl
      · rename_i hq
        simp only [hq, if_false] at h
        exact goS_more b n _ h
  · rfl

theorem runE_less (l : List Lf) (ip : List Int) (n b : Nat) : ∃ t, (runE l ip (n + b)).2.1 = (runE l ip n).2.1 ++ t := by
  unfold runE runS
  split
  · split
    · exact ⟨[], rfl⟩
    · split
      · exact ⟨[], rfl⟩
      · exact goS_less b n _
  · exact ⟨[], rfl⟩
end
end Go.Proofs.YtapgaclonilnbaaDoor

/-
  Proved: what the reference's Same tells of two outcomes.
-/
namespace Go.Proofs.YtapgaclonilnbaaDoor
open Go.RowKit
set_option linter.unusedVariables false
set_option linter.unusedSimpArgs false

/-- What was printed, wherever it lies. -/
def PrI (w : World) (l : List Int) (v : Value) : Prop := ∃ A C, v = .slice A l.length C ∧ ∀ i (h : i < l.length), ∃ b o, A = some ⟨b, o, none⟩ ∧ b < w.heap.size ∧ w.cell? ⟨b, o + i, none⟩ = some (.int .i64 (l[i]'h))

theorem PrI.below {w w' : World} {l : List Int} {v : Value} (h : PrI w l v) (k : Below w.heap.size w w') : PrI w' l v := by
  obtain ⟨A, C, e, h⟩ := h
  refine ⟨A, C, e, fun i hi => ?_⟩
  obtain ⟨b, o, e1, e2, e3⟩ := h i hi
  exact ⟨b, o, e1, Nat.lt_of_lt_of_le e2 k.size, (k.cell (p := ⟨b, o + i, none⟩) e2).trans e3⟩

theorem PrI.own {base : Nat} {w : World} {l : List Int} {v : Value} (h : OwnB 3 1 noC base l v w) : PrI w l v := by
  obtain ⟨A, C, e, h1⟩ := OwnB.shape noC_len h
  refine ⟨A, C, e, fun i hi => ?_⟩
  obtain ⟨B, e2, e3, e4, e5, e6⟩ := h1 (by omega)
  refine ⟨B, 0, e2, e4, ?_⟩
  obtain ⟨b, o, q1, q2⟩ := e6 i hi
  cases q1
  have := q2.at 0 (v := .int .i64 l[i]) rfl
  simpa using this

set_option maxRecDepth 20000 in
set_option maxHeartbeats 4000000 in
theorem same_c (k c k' c' : Int) (l l' : List Int) (pv qv : Value) (w : World) (hp : PrI w l pv) (hq : PrI w l' qv) (hl : l.length ≤ 9223372036854775806) :
    Calls Tryd.prog 7 #[.agg #[.int .i64 k, .int .i64 c, pv], .agg #[.int .i64 k', .int .i64 c', qv]] w fun e w' => e = .returned (.bool (decide (k = k' ∧ c = c' ∧ l = l'))) ∧ Below w.heap.size w w' := by
  obtain ⟨A, C, rfl, hp⟩ := hp
  obtain ⟨A', C', rfl, hq⟩ := hq
  by_cases h1 : k = k'
  · subst h1
    by_cases h2 : c = c'
    · subst h2
      by_cases h3 : (l.length : Int) = l'.length
      · have hn : l.length = l'.length := by omega
        have HP : Hid (∀ i (h : i < l.length), ∃ b o, A = some ⟨b, o, none⟩ ∧ b < w.heap.size ∧ w.cell? ⟨b, o + i, none⟩ = some (.int .i64 (l[i]'h))) := hp
        have HQ : Hid (∀ i (h : i < l'.length), ∃ b o, A' = some ⟨b, o, none⟩ ∧ b < w.heap.size ∧ w.cell? ⟨b, o + i, none⟩ = some (.int .i64 (l'[i]'h))) := hq
        clear hp hq h3
        have hd : decide (k = k ∧ c = c ∧ l = l') = decide (l = l') := by simp
        rw [hd]
        clear hd
        obtain ⟨t, ht⟩ : ∃ t, t = decide (l = l') := ⟨_, rfl⟩
        rw [← ht]
        have HT : Hid (t = decide (l = l')) := ht
        clear ht
        have HN : Hid (l.length = l'.length) := hn
        rw [← hn]
        have hnl : (l.length : Int) ≤ 9223372036854775806 := by omega
        clear hn hl
        obtain ⟨n, hln⟩ : ∃ n, n = l.length := ⟨_, rfl⟩
        have LN : Hid (n = l.length) := hln
        rw [← hln] at hnl ⊢
        clear hln
        have B2 : Hid (Below w.heap.size w ((w.alloc (.cells #[.int .i64 k, .int .i64 c, .slice A n C] 26)).alloc (.cells #[.int .i64 k, .int .i64 c, .slice A' n C'] 26))) := below_next (below_alloc _ _) (below_alloc _ _)
        have a2 := (At.new w #[.int .i64 k, .int .i64 c, .slice A n C] 26).below (below_alloc _ (.cells #[.int .i64 k, .int .i64 c, .slice A' n C'] 26)) (At.new w #[.int .i64 k, .int .i64 c, .slice A n C] 26).lt
        have a3 := At.new (w.alloc (.cells #[.int .i64 k, .int .i64 c, .slice A n C] 26)) #[.int .i64 k, .int .i64 c, .slice A' n C'] 26
        have KF : Hid (∀ w', Below ((w.alloc (.cells #[.int .i64 k, .int .i64 c, .slice A n C] 26)).alloc (.cells #[.int .i64 k, .int .i64 c, .slice A' n C'] 26)).heap.size ((w.alloc (.cells #[.int .i64 k, .int .i64 c, .slice A n C] 26)).alloc (.cells #[.int .i64 k, .int .i64 c, .slice A' n C'] 26)) w' → w'.cell? ⟨w.heap.size, 2, none⟩ = some (.slice A n C) ∧ w'.cell? ⟨w.heap.size + 1, 2, none⟩ = some (.slice A' n C')) := fun w' hb => by
          have q2 := a2.below hb a2.lt
          have q3 := a3.below hb a3.lt
          have e : (w.alloc (.cells #[.int .i64 k, .int .i64 c, .slice A n C] 26)).heap.size = w.heap.size + 1 := by simp
          rw [e] at q3
          exact ⟨by rw [q2.cell]; rfl, by rw [q3.cell]; rfl⟩
        clear a2 a3
        go_enter Tryd.func7, Tryd.ntmps7
        go_wp2
        generalize (w.alloc (.cells #[.int .i64 k, .int .i64 c, .slice A n C] 26)).alloc (.cells #[.int .i64 k, .int .i64 c, .slice A' n C'] 26) = W at *
        go_loopw [5] (fun i wr => ∃ j : Nat, j ≤ n ∧ i = .int .i64 (j : Int) ∧ Below W.heap.size W wr ∧ ∀ q, q < j → l[q]? = l'[q]?) (fun i _ => n - (intOf i).toNat)
        case atStart => exact ⟨0, by omega, rfl, Below.refl _ _, fun q hq => absurd hq (by omega)⟩
        case round =>
          obtain ⟨j, hj, rfl, hB, hE⟩ := hrel
          have BB : Hid (Below W.heap.size W wr) := hB
          have EE : Hid (∀ q, q < j → l[q]? = l'[q]?) := hE
          obtain ⟨x2, y2⟩ := KF.out wr hB
          clear hB hE
          rcases Nat.lt_or_ge j n with hj' | hj'
          · have hjz : (j : Int) < n := by omega
            have hl1 : j < l.length := by have := LN.out; omega
            have hl2 : j < l'.length := by have := HN.out; omega
            obtain ⟨b, o, rfl, hb, h0⟩ := HP.out j hl1
            obtain ⟨b', o', rfl, hb', h0'⟩ := HQ.out j hl2
            have bw := below_next B2.out BB.out
            have c0 : wr.cell? ⟨b, o + j, none⟩ = some (.int .i64 l[j]) := (bw.cell (p := ⟨b, o + j, none⟩) hb).trans h0
            have c0' : wr.cell? ⟨b', o' + j, none⟩ = some (.int .i64 l'[j]) := (bw.cell (p := ⟨b', o' + j, none⟩) hb').trans h0'
            have wj : IntKind.i64.wrap ((j : Int) + 1) = (j : Int) + 1 := by rw [IntKind.wrap_i64]; omega
            have e1 : l[j]? = some l[j] := List.getElem?_eq_getElem hl1
            have e2 : l'[j]? = some l'[j] := List.getElem?_eq_getElem hl2
            clear h0 h0' bw
            by_cases hy : l[j] = l'[j]
            · have E2 : Hid (∀ q, q < j + 1 → l[q]? = l'[q]?) := fun q hq => by
                rcases Nat.lt_or_ge q j with e | e
                · exact EE.out q e
                · obtain rfl : q = j := by omega
                  rw [e1, e2, hy]
              clear e1 e2
              rw [← hy] at c0'
              generalize l[j] = y at *
              go_wp2
              go_region
              all_goals go_wp2
              all_goals go_roundw
              case rel => exact ⟨j + 1, by omega, by go_num, BB.out.drew, E2.out⟩
              case measure => simp [intOf]; omega
            · have FN : t = false := by
                have : ¬ l = l' := fun e => by
                  subst e
                  exact hy rfl
                rw [HT.out]
                simp [this]
              clear e1 e2 HT
              subst FN
              generalize l[j] = y at *
              generalize l'[j] = y' at *
              go_wp2
              go_region
              all_goals go_wp2
              all_goals go_ret
              all_goals exact ⟨rfl, (below_next B2.out BB.out).drew⟩
          · have hjz : ¬ (j : Int) < n := by omega
            have FN : t = true := by
              have : l = l' := by
                apply List.ext_getElem?
                intro q
                rcases Nat.lt_or_ge q j with e | e
                · exact EE.out q e
                · have := LN.out
                  have := HN.out
                  rw [List.getElem?_eq_none (by omega), List.getElem?_eq_none (by omega)]
              rw [HT.out]
              simp [this]
            clear HT
            subst FN
            go_wp2
            go_ret
            exact ⟨rfl, below_next B2.out BB.out⟩
      · have e : decide (k = k ∧ c = c ∧ l = l') = false := by
          simp
          intro e
          rw [e] at h3
          exact h3 rfl
        rw [e]
        clear hp hq
        generalize l.length = n at *
        generalize l'.length = n' at *
        go_enter Tryd.func7, Tryd.ntmps7
        go_wp2
        go_ret
        exact ⟨rfl, below_next (below_alloc _ _) (below_alloc _ _)⟩
    · have e : decide (k = k ∧ c = c' ∧ l = l') = false := by simp [h2]
      rw [e]
      clear hp hq
      generalize l.length = n at *
      generalize l'.length = n' at *
      go_enter Tryd.func7, Tryd.ntmps7
      go_wp2
      go_ret
      exact ⟨rfl, below_next (below_alloc _ _) (below_alloc _ _)⟩
  · have e : decide (k = k' ∧ c = c' ∧ l = l') = false := by simp [h1]
    rw [e]
    clear hp hq
    generalize l.length = n at *
    generalize l'.length = n' at *
    go_enter Tryd.func7, Tryd.ntmps7
    go_wp2
    go_ret
    exact ⟨rfl, below_next (below_alloc _ _) (below_alloc _ _)⟩
end Go.Proofs.YtapgaclonilnbaaDoor

/-
  Proved: functions in the low form that can be read as data, and that fit memory, lie in memory as plain data do.
-/
set_option linter.unusedVariables false
set_option maxRecDepth 20000
namespace Go.Proofs.YtapgaclonilnbaaDoor
open Go.RowKit Go.ChangeShapes Go.WideShapes Go.Deep

theorem cellsInt : Tryd.prog.cellsOf 3 = 1 := by kernel_rfl
theorem cellsBool : Tryd.prog.cellsOf 4 = 1 := by kernel_rfl
theorem cellsStr : Tryd.prog.cellsOf 9 = 1 := by kernel_rfl
theorem cellsInts : Tryd.prog.cellsOf 23 = 1 := by kernel_rfl
theorem cellsLo : Tryd.prog.cellsOf 30 = 8 := by kernel_rfl
theorem cellsLos : Tryd.prog.cellsOf 31 = 1 := by kernel_rfl
theorem cellsLe : Tryd.prog.cellsOf 33 = 7 := by kernel_rfl
theorem cellsLb : Tryd.prog.cellsOf 35 = 8 := by kernel_rfl
theorem cellsLbs : Tryd.prog.cellsOf 36 = 1 := by kernel_rfl
theorem cellsLf : Tryd.prog.cellsOf 38 = 7 := by kernel_rfl
theorem cellsLfs : Tryd.prog.cellsOf 22 = 1 := by kernel_rfl
theorem bytesInt : Tryd.prog.bytesOf 3 = 8 := by kernel_rfl
theorem bytesLo : Tryd.prog.bytesOf 30 = 104 := by kernel_rfl
theorem bytesLb : Tryd.prog.bytesOf 35 = 104 := by kernel_rfl
theorem bytesLf : Tryd.prog.bytesOf 38 = 96 := by kernel_rfl

theorem addr_add (b o m : Nat) : (⟨b, o, none⟩ : Addr).add m = ⟨b, o + m, none⟩ := by unfold Addr.add; split <;> simp_all

theorem cell_at {w : World} {a : Addr} {v : Value} (h : w.cell? a = some v) : a.spot = none ∧ a.block < w.heap.size := by
  unfold World.cell? at h
  split at h
  · rename_i hh
    refine ⟨?_, (Array.getElem?_eq_some_iff.1 hh).1⟩
    cases hs : a.spot with
    | none => rfl
    | some _ => simp [hs] at h
  · cases h

/-- All that a datum weighs fits. -/
def Wgt {H : Type} (t : TypeId) (d : DataW H) : Prop := ∀ n ∈ d.weights Tryd.prog t, n ≤ reachBytes

theorem mem_all {H : Type} {P : Program} {e : TypeId} : ∀ {l : List (DataW H)} {d : DataW H}, d ∈ l → ∀ n ∈ d.weights P e, n ∈ DataW.weightsAll P e l
  | d0 :: l, d, hd, n, hn => by
    simp only [DataW.weightsAll, List.mem_append]
    rcases List.mem_cons.1 hd with rfl | h
    · exact Or.inl hn
    · exact Or.inr (mem_all h n hn)

theorem Wgt.field {H : Type} {t : TypeId} {fs : Array Field} (ht : Tryd.prog.underlying t = some (.struct fs)) {l : List (DataW H)} (h : Wgt t (.agg l)) {i : Nat} {f : Field} {d : DataW H} (hf : fs[i]? = some f) (hd : l[i]? = some d) : Wgt f.type d := fun n hn => h n (by
  have : (DataW.agg l).weights Tryd.prog t = DataW.weightsEach Tryd.prog (fs.toList.map (·.type)) l := by simp [DataW.weights, ht]
  rw [this]
  exact DataW.weights_mem_each (by simp [hf]) hd n hn)

theorem Wgt.elem {H : Type} {t e : TypeId} (ht : Tryd.prog.underlying t = some (.slice e)) {l sp : List (DataW H)} (h : Wgt t (.slice l sp)) : (l.length + sp.length) * Tryd.prog.bytesOf e ≤ reachBytes ∧ ∀ d ∈ l, Wgt e d := by
  have : (DataW.slice l sp).weights Tryd.prog t = (l.length + sp.length) * Tryd.prog.bytesOf e :: (DataW.weightsAll Tryd.prog e l ++ DataW.weightsAll Tryd.prog e sp) := by simp [DataW.weights, ht]
  refine ⟨h _ (by rw [this]; exact List.mem_cons_self), fun d hd n hn => h n ?_⟩
  rw [this]
  exact List.mem_cons_of_mem _ (List.mem_append_left _ (mem_all hd n hn))

section
variable {H : Type} {enc : TypeId × Value → H} {w : World} {spare : Nat → Bool} {held : Bool}

/-- The elements of a slice, each by itself: of whatever kind. -/
theorem open_rows {α : Type} (hα : Nonempty α) (good : α → List Value → Prop) {t e : TypeId} {size : Nat} (ht : Tryd.prog.underlying t = some (.slice e)) (hc : Tryd.prog.cellsOf e = size) (hs : 0 < size) {fuel : Nat}
    (ih : ∀ m, m < fuel → ∀ cs x, DataW.trod enc Tryd.prog w 0 spare held m e cs = some x → Wgt e x.1 → ∃ y, good y cs) {cs : List Value} {x : DataW H × List MemPlace} (h : DataW.trod enc Tryd.prog w 0 spare held fuel t cs = some x) (hR : Wgt t x.1) :
    ∃ (A : Option Addr) (C : Nat) (es : List α), cs = [.slice A es.length C] ∧ es.length ≤ 9223372036854775807 ∧ es.length * Tryd.prog.bytesOf e ≤ reachBytes ∧
      (∀ i (h : i < es.length), ∃ b o cs', A = some ⟨b, o, none⟩ ∧ RowAt w b (o + i * size) cs' ∧ good (es[i]'h) cs') := by
  rcases DataW.trod_slice ht h with ⟨rfl, rfl⟩ | ⟨a, len, cap, elems, rest, n, rfl, rfl, rfl, hb, hl, hm, hlen, hel, _, _⟩
  · exact ⟨none, 0, [], rfl, by simp, by simp, fun i hi => absurd hi (Nat.not_lt_zero _)⟩
  · obtain ⟨hw, hR⟩ := Wgt.elem ht hR
    have each : ∀ i, i < len → ∃ z : List Value × α, w.cells? 0 (a.add (i * size)) size = some z.1 ∧ good z.2 z.1 := fun i hi => by
      have h1 := hel i hi
      rw [List.getElem?_eq_getElem (by omega), hc] at h1
      obtain ⟨cs', h2, h3⟩ := Option.bind_eq_some_iff.1 h1
      obtain ⟨y, hy⟩ := ih n (by omega) cs' _ h3 (hR _ (List.mem_map.2 ⟨_, List.getElem_mem (by omega), rfl⟩))
      exact ⟨(cs', y), h2, hy⟩
    haveI : Inhabited α := ⟨Classical.choice hα⟩
    obtain ⟨f, hf⟩ := choose_lt each
    refine ⟨some a, cap, (List.range len).map fun i => (f i).2, by simp, ?_, ?_, fun i hi => ?_⟩
    · simp only [maxLen] at hm
      simp
      omega
    · simp only [List.length_map, List.length_range] at hw ⊢
      rw [hlen, Nat.add_mul] at hw
      omega
    · have hi' : i < len := by simpa using hi
      have sp : a.spot = none := by
        obtain ⟨_, h2, h3⟩ := World.cells?_some (hf 0 (by omega)).1
        have h4 := h3 0 hs
        rw [List.getElem?_eq_getElem (by omega)] at h4
        have h5 := (cell_at h4).1
        rw [Nat.zero_mul] at h5
        simpa [Addr.add] using h5
      obtain ⟨b, o, sp'⟩ := a
      cases sp
      obtain ⟨h1, h2⟩ := hf i hi'
      obtain ⟨_, h3, h4⟩ := World.cells?_some h1
      refine ⟨b, o, (f i).1, rfl, ⟨?_, fun j v hj => ?_⟩, by simpa using h2⟩
      · have h5 := h4 0 hs
        rw [List.getElem?_eq_getElem (by omega), addr_add, addr_add] at h5
        exact (cell_at h5).2
      · have hj' : j < size := by
          have := (List.getElem?_eq_some_iff.1 hj).1
          omega
        have h5 := h4 j hj'
        rw [hj, addr_add, addr_add] at h5
        exact h5

theorem reach_len {n b : Nat} (h : n * b ≤ reachBytes) (hb : 8 ≤ b) : n ≤ 281474976710656 := by
  have h1 : n * 8 ≤ n * b := Nat.mul_le_mul_left _ hb
  have h2 : reachBytes ≤ 2251799813685248 := by decide
  omega

theorem open_Nos {fuel : Nat} {cs : List Value} {x : DataW H × List MemPlace} (h : DataW.trod enc Tryd.prog w 0 spare held fuel 23 cs = some x) (hR : Wgt 23 x.1) :
    ∃ (v : Value) (es : List Int), cs = [v] ∧ NosIn w es v := by
  obtain ⟨A, C, es, e1, _, e2, e3⟩ := open_rows ⟨(0 : Int)⟩ (GI w) Tryd.underlying23 cellsInt (by decide) (fun m _ cs x hx hR => by
    obtain ⟨a, q1, _, _⟩ := DataW.trod_int Tryd.underlying3 hx
    exact ⟨a, q1⟩) h hR
  rw [bytesInt] at e2
  exact ⟨_, es, e1, reach_len e2 (by decide), A, C, rfl, e3⟩

theorem open_Lo {fuel : Nat} {cs : List Value} {x : DataW H × List MemPlace} (h : DataW.trod enc Tryd.prog w 0 spare held fuel 30 cs = some x) (hR : Wgt 30 x.1) :
    ∃ y, LoIn w y cs := by
  obtain ⟨xs, n, rfl, hx, hl, hlen, hf⟩ := DataW.trod_struct Tryd.underlying30 h
  rw [cellsLo] at hl
  have hlen : xs.length = 8 := hlen
  match cs, hl with
  | [c0, c1, c2, c3, c4, c5, c6, c7], _ =>
  match xs, hlen with
  | [y0, y1, y2, y3, y4, y5, y6, y7], _ =>
  rw [hx] at hR
  have f0 : DataW.trod enc Tryd.prog w 0 spare held n 3 (([c0, c1, c2, c3, c4, c5, c6, c7].drop 0).take (Tryd.prog.cellsOf 3)) = some y0 := hf 0 _ rfl
  rw [cellsInt] at f0
  have f1 : DataW.trod enc Tryd.prog w 0 spare held n 3 (([c0, c1, c2, c3, c4, c5, c6, c7].drop 1).take (Tryd.prog.cellsOf 3)) = some y1 := hf 1 _ rfl
  rw [cellsInt] at f1
  have f2 : DataW.trod enc Tryd.prog w 0 spare held n 3 (([c0, c1, c2, c3, c4, c5, c6, c7].drop 2).take (Tryd.prog.cellsOf 3)) = some y2 := hf 2 _ rfl
  rw [cellsInt] at f2
  have f3 : DataW.trod enc Tryd.prog w 0 spare held n 3 (([c0, c1, c2, c3, c4, c5, c6, c7].drop 3).take (Tryd.prog.cellsOf 3)) = some y3 := hf 3 _ rfl
  rw [cellsInt] at f3
  have f4 : DataW.trod enc Tryd.prog w 0 spare held n 3 (([c0, c1, c2, c3, c4, c5, c6, c7].drop 4).take (Tryd.prog.cellsOf 3)) = some y4 := hf 4 _ rfl
  rw [cellsInt] at f4
  have f5 : DataW.trod enc Tryd.prog w 0 spare held n 9 (([c0, c1, c2, c3, c4, c5, c6, c7].drop 5).take (Tryd.prog.cellsOf 9)) = some y5 := hf 5 _ rfl
  rw [cellsStr] at f5
  have f6 : DataW.trod enc Tryd.prog w 0 spare held n 23 (([c0, c1, c2, c3, c4, c5, c6, c7].drop 6).take (Tryd.prog.cellsOf 23)) = some y6 := hf 6 _ rfl
  rw [cellsInts] at f6
  have g6 : Wgt 23 y6.1 := Wgt.field Tryd.underlying30 hR (i := 6) rfl rfl
  have f7 : DataW.trod enc Tryd.prog w 0 spare held n 23 (([c0, c1, c2, c3, c4, c5, c6, c7].drop 7).take (Tryd.prog.cellsOf 23)) = some y7 := hf 7 _ rfl
  rw [cellsInts] at f7
  have g7 : Wgt 23 y7.1 := Wgt.field Tryd.underlying30 hR (i := 7) rfl rfl
  obtain ⟨a0, e0, _, _⟩ := DataW.trod_int Tryd.underlying3 f0
  obtain ⟨a1, e1, _, _⟩ := DataW.trod_int Tryd.underlying3 f1
  obtain ⟨a2, e2, _, _⟩ := DataW.trod_int Tryd.underlying3 f2
  obtain ⟨a3, e3, _, _⟩ := DataW.trod_int Tryd.underlying3 f3
  obtain ⟨a4, e4, _, _⟩ := DataW.trod_int Tryd.underlying3 f4
  obtain ⟨a5, e5, k5, _⟩ := DataW.trod_string Tryd.underlying9 f5
  obtain ⟨v6, l6, e6, h6⟩ := open_Nos f6 g6
  obtain ⟨v7, l7, e7, h7⟩ := open_Nos f7 g7
  simp at e0 e1 e2 e3 e4 e5 e6 e7
  subst e0 e1 e2 e3 e4 e5 e6 e7
  exact ⟨⟨a0, a1, a2, a3, a4, a5, l6, l7⟩, _, _, rfl, (by assumption), h6, h7⟩

theorem open_Los {fuel : Nat} {cs : List Value} {x : DataW H × List MemPlace} (h : DataW.trod enc Tryd.prog w 0 spare held fuel 31 cs = some x) (hR : Wgt 31 x.1) :
    ∃ (v : Value) (es : List Lo), cs = [v] ∧ LiIn w es v := by
  obtain ⟨A, C, es, e1, _, e2, e3⟩ := open_rows ⟨(⟨0, 0, 0, 0, 0, ⟨#[]⟩, [], []⟩ : Lo)⟩ (LoIn w) Tryd.underlying31 cellsLo (by decide) (fun m _ cs x hx hR => open_Lo hx hR) h hR
  rw [bytesLo] at e2
  exact ⟨_, es, e1, reach_len e2 (by decide), A, C, rfl, e3⟩

theorem open_Le {fuel : Nat} {cs : List Value} {x : DataW H × List MemPlace} (h : DataW.trod enc Tryd.prog w 0 spare held fuel 33 cs = some x) (hR : Wgt 33 x.1) :
    ∃ (y : Le) (v : Value), cs = leC y v ∧ NosIn w y.args v := by
  obtain ⟨xs, n, rfl, hx, hl, hlen, hf⟩ := DataW.trod_struct Tryd.underlying33 h
  rw [cellsLe] at hl
  have hlen : xs.length = 7 := hlen
  match cs, hl with
  | [c0, c1, c2, c3, c4, c5, c6], _ =>
  match xs, hlen with
  | [y0, y1, y2, y3, y4, y5, y6], _ =>
  rw [hx] at hR
  have f0 : DataW.trod enc Tryd.prog w 0 spare held n 3 (([c0, c1, c2, c3, c4, c5, c6].drop 0).take (Tryd.prog.cellsOf 3)) = some y0 := hf 0 _ rfl
  rw [cellsInt] at f0
  have f1 : DataW.trod enc Tryd.prog w 0 spare held n 3 (([c0, c1, c2, c3, c4, c5, c6].drop 1).take (Tryd.prog.cellsOf 3)) = some y1 := hf 1 _ rfl
  rw [cellsInt] at f1
  have f2 : DataW.trod enc Tryd.prog w 0 spare held n 3 (([c0, c1, c2, c3, c4, c5, c6].drop 2).take (Tryd.prog.cellsOf 3)) = some y2 := hf 2 _ rfl
  rw [cellsInt] at f2
  have f3 : DataW.trod enc Tryd.prog w 0 spare held n 3 (([c0, c1, c2, c3, c4, c5, c6].drop 3).take (Tryd.prog.cellsOf 3)) = some y3 := hf 3 _ rfl
  rw [cellsInt] at f3
  have f4 : DataW.trod enc Tryd.prog w 0 spare held n 3 (([c0, c1, c2, c3, c4, c5, c6].drop 4).take (Tryd.prog.cellsOf 3)) = some y4 := hf 4 _ rfl
  rw [cellsInt] at f4
  have f5 : DataW.trod enc Tryd.prog w 0 spare held n 9 (([c0, c1, c2, c3, c4, c5, c6].drop 5).take (Tryd.prog.cellsOf 9)) = some y5 := hf 5 _ rfl
  rw [cellsStr] at f5
  have f6 : DataW.trod enc Tryd.prog w 0 spare held n 23 (([c0, c1, c2, c3, c4, c5, c6].drop 6).take (Tryd.prog.cellsOf 23)) = some y6 := hf 6 _ rfl
  rw [cellsInts] at f6
  have g6 : Wgt 23 y6.1 := Wgt.field Tryd.underlying33 hR (i := 6) rfl rfl
  obtain ⟨a0, e0, _, _⟩ := DataW.trod_int Tryd.underlying3 f0
  obtain ⟨a1, e1, _, _⟩ := DataW.trod_int Tryd.underlying3 f1
  obtain ⟨a2, e2, _, _⟩ := DataW.trod_int Tryd.underlying3 f2
  obtain ⟨a3, e3, _, _⟩ := DataW.trod_int Tryd.underlying3 f3
  obtain ⟨a4, e4, _, _⟩ := DataW.trod_int Tryd.underlying3 f4
  obtain ⟨a5, e5, k5, _⟩ := DataW.trod_string Tryd.underlying9 f5
  obtain ⟨v6, l6, e6, h6⟩ := open_Nos f6 g6
  simp at e0 e1 e2 e3 e4 e5 e6
  subst e0 e1 e2 e3 e4 e5 e6
  exact ⟨⟨a0, a1, a2, a3, a4, a5, l6⟩, _, rfl, h6⟩

theorem open_Lb {fuel : Nat} {cs : List Value} {x : DataW H × List MemPlace} (h : DataW.trod enc Tryd.prog w 0 spare held fuel 35 cs = some x) (hR : Wgt 35 x.1) :
    ∃ y, LbIn w y cs := by
  obtain ⟨xs, n, rfl, hx, hl, hlen, hf⟩ := DataW.trod_struct Tryd.underlying35 h
  rw [cellsLb] at hl
  have hlen : xs.length = 2 := hlen
  match cs, hl with
  | [c0, c1, c2, c3, c4, c5, c6, c7], _ =>
  match xs, hlen with
  | [y0, y1], _ =>
  rw [hx] at hR
  have f0 : DataW.trod enc Tryd.prog w 0 spare held n 31 (([c0, c1, c2, c3, c4, c5, c6, c7].drop 0).take (Tryd.prog.cellsOf 31)) = some y0 := hf 0 _ rfl
  rw [cellsLos] at f0
  have g0 : Wgt 31 y0.1 := Wgt.field Tryd.underlying35 hR (i := 0) rfl rfl
  have f1 : DataW.trod enc Tryd.prog w 0 spare held n 33 (([c0, c1, c2, c3, c4, c5, c6, c7].drop 1).take (Tryd.prog.cellsOf 33)) = some y1 := hf 1 _ rfl
  rw [cellsLe] at f1
  have g1 : Wgt 33 y1.1 := Wgt.field Tryd.underlying35 hR (i := 1) rfl rfl
  obtain ⟨v0, l0, e0, h0⟩ := open_Los f0 g0
  obtain ⟨a1, v1, e1, h1⟩ := open_Le f1 g1
  simp [leC] at e0 e1
  obtain ⟨q1, q2, q3, q4, q5, q6, q7⟩ := e1
  subst e0 q1 q2 q3 q4 q5 q6 q7
  exact ⟨⟨l0, a1⟩, _, _, rfl, h0, h1⟩

theorem open_Lbs {fuel : Nat} {cs : List Value} {x : DataW H × List MemPlace} (h : DataW.trod enc Tryd.prog w 0 spare held fuel 36 cs = some x) (hR : Wgt 36 x.1) :
    ∃ (v : Value) (es : List Lb), cs = [v] ∧ LbsIn w es v := by
  obtain ⟨A, C, es, e1, _, e2, e3⟩ := open_rows ⟨(⟨[], ⟨0, 0, 0, 0, 0, ⟨#[]⟩, []⟩⟩ : Lb)⟩ (LbIn w) Tryd.underlying36 cellsLb (by decide) (fun m _ cs x hx hR => open_Lb hx hR) h hR
  rw [bytesLb] at e2
  exact ⟨_, es, e1, reach_len e2 (by decide), A, C, rfl, e3⟩

theorem open_Lf {fuel : Nat} {cs : List Value} {x : DataW H × List MemPlace} (h : DataW.trod enc Tryd.prog w 0 spare held fuel 38 cs = some x) (hR : Wgt 38 x.1) :
    ∃ y, LfIn w y cs := by
  obtain ⟨xs, n, rfl, hx, hl, hlen, hf⟩ := DataW.trod_struct Tryd.underlying38 h
  rw [cellsLf] at hl
  have hlen : xs.length = 7 := hlen
  match cs, hl with
  | [c0, c1, c2, c3, c4, c5, c6], _ =>
  match xs, hlen with
  | [y0, y1, y2, y3, y4, y5, y6], _ =>
  rw [hx] at hR
  have f0 : DataW.trod enc Tryd.prog w 0 spare held n 9 (([c0, c1, c2, c3, c4, c5, c6].drop 0).take (Tryd.prog.cellsOf 9)) = some y0 := hf 0 _ rfl
  rw [cellsStr] at f0
  have f1 : DataW.trod enc Tryd.prog w 0 spare held n 3 (([c0, c1, c2, c3, c4, c5, c6].drop 1).take (Tryd.prog.cellsOf 3)) = some y1 := hf 1 _ rfl
  rw [cellsInt] at f1
  have f2 : DataW.trod enc Tryd.prog w 0 spare held n 23 (([c0, c1, c2, c3, c4, c5, c6].drop 2).take (Tryd.prog.cellsOf 23)) = some y2 := hf 2 _ rfl
  rw [cellsInts] at f2
  have g2 : Wgt 23 y2.1 := Wgt.field Tryd.underlying38 hR (i := 2) rfl rfl
  have f3 : DataW.trod enc Tryd.prog w 0 spare held n 3 (([c0, c1, c2, c3, c4, c5, c6].drop 3).take (Tryd.prog.cellsOf 3)) = some y3 := hf 3 _ rfl
  rw [cellsInt] at f3
  have f4 : DataW.trod enc Tryd.prog w 0 spare held n 3 (([c0, c1, c2, c3, c4, c5, c6].drop 4).take (Tryd.prog.cellsOf 3)) = some y4 := hf 4 _ rfl
  rw [cellsInt] at f4
  have f5 : DataW.trod enc Tryd.prog w 0 spare held n 4 (([c0, c1, c2, c3, c4, c5, c6].drop 5).take (Tryd.prog.cellsOf 4)) = some y5 := hf 5 _ rfl
  rw [cellsBool] at f5
  have f6 : DataW.trod enc Tryd.prog w 0 spare held n 36 (([c0, c1, c2, c3, c4, c5, c6].drop 6).take (Tryd.prog.cellsOf 36)) = some y6 := hf 6 _ rfl
  rw [cellsLbs] at f6
  have g6 : Wgt 36 y6.1 := Wgt.field Tryd.underlying38 hR (i := 6) rfl rfl
  obtain ⟨a0, e0, k0, _⟩ := DataW.trod_string Tryd.underlying9 f0
  obtain ⟨a1, e1, _, _⟩ := DataW.trod_int Tryd.underlying3 f1
  obtain ⟨v2, l2, e2, h2⟩ := open_Nos f2 g2
  obtain ⟨a3, e3, _, _⟩ := DataW.trod_int Tryd.underlying3 f3
  obtain ⟨a4, e4, _, _⟩ := DataW.trod_int Tryd.underlying3 f4
  obtain ⟨a5, e5, _, _⟩ := DataW.trod_bool Tryd.underlying4 f5
  obtain ⟨v6, l6, e6, h6⟩ := open_Lbs f6 g6
  simp at e0 e1 e2 e3 e4 e5 e6
  subst e0 e1 e2 e3 e4 e5 e6
  exact ⟨⟨a0, a1, l2, a3, a4, a5, l6⟩, _, _, rfl, (by assumption), h2, h6⟩

theorem open_Lfs {fuel : Nat} {cs : List Value} {x : DataW H × List MemPlace} (h : DataW.trod enc Tryd.prog w 0 spare held fuel 22 cs = some x) (hR : Wgt 22 x.1) :
    ∃ (v : Value) (es : List Lf), cs = [v] ∧ LfsIn w es v := by
  obtain ⟨A, C, es, e1, _, e2, e3⟩ := open_rows ⟨(⟨⟨#[]⟩, 0, [], 0, 0, false, []⟩ : Lf)⟩ (LfIn w) Tryd.underlying22 cellsLf (by decide) (fun m _ cs x hx hR => open_Lf hx hR) h hR
  rw [bytesLf] at e2
  exact ⟨_, es, e1, reach_len e2 (by decide), A, C, rfl, e3⟩

end

/-- Numbers as an input, with the room behind them. -/
theorem open_Inp {H : Type} {enc : TypeId × Value → H} {w : World} {held : Bool} {fuel : Nat} {cs : List Value} {x : DataW H × List MemPlace} (h : DataW.trod enc Tryd.prog w 0 (fun _ => true) held fuel 23 cs = some x) (hR : Wgt 23 x.1) :
    ∃ (v : Value) (es : List Int), cs = [v] ∧ InpIn w es v := by
  obtain ⟨A, C, es, e1, _, e2, e3⟩ := open_rows ⟨(0 : Int)⟩ (GI w) Tryd.underlying23 cellsInt (by decide) (fun m _ cs x hx hR => by
    obtain ⟨a, q1, _, _⟩ := DataW.trod_int Tryd.underlying3 hx
    exact ⟨a, q1⟩) h hR
  rw [bytesInt] at e2
  subst e1
  refine ⟨_, es, rfl, A, C, rfl, ?_, ?_, e3⟩
  all_goals
    rcases DataW.trod_slice Tryd.underlying23 h with ⟨q1, q2⟩ | ⟨a, len, cap, elems, rest, n, rfl, q1, rfl, hb, hl, hm, hlen, hel, hsp, _⟩
    · simp at q1
      obtain ⟨-, q1, rfl⟩ := q1
      simp [q1]
    · obtain ⟨hw, -⟩ := Wgt.elem Tryd.underlying23 hR
      simp at q1
      obtain ⟨-, rfl, rfl⟩ := q1
      have h2 := (hsp rfl).1
      simp only [List.length_map, bytesInt] at hw
      have h3 := reach_len hw (by decide)
      omega
end Go.Proofs.YtapgaclonilnbaaDoor

/-
  Proved: wherever the listed variable heap.spans reads as the given datum, its cells in memory are those numbers; and the heap that the program's own initialisers leave is such a one.
-/
set_option maxRecDepth 20000
namespace Go.Proofs.YtapgaclonilnbaaDoor
open Go.ChangeShapes Go.WideShapes Go.ChangeAt Go.RowKit

theorem own : ownKnob Tryd.prog.godebug = none := by kernel_rfl
theorem gSpans : Tryd.prog.globalNamed "ferrule/heap.spans" = some 0 := by kernel_rfl
theorem tSpans : (Tryd.prog.globals[0]?).map (·.type) = some 80 := by kernel_rfl

def laid1 : List (String × DataW Unit) := [("ferrule/heap.spans", Rows.laid_ferrule_heap_spans)]

theorem door_met (os : Os) (args : Array Value) : laidMetH Tryd.prog laid1 ((World.doorLaid Tryd.prog 400 os).forCall (fun _ _ => 0) ⟨#[], args, []⟩).memory :=
  laidMetH_of_parts3 (fuel := 8) (laidMet_of_run' 8 (by kernel_rfl) (by kernel_rfl)) (by kernel_rfl) (by kernel_rfl)

theorem c3 : Tryd.prog.cellsOf 3 = 1 := by kernel_rfl
theorem c54 : Tryd.prog.cellsOf 79 = 3 := by kernel_rfl
theorem c55 : Tryd.prog.cellsOf 80 = 12 := by kernel_rfl

theorem span_cells {W : World} {m : Nat} {cs : List Value} {x : DataW Unit × List MemPlace} (a b c : Int)
    (h : DataW.trod (fun _ => ()) Tryd.prog W 0 (fun _ => true) false m 79 cs = some x) (hx : x.1 = .agg [.lit (.int .i64 a), .lit (.int .i64 b), .lit (.int .i64 c)]) : cs = [.int .i64 a, .int .i64 b, .int .i64 c] := by
  obtain ⟨xs, n, rfl, hx1, hl, hlen, hf⟩ := DataW.trod_struct Tryd.underlying79 h
  subst hx1
  have hlen : xs.length = 3 := hlen
  rw [c54] at hl
  match xs, hlen with
  | [y0, y1, y2], _ =>
  simp only [DataW.agg.injEq, List.map_cons, List.map_nil, List.cons.injEq, and_true] at hx
  obtain ⟨e0, e1, e2⟩ := hx
  have f0 : DataW.trod _ Tryd.prog W 0 _ _ n 3 ((cs.drop 0).take (Tryd.prog.cellsOf 3)) = some y0 := hf 0 _ rfl
  have f1 : DataW.trod _ Tryd.prog W 0 _ _ n 3 ((cs.drop 1).take (Tryd.prog.cellsOf 3)) = some y1 := hf 1 _ rfl
  have f2 : DataW.trod _ Tryd.prog W 0 _ _ n 3 ((cs.drop 2).take (Tryd.prog.cellsOf 3)) = some y2 := hf 2 _ rfl
  rw [c3] at f0 f1 f2
  obtain ⟨a0, g0, g0', _⟩ := DataW.trod_int Tryd.underlying3 f0
  obtain ⟨a1, g1, g1', _⟩ := DataW.trod_int Tryd.underlying3 f1
  obtain ⟨a2, g2, g2', _⟩ := DataW.trod_int Tryd.underlying3 f2
  rw [g0'] at e0
  rw [g1'] at e1
  rw [g2'] at e2
  simp at e0 e1 e2
  subst e0 e1 e2
  match cs, hl, g0, g1, g2 with
  | [v0, v1, v2], _, g0, g1, g2 =>
    simp at g0 g1 g2
    subst g0 g1 g2
    rfl

theorem of_laid {W : World} (h : laidMetH Tryd.prog laid1 W) : Tab W := by
  rw [MakeChecks.laidMetH_plain _ _ _ (by kernel_rfl)] at h
  obtain ⟨ps, ⟨g0, t0, cs0, f0, p0, q0, hg0, ht0, hv0, hd0, _⟩, _⟩ := h
  obtain rfl := Option.some.inj (gSpans.symm.trans hg0)
  obtain rfl := Option.some.inj (tSpans.symm.trans ht0)
  obtain ⟨xs, m1, rfl, hx1, hlen, hn, hel⟩ := DataW.trod_array Tryd.underlying80 hd0
  simp only [Prod.mk.injEq] at hx1
  rw [c55] at hlen
  rw [c54] at hel
  match xs, hn with
  | [y0, y1, y2, y3], _ =>
  have e := hx1.1
  simp only [Rows.laid_ferrule_heap_spans, DataW.agg.injEq, List.map_cons, List.map_nil, List.cons.injEq, and_true] at e
  obtain ⟨e0, e1, e2, e3⟩ := e
  have k0 := span_cells _ _ _ ((hel 0 (by omega)).trans rfl) e0.symm
  have k1 := span_cells _ _ _ ((hel 1 (by omega)).trans rfl) e1.symm
  have k2 := span_cells _ _ _ ((hel 2 (by omega)).trans rfl) e2.symm
  have k3 := span_cells _ _ _ ((hel 3 (by omega)).trans rfl) e3.symm
  obtain ⟨l⟩ := cs0
  match l, hlen, k0, k1, k2, k3 with
  | [v0, v1, v2, v3, v4, v5, v6, v7, v8, v9, v10, v11], _, k0, k1, k2, k3 =>
  simp at k0 k1 k2 k3
  obtain ⟨rfl, rfl, rfl⟩ := k0
  obtain ⟨rfl, rfl, rfl⟩ := k1
  obtain ⟨rfl, rfl, rfl⟩ := k2
  obtain ⟨rfl, rfl, rfl⟩ := k3
  unfold World.var? at hv0
  rw [hg0] at hv0
  simp only [Option.bind_some] at hv0
  split at hv0
  · rename_i cs t fr hh
    cases hv0
    exact ⟨t, fr, hh⟩
  · cases hv0
end Go.Proofs.YtapgaclonilnbaaDoor
