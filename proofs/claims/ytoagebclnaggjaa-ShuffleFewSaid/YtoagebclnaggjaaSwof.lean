/-
  Proved: what waitingOf lays: what is to be done of moves.
-/
import Derived.Test.YtoagebclnaggjaaSform
set_option linter.unusedVariables false
namespace Go.Proofs.Ytoagebclnaggjaa
open Go.RowKit Go.Maps

theorem lk_snoc (p : List Mv) (m : Mv) (h : m.1 ∉ p.map (·.1)) : upd (lk p) m.1 (some m.2) = lk (p ++ [m]) := by
  funext y
  unfold upd
  induction p with
  | nil => by_cases e : y = m.1 <;> simp [lk, e, eq_comm]
  | cons a p ih =>
    rw [List.map_cons, List.mem_cons] at h
    have := ih fun h2 => h (Or.inr h2)
    rw [List.cons_append, lk, lk, ← this]
    by_cases e : y = m.1
    · have h3 : ¬ a.1 = y := fun h4 => h (Or.inl (by omega))
      simp [e]
      intro h5
      exact absurd (h5.trans e.symm) h3
    · simp [e]

theorem rd_snoc (p : List Mv) (m : Mv) (y : Int) : rd (p ++ [m]) y = rd p y + if m.2 = y then 1 else 0 := by
  induction p with
  | nil => simp [rd]
  | cons a p ih => rw [List.cons_append, rd, rd, ih]; omega

theorem rd_le (p : List Mv) (y : Int) : rd p y ≤ p.length := by
  induction p with
  | nil => simp [rd]
  | cons a p ih => rw [rd, List.length_cons]; split <;> omega

theorem mvs_snoc (l : List Mv) (m : Mv) : mvs (l ++ [m]) = if m.1 = m.2 then mvs l else mvs l ++ [m] := by
  unfold mvs
  rw [List.filter_append]
  split
  · next h => simp [h]
  · next h => simp [h]

theorem mvs_sub {l : List Mv} {x : Int} (h : x ∈ (mvs l).map (·.1)) : x ∈ l.map (·.1) := by
  obtain ⟨m, hm, rfl⟩ := List.mem_map.1 h
  exact List.mem_map.2 ⟨m, (List.mem_filter.1 hm).1, rfl⟩

theorem wrap_id {n : Int} (h : In n) : IntKind.i64.wrap n = n := by
  unfold In at h
  have h1 : n % 18446744073709551616 = n ∨ n % 18446744073709551616 = n + 18446744073709551616 := by omega
  unfold IntKind.wrap
  simp only [IntKind.bits, IntKind.signed]
  simp
  omega

/-- The readers are counted. -/
def RdOf (r : Int → Option Int) (p : List Mv) : Prop := ∀ y, (r y).getD 0 = (rd p y : Int)

set_option maxRecDepth 20000 in
set_option maxHeartbeats 2000000 in
theorem waitingOf_c (l : List Mv) (v : Value) (w : World) (h : LI w l v) (ha : Al l) (hn : ND l) (hl : l.length ≤ 1000) :
    Calls Try.prog 13 #[v] w fun e w' => e = .returned (.pointer (some ⟨w.heap.size + 2, 0, none⟩)) ∧ ∃ r, RdOf r (mvs l) ∧ WT w.heap.size 1000 (lk (mvs l)) r [] w' ∧ Below w.heap.size w w' := by
  obtain ⟨A, C, rfl, hr⟩ := h
  have R : Hid (RowsIn w 2 mC l A) := hr
  have HA : Hid (Al l) := ha
  have HN : Hid (ND l) := hn
  clear hr ha hn
  have hmm := @run_makeMap Try.prog
  have mixed : Try.prog.follows Departure.mixedOrders = true := by kernel_rfl
  go_enter Try.func13, Try.ntmps13
  go_wp2
  go_loopw [12] (fun iv wr => ∃ i : Nat, ∃ r, i ≤ l.length ∧ iv = .int .i64 (i : Int) ∧ RdOf r (mvs (l.take i)) ∧ WT w.heap.size i (lk (mvs (l.take i))) r [] wr ∧ Below w.heap.size w wr ∧ MapF wr w.heap.size i (lk (mvs (l.take i)))) (fun iv _ => l.length - (intOf iv).toNat)
  case atStart =>
    have a1 := MapF.made w
    have a2 := MapF.made (w.alloc (.map #[] 0))
    have b0 : Below w.heap.size w ((w.alloc (.map #[] 0)).alloc (.map #[] 0)) := below_next (below_alloc _ _) (below_alloc _ _)
    have e1 : (w.alloc (.map #[] 0)).heap.size = w.heap.size + 1 := by simp
    rw [e1] at a2
    have e2 : ((w.alloc (.map #[] 0)).alloc (.map #[] 0)).heap.size = w.heap.size + 2 := by simp
    refine ⟨0, fun _ => none, by omega, rfl, fun _ => rfl, ⟨.slice none 0 0, At.newS _ _ _ e2, (((a1.below (below_alloc _ _)).below (below_alloc _ _)).mono (by omega)).ext fun _ => rfl, a2.below (below_alloc _ _), OM.empty (by simp)⟩, below_next b0 (below_alloc _ _), ((a1.below (below_alloc _ _)).below (below_alloc _ _)).ext fun _ => rfl⟩
  case round =>
    obtain ⟨i, r, hi, rfl, hrd, hw, hbl, hmp⟩ := hrel
    rcases Nat.lt_or_ge i l.length with hlt | hge
    · have hiz : (i : Int) < l.length := by omega
      obtain ⟨b1, o1, rfl, hb1, c1, c2⟩ := rows_cells R.out hbl i hlt
      have hx := (HA.out l[i] (List.getElem_mem hlt)).1
      have hy := (HA.out l[i] (List.getElem_mem hlt)).2
      have W1 : Hid (WT w.heap.size i (lk (mvs (l.take i))) r [] (wr.alloc (.cells #[.int .i64 l[i].1, .int .i64 l[i].2] 28))) := hw.below (below_alloc _ _)
      have M1 : Hid (MapF (wr.alloc (.cells #[.int .i64 l[i].1, .int .i64 l[i].2] 28)) w.heap.size i (lk (mvs (l.take i)))) := hmp.below (below_alloc _ _)
      have A1 : Hid (At (wr.alloc (.cells #[.int .i64 l[i].1, .int .i64 l[i].2] 28)) wr.heap.size #[.int .i64 l[i].1, .int .i64 l[i].2] 28) := At.new _ _ _
      have BW : Hid (Below w.heap.size w (wr.alloc (.cells #[.int .i64 l[i].1, .int .i64 l[i].2] 28))) := hbl.trans ((below_alloc _ _).mono hbl.size)
      have SN : Hid (mvs (l.take (i + 1)) = if l[i].1 = l[i].2 then mvs (l.take i) else mvs (l.take i) ++ [l[i]]) := (show _ = _ by rw [List.take_succ_eq_append_getElem hlt, mvs_snoc])
      have NI : Hid (l[i].1 ∉ (mvs (l.take i)).map (·.1)) := fun hm => by
        have h1 := HN.out
        unfold ND at h1
        rw [← List.take_append_drop (i + 1) l, List.take_succ_eq_append_getElem hlt, List.map_append, List.nodup_append, List.map_append, List.nodup_append] at h1
        exact h1.1.2.2 _ (mvs_sub hm) l[i].1 (by simp) rfl
      have RL : Hid (∀ y, rd (mvs (l.take i)) y ≤ 1000) := fun y => by
        have h1 := rd_le (mvs (l.take i)) y
        have h2 : (mvs (l.take i)).length ≤ (l.take i).length := List.length_filter_le _ _
        simp at h2
        omega
      have LS : Hid (upd (lk (mvs (l.take i))) l[i].1 (some l[i].2) = lk (mvs (l.take i) ++ [l[i]])) := lk_snoc _ _ NI.out
      have RS : Hid (∀ y, rd (mvs (l.take i) ++ [l[i]]) y = rd (mvs (l.take i)) y + if l[i].2 = y then 1 else 0) := rd_snoc _ _
      have RD : Hid (RdOf r (mvs (l.take i))) := hrd
      generalize l[i] = m at *
      obtain ⟨x, y⟩ := m
      simp only at *
      have HX : Hid (In x) := hx
      have HY : Hid (In y) := hy
      have hsz : w.heap.size + 2 < wr.heap.size := hw.lt
      clear hw hbl hrd hx hy HA HN NI R hmp
      by_cases e : x = y
      · have q : (x != y) = false := by simpa using e
        have S2 : Hid (mvs (l.take (i + 1)) = mvs (l.take i)) := (show _ = _ by rw [SN.out, if_pos e])
        clear SN e RL LS RS HX HY
        go_wp2
        go_roundw
        case rel => exact ⟨i + 1, r, by omega, by go_num, by rw [S2.out]; exact RD.out, by rw [S2.out]; obtain ⟨tv, k1, k2, k3, k4⟩ := W1.out; exact ⟨tv, k1, k2, k3.mono (by omega), k4⟩, BW.out, by rw [S2.out]; exact M1.out.mono (by omega)⟩
        case measure => simp [intOf]; omega
      · have q : (x != y) = true := by simpa using e
        have S2 : Hid (mvs (l.take (i + 1)) = mvs (l.take i) ++ [(x, y)]) := (show _ = _ by rw [SN.out, if_neg e])
        clear SN e
        go_wp2
        clear c1 c2
        generalize wr.alloc (.cells #[.int .i64 x, .int .i64 y] 28) = w1 at *
        have w1d := W1.out.below (below_drew w1)
        have a1d := A1.out.below (below_drew w1) A1.out.lt
        obtain ⟨w2, u1, u2, u3, u4⟩ : ∃ w2, (Instr.mapUpdate 38 (.map (some w.heap.size)) (.int .i64 x) (.int .i64 y)).run Try.prog w1.drew = .ok () w2 ∧ MapF w2 w.heap.size (i + 1) (upd (lk (mvs (l.take i))) x (some y)) ∧ Kp (fun k => k = w.heap.size) w1.drew w2 ∧ w2.heap.size = w1.drew.heap.size := by
          exact (M1.out.below (below_drew w1)).put HX.out HY.out (by omega)
        have u2' : MapF w2 w.heap.size 1000 (upd (lk (mvs (l.take i))) x (some y)) := u2.mono (by omega)
        obtain ⟨w2t, w2f⟩ := w1d.from u2' u3
        rw [LS.out] at w2t
        have a2 := u3.at a1d (by omega)
        have S6 : Hid ((w1.drew.cell? ⟨w.heap.size + 1 + 1, 0, none⟩ = some (.map (some w.heap.size)) ∧ w1.drew.cell? ⟨wr.heap.size, 0, none⟩ = some (.int .i64 x) ∧ w1.drew.cell? ⟨wr.heap.size, 1, none⟩ = some (.int .i64 y)) ∧ (w2.cell? ⟨w.heap.size + 1 + 1, 0, none⟩ = some (.map (some w.heap.size)) ∧ w2.cell? ⟨wr.heap.size, 0, none⟩ = some (.int .i64 x) ∧ w2.cell? ⟨wr.heap.size, 1, none⟩ = some (.int .i64 y))) := by
          obtain ⟨tv, k1, _⟩ := w1d
          obtain ⟨tv2, j1, _⟩ := w2t
          exact ⟨⟨k1.cell 0, a1d.cell 0, a1d.cell 1⟩, ⟨j1.cell 0, a2.cell 0, a2.cell 1⟩⟩
        have w2d := w2t.below (below_drew w2)
        have a2d := a2.below (below_drew w2) a2.lt
        have BD : Hid (Below w.heap.size w w2.drew) := ((BW.out.trans ((below_drew w1).mono (by have := W1.out.lt; omega))).trans w2f.1).trans ((below_drew w2).mono (by have := w2t.lt; omega))
        have lr : (Instr.lookup 38 (.map (some (w.heap.size + 1))) (.int .i64 y) false).run Try.prog w2.drew = .ok (.int .i64 (rd (mvs (l.take i)) y : Int)) w2.drew := by
          obtain ⟨tv, k1, k2, k3, k4⟩ := w2d
          have := k3.look1 HY.out
          rwa [RD.out y] at this
        have hry := RL.out y
        obtain ⟨w3, v1, v2, v3, v4⟩ : ∃ w3, (Instr.mapUpdate 38 (.map (some (w.heap.size + 1))) (.int .i64 y) (.int .i64 (IntKind.i64.wrap ((rd (mvs (l.take i)) y : Int) + 1)))).run Try.prog w2.drew = .ok () w3 ∧ MapF w3 (w.heap.size + 1) (i + 1) (upd r y (some ((rd (mvs (l.take i)) y : Int) + 1))) ∧ Kp (fun k => k = w.heap.size + 1) w2.drew w3 ∧ w3.heap.size = w2.drew.heap.size := by
          obtain ⟨tv, k1, k2, k3, k4⟩ := w2d
          rw [wrap_id (by unfold In; omega)]
          exact k3.put HY.out (by unfold In; omega) (by omega)
        obtain ⟨w3t, w3f⟩ := w2d.readers v2 v3
        have a3 := v3.at a2d (by omega)
        have S7 : Hid ((w2.drew.cell? ⟨w.heap.size + 1 + 1, 1, none⟩ = some (.map (some (w.heap.size + 1))) ∧ w2.drew.cell? ⟨wr.heap.size, 1, none⟩ = some (.int .i64 y)) ∧ (w3.cell? ⟨w.heap.size + 1 + 1, 1, none⟩ = some (.map (some (w.heap.size + 1))) ∧ w3.cell? ⟨wr.heap.size, 1, none⟩ = some (.int .i64 y))) := by
          obtain ⟨tv, k1, _⟩ := w2d
          obtain ⟨tv2, j1, _⟩ := w3t
          exact ⟨⟨k1.cell 1, a2d.cell 1⟩, ⟨j1.cell 1, a3.cell 1⟩⟩
        have W3 : Hid (WT w.heap.size (i + 1) (lk (mvs (l.take i) ++ [(x, y)])) (upd r y (some ((rd (mvs (l.take i)) y : Int) + 1))) [] w3) := w3t
        have M3 : Hid (MapF w3 w.heap.size (i + 1) (lk (mvs (l.take i) ++ [(x, y)]))) := (show MapF w3 w.heap.size (i + 1) (lk (mvs (l.take i) ++ [(x, y)])) by
          rw [← LS.out]
          exact (u2.below (below_drew w2)).stay (v3.2 _ (by have := u2.lt; exact this) (by omega)))
        have B3 : Hid (Below w.heap.size w w3) := BD.out.trans w3f.1
        have RR : Hid (RdOf (upd r y (some ((rd (mvs (l.take i)) y : Int) + 1))) (mvs (l.take i) ++ [(x, y)])) := fun z => by
          rw [RS.out z]
          unfold upd
          by_cases e : z = y
          · subst e; simp
          · have e' : ¬ y = z := fun h => e h.symm
            rw [if_neg e, if_neg e', RD.out z]
            simp
        clear w1d a1d u2 u2' u3 u4 w2t w2f a2 w2d a2d v2 v3 v4 w3t w3f a3 BD RS RD LS W1 A1 BW RL M1
        generalize rd (mvs (l.take i)) y = ry at *
        refine wp_region_N (fun w' => w'.cell? ⟨w.heap.size + 1 + 1, 0, none⟩ = some (.map (some w.heap.size)) ∧ w'.cell? ⟨wr.heap.size, 0, none⟩ = some (.int .i64 x) ∧ w'.cell? ⟨wr.heap.size, 1, none⟩ = some (.int .i64 y)) (fun _ => true) mixed (S6.out.1) ?_
        intro S0
        refine wpAnyN_take (i := 0) (v := .pointer (some ⟨w.heap.size + 1 + 1, 0, none⟩)) rfl (by kernel_rfl) (by kernel_rfl) (by kernel_rfl) (by kernel_rfl) (fun _ _ _ h => h) (Or.inl ⟨by rfl, ?_⟩) S0 ?_
        · intro w' hS'
          obtain ⟨h0, h1, h2⟩ := hS'
          go_simp
        (try simp only [Act.put, List.getElem_toArray, List.getElem_cons_zero, List.setIfInBounds_toArray, List.set_cons_zero, List.set_cons_succ])
        refine wpAnyN_take (i := 1) (v := .pointer (some ⟨w.heap.size + 1 + 1, 0, none⟩)) rfl (by kernel_rfl) (by kernel_rfl) (by kernel_rfl) (by kernel_rfl) (fun _ _ _ h => h) (Or.inl ⟨by rfl, ?_⟩) S0 ?_
        · intro w' hS'
          obtain ⟨h0, h1, h2⟩ := hS'
          go_simp
        (try simp only [Act.put, List.getElem_toArray, List.getElem_cons_succ, List.getElem_cons_zero, List.setIfInBounds_toArray, List.set_cons_zero, List.set_cons_succ])
        refine wpAnyN_take (i := 2) (v := .pointer (some ⟨w.heap.size + 1 + 1, 0, none⟩)) rfl (by kernel_rfl) (by kernel_rfl) (by kernel_rfl) (by kernel_rfl) (fun _ _ _ h => h) (Or.inl ⟨by rfl, ?_⟩) S0 ?_
        · intro w' hS'
          obtain ⟨h0, h1, h2⟩ := hS'
          go_simp
        (try simp only [Act.put, List.getElem_toArray, List.getElem_cons_succ, List.getElem_cons_zero, List.setIfInBounds_toArray, List.set_cons_zero, List.set_cons_succ])
        refine wpAnyN_take (i := 3) (v := .map (some w.heap.size)) rfl (by kernel_rfl) (by kernel_rfl) (by kernel_rfl) (by kernel_rfl) (fun _ _ _ h => h) (Or.inl ⟨by rfl, ?_⟩) S0 ?_
        · intro w' hS'
          obtain ⟨h0, h1, h2⟩ := hS'
          go_simp
        (try simp only [Act.put, List.getElem_toArray, List.getElem_cons_succ, List.getElem_cons_zero, List.setIfInBounds_toArray, List.set_cons_zero, List.set_cons_succ])
        refine wpAnyN_take (i := 4) (v := .pointer (some ⟨wr.heap.size, 0, none⟩)) rfl (by kernel_rfl) (by kernel_rfl) (by kernel_rfl) (by kernel_rfl) (fun _ _ _ h => h) (Or.inl ⟨by rfl, ?_⟩) S0 ?_
        · intro w' hS'
          obtain ⟨h0, h1, h2⟩ := hS'
          go_simp
        (try simp only [Act.put, List.getElem_toArray, List.getElem_cons_succ, List.getElem_cons_zero, List.setIfInBounds_toArray, List.set_cons_zero, List.set_cons_succ])
        refine wpAnyN_take (i := 5) (v := .int .i64 x) rfl (by kernel_rfl) (by kernel_rfl) (by kernel_rfl) (by kernel_rfl) (fun _ _ _ h => h) (Or.inl ⟨by rfl, ?_⟩) S0 ?_
        · intro w' hS'
          obtain ⟨h0, h1, h2⟩ := hS'
          go_simp
        (try simp only [Act.put, List.getElem_toArray, List.getElem_cons_succ, List.getElem_cons_zero, List.setIfInBounds_toArray, List.set_cons_zero, List.set_cons_succ])
        refine wpAnyN_take (i := 6) (v := .pointer (some ⟨wr.heap.size, 1, none⟩)) rfl (by kernel_rfl) (by kernel_rfl) (by kernel_rfl) (by kernel_rfl) (fun _ _ _ h => h) (Or.inl ⟨by rfl, ?_⟩) S0 ?_
        · intro w' hS'
          obtain ⟨h0, h1, h2⟩ := hS'
          go_simp
        (try simp only [Act.put, List.getElem_toArray, List.getElem_cons_succ, List.getElem_cons_zero, List.setIfInBounds_toArray, List.set_cons_zero, List.set_cons_succ])
        refine wpAnyN_take (i := 7) (v := .int .i64 y) rfl (by kernel_rfl) (by kernel_rfl) (by kernel_rfl) (by kernel_rfl) (fun _ _ _ h => h) (Or.inl ⟨by rfl, ?_⟩) S0 ?_
        · intro w' hS'
          obtain ⟨h0, h1, h2⟩ := hS'
          go_simp
        (try simp only [Act.put, List.getElem_toArray, List.getElem_cons_succ, List.getElem_cons_zero, List.setIfInBounds_toArray, List.set_cons_zero, List.set_cons_succ])
        refine wpAnyN_one (i := 8) (by kernel_rfl) rfl (fun K hK => ?_)
        go_simp
        refine hK _ _ (fun _ => S6.out.2) ?_
        clear hK K
        (try simp only [Act.put, List.getElem_toArray, List.getElem_cons_succ, List.getElem_cons_zero, List.setIfInBounds_toArray, List.set_cons_zero, List.set_cons_succ])
        refine wpAnyN_done (by kernel_rfl) ?_ _
        go_wp2
        refine wp_region_N (fun w' => w'.cell? ⟨w.heap.size + 1 + 1, 1, none⟩ = some (.map (some (w.heap.size + 1))) ∧ w'.cell? ⟨wr.heap.size, 1, none⟩ = some (.int .i64 y)) (fun _ => true) mixed (S7.out.1) ?_
        intro S0
        refine wpAnyN_take (i := 0) (v := .pointer (some ⟨w.heap.size + 1 + 1, 0, none⟩)) rfl (by kernel_rfl) (by kernel_rfl) (by kernel_rfl) (by kernel_rfl) (fun _ _ _ h => h) (Or.inl ⟨by rfl, ?_⟩) S0 ?_
        · intro w' hS'
          obtain ⟨h0, h1⟩ := hS'
          go_simp
        (try simp only [Act.put, List.getElem_toArray, List.getElem_cons_zero, List.setIfInBounds_toArray, List.set_cons_zero, List.set_cons_succ])
        refine wpAnyN_take (i := 1) (v := .pointer (some ⟨w.heap.size + 1 + 1, 0, none⟩)) rfl (by kernel_rfl) (by kernel_rfl) (by kernel_rfl) (by kernel_rfl) (fun _ _ _ h => h) (Or.inl ⟨by rfl, ?_⟩) S0 ?_
        · intro w' hS'
          obtain ⟨h0, h1⟩ := hS'
          go_simp
        (try simp only [Act.put, List.getElem_toArray, List.getElem_cons_succ, List.getElem_cons_zero, List.setIfInBounds_toArray, List.set_cons_zero, List.set_cons_succ])
        refine wpAnyN_take (i := 2) (v := .pointer (some ⟨w.heap.size + 1 + 1, 1, none⟩)) rfl (by kernel_rfl) (by kernel_rfl) (by kernel_rfl) (by kernel_rfl) (fun _ _ _ h => h) (Or.inl ⟨by rfl, ?_⟩) S0 ?_
        · intro w' hS'
          obtain ⟨h0, h1⟩ := hS'
          go_simp
        (try simp only [Act.put, List.getElem_toArray, List.getElem_cons_succ, List.getElem_cons_zero, List.setIfInBounds_toArray, List.set_cons_zero, List.set_cons_succ])
        refine wpAnyN_take (i := 3) (v := .map (some (w.heap.size + 1))) rfl (by kernel_rfl) (by kernel_rfl) (by kernel_rfl) (by kernel_rfl) (fun _ _ _ h => h) (Or.inl ⟨by rfl, ?_⟩) S0 ?_
        · intro w' hS'
          obtain ⟨h0, h1⟩ := hS'
          go_simp
        (try simp only [Act.put, List.getElem_toArray, List.getElem_cons_succ, List.getElem_cons_zero, List.setIfInBounds_toArray, List.set_cons_zero, List.set_cons_succ])
        refine wpAnyN_take (i := 4) (v := .pointer (some ⟨wr.heap.size, 1, none⟩)) rfl (by kernel_rfl) (by kernel_rfl) (by kernel_rfl) (by kernel_rfl) (fun _ _ _ h => h) (Or.inl ⟨by rfl, ?_⟩) S0 ?_
        · intro w' hS'
          obtain ⟨h0, h1⟩ := hS'
          go_simp
        (try simp only [Act.put, List.getElem_toArray, List.getElem_cons_succ, List.getElem_cons_zero, List.setIfInBounds_toArray, List.set_cons_zero, List.set_cons_succ])
        refine wpAnyN_take (i := 5) (v := .int .i64 y) rfl (by kernel_rfl) (by kernel_rfl) (by kernel_rfl) (by kernel_rfl) (fun _ _ _ h => h) (Or.inl ⟨by rfl, ?_⟩) S0 ?_
        · intro w' hS'
          obtain ⟨h0, h1⟩ := hS'
          go_simp
        (try simp only [Act.put, List.getElem_toArray, List.getElem_cons_succ, List.getElem_cons_zero, List.setIfInBounds_toArray, List.set_cons_zero, List.set_cons_succ])
        refine wpAnyN_one (i := 6) (by kernel_rfl) rfl (fun K hK => ?_)
        go_simp
        refine hK _ _ (fun _ => S7.out.1) ?_
        clear hK K
        (try simp only [Act.put, List.getElem_toArray, List.getElem_cons_succ, List.getElem_cons_zero, List.setIfInBounds_toArray, List.set_cons_zero, List.set_cons_succ])
        refine wpAnyN_one (i := 7) (by kernel_rfl) rfl (fun K hK => ?_)
        go_simp
        refine hK _ _ (fun _ => S7.out.1) ?_
        clear hK K
        (try simp only [Act.put, List.getElem_toArray, List.getElem_cons_succ, List.getElem_cons_zero, List.setIfInBounds_toArray, List.set_cons_zero, List.set_cons_succ])
        refine wpAnyN_one (i := 8) (by kernel_rfl) rfl (fun K hK => ?_)
        go_simp
        refine hK _ _ (fun _ => S7.out.2) ?_
        clear hK K
        (try simp only [Act.put, List.getElem_toArray, List.getElem_cons_succ, List.getElem_cons_zero, List.setIfInBounds_toArray, List.set_cons_zero, List.set_cons_succ])
        refine wpAnyN_done (by kernel_rfl) ?_ _
        go_wp2
        go_roundw
        case rel => exact ⟨i + 1, _, by omega, by go_num, by rw [S2.out]; exact RR.out, by rw [S2.out]; exact W3.out, B3.out, by rw [S2.out]; exact M3.out⟩
        case measure => simp [intOf]; omega
    · have hiz : ¬ (i : Int) < l.length := by omega
      have EE : Hid (l.take i = l) := List.take_of_length_le hge
      have W1 : Hid (WT w.heap.size i (lk (mvs (l.take i))) r [] wr) := hw
      have BB : Hid (Below w.heap.size w wr) := hbl
      have RD : Hid (RdOf r (mvs (l.take i))) := hrd
      clear hw hbl hrd HA HN R hmp
      go_wp2
      go_ret
      refine ⟨rfl, r, by have := RD.out; rwa [EE.out] at this, ?_, BB.out⟩
      have := W1.out
      rw [EE.out] at this
      obtain ⟨tv, k1, k2, k3, k4⟩ := this
      exact ⟨tv, k1, k2, k3.mono (by omega), k4⟩
end Go.Proofs.Ytoagebclnaggjaa
