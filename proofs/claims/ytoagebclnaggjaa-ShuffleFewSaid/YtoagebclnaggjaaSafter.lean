/-
  Proved: what 'after' answers: what a place holds behind moves one behind the other.
-/
import Derived.Test.YtoagebclnaggjaaSline
set_option linter.unusedVariables false
namespace Go.Proofs.Ytoagebclnaggjaa
open Go.RowKit Go.Maps

/-- Moves done one behind the other. -/
def runM : List Mv → (Int → Int) → Int → Int
  | [], s => s
  | m :: l, s => runM l fun z => if z = m.1 then s m.2 else s z

theorem runM_app (a b : List Mv) (s : Int → Int) : runM (a ++ b) s = runM b (runM a s) := by
  induction a generalizing s with
  | nil => rfl
  | cons m a ih => exact ih _

theorem runM_snoc (a : List Mv) (m : Mv) (s : Int → Int) (z : Int) : runM (a ++ [m]) s z = if z = m.1 then runM a s m.2 else runM a s z := by
  rw [runM_app]
  rfl

theorem lk_app (a b : List Mv) (z : Int) : lk (a ++ b) z = match lk a z with | some y => some y | none => lk b z := by
  induction a with
  | nil => rfl
  | cons m a ih =>
    rw [List.cons_append, lk, lk]
    split
    · rfl
    · exact ih

theorem infoHd : (Try.prog.info? 46).map (fun i => (i.zero, i.size, i.bytes)) = some (some (.agg #[.int .i64 0, .int .i64 0]), 2, 16) := by kernel_rfl

/-- What 'after' keeps: the variable h in its first block. -/
def AH (w : World) (h : List Mv) (hv : Value) (wr : World) : Prop := At wr w.heap.size #[hv] 44 ∧ OwnB 46 2 mC (w.heap.size + 1) h hv wr ∧ Below w.heap.size w wr

theorem AH.below {w wr wz : World} {h : List Mv} {hv : Value} (a : AH w h hv wr) (k : Below wr.heap.size wr wz) : AH w h hv wz :=
  ⟨a.1.below k a.1.lt, a.2.1.below k, a.2.2.trans (k.mono a.2.2.size)⟩

/-- An element's second cell is set. -/
theorem AH.set {w wr : World} {a b : List Mv} {p q v : Int} {B C : Nat} (h : AH w (a ++ (p, q) :: b) (.slice (some ⟨B, 0, none⟩) (a ++ (p, q) :: b).length C) wr) (hB : w.heap.size + 1 ≤ B) : AH w (a ++ (p, v) :: b) (.slice (some ⟨B, 0, none⟩) (a ++ (p, q) :: b).length C) (wr.setCell ⟨B, a.length * 2 + 1, none⟩ (.int .i64 v)) := by
  obtain ⟨h0, ⟨h1, h2, h3⟩, h4⟩ := h
  have hsz : (wr.setCell ⟨B, a.length * 2 + 1, none⟩ (.int .i64 v)).heap.size = wr.heap.size := by simp [World.setCell]
  have k := Kp.setc wr B (a.length * 2 + 1) (.int .i64 v)
  refine ⟨k.at h0 (by omega), ⟨by rw [hsz]; exact h1, by rw [flat_len mC_len], ?_⟩, h4.trans (k.below (by have := h0.lt; omega) (fun b hb => by omega))⟩
  rcases h3 with ⟨h4, h5⟩ | ⟨g, cap, cur, e1, e2, e3, e4, e5, e6, e7⟩
  · cases h4
  · injection e1 with e1 e8 e9
    subst e9
    injection e1 with e1
    injection e1 with e1 _ _
    subst e1
    refine Or.inr ⟨B, C, cur.setIfInBounds (a.length * 2 + 1) (.int .i64 v), by simp, e2, At.set (j := a.length * 2 + 1) (show At wr B cur 46 from e3) _, by simpa using e4, e5, by simpa using e6, ?_⟩
    have e8 : cur.toList.take ((a ++ (p, v) :: b).length * 2) = (a ++ (p, q) :: b).flatMap mC := by
      rw [← e7]
      congr 1
      simp
    rw [Array.toList_setIfInBounds, List.take_set, e8]
    rw [List.flatMap_append, List.flatMap_append, List.set_append_right _ _ (by rw [flat_len mC_len]; omega), flat_len mC_len]
    congr 1
    rw [show a.length * 2 + 1 - a.length * 2 = 1 by omega]
    rfl

theorem drewN_below (w : World) (m : Nat) : Below w.heap.size w (w.drewN m) := drew_below (Below.refl _ _) m

theorem row_mid {w : World} {a b : List Mv} {m : Mv} {A : Option Addr} (h : RowsIn w 2 mC (a ++ m :: b) A) : ∃ B o, A = some ⟨B, o, none⟩ ∧ B < w.heap.size ∧ w.cell? ⟨B, o + a.length * 2, none⟩ = some (.int .i64 m.1) ∧ w.cell? ⟨B, o + a.length * 2 + 1, none⟩ = some (.int .i64 m.2) := by
  obtain ⟨B, o, e, h1, h2, h3⟩ := rows_cells h (Below.refl _ _) a.length (by simp)
  simp at h2 h3
  exact ⟨B, o, e, h1, h2, h3⟩

set_option maxRecDepth 20000 in
theorem look_c (w wr : World) (h : List Mv) (hv : Value) (x : Int) (ha : AH w h hv wr) (hl : h.length ≤ 10000) :
    Calls Try.prog 18 #[.int .i64 x, .pointer (some ⟨w.heap.size, 0, none⟩)] wr fun e w' => e = .returned (.int .i64 ((lk h x).getD x)) ∧ w' = wr := by
  have c0 : wr.cell? ⟨w.heap.size, 0, none⟩ = some hv := ha.1.cell 0
  obtain ⟨A, C, rfl, hr⟩ := OwnB.done mC_len ha.2.1
  have R : Hid (RowsIn wr 2 mC h A) := hr
  clear ha hr
  rename World => w9
  go_enter Try.func18, Try.ntmps18
  go_wp2
  go_loopw [4] (fun iv wr => wr = w9 ∧ ∃ a b : List Mv, h = a ++ b ∧ iv = .int .i64 (a.length : Int) ∧ lk a x = none) (fun iv _ => h.length - (intOf iv).toNat)
  case atStart => exact ⟨rfl, [], h, rfl, rfl, rfl⟩
  case round =>
    obtain ⟨rfl, a, b, rfl, rfl, hn⟩ := hrel
    simp only [List.length_append] at *
    cases b with
    | nil =>
      have hz : ¬ (a.length : Int) < ((a.length + ([] : List Mv).length : Nat) : Int) := by simp
      have E : Hid ((lk (a ++ []) x).getD x = x) := (show _ = _ by rw [List.append_nil, hn]; rfl)
      clear R
      go_wp2
      go_ret
      exact ⟨by first | rfl | (rw [E.out]; rfl), rfl⟩
    | cons m b =>
      obtain ⟨B, o, rfl, hB, c1, c2⟩ := row_mid R.out
      obtain ⟨mx, my⟩ := m
      simp only [List.length_cons] at *
      have hz : (a.length : Int) < ((a.length + (b.length + 1) : Nat) : Int) := by omega
      by_cases e : mx = x
      · have q : (mx == x) = true := by simpa using e
        have E : Hid ((lk (a ++ (mx, my) :: b) x).getD x = my) := (show _ = _ by rw [lk_app, hn, lk, if_pos e]; rfl)
        clear R
        go_wp2
        go_ret
        exact ⟨by first | rfl | (rw [E.out]; rfl), rfl⟩
      · have q : (mx == x) = false := by simpa using e
        have hn2 : lk (a ++ [(mx, my)]) x = none := by rw [lk_app, hn]; simp [lk, e]
        go_wp2
        go_roundw
        case rel => exact ⟨by trivial, a ++ [(mx, my)], b, by simp, by simp; try go_num, hn2⟩
        case measure => simp [intOf]; omega

set_option maxRecDepth 20000 in
set_option maxHeartbeats 4000000 in
theorem after_c (l : List Mv) (lv : Value) (x : Int) (w : World) (h : LI w l lv) (hl : l.length ≤ 5000) :
    Calls Try.prog 10 #[lv, .int .i64 x] w fun e w' => e = .returned (.int .i64 (runM l id x)) ∧ Below w.heap.size w w' := by
  obtain ⟨A, C, rfl, hr⟩ := h
  have R : Hid (RowsIn w 2 mC l A) := hr
  clear hr
  have mixed : Try.prog.follows Departure.mixedOrders = true := by kernel_rfl
  go_enter Try.func10, Try.ntmps10
  go_wp2
  go_loopw [7] (fun iv wr => ∃ (i : Nat) (hh : List Mv) (hv : Value), i ≤ l.length ∧ iv = .int .i64 (i : Int) ∧ AH w hh hv wr ∧ (∀ z, (lk hh z).getD z = runM (l.take i) id z) ∧ hh.length ≤ i) (fun iv _ => l.length - (intOf iv).toNat)
  case atStart => exact ⟨0, [], .slice none 0 0, by omega, rfl, ⟨At.new _ _ _, ⟨by simp, by simp, Or.inl ⟨rfl, rfl⟩⟩, below_alloc _ _⟩, fun z => rfl, by simp⟩
  case round =>
    obtain ⟨i, hh, hv, hi, rfl, ha, hrun, hlen⟩ := hrel
    rcases Nat.lt_or_ge i l.length with hlt | hge
    · have hiz : (i : Int) < l.length := by omega
      obtain ⟨b1, o1, rfl, hb1, c1, c2⟩ := rows_cells R.out ha.2.2 i hlt
      have RN : Hid (∀ z, runM (l.take (i + 1)) id z = if z = l[i].1 then runM (l.take i) id l[i].2 else runM (l.take i) id z) := fun z => by
        rw [List.take_succ_eq_append_getElem hlt, runM_snoc]
      have L7 : Hid (∀ w7, Below w.heap.size w w7 → w7.cell? ⟨b1, o1 + i * 2, none⟩ = some (.int .i64 l[i].1)) := fun w7 k => (rows_cells R.out k i hlt).elim fun b h => h.elim fun o h => by
        obtain ⟨e1, _, e2, _⟩ := h
        cases e1
        exact e2
      generalize l[i].1 = to at *
      generalize l[i].2 = fr at *
      have LK := look_c w wr hh hv fr ha (by omega)
      rw [hrun fr] at LK
      generalize hv0 : runM (l.take i) id fr = v at *
      have L1 : Hid (Calls Try.prog 18 #[.int .i64 fr, .pointer (some ⟨w.heap.size, 0, none⟩)] wr fun e w' => e = .returned (.int .i64 v) ∧ w' = wr) := LK
      have HR : Hid (∀ z, (lk hh z).getD z = runM (l.take i) id z) := hrun
      have A0 : Hid (AH w hh hv wr) := ha
      have cb : wr.cell? ⟨w.heap.size, 0, none⟩ = some hv := ha.1.cell 0
      clear LK hrun ha hv0
      go_wp2_with (go_at_call 18; refine L1.out.mono ?_; rintro e w3 ⟨rfl, hw⟩; rw [hw]; clear hw w3)
      clear c1 c2 cb L1
      go_loopw [9, 10] (fun bv kv wr => ∃ a b : List Mv, kv = .int .i64 (a.length : Int) ∧ bv = .bool (lk a to).isSome ∧ (∀ q, lk a to = some q → q = v) ∧ AH w (a ++ b) hv wr ∧ (a ++ b).length = hh.length ∧ ∀ z, z ≠ to → lk (a ++ b) z = lk hh z) (fun _ kv _ => hh.length - (intOf kv).toNat)
      case atStart => exact ⟨[], hh, rfl, rfl, fun q h => (by cases h), A0.out, rfl, fun z _ => rfl⟩
      case round =>
        clear A0
        obtain ⟨a, b, rfl, rfl, hq, ha, hln, hz⟩ := hrel
        have cb : wr.cell? ⟨w.heap.size, 0, none⟩ = some hv := ha.1.cell 0
        have c1 := L7.out wr ha.2.2
        have A1 : Hid (AH w (a ++ b) hv wr) := ha
        have HQ : Hid (∀ q, lk a to = some q → q = v) := hq
        have HZ : Hid (∀ z, z ≠ to → lk (a ++ b) z = lk hh z) := hz
        have HLN : Hid ((a ++ b).length = hh.length) := hln
        cases b with
        | nil =>
          obtain ⟨Av, Cv, ev, -⟩ := OwnB.shape mC_len ha.2.1
          subst ev
          simp only [List.append_nil] at *
          have hkz : ¬ (a.length : Int) < (a.length : Int) := by omega
          have NX : Hid (∀ a', (∀ z, z ≠ to → lk a' z = lk hh z) → lk a' to = some v → ∀ z, (lk a' z).getD z = runM (l.take (i + 1)) id z) := fun a' g1 g2 z => by
            rw [RN.out z]
            by_cases e : z = to
            · rw [if_pos e, e, g2]; rfl
            · rw [if_neg e, g1 z e, HR.out z]
          clear RN HR ha hz hln
          cases hy : lk a to with
          | some q =>
            obtain rfl : q = v := hq q hy
            have FN : Hid (∀ z, (lk a z).getD z = runM (l.take (i + 1)) id z) := NX.out a HZ.out hy
            clear NX HQ HZ hq hy
            simp only [Option.isSome_some] at *
            go_wp2
            go_roundw
            case rel => exact ⟨i + 1, a, _, by omega, by go_num, A1.out, FN.out, by have := HLN.out; omega⟩
            case measure => simp [intOf]; omega
          | none =>
            have FN : Hid (∀ z, (lk (a ++ [(to, v)]) z).getD z = runM (l.take (i + 1)) id z) := NX.out _ (fun z hz => by
              rw [lk_app, ← HZ.out z hz]
              have e : ¬ to = z := fun h => hz h.symm
              cases lk a z <;> simp [lk, e]) (by rw [lk_app, hy]; simp [lk])
            have hal : a.length ≤ 5000 := by have := HLN.out; omega
            have D0 : AH w a (.slice Av a.length Cv) wr.drew := A1.out.below (below_drew wr)
            have S0 : Hid (wr.drew.cell? ⟨w.heap.size, 0, none⟩ = some (.slice Av a.length Cv) ∧ wr.drew.cell? ⟨b1, o1 + i * 2, none⟩ = some (.int .i64 to)) := ⟨D0.1.cell 0, L7.out _ D0.2.2⟩
            have D8 : AH w a (.slice Av a.length Cv) (wr.drew.alloc (.cells (mC (to, v)).toArray 46)) := D0.below (below_alloc _ _)
            have S8 : Hid ((wr.drew.alloc (.cells (mC (to, v)).toArray 46)).cell? ⟨w.heap.size, 0, none⟩ = some (.slice Av a.length Cv) ∧ (wr.drew.alloc (.cells (mC (to, v)).toArray 46)).cell? ⟨b1, o1 + i * 2, none⟩ = some (.int .i64 to)) := ⟨D8.1.cell 0, L7.out _ D8.2.2⟩
            have O8 : Hid _ := D8.2.1
            have A8 : Hid (At (wr.drew.alloc (.cells (mC (to, v)).toArray 46)) w.heap.size #[.slice Av a.length Cv] 44) := D8.1
            have B8 : Hid _ := D8.2.2
            have LL7 : Hid (∀ w7, Below w.heap.size (wr.drew.alloc (.cells (mC (to, v)).toArray 46)) w7 → w7.cell? ⟨b1, o1 + i * 2, none⟩ = some (.int .i64 to)) := fun w7 k => L7.out w7 (D8.2.2.trans k)
            clear NX HQ HZ hq hy D0 D8 L7
            rename Hid (∀ w7, Below w.heap.size (wr.drew.alloc (.cells (mC (to, v)).toArray 46)) w7 → _) => L7
            simp only [Option.isSome_none] at *
            go_wp2
            refine wp_region_N (fun w' => w'.cell? ⟨w.heap.size, 0, none⟩ = some (.slice Av a.length Cv) ∧ w'.cell? ⟨b1, o1 + i * 2, none⟩ = some (.int .i64 to)) (fun k => decide (k < 10)) mixed (S0.out) ?_
            intro SS
            refine wpAnyN_take (i := 0) (v := .slice Av a.length Cv) rfl (by kernel_rfl) (by kernel_rfl) (by kernel_rfl) (by kernel_rfl) (fun _ _ _ h => h) (Or.inl ⟨by rfl, ?_⟩) SS ?_
            · intro w' hS'
              obtain ⟨h0, h1⟩ := hS'
              go_simp
            (try simp only [Act.put, List.getElem_toArray, List.getElem_cons_zero, List.setIfInBounds_toArray, List.set_cons_zero, List.set_cons_succ])
            refine wpAnyN_take (i := 1) (v := .slice (some ⟨b1, o1, none⟩) l.length C) rfl (by kernel_rfl) (by kernel_rfl) (by kernel_rfl) (by kernel_rfl) (fun _ _ _ h => h) (Or.inl ⟨by rfl, ?_⟩) SS ?_
            · intro w' hS'
              obtain ⟨h0, h1⟩ := hS'
              go_simp
            (try simp only [Act.put, List.getElem_toArray, List.getElem_cons_succ, List.getElem_cons_zero, List.setIfInBounds_toArray, List.set_cons_zero, List.set_cons_succ])
            refine wpAnyN_take (i := 2) (v := .int .i64 (i : Int)) rfl (by kernel_rfl) (by kernel_rfl) (by kernel_rfl) (by kernel_rfl) (fun _ _ _ h => h) (Or.inl ⟨by rfl, ?_⟩) SS ?_
            · intro w' hS'
              obtain ⟨h0, h1⟩ := hS'
              go_simp
            (try simp only [Act.put, List.getElem_toArray, List.getElem_cons_succ, List.getElem_cons_zero, List.setIfInBounds_toArray, List.set_cons_zero, List.set_cons_succ])
            refine wpAnyN_take (i := 3) (v := .pointer (some ⟨b1, o1 + i * 2, none⟩)) rfl (by kernel_rfl) (by kernel_rfl) (by kernel_rfl) (by kernel_rfl) (fun _ _ _ h => h) (Or.inl ⟨by rfl, ?_⟩) SS ?_
            · intro w' hS'
              obtain ⟨h0, h1⟩ := hS'
              go_simp
            (try simp only [Act.put, List.getElem_toArray, List.getElem_cons_succ, List.getElem_cons_zero, List.setIfInBounds_toArray, List.set_cons_zero, List.set_cons_succ])
            refine wpAnyN_take (i := 4) (v := .pointer (some ⟨b1, o1 + i * 2, none⟩)) rfl (by kernel_rfl) (by kernel_rfl) (by kernel_rfl) (by kernel_rfl) (fun _ _ _ h => h) (Or.inl ⟨by rfl, ?_⟩) SS ?_
            · intro w' hS'
              obtain ⟨h0, h1⟩ := hS'
              go_simp
            (try simp only [Act.put, List.getElem_toArray, List.getElem_cons_succ, List.getElem_cons_zero, List.setIfInBounds_toArray, List.set_cons_zero, List.set_cons_succ])
            refine wpAnyN_take (i := 5) (v := .int .i64 to) rfl (by kernel_rfl) (by kernel_rfl) (by kernel_rfl) (by kernel_rfl) (fun _ _ _ h => h) (Or.inl ⟨by rfl, ?_⟩) SS ?_
            · intro w' hS'
              obtain ⟨h0, h1⟩ := hS'
              go_simp
            (try simp only [Act.put, List.getElem_toArray, List.getElem_cons_succ, List.getElem_cons_zero, List.setIfInBounds_toArray, List.set_cons_zero, List.set_cons_succ])
            refine wpAnyN_take (i := 6) (v := .int .i64 v) rfl (by kernel_rfl) (by kernel_rfl) (by kernel_rfl) (by kernel_rfl) (fun _ _ _ h => h) (Or.inl ⟨by rfl, ?_⟩) SS ?_
            · intro w' hS'
              obtain ⟨h0, h1⟩ := hS'
              go_simp
            (try simp only [Act.put, List.getElem_toArray, List.getElem_cons_succ, List.getElem_cons_zero, List.setIfInBounds_toArray, List.set_cons_zero, List.set_cons_succ])
            refine wpAnyN_take (i := 7) (v := .agg #[.int .i64 to, .int .i64 v]) rfl (by kernel_rfl) (by kernel_rfl) (by kernel_rfl) (by kernel_rfl) (fun _ _ _ h => h) (Or.inl ⟨by rfl, ?_⟩) SS ?_
            · intro w' hS'
              obtain ⟨h0, h1⟩ := hS'
              go_simp
            (try simp only [Act.put, List.getElem_toArray, List.getElem_cons_succ, List.getElem_cons_zero, List.setIfInBounds_toArray, List.set_cons_zero, List.set_cons_succ])
            refine wpAnyN_one (i := 8) (by kernel_rfl) rfl (fun K hK => ?_)
            go_simp
            refine hK _ _ (fun h => S8.out) ?_
            clear hK K
            (try simp only [Act.put, List.getElem_toArray, List.getElem_cons_succ, List.getElem_cons_zero, List.setIfInBounds_toArray, List.set_cons_zero, List.set_cons_succ])
            refine wpAnyN_one (i := 9) (by kernel_rfl) rfl (fun K hK => ?_)
            rw [if_pos (by rfl)]
            refine OwnB.appendN 44 46 mC _ 2 16 infoHd Try.underlying44 rfl (by decide) (by decide) mC_len mC_one _ _ _ rfl (.slice Av a.length Cv) (by rfl) (w.heap.size + 1) a [(to, v)] O8.out ⟨wr.drew.heap.size, 0, none⟩ 1 (by rfl) (fun j u hj => cells_new _ (mC (to, v)) 46 j u (by simpa using hj)) (by simp; omega) ?_
            intro v7 w7 ho hb7 hk7 hv7
            obtain ⟨AA, CC, ev7, -⟩ := OwnB.shape mC_len ho
            have ev8 : v7 = .slice AA (a.length + 1) CC := by
              rw [ev7]
              simp
            clear ev7
            subst ev8
            have A7 : At w7 w.heap.size #[.slice Av a.length Cv] 44 := A8.out.below hb7 (by omega)
            have c7 := A7.cell 0
            have f7 := A7.frozen 0
            have FIN : Hid (AH w (a ++ [(to, v)]) (.slice AA (a.length + 1) CC) (w7.setCell ⟨w.heap.size, 0, none⟩ (.slice AA (a.length + 1) CC))) := ⟨A7.set (j := 0) _, OwnB.set ho (by omega) _, (B8.out.trans (hb7.mono (by omega))).trans ((Kp.setc w7 w.heap.size 0 (.slice AA (a.length + 1) CC)).below (by have := A7.lt; omega) (fun b hb => by omega))⟩
            refine hK _ _ (fun _ => ⟨A7.cell 0, L7.out w7 (hb7.mono (by omega))⟩) ?_
            clear hK K ho hb7 hk7 hv7 A7
            (try simp only [Act.put, List.getElem_toArray, List.getElem_cons_succ, List.getElem_cons_zero, List.setIfInBounds_toArray, List.set_cons_zero, List.set_cons_succ])
            refine wpAnyN_one (i := 10) (by kernel_rfl) rfl (fun K hK => ?_)
            go_simp
            refine hK _ _ (fun h => by cases h) ?_
            clear hK K
            (try simp only [Act.put, List.getElem_toArray, List.getElem_cons_succ, List.getElem_cons_zero, List.setIfInBounds_toArray, List.set_cons_zero, List.set_cons_succ])
            refine wpAnyN_done (by kernel_rfl) ?_ _
            go_wp2
            go_roundw
            case rel => exact ⟨i + 1, a ++ [(to, v)], _, by omega, by go_num, FIN.out, FN.out, by have := HLN.out; simp; omega⟩
            case measure => simp [intOf]; omega
        | cons m b =>
          obtain ⟨mx, my⟩ := m
          obtain ⟨Av, Cv, ev, hsh⟩ := OwnB.shape mC_len ha.2.1
          obtain ⟨B, rfl, hB, hB2, hC, hrows⟩ := hsh (by rw [List.length_append, List.length_cons]; omega)
          subst ev
          obtain ⟨B', o', e', -, c3, c4⟩ := row_mid hrows
          cases e'
          simp only [Nat.zero_add] at c3 c4
          have f4 : wr.frozen? ⟨B, a.length * 2 + 1, none⟩ = false := by
            obtain ⟨_, cs, hcs⟩ := OwnB.at ha.2.1 (b := B) rfl
            exact hcs.frozen _
          have hkz : (a.length : Int) < ((a ++ (mx, my) :: b).length : Int) := by simp; omega
          have hll : (a ++ (mx, my) :: b).length ≤ 5000 := by omega
          clear ha hz hln hrows hsh hC
          by_cases e : mx = to
          · subst e
            have q : (mx == mx) = true := by simp
            have LA : Hid (lk (a ++ [(mx, v)]) mx = some v) := (show _ = _ by
              rw [lk_app]
              cases hy : lk a mx with
              | some u => rw [HQ.out u hy]
              | none => simp [lk])
            have ZZ : Hid (∀ z, z ≠ mx → lk (a ++ [(mx, v)] ++ b) z = lk hh z) := fun z hz => by
              have e : ¬ mx = z := fun h => hz h.symm
              rw [← HZ.out z hz, List.append_assoc, lk_app a, lk_app a]
              simp only [List.cons_append, List.nil_append, lk, if_neg e]
            have AS : Hid (∀ wz, Below wr.heap.size wr wz → AH w (a ++ [(mx, v)] ++ b) (.slice (some ⟨B, 0, none⟩) (a ++ (mx, my) :: b).length Cv) (wz.setCell ⟨B, a.length * 2 + 1, none⟩ (.int .i64 v))) := fun wz k => by
              have := AH.set (v := v) (A1.out.below k) hB
              simpa using this
            have LN2 : Hid ((a ++ [(mx, v)] ++ b).length = hh.length) := (show _ = _ by rw [← HLN.out]; simp)
            clear HQ HZ hq HR RN A1
            generalize hNL : (a ++ (mx, my) :: b).length = NL at *
            go_wp2
            go_quiet (fail)
            go_wp2
            go_roundw
            case rel => exact ⟨a ++ [(mx, v)], b, by simp; try go_num, by rw [LA.out]; rfl, fun q hq => (by rw [LA.out] at hq; cases hq; rfl), AS.out _ (drewN_below _ _), LN2.out, ZZ.out⟩
            case measure => have hx9 := HLN.out; simp [intOf]; omega
          · have q : (mx == to) = false := by simpa using e
            have LA : Hid (lk (a ++ [(mx, my)]) to = lk a to) := (show _ = _ by
              rw [lk_app]
              cases lk a to <;> simp [lk, e])
            have AS : Hid (AH w (a ++ [(mx, my)] ++ b) (.slice (some ⟨B, 0, none⟩) (a ++ (mx, my) :: b).length Cv) wr) := (show AH w (a ++ [(mx, my)] ++ b) (.slice (some ⟨B, 0, none⟩) (a ++ (mx, my) :: b).length Cv) wr by have := A1.out; simpa using this)
            have ZZ : Hid (∀ z, z ≠ to → lk (a ++ [(mx, my)] ++ b) z = lk hh z) := fun z hz => by
              rw [← HZ.out z hz]; simp
            have LN2 : Hid ((a ++ [(mx, my)] ++ b).length = hh.length) := (show _ = _ by rw [← HLN.out]; simp)
            clear HZ hq HR RN A1 e
            generalize hNL : (a ++ (mx, my) :: b).length = NL at *
            go_wp2
            go_quiet (fail)
            go_wp2
            go_roundw
            case rel => exact ⟨a ++ [(mx, my)], b, by simp; try go_num, by rw [LA.out], fun q hq => (by rw [LA.out] at hq; exact HQ.out q hq), AS.out.below (drewN_below _ _), LN2.out, ZZ.out⟩
            case measure => have hx9 := HLN.out; simp [intOf]; omega
    · have hiz : ¬ (i : Int) < l.length := by omega
      have LK := look_c w wr hh hv x ha (by omega)
      rw [hrun x, List.take_of_length_le hge] at LK
      have L1 : Hid (Calls Try.prog 18 #[.int .i64 x, .pointer (some ⟨w.heap.size, 0, none⟩)] wr fun e w' => e = .returned (.int .i64 (runM l id x)) ∧ w' = wr) := LK
      have BB : Hid (Below w.heap.size w wr) := ha.2.2
      clear LK hrun ha
      go_wp2_with (go_at_call 18; refine L1.out.mono ?_; rintro e w3 ⟨rfl, hw⟩; rw [hw]; clear hw w3)
      go_ret
      exact ⟨rfl, BB.out⟩
end Go.Proofs.Ytoagebclnaggjaa
