/-
  Proved: a step keeps what holds of low's machine.
-/
import Derived.Test.YtapgaclonilnbaaDoorLwf
import Derived.Test.YtapgaclonilnbaaDoorLent
namespace Go.Proofs.YtapgaclonilnbaaDoor
set_option linter.unusedVariables false
set_option linter.unusedSimpArgs false

section
variable {l : List Lf} {m : Mc} {c : Cl}

theorem fnO_get (l : List Lf) (k : Nat) (h : k < l.length) : fnO l k = l[k] := by unfold fnO; rw [List.getD_eq_getElem?_getD, List.getElem?_eq_getElem h]; rfl
theorem ck_fn (hc : chk l = true) {k : Nat} (h : k < l.length) : formB (fnO l k) = true ∧ blocksB l (fnO l k) = true := by
  obtain ⟨_, h2, h3⟩ := chk_parts hc
  rw [fnO_get l k h]
  exact ⟨h2 _ (List.getElem_mem h), h3 _ (List.getElem_mem h)⟩
theorem form_parts {f : Lf} (h : formB f = true) : 0 < f.bs.length ∧ (0 ≤ f.rg ∧ f.rg ≤ 65536) ∧ (0 ≤ f.fr ∧ f.fr ≤ 65536) ∧ (0 ≤ f.an ∧ f.an ≤ 8) ∧ f.pa.length ≤ 8 := by
  unfold formB upB at h
  simp only [Bool.and_eq_true, decide_eq_true_eq] at h
  omega
theorem ck_blk (hc : chk l = true) (h : CW l c) : (∀ x ∈ (blkO l c).li, instrB l (fnO l c.fn).rg x = true) ∧ termB (fnO l c.fn).rg (fnO l c.fn).an (fnO l c.fn).bs.length (blkO l c).tm = true := by
  have h2 := (ck_fn hc h.fn).2
  unfold blocksB at h2
  simp only [Bool.and_eq_true, List.all_eq_true] at h2
  have e : blkO l c = (fnO l c.fn).bs[c.bk]'h.bk := by unfold blkO; rw [List.getD_eq_getElem?_getD, List.getElem?_eq_getElem h.bk]; rfl
  have := h2.2 (blkO l c) (by rw [e]; exact List.getElem_mem _)
  unfold blockB at this
  simp only [Bool.and_eq_true, List.all_eq_true] at this
  exact this
theorem CW.rgz (hc : chk l = true) (h : CW l c) : ((c.rg.length : Nat) : Int) = (fnO l c.fn).rg := by
  have := (form_parts (ck_fn hc h.fn).1).2.1
  rw [h.rg]
  omega
theorem CW.frz (hc : chk l = true) (h : CW l c) : c.fr.length ≤ 65536 := by
  have := (form_parts (ck_fn hc h.fn).1).2.2.1
  rw [h.fr]
  omega

theorem I32_0 : I32 0 := by unfold I32; omega
theorem CW.cw (h : CW l c) (r : Int) : I32 (cw c r) := by
  unfold Go.Proofs.YtapgaclonilnbaaDoor.cw
  split
  · exact I32_0
  · split
    · exact wd_in _
    · exact h.rI _
theorem CW.set (h : CW l c) (r v : Int) (hr : r.toNat < c.rg.length) (hv : I32 v) : CW l (setR c r v) := by
  refine ⟨h.fn, h.bk, by simp [setR, h.rg], h.fr, h.nx, fun i => ?_, h.fI⟩
  show I32 ((c.rg.set r.toNat v).getD i 0)
  rw [getD_set _ _ _ _ hr]
  unfold pu
  split
  · exact hv
  · exact h.rI i
theorem CW.sets (h : CW l c) : ∀ (rs vs : List Int), (∀ r ∈ rs, r.toNat < c.rg.length) → (∀ v ∈ vs, I32 v) → CW l (setsR c rs vs) := by
  intro rs
  induction rs generalizing c with
  | nil => intro vs _ _; cases vs <;> exact h
  | cons r rs ih =>
    intro vs hr hv
    cases vs with
    | nil => exact h
    | cons v vs =>
      have h2 := h.set r v (hr r (List.mem_cons_self ..)) (hv v (List.mem_cons_self ..))
      exact ih h2 vs (fun r hr2 => by have := hr r (List.mem_cons_of_mem _ hr2); simpa [setR] using this) fun v hv2 => hv v (List.mem_cons_of_mem _ hv2)
theorem CW.setF (h : CW l c) (k : Nat) (v : Int) (hk : k < c.fr.length) (hv : I32 v) : CW l (Go.Proofs.YtapgaclonilnbaaDoor.setF c k v) := by
  refine ⟨h.fn, h.bk, h.rg, by simp [Go.Proofs.YtapgaclonilnbaaDoor.setF, h.fr], h.nx, h.rI, fun i => ?_⟩
  show I32 ((c.fr.set k v).getD i 0)
  rw [getD_set _ _ _ _ hk]
  unfold pu
  split
  · exact hv
  · exact h.fI i

theorem dov_in (s : ByteArray) (a b : Int) (ha : I32 a) (hb : I32 b) : I32 (dov s a b) := by
  obtain ⟨f, D⟩ := dop_all s
  exact D.low a b ha.1 ha.2 hb.1 hb.2

theorem WF.setN (h : WF l m) (r v : Int) (hr : r.toNat < m.nw.rg.length) (hv : I32 v) : WF l (Go.Proofs.YtapgaclonilnbaaDoor.setN m r v) := h.nw (h.cw.set r v hr hv) rfl rfl

theorem ldS_set (l : List Lf) (x : Cl) : ∀ (a : List Cl) (i : Nat) (h : i < a.length), x.fn = a[i].fn → ldS l (a.set i x) = ldS l a
  | [], i, h, _ => by simp at h
  | c :: a, 0, h, e => by
    have e : x.fn = c.fn := e
    simp only [List.set_cons_zero, ldS, ldC, e]
  | c :: a, i + 1, h, e => by
    simp only [List.set_cons_succ, ldS]
    rw [ldS_set l x a i (by simpa using h) (by simpa using e)]

theorem WF.stF (h : WF l m) (i k : Nat) (v : Int) (hi : i ≤ m.bl.length) (hk : k < (callAt m i).fr.length) (hv : I32 v) : WF l (stL m v (some i, k)) := by
  by_cases e : i < m.bl.length
  · have em : stL m v (some i, k) = { m with bl := m.bl.set i (Go.Proofs.YtapgaclonilnbaaDoor.setF (callAt m i) k v) } := if_pos e
    rw [em]
    have el : (m.bl.set i (Go.Proofs.YtapgaclonilnbaaDoor.setF (callAt m i) k v)).length = m.bl.length := by simp
    have ea : ∀ j, j ≤ m.bl.length → callAt { m with bl := m.bl.set i (Go.Proofs.YtapgaclonilnbaaDoor.setF (callAt m i) k v) } j = if i = j then Go.Proofs.YtapgaclonilnbaaDoor.setF (callAt m i) k v else callAt m j := fun j hj => by
      rcases Nat.lt_or_ge j m.bl.length with e2 | e2
      · rw [at_lt _ j (by show j < (m.bl.set _ _).length; omega)]
        show (m.bl.set i _)[j] = _
        rw [List.getElem_set]
        split
        · rfl
        · rw [at_lt m j e2]
      · obtain rfl : j = m.bl.length := by omega
        rw [if_neg (by omega), at_nw]
        have := at_nw { m with bl := m.bl.set i (Go.Proofs.YtapgaclonilnbaaDoor.setF (callAt m i) k v) }
        rwa [show ({ m with bl := m.bl.set i (Go.Proofs.YtapgaclonilnbaaDoor.setF (callAt m i) k v) } : Mc).bl.length = m.bl.length from el] at this
    have fr : ∀ j, j ≤ m.bl.length → (callAt { m with bl := m.bl.set i (Go.Proofs.YtapgaclonilnbaaDoor.setF (callAt m i) k v) } j).fr.length = (callAt m j).fr.length ∧ (callAt { m with bl := m.bl.set i (Go.Proofs.YtapgaclonilnbaaDoor.setF (callAt m i) k v) } j).ba = (callAt m j).ba := fun j hj => by
      rw [ea j hj]
      split
      · rename_i e3; subst e3; simp [Go.Proofs.YtapgaclonilnbaaDoor.setF]
      · exact ⟨rfl, rfl⟩
    refine ⟨fun j hj => ?_, fun j hj => ?_, by rw [(fr 0 (by omega)).2]; exact h.b0, fun j hj => ?_, by show (m.bl.set _ _).length ≤ 391; rw [el]; exact h.n, ?_, h.wo⟩
    · have hj : j ≤ m.bl.length := by rw [← el]; exact hj
      rw [ea j hj]
      split
      · exact (h.c i (by omega)).setF k v hk hv
      · exact h.c j hj
    · have hj : j < m.bl.length := by rw [← el]; exact hj
      have := h.k j hj
      rw [ea j (by omega), ea (j + 1) (by omega)]
      obtain ⟨q, h1, h2, h3, h4⟩ := this
      have e5 : (if i = j + 1 then Go.Proofs.YtapgaclonilnbaaDoor.setF (callAt m i) k v else callAt m (j + 1)).fn = (callAt m (j + 1)).fn := by
        split
        · rename_i e3; rw [e3]; rfl
        · rfl
      unfold Lk
      rw [e5]
      split
      · rename_i e3; subst e3; exact ⟨q, h1, h2, h3, h4⟩
      · exact ⟨q, h1, h2, h3, h4⟩
    · have hj : j < m.bl.length := by rw [← el]; exact hj
      rw [(fr (j + 1) (by omega)).2, (fr j (by omega)).1, (fr j (by omega)).2]
      exact h.bs j hj
    · show m.ld = ldS l (m.bl.set i _ ++ [m.nw])
      rw [ldS_app, ldS_set l _ m.bl i e (by show (callAt m i).fn = _; rw [at_lt m i e]), ← ldS_app]
      exact h.ld
  · obtain rfl : i = m.bl.length := by omega
    rw [at_nw] at hk
    have em : stL m v (some m.bl.length, k) = { m with nw := Go.Proofs.YtapgaclonilnbaaDoor.setF m.nw k v } := if_neg e
    rw [em]
    exact h.nw (h.cw.setF k v hk hv) rfl rfl

theorem WF.ld32 (h : WF l m) (p : Option Nat × Nat) : I32 (ldL m p) := by
  obtain ⟨o, k⟩ := p
  cases o with
  | none => exact h.wo k
  | some i =>
    show I32 ((callAt m i).fr.getD k 0)
    rcases Nat.lt_or_ge i (m.bl.length + 1) with e | e
    · exact (h.c i (by omega)).fI k
    · have : callAt m i = m.nw := by unfold callAt; rw [List.getD_eq_getElem?_getD, List.getElem?_eq_none (by omega)]; rfl
      rw [this]
      exact h.cw.fI k
end
end Go.Proofs.YtapgaclonilnbaaDoor
