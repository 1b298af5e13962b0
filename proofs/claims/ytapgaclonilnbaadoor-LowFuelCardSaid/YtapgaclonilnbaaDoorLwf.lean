/-
  Proved: what holds of low's machine at each step, as plain mathematics.
-/
import Derived.Test.YtapgaclonilnbaaDoorLw5
namespace Go.Proofs.YtapgaclonilnbaaDoor
set_option linter.unusedVariables false
set_option linter.unusedSimpArgs false

/-- A call that is as it must be. -/
structure CW (l : List Lf) (c : Cl) : Prop where
  fn : c.fn < l.length
  bk : c.bk < (fnO l c.fn).bs.length
  rg : c.rg.length = (fnO l c.fn).rg.toNat
  fr : c.fr.length = (fnO l c.fn).fr.toNat
  nx : c.nx ≤ (blkO l c).li.length
  rI : ∀ i, I32 (c.rg.getD i 0)
  fI : ∀ i, I32 (c.fr.getD i 0)

/-- A call that was called by another one. -/
def Lk (l : List Lf) (c c' : Cl) : Prop := ∃ j, c.nx = j + 1 ∧ j < (blkO l c).li.length ∧ ((blkO l c).li.getD j noLo).op = 7 ∧ byN l ((blkO l c).li.getD j noLo).tx.data.toList = some (c'.fn : Int)

def ldC (l : List Lf) (c : Cl) : Int := if (fnO l c.fn).qu then 0 else 1
def ldS (l : List Lf) : List Cl → Int
  | [] => 0
  | c :: cs => ldC l c + ldS l cs

structure WF (l : List Lf) (m : Mc) : Prop where
  c : ∀ i, i ≤ m.bl.length → CW l (callAt m i)
  k : ∀ i, i < m.bl.length → Lk l (callAt m i) (callAt m (i + 1))
  b0 : (callAt m 0).ba = 1234567892
  bs : ∀ i, i < m.bl.length → (callAt m (i + 1)).ba = (callAt m i).ba + 4 * (((callAt m i).fr.length : Int) + 64)
  n : m.bl.length ≤ 391
  ld : m.ld = ldS l (m.bl ++ [m.nw])
  wo : ∀ k, I32 (m.wo k)

theorem at_nw (m : Mc) : callAt m m.bl.length = m.nw := by unfold callAt; rw [List.getD_eq_getElem?_getD, List.getElem?_eq_none (Nat.le_refl _)]; rfl
theorem at_lt (m : Mc) (i : Nat) (h : i < m.bl.length) : callAt m i = m.bl[i] := by unfold callAt; rw [List.getD_eq_getElem?_getD, List.getElem?_eq_getElem h]; rfl
theorem at_eq {m m' : Mc} (e : m'.bl = m.bl) (i : Nat) (h : i < m.bl.length) : callAt m' i = callAt m i := by
  rw [at_lt m i h, at_lt m' i (by rw [e]; exact h)]
  simp only [e]
theorem at_same {m m' : Mc} (e : m'.bl = m.bl) (e2 : m'.nw = m.nw) (i : Nat) : callAt m' i = callAt m i := by
  unfold callAt
  rw [e, e2]

theorem ldS_app (l : List Lf) : ∀ (a b : List Cl), ldS l (a ++ b) = ldS l a + ldS l b
  | [], b => by simp [ldS]
  | c :: a, b => by simp only [List.cons_append, ldS, ldS_app l a b]; omega
theorem ldS_in (l : List Lf) : ∀ (a : List Cl), 0 ≤ ldS l a ∧ ldS l a ≤ a.length
  | [] => by simp [ldS]
  | c :: a => by
    have := ldS_in l a
    simp only [ldS, List.length_cons]
    unfold ldC
    split <;> omega

section
variable {l : List Lf} {m : Mc}

theorem WF.ldb (h : WF l m) : 0 ≤ m.ld ∧ m.ld ≤ 392 := by
  have := ldS_in l (m.bl ++ [m.nw])
  have hn := h.n
  rw [h.ld]
  simp at this
  omega

theorem WF.cw (h : WF l m) : CW l m.nw := by have := h.c m.bl.length (Nat.le_refl _); rwa [at_nw] at this

theorem WF.ba (h : WF l m) (hf : ∀ i, i ≤ m.bl.length → (callAt m i).fr.length ≤ 65536) : ∀ i, i ≤ m.bl.length → 1234567892 ≤ (callAt m i).ba ∧ (callAt m i).ba ≤ 1234567892 + 262400 * (i : Int)
  | 0, _ => by rw [h.b0]; omega
  | i + 1, hi => by
    have := WF.ba h hf i (by omega)
    have e := h.bs i (by omega)
    have := hf i (by omega)
    rw [e]
    omega
theorem WF.up (h : WF l m) : ∀ i j, i ≤ j → j ≤ m.bl.length → (callAt m i).ba ≤ (callAt m j).ba := by
  intro i j hij
  obtain ⟨d, rfl⟩ : ∃ d, j = i + d := ⟨j - i, by omega⟩
  clear hij
  induction d with
  | zero => intro _; exact Int.le_refl _
  | succ d ih =>
    intro hj
    have e := h.bs (i + d) (by omega)
    have := ih (by omega)
    rw [show i + (d + 1) = i + d + 1 by omega, e]
    omega

/-- The last call turns, but for its function and its frame's place. -/
theorem WF.nw (h : WF l m) {c : Cl} (hc : CW l c) (e1 : c.fn = m.nw.fn) (e2 : c.ba = m.nw.ba) : WF l { m with nw := c } := by
  have ea : ∀ i, i < m.bl.length → callAt { m with nw := c } i = callAt m i := fun i hi => at_eq (m := m) (m' := { m with nw := c }) rfl i hi
  have en : callAt { m with nw := c } m.bl.length = c := at_nw { m with nw := c }
  refine ⟨fun i hi => ?_, fun i hi => ?_, ?_, fun i hi => ?_, h.n, ?_, h.wo⟩
  · have hi : i ≤ m.bl.length := hi
    rcases Nat.lt_or_ge i m.bl.length with e | e
    · rw [ea i e]; exact h.c i hi
    · obtain rfl : i = m.bl.length := by omega
      rw [en]; exact hc
  · have hi : i < m.bl.length := hi
    rw [ea i hi]
    rcases Nat.lt_or_ge (i + 1) m.bl.length with e | e
    · rw [ea _ e]; exact h.k i hi
    · have e3 : i + 1 = m.bl.length := by omega
      have := h.k i hi
      rw [e3, at_nw] at this
      rw [e3, en]
      obtain ⟨j, h1, h2, h3, h4⟩ := this
      exact ⟨j, h1, h2, h3, by rw [e1]; exact h4⟩
  · rcases Nat.lt_or_ge 0 m.bl.length with e | e
    · rw [ea 0 e]; exact h.b0
    · have e3 : m.bl.length = 0 := by omega
      have h0 := h.b0
      rw [← e3, at_nw] at h0
      rw [← e3, en, e2]
      exact h0
  · have hi : i < m.bl.length := hi
    rw [ea i hi]
    rcases Nat.lt_or_ge (i + 1) m.bl.length with e | e
    · rw [ea _ e]; exact h.bs i hi
    · have e3 : i + 1 = m.bl.length := by omega
      have := h.bs i hi
      rw [e3, at_nw] at this
      rw [e3, en, e2]
      exact this
  · have := h.ld
    rw [ldS_app] at this ⊢
    rw [this]
    simp only [ldS, ldC, e1]

/-- What hangs on no call turns. -/
theorem WF.rest (h : WF l m) (us : Nat → Nat → Bool) (wo : Nat → Int) (ip out : List Int) (hw : ∀ k, I32 (wo k)) : WF l { m with us := us, wo := wo, ip := ip, out := out } :=
  ⟨fun i hi => h.c i hi, fun i hi => h.k i hi, h.b0, fun i hi => h.bs i hi, h.n, h.ld, hw⟩

/-- One call more. -/
theorem WF.push (h : WF l m) {c : Cl} (hc : CW l c) (hk : Lk l m.nw c) (hb : c.ba = m.nw.ba + 4 * ((m.nw.fr.length : Int) + 64)) (hn : m.bl.length + 1 ≤ 391) : WF l { m with bl := m.bl ++ [m.nw], nw := c, ld := m.ld + ldC l c } := by
  have el : (m.bl ++ [m.nw]).length = m.bl.length + 1 := by simp
  have ea : ∀ i, i ≤ m.bl.length → callAt { m with bl := m.bl ++ [m.nw], nw := c, ld := m.ld + ldC l c } i = callAt m i := fun i hi => by
    have hi2 : i < (m.bl ++ [m.nw]).length := by rw [el]; omega
    rw [at_lt _ i hi2]
    show (m.bl ++ [m.nw])[i] = _
    rcases Nat.lt_or_ge i m.bl.length with e | e
    · rw [at_lt m i e, List.getElem_append_left e]
    · obtain rfl : i = m.bl.length := by omega
      rw [at_nw]; simp
  have en : callAt { m with bl := m.bl ++ [m.nw], nw := c, ld := m.ld + ldC l c } (m.bl.length + 1) = c := by
    have := at_nw { m with bl := m.bl ++ [m.nw], nw := c, ld := m.ld + ldC l c }
    rwa [show ({ m with bl := m.bl ++ [m.nw], nw := c, ld := m.ld + ldC l c } : Mc).bl.length = m.bl.length + 1 from el] at this
  refine ⟨fun i hi => ?_, fun i hi => ?_, by rw [ea 0 (by omega)]; exact h.b0, fun i hi => ?_, by show (m.bl ++ [m.nw]).length ≤ 391; omega, ?_, h.wo⟩
  · have hi : i ≤ (m.bl ++ [m.nw]).length := hi
    rcases Nat.lt_or_ge i (m.bl.length + 1) with e | e
    · rw [ea i (by omega)]; exact h.c i (by omega)
    · obtain rfl : i = m.bl.length + 1 := by omega
      rw [en]; exact hc
  · have hi : i < (m.bl ++ [m.nw]).length := hi
    rw [ea i (by omega)]
    rcases Nat.lt_or_ge i m.bl.length with e | e
    · rw [ea _ (by omega)]; exact h.k i e
    · obtain rfl : i = m.bl.length := by omega
      rw [en, at_nw]; exact hk
  · have hi : i < (m.bl ++ [m.nw]).length := hi
    rw [ea i (by omega)]
    rcases Nat.lt_or_ge i m.bl.length with e | e
    · rw [ea _ (by omega)]; exact h.bs i e
    · obtain rfl : i = m.bl.length := by omega
      rw [en, at_nw]; exact hb
  · show m.ld + ldC l c = ldS l ((m.bl ++ [m.nw]) ++ [c])
    rw [ldS_app, ← h.ld]
    simp [ldS]

/-- One call less; the one that called it has turned, but for its function and its frame's place. -/
theorem WF.pop (h : WF l m) {bl : List Cl} {c c' : Cl} (hbl : m.bl = bl ++ [c]) (hc : CW l c') (e1 : c'.fn = c.fn) (e2 : c'.ba = c.ba) : WF l { m with bl := bl, nw := c', ld := m.ld - ldC l m.nw } := by
  have el : m.bl.length = bl.length + 1 := by rw [hbl]; simp
  have ec : callAt m bl.length = c := by rw [at_lt m _ (by omega)]; simp only [hbl]; simp
  have ea : ∀ i, i < bl.length → callAt { m with bl := bl, nw := c', ld := m.ld - ldC l m.nw } i = callAt m i := fun i hi => by
    rw [at_lt m i (by omega), at_lt _ i hi]
    simp only [hbl]
    rw [List.getElem_append_left hi]
  have en : callAt { m with bl := bl, nw := c', ld := m.ld - ldC l m.nw } bl.length = c' := at_nw _
  have hn := h.n
  refine ⟨fun i hi => ?_, fun i hi => ?_, ?_, fun i hi => ?_, by show bl.length ≤ 391; omega, ?_, h.wo⟩
  · have hi : i ≤ bl.length := hi
    rcases Nat.lt_or_ge i bl.length with e | e
    · rw [ea i e]; exact h.c i (by omega)
    · obtain rfl : i = bl.length := by omega
      rw [en]; exact hc
  · have hi : i < bl.length := hi
    have hk := h.k i (by omega)
    rw [ea i hi]
    rcases Nat.lt_or_ge (i + 1) bl.length with e | e
    · rw [ea _ e]; exact hk
    · have e3 : i + 1 = bl.length := by omega
      rw [e3, ec] at hk
      rw [e3, en]
      obtain ⟨j, h1, h2, h3, h4⟩ := hk
      exact ⟨j, h1, h2, h3, by rw [e1]; exact h4⟩
  · rcases Nat.lt_or_ge 0 bl.length with e | e
    · rw [ea 0 e]; exact h.b0
    · have e3 : bl.length = 0 := by omega
      have h0 := h.b0
      rw [← e3, ec] at h0
      rw [← e3, en, e2]; exact h0
  · have hi : i < bl.length := hi
    have hk := h.bs i (by omega)
    rw [ea i hi]
    rcases Nat.lt_or_ge (i + 1) bl.length with e | e
    · rw [ea _ e]; exact hk
    · have e3 : i + 1 = bl.length := by omega
      rw [e3, ec] at hk
      rw [e3, en, e2]; exact hk
  · show m.ld - ldC l m.nw = ldS l (bl ++ [c'])
    have := h.ld
    rw [hbl, ldS_app, ldS_app] at this
    rw [ldS_app, this]
    simp only [ldS, ldC, e1]
    omega
end
end Go.Proofs.YtapgaclonilnbaaDoor
