/-
  Proved: how a run begins; what is printed grows by one a step at most; the machine beside a box that lies behind it.
-/
import Derived.Test.YtapgaclonilnbaaDoorLgs
import Derived.Test.YtapgaclonilnbaaDoorLnew
import Derived.Test.YtapgaclonilnbaaDoorLfull
namespace Go.Proofs.YtapgaclonilnbaaDoor
open Go.RowKit
set_option linter.unusedVariables false
set_option linter.unusedSimpArgs false

theorem stL_out (m : Mc) (v : Int) : ∀ p, (stL m v p).out = m.out
  | (none, _) => rfl
  | (some i, _) => by unfold stL; dsimp only; split <;> rfl

theorem enter_out {l : List Lf} {m m' : Mc} {k : Nat} {vs : List Int} (e : enterS l m k vs = .inl m') : m'.out = m.out := by
  unfold enterS at e
  split at e
  · cases e
  · have e := inl_inj e
    subst e
    rfl

theorem instr_out {l : List Lf} {m m' : Mc} {x : Lo} (e : instrS l m x = .inl m') : m'.out.length ≤ m.out.length + 1 := by
  unfold instrS at e
  by_cases h1 : x.op = 1
  · simp [h1] at e; subst e; simp [setN]
  by_cases h2 : x.op = 2
  · simp [h2] at e; subst e; simp [setN]
  by_cases h3 : x.op = 3
  · simp [h3] at e; subst e; simp [setN]
  by_cases h4 : x.op = 4
  · simp [h4] at e; subst e; simp [setN]
  by_cases h5 : x.op = 5
  · simp [h5] at e
    split at e
    · cases e
    · have e := inl_inj e; subst e; simp [setN]
  by_cases h6 : x.op = 6
  · simp [h6] at e
    split at e
    · cases e
    · have e := inl_inj e; subst e; rw [stL_out]; omega
  by_cases h7 : x.op = 7
  · simp [h7] at e
    rw [enter_out e]; omega
  by_cases h8 : x.op = 8
  · simp [h8] at e; subst e; simp
  by_cases h9 : x.op = 9
  · simp [h9] at e; subst e; simp [setN]
  by_cases h10 : x.op = 10
  · simp [h10] at e
    split at e
    · have e := inl_inj e; subst e; simp [setN]
    · cases e
  by_cases h11 : x.op = 11
  · simp [h11] at e
    split at e
    · have e := inl_inj e; subst e; simp
    · cases e
  simp [h1, h2, h3, h4, h5, h6, h7, h8, h9, h10, h11] at e
  subst e
  omega

theorem term_out {l : List Lf} {m m' : Mc} {t : Le} (e : termS l m t = .inl m') : m'.out = m.out := by
  unfold termS at e
  by_cases h1 : t.k = 1
  · simp [h1] at e; subst e; rfl
  by_cases h2 : t.k = 2
  · simp [h2] at e; subst e; rfl
  by_cases h3 : t.k = 3
  · simp [h3] at e
    split at e
    · cases e
    · rename_i m2 hm
      have e := inl_inj e
      subst e
      unfold leaveS at hm
      simp only at hm
      split at hm
      · cases hm
      · have hm := Option.some.inj hm
        subst hm
        rfl
  simp [h1, h2, h3] at e

theorem step_out {l : List Lf} {m m' : Mc} (e : stepS l m = .inl m') : m'.out.length ≤ m.out.length + 1 := by
  unfold stepS at e
  split at e
  · rw [term_out e]; omega
  · have := instr_out e
    exact this

theorem begin_ok {l : List Lf} (hc : chk l = true) (k : Nat) (hk : k < l.length) (ip : List Int) : WF l (beginM l k ip) := by
  have hw := new_cw hc k hk 1234567892 [] (by simp)
  have hf : (newC l k 1234567892 []).fn = k := (setsR_same _ _ _).1
  have hb : (newC l k 1234567892 []).ba = 1234567892 := (setsR_same _ _ _).2.2.1
  have e0 : ∀ i, callAt (beginM l k ip) i = newC l k 1234567892 [] := fun i => by unfold callAt beginM; simp
  refine ⟨fun i hi => by rw [e0]; exact hw, fun i hi => absurd hi (by show ¬ i < 0; omega), by rw [e0]; exact hb, fun i hi => absurd hi (by show ¬ i < 0; omega), by show 0 ≤ 391; omega, ?_, fun k => I32_0⟩
  show (if (fnO l k).qu then (0 : Int) else 1) = ldS l ([] ++ [newC l k 1234567892 []])
  simp only [List.nil_append, ldS, ldC, hf]
  omega

section
variable {X : Cx} {z : Mh} {nv : Value} {st : Int} {L : Ly} {w w' : World}

set_option maxHeartbeats 1000000 in
theorem room0_c (h : MX X z nv st L w) (hz : z.cs = []) : Calls Tryd.prog 24 #[.pointer (some ⟨X.R, 0, none⟩)] w fun e w' => e = .returned (.int .u32 1234567892) ∧ Below w.heap.size w w' := by
  have c6 : w.cell? ⟨X.R, 6, none⟩ = some L.cv := h.rr.cell 6 (by omega)
  obtain ⟨A, C, ev, -⟩ := OwnB.shape ptC_len h.cc
  rw [ev] at c6
  simp only [List.length_map, List.length_range, hz, List.length_nil] at c6
  clear h ev hz
  go_enter Tryd.func24, Tryd.ntmps24
  go_wp2
  go_ret
  exact ⟨rfl, Below.refl _ _⟩

/-- The machine without a call, beside a new box. -/
theorem MX.boxed (h : MX X z nv st L w) (hz : z.cs = []) (o : Obj) : MX { X with xb := w.heap.size, xo := (w.alloc o).heap[w.heap.size]? } z nv st { L with ro := fun b => if b = w.heap.size then 8 else L.ro b } (w.alloc o) := by
  obtain ⟨l1, l2, l3, l4, l5⟩ := h.lts
  have q := h.below (below_alloc w o)
  have old : ∀ b, b < w.heap.size → (if b = w.heap.size then 8 else L.ro b) = L.ro b := fun b hb => if_neg (by omega)
  refine ⟨q.tb, q.bz, q.hl, ⟨q.mp.1, rfl, by have := (below_alloc w o).size; simp⟩, q.rr, q.hh, q.cc, q.pp, q.ii, fun i hi => absurd hi (by rw [hz]; simp), ?_, fun b hb => (old b (by have := h.bz.size; have hb : b < X.wz.heap.size := hb; omega)).trans (h.zz b hb)⟩
  exact ⟨(old _ l1).trans h.ro.r, (old _ l3).trans h.ro.h, fun c hc => (old _ (l4 c hc)).trans (h.ro.g c hc), fun b hb => (old b (by obtain ⟨_, cs, ha⟩ := h.cc.at hb; exact ha.lt)).trans (h.ro.c b hb), fun b hb => (old b (by obtain ⟨_, cs, ha⟩ := h.pp.at hb; exact ha.lt)).trans (h.ro.p b hb), ⟨(old _ l2).trans h.ro.m.1, if_pos rfl⟩, fun i hi => absurd hi (by rw [hz]; simp)⟩

/-- What is left of a run. -/
def EndR (X : Cx) (out : List Int) (st : Int) (w' : World) : Prop :=
  ∃ pv, w'.cell? ⟨X.R, 4, none⟩ = some (.int .i64 st) ∧ w'.cell? ⟨X.R, 5, none⟩ = some pv ∧ OwnB 3 1 noC X.wz.heap.size out pv w' ∧ Below X.wz.heap.size X.wz w'

theorem MX.ended (h : MX X z nv st L w) : EndR X z.out st w := ⟨L.pv, h.rr.cell 4 (by omega), h.rr.cell 5 (by omega), h.pp, h.bz⟩
theorem MX.ended2 (h : MX X z nv st L w) (a b : Value) (i j : Nat) : EndR X z.out st ((w.setCell ⟨X.xb, i, none⟩ a).setCell ⟨X.xb, j, none⟩ b) := by
  have k : Kp (fun b => L.ro b = 8) w ((w.setCell ⟨X.xb, i, none⟩ a).setCell ⟨X.xb, j, none⟩ b) := (Kp.set (F := fun c => L.ro c = 8) w i _ h.ro.m.2).trans (Kp.set (F := fun c => L.ro c = 8) _ j _ h.ro.m.2)
  have q := h.stay (P := fun x => x = 8) k
  have r := q.rr (by show ¬ _ = _; omega)
  exact ⟨L.pv, r.cell 4 (by omega), r.cell 5 (by omega), q.pp (by show ¬ _ = _; omega), q.bz (by show ¬ _ = _; omega)⟩
end
end Go.Proofs.YtapgaclonilnbaaDoor
