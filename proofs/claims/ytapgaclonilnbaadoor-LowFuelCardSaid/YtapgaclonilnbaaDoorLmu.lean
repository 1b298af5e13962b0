/-
  Proved: what is left of the machine in memory when one of its cells turns: steps, input, loud calls, words of the heap's blocks and of frames, where a call stands.
-/
import Derived.Test.YtapgaclonilnbaaDoorLms
namespace Go.Proofs.YtapgaclonilnbaaDoor
open Go.RowKit
set_option linter.unusedVariables false
set_option linter.unusedSimpArgs false

section
variable {X : Cx} {m : Mc} {st : Int} {L : Ly} {w w' : World}
/-- The steps. -/
theorem MS.steps (h : MS X m st L w) (n : Int) : MS X m n L (w.setCell ⟨X.R, 4, none⟩ (.int .i64 n)) := by
  have q := h.turn h.ro.r 4 (.int .i64 n)
  refine ⟨h.tb, q.bz (by show ¬ _ = _; omega), h.hl, q.mp (by show ¬ _ = _; omega), ?_, q.hh (fun c hc => by show ¬ _ = _; omega), q.cc (by show ¬ _ = _; omega), q.pp (by show ¬ _ = _; omega), h.ii, fun i hi => q.kb i hi (by show ¬ _ = _; omega) (by show ¬ _ = _; omega) (by show ¬ _ = _; omega), ⟨q.ns (by show ¬ _ = _; omega), q.nr (by show ¬ _ = _; omega), q.nf (by show ¬ _ = _; omega)⟩, h.ro, h.zz⟩
  refine (GZ.set h.rr 4 (by omega) _).ext fun i hi => ?_
  unfold pu
  by_cases e : i = 4
  · subst e; rfl
  · rw [if_neg e]
    rcases i with _ | _ | _ | _ | _ | _ | _ | _ | _ | _ | i <;> first | rfl | omega

/-- The input. -/
theorem MS.inp (h : MS X m st L w) (l : List Int) (v : Value) (hv : InpIn X.wz l v) : MS X { m with ip := l } st { L with iv := v } (w.setCell ⟨X.R, 2, none⟩ v) := by
  have q := h.turn h.ro.r 2 v
  refine ⟨h.tb, q.bz (by show ¬ _ = _; omega), h.hl, q.mp (by show ¬ _ = _; omega), ?_, q.hh (fun c hc => by show ¬ _ = _; omega), q.cc (by show ¬ _ = _; omega), q.pp (by show ¬ _ = _; omega), hv, fun i hi => q.kb i hi (by show ¬ _ = _; omega) (by show ¬ _ = _; omega) (by show ¬ _ = _; omega), ⟨q.ns (by show ¬ _ = _; omega), q.nr (by show ¬ _ = _; omega), q.nf (by show ¬ _ = _; omega)⟩, ⟨h.ro.r, h.ro.h, h.ro.g, h.ro.c, h.ro.p, h.ro.m, h.ro.s⟩, h.zz⟩
  refine (GZ.set h.rr 2 (by omega) _).ext fun i hi => ?_
  unfold pu
  by_cases e : i = 2
  · subst e; rfl
  · rw [if_neg e]
    rcases i with _ | _ | _ | _ | _ | _ | _ | _ | _ | _ | i <;> first | rfl | omega

/-- Loud calls. -/
theorem MS.loud (h : MS X m st L w) (n : Int) : MS X { m with ld := n } st L (w.setCell ⟨X.R, 8, none⟩ (.int .i64 n)) := by
  have q := h.turn h.ro.r 8 (.int .i64 n)
  refine ⟨h.tb, q.bz (by show ¬ _ = _; omega), h.hl, q.mp (by show ¬ _ = _; omega), ?_, q.hh (fun c hc => by show ¬ _ = _; omega), q.cc (by show ¬ _ = _; omega), q.pp (by show ¬ _ = _; omega), h.ii, fun i hi => q.kb i hi (by show ¬ _ = _; omega) (by show ¬ _ = _; omega) (by show ¬ _ = _; omega), ⟨q.ns (by show ¬ _ = _; omega), q.nr (by show ¬ _ = _; omega), q.nf (by show ¬ _ = _; omega)⟩, h.ro, h.zz⟩
  refine (GZ.set h.rr 8 (by omega) _).ext fun i hi => ?_
  unfold pu
  by_cases e : i = 8
  · subst e; rfl
  · rw [if_neg e]
    rcases i with _ | _ | _ | _ | _ | _ | _ | _ | _ | _ | i <;> first | rfl | omega

/-- A word of the heap's blocks. -/
theorem MS.word (h : MS X m st L w) (k : Nat) (hk : k < 2816) (v : Int) : MS X (stL m v (none, k)) st L (w.setCell ⟨X.R, 10 + k, none⟩ (.int .i32 v)) := by
  have q := h.turn h.ro.r (10 + k) (.int .i32 v)
  refine ⟨h.tb, q.bz (by show ¬ _ = _; omega), h.hl, q.mp (by show ¬ _ = _; omega), ?_, q.hh (fun c hc => by show ¬ _ = _; omega), q.cc (by show ¬ _ = _; omega), q.pp (by show ¬ _ = _; omega), h.ii, fun i hi => q.kb i hi (by show ¬ _ = _; omega) (by show ¬ _ = _; omega) (by show ¬ _ = _; omega), ⟨q.ns (by show ¬ _ = _; omega), q.nr (by show ¬ _ = _; omega), q.nf (by show ¬ _ = _; omega)⟩, h.ro, h.zz⟩
  refine (GZ.set h.rr (10 + k) (by omega) _).ext fun i hi => ?_
  unfold pu
  rcases i with _ | _ | _ | _ | _ | _ | _ | _ | _ | _ | i
  iterate 10 (rw [if_neg (by omega)]; rfl)
  show (if i + 10 = 10 + k then _ else Value.int .i32 (m.wo i)) = Value.int .i32 (if i = k then v else m.wo i)
  by_cases e : i = k
  · subst e; rw [if_pos (by omega), if_pos rfl]
  · rw [if_neg (by omega), if_neg e]

theorem getD_set (l : List Int) (k i : Nat) (v : Int) (hk : k < l.length) : (l.set k v).getD i 0 = pu (fun i => l.getD i 0) k v i := by
  unfold pu
  by_cases e : i = k
  · subst e; simp [hk]
  · rw [if_neg e]
    have e3 : ¬ k = i := fun h => e h.symm
    simp [List.getD_eq_getElem?_getD, List.getElem?_set, e3]

/-- A frame's word. -/
theorem CallIn.fset {c : Cl} {pb rb fb : Nat} (s : GZ 85 w' pb 6 (clF X c rb fb)) (r : WZ w' rb c.rg.length fun i => c.rg.getD i 0) (f : WZ w fb c.fr.length fun i => c.fr.getD i 0) (k : Nat) (hk : k < c.fr.length) (v : Int) (e : w' = w.setCell ⟨fb, k, none⟩ (.int .i32 v)) : CallIn X (setF c k v) pb rb fb w' := by
  have el : (setF c k v).fr.length = c.fr.length := by simp [setF]
  refine ⟨s.ext fun i hi => ?_, r, ?_⟩
  · rcases i with _ | _ | _ | _ | _ | _ | i <;> first | rfl | (show Value.slice _ c.fr.length c.fr.length = Value.slice _ (setF c k v).fr.length (setF c k v).fr.length; rw [el]; done) | omega
  · subst e
    refine WZ.ext (f := pu (fun i => c.fr.getD i 0) k v) ?_ fun i hi => ?_
    · rw [el]
      exact f.set k hk v
    · exact (getD_set _ _ _ _ hk).symm

/-- A word of a frame. -/
theorem MS.frame (h : MS X m st L w) (i : Nat) (hi : i ≤ m.bl.length) (k : Nat) (hk : k < (callAt m i).fr.length) (v : Int) : MS X (stL m v (some i, k)) st L (w.setCell ⟨L.fb i, k, none⟩ (.int .i32 v)) := by
  have q := h.turn (h.ro.s i (by omega)).2.2 k (.int .i32 v)
  by_cases e : i < m.bl.length
  · have ec : callAt m i = m.bl[i] := by unfold callAt; rw [List.getD_eq_getElem?_getD, List.getElem?_eq_getElem e]; rfl
    have em : stL m v (some i, k) = { m with bl := m.bl.set i (setF (callAt m i) k v) } := if_pos e
    rw [em]
    have el : (m.bl.set i (setF (callAt m i) k v)).length = m.bl.length := by simp
    refine ⟨h.tb, q.bz (by show ¬ _ = _; omega), h.hl, q.mp (by show ¬ _ = _; omega), ?_, q.hh (fun c hc => by show ¬ _ = _; omega), ?_, q.pp (by show ¬ _ = _; omega), h.ii, fun j hj => ?_, ?_, ?_, h.zz⟩
    · show GZ _ _ _ _ (rnF X _ st L.cv L.pv L.iv (L.pb (m.bl.set i (setF (callAt m i) k v)).length))
      rw [el]
      exact q.rr (by show ¬ _ = _; omega)
    · show OwnB _ _ _ _ ((List.range ((m.bl.set i (setF (callAt m i) k v)).length + 1)).map L.pb) _ _
      rw [el]
      exact q.cc (by show ¬ _ = _; omega)
    · have hj2 : j < m.bl.length := by simpa using hj
      show CallIn X ((m.bl.set i (setF (callAt m i) k v))[j]'hj) _ _ _ _
      rw [List.getElem_set]
      by_cases e2 : i = j
      · subst e2
        rw [if_pos rfl, ec]
        have hc := h.kb i e
        have k2 := q
        have kk := h.kb i e
        refine CallIn.fset (w := w) ?_ ?_ kk.f k (by rw [← ec]; exact hk) v rfl
        · exact kk.s.kp (Kp.set (F := fun b => b = L.fb i) w k _ rfl) fun e3 => by
            have r := h.ro.s i (by omega)
            rw [e3] at r
            omega
        · exact GZ.kp kk.r (Kp.set (F := fun b => b = L.fb i) w k _ rfl) fun e3 => by
            have r := h.ro.s i (by omega)
            rw [e3] at r
            omega
      · rw [if_neg e2]
        exact q.kb j hj2 (by show ¬ _ = _; omega) (by show ¬ _ = _; omega) (by show ¬ _ = _; omega)
    · show CallIn X m.nw (L.pb (m.bl.set i (setF (callAt m i) k v)).length) (L.rb (m.bl.set i (setF (callAt m i) k v)).length) (L.fb (m.bl.set i (setF (callAt m i) k v)).length) _
      rw [el]
      exact ⟨q.ns (by show ¬ _ = _; omega), q.nr (by show ¬ _ = _; omega), q.nf (by show ¬ _ = _; omega)⟩
    · show Ros X L ((m.bl.set i (setF (callAt m i) k v)).length + 1)
      rw [el]
      exact h.ro
  · obtain rfl : i = m.bl.length := by omega
    have ec : callAt m m.bl.length = m.nw := by unfold callAt; rw [List.getD_eq_getElem?_getD, List.getElem?_eq_none (Nat.le_refl _)]; rfl
    have em : stL m v (some m.bl.length, k) = { m with nw := setF m.nw k v } := if_neg e
    rw [em]
    rw [ec] at hk
    exact ⟨h.tb, q.bz (by show ¬ _ = _; omega), h.hl, q.mp (by show ¬ _ = _; omega), q.rr (by show ¬ _ = _; omega), q.hh (fun c hc => by show ¬ _ = _; omega), q.cc (by show ¬ _ = _; omega), q.pp (by show ¬ _ = _; omega), h.ii, fun i hi => q.kb i hi (by have hi : i < m.bl.length := hi; show ¬ _ = _; omega) (by have hi : i < m.bl.length := hi; show ¬ _ = _; omega) (by have hi : i < m.bl.length := hi; show ¬ _ = _; omega), CallIn.fset (w := w) (q.ns (by show ¬ _ = _; omega)) (q.nr (by show ¬ _ = _; omega)) h.now.f k hk v rfl, h.ro, h.zz⟩

/-- Where the last call stands. -/
theorem MS.stand (h : MS X m st L w) (bk nx : Nat) (k : Kp (fun b => L.ro b = 10 + 3 * m.bl.length) w w') (g : GZ 85 w' (L.pb m.bl.length) 6 (clF X { m.nw with bk := bk, nx := nx } (L.rb m.bl.length) (L.fb m.bl.length))) : MS X { m with nw := { m.nw with bk := bk, nx := nx } } st L w' := by
  have q := h.stay (P := fun x => x = 10 + 3 * m.bl.length) k
  exact ⟨h.tb, q.bz (by show ¬ _ = _; omega), h.hl, q.mp (by show ¬ _ = _; omega), q.rr (by show ¬ _ = _; omega), q.hh (fun c hc => by show ¬ _ = _; omega), q.cc (by show ¬ _ = _; omega), q.pp (by show ¬ _ = _; omega), h.ii, fun i hi => q.kb i hi (by have hi : i < m.bl.length := hi; show ¬ _ = _; omega) (by have hi : i < m.bl.length := hi; show ¬ _ = _; omega) (by have hi : i < m.bl.length := hi; show ¬ _ = _; omega), ⟨g, q.nr (by show ¬ _ = _; omega), q.nf (by show ¬ _ = _; omega)⟩, h.ro, h.zz⟩

/-- The heap. -/
theorem MS.heap (h : MS X m st L w) (us : Nat → Nat → Bool) (hu : HIn w' X.hb X.g us) (k : Kp (Gs X.g) w w') : MS X { m with us := us } st L w' := by
  have q := h.stay (P := fun x => 2 ≤ x ∧ x ≤ 5) (k.mono fun b hb => by
    obtain ⟨c, hc, rfl⟩ := hb
    show 2 ≤ L.ro (X.g c) ∧ L.ro (X.g c) ≤ 5
    rw [h.ro.g c hc]; omega)
  exact ⟨h.tb, q.bz (by show ¬ (_ ∧ _); omega), h.hl, q.mp (by show ¬ (_ ∧ _); omega), q.rr (by show ¬ (_ ∧ _); omega), hu, q.cc (by show ¬ (_ ∧ _); omega), q.pp (by show ¬ (_ ∧ _); omega), h.ii, fun i hi => q.kb i hi (by show ¬ (_ ∧ _); omega) (by show ¬ (_ ∧ _); omega) (by show ¬ (_ ∧ _); omega), ⟨q.ns (by show ¬ (_ ∧ _); omega), q.nr (by show ¬ (_ ∧ _); omega), q.nf (by show ¬ (_ ∧ _); omega)⟩, h.ro, h.zz⟩
end
end Go.Proofs.YtapgaclonilnbaaDoor
