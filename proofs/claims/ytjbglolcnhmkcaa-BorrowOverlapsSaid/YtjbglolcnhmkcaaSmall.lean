/-
  Proved: the small functions: isStep, stepOf, parts, far.
-/
import Derived.Test.YtjbglolcnhmkcaaPlaces
import Derived.BigQuiet
import Derived.Deep.QuietTactic
import Derived.Deep.RegionHeld3
namespace Go.Proofs.Ytjbglolcnhmkcaa
open Go.RowKit

theorem below_drew (w : World) : Below w.heap.size w w.drew := (Below.refl _ _).drew

theorem cell_new {W : World} {a : Addr} {v : Value} (o : Obj) (h : W.cell? a = some v) : (W.alloc o).cell? a = some v := ((below_alloc W o).cell (World.block_lt_of_cell? _ _ h)).trans h

/-- A new block whose first three cells were written. -/
theorem below_res (w : World) (o : Obj) (x y z : Value) : Below w.heap.size w (((((w.alloc o).drew).setCell ⟨w.heap.size, 0, none⟩ x).setCell ⟨w.heap.size, 1, none⟩ y).setCell ⟨w.heap.size, 2, none⟩ z) :=
  ((((below_alloc w o).drew).setCell (Nat.le_refl _) _).setCell (Nat.le_refl _) _).setCell (Nat.le_refl _) _
theorem below_res0 (w : World) (o : Obj) (x y z : Value) : Below w.heap.size w ((((w.alloc o).setCell ⟨w.heap.size, 0, none⟩ x).setCell ⟨w.heap.size, 1, none⟩ y).setCell ⟨w.heap.size, 2, none⟩ z) :=
  (((below_alloc w o).setCell (Nat.le_refl _) _).setCell (Nat.le_refl _) _).setCell (Nat.le_refl _) _

theorem isStep_c (k : Int) (w : World) : Calls Try.prog 13 #[.int .i64 k] w fun e w' => e = .returned (.bool (isSt k)) ∧ w' = w := by
  by_cases h1 : k = 12
  · subst h1
    go_enter Try.func13, Try.ntmps13
    go_wp2
    go_ret
    exact ⟨rfl, rfl⟩
  · have g1 : (k == 12) = false := by simpa using h1
    by_cases h2 : k = 13
    · subst h2
      go_enter Try.func13, Try.ntmps13
      go_wp2
      go_ret
      exact ⟨rfl, rfl⟩
    · have g2 : (k == 13) = false := by simpa using h2
      by_cases h3 : k = 7
      · subst h3
        go_enter Try.func13, Try.ntmps13
        go_wp2
        go_ret
        exact ⟨rfl, rfl⟩
      · have g3 : (k == 7) = false := by simpa using h3
        have g : isSt k = false := by simp [isSt, h1, h2, h3]
        rw [g]
        go_enter Try.func13, Try.ntmps13
        go_wp2
        go_ret
        exact ⟨rfl, rfl⟩

/-- A tree, by a pointer. -/
def PtIn (w : World) (x : X) (v : Value) : Prop := ∃ b o cs, v = .pointer (some ⟨b, o, none⟩) ∧ RowAt w b o cs ∧ XIn w x cs

theorem PtIn.below {w w' : World} {x : X} {v : Value} (h : PtIn w x v) (k : Below w.heap.size w w') : PtIn w' x v := by
  obtain ⟨b, o, cs, e, h1, h2⟩ := h
  exact ⟨b, o, cs, e, h1.below k, h2.stays k⟩

/-- A step's cells. -/
def cst (s : Int × Int × Bool) : Array Value := #[.int .i64 s.1, .int .i64 s.2.1, .bool s.2.2]

set_option maxHeartbeats 1000000 in
theorem stepOf_c (x : X) (v : Value) (w : World) (h : PtIn w x v) : Calls Try.prog 11 #[v] w fun e w' => e = .returned (.agg (cst (stp x))) ∧ Below w.heap.size w w' := by
  obtain ⟨b, o, cs, rfl, hr, hx⟩ := h
  obtain ⟨k, n, s, ks, ts⟩ := x
  obtain ⟨at', A, C, B, D, p, q, r, Z, zl, zc, rfl, hks, _⟩ := hx.inv
  have c0 := hr.2 0 _ rfl
  have c2 := hr.2 2 _ rfl
  have c4 := hr.2 4 _ rfl
  have hb := hr.1
  simp only [Nat.add_zero] at c0
  clear hr hx
  by_cases h1 : k = 12
  · subst h1
    clear hks
    go_enter Try.func11, Try.ntmps11
    go_wp2
    go_region_held3 (fun w' => w'.cell? ⟨b, o, none⟩ = some (.int .i64 12) ∧ w'.cell? ⟨b, o + 2, none⟩ = some (.int .i64 n)) (exact ⟨cell_new _ c0, cell_new _ c2⟩) (fail)
    go_wp2
    refine bodyPost_ret (v := .agg #[.int .i64 12, .int .i64 n, .bool true]) (by simp [results, Try.results11, go_sem]) rfl ⟨rfl, ?_⟩
    first | exact below_res w _ _ _ _ | exact below_res0 w _ _ _ _ | exact (below_alloc _ _).drew | exact below_alloc _ _ | exact Below.refl _ _
  · have g1 : (k == 12) = false := by simpa using h1
    by_cases h2 : k = 13
    · subst h2
      by_cases hlen : 1 < ks.length
      · have hlen' : (1 : Int) < (ks.length : Int) := by omega
        obtain ⟨b1, o1, cs1, rfl, hr1, hx1⟩ := hks.2 1 hlen
        have hl := hks.1
        have hst : stp (.mk 13 n s ks ts) = if (ks[1]'hlen).k = 1 then ((13 : Int), (ks[1]'hlen).n, true) else ((13 : Int), (0 : Int), false) := by
          match ks, hlen with
          | _ :: e :: _, _ => simp [stp]
        rw [hst]
        generalize ks[1]'hlen = e at hx1
        obtain ⟨k1, n1, s1, ks1, ts1⟩ := e
        obtain ⟨at1, A1, C1, B1, D1, p1, q1, r1, Z1, zl1, zc1, rfl, _, _⟩ := hx1.inv
        have d0 := hr1.2 0 _ rfl
        have d2 := hr1.2 2 _ rfl
        have hb1 := hr1.1
        simp only [Nat.add_zero, Nat.one_mul] at d0 d2
        clear hr1 hx1 hks hst
        by_cases h3 : k1 = 1
        · subst h3
          go_enter Try.func11, Try.ntmps11
          go_wp2
          go_region_held3 (fun w' => w'.cell? ⟨b, o, none⟩ = some (.int .i64 13) ∧ w'.cell? ⟨b, o + 4, none⟩ = some (.slice (some ⟨b1, o1, none⟩) ks.length C) ∧ w'.cell? ⟨b1, o1 + 10 + 2, none⟩ = some (.int .i64 n1)) (exact ⟨cell_new _ c0, cell_new _ c4, cell_new _ d2⟩) (fail)
          go_wp2
          refine bodyPost_ret (v := .agg #[.int .i64 13, .int .i64 n1, .bool true]) (by simp [results, Try.results11, go_sem]) rfl ⟨rfl, ?_⟩
          first | exact below_res w _ _ _ _ | exact below_res0 w _ _ _ _ | exact (below_alloc _ _).drew | exact below_alloc _ _ | exact Below.refl _ _
        · have g3 : (k1 == 1) = false := by simpa using h3
          simp only [h3, if_false]
          go_enter Try.func11, Try.ntmps11
          go_wp2
          refine bodyPost_ret (v := .agg #[.int .i64 13, .int .i64 0, .bool false]) (by simp [results, Try.results11, go_sem]) rfl ⟨rfl, ?_⟩
          first | exact below_res w _ _ _ _ | exact below_res0 w _ _ _ _ | exact (below_alloc _ _).drew | exact below_alloc _ _ | exact Below.refl _ _
      · have hlen' : ¬ (1 : Int) < (ks.length : Int) := by omega
        have hst : stp (.mk 13 n s ks ts) = (13, 0, false) := by
          match ks, hlen with
          | [], _ => rfl
          | [_], _ => rfl
          | _ :: _ :: _, h => simp at h
        rw [hst]
        clear hks hst
        go_enter Try.func11, Try.ntmps11
        go_wp2
        refine bodyPost_ret (v := .agg #[.int .i64 13, .int .i64 0, .bool false]) (by simp [results, Try.results11, go_sem]) rfl ⟨rfl, ?_⟩
        first | exact below_res w _ _ _ _ | exact below_res0 w _ _ _ _ | exact (below_alloc _ _).drew | exact below_alloc _ _ | exact Below.refl _ _
    · have g2 : (k == 13) = false := by simpa using h2
      have hst : stp (.mk k n s ks ts) = (k, 0, false) := by
        match ks with
        | [] => simp [stp, h1]
        | [_] => simp [stp, h1]
        | _ :: _ :: _ => simp [stp, h1, h2]
      rw [hst]
      clear hks hst
      go_enter Try.func11, Try.ntmps11
      go_wp2
      refine bodyPost_ret (v := .agg #[.int .i64 k, .int .i64 0, .bool false]) (by simp [results, Try.results11, go_sem]) rfl ⟨rfl, ?_⟩
      first | exact below_res w _ _ _ _ | exact below_res0 w _ _ _ _ | exact (below_alloc _ _).drew | exact below_alloc _ _ | exact Below.refl _ _

end Go.Proofs.Ytjbglolcnhmkcaa
