/-
  Proved: what the machine's functions answer that read, or make memory alone: where the next frame lies, the words of several registers.
-/
import Derived.Test.YtapgaclonilnbaaDoorLw1
namespace Go.Proofs.YtapgaclonilnbaaDoor
open Go.RowKit
set_option linter.unusedVariables false
set_option linter.unusedSimpArgs false

theorem drw {B m : Nat} {w w' : World} (h : Below B w w') : Below B w (w'.drewN m) := ⟨h.os, h.tape, h.output, h.size, h.block⟩

theorem ptC_len (a : Nat) : (ptC a).length = 1 := rfl
theorem noC_len (a : Int) : (noC a).length = 1 := rfl

set_option maxHeartbeats 1000000 in
theorem room_c {X : Cx} {m : Mc} {st : Int} {L : Ly} {w : World} (h : MS X m st L w) (hf : m.nw.fr.length ≤ 65536) : Calls Tryd.prog 24 #[.pointer (some ⟨X.R, 0, none⟩)] w fun e w' => e = .returned (.int .u32 (roomB m)) ∧ Below w.heap.size w w' := by
  have c6 := h.rr.cell 6 (by omega)
  have c7 := h.rr.cell 7 (by omega)
  simp only [rnF] at c6 c7
  have c3 := h.now.s.cell 3 (by omega)
  have c2 := h.now.s.cell 2 (by omega)
  simp only [clF] at c3 c2
  obtain ⟨A, C, ev, -⟩ := OwnB.shape ptC_len h.cc
  rw [ev] at c6
  simp only [List.length_map, List.length_range] at c6
  unfold roomB
  clear h ev
  generalize m.nw.ba = ba at *
  generalize m.nw.fr.length = n at *
  generalize m.bl.length = k at *
  generalize L.pb k = pb at *
  generalize L.fb k = fb at *
  have hz : ¬ ((k : Int) + 1 = 0) := by omega
  have hn : IntKind.i64.wrap ((n : Int) + 64) = (n : Int) + 64 := by rw [IntKind.wrap_i64]; omega
  go_enter Tryd.func24, Tryd.ntmps24
  go_wp2
  go_quiet (fail)
  go_wp2
  go_ret
  exact ⟨rfl, drw (Below.refl _ _)⟩

theorem getD_map_cw (c : Cl) (l : List Int) (k : Nat) (h : k < l.length) : (l.map (cw c)).getD k 0 = cw c l[k] := by
  rw [List.getD_eq_getElem?_getD, List.getElem?_map, List.getElem?_eq_getElem h]; rfl

set_option maxHeartbeats 2000000 in
theorem all_c {X : Cx} {c : Cl} {pb rb fb : Nat} {w : World} (h : CallIn X c pb rb fb w) (l : List Int) (v : Value) (hl : NosIn w l v) (h8 : l.length ≤ 100000) (hr : ∀ r ∈ l, rdB c.rg.length r = true) :
    Calls Tryd.prog 40 #[.pointer (some ⟨pb, 0, none⟩), v] w fun e w' => e = .returned (.slice (some ⟨w.heap.size, 0, none⟩) l.length l.length) ∧ Below w.heap.size w w' ∧ WZ w' w.heap.size l.length fun i => (l.map (cw c)).getD i 0 := by
  obtain ⟨hl0, A, C, rfl, hn⟩ := hl.cells
  have HN : Hid (∀ i (h : i < l.length), ∃ b o, A = some ⟨b, o, none⟩ ∧ b < w.heap.size ∧ w.cell? ⟨b, o + i, none⟩ = some (.int .i64 l[i])) := hn
  have HC : Hid (CallIn X c pb rb fb w) := h
  have HR : Hid (∀ r ∈ l, rdB c.rg.length r = true) := hr
  have HM : Hid (∀ i (h : i < l.length), (l.map (cw c)).getD i 0 = cw c l[i]) := fun i h => getD_map_cw c l i h
  have hmk := make_w l.length h8 w
  have HW : Hid (WZ (w.alloc (.cells (madeCells #[.int .i32 0] l.length) 21)) w.heap.size l.length fun _ => 0) := WZ.made w l.length
  have HB : Hid (Below w.heap.size w (w.alloc (.cells (madeCells #[.int .i32 0] l.length) 21))) := below_alloc _ _
  clear hn hl h hr
  generalize w.alloc (.cells (madeCells #[.int .i32 0] l.length) 21) = w1 at *
  go_enter Tryd.func40, Tryd.ntmps40
  go_wp2
  clear hmk
  go_loopw [13] (fun i wr => ∃ k : Nat, k ≤ l.length ∧ i = .int .i64 (k : Int) ∧ Below w.heap.size w wr ∧ WZ wr w.heap.size l.length fun j => if j < k then (l.map (cw c)).getD j 0 else 0) (fun i _ => l.length - (intOf i).toNat)
  case atStart => exact ⟨0, by omega, rfl, HB.out, HW.out.ext fun j _ => by simp⟩
  case round =>
    obtain ⟨k, hk, rfl, hB, hZ⟩ := hrel
    have BB : Hid (Below w.heap.size w wr) := hB
    have ZZ : Hid (WZ wr w.heap.size l.length fun j => if j < k then (l.map (cw c)).getD j 0 else 0) := hZ
    clear hB hZ
    rcases Nat.lt_or_ge k l.length with hk' | hk'
    · have hkz : (k : Int) < l.length := by omega
      obtain ⟨b, o, rfl, hb, h0⟩ := HN.out k hk'
      have c0 : wr.cell? ⟨b, o + k, none⟩ = some (.int .i64 l[k]) := (BB.out.cell (p := ⟨b, o + k, none⟩) hb).trans h0
      have WD : Hid (Calls Tryd.prog 38 #[.pointer (some ⟨pb, 0, none⟩), .int .i64 l[k]] wr fun e w' => e = .returned (.int .i32 (cw c l[k])) ∧ w' = wr) :=
        cword_c (HC.out.below BB.out) l[k] (by have := HR.out l[k] (List.getElem_mem _); unfold bgB; rw [this]; simp)
      have ez := GZ.cell ZZ.out k hk'
      have fz := GZ.frozen ZZ.out k
      have hM := HM.out k hk'
      have Z2 : Hid (WZ (wr.setCell ⟨w.heap.size, k, none⟩ (.int .i32 (cw c l[k]))) w.heap.size l.length fun j => if j < k + 1 then (l.map (cw c)).getD j 0 else 0) := (ZZ.out.set k hk' _).ext fun j hj => by
        unfold pu
        by_cases e : j = k
        · subst e; simp only [if_true, Nat.lt_succ_self, hM]
        · rw [if_neg e]
          show (if j < k then (l.map (cw c)).getD j 0 else 0) = _
          by_cases e2 : j < k
          · rw [if_pos e2, if_pos (by omega)]
          · rw [if_neg e2, if_neg (by omega)]
      have B2 : Hid (Below w.heap.size w (wr.setCell ⟨w.heap.size, k, none⟩ (.int .i32 (cw c l[k])))) := BB.out.setCell (Nat.le_refl _) _
      clear h0 hM
      simp only [Nat.lt_irrefl, if_false] at ez
      generalize cw c l[k] = y at *
      generalize l[k] = x at *
      go_wp2_with (go_at_call 38; refine (WD.out).mono ?_; rintro e w1 ⟨rfl, hw⟩; rw [hw]; clear hw w1)
      go_roundw
      case rel => exact ⟨k + 1, by omega, by go_num, B2.out, Z2.out⟩
      case measure => simp [intOf]; omega
    · have hkz : ¬ (k : Int) < l.length := by omega
      obtain rfl : k = l.length := by omega
      go_wp2
      go_ret
      exact ⟨rfl, BB.out, ZZ.out.ext fun j hj => (show (if j < l.length then (l.map (cw c)).getD j 0 else 0) = _ from by rw [if_pos hj]; simp)⟩
end Go.Proofs.YtapgaclonilnbaaDoor
