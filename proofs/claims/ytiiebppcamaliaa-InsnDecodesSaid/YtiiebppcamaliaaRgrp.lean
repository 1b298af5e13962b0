/-
  Proved: what the reference's group answers: rows of one form, one behind the other.
-/
import Derived.Test.YtiiebppcamaliaaItab
import Derived.Test.YtiiebppcamaliaaPn
namespace Go.Proofs.Ytiiebppcamaliaa
open Go.RowKit
set_option linter.unusedVariables false
set_option linter.unusedSimpArgs false

theorem mixedR : Try.prog.follows .mixedOrders = true := by kernel_rfl

/-- A row of the reference's table. -/
structure RR where
  n : ByteArray
  fm : ByteArray
  op : Int
  f3 : Int
  f7 : Int
def rrC (y : RR) : List Value := [.string y.n, .string y.fm, .int .i64 y.op, .int .i64 y.f3, .int .i64 y.f7]
theorem rr_len (y : RR) : (rrC y).length = 5 := rfl
theorem rr_one (y : RR) : ∀ u ∈ rrC y, u.oneCell' = true := by
  intro u hu
  simp only [rrC, List.mem_cons, List.not_mem_nil, or_false] at hu
  rcases hu with rfl | rfl | rfl | rfl | rfl <;> rfl
theorem infoR : (Try.prog.info? 57).map (fun i => (i.zero, i.size, i.bytes)) = some (some (.agg #[.string ⟨#[]⟩, .string ⟨#[]⟩, .int .i64 0, .int .i64 0, .int .i64 0]), 5, 56) := by kernel_rfl

theorem new_cells (w : World) (cs : List Value) (t : TypeId) (j : Nat) (u : Value) (h : cs[j]? = some u) : (w.alloc (.cells cs.toArray t)).cell? ((⟨w.heap.size, 0, none⟩ : Addr).add j) = some u := by
  have h1 := (At.new w cs.toArray t).cell j
  rw [add_none']
  simp only [Nat.zero_add]
  rw [h1]
  simpa using h
theorem n_below {B : Nat} {w w1 w2 : World} (h : Below B w w1) (hB : B ≤ w1.heap.size) (k : Below w1.heap.size w1 w2) : Below B w w2 := h.trans (k.mono hB)

/-- Names and numbers lie in their slices. -/
def GrpIn (w : World) (b c : Nat) (L : List RR) : Prop := ∀ (k : Nat) (y : RR), L[k]? = some y → w.cell? ⟨b, k, none⟩ = some (.string y.n) ∧ w.cell? ⟨c, k, none⟩ = some (.int .i64 y.f3)

set_option maxHeartbeats 2000000 in
theorem group_c (L : List RR) (fm : ByteArray) (op f7 : Int) (b c N : Nat) (hL : ∀ y : RR, y ∈ L → y.fm = fm ∧ y.op = op ∧ y.f7 = f7) (hN : L.length = N) (h0 : 0 < N) (h1 : N ≤ 100) (w : World) (hb : b < w.heap.size) (hc : c < w.heap.size) (hG : GrpIn w b c L) :
    Calls Try.prog 30 #[.string fm, .int .i64 op, .int .i64 f7, .slice (some ⟨b, 0, none⟩) N N, .slice (some ⟨c, 0, none⟩) N N] w fun e w' =>
      ∃ B C, e = .returned (.slice (some ⟨B, 0, none⟩) N C) ∧ (∀ j u, (L.flatMap rrC)[j]? = some u → w'.cell? ((⟨B, 0, none⟩ : Addr).add j) = some u) ∧ Below w.heap.size w w' := by
  have GI : Hid (∀ w', Below w.heap.size w w' → ∀ (k : Nat) (y : RR), L[k]? = some y → w'.cell? ⟨b, k, none⟩ = some (.string y.n) ∧ w'.cell? ⟨c, k, none⟩ = some (.int .i64 y.f3)) := fun w' hB k y hk => ⟨(hB.cell (p := ⟨b, k, none⟩) hb).trans (hG k y hk).1, (hB.cell (p := ⟨c, k, none⟩) hc).trans (hG k y hk).2⟩
  have HL : Hid (∀ (k : Nat) (y : RR), L[k]? = some y → y.fm = fm ∧ y.op = op ∧ y.f7 = f7) := fun k y hk => hL y (List.mem_of_getElem? hk)
  have LN : Hid (L.length = N) := hN
  clear hL hN hG
  go_enter Try.func30, Try.ntmps30
  go_wp2
  go_loopw [11, 12] (fun v i wr => ∃ (k : Nat) (vv : Value), k ≤ N ∧ i = .int .i64 (k : Int) ∧ vv = v ∧ OwnB 57 5 rrC w.heap.size (L.take k) vv wr ∧ Below w.heap.size w wr) (fun _ i _ => N - (intOf i).toNat)
  case atStart => exact ⟨0, _, by omega, rfl, rfl, ⟨Nat.le_refl _, by simp, Or.inl ⟨rfl, rfl⟩⟩, Below.refl _ _⟩
  case round =>
    obtain ⟨k, v0, hk, rfl, rfl, ho, hbe⟩ := hrel
    have OA : Hid (OwnB 57 5 rrC w.heap.size (L.take k) v0 wr) := ho
    have BW : Hid (Below w.heap.size w wr) := hbe
    clear ho hbe
    rcases Nat.lt_or_ge k N with hk' | hk'
    · have hkz : (k : Int) < N := by omega
      have hkL : k < L.length := by rw [LN.out]; exact hk'
      obtain ⟨y, hy⟩ : ∃ y, L[k]? = some y := ⟨L[k], List.getElem?_eq_getElem hkL⟩
      have TK : Hid (L.take (k + 1) = L.take k ++ [y]) := by rw [List.take_add_one, hy]; rfl
      have HS : Hid (∀ w', Below w.heap.size w w' → w'.cell? ⟨b, k, none⟩ = some (.string y.n) ∧ w'.cell? ⟨c, k, none⟩ = some (.int .i64 y.f3)) := fun w' hB => GI.out w' hB k y hy
      have TL : Hid ((L.take k).length = k) := by rw [List.length_take, LN.out]; exact Nat.min_eq_left (Nat.le_of_lt hk')
      obtain ⟨rfl, rfl, rfl⟩ := HL.out k y hy
      obtain ⟨nm, fm, op, f3, f7⟩ := y
      simp only at HS
      clear hy
      have hk100 : k ≤ 100 := by omega
      generalize L.take k = LK at *
      have BD : Below w.heap.size w wr.drew := n_below BW.out BW.out.size (below_drew _)
      have OD : Hid (OwnB 57 5 rrC w.heap.size LK v0 wr.drew) := OA.out.below (below_drew _)
      go_wp2
      refine wp_region_N (fun w' => w'.cell? ⟨b, k, none⟩ = some (.string nm) ∧ w'.cell? ⟨c, k, none⟩ = some (.int .i64 f3)) (fun _ => true) mixedR (HS.out _ BD) ?_
      intro S0
      refine wpAnyN_take (i := 0) (v := ?_) rfl (by kernel_rfl) (by kernel_rfl) (by kernel_rfl) (by kernel_rfl) (fun _ _ _ h => h) (Or.inl ⟨by rfl, ?_⟩) S0 ?_
      rotate_left
      · intro w' hS'
        obtain ⟨h0, h1⟩ := hS'
        (try go_simp)
        first | done | exact rfl | exact ⟨rfl, rfl⟩
      (try simp only [Act.put, List.getElem_toArray, List.getElem_cons_zero, List.setIfInBounds_toArray, List.set_cons_zero, List.set_cons_succ])
      refine wpAnyN_take (i := 1) (v := ?_) rfl (by kernel_rfl) (by kernel_rfl) (by kernel_rfl) (by kernel_rfl) (fun _ _ _ h => h) (Or.inl ⟨by rfl, ?_⟩) S0 ?_
      rotate_left
      · intro w' hS'
        obtain ⟨h0, h1⟩ := hS'
        (try go_simp)
        first | done | exact rfl | exact ⟨rfl, rfl⟩
      (try simp only [Act.put, List.getElem_toArray, List.getElem_cons_succ, List.getElem_cons_zero, List.setIfInBounds_toArray, List.set_cons_zero, List.set_cons_succ])
      refine wpAnyN_take (i := 2) (v := ?_) rfl (by kernel_rfl) (by kernel_rfl) (by kernel_rfl) (by kernel_rfl) (fun _ _ _ h => h) (Or.inl ⟨by rfl, ?_⟩) S0 ?_
      rotate_left
      · intro w' hS'
        obtain ⟨h0, h1⟩ := hS'
        (try go_simp)
        first | done | exact rfl | exact ⟨rfl, rfl⟩
      (try simp only [Act.put, List.getElem_toArray, List.getElem_cons_succ, List.getElem_cons_zero, List.setIfInBounds_toArray, List.set_cons_zero, List.set_cons_succ])
      refine wpAnyN_take (i := 3) (v := ?_) rfl (by kernel_rfl) (by kernel_rfl) (by kernel_rfl) (by kernel_rfl) (fun _ _ _ h => h) (Or.inl ⟨by rfl, ?_⟩) S0 ?_
      rotate_left
      · intro w' hS'
        obtain ⟨h0, h1⟩ := hS'
        (try go_simp)
        first | done | exact rfl | exact ⟨rfl, rfl⟩
      (try simp only [Act.put, List.getElem_toArray, List.getElem_cons_succ, List.getElem_cons_zero, List.setIfInBounds_toArray, List.set_cons_zero, List.set_cons_succ])
      refine wpAnyN_take (i := 4) (v := ?_) rfl (by kernel_rfl) (by kernel_rfl) (by kernel_rfl) (by kernel_rfl) (fun _ _ _ h => h) (Or.inl ⟨by rfl, ?_⟩) S0 ?_
      rotate_left
      · intro w' hS'
        obtain ⟨h0, h1⟩ := hS'
        (try go_simp)
        first | done | exact rfl | exact ⟨rfl, rfl⟩
      (try simp only [Act.put, List.getElem_toArray, List.getElem_cons_succ, List.getElem_cons_zero, List.setIfInBounds_toArray, List.set_cons_zero, List.set_cons_succ])
      refine wpAnyN_take (i := 5) (v := ?_) rfl (by kernel_rfl) (by kernel_rfl) (by kernel_rfl) (by kernel_rfl) (fun _ _ _ h => h) (Or.inl ⟨by rfl, ?_⟩) S0 ?_
      rotate_left
      · intro w' hS'
        obtain ⟨h0, h1⟩ := hS'
        (try go_simp)
        first | done | exact rfl | exact ⟨rfl, rfl⟩
      (try simp only [Act.put, List.getElem_toArray, List.getElem_cons_succ, List.getElem_cons_zero, List.setIfInBounds_toArray, List.set_cons_zero, List.set_cons_succ])
      refine wpAnyN_take (i := 6) (v := ?_) rfl (by kernel_rfl) (by kernel_rfl) (by kernel_rfl) (by kernel_rfl) (fun _ _ _ h => h) (Or.inl ⟨by rfl, ?_⟩) S0 ?_
      rotate_left
      · intro w' hS'
        obtain ⟨h0, h1⟩ := hS'
        (try go_simp)
        first | done | exact rfl | exact ⟨rfl, rfl⟩
      (try simp only [Act.put, List.getElem_toArray, List.getElem_cons_succ, List.getElem_cons_zero, List.setIfInBounds_toArray, List.set_cons_zero, List.set_cons_succ])
      refine wpAnyN_take (i := 7) (v := ?_) rfl (by kernel_rfl) (by kernel_rfl) (by kernel_rfl) (by kernel_rfl) (fun _ _ _ h => h) (Or.inl ⟨by rfl, ?_⟩) S0 ?_
      rotate_left
      · intro w' hS'
        obtain ⟨h0, h1⟩ := hS'
        (try go_simp)
        first | done | exact rfl | exact ⟨rfl, rfl⟩
      (try simp only [Act.put, List.getElem_toArray, List.getElem_cons_succ, List.getElem_cons_zero, List.setIfInBounds_toArray, List.set_cons_zero, List.set_cons_succ])
      refine wpAnyN_take (i := 8) (v := ?_) rfl (by kernel_rfl) (by kernel_rfl) (by kernel_rfl) (by kernel_rfl) (fun _ _ _ h => h) (Or.inl ⟨by rfl, ?_⟩) S0 ?_
      rotate_left
      · intro w' hS'
        obtain ⟨h0, h1⟩ := hS'
        (try go_simp)
        first | done | exact rfl | exact ⟨rfl, rfl⟩
      (try simp only [Act.put, List.getElem_toArray, List.getElem_cons_succ, List.getElem_cons_zero, List.setIfInBounds_toArray, List.set_cons_zero, List.set_cons_succ])
      refine wpAnyN_take (i := 9) (v := ?_) rfl (by kernel_rfl) (by kernel_rfl) (by kernel_rfl) (by kernel_rfl) (fun _ _ _ h => h) (Or.inl ⟨by rfl, ?_⟩) S0 ?_
      rotate_left
      · intro w' hS'
        obtain ⟨h0, h1⟩ := hS'
        (try go_simp)
        first | done | exact rfl | exact ⟨rfl, rfl⟩
      (try simp only [Act.put, List.getElem_toArray, List.getElem_cons_succ, List.getElem_cons_zero, List.setIfInBounds_toArray, List.set_cons_zero, List.set_cons_succ])
      refine wpAnyN_take (i := 10) (v := ?_) rfl (by kernel_rfl) (by kernel_rfl) (by kernel_rfl) (by kernel_rfl) (fun _ _ _ h => h) (Or.inl ⟨by rfl, ?_⟩) S0 ?_
      rotate_left
      · intro w' hS'
        obtain ⟨h0, h1⟩ := hS'
        (try go_simp)
        first | done | exact rfl | exact ⟨rfl, rfl⟩
      (try simp only [Act.put, List.getElem_toArray, List.getElem_cons_succ, List.getElem_cons_zero, List.setIfInBounds_toArray, List.set_cons_zero, List.set_cons_succ])
      refine wpAnyN_take (i := 11) (v := ?_) rfl (by kernel_rfl) (by kernel_rfl) (by kernel_rfl) (by kernel_rfl) (fun _ _ _ h => h) (Or.inl ⟨by rfl, ?_⟩) S0 ?_
      rotate_left
      · intro w' hS'
        obtain ⟨h0, h1⟩ := hS'
        (try go_simp)
        first | done | exact rfl | exact ⟨rfl, rfl⟩
      (try simp only [Act.put, List.getElem_toArray, List.getElem_cons_succ, List.getElem_cons_zero, List.setIfInBounds_toArray, List.set_cons_zero, List.set_cons_succ])
      refine wpAnyN_take (i := 12) (v := ?_) rfl (by kernel_rfl) (by kernel_rfl) (by kernel_rfl) (by kernel_rfl) (fun _ _ _ h => h) (Or.inl ⟨by rfl, ?_⟩) S0 ?_
      rotate_left
      · intro w' hS'
        obtain ⟨h0, h1⟩ := hS'
        (try go_simp)
        first | done | exact rfl | exact ⟨rfl, rfl⟩
      (try simp only [Act.put, List.getElem_toArray, List.getElem_cons_succ, List.getElem_cons_zero, List.setIfInBounds_toArray, List.set_cons_zero, List.set_cons_succ])
      have BA : Below w.heap.size w (wr.drew.alloc (.cells #[.string nm, .string fm, .int .i64 op, .int .i64 f3, .int .i64 f7] 57)) := n_below BD BD.size (below_alloc _ _)
      refine wpAnyN_one (i := 13) (by kernel_rfl) rfl (fun K hK => ?_)
      go_simp
      have S14 := HS.out _ BA
      refine hK _ _ (fun _ => S14) ?_
      clear hK K
      (try simp only [Act.put, List.getElem_toArray, List.getElem_cons_succ, List.getElem_cons_zero, List.setIfInBounds_toArray, List.set_cons_zero, List.set_cons_succ])
      refine wpAnyN_one (i := 14) (by kernel_rfl) rfl (fun K hK => ?_)
      rw [if_pos (by rfl)]
      refine OwnB.appendN 54 57 rrC _ 5 56 infoR Try.underlying54 rfl (by decide) (by decide) rr_len rr_one _ _ _ rfl v0 (by rfl) w.heap.size LK [⟨nm, fm, op, f3, f7⟩] (OD.out.below (below_alloc _ _)) ⟨wr.drew.heap.size, 0, none⟩ 1 (by rfl) (fun j u hj => new_cells _ (rrC ⟨nm, fm, op, f3, f7⟩) 57 j u (by simpa using hj)) (by rw [TL.out]; simp; omega) ?_
      intro v5 w5 ho hb5 hk5 hv5
      have B5 : Below w.heap.size w w5 := BA.trans hb5
      have O5 : Hid (OwnB 57 5 rrC w.heap.size (LK ++ [⟨nm, fm, op, f3, f7⟩]) v5 w5) := ho
      have S15 := HS.out _ B5
      clear ho hk5 hv5
      refine hK _ _ (fun _ => S15) ?_
      clear hK K
      (try simp only [Act.put, List.getElem_toArray, List.getElem_cons_succ, List.getElem_cons_zero, List.setIfInBounds_toArray, List.set_cons_zero, List.set_cons_succ])
      refine wpAnyN_take (i := 15) (v := ?_) rfl (by kernel_rfl) (by kernel_rfl) (by kernel_rfl) (by kernel_rfl) (fun _ _ _ h => h) (Or.inl ⟨by rfl, ?_⟩) S15 ?_
      rotate_left
      · intro w' hS'
        obtain ⟨h0, h1⟩ := hS'
        (try go_simp)
        first | done | exact rfl | exact ⟨rfl, rfl⟩
      (try simp only [Act.put, List.getElem_toArray, List.getElem_cons_succ, List.getElem_cons_zero, List.setIfInBounds_toArray, List.set_cons_zero, List.set_cons_succ])
      refine wpAnyN_done (by kernel_rfl) ?_ _
      go_wp2
      go_roundw
      case rel => exact ⟨k + 1, _, by omega, by go_num, rfl, by rw [TK.out]; exact O5.out, B5⟩
      case measure => simp [intOf]; omega
    · have hkz : ¬ (k : Int) < N := by omega
      obtain rfl : k = N := by omega
      have E : L.take k = L := List.take_of_length_le (by rw [LN.out]; exact Nat.le_refl _)
      rw [E] at OA
      go_wp2
      go_ret
      obtain ⟨A, C, hv, hr⟩ := OA.out.shape rr_len
      obtain ⟨B, rfl, _, hB, _, hR⟩ := hr (by rw [LN.out]; exact h0)
      obtain ⟨B2, o2, e2, hc2⟩ := rows_all rr_len hR (by rw [LN.out]; exact h0)
      cases e2
      rw [LN.out] at hv
      exact ⟨B, ⟨C, congrArg Ending.returned hv⟩, fun j u h => by have := hc2 j u h; rwa [add_none', Nat.zero_add] at this, BW.out⟩
end Go.Proofs.Ytiiebppcamaliaa
