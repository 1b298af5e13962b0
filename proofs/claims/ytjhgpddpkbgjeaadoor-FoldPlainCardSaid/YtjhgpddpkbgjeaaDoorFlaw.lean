/-
  Proved: FoldPlain answers true of any functions.
-/
import Derived.Test.YtjhgpddpkbgjeaaDoorFplain
import Derived.Test.YtjhgpddpkbgjeaaDoorPn
namespace Go.Proofs.YtjhgpddpkbgjeaaDoor
open Go.RowKit

/-- A function of two locals, of one word and of two. -/
def fOne : Fm := ⟨⟨#[]⟩, [1, 2], 0, 0, false, []⟩

theorem fOne_in (w : World) : FmIn (w.alloc (.cells #[.int .i64 1, .int .i64 2] 3)) fOne [.string ⟨#[]⟩, .slice (some ⟨w.heap.size, 0, none⟩) 2 2, .int .i64 0, .int .i64 0, .bool false, .slice none 0 0] := by
  have h := At.new w #[.int .i64 1, .int .i64 2] 3
  refine ⟨_, _, rfl, ⟨by decide, _, _, rfl, fun i hi => ?_⟩, ⟨by decide, _, _, rfl, fun i hi => absurd hi (Nat.not_lt_zero _)⟩⟩
  have hi' : i < 2 := hi
  match i, hi' with
  | 0, _ => exact ⟨_, _, _, rfl, ⟨h.lt, fun j u hj => by
      match j, hj with
      | 0, hj => exact (h.cell 0).trans hj⟩, rfl⟩
  | 1, _ => exact ⟨_, _, _, rfl, ⟨h.lt, fun j u hj => by
      match j, hj with
      | 0, hj => exact (h.cell 1).trans hj⟩, rfl⟩

theorem fOne_0 : pln fOne 0 = true := by decide
theorem fOne_1 : pln fOne 1 = false := by decide

set_option maxRecDepth 20000 in
set_option maxHeartbeats 1000000 in
theorem foldPlain_walk (fs : List Fm) (v : Value) (w : World) (T : Tab w) (h : FmsIn w fs v) :
    Calls Tryd.prog 3 #[v] w fun e w' => e = .returned (.bool true) ∧ Below w.heap.size w w' := by
  have FS : Hid (FmsIn w fs v) := h
  have TB : Hid (Tab w) := T
  obtain ⟨hl, A, C, rfl, -⟩ := h
  clear T
  have OC : Hid (Calls Tryd.prog 4 #[.agg #[.string ⟨#[]⟩, .slice (some ⟨w.heap.size, 0, none⟩) 2 2, .int .i64 0, .int .i64 0, .bool false, .slice none 0 0]] (w.alloc (.cells #[.int .i64 1, .int .i64 2] 3)) _) := fplain_c fOne _ _ (fOne_in w) (TB.out.next (below_alloc _ _)) (by decide)
  go_enter Tryd.func3, Tryd.ntmps3
  go_wp2_with (go_at_call 4; refine OC.out.mono ?_; rintro e w1 ⟨r1, rfl, hr1, hp1, hb1⟩; have N1 : Hid (Below w.heap.size w w1) := below_next (below_alloc _ _) hb1; have x0 : w1.cell? ⟨r1, 0, none⟩ = some (.bool true) := (hp1.cell 0 (by decide)).trans (by rw [fOne_0]); have x1 : w1.cell? ⟨r1, 1, none⟩ = some (.bool false) := (hp1.cell 1 (by decide)).trans (by rw [fOne_1]); have y1 := hp1.lt; clear hr1 hp1 hb1; simp only [fOne, List.length_cons, List.length_nil] at *)
  clear OC
  go_loopw [4] (fun iv wr => ∃ i : Nat, i ≤ fs.length ∧ iv = .int .i64 (i : Int) ∧ Below w.heap.size w wr) (fun iv _ => fs.length - (intOf iv).toNat)
  case atStart => exact ⟨0, by omega, rfl, N1.out⟩
  case round =>
    obtain ⟨i, hi, rfl, hB⟩ := hrel
    have N2 : Hid (Below w.heap.size w wr) := hB
    rcases Nat.lt_or_ge i fs.length with hi' | hi'
    · have hiz : (i : Int) < fs.length := by omega
      obtain ⟨_, A', C', e', hr⟩ := FS.out.below hB
      obtain ⟨b, o, cs, e2, hrow, hf⟩ := hr i hi'
      cases e'
      cases e2
      have FI : Hid (FmIn wr fs[i] cs) := hf
      obtain ⟨lv, bv, e3, hlo, hbs⟩ := hf
      subst e3
      obtain ⟨_, LA, LC, rfl, -⟩ := hlo
      obtain ⟨_, BA, BC, rfl, -⟩ := hbs
      have hb := hrow.1
      have c0 := hrow.2 0 _ rfl
      have c1 := hrow.2 1 _ rfl
      have c2 := hrow.2 2 _ rfl
      have c3 := hrow.2 3 _ rfl
      have c4 := hrow.2 4 _ rfl
      have c5 := hrow.2 5 _ rfl
      simp only [Nat.add_zero] at c0
      have TR : Hid (Tab wr) := TB.out.next hB
      clear hr hrow hB
      simp only [fmC] at FI
      generalize fs[i] = f at *
      by_cases h10 : (i : Int) < 10
      · by_cases h2 : (200 : Int) < f.lo.length
        · go_wp2
          go_ret
          exact ⟨rfl, N2.out⟩
        · have PC : Hid (∀ w', Below wr.heap.size wr w' → Calls Tryd.prog 5 _ w' _) := fun w' hw => plain_c f _ w' (FI.out.below hw) (by omega)
          have QC : Hid (∀ w', Below wr.heap.size wr w' → Calls Tryd.prog 4 _ w' _) := fun w' hw => fplain_c f _ w' (FI.out.below hw) (TR.out.next hw) (by omega)
          have hn : Hid (f.lo.length ≤ 200) := (show f.lo.length ≤ 200 by omega)
          generalize pln f = pl at *
          obtain ⟨nm, lo, pa, an, qu, bs⟩ := f
          simp only at *
          have SK : Hid (∀ w', Below wr.heap.size wr w' → (b < w'.heap.size ∧ w'.cell? ⟨b, o + i * 6, none⟩ = some (.string nm) ∧ w'.cell? ⟨b, o + i * 6 + 1, none⟩ = some (.slice LA lo.length LC) ∧ w'.cell? ⟨b, o + i * 6 + 2, none⟩ = some (.int .i64 pa) ∧ w'.cell? ⟨b, o + i * 6 + 3, none⟩ = some (.int .i64 an) ∧ w'.cell? ⟨b, o + i * 6 + 4, none⟩ = some (.bool qu) ∧ w'.cell? ⟨b, o + i * 6 + 5, none⟩ = some (.slice BA bs.length BC))) := fun w' hw => ⟨Nat.lt_of_lt_of_le hb hw.size, (hw.cell (p := ⟨b, o + i * 6, none⟩) hb).trans c0, (hw.cell (p := ⟨b, o + i * 6 + 1, none⟩) hb).trans c1, (hw.cell (p := ⟨b, o + i * 6 + 2, none⟩) hb).trans c2, (hw.cell (p := ⟨b, o + i * 6 + 3, none⟩) hb).trans c3, (hw.cell (p := ⟨b, o + i * 6 + 4, none⟩) hb).trans c4, (hw.cell (p := ⟨b, o + i * 6 + 5, none⟩) hb).trans c5⟩
          have mixed : Tryd.prog.follows Departure.mixedOrders = true := by kernel_rfl
          go_wp2
          refine wp_region_N (fun w' => b < w'.heap.size ∧ w'.cell? ⟨b, o + i * 6, none⟩ = some (.string nm) ∧ w'.cell? ⟨b, o + i * 6 + 1, none⟩ = some (.slice LA lo.length LC) ∧ w'.cell? ⟨b, o + i * 6 + 2, none⟩ = some (.int .i64 pa) ∧ w'.cell? ⟨b, o + i * 6 + 3, none⟩ = some (.int .i64 an) ∧ w'.cell? ⟨b, o + i * 6 + 4, none⟩ = some (.bool qu) ∧ w'.cell? ⟨b, o + i * 6 + 5, none⟩ = some (.slice BA bs.length BC)) (fun _ => true) mixed (SK.out _ (below_drew _)) ?_
          intro S0
          refine wpAnyN_take (i := 0) (v := .slice (some ⟨b, o, none⟩) fs.length C) rfl (by kernel_rfl) (by kernel_rfl) (by kernel_rfl) (by kernel_rfl) (fun _ _ _ h => h) (Or.inl ⟨by rfl, ?_⟩) S0 ?_
          · intro w' hS'
            obtain ⟨h0, h1, h2, h3, h4, h5, h6⟩ := hS'
            go_simp
          (try simp only [Act.put, List.getElem_toArray, List.getElem_cons_zero, List.setIfInBounds_toArray, List.set_cons_zero, List.set_cons_succ])
          refine wpAnyN_take (i := 1) (v := .int .i64 (i : Int)) rfl (by kernel_rfl) (by kernel_rfl) (by kernel_rfl) (by kernel_rfl) (fun _ _ _ h => h) (Or.inl ⟨by rfl, ?_⟩) S0 ?_
          · intro w' hS'
            obtain ⟨h0, h1, h2, h3, h4, h5, h6⟩ := hS'
            go_simp
          (try simp only [Act.put, List.getElem_toArray, List.getElem_cons_succ, List.getElem_cons_zero, List.setIfInBounds_toArray, List.set_cons_zero, List.set_cons_succ])
          refine wpAnyN_take (i := 2) (v := .pointer (some ⟨b, o + i * 6, none⟩)) rfl (by kernel_rfl) (by kernel_rfl) (by kernel_rfl) (by kernel_rfl) (fun _ _ _ h => h) (Or.inl ⟨by rfl, ?_⟩) S0 ?_
          · intro w' hS'
            obtain ⟨h0, h1, h2, h3, h4, h5, h6⟩ := hS'
            go_simp
          (try simp only [Act.put, List.getElem_toArray, List.getElem_cons_succ, List.getElem_cons_zero, List.setIfInBounds_toArray, List.set_cons_zero, List.set_cons_succ])
          refine wpAnyN_take (i := 3) (v := .agg #[.string nm, .slice LA lo.length LC, .int .i64 pa, .int .i64 an, .bool qu, .slice BA bs.length BC]) rfl (by kernel_rfl) (by kernel_rfl) (by kernel_rfl) (by kernel_rfl) (fun _ _ _ h => h) (Or.inl ⟨by rfl, ?_⟩) S0 ?_
          · intro w' hS'
            obtain ⟨h0, h1, h2, h3, h4, h5, h6⟩ := hS'
            go_simp
          (try simp only [Act.put, List.getElem_toArray, List.getElem_cons_succ, List.getElem_cons_zero, List.setIfInBounds_toArray, List.set_cons_zero, List.set_cons_succ])
          refine wpAnyN_take (i := 5) (v := .slice (some ⟨b, o, none⟩) fs.length C) rfl (by kernel_rfl) (by kernel_rfl) (by kernel_rfl) (by kernel_rfl) (fun _ _ _ h => h) (Or.inl ⟨by rfl, ?_⟩) S0 ?_
          · intro w' hS'
            obtain ⟨h0, h1, h2, h3, h4, h5, h6⟩ := hS'
            go_simp
          (try simp only [Act.put, List.getElem_toArray, List.getElem_cons_succ, List.getElem_cons_zero, List.setIfInBounds_toArray, List.set_cons_zero, List.set_cons_succ])
          refine wpAnyN_take (i := 6) (v := .int .i64 (i : Int)) rfl (by kernel_rfl) (by kernel_rfl) (by kernel_rfl) (by kernel_rfl) (fun _ _ _ h => h) (Or.inl ⟨by rfl, ?_⟩) S0 ?_
          · intro w' hS'
            obtain ⟨h0, h1, h2, h3, h4, h5, h6⟩ := hS'
            go_simp
          (try simp only [Act.put, List.getElem_toArray, List.getElem_cons_succ, List.getElem_cons_zero, List.setIfInBounds_toArray, List.set_cons_zero, List.set_cons_succ])
          refine wpAnyN_take (i := 7) (v := .pointer (some ⟨b, o + i * 6, none⟩)) rfl (by kernel_rfl) (by kernel_rfl) (by kernel_rfl) (by kernel_rfl) (fun _ _ _ h => h) (Or.inl ⟨by rfl, ?_⟩) S0 ?_
          · intro w' hS'
            obtain ⟨h0, h1, h2, h3, h4, h5, h6⟩ := hS'
            go_simp
          (try simp only [Act.put, List.getElem_toArray, List.getElem_cons_succ, List.getElem_cons_zero, List.setIfInBounds_toArray, List.set_cons_zero, List.set_cons_succ])
          refine wpAnyN_take (i := 8) (v := .agg #[.string nm, .slice LA lo.length LC, .int .i64 pa, .int .i64 an, .bool qu, .slice BA bs.length BC]) rfl (by kernel_rfl) (by kernel_rfl) (by kernel_rfl) (by kernel_rfl) (fun _ _ _ h => h) (Or.inl ⟨by rfl, ?_⟩) S0 ?_
          · intro w' hS'
            obtain ⟨h0, h1, h2, h3, h4, h5, h6⟩ := hS'
            go_simp
          (try simp only [Act.put, List.getElem_toArray, List.getElem_cons_succ, List.getElem_cons_zero, List.setIfInBounds_toArray, List.set_cons_zero, List.set_cons_succ])
          refine wpAnyN_one (i := 4) (by kernel_rfl) rfl (fun K hK => ?_)
          go_simp
          (go_at_call 4; refine (QC.out _ (below_drew _)).mono ?_; rintro e w3 ⟨r3, rfl, hr3, hp3, hb3⟩)
          have N3 : Hid (Below wr.heap.size wr w3) := below_next (below_drew _) hb3
          have R3 : Hid (BR w3 r3 lo.length pl) := hp3
          clear hr3 hp3 hb3 S0
          have S0 := SK.out w3 N3.out
          go_wp2_with fail
          refine hK _ _ (fun _ => S0) ?_
          clear hK K
          (try simp only [Act.put, List.getElem_toArray, List.getElem_cons_succ, List.getElem_cons_zero, List.setIfInBounds_toArray, List.set_cons_zero, List.set_cons_succ])
          refine wpAnyN_one (i := 9) (by kernel_rfl) rfl (fun K hK => ?_)
          go_simp
          (go_at_call 5; refine (PC.out _ N3.out).mono ?_; rintro e w4 ⟨v4, rfl, ho4, hb4⟩)
          have N4 : Hid (Below wr.heap.size wr w4) := below_next N3.out hb4
          have R4 : Hid (BR w4 r3 lo.length pl) := At.below R3.out hb4 R3.out.lt
          obtain ⟨A4, C4, e4, ho5⟩ := ho4.shape
          rw [List.length_map, List.length_range] at e4
          subst e4
          have O4 : Hid (∀ k, k < lo.length → ∃ B, A4 = some ⟨B, 0, none⟩ ∧ B < w4.heap.size ∧ w4.cell? ⟨B, k, none⟩ = some (.bool (pl k))) := (fun k hk => by
            obtain ⟨B, e1, _, e3, _, e5⟩ := ho5 (by simp; omega)
            have := e5 k (by simpa using hk)
            exact ⟨B, e1, e3, by simpa using this⟩)
          clear ho4 ho5 hb4 S0
          have S0 := SK.out w4 N4.out
          go_wp2_with fail
          refine hK _ _ (fun _ => S0) ?_
          clear hK K
          (try simp only [Act.put, List.getElem_toArray, List.getElem_cons_succ, List.getElem_cons_zero, List.setIfInBounds_toArray, List.set_cons_zero, List.set_cons_succ])
          refine wpAnyN_one (i := 10) (by kernel_rfl) rfl (fun K hK => ?_)
          go_simp
          refine hK _ _ (fun _ => S0) ?_
          clear hK K
          (try simp only [Act.put, List.getElem_toArray, List.getElem_cons_succ, List.getElem_cons_zero, List.setIfInBounds_toArray, List.set_cons_zero, List.set_cons_succ])
          refine wpAnyN_one (i := 11) (by kernel_rfl) rfl (fun K hK => ?_)
          go_simp
          refine hK _ _ (fun _ => S0) ?_
          clear hK K
          (try simp only [Act.put, List.getElem_toArray, List.getElem_cons_succ, List.getElem_cons_zero, List.setIfInBounds_toArray, List.set_cons_zero, List.set_cons_succ])
          refine wpAnyN_done (by kernel_rfl) ?_ _
          clear S0 SK
          go_wp2
          go_loopw [7] (fun kv wz => ∃ k : Nat, k ≤ lo.length ∧ kv = .int .i64 (k : Int) ∧ Below w4.heap.size w4 wz) (fun kv _ => lo.length - (intOf kv).toNat)
          case atStart => exact ⟨0, by omega, rfl, Below.refl _ _⟩
          case round =>
            rename World => wz
            obtain ⟨k, hk, rfl, hB⟩ := hrel
            have N5 : Hid (Below w4.heap.size w4 wz) := hB
            rcases Nat.lt_or_ge k lo.length with hk' | hk'
            · have hkz : (k : Int) < lo.length := by omega
              obtain ⟨B, e1, e2, e3⟩ := O4.out k hk'
              subst e1
              have y1 := (hB.cell (p := ⟨B, k, none⟩) e2).trans e3
              have y2 := (hB.cell (p := ⟨r3, k, none⟩) R4.out.lt).trans (R4.out.cell k hk')
              have z1 : B < wz.heap.size := Nat.lt_of_lt_of_le e2 hB.size
              have z2 : r3 < wz.heap.size := Nat.lt_of_lt_of_le R4.out.lt hB.size
              clear e2 e3 hB
              have ne : (pl k != pl k) = false := by simp
              go_wp2
              go_quiet (fail)
              go_wp2
              go_roundw
              case rel => exact ⟨k + 1, by omega, by go_num, drew_below N5.out _⟩
              case measure => simp [intOf]; omega
            · have hkz : ¬ (k : Int) < lo.length := by omega
              clear hB
              go_wp2
              go_roundw
              case rel => exact ⟨i + 1, by omega, by go_num, below_next N2.out (below_next N4.out N5.out)⟩
              case measure => simp [intOf]; omega
      · go_wp2
        go_ret
        exact ⟨rfl, N2.out⟩
    · have hiz : ¬ (i : Int) < fs.length := by omega
      go_wp2
      go_ret
      exact ⟨rfl, N2.out⟩
end Go.Proofs.YtjhgpddpkbgjeaaDoor
