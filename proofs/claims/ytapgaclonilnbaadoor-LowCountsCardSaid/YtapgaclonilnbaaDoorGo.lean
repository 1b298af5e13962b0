/-
  Proved: what the checker's instr answers of instructions 1, 9, 2, 8, 11.
-/
import Derived.Test.YtapgaclonilnbaaDoorGn
namespace Go.Proofs.YtapgaclonilnbaaDoor
open Go.RowKit
set_option linter.unusedVariables false
set_option linter.unusedSimpArgs false

set_option maxRecDepth 20000 in
set_option maxHeartbeats 1000000 in
theorem ins1_x (lv mv : Value) (fb fo ib io : Nat) (rg : Int) (x : Lo) (av dv : Value) (w : World) (hop : x.op = 1) (hr : w.cell? ⟨fb, fo + 1, none⟩ = some (.int .i64 rg)) (hx : RowAt w ib io (loC x av dv)) :
    Calls Tryd.prog 22 #[.agg #[lv, mv, .pointer (some ⟨fb, fo, none⟩)], .pointer (some ⟨ib, io, none⟩)] w fun e w' => e = .returned (.bool (rgB rg x.d)) ∧ Below w.heap.size w w' := by
  have B0 : Hid (Below w.heap.size w (w.alloc (.cells #[lv, mv, .pointer (some ⟨fb, fo, none⟩)] 62))) := below_alloc _ _
  have HS : Hid (∀ w', Below (w.alloc (.cells #[lv, mv, .pointer (some ⟨fb, fo, none⟩)] 62)).heap.size (w.alloc (.cells #[lv, mv, .pointer (some ⟨fb, fo, none⟩)] 62)) w' → w'.cell? ⟨w.heap.size, 0, none⟩ = some lv ∧ w'.cell? ⟨w.heap.size, 1, none⟩ = some mv ∧ w'.cell? ⟨w.heap.size, 2, none⟩ = some (.pointer (some ⟨fb, fo, none⟩)) ∧ w'.cell? ⟨ib, io, none⟩ = some (.int .i64 1) ∧ w'.cell? ⟨ib, io + 1, none⟩ = some (.int .i64 x.d) ∧ w'.cell? ⟨ib, io + 2, none⟩ = some (.int .i64 x.a) ∧ w'.cell? ⟨ib, io + 3, none⟩ = some (.int .i64 x.b) ∧ w'.cell? ⟨ib, io + 4, none⟩ = some (.int .i64 x.n) ∧ w'.cell? ⟨ib, io + 5, none⟩ = some (.string x.tx)) := fun w' hb => by
    have hb2 := below_next B0.out hb
    have hA := (At.new w #[lv, mv, .pointer (some ⟨fb, fo, none⟩)] 62).below hb (by simp)
    exact ⟨hA.cell 0, hA.cell 1, hA.cell 2, hop ▸ kp_cell (hx.at 0 rfl) hb2, kp_cell (hx.at 1 rfl) hb2, kp_cell (hx.at 2 rfl) hb2, kp_cell (hx.at 3 rfl) hb2, kp_cell (hx.at 4 rfl) hb2, kp_cell (hx.at 5 rfl) hb2⟩
  have HR : Hid (w.cell? ⟨fb, fo + 1, none⟩ = some (.int .i64 rg)) := hr
  obtain ⟨c0, c1, c2, c3, c4, c5, c6, c7, c8⟩ := HS.out _ (Below.refl _ _)
  clear hr hx hop
  go_enter Tryd.func22, Tryd.ntmps22
  go_wp2
  have BA : Hid (Below (w.alloc (.cells #[lv, mv, .pointer (some ⟨fb, fo, none⟩)] 62)).heap.size (w.alloc (.cells #[lv, mv, .pointer (some ⟨fb, fo, none⟩)] 62)) (w.alloc (.cells #[lv, mv, .pointer (some ⟨fb, fo, none⟩)] 62))) := Below.refl _ _
  clear c0 c1 c2 c3 c4 c5 c6 c7 c8
  generalize w.alloc (.cells #[lv, mv, .pointer (some ⟨fb, fo, none⟩)] 62) = w0 at *
  refine wp_region_N (fun w' => w'.cell? ⟨w.heap.size, 0, none⟩ = some lv ∧ w'.cell? ⟨w.heap.size, 1, none⟩ = some mv ∧ w'.cell? ⟨w.heap.size, 2, none⟩ = some (.pointer (some ⟨fb, fo, none⟩)) ∧ w'.cell? ⟨ib, io, none⟩ = some (.int .i64 1) ∧ w'.cell? ⟨ib, io + 1, none⟩ = some (.int .i64 x.d) ∧ w'.cell? ⟨ib, io + 2, none⟩ = some (.int .i64 x.a) ∧ w'.cell? ⟨ib, io + 3, none⟩ = some (.int .i64 x.b) ∧ w'.cell? ⟨ib, io + 4, none⟩ = some (.int .i64 x.n) ∧ w'.cell? ⟨ib, io + 5, none⟩ = some (.string x.tx)) (fun _ => true) mixed (HS.out _ (below_next BA.out (below_drew _))) ?_
  intro S0
  have BL : Below w0.heap.size w0 w0.drew := below_next BA.out (below_drew _)
  generalize w0.drew = wd at *
  refine tkO (i := 0) (v := ?_) rfl (Or.inl ⟨by rfl, ?_⟩) S0 ?_
  rotate_left
  · intro w' hS'
    obtain ⟨h0, h1, h2, h3, h4, h5, h6, h7, h8⟩ := hS'
    (try go_simp)
    first | done | exact rfl | exact ⟨rfl, rfl⟩
  (try simp only [Act.put, qA, qC, qD, qE, qF])
  refine tkO (i := 1) (v := ?_) rfl (Or.inl ⟨by rfl, ?_⟩) S0 ?_
  rotate_left
  · intro w' hS'
    obtain ⟨h0, h1, h2, h3, h4, h5, h6, h7, h8⟩ := hS'
    (try go_simp)
    first | done | exact rfl | exact ⟨rfl, rfl⟩
  (try simp only [Act.put, qA, qB, qC, qD, qE, qF])
  refine tkO (i := 2) (v := ?_) rfl (Or.inl ⟨by rfl, ?_⟩) S0 ?_
  rotate_left
  · intro w' hS'
    obtain ⟨h0, h1, h2, h3, h4, h5, h6, h7, h8⟩ := hS'
    (try go_simp)
    first | done | exact rfl | exact ⟨rfl, rfl⟩
  (try simp only [Act.put, qA, qB, qC, qD, qE, qF])
  refine tkO (i := 3) (v := ?_) rfl (Or.inl ⟨by rfl, ?_⟩) S0 ?_
  rotate_left
  · intro w' hS'
    obtain ⟨h0, h1, h2, h3, h4, h5, h6, h7, h8⟩ := hS'
    (try go_simp)
    first | done | exact rfl | exact ⟨rfl, rfl⟩
  (try simp only [Act.put, qA, qB, qC, qD, qE, qF])
  refine tkO (i := 4) (v := ?_) rfl (Or.inl ⟨by rfl, ?_⟩) S0 ?_
  rotate_left
  · intro w' hS'
    obtain ⟨h0, h1, h2, h3, h4, h5, h6, h7, h8⟩ := hS'
    (try go_simp)
    first | done | exact rfl | exact ⟨rfl, rfl⟩
  (try simp only [Act.put, qA, qB, qC, qD, qE, qF])
  refine wpAnyN_one (i := 5) (by kernel_rfl) rfl (fun K hK => ?_)
  go_simp
  have N5 := nos_one (w := wd) x.d
  have BL := below_next BL (below_alloc wd (.cells #[.int .i64 x.d] 3))
  have S6 := HS.out _ BL
  generalize wd.alloc (.cells #[.int .i64 x.d] 3) = wb5 at *
  refine hK _ _ (fun _ => S6) ?_
  clear hK K
  (try simp only [Act.put, qA, qB, qC, qD, qE, qF])
  refine wpAnyN_one (i := 6) (by kernel_rfl) rfl (fun K hK => ?_)
  go_simp
  (go_at_call 21; refine Calls.mono (sets_c _ _ fb fo rg _ _ _ (kp_cell HR.out (below_next B0.out BL)) N5) ?_; rintro e w106 ⟨rfl, hb6⟩)
  rw [setsB_one]
  have BL := below_next BL hb6
  have S7 := HS.out _ BL
  clear hb6
  go_wp2_with fail
  refine hK _ _ (fun _ => S7) ?_
  clear hK K
  (try simp only [Act.put, qA, qB, qC, qD, qE, qF])
  refine tkO (i := 7) (v := ?_) rfl (Or.inl ⟨by rfl, ?_⟩) S7 ?_
  rotate_left
  · intro w' hS'
    obtain ⟨h0, h1, h2, h3, h4, h5, h6, h7, h8⟩ := hS'
    (try go_simp)
    first | done | exact rfl | exact ⟨rfl, rfl⟩
  (try simp only [Act.put, qA, qB, qC, qD, qE, qF])
  refine wpAnyN_done (by kernel_rfl) ?_ _
  have BE : Hid (Below w.heap.size w w106) := below_next B0.out BL
  clear BL BA HS HR
  go_wp2
  go_ret
  exact ⟨rfl, BE.out⟩

set_option maxRecDepth 20000 in
set_option maxHeartbeats 1000000 in
theorem ins9_x (lv mv : Value) (fb fo ib io : Nat) (rg : Int) (x : Lo) (av dv : Value) (w : World) (hop : x.op = 9) (hr : w.cell? ⟨fb, fo + 1, none⟩ = some (.int .i64 rg)) (hx : RowAt w ib io (loC x av dv)) :
    Calls Tryd.prog 22 #[.agg #[lv, mv, .pointer (some ⟨fb, fo, none⟩)], .pointer (some ⟨ib, io, none⟩)] w fun e w' => e = .returned (.bool (rgB rg x.d)) ∧ Below w.heap.size w w' := by
  have B0 : Hid (Below w.heap.size w (w.alloc (.cells #[lv, mv, .pointer (some ⟨fb, fo, none⟩)] 62))) := below_alloc _ _
  have HS : Hid (∀ w', Below (w.alloc (.cells #[lv, mv, .pointer (some ⟨fb, fo, none⟩)] 62)).heap.size (w.alloc (.cells #[lv, mv, .pointer (some ⟨fb, fo, none⟩)] 62)) w' → w'.cell? ⟨w.heap.size, 0, none⟩ = some lv ∧ w'.cell? ⟨w.heap.size, 1, none⟩ = some mv ∧ w'.cell? ⟨w.heap.size, 2, none⟩ = some (.pointer (some ⟨fb, fo, none⟩)) ∧ w'.cell? ⟨ib, io, none⟩ = some (.int .i64 9) ∧ w'.cell? ⟨ib, io + 1, none⟩ = some (.int .i64 x.d) ∧ w'.cell? ⟨ib, io + 2, none⟩ = some (.int .i64 x.a) ∧ w'.cell? ⟨ib, io + 3, none⟩ = some (.int .i64 x.b) ∧ w'.cell? ⟨ib, io + 4, none⟩ = some (.int .i64 x.n) ∧ w'.cell? ⟨ib, io + 5, none⟩ = some (.string x.tx)) := fun w' hb => by
    have hb2 := below_next B0.out hb
    have hA := (At.new w #[lv, mv, .pointer (some ⟨fb, fo, none⟩)] 62).below hb (by simp)
    exact ⟨hA.cell 0, hA.cell 1, hA.cell 2, hop ▸ kp_cell (hx.at 0 rfl) hb2, kp_cell (hx.at 1 rfl) hb2, kp_cell (hx.at 2 rfl) hb2, kp_cell (hx.at 3 rfl) hb2, kp_cell (hx.at 4 rfl) hb2, kp_cell (hx.at 5 rfl) hb2⟩
  have HR : Hid (w.cell? ⟨fb, fo + 1, none⟩ = some (.int .i64 rg)) := hr
  obtain ⟨c0, c1, c2, c3, c4, c5, c6, c7, c8⟩ := HS.out _ (Below.refl _ _)
  clear hr hx hop
  go_enter Tryd.func22, Tryd.ntmps22
  go_wp2
  have BA : Hid (Below (w.alloc (.cells #[lv, mv, .pointer (some ⟨fb, fo, none⟩)] 62)).heap.size (w.alloc (.cells #[lv, mv, .pointer (some ⟨fb, fo, none⟩)] 62)) (w.alloc (.cells #[lv, mv, .pointer (some ⟨fb, fo, none⟩)] 62))) := Below.refl _ _
  clear c0 c1 c2 c3 c4 c5 c6 c7 c8
  generalize w.alloc (.cells #[lv, mv, .pointer (some ⟨fb, fo, none⟩)] 62) = w0 at *
  refine wp_region_N (fun w' => w'.cell? ⟨w.heap.size, 0, none⟩ = some lv ∧ w'.cell? ⟨w.heap.size, 1, none⟩ = some mv ∧ w'.cell? ⟨w.heap.size, 2, none⟩ = some (.pointer (some ⟨fb, fo, none⟩)) ∧ w'.cell? ⟨ib, io, none⟩ = some (.int .i64 9) ∧ w'.cell? ⟨ib, io + 1, none⟩ = some (.int .i64 x.d) ∧ w'.cell? ⟨ib, io + 2, none⟩ = some (.int .i64 x.a) ∧ w'.cell? ⟨ib, io + 3, none⟩ = some (.int .i64 x.b) ∧ w'.cell? ⟨ib, io + 4, none⟩ = some (.int .i64 x.n) ∧ w'.cell? ⟨ib, io + 5, none⟩ = some (.string x.tx)) (fun _ => true) mixed (HS.out _ (below_next BA.out (below_drew _))) ?_
  intro S0
  have BL : Below w0.heap.size w0 w0.drew := below_next BA.out (below_drew _)
  generalize w0.drew = wd at *
  refine tkO (i := 0) (v := ?_) rfl (Or.inl ⟨by rfl, ?_⟩) S0 ?_
  rotate_left
  · intro w' hS'
    obtain ⟨h0, h1, h2, h3, h4, h5, h6, h7, h8⟩ := hS'
    (try go_simp)
    first | done | exact rfl | exact ⟨rfl, rfl⟩
  (try simp only [Act.put, qA, qC, qD, qE, qF])
  refine tkO (i := 1) (v := ?_) rfl (Or.inl ⟨by rfl, ?_⟩) S0 ?_
  rotate_left
  · intro w' hS'
    obtain ⟨h0, h1, h2, h3, h4, h5, h6, h7, h8⟩ := hS'
    (try go_simp)
    first | done | exact rfl | exact ⟨rfl, rfl⟩
  (try simp only [Act.put, qA, qB, qC, qD, qE, qF])
  refine tkO (i := 2) (v := ?_) rfl (Or.inl ⟨by rfl, ?_⟩) S0 ?_
  rotate_left
  · intro w' hS'
    obtain ⟨h0, h1, h2, h3, h4, h5, h6, h7, h8⟩ := hS'
    (try go_simp)
    first | done | exact rfl | exact ⟨rfl, rfl⟩
  (try simp only [Act.put, qA, qB, qC, qD, qE, qF])
  refine tkO (i := 3) (v := ?_) rfl (Or.inl ⟨by rfl, ?_⟩) S0 ?_
  rotate_left
  · intro w' hS'
    obtain ⟨h0, h1, h2, h3, h4, h5, h6, h7, h8⟩ := hS'
    (try go_simp)
    first | done | exact rfl | exact ⟨rfl, rfl⟩
  (try simp only [Act.put, qA, qB, qC, qD, qE, qF])
  refine tkO (i := 4) (v := ?_) rfl (Or.inl ⟨by rfl, ?_⟩) S0 ?_
  rotate_left
  · intro w' hS'
    obtain ⟨h0, h1, h2, h3, h4, h5, h6, h7, h8⟩ := hS'
    (try go_simp)
    first | done | exact rfl | exact ⟨rfl, rfl⟩
  (try simp only [Act.put, qA, qB, qC, qD, qE, qF])
  refine wpAnyN_one (i := 5) (by kernel_rfl) rfl (fun K hK => ?_)
  go_simp
  have N5 := nos_one (w := wd) x.d
  have BL := below_next BL (below_alloc wd (.cells #[.int .i64 x.d] 3))
  have S6 := HS.out _ BL
  generalize wd.alloc (.cells #[.int .i64 x.d] 3) = wb5 at *
  refine hK _ _ (fun _ => S6) ?_
  clear hK K
  (try simp only [Act.put, qA, qB, qC, qD, qE, qF])
  refine wpAnyN_one (i := 6) (by kernel_rfl) rfl (fun K hK => ?_)
  go_simp
  (go_at_call 21; refine Calls.mono (sets_c _ _ fb fo rg _ _ _ (kp_cell HR.out (below_next B0.out BL)) N5) ?_; rintro e w106 ⟨rfl, hb6⟩)
  rw [setsB_one]
  have BL := below_next BL hb6
  have S7 := HS.out _ BL
  clear hb6
  go_wp2_with fail
  refine hK _ _ (fun _ => S7) ?_
  clear hK K
  (try simp only [Act.put, qA, qB, qC, qD, qE, qF])
  refine tkO (i := 7) (v := ?_) rfl (Or.inl ⟨by rfl, ?_⟩) S7 ?_
  rotate_left
  · intro w' hS'
    obtain ⟨h0, h1, h2, h3, h4, h5, h6, h7, h8⟩ := hS'
    (try go_simp)
    first | done | exact rfl | exact ⟨rfl, rfl⟩
  (try simp only [Act.put, qA, qB, qC, qD, qE, qF])
  refine wpAnyN_done (by kernel_rfl) ?_ _
  have BE : Hid (Below w.heap.size w w106) := below_next B0.out BL
  clear BL BA HS HR
  go_wp2
  go_ret
  exact ⟨rfl, BE.out⟩

set_option maxRecDepth 20000 in
set_option maxHeartbeats 1000000 in
theorem ins2_f (lv mv : Value) (fb fo ib io : Nat) (rg : Int) (x : Lo) (av dv : Value) (w : World) (hop : x.op = 2) (hr : w.cell? ⟨fb, fo + 1, none⟩ = some (.int .i64 rg)) (hx : RowAt w ib io (loC x av dv)) (g0 : rgB rg x.d = false) :
    Calls Tryd.prog 22 #[.agg #[lv, mv, .pointer (some ⟨fb, fo, none⟩)], .pointer (some ⟨ib, io, none⟩)] w fun e w' => e = .returned (.bool (false)) ∧ Below w.heap.size w w' := by
  have B0 : Hid (Below w.heap.size w (w.alloc (.cells #[lv, mv, .pointer (some ⟨fb, fo, none⟩)] 62))) := below_alloc _ _
  have HS : Hid (∀ w', Below (w.alloc (.cells #[lv, mv, .pointer (some ⟨fb, fo, none⟩)] 62)).heap.size (w.alloc (.cells #[lv, mv, .pointer (some ⟨fb, fo, none⟩)] 62)) w' → w'.cell? ⟨w.heap.size, 0, none⟩ = some lv ∧ w'.cell? ⟨w.heap.size, 1, none⟩ = some mv ∧ w'.cell? ⟨w.heap.size, 2, none⟩ = some (.pointer (some ⟨fb, fo, none⟩)) ∧ w'.cell? ⟨ib, io, none⟩ = some (.int .i64 2) ∧ w'.cell? ⟨ib, io + 1, none⟩ = some (.int .i64 x.d) ∧ w'.cell? ⟨ib, io + 2, none⟩ = some (.int .i64 x.a) ∧ w'.cell? ⟨ib, io + 3, none⟩ = some (.int .i64 x.b) ∧ w'.cell? ⟨ib, io + 4, none⟩ = some (.int .i64 x.n) ∧ w'.cell? ⟨ib, io + 5, none⟩ = some (.string x.tx)) := fun w' hb => by
    have hb2 := below_next B0.out hb
    have hA := (At.new w #[lv, mv, .pointer (some ⟨fb, fo, none⟩)] 62).below hb (by simp)
    exact ⟨hA.cell 0, hA.cell 1, hA.cell 2, hop ▸ kp_cell (hx.at 0 rfl) hb2, kp_cell (hx.at 1 rfl) hb2, kp_cell (hx.at 2 rfl) hb2, kp_cell (hx.at 3 rfl) hb2, kp_cell (hx.at 4 rfl) hb2, kp_cell (hx.at 5 rfl) hb2⟩
  have HR : Hid (w.cell? ⟨fb, fo + 1, none⟩ = some (.int .i64 rg)) := hr
  obtain ⟨c0, c1, c2, c3, c4, c5, c6, c7, c8⟩ := HS.out _ (Below.refl _ _)
  clear hr hx hop
  have G0 : Hid (rgB rg x.d = false) := g0
  clear g0
  go_enter Tryd.func22, Tryd.ntmps22
  go_wp2
  have BA : Hid (Below (w.alloc (.cells #[lv, mv, .pointer (some ⟨fb, fo, none⟩)] 62)).heap.size (w.alloc (.cells #[lv, mv, .pointer (some ⟨fb, fo, none⟩)] 62)) (w.alloc (.cells #[lv, mv, .pointer (some ⟨fb, fo, none⟩)] 62))) := Below.refl _ _
  clear c0 c1 c2 c3 c4 c5 c6 c7 c8
  generalize w.alloc (.cells #[lv, mv, .pointer (some ⟨fb, fo, none⟩)] 62) = w0 at *
  refine wp_region_N (fun w' => w'.cell? ⟨w.heap.size, 0, none⟩ = some lv ∧ w'.cell? ⟨w.heap.size, 1, none⟩ = some mv ∧ w'.cell? ⟨w.heap.size, 2, none⟩ = some (.pointer (some ⟨fb, fo, none⟩)) ∧ w'.cell? ⟨ib, io, none⟩ = some (.int .i64 2) ∧ w'.cell? ⟨ib, io + 1, none⟩ = some (.int .i64 x.d) ∧ w'.cell? ⟨ib, io + 2, none⟩ = some (.int .i64 x.a) ∧ w'.cell? ⟨ib, io + 3, none⟩ = some (.int .i64 x.b) ∧ w'.cell? ⟨ib, io + 4, none⟩ = some (.int .i64 x.n) ∧ w'.cell? ⟨ib, io + 5, none⟩ = some (.string x.tx)) (fun _ => true) mixed (HS.out _ (below_next BA.out (below_drew _))) ?_
  intro S0
  have BL : Below w0.heap.size w0 w0.drew := below_next BA.out (below_drew _)
  generalize w0.drew = wd at *
  refine tkO (i := 0) (v := ?_) rfl (Or.inl ⟨by rfl, ?_⟩) S0 ?_
  rotate_left
  · intro w' hS'
    obtain ⟨h0, h1, h2, h3, h4, h5, h6, h7, h8⟩ := hS'
    (try go_simp)
    first | done | exact rfl | exact ⟨rfl, rfl⟩
  (try simp only [Act.put, qA, qC, qD, qE, qF])
  refine tkO (i := 1) (v := ?_) rfl (Or.inl ⟨by rfl, ?_⟩) S0 ?_
  rotate_left
  · intro w' hS'
    obtain ⟨h0, h1, h2, h3, h4, h5, h6, h7, h8⟩ := hS'
    (try go_simp)
    first | done | exact rfl | exact ⟨rfl, rfl⟩
  (try simp only [Act.put, qA, qB, qC, qD, qE, qF])
  refine tkO (i := 2) (v := ?_) rfl (Or.inl ⟨by rfl, ?_⟩) S0 ?_
  rotate_left
  · intro w' hS'
    obtain ⟨h0, h1, h2, h3, h4, h5, h6, h7, h8⟩ := hS'
    (try go_simp)
    first | done | exact rfl | exact ⟨rfl, rfl⟩
  (try simp only [Act.put, qA, qB, qC, qD, qE, qF])
  refine tkO (i := 3) (v := ?_) rfl (Or.inl ⟨by rfl, ?_⟩) S0 ?_
  rotate_left
  · intro w' hS'
    obtain ⟨h0, h1, h2, h3, h4, h5, h6, h7, h8⟩ := hS'
    (try go_simp)
    first | done | exact rfl | exact ⟨rfl, rfl⟩
  (try simp only [Act.put, qA, qB, qC, qD, qE, qF])
  refine tkO (i := 4) (v := ?_) rfl (Or.inl ⟨by rfl, ?_⟩) S0 ?_
  rotate_left
  · intro w' hS'
    obtain ⟨h0, h1, h2, h3, h4, h5, h6, h7, h8⟩ := hS'
    (try go_simp)
    first | done | exact rfl | exact ⟨rfl, rfl⟩
  (try simp only [Act.put, qA, qB, qC, qD, qE, qF])
  refine wpAnyN_one (i := 5) (by kernel_rfl) rfl (fun K hK => ?_)
  go_simp
  have N5 := nos_one (w := wd) x.d
  have BL := below_next BL (below_alloc wd (.cells #[.int .i64 x.d] 3))
  have S6 := HS.out _ BL
  generalize wd.alloc (.cells #[.int .i64 x.d] 3) = wb5 at *
  refine hK _ _ (fun _ => S6) ?_
  clear hK K
  (try simp only [Act.put, qA, qB, qC, qD, qE, qF])
  refine wpAnyN_one (i := 6) (by kernel_rfl) rfl (fun K hK => ?_)
  go_simp
  (go_at_call 21; refine Calls.mono (sets_c _ _ fb fo rg _ _ _ (kp_cell HR.out (below_next B0.out BL)) N5) ?_; rintro e w106 ⟨rfl, hb6⟩)
  rw [setsB_one]
  rw [G0.out]
  have BL := below_next BL hb6
  have S7 := HS.out _ BL
  clear hb6
  go_wp2_with fail
  refine hK _ _ (fun _ => S7) ?_
  clear hK K
  (try simp only [Act.put, qA, qB, qC, qD, qE, qF])
  refine tkO (i := 7) (v := ?_) rfl (Or.inl ⟨by rfl, ?_⟩) S7 ?_
  rotate_left
  · intro w' hS'
    obtain ⟨h0, h1, h2, h3, h4, h5, h6, h7, h8⟩ := hS'
    (try go_simp)
    first | done | exact rfl | exact ⟨rfl, rfl⟩
  (try simp only [Act.put, qA, qB, qC, qD, qE, qF])
  refine wpAnyN_take (i := 8) (v := undef) rfl (by kernel_rfl) (by kernel_rfl) (by kernel_rfl) (by kernel_rfl) (fun _ _ _ h => h) (Or.inr ⟨by rfl, rfl⟩) S7 ?_
  (try simp only [Act.put, qA, qB, qC, qD, qE, qF])
  refine wpAnyN_take (i := 9) (v := undef) rfl (by kernel_rfl) (by kernel_rfl) (by kernel_rfl) (by kernel_rfl) (fun _ _ _ h => h) (Or.inr ⟨by rfl, rfl⟩) S7 ?_
  (try simp only [Act.put, qA, qB, qC, qD, qE, qF])
  refine wpAnyN_take (i := 10) (v := undef) rfl (by kernel_rfl) (by kernel_rfl) (by kernel_rfl) (by kernel_rfl) (fun _ _ _ h => h) (Or.inr ⟨by rfl, rfl⟩) S7 ?_
  (try simp only [Act.put, qA, qB, qC, qD, qE, qF])
  refine wpAnyN_take (i := 11) (v := undef) rfl (by kernel_rfl) (by kernel_rfl) (by kernel_rfl) (by kernel_rfl) (fun _ _ _ h => h) (Or.inr ⟨by rfl, rfl⟩) S7 ?_
  (try simp only [Act.put, qA, qB, qC, qD, qE, qF])
  refine wpAnyN_take (i := 12) (v := undef) rfl (by kernel_rfl) (by kernel_rfl) (by kernel_rfl) (by kernel_rfl) (fun _ _ _ h => h) (Or.inr ⟨by rfl, rfl⟩) S7 ?_
  (try simp only [Act.put, qA, qB, qC, qD, qE, qF])
  refine wpAnyN_take (i := 13) (v := undef) rfl (by kernel_rfl) (by kernel_rfl) (by kernel_rfl) (by kernel_rfl) (fun _ _ _ h => h) (Or.inr ⟨by rfl, rfl⟩) S7 ?_
  (try simp only [Act.put, qA, qB, qC, qD, qE, qF])
  refine wpAnyN_take (i := 14) (v := undef) rfl (by kernel_rfl) (by kernel_rfl) (by kernel_rfl) (by kernel_rfl) (fun _ _ _ h => h) (Or.inr ⟨by rfl, rfl⟩) S7 ?_
  (try simp only [Act.put, qA, qB, qC, qD, qE, qF])
  refine tkO (i := 15) (v := ?_) rfl (Or.inl ⟨by rfl, ?_⟩) S7 ?_
  rotate_left
  · intro w' hS'
    obtain ⟨h0, h1, h2, h3, h4, h5, h6, h7, h8⟩ := hS'
    (try go_simp)
    first | done | exact rfl | exact ⟨rfl, rfl⟩
  (try simp only [Act.put, qA, qB, qC, qD, qE, qF])
  refine tkO (i := 16) (v := ?_) rfl (Or.inl ⟨by rfl, ?_⟩) S7 ?_
  rotate_left
  · intro w' hS'
    obtain ⟨h0, h1, h2, h3, h4, h5, h6, h7, h8⟩ := hS'
    (try go_simp)
    first | done | exact rfl | exact ⟨rfl, rfl⟩
  (try simp only [Act.put, qA, qB, qC, qD, qE, qF])
  refine wpAnyN_done (by kernel_rfl) ?_ _
  have BE : Hid (Below w.heap.size w w106) := below_next B0.out BL
  clear BL BA HS HR
  go_wp2
  go_ret
  exact ⟨rfl, BE.out⟩

set_option maxRecDepth 20000 in
set_option maxHeartbeats 1000000 in
theorem ins2_tx (lv mv : Value) (fb fo ib io : Nat) (rg : Int) (x : Lo) (av dv : Value) (w : World) (hop : x.op = 2) (hr : w.cell? ⟨fb, fo + 1, none⟩ = some (.int .i64 rg)) (hx : RowAt w ib io (loC x av dv)) (g0 : rgB rg x.d = true) :
    Calls Tryd.prog 22 #[.agg #[lv, mv, .pointer (some ⟨fb, fo, none⟩)], .pointer (some ⟨ib, io, none⟩)] w fun e w' => e = .returned (.bool (rdB rg x.a)) ∧ Below w.heap.size w w' := by
  have B0 : Hid (Below w.heap.size w (w.alloc (.cells #[lv, mv, .pointer (some ⟨fb, fo, none⟩)] 62))) := below_alloc _ _
  have HS : Hid (∀ w', Below (w.alloc (.cells #[lv, mv, .pointer (some ⟨fb, fo, none⟩)] 62)).heap.size (w.alloc (.cells #[lv, mv, .pointer (some ⟨fb, fo, none⟩)] 62)) w' → w'.cell? ⟨w.heap.size, 0, none⟩ = some lv ∧ w'.cell? ⟨w.heap.size, 1, none⟩ = some mv ∧ w'.cell? ⟨w.heap.size, 2, none⟩ = some (.pointer (some ⟨fb, fo, none⟩)) ∧ w'.cell? ⟨ib, io, none⟩ = some (.int .i64 2) ∧ w'.cell? ⟨ib, io + 1, none⟩ = some (.int .i64 x.d) ∧ w'.cell? ⟨ib, io + 2, none⟩ = some (.int .i64 x.a) ∧ w'.cell? ⟨ib, io + 3, none⟩ = some (.int .i64 x.b) ∧ w'.cell? ⟨ib, io + 4, none⟩ = some (.int .i64 x.n) ∧ w'.cell? ⟨ib, io + 5, none⟩ = some (.string x.tx)) := fun w' hb => by
    have hb2 := below_next B0.out hb
    have hA := (At.new w #[lv, mv, .pointer (some ⟨fb, fo, none⟩)] 62).below hb (by simp)
    exact ⟨hA.cell 0, hA.cell 1, hA.cell 2, hop ▸ kp_cell (hx.at 0 rfl) hb2, kp_cell (hx.at 1 rfl) hb2, kp_cell (hx.at 2 rfl) hb2, kp_cell (hx.at 3 rfl) hb2, kp_cell (hx.at 4 rfl) hb2, kp_cell (hx.at 5 rfl) hb2⟩
  have HR : Hid (w.cell? ⟨fb, fo + 1, none⟩ = some (.int .i64 rg)) := hr
  obtain ⟨c0, c1, c2, c3, c4, c5, c6, c7, c8⟩ := HS.out _ (Below.refl _ _)
  clear hr hx hop
  have G0 : Hid (rgB rg x.d = true) := g0
  clear g0
  go_enter Tryd.func22, Tryd.ntmps22
  go_wp2
  have BA : Hid (Below (w.alloc (.cells #[lv, mv, .pointer (some ⟨fb, fo, none⟩)] 62)).heap.size (w.alloc (.cells #[lv, mv, .pointer (some ⟨fb, fo, none⟩)] 62)) (w.alloc (.cells #[lv, mv, .pointer (some ⟨fb, fo, none⟩)] 62))) := Below.refl _ _
  clear c0 c1 c2 c3 c4 c5 c6 c7 c8
  generalize w.alloc (.cells #[lv, mv, .pointer (some ⟨fb, fo, none⟩)] 62) = w0 at *
  refine wp_region_N (fun w' => w'.cell? ⟨w.heap.size, 0, none⟩ = some lv ∧ w'.cell? ⟨w.heap.size, 1, none⟩ = some mv ∧ w'.cell? ⟨w.heap.size, 2, none⟩ = some (.pointer (some ⟨fb, fo, none⟩)) ∧ w'.cell? ⟨ib, io, none⟩ = some (.int .i64 2) ∧ w'.cell? ⟨ib, io + 1, none⟩ = some (.int .i64 x.d) ∧ w'.cell? ⟨ib, io + 2, none⟩ = some (.int .i64 x.a) ∧ w'.cell? ⟨ib, io + 3, none⟩ = some (.int .i64 x.b) ∧ w'.cell? ⟨ib, io + 4, none⟩ = some (.int .i64 x.n) ∧ w'.cell? ⟨ib, io + 5, none⟩ = some (.string x.tx)) (fun _ => true) mixed (HS.out _ (below_next BA.out (below_drew _))) ?_
  intro S0
  have BL : Below w0.heap.size w0 w0.drew := below_next BA.out (below_drew _)
  generalize w0.drew = wd at *
  refine tkO (i := 0) (v := ?_) rfl (Or.inl ⟨by rfl, ?_⟩) S0 ?_
  rotate_left
  · intro w' hS'
    obtain ⟨h0, h1, h2, h3, h4, h5, h6, h7, h8⟩ := hS'
    (try go_simp)
    first | done | exact rfl | exact ⟨rfl, rfl⟩
  (try simp only [Act.put, qA, qC, qD, qE, qF])
  refine tkO (i := 1) (v := ?_) rfl (Or.inl ⟨by rfl, ?_⟩) S0 ?_
  rotate_left
  · intro w' hS'
    obtain ⟨h0, h1, h2, h3, h4, h5, h6, h7, h8⟩ := hS'
    (try go_simp)
    first | done | exact rfl | exact ⟨rfl, rfl⟩
  (try simp only [Act.put, qA, qB, qC, qD, qE, qF])
  refine tkO (i := 2) (v := ?_) rfl (Or.inl ⟨by rfl, ?_⟩) S0 ?_
  rotate_left
  · intro w' hS'
    obtain ⟨h0, h1, h2, h3, h4, h5, h6, h7, h8⟩ := hS'
    (try go_simp)
    first | done | exact rfl | exact ⟨rfl, rfl⟩
  (try simp only [Act.put, qA, qB, qC, qD, qE, qF])
  refine tkO (i := 3) (v := ?_) rfl (Or.inl ⟨by rfl, ?_⟩) S0 ?_
  rotate_left
  · intro w' hS'
    obtain ⟨h0, h1, h2, h3, h4, h5, h6, h7, h8⟩ := hS'
    (try go_simp)
    first | done | exact rfl | exact ⟨rfl, rfl⟩
  (try simp only [Act.put, qA, qB, qC, qD, qE, qF])
  refine tkO (i := 4) (v := ?_) rfl (Or.inl ⟨by rfl, ?_⟩) S0 ?_
  rotate_left
  · intro w' hS'
    obtain ⟨h0, h1, h2, h3, h4, h5, h6, h7, h8⟩ := hS'
    (try go_simp)
    first | done | exact rfl | exact ⟨rfl, rfl⟩
  (try simp only [Act.put, qA, qB, qC, qD, qE, qF])
  refine wpAnyN_one (i := 5) (by kernel_rfl) rfl (fun K hK => ?_)
  go_simp
  have N5 := nos_one (w := wd) x.d
  have BL := below_next BL (below_alloc wd (.cells #[.int .i64 x.d] 3))
  have S6 := HS.out _ BL
  generalize wd.alloc (.cells #[.int .i64 x.d] 3) = wb5 at *
  refine hK _ _ (fun _ => S6) ?_
  clear hK K
  (try simp only [Act.put, qA, qB, qC, qD, qE, qF])
  refine wpAnyN_one (i := 6) (by kernel_rfl) rfl (fun K hK => ?_)
  go_simp
  (go_at_call 21; refine Calls.mono (sets_c _ _ fb fo rg _ _ _ (kp_cell HR.out (below_next B0.out BL)) N5) ?_; rintro e w106 ⟨rfl, hb6⟩)
  rw [setsB_one]
  rw [G0.out]
  have BL := below_next BL hb6
  have S7 := HS.out _ BL
  clear hb6
  go_wp2_with fail
  refine hK _ _ (fun _ => S7) ?_
  clear hK K
  (try simp only [Act.put, qA, qB, qC, qD, qE, qF])
  refine tkO (i := 7) (v := ?_) rfl (Or.inl ⟨by rfl, ?_⟩) S7 ?_
  rotate_left
  · intro w' hS'
    obtain ⟨h0, h1, h2, h3, h4, h5, h6, h7, h8⟩ := hS'
    (try go_simp)
    first | done | exact rfl | exact ⟨rfl, rfl⟩
  (try simp only [Act.put, qA, qB, qC, qD, qE, qF])
  refine tkO (i := 8) (v := ?_) rfl (Or.inl ⟨by rfl, ?_⟩) S7 ?_
  rotate_left
  · intro w' hS'
    obtain ⟨h0, h1, h2, h3, h4, h5, h6, h7, h8⟩ := hS'
    (try go_simp)
    first | done | exact rfl | exact ⟨rfl, rfl⟩
  (try simp only [Act.put, qA, qB, qC, qD, qE, qF])
  refine tkO (i := 9) (v := ?_) rfl (Or.inl ⟨by rfl, ?_⟩) S7 ?_
  rotate_left
  · intro w' hS'
    obtain ⟨h0, h1, h2, h3, h4, h5, h6, h7, h8⟩ := hS'
    (try go_simp)
    first | done | exact rfl | exact ⟨rfl, rfl⟩
  (try simp only [Act.put, qA, qB, qC, qD, qE, qF])
  refine tkO (i := 10) (v := ?_) rfl (Or.inl ⟨by rfl, ?_⟩) S7 ?_
  rotate_left
  · intro w' hS'
    obtain ⟨h0, h1, h2, h3, h4, h5, h6, h7, h8⟩ := hS'
    (try go_simp)
    first | done | exact rfl | exact ⟨rfl, rfl⟩
  (try simp only [Act.put, qA, qB, qC, qD, qE, qF])
  refine tkO (i := 11) (v := ?_) rfl (Or.inl ⟨by rfl, ?_⟩) S7 ?_
  rotate_left
  · intro w' hS'
    obtain ⟨h0, h1, h2, h3, h4, h5, h6, h7, h8⟩ := hS'
    (try go_simp)
    first | done | exact rfl | exact ⟨rfl, rfl⟩
  (try simp only [Act.put, qA, qB, qC, qD, qE, qF])
  refine tkO (i := 12) (v := ?_) rfl (Or.inl ⟨by rfl, ?_⟩) S7 ?_
  rotate_left
  · intro w' hS'
    obtain ⟨h0, h1, h2, h3, h4, h5, h6, h7, h8⟩ := hS'
    (try go_simp)
    first | done | exact rfl | exact ⟨rfl, rfl⟩
  (try simp only [Act.put, qA, qB, qC, qD, qE, qF])
  refine wpAnyN_one (i := 13) (by kernel_rfl) rfl (fun K hK => ?_)
  go_simp
  have N13 := nos_one (w := w106) x.a
  have BL := below_next BL (below_alloc w106 (.cells #[.int .i64 x.a] 3))
  have S14 := HS.out _ BL
  generalize w106.alloc (.cells #[.int .i64 x.a] 3) = wb13 at *
  refine hK _ _ (fun _ => S14) ?_
  clear hK K
  (try simp only [Act.put, qA, qB, qC, qD, qE, qF])
  refine wpAnyN_one (i := 14) (by kernel_rfl) rfl (fun K hK => ?_)
  go_simp
  (go_at_call 28; refine Calls.mono (reads_c _ _ fb fo rg _ _ _ (kp_cell HR.out (below_next B0.out BL)) N13) ?_; rintro e w114 ⟨rfl, hb14⟩)
  rw [readsB_one]
  have BL := below_next BL hb14
  have S15 := HS.out _ BL
  clear hb14
  go_wp2_with fail
  refine hK _ _ (fun _ => S15) ?_
  clear hK K
  (try simp only [Act.put, qA, qB, qC, qD, qE, qF])
  refine tkO (i := 15) (v := ?_) rfl (Or.inl ⟨by rfl, ?_⟩) S15 ?_
  rotate_left
  · intro w' hS'
    obtain ⟨h0, h1, h2, h3, h4, h5, h6, h7, h8⟩ := hS'
    (try go_simp)
    first | done | exact rfl | exact ⟨rfl, rfl⟩
  (try simp only [Act.put, qA, qB, qC, qD, qE, qF])
  refine tkO (i := 16) (v := ?_) rfl (Or.inl ⟨by rfl, ?_⟩) S15 ?_
  rotate_left
  · intro w' hS'
    obtain ⟨h0, h1, h2, h3, h4, h5, h6, h7, h8⟩ := hS'
    (try go_simp)
    first | done | exact rfl | exact ⟨rfl, rfl⟩
  (try simp only [Act.put, qA, qB, qC, qD, qE, qF])
  refine wpAnyN_done (by kernel_rfl) ?_ _
  have BE : Hid (Below w.heap.size w w114) := below_next B0.out BL
  clear BL BA HS HR
  go_wp2
  go_ret
  exact ⟨rfl, BE.out⟩

set_option maxRecDepth 20000 in
set_option maxHeartbeats 1000000 in
theorem ins8_x (lv mv : Value) (fb fo ib io : Nat) (rg : Int) (x : Lo) (av dv : Value) (w : World) (hop : x.op = 8) (hr : w.cell? ⟨fb, fo + 1, none⟩ = some (.int .i64 rg)) (hx : RowAt w ib io (loC x av dv)) :
    Calls Tryd.prog 22 #[.agg #[lv, mv, .pointer (some ⟨fb, fo, none⟩)], .pointer (some ⟨ib, io, none⟩)] w fun e w' => e = .returned (.bool (rdB rg x.a)) ∧ Below w.heap.size w w' := by
  have B0 : Hid (Below w.heap.size w (w.alloc (.cells #[lv, mv, .pointer (some ⟨fb, fo, none⟩)] 62))) := below_alloc _ _
  have HS : Hid (∀ w', Below (w.alloc (.cells #[lv, mv, .pointer (some ⟨fb, fo, none⟩)] 62)).heap.size (w.alloc (.cells #[lv, mv, .pointer (some ⟨fb, fo, none⟩)] 62)) w' → w'.cell? ⟨w.heap.size, 0, none⟩ = some lv ∧ w'.cell? ⟨w.heap.size, 1, none⟩ = some mv ∧ w'.cell? ⟨w.heap.size, 2, none⟩ = some (.pointer (some ⟨fb, fo, none⟩)) ∧ w'.cell? ⟨ib, io, none⟩ = some (.int .i64 8) ∧ w'.cell? ⟨ib, io + 1, none⟩ = some (.int .i64 x.d) ∧ w'.cell? ⟨ib, io + 2, none⟩ = some (.int .i64 x.a) ∧ w'.cell? ⟨ib, io + 3, none⟩ = some (.int .i64 x.b) ∧ w'.cell? ⟨ib, io + 4, none⟩ = some (.int .i64 x.n) ∧ w'.cell? ⟨ib, io + 5, none⟩ = some (.string x.tx)) := fun w' hb => by
    have hb2 := below_next B0.out hb
    have hA := (At.new w #[lv, mv, .pointer (some ⟨fb, fo, none⟩)] 62).below hb (by simp)
    exact ⟨hA.cell 0, hA.cell 1, hA.cell 2, hop ▸ kp_cell (hx.at 0 rfl) hb2, kp_cell (hx.at 1 rfl) hb2, kp_cell (hx.at 2 rfl) hb2, kp_cell (hx.at 3 rfl) hb2, kp_cell (hx.at 4 rfl) hb2, kp_cell (hx.at 5 rfl) hb2⟩
  have HR : Hid (w.cell? ⟨fb, fo + 1, none⟩ = some (.int .i64 rg)) := hr
  obtain ⟨c0, c1, c2, c3, c4, c5, c6, c7, c8⟩ := HS.out _ (Below.refl _ _)
  clear hr hx hop
  go_enter Tryd.func22, Tryd.ntmps22
  go_wp2
  have BA : Hid (Below (w.alloc (.cells #[lv, mv, .pointer (some ⟨fb, fo, none⟩)] 62)).heap.size (w.alloc (.cells #[lv, mv, .pointer (some ⟨fb, fo, none⟩)] 62)) (w.alloc (.cells #[lv, mv, .pointer (some ⟨fb, fo, none⟩)] 62))) := Below.refl _ _
  clear c0 c1 c2 c3 c4 c5 c6 c7 c8
  generalize w.alloc (.cells #[lv, mv, .pointer (some ⟨fb, fo, none⟩)] 62) = w0 at *
  refine wp_region_N (fun w' => w'.cell? ⟨w.heap.size, 0, none⟩ = some lv ∧ w'.cell? ⟨w.heap.size, 1, none⟩ = some mv ∧ w'.cell? ⟨w.heap.size, 2, none⟩ = some (.pointer (some ⟨fb, fo, none⟩)) ∧ w'.cell? ⟨ib, io, none⟩ = some (.int .i64 8) ∧ w'.cell? ⟨ib, io + 1, none⟩ = some (.int .i64 x.d) ∧ w'.cell? ⟨ib, io + 2, none⟩ = some (.int .i64 x.a) ∧ w'.cell? ⟨ib, io + 3, none⟩ = some (.int .i64 x.b) ∧ w'.cell? ⟨ib, io + 4, none⟩ = some (.int .i64 x.n) ∧ w'.cell? ⟨ib, io + 5, none⟩ = some (.string x.tx)) (fun _ => true) mixed (HS.out _ (below_next BA.out (below_drew _))) ?_
  intro S0
  have BL : Below w0.heap.size w0 w0.drew := below_next BA.out (below_drew _)
  generalize w0.drew = wd at *
  refine tkO (i := 0) (v := ?_) rfl (Or.inl ⟨by rfl, ?_⟩) S0 ?_
  rotate_left
  · intro w' hS'
    obtain ⟨h0, h1, h2, h3, h4, h5, h6, h7, h8⟩ := hS'
    (try go_simp)
    first | done | exact rfl | exact ⟨rfl, rfl⟩
  (try simp only [Act.put, qA, qC, qD, qE, qF])
  refine tkO (i := 1) (v := ?_) rfl (Or.inl ⟨by rfl, ?_⟩) S0 ?_
  rotate_left
  · intro w' hS'
    obtain ⟨h0, h1, h2, h3, h4, h5, h6, h7, h8⟩ := hS'
    (try go_simp)
    first | done | exact rfl | exact ⟨rfl, rfl⟩
  (try simp only [Act.put, qA, qB, qC, qD, qE, qF])
  refine tkO (i := 2) (v := ?_) rfl (Or.inl ⟨by rfl, ?_⟩) S0 ?_
  rotate_left
  · intro w' hS'
    obtain ⟨h0, h1, h2, h3, h4, h5, h6, h7, h8⟩ := hS'
    (try go_simp)
    first | done | exact rfl | exact ⟨rfl, rfl⟩
  (try simp only [Act.put, qA, qB, qC, qD, qE, qF])
  refine tkO (i := 3) (v := ?_) rfl (Or.inl ⟨by rfl, ?_⟩) S0 ?_
  rotate_left
  · intro w' hS'
    obtain ⟨h0, h1, h2, h3, h4, h5, h6, h7, h8⟩ := hS'
    (try go_simp)
    first | done | exact rfl | exact ⟨rfl, rfl⟩
  (try simp only [Act.put, qA, qB, qC, qD, qE, qF])
  refine tkO (i := 4) (v := ?_) rfl (Or.inl ⟨by rfl, ?_⟩) S0 ?_
  rotate_left
  · intro w' hS'
    obtain ⟨h0, h1, h2, h3, h4, h5, h6, h7, h8⟩ := hS'
    (try go_simp)
    first | done | exact rfl | exact ⟨rfl, rfl⟩
  (try simp only [Act.put, qA, qB, qC, qD, qE, qF])
  refine wpAnyN_one (i := 5) (by kernel_rfl) rfl (fun K hK => ?_)
  go_simp
  have N5 := nos_one (w := wd) x.a
  have BL := below_next BL (below_alloc wd (.cells #[.int .i64 x.a] 3))
  have S6 := HS.out _ BL
  generalize wd.alloc (.cells #[.int .i64 x.a] 3) = wb5 at *
  refine hK _ _ (fun _ => S6) ?_
  clear hK K
  (try simp only [Act.put, qA, qB, qC, qD, qE, qF])
  refine wpAnyN_one (i := 6) (by kernel_rfl) rfl (fun K hK => ?_)
  go_simp
  (go_at_call 28; refine Calls.mono (reads_c _ _ fb fo rg _ _ _ (kp_cell HR.out (below_next B0.out BL)) N5) ?_; rintro e w106 ⟨rfl, hb6⟩)
  rw [readsB_one]
  have BL := below_next BL hb6
  have S7 := HS.out _ BL
  clear hb6
  go_wp2_with fail
  refine hK _ _ (fun _ => S7) ?_
  clear hK K
  (try simp only [Act.put, qA, qB, qC, qD, qE, qF])
  refine tkO (i := 7) (v := ?_) rfl (Or.inl ⟨by rfl, ?_⟩) S7 ?_
  rotate_left
  · intro w' hS'
    obtain ⟨h0, h1, h2, h3, h4, h5, h6, h7, h8⟩ := hS'
    (try go_simp)
    first | done | exact rfl | exact ⟨rfl, rfl⟩
  (try simp only [Act.put, qA, qB, qC, qD, qE, qF])
  refine wpAnyN_done (by kernel_rfl) ?_ _
  have BE : Hid (Below w.heap.size w w106) := below_next B0.out BL
  clear BL BA HS HR
  go_wp2
  go_ret
  exact ⟨rfl, BE.out⟩

set_option maxRecDepth 20000 in
set_option maxHeartbeats 1000000 in
theorem ins11_x (lv mv : Value) (fb fo ib io : Nat) (rg : Int) (x : Lo) (av dv : Value) (w : World) (hop : x.op = 11) (hr : w.cell? ⟨fb, fo + 1, none⟩ = some (.int .i64 rg)) (hx : RowAt w ib io (loC x av dv)) :
    Calls Tryd.prog 22 #[.agg #[lv, mv, .pointer (some ⟨fb, fo, none⟩)], .pointer (some ⟨ib, io, none⟩)] w fun e w' => e = .returned (.bool (rdB rg x.a)) ∧ Below w.heap.size w w' := by
  have B0 : Hid (Below w.heap.size w (w.alloc (.cells #[lv, mv, .pointer (some ⟨fb, fo, none⟩)] 62))) := below_alloc _ _
  have HS : Hid (∀ w', Below (w.alloc (.cells #[lv, mv, .pointer (some ⟨fb, fo, none⟩)] 62)).heap.size (w.alloc (.cells #[lv, mv, .pointer (some ⟨fb, fo, none⟩)] 62)) w' → w'.cell? ⟨w.heap.size, 0, none⟩ = some lv ∧ w'.cell? ⟨w.heap.size, 1, none⟩ = some mv ∧ w'.cell? ⟨w.heap.size, 2, none⟩ = some (.pointer (some ⟨fb, fo, none⟩)) ∧ w'.cell? ⟨ib, io, none⟩ = some (.int .i64 11) ∧ w'.cell? ⟨ib, io + 1, none⟩ = some (.int .i64 x.d) ∧ w'.cell? ⟨ib, io + 2, none⟩ = some (.int .i64 x.a) ∧ w'.cell? ⟨ib, io + 3, none⟩ = some (.int .i64 x.b) ∧ w'.cell? ⟨ib, io + 4, none⟩ = some (.int .i64 x.n) ∧ w'.cell? ⟨ib, io + 5, none⟩ = some (.string x.tx)) := fun w' hb => by
    have hb2 := below_next B0.out hb
    have hA := (At.new w #[lv, mv, .pointer (some ⟨fb, fo, none⟩)] 62).below hb (by simp)
    exact ⟨hA.cell 0, hA.cell 1, hA.cell 2, hop ▸ kp_cell (hx.at 0 rfl) hb2, kp_cell (hx.at 1 rfl) hb2, kp_cell (hx.at 2 rfl) hb2, kp_cell (hx.at 3 rfl) hb2, kp_cell (hx.at 4 rfl) hb2, kp_cell (hx.at 5 rfl) hb2⟩
  have HR : Hid (w.cell? ⟨fb, fo + 1, none⟩ = some (.int .i64 rg)) := hr
  obtain ⟨c0, c1, c2, c3, c4, c5, c6, c7, c8⟩ := HS.out _ (Below.refl _ _)
  clear hr hx hop
  go_enter Tryd.func22, Tryd.ntmps22
  go_wp2
  have BA : Hid (Below (w.alloc (.cells #[lv, mv, .pointer (some ⟨fb, fo, none⟩)] 62)).heap.size (w.alloc (.cells #[lv, mv, .pointer (some ⟨fb, fo, none⟩)] 62)) (w.alloc (.cells #[lv, mv, .pointer (some ⟨fb, fo, none⟩)] 62))) := Below.refl _ _
  clear c0 c1 c2 c3 c4 c5 c6 c7 c8
  generalize w.alloc (.cells #[lv, mv, .pointer (some ⟨fb, fo, none⟩)] 62) = w0 at *
  refine wp_region_N (fun w' => w'.cell? ⟨w.heap.size, 0, none⟩ = some lv ∧ w'.cell? ⟨w.heap.size, 1, none⟩ = some mv ∧ w'.cell? ⟨w.heap.size, 2, none⟩ = some (.pointer (some ⟨fb, fo, none⟩)) ∧ w'.cell? ⟨ib, io, none⟩ = some (.int .i64 11) ∧ w'.cell? ⟨ib, io + 1, none⟩ = some (.int .i64 x.d) ∧ w'.cell? ⟨ib, io + 2, none⟩ = some (.int .i64 x.a) ∧ w'.cell? ⟨ib, io + 3, none⟩ = some (.int .i64 x.b) ∧ w'.cell? ⟨ib, io + 4, none⟩ = some (.int .i64 x.n) ∧ w'.cell? ⟨ib, io + 5, none⟩ = some (.string x.tx)) (fun _ => true) mixed (HS.out _ (below_next BA.out (below_drew _))) ?_
  intro S0
  have BL : Below w0.heap.size w0 w0.drew := below_next BA.out (below_drew _)
  generalize w0.drew = wd at *
  refine tkO (i := 0) (v := ?_) rfl (Or.inl ⟨by rfl, ?_⟩) S0 ?_
  rotate_left
  · intro w' hS'
    obtain ⟨h0, h1, h2, h3, h4, h5, h6, h7, h8⟩ := hS'
    (try go_simp)
    first | done | exact rfl | exact ⟨rfl, rfl⟩
  (try simp only [Act.put, qA, qC, qD, qE, qF])
  refine tkO (i := 1) (v := ?_) rfl (Or.inl ⟨by rfl, ?_⟩) S0 ?_
  rotate_left
  · intro w' hS'
    obtain ⟨h0, h1, h2, h3, h4, h5, h6, h7, h8⟩ := hS'
    (try go_simp)
    first | done | exact rfl | exact ⟨rfl, rfl⟩
  (try simp only [Act.put, qA, qB, qC, qD, qE, qF])
  refine tkO (i := 2) (v := ?_) rfl (Or.inl ⟨by rfl, ?_⟩) S0 ?_
  rotate_left
  · intro w' hS'
    obtain ⟨h0, h1, h2, h3, h4, h5, h6, h7, h8⟩ := hS'
    (try go_simp)
    first | done | exact rfl | exact ⟨rfl, rfl⟩
  (try simp only [Act.put, qA, qB, qC, qD, qE, qF])
  refine tkO (i := 3) (v := ?_) rfl (Or.inl ⟨by rfl, ?_⟩) S0 ?_
  rotate_left
  · intro w' hS'
    obtain ⟨h0, h1, h2, h3, h4, h5, h6, h7, h8⟩ := hS'
    (try go_simp)
    first | done | exact rfl | exact ⟨rfl, rfl⟩
  (try simp only [Act.put, qA, qB, qC, qD, qE, qF])
  refine tkO (i := 4) (v := ?_) rfl (Or.inl ⟨by rfl, ?_⟩) S0 ?_
  rotate_left
  · intro w' hS'
    obtain ⟨h0, h1, h2, h3, h4, h5, h6, h7, h8⟩ := hS'
    (try go_simp)
    first | done | exact rfl | exact ⟨rfl, rfl⟩
  (try simp only [Act.put, qA, qB, qC, qD, qE, qF])
  refine wpAnyN_one (i := 5) (by kernel_rfl) rfl (fun K hK => ?_)
  go_simp
  have N5 := nos_one (w := wd) x.a
  have BL := below_next BL (below_alloc wd (.cells #[.int .i64 x.a] 3))
  have S6 := HS.out _ BL
  generalize wd.alloc (.cells #[.int .i64 x.a] 3) = wb5 at *
  refine hK _ _ (fun _ => S6) ?_
  clear hK K
  (try simp only [Act.put, qA, qB, qC, qD, qE, qF])
  refine wpAnyN_one (i := 6) (by kernel_rfl) rfl (fun K hK => ?_)
  go_simp
  (go_at_call 28; refine Calls.mono (reads_c _ _ fb fo rg _ _ _ (kp_cell HR.out (below_next B0.out BL)) N5) ?_; rintro e w106 ⟨rfl, hb6⟩)
  rw [readsB_one]
  have BL := below_next BL hb6
  have S7 := HS.out _ BL
  clear hb6
  go_wp2_with fail
  refine hK _ _ (fun _ => S7) ?_
  clear hK K
  (try simp only [Act.put, qA, qB, qC, qD, qE, qF])
  refine tkO (i := 7) (v := ?_) rfl (Or.inl ⟨by rfl, ?_⟩) S7 ?_
  rotate_left
  · intro w' hS'
    obtain ⟨h0, h1, h2, h3, h4, h5, h6, h7, h8⟩ := hS'
    (try go_simp)
    first | done | exact rfl | exact ⟨rfl, rfl⟩
  (try simp only [Act.put, qA, qB, qC, qD, qE, qF])
  refine wpAnyN_done (by kernel_rfl) ?_ _
  have BE : Hid (Below w.heap.size w w106) := below_next B0.out BL
  clear BL BA HS HR
  go_wp2
  go_ret
  exact ⟨rfl, BE.out⟩

end Go.Proofs.YtapgaclonilnbaaDoor
