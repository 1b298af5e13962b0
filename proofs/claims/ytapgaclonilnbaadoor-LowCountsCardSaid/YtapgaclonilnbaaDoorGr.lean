/-
  Proved: what the checker's instr answers of instructions 5, 6.
-/
import Derived.Test.YtapgaclonilnbaaDoorGn
namespace Go.Proofs.YtapgaclonilnbaaDoor
open Go.RowKit
set_option linter.unusedVariables false
set_option linter.unusedSimpArgs false

set_option maxRecDepth 20000 in
set_option maxHeartbeats 1000000 in
theorem ins5_f (lv mv : Value) (fb fo ib io : Nat) (rg : Int) (x : Lo) (av dv : Value) (w : World) (hop : x.op = 5) (hr : w.cell? ⟨fb, fo + 1, none⟩ = some (.int .i64 rg)) (hx : RowAt w ib io (loC x av dv)) (g0 : fitB x.n false = false) :
    Calls Tryd.prog 22 #[.agg #[lv, mv, .pointer (some ⟨fb, fo, none⟩)], .pointer (some ⟨ib, io, none⟩)] w fun e w' => e = .returned (.bool (false)) ∧ Below w.heap.size w w' := by
  have B0 : Hid (Below w.heap.size w (w.alloc (.cells #[lv, mv, .pointer (some ⟨fb, fo, none⟩)] 62))) := below_alloc _ _
  have HS : Hid (∀ w', Below (w.alloc (.cells #[lv, mv, .pointer (some ⟨fb, fo, none⟩)] 62)).heap.size (w.alloc (.cells #[lv, mv, .pointer (some ⟨fb, fo, none⟩)] 62)) w' → w'.cell? ⟨w.heap.size, 0, none⟩ = some lv ∧ w'.cell? ⟨w.heap.size, 1, none⟩ = some mv ∧ w'.cell? ⟨w.heap.size, 2, none⟩ = some (.pointer (some ⟨fb, fo, none⟩)) ∧ w'.cell? ⟨ib, io, none⟩ = some (.int .i64 5) ∧ w'.cell? ⟨ib, io + 1, none⟩ = some (.int .i64 x.d) ∧ w'.cell? ⟨ib, io + 2, none⟩ = some (.int .i64 x.a) ∧ w'.cell? ⟨ib, io + 3, none⟩ = some (.int .i64 x.b) ∧ w'.cell? ⟨ib, io + 4, none⟩ = some (.int .i64 x.n) ∧ w'.cell? ⟨ib, io + 5, none⟩ = some (.string x.tx)) := fun w' hb => by
    have hb2 := below_next B0.out hb
    have hA := (At.new w #[lv, mv, .pointer (some ⟨fb, fo, none⟩)] 62).below hb (by simp)
    exact ⟨hA.cell 0, hA.cell 1, hA.cell 2, hop ▸ kp_cell (hx.at 0 rfl) hb2, kp_cell (hx.at 1 rfl) hb2, kp_cell (hx.at 2 rfl) hb2, kp_cell (hx.at 3 rfl) hb2, kp_cell (hx.at 4 rfl) hb2, kp_cell (hx.at 5 rfl) hb2⟩
  have HR : Hid (w.cell? ⟨fb, fo + 1, none⟩ = some (.int .i64 rg)) := hr
  obtain ⟨c0, c1, c2, c3, c4, c5, c6, c7, c8⟩ := HS.out _ (Below.refl _ _)
  clear hr hx hop
  have G0 : Hid (fitB x.n false = false) := g0
  clear g0
  go_enter Tryd.func22, Tryd.ntmps22
  go_wp2
  have BA : Hid (Below (w.alloc (.cells #[lv, mv, .pointer (some ⟨fb, fo, none⟩)] 62)).heap.size (w.alloc (.cells #[lv, mv, .pointer (some ⟨fb, fo, none⟩)] 62)) (w.alloc (.cells #[lv, mv, .pointer (some ⟨fb, fo, none⟩)] 62))) := Below.refl _ _
  clear c0 c1 c2 c3 c4 c5 c6 c7 c8
  generalize w.alloc (.cells #[lv, mv, .pointer (some ⟨fb, fo, none⟩)] 62) = w0 at *
  refine wp_region_N (fun w' => w'.cell? ⟨w.heap.size, 0, none⟩ = some lv ∧ w'.cell? ⟨w.heap.size, 1, none⟩ = some mv ∧ w'.cell? ⟨w.heap.size, 2, none⟩ = some (.pointer (some ⟨fb, fo, none⟩)) ∧ w'.cell? ⟨ib, io, none⟩ = some (.int .i64 5) ∧ w'.cell? ⟨ib, io + 1, none⟩ = some (.int .i64 x.d) ∧ w'.cell? ⟨ib, io + 2, none⟩ = some (.int .i64 x.a) ∧ w'.cell? ⟨ib, io + 3, none⟩ = some (.int .i64 x.b) ∧ w'.cell? ⟨ib, io + 4, none⟩ = some (.int .i64 x.n) ∧ w'.cell? ⟨ib, io + 5, none⟩ = some (.string x.tx)) (fun _ => true) mixed (HS.out _ (below_next BA.out (below_drew _))) ?_
  intro S0
  have BL : Below w0.heap.size w0 w0.drew := below_next BA.out (below_drew _)
  generalize w0.drew = wd at *
  refine tkO (i := 0) (v := ?_) rfl (Or.inl ⟨by rfl, ?_⟩) S0 ?_
  rotate_left
  · intro w' hS'
    obtain ⟨h0, h1, h2, h3, h4, h5, h6, h7, h8⟩ := hS'
    (try go_simp)
    first | done | exact rfl | exact ⟨rfl, rfl⟩
  (try simp only [Act.put, qA, qC, qD, qE, qF])
  refine tkO (i := 1) (v := ?_) rfl (Or.inl ⟨by rfl, ?_⟩) S0 ?_
  rotate_left
  · intro w' hS'
    obtain ⟨h0, h1, h2, h3, h4, h5, h6, h7, h8⟩ := hS'
    (try go_simp)
    first | done | exact rfl | exact ⟨rfl, rfl⟩
  (try simp only [Act.put, qA, qB, qC, qD, qE, qF])
  refine tkO (i := 2) (v := ?_) rfl (Or.inl ⟨by rfl, ?_⟩) S0 ?_
  rotate_left
  · intro w' hS'
    obtain ⟨h0, h1, h2, h3, h4, h5, h6, h7, h8⟩ := hS'
    (try go_simp)
    first | done | exact rfl | exact ⟨rfl, rfl⟩
  (try simp only [Act.put, qA, qB, qC, qD, qE, qF])
  refine tkO (i := 3) (v := ?_) rfl (Or.inl ⟨by rfl, ?_⟩) S0 ?_
  rotate_left
  · intro w' hS'
    obtain ⟨h0, h1, h2, h3, h4, h5, h6, h7, h8⟩ := hS'
    (try go_simp)
    first | done | exact rfl | exact ⟨rfl, rfl⟩
  (try simp only [Act.put, qA, qB, qC, qD, qE, qF])
  refine wpAnyN_one (i := 4) (by kernel_rfl) rfl (fun K hK => ?_)
  go_simp
  (go_at_call 32; refine Calls.mono (fits_f _ _) ?_; rintro e w104 ⟨rfl, hb4⟩)
  rw [G0.out]
  have BL : Below w0.heap.size w0 w104 := hb4 ▸ BL
  have S5 := HS.out _ BL
  clear hb4
  go_wp2_with fail
  refine hK _ _ (fun _ => S5) ?_
  clear hK K
  (try simp only [Act.put, qA, qB, qC, qD, qE, qF])
  refine tkO (i := 5) (v := ?_) rfl (Or.inl ⟨by rfl, ?_⟩) S5 ?_
  rotate_left
  · intro w' hS'
    obtain ⟨h0, h1, h2, h3, h4, h5, h6, h7, h8⟩ := hS'
    (try go_simp)
    first | done | exact rfl | exact ⟨rfl, rfl⟩
  (try simp only [Act.put, qA, qB, qC, qD, qE, qF])
  refine wpAnyN_take (i := 6) (v := undef) rfl (by kernel_rfl) (by kernel_rfl) (by kernel_rfl) (by kernel_rfl) (fun _ _ _ h => h) (Or.inr ⟨by rfl, rfl⟩) S5 ?_
  (try simp only [Act.put, qA, qB, qC, qD, qE, qF])
  refine wpAnyN_take (i := 7) (v := undef) rfl (by kernel_rfl) (by kernel_rfl) (by kernel_rfl) (by kernel_rfl) (fun _ _ _ h => h) (Or.inr ⟨by rfl, rfl⟩) S5 ?_
  (try simp only [Act.put, qA, qB, qC, qD, qE, qF])
  refine wpAnyN_take (i := 8) (v := undef) rfl (by kernel_rfl) (by kernel_rfl) (by kernel_rfl) (by kernel_rfl) (fun _ _ _ h => h) (Or.inr ⟨by rfl, rfl⟩) S5 ?_
  (try simp only [Act.put, qA, qB, qC, qD, qE, qF])
  refine wpAnyN_take (i := 9) (v := undef) rfl (by kernel_rfl) (by kernel_rfl) (by kernel_rfl) (by kernel_rfl) (fun _ _ _ h => h) (Or.inr ⟨by rfl, rfl⟩) S5 ?_
  (try simp only [Act.put, qA, qB, qC, qD, qE, qF])
  refine wpAnyN_take (i := 10) (v := undef) rfl (by kernel_rfl) (by kernel_rfl) (by kernel_rfl) (by kernel_rfl) (fun _ _ _ h => h) (Or.inr ⟨by rfl, rfl⟩) S5 ?_
  (try simp only [Act.put, qA, qB, qC, qD, qE, qF])
  refine wpAnyN_take (i := 11) (v := undef) rfl (by kernel_rfl) (by kernel_rfl) (by kernel_rfl) (by kernel_rfl) (fun _ _ _ h => h) (Or.inr ⟨by rfl, rfl⟩) S5 ?_
  (try simp only [Act.put, qA, qB, qC, qD, qE, qF])
  refine wpAnyN_take (i := 12) (v := undef) rfl (by kernel_rfl) (by kernel_rfl) (by kernel_rfl) (by kernel_rfl) (fun _ _ _ h => h) (Or.inr ⟨by rfl, rfl⟩) S5 ?_
  (try simp only [Act.put, qA, qB, qC, qD, qE, qF])
  refine tkO (i := 13) (v := ?_) rfl (Or.inl ⟨by rfl, ?_⟩) S5 ?_
  rotate_left
  · intro w' hS'
    obtain ⟨h0, h1, h2, h3, h4, h5, h6, h7, h8⟩ := hS'
    (try go_simp)
    first | done | exact rfl | exact ⟨rfl, rfl⟩
  (try simp only [Act.put, qA, qB, qC, qD, qE, qF])
  refine tkO (i := 14) (v := ?_) rfl (Or.inl ⟨by rfl, ?_⟩) S5 ?_
  rotate_left
  · intro w' hS'
    obtain ⟨h0, h1, h2, h3, h4, h5, h6, h7, h8⟩ := hS'
    (try go_simp)
    first | done | exact rfl | exact ⟨rfl, rfl⟩
  (try simp only [Act.put, qA, qB, qC, qD, qE, qF])
  refine wpAnyN_take (i := 15) (v := undef) rfl (by kernel_rfl) (by kernel_rfl) (by kernel_rfl) (by kernel_rfl) (fun _ _ _ h => h) (Or.inr ⟨by rfl, rfl⟩) S5 ?_
  (try simp only [Act.put, qA, qB, qC, qD, qE, qF])
  refine wpAnyN_take (i := 16) (v := undef) rfl (by kernel_rfl) (by kernel_rfl) (by kernel_rfl) (by kernel_rfl) (fun _ _ _ h => h) (Or.inr ⟨by rfl, rfl⟩) S5 ?_
  (try simp only [Act.put, qA, qB, qC, qD, qE, qF])
  refine wpAnyN_take (i := 17) (v := undef) rfl (by kernel_rfl) (by kernel_rfl) (by kernel_rfl) (by kernel_rfl) (fun _ _ _ h => h) (Or.inr ⟨by rfl, rfl⟩) S5 ?_
  (try simp only [Act.put, qA, qB, qC, qD, qE, qF])
  refine wpAnyN_take (i := 18) (v := undef) rfl (by kernel_rfl) (by kernel_rfl) (by kernel_rfl) (by kernel_rfl) (fun _ _ _ h => h) (Or.inr ⟨by rfl, rfl⟩) S5 ?_
  (try simp only [Act.put, qA, qB, qC, qD, qE, qF])
  refine wpAnyN_take (i := 19) (v := undef) rfl (by kernel_rfl) (by kernel_rfl) (by kernel_rfl) (by kernel_rfl) (fun _ _ _ h => h) (Or.inr ⟨by rfl, rfl⟩) S5 ?_
  (try simp only [Act.put, qA, qB, qC, qD, qE, qF])
  refine wpAnyN_take (i := 20) (v := undef) rfl (by kernel_rfl) (by kernel_rfl) (by kernel_rfl) (by kernel_rfl) (fun _ _ _ h => h) (Or.inr ⟨by rfl, rfl⟩) S5 ?_
  (try simp only [Act.put, qA, qB, qC, qD, qE, qF])
  refine tkO (i := 21) (v := ?_) rfl (Or.inl ⟨by rfl, ?_⟩) S5 ?_
  rotate_left
  · intro w' hS'
    obtain ⟨h0, h1, h2, h3, h4, h5, h6, h7, h8⟩ := hS'
    (try go_simp)
    first | done | exact rfl | exact ⟨rfl, rfl⟩
  (try simp only [Act.put, qA, qB, qC, qD, qE, qF])
  refine tkO (i := 22) (v := ?_) rfl (Or.inl ⟨by rfl, ?_⟩) S5 ?_
  rotate_left
  · intro w' hS'
    obtain ⟨h0, h1, h2, h3, h4, h5, h6, h7, h8⟩ := hS'
    (try go_simp)
    first | done | exact rfl | exact ⟨rfl, rfl⟩
  (try simp only [Act.put, qA, qB, qC, qD, qE, qF])
  refine wpAnyN_done (by kernel_rfl) ?_ _
  have BE : Hid (Below w.heap.size w w104) := below_next B0.out BL
  clear BL BA HS HR
  go_wp2
  go_ret
  exact ⟨rfl, BE.out⟩

set_option maxRecDepth 20000 in
set_option maxHeartbeats 1000000 in
theorem ins5_tf (lv mv : Value) (fb fo ib io : Nat) (rg : Int) (x : Lo) (av dv : Value) (w : World) (hop : x.op = 5) (hr : w.cell? ⟨fb, fo + 1, none⟩ = some (.int .i64 rg)) (hx : RowAt w ib io (loC x av dv)) (g0 : fitB x.n false = true) (g1 : rgB rg x.d = false) :
    Calls Tryd.prog 22 #[.agg #[lv, mv, .pointer (some ⟨fb, fo, none⟩)], .pointer (some ⟨ib, io, none⟩)] w fun e w' => e = .returned (.bool (false)) ∧ Below w.heap.size w w' := by
  have B0 : Hid (Below w.heap.size w (w.alloc (.cells #[lv, mv, .pointer (some ⟨fb, fo, none⟩)] 62))) := below_alloc _ _
  have HS : Hid (∀ w', Below (w.alloc (.cells #[lv, mv, .pointer (some ⟨fb, fo, none⟩)] 62)).heap.size (w.alloc (.cells #[lv, mv, .pointer (some ⟨fb, fo, none⟩)] 62)) w' → w'.cell? ⟨w.heap.size, 0, none⟩ = some lv ∧ w'.cell? ⟨w.heap.size, 1, none⟩ = some mv ∧ w'.cell? ⟨w.heap.size, 2, none⟩ = some (.pointer (some ⟨fb, fo, none⟩)) ∧ w'.cell? ⟨ib, io, none⟩ = some (.int .i64 5) ∧ w'.cell? ⟨ib, io + 1, none⟩ = some (.int .i64 x.d) ∧ w'.cell? ⟨ib, io + 2, none⟩ = some (.int .i64 x.a) ∧ w'.cell? ⟨ib, io + 3, none⟩ = some (.int .i64 x.b) ∧ w'.cell? ⟨ib, io + 4, none⟩ = some (.int .i64 x.n) ∧ w'.cell? ⟨ib, io + 5, none⟩ = some (.string x.tx)) := fun w' hb => by
    have hb2 := below_next B0.out hb
    have hA := (At.new w #[lv, mv, .pointer (some ⟨fb, fo, none⟩)] 62).below hb (by simp)
    exact ⟨hA.cell 0, hA.cell 1, hA.cell 2, hop ▸ kp_cell (hx.at 0 rfl) hb2, kp_cell (hx.at 1 rfl) hb2, kp_cell (hx.at 2 rfl) hb2, kp_cell (hx.at 3 rfl) hb2, kp_cell (hx.at 4 rfl) hb2, kp_cell (hx.at 5 rfl) hb2⟩
  have HR : Hid (w.cell? ⟨fb, fo + 1, none⟩ = some (.int .i64 rg)) := hr
  obtain ⟨c0, c1, c2, c3, c4, c5, c6, c7, c8⟩ := HS.out _ (Below.refl _ _)
  clear hr hx hop
  have G0 : Hid (fitB x.n false = true) := g0
  have G1 : Hid (rgB rg x.d = false) := g1
  clear g0 g1
  go_enter Tryd.func22, Tryd.ntmps22
  go_wp2
  have BA : Hid (Below (w.alloc (.cells #[lv, mv, .pointer (some ⟨fb, fo, none⟩)] 62)).heap.size (w.alloc (.cells #[lv, mv, .pointer (some ⟨fb, fo, none⟩)] 62)) (w.alloc (.cells #[lv, mv, .pointer (some ⟨fb, fo, none⟩)] 62))) := Below.refl _ _
  clear c0 c1 c2 c3 c4 c5 c6 c7 c8
  generalize w.alloc (.cells #[lv, mv, .pointer (some ⟨fb, fo, none⟩)] 62) = w0 at *
  refine wp_region_N (fun w' => w'.cell? ⟨w.heap.size, 0, none⟩ = some lv ∧ w'.cell? ⟨w.heap.size, 1, none⟩ = some mv ∧ w'.cell? ⟨w.heap.size, 2, none⟩ = some (.pointer (some ⟨fb, fo, none⟩)) ∧ w'.cell? ⟨ib, io, none⟩ = some (.int .i64 5) ∧ w'.cell? ⟨ib, io + 1, none⟩ = some (.int .i64 x.d) ∧ w'.cell? ⟨ib, io + 2, none⟩ = some (.int .i64 x.a) ∧ w'.cell? ⟨ib, io + 3, none⟩ = some (.int .i64 x.b) ∧ w'.cell? ⟨ib, io + 4, none⟩ = some (.int .i64 x.n) ∧ w'.cell? ⟨ib, io + 5, none⟩ = some (.string x.tx)) (fun _ => true) mixed (HS.out _ (below_next BA.out (below_drew _))) ?_
  intro S0
  have BL : Below w0.heap.size w0 w0.drew := below_next BA.out (below_drew _)
  generalize w0.drew = wd at *
  refine tkO (i := 0) (v := ?_) rfl (Or.inl ⟨by rfl, ?_⟩) S0 ?_
  rotate_left
  · intro w' hS'
    obtain ⟨h0, h1, h2, h3, h4, h5, h6, h7, h8⟩ := hS'
    (try go_simp)
    first | done | exact rfl | exact ⟨rfl, rfl⟩
  (try simp only [Act.put, qA, qC, qD, qE, qF])
  refine tkO (i := 1) (v := ?_) rfl (Or.inl ⟨by rfl, ?_⟩) S0 ?_
  rotate_left
  · intro w' hS'
    obtain ⟨h0, h1, h2, h3, h4, h5, h6, h7, h8⟩ := hS'
    (try go_simp)
    first | done | exact rfl | exact ⟨rfl, rfl⟩
  (try simp only [Act.put, qA, qB, qC, qD, qE, qF])
  refine tkO (i := 2) (v := ?_) rfl (Or.inl ⟨by rfl, ?_⟩) S0 ?_
  rotate_left
  · intro w' hS'
    obtain ⟨h0, h1, h2, h3, h4, h5, h6, h7, h8⟩ := hS'
    (try go_simp)
    first | done | exact rfl | exact ⟨rfl, rfl⟩
  (try simp only [Act.put, qA, qB, qC, qD, qE, qF])
  refine tkO (i := 3) (v := ?_) rfl (Or.inl ⟨by rfl, ?_⟩) S0 ?_
  rotate_left
  · intro w' hS'
    obtain ⟨h0, h1, h2, h3, h4, h5, h6, h7, h8⟩ := hS'
    (try go_simp)
    first | done | exact rfl | exact ⟨rfl, rfl⟩
  (try simp only [Act.put, qA, qB, qC, qD, qE, qF])
  refine wpAnyN_one (i := 4) (by kernel_rfl) rfl (fun K hK => ?_)
  go_simp
  (go_at_call 32; refine Calls.mono (fits_f _ _) ?_; rintro e w104 ⟨rfl, hb4⟩)
  rw [G0.out]
  have BL : Below w0.heap.size w0 w104 := hb4 ▸ BL
  have S5 := HS.out _ BL
  clear hb4
  go_wp2_with fail
  refine hK _ _ (fun _ => S5) ?_
  clear hK K
  (try simp only [Act.put, qA, qB, qC, qD, qE, qF])
  refine tkO (i := 5) (v := ?_) rfl (Or.inl ⟨by rfl, ?_⟩) S5 ?_
  rotate_left
  · intro w' hS'
    obtain ⟨h0, h1, h2, h3, h4, h5, h6, h7, h8⟩ := hS'
    (try go_simp)
    first | done | exact rfl | exact ⟨rfl, rfl⟩
  (try simp only [Act.put, qA, qB, qC, qD, qE, qF])
  refine tkO (i := 6) (v := ?_) rfl (Or.inl ⟨by rfl, ?_⟩) S5 ?_
  rotate_left
  · intro w' hS'
    obtain ⟨h0, h1, h2, h3, h4, h5, h6, h7, h8⟩ := hS'
    (try go_simp)
    first | done | exact rfl | exact ⟨rfl, rfl⟩
  (try simp only [Act.put, qA, qB, qC, qD, qE, qF])
  refine tkO (i := 7) (v := ?_) rfl (Or.inl ⟨by rfl, ?_⟩) S5 ?_
  rotate_left
  · intro w' hS'
    obtain ⟨h0, h1, h2, h3, h4, h5, h6, h7, h8⟩ := hS'
    (try go_simp)
    first | done | exact rfl | exact ⟨rfl, rfl⟩
  (try simp only [Act.put, qA, qB, qC, qD, qE, qF])
  refine tkO (i := 8) (v := ?_) rfl (Or.inl ⟨by rfl, ?_⟩) S5 ?_
  rotate_left
  · intro w' hS'
    obtain ⟨h0, h1, h2, h3, h4, h5, h6, h7, h8⟩ := hS'
    (try go_simp)
    first | done | exact rfl | exact ⟨rfl, rfl⟩
  (try simp only [Act.put, qA, qB, qC, qD, qE, qF])
  refine tkO (i := 9) (v := ?_) rfl (Or.inl ⟨by rfl, ?_⟩) S5 ?_
  rotate_left
  · intro w' hS'
    obtain ⟨h0, h1, h2, h3, h4, h5, h6, h7, h8⟩ := hS'
    (try go_simp)
    first | done | exact rfl | exact ⟨rfl, rfl⟩
  (try simp only [Act.put, qA, qB, qC, qD, qE, qF])
  refine tkO (i := 10) (v := ?_) rfl (Or.inl ⟨by rfl, ?_⟩) S5 ?_
  rotate_left
  · intro w' hS'
    obtain ⟨h0, h1, h2, h3, h4, h5, h6, h7, h8⟩ := hS'
    (try go_simp)
    first | done | exact rfl | exact ⟨rfl, rfl⟩
  (try simp only [Act.put, qA, qB, qC, qD, qE, qF])
  refine wpAnyN_one (i := 11) (by kernel_rfl) rfl (fun K hK => ?_)
  go_simp
  have N11 := nos_one (w := w104) x.d
  have BL := below_next BL (below_alloc w104 (.cells #[.int .i64 x.d] 3))
  have S12 := HS.out _ BL
  generalize w104.alloc (.cells #[.int .i64 x.d] 3) = wb11 at *
  refine hK _ _ (fun _ => S12) ?_
  clear hK K
  (try simp only [Act.put, qA, qB, qC, qD, qE, qF])
  refine wpAnyN_one (i := 12) (by kernel_rfl) rfl (fun K hK => ?_)
  go_simp
  (go_at_call 21; refine Calls.mono (sets_c _ _ fb fo rg _ _ _ (kp_cell HR.out (below_next B0.out BL)) N11) ?_; rintro e w112 ⟨rfl, hb12⟩)
  rw [setsB_one]
  rw [G1.out]
  have BL := below_next BL hb12
  have S13 := HS.out _ BL
  clear hb12
  go_wp2_with fail
  refine hK _ _ (fun _ => S13) ?_
  clear hK K
  (try simp only [Act.put, qA, qB, qC, qD, qE, qF])
  refine tkO (i := 13) (v := ?_) rfl (Or.inl ⟨by rfl, ?_⟩) S13 ?_
  rotate_left
  · intro w' hS'
    obtain ⟨h0, h1, h2, h3, h4, h5, h6, h7, h8⟩ := hS'
    (try go_simp)
    first | done | exact rfl | exact ⟨rfl, rfl⟩
  (try simp only [Act.put, qA, qB, qC, qD, qE, qF])
  refine tkO (i := 14) (v := ?_) rfl (Or.inl ⟨by rfl, ?_⟩) S13 ?_
  rotate_left
  · intro w' hS'
    obtain ⟨h0, h1, h2, h3, h4, h5, h6, h7, h8⟩ := hS'
    (try go_simp)
    first | done | exact rfl | exact ⟨rfl, rfl⟩
  (try simp only [Act.put, qA, qB, qC, qD, qE, qF])
  refine wpAnyN_take (i := 15) (v := undef) rfl (by kernel_rfl) (by kernel_rfl) (by kernel_rfl) (by kernel_rfl) (fun _ _ _ h => h) (Or.inr ⟨by rfl, rfl⟩) S13 ?_
  (try simp only [Act.put, qA, qB, qC, qD, qE, qF])
  refine wpAnyN_take (i := 16) (v := undef) rfl (by kernel_rfl) (by kernel_rfl) (by kernel_rfl) (by kernel_rfl) (fun _ _ _ h => h) (Or.inr ⟨by rfl, rfl⟩) S13 ?_
  (try simp only [Act.put, qA, qB, qC, qD, qE, qF])
  refine wpAnyN_take (i := 17) (v := undef) rfl (by kernel_rfl) (by kernel_rfl) (by kernel_rfl) (by kernel_rfl) (fun _ _ _ h => h) (Or.inr ⟨by rfl, rfl⟩) S13 ?_
  (try simp only [Act.put, qA, qB, qC, qD, qE, qF])
  refine wpAnyN_take (i := 18) (v := undef) rfl (by kernel_rfl) (by kernel_rfl) (by kernel_rfl) (by kernel_rfl) (fun _ _ _ h => h) (Or.inr ⟨by rfl, rfl⟩) S13 ?_
  (try simp only [Act.put, qA, qB, qC, qD, qE, qF])
  refine wpAnyN_take (i := 19) (v := undef) rfl (by kernel_rfl) (by kernel_rfl) (by kernel_rfl) (by kernel_rfl) (fun _ _ _ h => h) (Or.inr ⟨by rfl, rfl⟩) S13 ?_
  (try simp only [Act.put, qA, qB, qC, qD, qE, qF])
  refine wpAnyN_take (i := 20) (v := undef) rfl (by kernel_rfl) (by kernel_rfl) (by kernel_rfl) (by kernel_rfl) (fun _ _ _ h => h) (Or.inr ⟨by rfl, rfl⟩) S13 ?_
  (try simp only [Act.put, qA, qB, qC, qD, qE, qF])
  refine tkO (i := 21) (v := ?_) rfl (Or.inl ⟨by rfl, ?_⟩) S13 ?_
  rotate_left
  · intro w' hS'
    obtain ⟨h0, h1, h2, h3, h4, h5, h6, h7, h8⟩ := hS'
    (try go_simp)
    first | done | exact rfl | exact ⟨rfl, rfl⟩
  (try simp only [Act.put, qA, qB, qC, qD, qE, qF])
  refine tkO (i := 22) (v := ?_) rfl (Or.inl ⟨by rfl, ?_⟩) S13 ?_
  rotate_left
  · intro w' hS'
    obtain ⟨h0, h1, h2, h3, h4, h5, h6, h7, h8⟩ := hS'
    (try go_simp)
    first | done | exact rfl | exact ⟨rfl, rfl⟩
  (try simp only [Act.put, qA, qB, qC, qD, qE, qF])
  refine wpAnyN_done (by kernel_rfl) ?_ _
  have BE : Hid (Below w.heap.size w w112) := below_next B0.out BL
  clear BL BA HS HR
  go_wp2
  go_ret
  exact ⟨rfl, BE.out⟩

set_option maxRecDepth 20000 in
set_option maxHeartbeats 1000000 in
theorem ins5_ttx (lv mv : Value) (fb fo ib io : Nat) (rg : Int) (x : Lo) (av dv : Value) (w : World) (hop : x.op = 5) (hr : w.cell? ⟨fb, fo + 1, none⟩ = some (.int .i64 rg)) (hx : RowAt w ib io (loC x av dv)) (g0 : fitB x.n false = true) (g1 : rgB rg x.d = true) :
    Calls Tryd.prog 22 #[.agg #[lv, mv, .pointer (some ⟨fb, fo, none⟩)], .pointer (some ⟨ib, io, none⟩)] w fun e w' => e = .returned (.bool (bgB rg x.a)) ∧ Below w.heap.size w w' := by
  have B0 : Hid (Below w.heap.size w (w.alloc (.cells #[lv, mv, .pointer (some ⟨fb, fo, none⟩)] 62))) := below_alloc _ _
  have HS : Hid (∀ w', Below (w.alloc (.cells #[lv, mv, .pointer (some ⟨fb, fo, none⟩)] 62)).heap.size (w.alloc (.cells #[lv, mv, .pointer (some ⟨fb, fo, none⟩)] 62)) w' → w'.cell? ⟨w.heap.size, 0, none⟩ = some lv ∧ w'.cell? ⟨w.heap.size, 1, none⟩ = some mv ∧ w'.cell? ⟨w.heap.size, 2, none⟩ = some (.pointer (some ⟨fb, fo, none⟩)) ∧ w'.cell? ⟨ib, io, none⟩ = some (.int .i64 5) ∧ w'.cell? ⟨ib, io + 1, none⟩ = some (.int .i64 x.d) ∧ w'.cell? ⟨ib, io + 2, none⟩ = some (.int .i64 x.a) ∧ w'.cell? ⟨ib, io + 3, none⟩ = some (.int .i64 x.b) ∧ w'.cell? ⟨ib, io + 4, none⟩ = some (.int .i64 x.n) ∧ w'.cell? ⟨ib, io + 5, none⟩ = some (.string x.tx)) := fun w' hb => by
    have hb2 := below_next B0.out hb
    have hA := (At.new w #[lv, mv, .pointer (some ⟨fb, fo, none⟩)] 62).below hb (by simp)
    exact ⟨hA.cell 0, hA.cell 1, hA.cell 2, hop ▸ kp_cell (hx.at 0 rfl) hb2, kp_cell (hx.at 1 rfl) hb2, kp_cell (hx.at 2 rfl) hb2, kp_cell (hx.at 3 rfl) hb2, kp_cell (hx.at 4 rfl) hb2, kp_cell (hx.at 5 rfl) hb2⟩
  have HR : Hid (w.cell? ⟨fb, fo + 1, none⟩ = some (.int .i64 rg)) := hr
  obtain ⟨c0, c1, c2, c3, c4, c5, c6, c7, c8⟩ := HS.out _ (Below.refl _ _)
  clear hr hx hop
  have G0 : Hid (fitB x.n false = true) := g0
  have G1 : Hid (rgB rg x.d = true) := g1
  clear g0 g1
  go_enter Tryd.func22, Tryd.ntmps22
  go_wp2
  have BA : Hid (Below (w.alloc (.cells #[lv, mv, .pointer (some ⟨fb, fo, none⟩)] 62)).heap.size (w.alloc (.cells #[lv, mv, .pointer (some ⟨fb, fo, none⟩)] 62)) (w.alloc (.cells #[lv, mv, .pointer (some ⟨fb, fo, none⟩)] 62))) := Below.refl _ _
  clear c0 c1 c2 c3 c4 c5 c6 c7 c8
  generalize w.alloc (.cells #[lv, mv, .pointer (some ⟨fb, fo, none⟩)] 62) = w0 at *
  refine wp_region_N (fun w' => w'.cell? ⟨w.heap.size, 0, none⟩ = some lv ∧ w'.cell? ⟨w.heap.size, 1, none⟩ = some mv ∧ w'.cell? ⟨w.heap.size, 2, none⟩ = some (.pointer (some ⟨fb, fo, none⟩)) ∧ w'.cell? ⟨ib, io, none⟩ = some (.int .i64 5) ∧ w'.cell? ⟨ib, io + 1, none⟩ = some (.int .i64 x.d) ∧ w'.cell? ⟨ib, io + 2, none⟩ = some (.int .i64 x.a) ∧ w'.cell? ⟨ib, io + 3, none⟩ = some (.int .i64 x.b) ∧ w'.cell? ⟨ib, io + 4, none⟩ = some (.int .i64 x.n) ∧ w'.cell? ⟨ib, io + 5, none⟩ = some (.string x.tx)) (fun _ => true) mixed (HS.out _ (below_next BA.out (below_drew _))) ?_
  intro S0
  have BL : Below w0.heap.size w0 w0.drew := below_next BA.out (below_drew _)
  generalize w0.drew = wd at *
  refine tkO (i := 0) (v := ?_) rfl (Or.inl ⟨by rfl, ?_⟩) S0 ?_
  rotate_left
  · intro w' hS'
    obtain ⟨h0, h1, h2, h3, h4, h5, h6, h7, h8⟩ := hS'
    (try go_simp)
    first | done | exact rfl | exact ⟨rfl, rfl⟩
  (try simp only [Act.put, qA, qC, qD, qE, qF])
  refine tkO (i := 1) (v := ?_) rfl (Or.inl ⟨by rfl, ?_⟩) S0 ?_
  rotate_left
  · intro w' hS'
    obtain ⟨h0, h1, h2, h3, h4, h5, h6, h7, h8⟩ := hS'
    (try go_simp)
    first | done | exact rfl | exact ⟨rfl, rfl⟩
  (try simp only [Act.put, qA, qB, qC, qD, qE, qF])
  refine tkO (i := 2) (v := ?_) rfl (Or.inl ⟨by rfl, ?_⟩) S0 ?_
  rotate_left
  · intro w' hS'
    obtain ⟨h0, h1, h2, h3, h4, h5, h6, h7, h8⟩ := hS'
    (try go_simp)
    first | done | exact rfl | exact ⟨rfl, rfl⟩
  (try simp only [Act.put, qA, qB, qC, qD, qE, qF])
  refine tkO (i := 3) (v := ?_) rfl (Or.inl ⟨by rfl, ?_⟩) S0 ?_
  rotate_left
  · intro w' hS'
    obtain ⟨h0, h1, h2, h3, h4, h5, h6, h7, h8⟩ := hS'
    (try go_simp)
    first | done | exact rfl | exact ⟨rfl, rfl⟩
  (try simp only [Act.put, qA, qB, qC, qD, qE, qF])
  refine wpAnyN_one (i := 4) (by kernel_rfl) rfl (fun K hK => ?_)
  go_simp
  (go_at_call 32; refine Calls.mono (fits_f _ _) ?_; rintro e w104 ⟨rfl, hb4⟩)
  rw [G0.out]
  have BL : Below w0.heap.size w0 w104 := hb4 ▸ BL
  have S5 := HS.out _ BL
  clear hb4
  go_wp2_with fail
  refine hK _ _ (fun _ => S5) ?_
  clear hK K
  (try simp only [Act.put, qA, qB, qC, qD, qE, qF])
  refine tkO (i := 5) (v := ?_) rfl (Or.inl ⟨by rfl, ?_⟩) S5 ?_
  rotate_left
  · intro w' hS'
    obtain ⟨h0, h1, h2, h3, h4, h5, h6, h7, h8⟩ := hS'
    (try go_simp)
    first | done | exact rfl | exact ⟨rfl, rfl⟩
  (try simp only [Act.put, qA, qB, qC, qD, qE, qF])
  refine tkO (i := 6) (v := ?_) rfl (Or.inl ⟨by rfl, ?_⟩) S5 ?_
  rotate_left
  · intro w' hS'
    obtain ⟨h0, h1, h2, h3, h4, h5, h6, h7, h8⟩ := hS'
    (try go_simp)
    first | done | exact rfl | exact ⟨rfl, rfl⟩
  (try simp only [Act.put, qA, qB, qC, qD, qE, qF])
  refine tkO (i := 7) (v := ?_) rfl (Or.inl ⟨by rfl, ?_⟩) S5 ?_
  rotate_left
  · intro w' hS'
    obtain ⟨h0, h1, h2, h3, h4, h5, h6, h7, h8⟩ := hS'
    (try go_simp)
    first | done | exact rfl | exact ⟨rfl, rfl⟩
  (try simp only [Act.put, qA, qB, qC, qD, qE, qF])
  refine tkO (i := 8) (v := ?_) rfl (Or.inl ⟨by rfl, ?_⟩) S5 ?_
  rotate_left
  · intro w' hS'
    obtain ⟨h0, h1, h2, h3, h4, h5, h6, h7, h8⟩ := hS'
    (try go_simp)
    first | done | exact rfl | exact ⟨rfl, rfl⟩
  (try simp only [Act.put, qA, qB, qC, qD, qE, qF])
  refine tkO (i := 9) (v := ?_) rfl (Or.inl ⟨by rfl, ?_⟩) S5 ?_
  rotate_left
  · intro w' hS'
    obtain ⟨h0, h1, h2, h3, h4, h5, h6, h7, h8⟩ := hS'
    (try go_simp)
    first | done | exact rfl | exact ⟨rfl, rfl⟩
  (try simp only [Act.put, qA, qB, qC, qD, qE, qF])
  refine tkO (i := 10) (v := ?_) rfl (Or.inl ⟨by rfl, ?_⟩) S5 ?_
  rotate_left
  · intro w' hS'
    obtain ⟨h0, h1, h2, h3, h4, h5, h6, h7, h8⟩ := hS'
    (try go_simp)
    first | done | exact rfl | exact ⟨rfl, rfl⟩
  (try simp only [Act.put, qA, qB, qC, qD, qE, qF])
  refine wpAnyN_one (i := 11) (by kernel_rfl) rfl (fun K hK => ?_)
  go_simp
  have N11 := nos_one (w := w104) x.d
  have BL := below_next BL (below_alloc w104 (.cells #[.int .i64 x.d] 3))
  have S12 := HS.out _ BL
  generalize w104.alloc (.cells #[.int .i64 x.d] 3) = wb11 at *
  refine hK _ _ (fun _ => S12) ?_
  clear hK K
  (try simp only [Act.put, qA, qB, qC, qD, qE, qF])
  refine wpAnyN_one (i := 12) (by kernel_rfl) rfl (fun K hK => ?_)
  go_simp
  (go_at_call 21; refine Calls.mono (sets_c _ _ fb fo rg _ _ _ (kp_cell HR.out (below_next B0.out BL)) N11) ?_; rintro e w112 ⟨rfl, hb12⟩)
  rw [setsB_one]
  rw [G1.out]
  have BL := below_next BL hb12
  have S13 := HS.out _ BL
  clear hb12
  go_wp2_with fail
  refine hK _ _ (fun _ => S13) ?_
  clear hK K
  (try simp only [Act.put, qA, qB, qC, qD, qE, qF])
  refine tkO (i := 13) (v := ?_) rfl (Or.inl ⟨by rfl, ?_⟩) S13 ?_
  rotate_left
  · intro w' hS'
    obtain ⟨h0, h1, h2, h3, h4, h5, h6, h7, h8⟩ := hS'
    (try go_simp)
    first | done | exact rfl | exact ⟨rfl, rfl⟩
  (try simp only [Act.put, qA, qB, qC, qD, qE, qF])
  refine tkO (i := 14) (v := ?_) rfl (Or.inl ⟨by rfl, ?_⟩) S13 ?_
  rotate_left
  · intro w' hS'
    obtain ⟨h0, h1, h2, h3, h4, h5, h6, h7, h8⟩ := hS'
    (try go_simp)
    first | done | exact rfl | exact ⟨rfl, rfl⟩
  (try simp only [Act.put, qA, qB, qC, qD, qE, qF])
  refine tkO (i := 15) (v := ?_) rfl (Or.inl ⟨by rfl, ?_⟩) S13 ?_
  rotate_left
  · intro w' hS'
    obtain ⟨h0, h1, h2, h3, h4, h5, h6, h7, h8⟩ := hS'
    (try go_simp)
    first | done | exact rfl | exact ⟨rfl, rfl⟩
  (try simp only [Act.put, qA, qB, qC, qD, qE, qF])
  refine tkO (i := 16) (v := ?_) rfl (Or.inl ⟨by rfl, ?_⟩) S13 ?_
  rotate_left
  · intro w' hS'
    obtain ⟨h0, h1, h2, h3, h4, h5, h6, h7, h8⟩ := hS'
    (try go_simp)
    first | done | exact rfl | exact ⟨rfl, rfl⟩
  (try simp only [Act.put, qA, qB, qC, qD, qE, qF])
  refine tkO (i := 17) (v := ?_) rfl (Or.inl ⟨by rfl, ?_⟩) S13 ?_
  rotate_left
  · intro w' hS'
    obtain ⟨h0, h1, h2, h3, h4, h5, h6, h7, h8⟩ := hS'
    (try go_simp)
    first | done | exact rfl | exact ⟨rfl, rfl⟩
  (try simp only [Act.put, qA, qB, qC, qD, qE, qF])
  refine tkO (i := 18) (v := ?_) rfl (Or.inl ⟨by rfl, ?_⟩) S13 ?_
  rotate_left
  · intro w' hS'
    obtain ⟨h0, h1, h2, h3, h4, h5, h6, h7, h8⟩ := hS'
    (try go_simp)
    first | done | exact rfl | exact ⟨rfl, rfl⟩
  (try simp only [Act.put, qA, qB, qC, qD, qE, qF])
  refine tkO (i := 19) (v := ?_) rfl (Or.inl ⟨by rfl, ?_⟩) S13 ?_
  rotate_left
  · intro w' hS'
    obtain ⟨h0, h1, h2, h3, h4, h5, h6, h7, h8⟩ := hS'
    (try go_simp)
    first | done | exact rfl | exact ⟨rfl, rfl⟩
  (try simp only [Act.put, qA, qB, qC, qD, qE, qF])
  refine wpAnyN_one (i := 20) (by kernel_rfl) rfl (fun K hK => ?_)
  go_simp
  (go_at_call 31; refine Calls.mono (begins_c _ _ fb fo rg _ _ (kp_cell HR.out (below_next B0.out BL))) ?_; rintro e w120 ⟨rfl, hb20⟩)
  have BL := below_next BL hb20
  have S21 := HS.out _ BL
  clear hb20
  go_wp2_with fail
  refine hK _ _ (fun _ => S21) ?_
  clear hK K
  (try simp only [Act.put, qA, qB, qC, qD, qE, qF])
  refine tkO (i := 21) (v := ?_) rfl (Or.inl ⟨by rfl, ?_⟩) S21 ?_
  rotate_left
  · intro w' hS'
    obtain ⟨h0, h1, h2, h3, h4, h5, h6, h7, h8⟩ := hS'
    (try go_simp)
    first | done | exact rfl | exact ⟨rfl, rfl⟩
  (try simp only [Act.put, qA, qB, qC, qD, qE, qF])
  refine tkO (i := 22) (v := ?_) rfl (Or.inl ⟨by rfl, ?_⟩) S21 ?_
  rotate_left
  · intro w' hS'
    obtain ⟨h0, h1, h2, h3, h4, h5, h6, h7, h8⟩ := hS'
    (try go_simp)
    first | done | exact rfl | exact ⟨rfl, rfl⟩
  (try simp only [Act.put, qA, qB, qC, qD, qE, qF])
  refine wpAnyN_done (by kernel_rfl) ?_ _
  have BE : Hid (Below w.heap.size w w120) := below_next B0.out BL
  clear BL BA HS HR
  go_wp2
  go_ret
  exact ⟨rfl, BE.out⟩

set_option maxRecDepth 20000 in
set_option maxHeartbeats 1000000 in
theorem ins6_f (lv mv : Value) (fb fo ib io : Nat) (rg : Int) (x : Lo) (av dv : Value) (w : World) (hop : x.op = 6) (hr : w.cell? ⟨fb, fo + 1, none⟩ = some (.int .i64 rg)) (hx : RowAt w ib io (loC x av dv)) (g0 : fitB x.n false = false) :
    Calls Tryd.prog 22 #[.agg #[lv, mv, .pointer (some ⟨fb, fo, none⟩)], .pointer (some ⟨ib, io, none⟩)] w fun e w' => e = .returned (.bool (false)) ∧ Below w.heap.size w w' := by
  have B0 : Hid (Below w.heap.size w (w.alloc (.cells #[lv, mv, .pointer (some ⟨fb, fo, none⟩)] 62))) := below_alloc _ _
  have HS : Hid (∀ w', Below (w.alloc (.cells #[lv, mv, .pointer (some ⟨fb, fo, none⟩)] 62)).heap.size (w.alloc (.cells #[lv, mv, .pointer (some ⟨fb, fo, none⟩)] 62)) w' → w'.cell? ⟨w.heap.size, 0, none⟩ = some lv ∧ w'.cell? ⟨w.heap.size, 1, none⟩ = some mv ∧ w'.cell? ⟨w.heap.size, 2, none⟩ = some (.pointer (some ⟨fb, fo, none⟩)) ∧ w'.cell? ⟨ib, io, none⟩ = some (.int .i64 6) ∧ w'.cell? ⟨ib, io + 1, none⟩ = some (.int .i64 x.d) ∧ w'.cell? ⟨ib, io + 2, none⟩ = some (.int .i64 x.a) ∧ w'.cell? ⟨ib, io + 3, none⟩ = some (.int .i64 x.b) ∧ w'.cell? ⟨ib, io + 4, none⟩ = some (.int .i64 x.n) ∧ w'.cell? ⟨ib, io + 5, none⟩ = some (.string x.tx)) := fun w' hb => by
    have hb2 := below_next B0.out hb
    have hA := (At.new w #[lv, mv, .pointer (some ⟨fb, fo, none⟩)] 62).below hb (by simp)
    exact ⟨hA.cell 0, hA.cell 1, hA.cell 2, hop ▸ kp_cell (hx.at 0 rfl) hb2, kp_cell (hx.at 1 rfl) hb2, kp_cell (hx.at 2 rfl) hb2, kp_cell (hx.at 3 rfl) hb2, kp_cell (hx.at 4 rfl) hb2, kp_cell (hx.at 5 rfl) hb2⟩
  have HR : Hid (w.cell? ⟨fb, fo + 1, none⟩ = some (.int .i64 rg)) := hr
  obtain ⟨c0, c1, c2, c3, c4, c5, c6, c7, c8⟩ := HS.out _ (Below.refl _ _)
  clear hr hx hop
  have G0 : Hid (fitB x.n false = false) := g0
  clear g0
  go_enter Tryd.func22, Tryd.ntmps22
  go_wp2
  have BA : Hid (Below (w.alloc (.cells #[lv, mv, .pointer (some ⟨fb, fo, none⟩)] 62)).heap.size (w.alloc (.cells #[lv, mv, .pointer (some ⟨fb, fo, none⟩)] 62)) (w.alloc (.cells #[lv, mv, .pointer (some ⟨fb, fo, none⟩)] 62))) := Below.refl _ _
  clear c0 c1 c2 c3 c4 c5 c6 c7 c8
  generalize w.alloc (.cells #[lv, mv, .pointer (some ⟨fb, fo, none⟩)] 62) = w0 at *
  refine wp_region_N (fun w' => w'.cell? ⟨w.heap.size, 0, none⟩ = some lv ∧ w'.cell? ⟨w.heap.size, 1, none⟩ = some mv ∧ w'.cell? ⟨w.heap.size, 2, none⟩ = some (.pointer (some ⟨fb, fo, none⟩)) ∧ w'.cell? ⟨ib, io, none⟩ = some (.int .i64 6) ∧ w'.cell? ⟨ib, io + 1, none⟩ = some (.int .i64 x.d) ∧ w'.cell? ⟨ib, io + 2, none⟩ = some (.int .i64 x.a) ∧ w'.cell? ⟨ib, io + 3, none⟩ = some (.int .i64 x.b) ∧ w'.cell? ⟨ib, io + 4, none⟩ = some (.int .i64 x.n) ∧ w'.cell? ⟨ib, io + 5, none⟩ = some (.string x.tx)) (fun _ => true) mixed (HS.out _ (below_next BA.out (below_drew _))) ?_
  intro S0
  have BL : Below w0.heap.size w0 w0.drew := below_next BA.out (below_drew _)
  generalize w0.drew = wd at *
  refine tkO (i := 0) (v := ?_) rfl (Or.inl ⟨by rfl, ?_⟩) S0 ?_
  rotate_left
  · intro w' hS'
    obtain ⟨h0, h1, h2, h3, h4, h5, h6, h7, h8⟩ := hS'
    (try go_simp)
    first | done | exact rfl | exact ⟨rfl, rfl⟩
  (try simp only [Act.put, qA, qC, qD, qE, qF])
  refine tkO (i := 1) (v := ?_) rfl (Or.inl ⟨by rfl, ?_⟩) S0 ?_
  rotate_left
  · intro w' hS'
    obtain ⟨h0, h1, h2, h3, h4, h5, h6, h7, h8⟩ := hS'
    (try go_simp)
    first | done | exact rfl | exact ⟨rfl, rfl⟩
  (try simp only [Act.put, qA, qB, qC, qD, qE, qF])
  refine tkO (i := 2) (v := ?_) rfl (Or.inl ⟨by rfl, ?_⟩) S0 ?_
  rotate_left
  · intro w' hS'
    obtain ⟨h0, h1, h2, h3, h4, h5, h6, h7, h8⟩ := hS'
    (try go_simp)
    first | done | exact rfl | exact ⟨rfl, rfl⟩
  (try simp only [Act.put, qA, qB, qC, qD, qE, qF])
  refine tkO (i := 3) (v := ?_) rfl (Or.inl ⟨by rfl, ?_⟩) S0 ?_
  rotate_left
  · intro w' hS'
    obtain ⟨h0, h1, h2, h3, h4, h5, h6, h7, h8⟩ := hS'
    (try go_simp)
    first | done | exact rfl | exact ⟨rfl, rfl⟩
  (try simp only [Act.put, qA, qB, qC, qD, qE, qF])
  refine wpAnyN_one (i := 4) (by kernel_rfl) rfl (fun K hK => ?_)
  go_simp
  (go_at_call 32; refine Calls.mono (fits_f _ _) ?_; rintro e w104 ⟨rfl, hb4⟩)
  rw [G0.out]
  have BL : Below w0.heap.size w0 w104 := hb4 ▸ BL
  have S5 := HS.out _ BL
  clear hb4
  go_wp2_with fail
  refine hK _ _ (fun _ => S5) ?_
  clear hK K
  (try simp only [Act.put, qA, qB, qC, qD, qE, qF])
  refine tkO (i := 5) (v := ?_) rfl (Or.inl ⟨by rfl, ?_⟩) S5 ?_
  rotate_left
  · intro w' hS'
    obtain ⟨h0, h1, h2, h3, h4, h5, h6, h7, h8⟩ := hS'
    (try go_simp)
    first | done | exact rfl | exact ⟨rfl, rfl⟩
  (try simp only [Act.put, qA, qB, qC, qD, qE, qF])
  refine wpAnyN_take (i := 6) (v := undef) rfl (by kernel_rfl) (by kernel_rfl) (by kernel_rfl) (by kernel_rfl) (fun _ _ _ h => h) (Or.inr ⟨by rfl, rfl⟩) S5 ?_
  (try simp only [Act.put, qA, qB, qC, qD, qE, qF])
  refine wpAnyN_take (i := 7) (v := undef) rfl (by kernel_rfl) (by kernel_rfl) (by kernel_rfl) (by kernel_rfl) (fun _ _ _ h => h) (Or.inr ⟨by rfl, rfl⟩) S5 ?_
  (try simp only [Act.put, qA, qB, qC, qD, qE, qF])
  refine wpAnyN_take (i := 8) (v := undef) rfl (by kernel_rfl) (by kernel_rfl) (by kernel_rfl) (by kernel_rfl) (fun _ _ _ h => h) (Or.inr ⟨by rfl, rfl⟩) S5 ?_
  (try simp only [Act.put, qA, qB, qC, qD, qE, qF])
  refine wpAnyN_take (i := 9) (v := undef) rfl (by kernel_rfl) (by kernel_rfl) (by kernel_rfl) (by kernel_rfl) (fun _ _ _ h => h) (Or.inr ⟨by rfl, rfl⟩) S5 ?_
  (try simp only [Act.put, qA, qB, qC, qD, qE, qF])
  refine wpAnyN_take (i := 10) (v := undef) rfl (by kernel_rfl) (by kernel_rfl) (by kernel_rfl) (by kernel_rfl) (fun _ _ _ h => h) (Or.inr ⟨by rfl, rfl⟩) S5 ?_
  (try simp only [Act.put, qA, qB, qC, qD, qE, qF])
  refine wpAnyN_take (i := 11) (v := undef) rfl (by kernel_rfl) (by kernel_rfl) (by kernel_rfl) (by kernel_rfl) (fun _ _ _ h => h) (Or.inr ⟨by rfl, rfl⟩) S5 ?_
  (try simp only [Act.put, qA, qB, qC, qD, qE, qF])
  refine tkO (i := 12) (v := ?_) rfl (Or.inl ⟨by rfl, ?_⟩) S5 ?_
  rotate_left
  · intro w' hS'
    obtain ⟨h0, h1, h2, h3, h4, h5, h6, h7, h8⟩ := hS'
    (try go_simp)
    first | done | exact rfl | exact ⟨rfl, rfl⟩
  (try simp only [Act.put, qA, qB, qC, qD, qE, qF])
  refine tkO (i := 13) (v := ?_) rfl (Or.inl ⟨by rfl, ?_⟩) S5 ?_
  rotate_left
  · intro w' hS'
    obtain ⟨h0, h1, h2, h3, h4, h5, h6, h7, h8⟩ := hS'
    (try go_simp)
    first | done | exact rfl | exact ⟨rfl, rfl⟩
  (try simp only [Act.put, qA, qB, qC, qD, qE, qF])
  refine wpAnyN_take (i := 14) (v := undef) rfl (by kernel_rfl) (by kernel_rfl) (by kernel_rfl) (by kernel_rfl) (fun _ _ _ h => h) (Or.inr ⟨by rfl, rfl⟩) S5 ?_
  (try simp only [Act.put, qA, qB, qC, qD, qE, qF])
  refine wpAnyN_take (i := 15) (v := undef) rfl (by kernel_rfl) (by kernel_rfl) (by kernel_rfl) (by kernel_rfl) (fun _ _ _ h => h) (Or.inr ⟨by rfl, rfl⟩) S5 ?_
  (try simp only [Act.put, qA, qB, qC, qD, qE, qF])
  refine wpAnyN_take (i := 16) (v := undef) rfl (by kernel_rfl) (by kernel_rfl) (by kernel_rfl) (by kernel_rfl) (fun _ _ _ h => h) (Or.inr ⟨by rfl, rfl⟩) S5 ?_
  (try simp only [Act.put, qA, qB, qC, qD, qE, qF])
  refine wpAnyN_take (i := 17) (v := undef) rfl (by kernel_rfl) (by kernel_rfl) (by kernel_rfl) (by kernel_rfl) (fun _ _ _ h => h) (Or.inr ⟨by rfl, rfl⟩) S5 ?_
  (try simp only [Act.put, qA, qB, qC, qD, qE, qF])
  refine wpAnyN_take (i := 18) (v := undef) rfl (by kernel_rfl) (by kernel_rfl) (by kernel_rfl) (by kernel_rfl) (fun _ _ _ h => h) (Or.inr ⟨by rfl, rfl⟩) S5 ?_
  (try simp only [Act.put, qA, qB, qC, qD, qE, qF])
  refine wpAnyN_take (i := 19) (v := undef) rfl (by kernel_rfl) (by kernel_rfl) (by kernel_rfl) (by kernel_rfl) (fun _ _ _ h => h) (Or.inr ⟨by rfl, rfl⟩) S5 ?_
  (try simp only [Act.put, qA, qB, qC, qD, qE, qF])
  refine wpAnyN_take (i := 20) (v := undef) rfl (by kernel_rfl) (by kernel_rfl) (by kernel_rfl) (by kernel_rfl) (fun _ _ _ h => h) (Or.inr ⟨by rfl, rfl⟩) S5 ?_
  (try simp only [Act.put, qA, qB, qC, qD, qE, qF])
  refine tkO (i := 21) (v := ?_) rfl (Or.inl ⟨by rfl, ?_⟩) S5 ?_
  rotate_left
  · intro w' hS'
    obtain ⟨h0, h1, h2, h3, h4, h5, h6, h7, h8⟩ := hS'
    (try go_simp)
    first | done | exact rfl | exact ⟨rfl, rfl⟩
  (try simp only [Act.put, qA, qB, qC, qD, qE, qF])
  refine tkO (i := 22) (v := ?_) rfl (Or.inl ⟨by rfl, ?_⟩) S5 ?_
  rotate_left
  · intro w' hS'
    obtain ⟨h0, h1, h2, h3, h4, h5, h6, h7, h8⟩ := hS'
    (try go_simp)
    first | done | exact rfl | exact ⟨rfl, rfl⟩
  (try simp only [Act.put, qA, qB, qC, qD, qE, qF])
  refine wpAnyN_done (by kernel_rfl) ?_ _
  have BE : Hid (Below w.heap.size w w104) := below_next B0.out BL
  clear BL BA HS HR
  go_wp2
  go_ret
  exact ⟨rfl, BE.out⟩

set_option maxRecDepth 20000 in
set_option maxHeartbeats 1000000 in
theorem ins6_tf (lv mv : Value) (fb fo ib io : Nat) (rg : Int) (x : Lo) (av dv : Value) (w : World) (hop : x.op = 6) (hr : w.cell? ⟨fb, fo + 1, none⟩ = some (.int .i64 rg)) (hx : RowAt w ib io (loC x av dv)) (g0 : fitB x.n false = true) (g1 : bgB rg x.a = false) :
    Calls Tryd.prog 22 #[.agg #[lv, mv, .pointer (some ⟨fb, fo, none⟩)], .pointer (some ⟨ib, io, none⟩)] w fun e w' => e = .returned (.bool (false)) ∧ Below w.heap.size w w' := by
  have B0 : Hid (Below w.heap.size w (w.alloc (.cells #[lv, mv, .pointer (some ⟨fb, fo, none⟩)] 62))) := below_alloc _ _
  have HS : Hid (∀ w', Below (w.alloc (.cells #[lv, mv, .pointer (some ⟨fb, fo, none⟩)] 62)).heap.size (w.alloc (.cells #[lv, mv, .pointer (some ⟨fb, fo, none⟩)] 62)) w' → w'.cell? ⟨w.heap.size, 0, none⟩ = some lv ∧ w'.cell? ⟨w.heap.size, 1, none⟩ = some mv ∧ w'.cell? ⟨w.heap.size, 2, none⟩ = some (.pointer (some ⟨fb, fo, none⟩)) ∧ w'.cell? ⟨ib, io, none⟩ = some (.int .i64 6) ∧ w'.cell? ⟨ib, io + 1, none⟩ = some (.int .i64 x.d) ∧ w'.cell? ⟨ib, io + 2, none⟩ = some (.int .i64 x.a) ∧ w'.cell? ⟨ib, io + 3, none⟩ = some (.int .i64 x.b) ∧ w'.cell? ⟨ib, io + 4, none⟩ = some (.int .i64 x.n) ∧ w'.cell? ⟨ib, io + 5, none⟩ = some (.string x.tx)) := fun w' hb => by
    have hb2 := below_next B0.out hb
    have hA := (At.new w #[lv, mv, .pointer (some ⟨fb, fo, none⟩)] 62).below hb (by simp)
    exact ⟨hA.cell 0, hA.cell 1, hA.cell 2, hop ▸ kp_cell (hx.at 0 rfl) hb2, kp_cell (hx.at 1 rfl) hb2, kp_cell (hx.at 2 rfl) hb2, kp_cell (hx.at 3 rfl) hb2, kp_cell (hx.at 4 rfl) hb2, kp_cell (hx.at 5 rfl) hb2⟩
  have HR : Hid (w.cell? ⟨fb, fo + 1, none⟩ = some (.int .i64 rg)) := hr
  obtain ⟨c0, c1, c2, c3, c4, c5, c6, c7, c8⟩ := HS.out _ (Below.refl _ _)
  clear hr hx hop
  have G0 : Hid (fitB x.n false = true) := g0
  have G1 : Hid (bgB rg x.a = false) := g1
  clear g0 g1
  go_enter Tryd.func22, Tryd.ntmps22
  go_wp2
  have BA : Hid (Below (w.alloc (.cells #[lv, mv, .pointer (some ⟨fb, fo, none⟩)] 62)).heap.size (w.alloc (.cells #[lv, mv, .pointer (some ⟨fb, fo, none⟩)] 62)) (w.alloc (.cells #[lv, mv, .pointer (some ⟨fb, fo, none⟩)] 62))) := Below.refl _ _
  clear c0 c1 c2 c3 c4 c5 c6 c7 c8
  generalize w.alloc (.cells #[lv, mv, .pointer (some ⟨fb, fo, none⟩)] 62) = w0 at *
  refine wp_region_N (fun w' => w'.cell? ⟨w.heap.size, 0, none⟩ = some lv ∧ w'.cell? ⟨w.heap.size, 1, none⟩ = some mv ∧ w'.cell? ⟨w.heap.size, 2, none⟩ = some (.pointer (some ⟨fb, fo, none⟩)) ∧ w'.cell? ⟨ib, io, none⟩ = some (.int .i64 6) ∧ w'.cell? ⟨ib, io + 1, none⟩ = some (.int .i64 x.d) ∧ w'.cell? ⟨ib, io + 2, none⟩ = some (.int .i64 x.a) ∧ w'.cell? ⟨ib, io + 3, none⟩ = some (.int .i64 x.b) ∧ w'.cell? ⟨ib, io + 4, none⟩ = some (.int .i64 x.n) ∧ w'.cell? ⟨ib, io + 5, none⟩ = some (.string x.tx)) (fun _ => true) mixed (HS.out _ (below_next BA.out (below_drew _))) ?_
  intro S0
  have BL : Below w0.heap.size w0 w0.drew := below_next BA.out (below_drew _)
  generalize w0.drew = wd at *
  refine tkO (i := 0) (v := ?_) rfl (Or.inl ⟨by rfl, ?_⟩) S0 ?_
  rotate_left
  · intro w' hS'
    obtain ⟨h0, h1, h2, h3, h4, h5, h6, h7, h8⟩ := hS'
    (try go_simp)
    first | done | exact rfl | exact ⟨rfl, rfl⟩
  (try simp only [Act.put, qA, qC, qD, qE, qF])
  refine tkO (i := 1) (v := ?_) rfl (Or.inl ⟨by rfl, ?_⟩) S0 ?_
  rotate_left
  · intro w' hS'
    obtain ⟨h0, h1, h2, h3, h4, h5, h6, h7, h8⟩ := hS'
    (try go_simp)
    first | done | exact rfl | exact ⟨rfl, rfl⟩
  (try simp only [Act.put, qA, qB, qC, qD, qE, qF])
  refine tkO (i := 2) (v := ?_) rfl (Or.inl ⟨by rfl, ?_⟩) S0 ?_
  rotate_left
  · intro w' hS'
    obtain ⟨h0, h1, h2, h3, h4, h5, h6, h7, h8⟩ := hS'
    (try go_simp)
    first | done | exact rfl | exact ⟨rfl, rfl⟩
  (try simp only [Act.put, qA, qB, qC, qD, qE, qF])
  refine tkO (i := 3) (v := ?_) rfl (Or.inl ⟨by rfl, ?_⟩) S0 ?_
  rotate_left
  · intro w' hS'
    obtain ⟨h0, h1, h2, h3, h4, h5, h6, h7, h8⟩ := hS'
    (try go_simp)
    first | done | exact rfl | exact ⟨rfl, rfl⟩
  (try simp only [Act.put, qA, qB, qC, qD, qE, qF])
  refine wpAnyN_one (i := 4) (by kernel_rfl) rfl (fun K hK => ?_)
  go_simp
  (go_at_call 32; refine Calls.mono (fits_f _ _) ?_; rintro e w104 ⟨rfl, hb4⟩)
  rw [G0.out]
  have BL : Below w0.heap.size w0 w104 := hb4 ▸ BL
  have S5 := HS.out _ BL
  clear hb4
  go_wp2_with fail
  refine hK _ _ (fun _ => S5) ?_
  clear hK K
  (try simp only [Act.put, qA, qB, qC, qD, qE, qF])
  refine tkO (i := 5) (v := ?_) rfl (Or.inl ⟨by rfl, ?_⟩) S5 ?_
  rotate_left
  · intro w' hS'
    obtain ⟨h0, h1, h2, h3, h4, h5, h6, h7, h8⟩ := hS'
    (try go_simp)
    first | done | exact rfl | exact ⟨rfl, rfl⟩
  (try simp only [Act.put, qA, qB, qC, qD, qE, qF])
  refine tkO (i := 6) (v := ?_) rfl (Or.inl ⟨by rfl, ?_⟩) S5 ?_
  rotate_left
  · intro w' hS'
    obtain ⟨h0, h1, h2, h3, h4, h5, h6, h7, h8⟩ := hS'
    (try go_simp)
    first | done | exact rfl | exact ⟨rfl, rfl⟩
  (try simp only [Act.put, qA, qB, qC, qD, qE, qF])
  refine tkO (i := 7) (v := ?_) rfl (Or.inl ⟨by rfl, ?_⟩) S5 ?_
  rotate_left
  · intro w' hS'
    obtain ⟨h0, h1, h2, h3, h4, h5, h6, h7, h8⟩ := hS'
    (try go_simp)
    first | done | exact rfl | exact ⟨rfl, rfl⟩
  (try simp only [Act.put, qA, qB, qC, qD, qE, qF])
  refine tkO (i := 8) (v := ?_) rfl (Or.inl ⟨by rfl, ?_⟩) S5 ?_
  rotate_left
  · intro w' hS'
    obtain ⟨h0, h1, h2, h3, h4, h5, h6, h7, h8⟩ := hS'
    (try go_simp)
    first | done | exact rfl | exact ⟨rfl, rfl⟩
  (try simp only [Act.put, qA, qB, qC, qD, qE, qF])
  refine tkO (i := 9) (v := ?_) rfl (Or.inl ⟨by rfl, ?_⟩) S5 ?_
  rotate_left
  · intro w' hS'
    obtain ⟨h0, h1, h2, h3, h4, h5, h6, h7, h8⟩ := hS'
    (try go_simp)
    first | done | exact rfl | exact ⟨rfl, rfl⟩
  (try simp only [Act.put, qA, qB, qC, qD, qE, qF])
  refine tkO (i := 10) (v := ?_) rfl (Or.inl ⟨by rfl, ?_⟩) S5 ?_
  rotate_left
  · intro w' hS'
    obtain ⟨h0, h1, h2, h3, h4, h5, h6, h7, h8⟩ := hS'
    (try go_simp)
    first | done | exact rfl | exact ⟨rfl, rfl⟩
  (try simp only [Act.put, qA, qB, qC, qD, qE, qF])
  refine wpAnyN_one (i := 11) (by kernel_rfl) rfl (fun K hK => ?_)
  go_simp
  (go_at_call 31; refine Calls.mono (begins_c _ _ fb fo rg _ _ (kp_cell HR.out (below_next B0.out BL))) ?_; rintro e w111 ⟨rfl, hb11⟩)
  rw [G1.out]
  have BL := below_next BL hb11
  have S12 := HS.out _ BL
  clear hb11
  go_wp2_with fail
  refine hK _ _ (fun _ => S12) ?_
  clear hK K
  (try simp only [Act.put, qA, qB, qC, qD, qE, qF])
  refine tkO (i := 12) (v := ?_) rfl (Or.inl ⟨by rfl, ?_⟩) S12 ?_
  rotate_left
  · intro w' hS'
    obtain ⟨h0, h1, h2, h3, h4, h5, h6, h7, h8⟩ := hS'
    (try go_simp)
    first | done | exact rfl | exact ⟨rfl, rfl⟩
  (try simp only [Act.put, qA, qB, qC, qD, qE, qF])
  refine tkO (i := 13) (v := ?_) rfl (Or.inl ⟨by rfl, ?_⟩) S12 ?_
  rotate_left
  · intro w' hS'
    obtain ⟨h0, h1, h2, h3, h4, h5, h6, h7, h8⟩ := hS'
    (try go_simp)
    first | done | exact rfl | exact ⟨rfl, rfl⟩
  (try simp only [Act.put, qA, qB, qC, qD, qE, qF])
  refine wpAnyN_take (i := 14) (v := undef) rfl (by kernel_rfl) (by kernel_rfl) (by kernel_rfl) (by kernel_rfl) (fun _ _ _ h => h) (Or.inr ⟨by rfl, rfl⟩) S12 ?_
  (try simp only [Act.put, qA, qB, qC, qD, qE, qF])
  refine wpAnyN_take (i := 15) (v := undef) rfl (by kernel_rfl) (by kernel_rfl) (by kernel_rfl) (by kernel_rfl) (fun _ _ _ h => h) (Or.inr ⟨by rfl, rfl⟩) S12 ?_
  (try simp only [Act.put, qA, qB, qC, qD, qE, qF])
  refine wpAnyN_take (i := 16) (v := undef) rfl (by kernel_rfl) (by kernel_rfl) (by kernel_rfl) (by kernel_rfl) (fun _ _ _ h => h) (Or.inr ⟨by rfl, rfl⟩) S12 ?_
  (try simp only [Act.put, qA, qB, qC, qD, qE, qF])
  refine wpAnyN_take (i := 17) (v := undef) rfl (by kernel_rfl) (by kernel_rfl) (by kernel_rfl) (by kernel_rfl) (fun _ _ _ h => h) (Or.inr ⟨by rfl, rfl⟩) S12 ?_
  (try simp only [Act.put, qA, qB, qC, qD, qE, qF])
  refine wpAnyN_take (i := 18) (v := undef) rfl (by kernel_rfl) (by kernel_rfl) (by kernel_rfl) (by kernel_rfl) (fun _ _ _ h => h) (Or.inr ⟨by rfl, rfl⟩) S12 ?_
  (try simp only [Act.put, qA, qB, qC, qD, qE, qF])
  refine wpAnyN_take (i := 19) (v := undef) rfl (by kernel_rfl) (by kernel_rfl) (by kernel_rfl) (by kernel_rfl) (fun _ _ _ h => h) (Or.inr ⟨by rfl, rfl⟩) S12 ?_
  (try simp only [Act.put, qA, qB, qC, qD, qE, qF])
  refine wpAnyN_take (i := 20) (v := undef) rfl (by kernel_rfl) (by kernel_rfl) (by kernel_rfl) (by kernel_rfl) (fun _ _ _ h => h) (Or.inr ⟨by rfl, rfl⟩) S12 ?_
  (try simp only [Act.put, qA, qB, qC, qD, qE, qF])
  refine tkO (i := 21) (v := ?_) rfl (Or.inl ⟨by rfl, ?_⟩) S12 ?_
  rotate_left
  · intro w' hS'
    obtain ⟨h0, h1, h2, h3, h4, h5, h6, h7, h8⟩ := hS'
    (try go_simp)
    first | done | exact rfl | exact ⟨rfl, rfl⟩
  (try simp only [Act.put, qA, qB, qC, qD, qE, qF])
  refine tkO (i := 22) (v := ?_) rfl (Or.inl ⟨by rfl, ?_⟩) S12 ?_
  rotate_left
  · intro w' hS'
    obtain ⟨h0, h1, h2, h3, h4, h5, h6, h7, h8⟩ := hS'
    (try go_simp)
    first | done | exact rfl | exact ⟨rfl, rfl⟩
  (try simp only [Act.put, qA, qB, qC, qD, qE, qF])
  refine wpAnyN_done (by kernel_rfl) ?_ _
  have BE : Hid (Below w.heap.size w w111) := below_next B0.out BL
  clear BL BA HS HR
  go_wp2
  go_ret
  exact ⟨rfl, BE.out⟩

set_option maxRecDepth 20000 in
set_option maxHeartbeats 1000000 in
theorem ins6_ttx (lv mv : Value) (fb fo ib io : Nat) (rg : Int) (x : Lo) (av dv : Value) (w : World) (hop : x.op = 6) (hr : w.cell? ⟨fb, fo + 1, none⟩ = some (.int .i64 rg)) (hx : RowAt w ib io (loC x av dv)) (g0 : fitB x.n false = true) (g1 : bgB rg x.a = true) :
    Calls Tryd.prog 22 #[.agg #[lv, mv, .pointer (some ⟨fb, fo, none⟩)], .pointer (some ⟨ib, io, none⟩)] w fun e w' => e = .returned (.bool (rdB rg x.b)) ∧ Below w.heap.size w w' := by
  have B0 : Hid (Below w.heap.size w (w.alloc (.cells #[lv, mv, .pointer (some ⟨fb, fo, none⟩)] 62))) := below_alloc _ _
  have HS : Hid (∀ w', Below (w.alloc (.cells #[lv, mv, .pointer (some ⟨fb, fo, none⟩)] 62)).heap.size (w.alloc (.cells #[lv, mv, .pointer (some ⟨fb, fo, none⟩)] 62)) w' → w'.cell? ⟨w.heap.size, 0, none⟩ = some lv ∧ w'.cell? ⟨w.heap.size, 1, none⟩ = some mv ∧ w'.cell? ⟨w.heap.size, 2, none⟩ = some (.pointer (some ⟨fb, fo, none⟩)) ∧ w'.cell? ⟨ib, io, none⟩ = some (.int .i64 6) ∧ w'.cell? ⟨ib, io + 1, none⟩ = some (.int .i64 x.d) ∧ w'.cell? ⟨ib, io + 2, none⟩ = some (.int .i64 x.a) ∧ w'.cell? ⟨ib, io + 3, none⟩ = some (.int .i64 x.b) ∧ w'.cell? ⟨ib, io + 4, none⟩ = some (.int .i64 x.n) ∧ w'.cell? ⟨ib, io + 5, none⟩ = some (.string x.tx)) := fun w' hb => by
    have hb2 := below_next B0.out hb
    have hA := (At.new w #[lv, mv, .pointer (some ⟨fb, fo, none⟩)] 62).below hb (by simp)
    exact ⟨hA.cell 0, hA.cell 1, hA.cell 2, hop ▸ kp_cell (hx.at 0 rfl) hb2, kp_cell (hx.at 1 rfl) hb2, kp_cell (hx.at 2 rfl) hb2, kp_cell (hx.at 3 rfl) hb2, kp_cell (hx.at 4 rfl) hb2, kp_cell (hx.at 5 rfl) hb2⟩
  have HR : Hid (w.cell? ⟨fb, fo + 1, none⟩ = some (.int .i64 rg)) := hr
  obtain ⟨c0, c1, c2, c3, c4, c5, c6, c7, c8⟩ := HS.out _ (Below.refl _ _)
  clear hr hx hop
  have G0 : Hid (fitB x.n false = true) := g0
  have G1 : Hid (bgB rg x.a = true) := g1
  clear g0 g1
  go_enter Tryd.func22, Tryd.ntmps22
  go_wp2
  have BA : Hid (Below (w.alloc (.cells #[lv, mv, .pointer (some ⟨fb, fo, none⟩)] 62)).heap.size (w.alloc (.cells #[lv, mv, .pointer (some ⟨fb, fo, none⟩)] 62)) (w.alloc (.cells #[lv, mv, .pointer (some ⟨fb, fo, none⟩)] 62))) := Below.refl _ _
  clear c0 c1 c2 c3 c4 c5 c6 c7 c8
  generalize w.alloc (.cells #[lv, mv, .pointer (some ⟨fb, fo, none⟩)] 62) = w0 at *
  refine wp_region_N (fun w' => w'.cell? ⟨w.heap.size, 0, none⟩ = some lv ∧ w'.cell? ⟨w.heap.size, 1, none⟩ = some mv ∧ w'.cell? ⟨w.heap.size, 2, none⟩ = some (.pointer (some ⟨fb, fo, none⟩)) ∧ w'.cell? ⟨ib, io, none⟩ = some (.int .i64 6) ∧ w'.cell? ⟨ib, io + 1, none⟩ = some (.int .i64 x.d) ∧ w'.cell? ⟨ib, io + 2, none⟩ = some (.int .i64 x.a) ∧ w'.cell? ⟨ib, io + 3, none⟩ = some (.int .i64 x.b) ∧ w'.cell? ⟨ib, io + 4, none⟩ = some (.int .i64 x.n) ∧ w'.cell? ⟨ib, io + 5, none⟩ = some (.string x.tx)) (fun _ => true) mixed (HS.out _ (below_next BA.out (below_drew _))) ?_
  intro S0
  have BL : Below w0.heap.size w0 w0.drew := below_next BA.out (below_drew _)
  generalize w0.drew = wd at *
  refine tkO (i := 0) (v := ?_) rfl (Or.inl ⟨by rfl, ?_⟩) S0 ?_
  rotate_left
  · intro w' hS'
    obtain ⟨h0, h1, h2, h3, h4, h5, h6, h7, h8⟩ := hS'
    (try go_simp)
    first | done | exact rfl | exact ⟨rfl, rfl⟩
  (try simp only [Act.put, qA, qC, qD, qE, qF])
  refine tkO (i := 1) (v := ?_) rfl (Or.inl ⟨by rfl, ?_⟩) S0 ?_
  rotate_left
  · intro w' hS'
    obtain ⟨h0, h1, h2, h3, h4, h5, h6, h7, h8⟩ := hS'
    (try go_simp)
    first | done | exact rfl | exact ⟨rfl, rfl⟩
  (try simp only [Act.put, qA, qB, qC, qD, qE, qF])
  refine tkO (i := 2) (v := ?_) rfl (Or.inl ⟨by rfl, ?_⟩) S0 ?_
  rotate_left
  · intro w' hS'
    obtain ⟨h0, h1, h2, h3, h4, h5, h6, h7, h8⟩ := hS'
    (try go_simp)
    first | done | exact rfl | exact ⟨rfl, rfl⟩
  (try simp only [Act.put, qA, qB, qC, qD, qE, qF])
  refine tkO (i := 3) (v := ?_) rfl (Or.inl ⟨by rfl, ?_⟩) S0 ?_
  rotate_left
  · intro w' hS'
    obtain ⟨h0, h1, h2, h3, h4, h5, h6, h7, h8⟩ := hS'
    (try go_simp)
    first | done | exact rfl | exact ⟨rfl, rfl⟩
  (try simp only [Act.put, qA, qB, qC, qD, qE, qF])
  refine wpAnyN_one (i := 4) (by kernel_rfl) rfl (fun K hK => ?_)
  go_simp
  (go_at_call 32; refine Calls.mono (fits_f _ _) ?_; rintro e w104 ⟨rfl, hb4⟩)
  rw [G0.out]
  have BL : Below w0.heap.size w0 w104 := hb4 ▸ BL
  have S5 := HS.out _ BL
  clear hb4
  go_wp2_with fail
  refine hK _ _ (fun _ => S5) ?_
  clear hK K
  (try simp only [Act.put, qA, qB, qC, qD, qE, qF])
  refine tkO (i := 5) (v := ?_) rfl (Or.inl ⟨by rfl, ?_⟩) S5 ?_
  rotate_left
  · intro w' hS'
    obtain ⟨h0, h1, h2, h3, h4, h5, h6, h7, h8⟩ := hS'
    (try go_simp)
    first | done | exact rfl | exact ⟨rfl, rfl⟩
  (try simp only [Act.put, qA, qB, qC, qD, qE, qF])
  refine tkO (i := 6) (v := ?_) rfl (Or.inl ⟨by rfl, ?_⟩) S5 ?_
  rotate_left
  · intro w' hS'
    obtain ⟨h0, h1, h2, h3, h4, h5, h6, h7, h8⟩ := hS'
    (try go_simp)
    first | done | exact rfl | exact ⟨rfl, rfl⟩
  (try simp only [Act.put, qA, qB, qC, qD, qE, qF])
  refine tkO (i := 7) (v := ?_) rfl (Or.inl ⟨by rfl, ?_⟩) S5 ?_
  rotate_left
  · intro w' hS'
    obtain ⟨h0, h1, h2, h3, h4, h5, h6, h7, h8⟩ := hS'
    (try go_simp)
    first | done | exact rfl | exact ⟨rfl, rfl⟩
  (try simp only [Act.put, qA, qB, qC, qD, qE, qF])
  refine tkO (i := 8) (v := ?_) rfl (Or.inl ⟨by rfl, ?_⟩) S5 ?_
  rotate_left
  · intro w' hS'
    obtain ⟨h0, h1, h2, h3, h4, h5, h6, h7, h8⟩ := hS'
    (try go_simp)
    first | done | exact rfl | exact ⟨rfl, rfl⟩
  (try simp only [Act.put, qA, qB, qC, qD, qE, qF])
  refine tkO (i := 9) (v := ?_) rfl (Or.inl ⟨by rfl, ?_⟩) S5 ?_
  rotate_left
  · intro w' hS'
    obtain ⟨h0, h1, h2, h3, h4, h5, h6, h7, h8⟩ := hS'
    (try go_simp)
    first | done | exact rfl | exact ⟨rfl, rfl⟩
  (try simp only [Act.put, qA, qB, qC, qD, qE, qF])
  refine tkO (i := 10) (v := ?_) rfl (Or.inl ⟨by rfl, ?_⟩) S5 ?_
  rotate_left
  · intro w' hS'
    obtain ⟨h0, h1, h2, h3, h4, h5, h6, h7, h8⟩ := hS'
    (try go_simp)
    first | done | exact rfl | exact ⟨rfl, rfl⟩
  (try simp only [Act.put, qA, qB, qC, qD, qE, qF])
  refine wpAnyN_one (i := 11) (by kernel_rfl) rfl (fun K hK => ?_)
  go_simp
  (go_at_call 31; refine Calls.mono (begins_c _ _ fb fo rg _ _ (kp_cell HR.out (below_next B0.out BL))) ?_; rintro e w111 ⟨rfl, hb11⟩)
  rw [G1.out]
  have BL := below_next BL hb11
  have S12 := HS.out _ BL
  clear hb11
  go_wp2_with fail
  refine hK _ _ (fun _ => S12) ?_
  clear hK K
  (try simp only [Act.put, qA, qB, qC, qD, qE, qF])
  refine tkO (i := 12) (v := ?_) rfl (Or.inl ⟨by rfl, ?_⟩) S12 ?_
  rotate_left
  · intro w' hS'
    obtain ⟨h0, h1, h2, h3, h4, h5, h6, h7, h8⟩ := hS'
    (try go_simp)
    first | done | exact rfl | exact ⟨rfl, rfl⟩
  (try simp only [Act.put, qA, qB, qC, qD, qE, qF])
  refine tkO (i := 13) (v := ?_) rfl (Or.inl ⟨by rfl, ?_⟩) S12 ?_
  rotate_left
  · intro w' hS'
    obtain ⟨h0, h1, h2, h3, h4, h5, h6, h7, h8⟩ := hS'
    (try go_simp)
    first | done | exact rfl | exact ⟨rfl, rfl⟩
  (try simp only [Act.put, qA, qB, qC, qD, qE, qF])
  refine tkO (i := 14) (v := ?_) rfl (Or.inl ⟨by rfl, ?_⟩) S12 ?_
  rotate_left
  · intro w' hS'
    obtain ⟨h0, h1, h2, h3, h4, h5, h6, h7, h8⟩ := hS'
    (try go_simp)
    first | done | exact rfl | exact ⟨rfl, rfl⟩
  (try simp only [Act.put, qA, qB, qC, qD, qE, qF])
  refine tkO (i := 15) (v := ?_) rfl (Or.inl ⟨by rfl, ?_⟩) S12 ?_
  rotate_left
  · intro w' hS'
    obtain ⟨h0, h1, h2, h3, h4, h5, h6, h7, h8⟩ := hS'
    (try go_simp)
    first | done | exact rfl | exact ⟨rfl, rfl⟩
  (try simp only [Act.put, qA, qB, qC, qD, qE, qF])
  refine tkO (i := 16) (v := ?_) rfl (Or.inl ⟨by rfl, ?_⟩) S12 ?_
  rotate_left
  · intro w' hS'
    obtain ⟨h0, h1, h2, h3, h4, h5, h6, h7, h8⟩ := hS'
    (try go_simp)
    first | done | exact rfl | exact ⟨rfl, rfl⟩
  (try simp only [Act.put, qA, qB, qC, qD, qE, qF])
  refine tkO (i := 17) (v := ?_) rfl (Or.inl ⟨by rfl, ?_⟩) S12 ?_
  rotate_left
  · intro w' hS'
    obtain ⟨h0, h1, h2, h3, h4, h5, h6, h7, h8⟩ := hS'
    (try go_simp)
    first | done | exact rfl | exact ⟨rfl, rfl⟩
  (try simp only [Act.put, qA, qB, qC, qD, qE, qF])
  refine tkO (i := 18) (v := ?_) rfl (Or.inl ⟨by rfl, ?_⟩) S12 ?_
  rotate_left
  · intro w' hS'
    obtain ⟨h0, h1, h2, h3, h4, h5, h6, h7, h8⟩ := hS'
    (try go_simp)
    first | done | exact rfl | exact ⟨rfl, rfl⟩
  (try simp only [Act.put, qA, qB, qC, qD, qE, qF])
  refine wpAnyN_one (i := 19) (by kernel_rfl) rfl (fun K hK => ?_)
  go_simp
  have N19 := nos_one (w := w111) x.b
  have BL := below_next BL (below_alloc w111 (.cells #[.int .i64 x.b] 3))
  have S20 := HS.out _ BL
  generalize w111.alloc (.cells #[.int .i64 x.b] 3) = wb19 at *
  refine hK _ _ (fun _ => S20) ?_
  clear hK K
  (try simp only [Act.put, qA, qB, qC, qD, qE, qF])
  refine wpAnyN_one (i := 20) (by kernel_rfl) rfl (fun K hK => ?_)
  go_simp
  (go_at_call 28; refine Calls.mono (reads_c _ _ fb fo rg _ _ _ (kp_cell HR.out (below_next B0.out BL)) N19) ?_; rintro e w120 ⟨rfl, hb20⟩)
  rw [readsB_one]
  have BL := below_next BL hb20
  have S21 := HS.out _ BL
  clear hb20
  go_wp2_with fail
  refine hK _ _ (fun _ => S21) ?_
  clear hK K
  (try simp only [Act.put, qA, qB, qC, qD, qE, qF])
  refine tkO (i := 21) (v := ?_) rfl (Or.inl ⟨by rfl, ?_⟩) S21 ?_
  rotate_left
  · intro w' hS'
    obtain ⟨h0, h1, h2, h3, h4, h5, h6, h7, h8⟩ := hS'
    (try go_simp)
    first | done | exact rfl | exact ⟨rfl, rfl⟩
  (try simp only [Act.put, qA, qB, qC, qD, qE, qF])
  refine tkO (i := 22) (v := ?_) rfl (Or.inl ⟨by rfl, ?_⟩) S21 ?_
  rotate_left
  · intro w' hS'
    obtain ⟨h0, h1, h2, h3, h4, h5, h6, h7, h8⟩ := hS'
    (try go_simp)
    first | done | exact rfl | exact ⟨rfl, rfl⟩
  (try simp only [Act.put, qA, qB, qC, qD, qE, qF])
  refine wpAnyN_done (by kernel_rfl) ?_ _
  have BE : Hid (Below w.heap.size w w120) := below_next B0.out BL
  clear BL BA HS HR
  go_wp2
  go_ret
  exact ⟨rfl, BE.out⟩

end Go.Proofs.YtapgaclonilnbaaDoor
