/-
  Proved: what the checker's term answers.
-/
import Derived.Test.YtapgaclonilnbaaDoorGp
namespace Go.Proofs.YtapgaclonilnbaaDoor
open Go.RowKit
set_option linter.unusedVariables false
set_option linter.unusedSimpArgs false

set_option maxRecDepth 20000 in
set_option maxHeartbeats 1000000 in
theorem term1_x (lv mv : Value) (fb fo eb eo nb C : Nat) (A : Option Addr) (rg an : Int) (x : Le) (av : Value) (w : World) (hop : x.k = 1) (hr : w.cell? ⟨fb, fo + 1, none⟩ = some (.int .i64 rg)) (hn : w.cell? ⟨fb, fo + 3, none⟩ = some (.int .i64 an)) (hb : w.cell? ⟨fb, fo + 6, none⟩ = some (.slice A nb C)) (hx : RowAt w eb eo (leC x av)) (ha : NosIn w x.args av) :
    Calls Tryd.prog 23 #[.agg #[lv, mv, .pointer (some ⟨fb, fo, none⟩)], .pointer (some ⟨eb, eo, none⟩)] w fun e w' => e = .returned (.bool (toB nb x.to)) ∧ Below w.heap.size w w' := by
  obtain ⟨ha0, AA, AC, rfl, ha1⟩ := ha.cells
  have HA : Hid (NosIn w x.args (.slice AA x.args.length AC)) := ha
  have B0 : Hid (Below w.heap.size w (w.alloc (.cells #[lv, mv, .pointer (some ⟨fb, fo, none⟩)] 62))) := below_alloc _ _
  have HS : Hid (∀ w', Below (w.alloc (.cells #[lv, mv, .pointer (some ⟨fb, fo, none⟩)] 62)).heap.size (w.alloc (.cells #[lv, mv, .pointer (some ⟨fb, fo, none⟩)] 62)) w' → w'.cell? ⟨w.heap.size, 0, none⟩ = some lv ∧ w'.cell? ⟨w.heap.size, 1, none⟩ = some mv ∧ w'.cell? ⟨w.heap.size, 2, none⟩ = some (.pointer (some ⟨fb, fo, none⟩)) ∧ w'.cell? ⟨eb, eo, none⟩ = some (.int .i64 1) ∧ w'.cell? ⟨eb, eo + 1, none⟩ = some (.int .i64 x.a) ∧ w'.cell? ⟨eb, eo + 2, none⟩ = some (.int .i64 x.b) ∧ w'.cell? ⟨eb, eo + 3, none⟩ = some (.int .i64 x.to) ∧ w'.cell? ⟨eb, eo + 4, none⟩ = some (.int .i64 x.el) ∧ w'.cell? ⟨eb, eo + 5, none⟩ = some (.string x.tx) ∧ w'.cell? ⟨eb, eo + 6, none⟩ = some (.slice AA x.args.length AC) ∧ w'.cell? ⟨fb, fo + 3, none⟩ = some (.int .i64 an)) := fun w' hb => by
    have hb2 := below_next B0.out hb
    have hA := (At.new w #[lv, mv, .pointer (some ⟨fb, fo, none⟩)] 62).below hb (by simp)
    exact ⟨hA.cell 0, hA.cell 1, hA.cell 2, hop ▸ kp_cell (hx.at 0 rfl) hb2, kp_cell (hx.at 1 rfl) hb2, kp_cell (hx.at 2 rfl) hb2, kp_cell (hx.at 3 rfl) hb2, kp_cell (hx.at 4 rfl) hb2, kp_cell (hx.at 5 rfl) hb2, kp_cell (hx.at 6 rfl) hb2, kp_cell hn hb2⟩
  have HR : Hid (w.cell? ⟨fb, fo + 1, none⟩ = some (.int .i64 rg)) := hr
  have HB : Hid (w.cell? ⟨fb, fo + 6, none⟩ = some (.slice A nb C)) := hb
  obtain ⟨c0, c1, c2, c3, c4, c5, c6, c7, c8, c9, c10⟩ := HS.out _ (Below.refl _ _)
  clear hr hx hop hn hb ha ha0 ha1
  go_enter Tryd.func23, Tryd.ntmps23
  go_wp2
  have BA : Hid (Below (w.alloc (.cells #[lv, mv, .pointer (some ⟨fb, fo, none⟩)] 62)).heap.size (w.alloc (.cells #[lv, mv, .pointer (some ⟨fb, fo, none⟩)] 62)) (w.alloc (.cells #[lv, mv, .pointer (some ⟨fb, fo, none⟩)] 62))) := Below.refl _ _
  clear c0 c1 c2 c3 c4 c5 c6 c7 c8 c9 c10
  generalize w.alloc (.cells #[lv, mv, .pointer (some ⟨fb, fo, none⟩)] 62) = w0 at *
  refine wp_region_N (fun w' => w'.cell? ⟨w.heap.size, 0, none⟩ = some lv ∧ w'.cell? ⟨w.heap.size, 1, none⟩ = some mv ∧ w'.cell? ⟨w.heap.size, 2, none⟩ = some (.pointer (some ⟨fb, fo, none⟩)) ∧ w'.cell? ⟨eb, eo, none⟩ = some (.int .i64 1) ∧ w'.cell? ⟨eb, eo + 1, none⟩ = some (.int .i64 x.a) ∧ w'.cell? ⟨eb, eo + 2, none⟩ = some (.int .i64 x.b) ∧ w'.cell? ⟨eb, eo + 3, none⟩ = some (.int .i64 x.to) ∧ w'.cell? ⟨eb, eo + 4, none⟩ = some (.int .i64 x.el) ∧ w'.cell? ⟨eb, eo + 5, none⟩ = some (.string x.tx) ∧ w'.cell? ⟨eb, eo + 6, none⟩ = some (.slice AA x.args.length AC) ∧ w'.cell? ⟨fb, fo + 3, none⟩ = some (.int .i64 an)) (fun _ => true) mixed (HS.out _ (below_next BA.out (below_drew _))) ?_
  intro S0
  have BL : Below w0.heap.size w0 w0.drew := below_next BA.out (below_drew _)
  generalize w0.drew = wd at *
  refine tkO (i := 0) (v := ?_) rfl (Or.inl ⟨by rfl, ?_⟩) S0 ?_
  rotate_left
  · intro w' hS'
    obtain ⟨h0, h1, h2, h3, h4, h5, h6, h7, h8, h9, h10⟩ := hS'
    (try go_simp)
    first | done | exact rfl | exact ⟨rfl, rfl⟩
  (try simp only [Act.put, qA, qC, qD, qE, qF])
  refine tkO (i := 1) (v := ?_) rfl (Or.inl ⟨by rfl, ?_⟩) S0 ?_
  rotate_left
  · intro w' hS'
    obtain ⟨h0, h1, h2, h3, h4, h5, h6, h7, h8, h9, h10⟩ := hS'
    (try go_simp)
    first | done | exact rfl | exact ⟨rfl, rfl⟩
  (try simp only [Act.put, qA, qB, qC, qD, qE, qF])
  refine tkO (i := 2) (v := ?_) rfl (Or.inl ⟨by rfl, ?_⟩) S0 ?_
  rotate_left
  · intro w' hS'
    obtain ⟨h0, h1, h2, h3, h4, h5, h6, h7, h8, h9, h10⟩ := hS'
    (try go_simp)
    first | done | exact rfl | exact ⟨rfl, rfl⟩
  (try simp only [Act.put, qA, qB, qC, qD, qE, qF])
  refine tkO (i := 3) (v := ?_) rfl (Or.inl ⟨by rfl, ?_⟩) S0 ?_
  rotate_left
  · intro w' hS'
    obtain ⟨h0, h1, h2, h3, h4, h5, h6, h7, h8, h9, h10⟩ := hS'
    (try go_simp)
    first | done | exact rfl | exact ⟨rfl, rfl⟩
  (try simp only [Act.put, qA, qB, qC, qD, qE, qF])
  refine tkO (i := 4) (v := ?_) rfl (Or.inl ⟨by rfl, ?_⟩) S0 ?_
  rotate_left
  · intro w' hS'
    obtain ⟨h0, h1, h2, h3, h4, h5, h6, h7, h8, h9, h10⟩ := hS'
    (try go_simp)
    first | done | exact rfl | exact ⟨rfl, rfl⟩
  (try simp only [Act.put, qA, qB, qC, qD, qE, qF])
  refine wpAnyN_one (i := 5) (by kernel_rfl) rfl (fun K hK => ?_)
  go_simp
  (go_at_call 34; refine Calls.mono (block_c _ _ fb fo nb A C _ _ (kp_cell HB.out (below_next B0.out BL))) ?_; rintro e w105 ⟨rfl, hb5⟩)
  have BL := below_next BL hb5
  have S6 := HS.out _ BL
  clear hb5
  go_wp2_with fail
  refine hK _ _ (fun _ => S6) ?_
  clear hK K
  (try simp only [Act.put, qA, qB, qC, qD, qE, qF])
  refine tkO (i := 6) (v := ?_) rfl (Or.inl ⟨by rfl, ?_⟩) S6 ?_
  rotate_left
  · intro w' hS'
    obtain ⟨h0, h1, h2, h3, h4, h5, h6, h7, h8, h9, h10⟩ := hS'
    (try go_simp)
    first | done | exact rfl | exact ⟨rfl, rfl⟩
  (try simp only [Act.put, qA, qB, qC, qD, qE, qF])
  refine wpAnyN_done (by kernel_rfl) ?_ _
  have BE : Hid (Below w.heap.size w w105) := below_next B0.out BL
  clear BL BA HS HR
  go_wp2
  go_ret
  exact ⟨rfl, BE.out⟩

set_option maxRecDepth 20000 in
set_option maxHeartbeats 1000000 in
theorem term2_f (lv mv : Value) (fb fo eb eo nb C : Nat) (A : Option Addr) (rg an : Int) (x : Le) (av : Value) (w : World) (hop : x.k = 2) (hr : w.cell? ⟨fb, fo + 1, none⟩ = some (.int .i64 rg)) (hn : w.cell? ⟨fb, fo + 3, none⟩ = some (.int .i64 an)) (hb : w.cell? ⟨fb, fo + 6, none⟩ = some (.slice A nb C)) (hx : RowAt w eb eo (leC x av)) (ha : NosIn w x.args av) (g0 : cmpB x.tx = false) :
    Calls Tryd.prog 23 #[.agg #[lv, mv, .pointer (some ⟨fb, fo, none⟩)], .pointer (some ⟨eb, eo, none⟩)] w fun e w' => e = .returned (.bool (false)) ∧ Below w.heap.size w w' := by
  obtain ⟨ha0, AA, AC, rfl, ha1⟩ := ha.cells
  have HA : Hid (NosIn w x.args (.slice AA x.args.length AC)) := ha
  have B0 : Hid (Below w.heap.size w (w.alloc (.cells #[lv, mv, .pointer (some ⟨fb, fo, none⟩)] 62))) := below_alloc _ _
  have HS : Hid (∀ w', Below (w.alloc (.cells #[lv, mv, .pointer (some ⟨fb, fo, none⟩)] 62)).heap.size (w.alloc (.cells #[lv, mv, .pointer (some ⟨fb, fo, none⟩)] 62)) w' → w'.cell? ⟨w.heap.size, 0, none⟩ = some lv ∧ w'.cell? ⟨w.heap.size, 1, none⟩ = some mv ∧ w'.cell? ⟨w.heap.size, 2, none⟩ = some (.pointer (some ⟨fb, fo, none⟩)) ∧ w'.cell? ⟨eb, eo, none⟩ = some (.int .i64 2) ∧ w'.cell? ⟨eb, eo + 1, none⟩ = some (.int .i64 x.a) ∧ w'.cell? ⟨eb, eo + 2, none⟩ = some (.int .i64 x.b) ∧ w'.cell? ⟨eb, eo + 3, none⟩ = some (.int .i64 x.to) ∧ w'.cell? ⟨eb, eo + 4, none⟩ = some (.int .i64 x.el) ∧ w'.cell? ⟨eb, eo + 5, none⟩ = some (.string x.tx) ∧ w'.cell? ⟨eb, eo + 6, none⟩ = some (.slice AA x.args.length AC) ∧ w'.cell? ⟨fb, fo + 3, none⟩ = some (.int .i64 an)) := fun w' hb => by
    have hb2 := below_next B0.out hb
    have hA := (At.new w #[lv, mv, .pointer (some ⟨fb, fo, none⟩)] 62).below hb (by simp)
    exact ⟨hA.cell 0, hA.cell 1, hA.cell 2, hop ▸ kp_cell (hx.at 0 rfl) hb2, kp_cell (hx.at 1 rfl) hb2, kp_cell (hx.at 2 rfl) hb2, kp_cell (hx.at 3 rfl) hb2, kp_cell (hx.at 4 rfl) hb2, kp_cell (hx.at 5 rfl) hb2, kp_cell (hx.at 6 rfl) hb2, kp_cell hn hb2⟩
  have HR : Hid (w.cell? ⟨fb, fo + 1, none⟩ = some (.int .i64 rg)) := hr
  have HB : Hid (w.cell? ⟨fb, fo + 6, none⟩ = some (.slice A nb C)) := hb
  obtain ⟨c0, c1, c2, c3, c4, c5, c6, c7, c8, c9, c10⟩ := HS.out _ (Below.refl _ _)
  clear hr hx hop hn hb ha ha0 ha1
  have G0 : Hid (cmpB x.tx = false) := g0
  clear g0
  go_enter Tryd.func23, Tryd.ntmps23
  go_wp2_with (go_at_call 35; refine (named_f _ G0.out _).mono ?_; rintro e w1 ⟨rfl, hw⟩; have BA : Hid (Below (w.alloc (.cells #[lv, mv, .pointer (some ⟨fb, fo, none⟩)] 62)).heap.size (w.alloc (.cells #[lv, mv, .pointer (some ⟨fb, fo, none⟩)] 62)) (w1.alloc (.cells #[.nilFunc, .bool false] 95))) := below_next hw (below_alloc _ _); clear hw)
  generalize w1.alloc (.cells #[.nilFunc, .bool false] 95) = w2 at *
  clear c0 c1 c2 c3 c4 c5 c6 c7 c8 c9 c10
  generalize w.alloc (.cells #[lv, mv, .pointer (some ⟨fb, fo, none⟩)] 62) = w0 at *
  refine wp_region_N (fun w' => w'.cell? ⟨w.heap.size, 0, none⟩ = some lv ∧ w'.cell? ⟨w.heap.size, 1, none⟩ = some mv ∧ w'.cell? ⟨w.heap.size, 2, none⟩ = some (.pointer (some ⟨fb, fo, none⟩)) ∧ w'.cell? ⟨eb, eo, none⟩ = some (.int .i64 2) ∧ w'.cell? ⟨eb, eo + 1, none⟩ = some (.int .i64 x.a) ∧ w'.cell? ⟨eb, eo + 2, none⟩ = some (.int .i64 x.b) ∧ w'.cell? ⟨eb, eo + 3, none⟩ = some (.int .i64 x.to) ∧ w'.cell? ⟨eb, eo + 4, none⟩ = some (.int .i64 x.el) ∧ w'.cell? ⟨eb, eo + 5, none⟩ = some (.string x.tx) ∧ w'.cell? ⟨eb, eo + 6, none⟩ = some (.slice AA x.args.length AC) ∧ w'.cell? ⟨fb, fo + 3, none⟩ = some (.int .i64 an)) (fun _ => true) mixed (HS.out _ (below_next BA.out (below_drew _))) ?_
  intro S0
  have BL : Below w0.heap.size w0 w2.drew := below_next BA.out (below_drew _)
  generalize w2.drew = wd at *
  refine tkO (i := 0) (v := ?_) rfl (Or.inl ⟨by rfl, ?_⟩) S0 ?_
  rotate_left
  · intro w' hS'
    obtain ⟨h0, h1, h2, h3, h4, h5, h6, h7, h8, h9, h10⟩ := hS'
    (try go_simp)
    first | done | exact rfl | exact ⟨rfl, rfl⟩
  (try simp only [Act.put, qA, qC, qD, qE, qF])
  refine tkO (i := 1) (v := ?_) rfl (Or.inl ⟨by rfl, ?_⟩) S0 ?_
  rotate_left
  · intro w' hS'
    obtain ⟨h0, h1, h2, h3, h4, h5, h6, h7, h8, h9, h10⟩ := hS'
    (try go_simp)
    first | done | exact rfl | exact ⟨rfl, rfl⟩
  (try simp only [Act.put, qA, qB, qC, qD, qE, qF])
  refine wpAnyN_take (i := 2) (v := undef) rfl (by kernel_rfl) (by kernel_rfl) (by kernel_rfl) (by kernel_rfl) (fun _ _ _ h => h) (Or.inr ⟨by rfl, rfl⟩) S0 ?_
  (try simp only [Act.put, qA, qB, qC, qD, qE, qF])
  refine wpAnyN_take (i := 3) (v := undef) rfl (by kernel_rfl) (by kernel_rfl) (by kernel_rfl) (by kernel_rfl) (fun _ _ _ h => h) (Or.inr ⟨by rfl, rfl⟩) S0 ?_
  (try simp only [Act.put, qA, qB, qC, qD, qE, qF])
  refine wpAnyN_take (i := 4) (v := undef) rfl (by kernel_rfl) (by kernel_rfl) (by kernel_rfl) (by kernel_rfl) (fun _ _ _ h => h) (Or.inr ⟨by rfl, rfl⟩) S0 ?_
  (try simp only [Act.put, qA, qB, qC, qD, qE, qF])
  refine wpAnyN_take (i := 5) (v := undef) rfl (by kernel_rfl) (by kernel_rfl) (by kernel_rfl) (by kernel_rfl) (fun _ _ _ h => h) (Or.inr ⟨by rfl, rfl⟩) S0 ?_
  (try simp only [Act.put, qA, qB, qC, qD, qE, qF])
  refine wpAnyN_take (i := 6) (v := undef) rfl (by kernel_rfl) (by kernel_rfl) (by kernel_rfl) (by kernel_rfl) (fun _ _ _ h => h) (Or.inr ⟨by rfl, rfl⟩) S0 ?_
  (try simp only [Act.put, qA, qB, qC, qD, qE, qF])
  refine wpAnyN_take (i := 7) (v := undef) rfl (by kernel_rfl) (by kernel_rfl) (by kernel_rfl) (by kernel_rfl) (fun _ _ _ h => h) (Or.inr ⟨by rfl, rfl⟩) S0 ?_
  (try simp only [Act.put, qA, qB, qC, qD, qE, qF])
  refine wpAnyN_take (i := 8) (v := undef) rfl (by kernel_rfl) (by kernel_rfl) (by kernel_rfl) (by kernel_rfl) (fun _ _ _ h => h) (Or.inr ⟨by rfl, rfl⟩) S0 ?_
  (try simp only [Act.put, qA, qB, qC, qD, qE, qF])
  refine wpAnyN_take (i := 9) (v := undef) rfl (by kernel_rfl) (by kernel_rfl) (by kernel_rfl) (by kernel_rfl) (fun _ _ _ h => h) (Or.inr ⟨by rfl, rfl⟩) S0 ?_
  (try simp only [Act.put, qA, qB, qC, qD, qE, qF])
  refine wpAnyN_take (i := 10) (v := undef) rfl (by kernel_rfl) (by kernel_rfl) (by kernel_rfl) (by kernel_rfl) (fun _ _ _ h => h) (Or.inr ⟨by rfl, rfl⟩) S0 ?_
  (try simp only [Act.put, qA, qB, qC, qD, qE, qF])
  refine wpAnyN_take (i := 11) (v := undef) rfl (by kernel_rfl) (by kernel_rfl) (by kernel_rfl) (by kernel_rfl) (fun _ _ _ h => h) (Or.inr ⟨by rfl, rfl⟩) S0 ?_
  (try simp only [Act.put, qA, qB, qC, qD, qE, qF])
  refine wpAnyN_take (i := 12) (v := undef) rfl (by kernel_rfl) (by kernel_rfl) (by kernel_rfl) (by kernel_rfl) (fun _ _ _ h => h) (Or.inr ⟨by rfl, rfl⟩) S0 ?_
  (try simp only [Act.put, qA, qB, qC, qD, qE, qF])
  refine tkO (i := 13) (v := ?_) rfl (Or.inl ⟨by rfl, ?_⟩) S0 ?_
  rotate_left
  · intro w' hS'
    obtain ⟨h0, h1, h2, h3, h4, h5, h6, h7, h8, h9, h10⟩ := hS'
    (try go_simp)
    first | done | exact rfl | exact ⟨rfl, rfl⟩
  (try simp only [Act.put, qA, qB, qC, qD, qE, qF])
  refine tkO (i := 14) (v := ?_) rfl (Or.inl ⟨by rfl, ?_⟩) S0 ?_
  rotate_left
  · intro w' hS'
    obtain ⟨h0, h1, h2, h3, h4, h5, h6, h7, h8, h9, h10⟩ := hS'
    (try go_simp)
    first | done | exact rfl | exact ⟨rfl, rfl⟩
  (try simp only [Act.put, qA, qB, qC, qD, qE, qF])
  refine wpAnyN_take (i := 15) (v := undef) rfl (by kernel_rfl) (by kernel_rfl) (by kernel_rfl) (by kernel_rfl) (fun _ _ _ h => h) (Or.inr ⟨by rfl, rfl⟩) S0 ?_
  (try simp only [Act.put, qA, qB, qC, qD, qE, qF])
  refine wpAnyN_take (i := 16) (v := undef) rfl (by kernel_rfl) (by kernel_rfl) (by kernel_rfl) (by kernel_rfl) (fun _ _ _ h => h) (Or.inr ⟨by rfl, rfl⟩) S0 ?_
  (try simp only [Act.put, qA, qB, qC, qD, qE, qF])
  refine wpAnyN_take (i := 17) (v := undef) rfl (by kernel_rfl) (by kernel_rfl) (by kernel_rfl) (by kernel_rfl) (fun _ _ _ h => h) (Or.inr ⟨by rfl, rfl⟩) S0 ?_
  (try simp only [Act.put, qA, qB, qC, qD, qE, qF])
  refine wpAnyN_take (i := 18) (v := undef) rfl (by kernel_rfl) (by kernel_rfl) (by kernel_rfl) (by kernel_rfl) (fun _ _ _ h => h) (Or.inr ⟨by rfl, rfl⟩) S0 ?_
  (try simp only [Act.put, qA, qB, qC, qD, qE, qF])
  refine wpAnyN_take (i := 19) (v := undef) rfl (by kernel_rfl) (by kernel_rfl) (by kernel_rfl) (by kernel_rfl) (fun _ _ _ h => h) (Or.inr ⟨by rfl, rfl⟩) S0 ?_
  (try simp only [Act.put, qA, qB, qC, qD, qE, qF])
  refine wpAnyN_take (i := 20) (v := undef) rfl (by kernel_rfl) (by kernel_rfl) (by kernel_rfl) (by kernel_rfl) (fun _ _ _ h => h) (Or.inr ⟨by rfl, rfl⟩) S0 ?_
  (try simp only [Act.put, qA, qB, qC, qD, qE, qF])
  refine tkO (i := 21) (v := ?_) rfl (Or.inl ⟨by rfl, ?_⟩) S0 ?_
  rotate_left
  · intro w' hS'
    obtain ⟨h0, h1, h2, h3, h4, h5, h6, h7, h8, h9, h10⟩ := hS'
    (try go_simp)
    first | done | exact rfl | exact ⟨rfl, rfl⟩
  (try simp only [Act.put, qA, qB, qC, qD, qE, qF])
  refine tkO (i := 22) (v := ?_) rfl (Or.inl ⟨by rfl, ?_⟩) S0 ?_
  rotate_left
  · intro w' hS'
    obtain ⟨h0, h1, h2, h3, h4, h5, h6, h7, h8, h9, h10⟩ := hS'
    (try go_simp)
    first | done | exact rfl | exact ⟨rfl, rfl⟩
  (try simp only [Act.put, qA, qB, qC, qD, qE, qF])
  refine wpAnyN_take (i := 23) (v := undef) rfl (by kernel_rfl) (by kernel_rfl) (by kernel_rfl) (by kernel_rfl) (fun _ _ _ h => h) (Or.inr ⟨by rfl, rfl⟩) S0 ?_
  (try simp only [Act.put, qA, qB, qC, qD, qE, qF])
  refine wpAnyN_take (i := 24) (v := undef) rfl (by kernel_rfl) (by kernel_rfl) (by kernel_rfl) (by kernel_rfl) (fun _ _ _ h => h) (Or.inr ⟨by rfl, rfl⟩) S0 ?_
  (try simp only [Act.put, qA, qB, qC, qD, qE, qF])
  refine wpAnyN_take (i := 25) (v := undef) rfl (by kernel_rfl) (by kernel_rfl) (by kernel_rfl) (by kernel_rfl) (fun _ _ _ h => h) (Or.inr ⟨by rfl, rfl⟩) S0 ?_
  (try simp only [Act.put, qA, qB, qC, qD, qE, qF])
  refine wpAnyN_take (i := 26) (v := undef) rfl (by kernel_rfl) (by kernel_rfl) (by kernel_rfl) (by kernel_rfl) (fun _ _ _ h => h) (Or.inr ⟨by rfl, rfl⟩) S0 ?_
  (try simp only [Act.put, qA, qB, qC, qD, qE, qF])
  refine wpAnyN_take (i := 27) (v := undef) rfl (by kernel_rfl) (by kernel_rfl) (by kernel_rfl) (by kernel_rfl) (fun _ _ _ h => h) (Or.inr ⟨by rfl, rfl⟩) S0 ?_
  (try simp only [Act.put, qA, qB, qC, qD, qE, qF])
  refine wpAnyN_take (i := 28) (v := undef) rfl (by kernel_rfl) (by kernel_rfl) (by kernel_rfl) (by kernel_rfl) (fun _ _ _ h => h) (Or.inr ⟨by rfl, rfl⟩) S0 ?_
  (try simp only [Act.put, qA, qB, qC, qD, qE, qF])
  refine tkO (i := 29) (v := ?_) rfl (Or.inl ⟨by rfl, ?_⟩) S0 ?_
  rotate_left
  · intro w' hS'
    obtain ⟨h0, h1, h2, h3, h4, h5, h6, h7, h8, h9, h10⟩ := hS'
    (try go_simp)
    first | done | exact rfl | exact ⟨rfl, rfl⟩
  (try simp only [Act.put, qA, qB, qC, qD, qE, qF])
  refine tkO (i := 30) (v := ?_) rfl (Or.inl ⟨by rfl, ?_⟩) S0 ?_
  rotate_left
  · intro w' hS'
    obtain ⟨h0, h1, h2, h3, h4, h5, h6, h7, h8, h9, h10⟩ := hS'
    (try go_simp)
    first | done | exact rfl | exact ⟨rfl, rfl⟩
  (try simp only [Act.put, qA, qB, qC, qD, qE, qF])
  refine wpAnyN_done (by kernel_rfl) ?_ _
  have BE : Hid (Below w.heap.size w wd) := below_next B0.out BL
  clear BL BA HS HR
  go_wp2
  go_ret
  exact ⟨rfl, BE.out⟩

set_option maxRecDepth 20000 in
set_option maxHeartbeats 1000000 in
theorem term2_tf (lv mv : Value) (fb fo eb eo nb C : Nat) (A : Option Addr) (rg an : Int) (x : Le) (av : Value) (w : World) (hop : x.k = 2) (hr : w.cell? ⟨fb, fo + 1, none⟩ = some (.int .i64 rg)) (hn : w.cell? ⟨fb, fo + 3, none⟩ = some (.int .i64 an)) (hb : w.cell? ⟨fb, fo + 6, none⟩ = some (.slice A nb C)) (hx : RowAt w eb eo (leC x av)) (ha : NosIn w x.args av) (g0 : cmpB x.tx = true) (g1 : readsB rg [x.a, x.b] = false) :
    Calls Tryd.prog 23 #[.agg #[lv, mv, .pointer (some ⟨fb, fo, none⟩)], .pointer (some ⟨eb, eo, none⟩)] w fun e w' => e = .returned (.bool (false)) ∧ Below w.heap.size w w' := by
  obtain ⟨ha0, AA, AC, rfl, ha1⟩ := ha.cells
  have HA : Hid (NosIn w x.args (.slice AA x.args.length AC)) := ha
  have B0 : Hid (Below w.heap.size w (w.alloc (.cells #[lv, mv, .pointer (some ⟨fb, fo, none⟩)] 62))) := below_alloc _ _
  have HS : Hid (∀ w', Below (w.alloc (.cells #[lv, mv, .pointer (some ⟨fb, fo, none⟩)] 62)).heap.size (w.alloc (.cells #[lv, mv, .pointer (some ⟨fb, fo, none⟩)] 62)) w' → w'.cell? ⟨w.heap.size, 0, none⟩ = some lv ∧ w'.cell? ⟨w.heap.size, 1, none⟩ = some mv ∧ w'.cell? ⟨w.heap.size, 2, none⟩ = some (.pointer (some ⟨fb, fo, none⟩)) ∧ w'.cell? ⟨eb, eo, none⟩ = some (.int .i64 2) ∧ w'.cell? ⟨eb, eo + 1, none⟩ = some (.int .i64 x.a) ∧ w'.cell? ⟨eb, eo + 2, none⟩ = some (.int .i64 x.b) ∧ w'.cell? ⟨eb, eo + 3, none⟩ = some (.int .i64 x.to) ∧ w'.cell? ⟨eb, eo + 4, none⟩ = some (.int .i64 x.el) ∧ w'.cell? ⟨eb, eo + 5, none⟩ = some (.string x.tx) ∧ w'.cell? ⟨eb, eo + 6, none⟩ = some (.slice AA x.args.length AC) ∧ w'.cell? ⟨fb, fo + 3, none⟩ = some (.int .i64 an)) := fun w' hb => by
    have hb2 := below_next B0.out hb
    have hA := (At.new w #[lv, mv, .pointer (some ⟨fb, fo, none⟩)] 62).below hb (by simp)
    exact ⟨hA.cell 0, hA.cell 1, hA.cell 2, hop ▸ kp_cell (hx.at 0 rfl) hb2, kp_cell (hx.at 1 rfl) hb2, kp_cell (hx.at 2 rfl) hb2, kp_cell (hx.at 3 rfl) hb2, kp_cell (hx.at 4 rfl) hb2, kp_cell (hx.at 5 rfl) hb2, kp_cell (hx.at 6 rfl) hb2, kp_cell hn hb2⟩
  have HR : Hid (w.cell? ⟨fb, fo + 1, none⟩ = some (.int .i64 rg)) := hr
  have HB : Hid (w.cell? ⟨fb, fo + 6, none⟩ = some (.slice A nb C)) := hb
  obtain ⟨c0, c1, c2, c3, c4, c5, c6, c7, c8, c9, c10⟩ := HS.out _ (Below.refl _ _)
  clear hr hx hop hn hb ha ha0 ha1
  have G0 : Hid (cmpB x.tx = true) := g0
  have G1 : Hid (readsB rg [x.a, x.b] = false) := g1
  clear g0 g1
  go_enter Tryd.func23, Tryd.ntmps23
  go_wp2_with (go_at_call 35; refine (named_t _ G0.out _).mono ?_; rintro e w1 ⟨f1, q1, rfl, hw⟩; have BA : Hid (Below (w.alloc (.cells #[lv, mv, .pointer (some ⟨fb, fo, none⟩)] 62)).heap.size (w.alloc (.cells #[lv, mv, .pointer (some ⟨fb, fo, none⟩)] 62)) (w1.alloc (.cells #[.func (.func f1) #[] #[], .bool q1] 95))) := below_next hw (below_alloc _ _); clear hw)
  generalize w1.alloc (.cells #[.func (.func f1) #[] #[], .bool q1] 95) = w2 at *
  clear c0 c1 c2 c3 c4 c5 c6 c7 c8 c9 c10
  generalize w.alloc (.cells #[lv, mv, .pointer (some ⟨fb, fo, none⟩)] 62) = w0 at *
  refine wp_region_N (fun w' => w'.cell? ⟨w.heap.size, 0, none⟩ = some lv ∧ w'.cell? ⟨w.heap.size, 1, none⟩ = some mv ∧ w'.cell? ⟨w.heap.size, 2, none⟩ = some (.pointer (some ⟨fb, fo, none⟩)) ∧ w'.cell? ⟨eb, eo, none⟩ = some (.int .i64 2) ∧ w'.cell? ⟨eb, eo + 1, none⟩ = some (.int .i64 x.a) ∧ w'.cell? ⟨eb, eo + 2, none⟩ = some (.int .i64 x.b) ∧ w'.cell? ⟨eb, eo + 3, none⟩ = some (.int .i64 x.to) ∧ w'.cell? ⟨eb, eo + 4, none⟩ = some (.int .i64 x.el) ∧ w'.cell? ⟨eb, eo + 5, none⟩ = some (.string x.tx) ∧ w'.cell? ⟨eb, eo + 6, none⟩ = some (.slice AA x.args.length AC) ∧ w'.cell? ⟨fb, fo + 3, none⟩ = some (.int .i64 an)) (fun _ => true) mixed (HS.out _ (below_next BA.out (below_drew _))) ?_
  intro S0
  have BL : Below w0.heap.size w0 w2.drew := below_next BA.out (below_drew _)
  generalize w2.drew = wd at *
  refine tkO (i := 0) (v := ?_) rfl (Or.inl ⟨by rfl, ?_⟩) S0 ?_
  rotate_left
  · intro w' hS'
    obtain ⟨h0, h1, h2, h3, h4, h5, h6, h7, h8, h9, h10⟩ := hS'
    (try go_simp)
    first | done | exact rfl | exact ⟨rfl, rfl⟩
  (try simp only [Act.put, qA, qC, qD, qE, qF])
  refine tkO (i := 1) (v := ?_) rfl (Or.inl ⟨by rfl, ?_⟩) S0 ?_
  rotate_left
  · intro w' hS'
    obtain ⟨h0, h1, h2, h3, h4, h5, h6, h7, h8, h9, h10⟩ := hS'
    (try go_simp)
    first | done | exact rfl | exact ⟨rfl, rfl⟩
  (try simp only [Act.put, qA, qB, qC, qD, qE, qF])
  refine tkO (i := 2) (v := ?_) rfl (Or.inl ⟨by rfl, ?_⟩) S0 ?_
  rotate_left
  · intro w' hS'
    obtain ⟨h0, h1, h2, h3, h4, h5, h6, h7, h8, h9, h10⟩ := hS'
    (try go_simp)
    first | done | exact rfl | exact ⟨rfl, rfl⟩
  (try simp only [Act.put, qA, qB, qC, qD, qE, qF])
  refine tkO (i := 3) (v := ?_) rfl (Or.inl ⟨by rfl, ?_⟩) S0 ?_
  rotate_left
  · intro w' hS'
    obtain ⟨h0, h1, h2, h3, h4, h5, h6, h7, h8, h9, h10⟩ := hS'
    (try go_simp)
    first | done | exact rfl | exact ⟨rfl, rfl⟩
  (try simp only [Act.put, qA, qB, qC, qD, qE, qF])
  refine tkO (i := 4) (v := ?_) rfl (Or.inl ⟨by rfl, ?_⟩) S0 ?_
  rotate_left
  · intro w' hS'
    obtain ⟨h0, h1, h2, h3, h4, h5, h6, h7, h8, h9, h10⟩ := hS'
    (try go_simp)
    first | done | exact rfl | exact ⟨rfl, rfl⟩
  (try simp only [Act.put, qA, qB, qC, qD, qE, qF])
  refine tkO (i := 5) (v := ?_) rfl (Or.inl ⟨by rfl, ?_⟩) S0 ?_
  rotate_left
  · intro w' hS'
    obtain ⟨h0, h1, h2, h3, h4, h5, h6, h7, h8, h9, h10⟩ := hS'
    (try go_simp)
    first | done | exact rfl | exact ⟨rfl, rfl⟩
  (try simp only [Act.put, qA, qB, qC, qD, qE, qF])
  refine tkO (i := 6) (v := ?_) rfl (Or.inl ⟨by rfl, ?_⟩) S0 ?_
  rotate_left
  · intro w' hS'
    obtain ⟨h0, h1, h2, h3, h4, h5, h6, h7, h8, h9, h10⟩ := hS'
    (try go_simp)
    first | done | exact rfl | exact ⟨rfl, rfl⟩
  (try simp only [Act.put, qA, qB, qC, qD, qE, qF])
  refine tkO (i := 7) (v := ?_) rfl (Or.inl ⟨by rfl, ?_⟩) S0 ?_
  rotate_left
  · intro w' hS'
    obtain ⟨h0, h1, h2, h3, h4, h5, h6, h7, h8, h9, h10⟩ := hS'
    (try go_simp)
    first | done | exact rfl | exact ⟨rfl, rfl⟩
  (try simp only [Act.put, qA, qB, qC, qD, qE, qF])
  refine tkO (i := 8) (v := ?_) rfl (Or.inl ⟨by rfl, ?_⟩) S0 ?_
  rotate_left
  · intro w' hS'
    obtain ⟨h0, h1, h2, h3, h4, h5, h6, h7, h8, h9, h10⟩ := hS'
    (try go_simp)
    first | done | exact rfl | exact ⟨rfl, rfl⟩
  (try simp only [Act.put, qA, qB, qC, qD, qE, qF])
  refine tkO (i := 9) (v := ?_) rfl (Or.inl ⟨by rfl, ?_⟩) S0 ?_
  rotate_left
  · intro w' hS'
    obtain ⟨h0, h1, h2, h3, h4, h5, h6, h7, h8, h9, h10⟩ := hS'
    (try go_simp)
    first | done | exact rfl | exact ⟨rfl, rfl⟩
  (try simp only [Act.put, qA, qB, qC, qD, qE, qF])
  refine tkO (i := 10) (v := ?_) rfl (Or.inl ⟨by rfl, ?_⟩) S0 ?_
  rotate_left
  · intro w' hS'
    obtain ⟨h0, h1, h2, h3, h4, h5, h6, h7, h8, h9, h10⟩ := hS'
    (try go_simp)
    first | done | exact rfl | exact ⟨rfl, rfl⟩
  (try simp only [Act.put, qA, qB, qC, qD, qE, qF])
  refine wpAnyN_one (i := 11) (by kernel_rfl) rfl (fun K hK => ?_)
  go_simp
  have N11 := nos_two (w := wd) x.a x.b
  have BL := below_next BL (below_alloc wd (.cells #[.int .i64 x.a, .int .i64 x.b] 3))
  have S12 := HS.out _ BL
  generalize wd.alloc (.cells #[.int .i64 x.a, .int .i64 x.b] 3) = wb11 at *
  refine hK _ _ (fun _ => S12) ?_
  clear hK K
  (try simp only [Act.put, qA, qB, qC, qD, qE, qF])
  refine wpAnyN_one (i := 12) (by kernel_rfl) rfl (fun K hK => ?_)
  go_simp
  (go_at_call 28; refine Calls.mono (reads_c _ _ fb fo rg _ _ _ (kp_cell HR.out (below_next B0.out BL)) N11) ?_; rintro e w112 ⟨rfl, hb12⟩)
  rw [G1.out]
  have BL := below_next BL hb12
  have S13 := HS.out _ BL
  clear hb12
  go_wp2_with fail
  refine hK _ _ (fun _ => S13) ?_
  clear hK K
  (try simp only [Act.put, qA, qB, qC, qD, qE, qF])
  refine tkO (i := 13) (v := ?_) rfl (Or.inl ⟨by rfl, ?_⟩) S13 ?_
  rotate_left
  · intro w' hS'
    obtain ⟨h0, h1, h2, h3, h4, h5, h6, h7, h8, h9, h10⟩ := hS'
    (try go_simp)
    first | done | exact rfl | exact ⟨rfl, rfl⟩
  (try simp only [Act.put, qA, qB, qC, qD, qE, qF])
  refine tkO (i := 14) (v := ?_) rfl (Or.inl ⟨by rfl, ?_⟩) S13 ?_
  rotate_left
  · intro w' hS'
    obtain ⟨h0, h1, h2, h3, h4, h5, h6, h7, h8, h9, h10⟩ := hS'
    (try go_simp)
    first | done | exact rfl | exact ⟨rfl, rfl⟩
  (try simp only [Act.put, qA, qB, qC, qD, qE, qF])
  refine wpAnyN_take (i := 15) (v := undef) rfl (by kernel_rfl) (by kernel_rfl) (by kernel_rfl) (by kernel_rfl) (fun _ _ _ h => h) (Or.inr ⟨by rfl, rfl⟩) S13 ?_
  (try simp only [Act.put, qA, qB, qC, qD, qE, qF])
  refine wpAnyN_take (i := 16) (v := undef) rfl (by kernel_rfl) (by kernel_rfl) (by kernel_rfl) (by kernel_rfl) (fun _ _ _ h => h) (Or.inr ⟨by rfl, rfl⟩) S13 ?_
  (try simp only [Act.put, qA, qB, qC, qD, qE, qF])
  refine wpAnyN_take (i := 17) (v := undef) rfl (by kernel_rfl) (by kernel_rfl) (by kernel_rfl) (by kernel_rfl) (fun _ _ _ h => h) (Or.inr ⟨by rfl, rfl⟩) S13 ?_
  (try simp only [Act.put, qA, qB, qC, qD, qE, qF])
  refine wpAnyN_take (i := 18) (v := undef) rfl (by kernel_rfl) (by kernel_rfl) (by kernel_rfl) (by kernel_rfl) (fun _ _ _ h => h) (Or.inr ⟨by rfl, rfl⟩) S13 ?_
  (try simp only [Act.put, qA, qB, qC, qD, qE, qF])
  refine wpAnyN_take (i := 19) (v := undef) rfl (by kernel_rfl) (by kernel_rfl) (by kernel_rfl) (by kernel_rfl) (fun _ _ _ h => h) (Or.inr ⟨by rfl, rfl⟩) S13 ?_
  (try simp only [Act.put, qA, qB, qC, qD, qE, qF])
  refine wpAnyN_take (i := 20) (v := undef) rfl (by kernel_rfl) (by kernel_rfl) (by kernel_rfl) (by kernel_rfl) (fun _ _ _ h => h) (Or.inr ⟨by rfl, rfl⟩) S13 ?_
  (try simp only [Act.put, qA, qB, qC, qD, qE, qF])
  refine tkO (i := 21) (v := ?_) rfl (Or.inl ⟨by rfl, ?_⟩) S13 ?_
  rotate_left
  · intro w' hS'
    obtain ⟨h0, h1, h2, h3, h4, h5, h6, h7, h8, h9, h10⟩ := hS'
    (try go_simp)
    first | done | exact rfl | exact ⟨rfl, rfl⟩
  (try simp only [Act.put, qA, qB, qC, qD, qE, qF])
  refine tkO (i := 22) (v := ?_) rfl (Or.inl ⟨by rfl, ?_⟩) S13 ?_
  rotate_left
  · intro w' hS'
    obtain ⟨h0, h1, h2, h3, h4, h5, h6, h7, h8, h9, h10⟩ := hS'
    (try go_simp)
    first | done | exact rfl | exact ⟨rfl, rfl⟩
  (try simp only [Act.put, qA, qB, qC, qD, qE, qF])
  refine wpAnyN_take (i := 23) (v := undef) rfl (by kernel_rfl) (by kernel_rfl) (by kernel_rfl) (by kernel_rfl) (fun _ _ _ h => h) (Or.inr ⟨by rfl, rfl⟩) S13 ?_
  (try simp only [Act.put, qA, qB, qC, qD, qE, qF])
  refine wpAnyN_take (i := 24) (v := undef) rfl (by kernel_rfl) (by kernel_rfl) (by kernel_rfl) (by kernel_rfl) (fun _ _ _ h => h) (Or.inr ⟨by rfl, rfl⟩) S13 ?_
  (try simp only [Act.put, qA, qB, qC, qD, qE, qF])
  refine wpAnyN_take (i := 25) (v := undef) rfl (by kernel_rfl) (by kernel_rfl) (by kernel_rfl) (by kernel_rfl) (fun _ _ _ h => h) (Or.inr ⟨by rfl, rfl⟩) S13 ?_
  (try simp only [Act.put, qA, qB, qC, qD, qE, qF])
  refine wpAnyN_take (i := 26) (v := undef) rfl (by kernel_rfl) (by kernel_rfl) (by kernel_rfl) (by kernel_rfl) (fun _ _ _ h => h) (Or.inr ⟨by rfl, rfl⟩) S13 ?_
  (try simp only [Act.put, qA, qB, qC, qD, qE, qF])
  refine wpAnyN_take (i := 27) (v := undef) rfl (by kernel_rfl) (by kernel_rfl) (by kernel_rfl) (by kernel_rfl) (fun _ _ _ h => h) (Or.inr ⟨by rfl, rfl⟩) S13 ?_
  (try simp only [Act.put, qA, qB, qC, qD, qE, qF])
  refine wpAnyN_take (i := 28) (v := undef) rfl (by kernel_rfl) (by kernel_rfl) (by kernel_rfl) (by kernel_rfl) (fun _ _ _ h => h) (Or.inr ⟨by rfl, rfl⟩) S13 ?_
  (try simp only [Act.put, qA, qB, qC, qD, qE, qF])
  refine tkO (i := 29) (v := ?_) rfl (Or.inl ⟨by rfl, ?_⟩) S13 ?_
  rotate_left
  · intro w' hS'
    obtain ⟨h0, h1, h2, h3, h4, h5, h6, h7, h8, h9, h10⟩ := hS'
    (try go_simp)
    first | done | exact rfl | exact ⟨rfl, rfl⟩
  (try simp only [Act.put, qA, qB, qC, qD, qE, qF])
  refine tkO (i := 30) (v := ?_) rfl (Or.inl ⟨by rfl, ?_⟩) S13 ?_
  rotate_left
  · intro w' hS'
    obtain ⟨h0, h1, h2, h3, h4, h5, h6, h7, h8, h9, h10⟩ := hS'
    (try go_simp)
    first | done | exact rfl | exact ⟨rfl, rfl⟩
  (try simp only [Act.put, qA, qB, qC, qD, qE, qF])
  refine wpAnyN_done (by kernel_rfl) ?_ _
  have BE : Hid (Below w.heap.size w w112) := below_next B0.out BL
  clear BL BA HS HR
  go_wp2
  go_ret
  exact ⟨rfl, BE.out⟩

set_option maxRecDepth 20000 in
set_option maxHeartbeats 1000000 in
theorem term2_ttf (lv mv : Value) (fb fo eb eo nb C : Nat) (A : Option Addr) (rg an : Int) (x : Le) (av : Value) (w : World) (hop : x.k = 2) (hr : w.cell? ⟨fb, fo + 1, none⟩ = some (.int .i64 rg)) (hn : w.cell? ⟨fb, fo + 3, none⟩ = some (.int .i64 an)) (hb : w.cell? ⟨fb, fo + 6, none⟩ = some (.slice A nb C)) (hx : RowAt w eb eo (leC x av)) (ha : NosIn w x.args av) (g0 : cmpB x.tx = true) (g1 : readsB rg [x.a, x.b] = true) (g2 : toB nb x.to = false) :
    Calls Tryd.prog 23 #[.agg #[lv, mv, .pointer (some ⟨fb, fo, none⟩)], .pointer (some ⟨eb, eo, none⟩)] w fun e w' => e = .returned (.bool (false)) ∧ Below w.heap.size w w' := by
  obtain ⟨ha0, AA, AC, rfl, ha1⟩ := ha.cells
  have HA : Hid (NosIn w x.args (.slice AA x.args.length AC)) := ha
  have B0 : Hid (Below w.heap.size w (w.alloc (.cells #[lv, mv, .pointer (some ⟨fb, fo, none⟩)] 62))) := below_alloc _ _
  have HS : Hid (∀ w', Below (w.alloc (.cells #[lv, mv, .pointer (some ⟨fb, fo, none⟩)] 62)).heap.size (w.alloc (.cells #[lv, mv, .pointer (some ⟨fb, fo, none⟩)] 62)) w' → w'.cell? ⟨w.heap.size, 0, none⟩ = some lv ∧ w'.cell? ⟨w.heap.size, 1, none⟩ = some mv ∧ w'.cell? ⟨w.heap.size, 2, none⟩ = some (.pointer (some ⟨fb, fo, none⟩)) ∧ w'.cell? ⟨eb, eo, none⟩ = some (.int .i64 2) ∧ w'.cell? ⟨eb, eo + 1, none⟩ = some (.int .i64 x.a) ∧ w'.cell? ⟨eb, eo + 2, none⟩ = some (.int .i64 x.b) ∧ w'.cell? ⟨eb, eo + 3, none⟩ = some (.int .i64 x.to) ∧ w'.cell? ⟨eb, eo + 4, none⟩ = some (.int .i64 x.el) ∧ w'.cell? ⟨eb, eo + 5, none⟩ = some (.string x.tx) ∧ w'.cell? ⟨eb, eo + 6, none⟩ = some (.slice AA x.args.length AC) ∧ w'.cell? ⟨fb, fo + 3, none⟩ = some (.int .i64 an)) := fun w' hb => by
    have hb2 := below_next B0.out hb
    have hA := (At.new w #[lv, mv, .pointer (some ⟨fb, fo, none⟩)] 62).below hb (by simp)
    exact ⟨hA.cell 0, hA.cell 1, hA.cell 2, hop ▸ kp_cell (hx.at 0 rfl) hb2, kp_cell (hx.at 1 rfl) hb2, kp_cell (hx.at 2 rfl) hb2, kp_cell (hx.at 3 rfl) hb2, kp_cell (hx.at 4 rfl) hb2, kp_cell (hx.at 5 rfl) hb2, kp_cell (hx.at 6 rfl) hb2, kp_cell hn hb2⟩
  have HR : Hid (w.cell? ⟨fb, fo + 1, none⟩ = some (.int .i64 rg)) := hr
  have HB : Hid (w.cell? ⟨fb, fo + 6, none⟩ = some (.slice A nb C)) := hb
  obtain ⟨c0, c1, c2, c3, c4, c5, c6, c7, c8, c9, c10⟩ := HS.out _ (Below.refl _ _)
  clear hr hx hop hn hb ha ha0 ha1
  have G0 : Hid (cmpB x.tx = true) := g0
  have G1 : Hid (readsB rg [x.a, x.b] = true) := g1
  have G2 : Hid (toB nb x.to = false) := g2
  clear g0 g1 g2
  go_enter Tryd.func23, Tryd.ntmps23
  go_wp2_with (go_at_call 35; refine (named_t _ G0.out _).mono ?_; rintro e w1 ⟨f1, q1, rfl, hw⟩; have BA : Hid (Below (w.alloc (.cells #[lv, mv, .pointer (some ⟨fb, fo, none⟩)] 62)).heap.size (w.alloc (.cells #[lv, mv, .pointer (some ⟨fb, fo, none⟩)] 62)) (w1.alloc (.cells #[.func (.func f1) #[] #[], .bool q1] 95))) := below_next hw (below_alloc _ _); clear hw)
  generalize w1.alloc (.cells #[.func (.func f1) #[] #[], .bool q1] 95) = w2 at *
  clear c0 c1 c2 c3 c4 c5 c6 c7 c8 c9 c10
  generalize w.alloc (.cells #[lv, mv, .pointer (some ⟨fb, fo, none⟩)] 62) = w0 at *
  refine wp_region_N (fun w' => w'.cell? ⟨w.heap.size, 0, none⟩ = some lv ∧ w'.cell? ⟨w.heap.size, 1, none⟩ = some mv ∧ w'.cell? ⟨w.heap.size, 2, none⟩ = some (.pointer (some ⟨fb, fo, none⟩)) ∧ w'.cell? ⟨eb, eo, none⟩ = some (.int .i64 2) ∧ w'.cell? ⟨eb, eo + 1, none⟩ = some (.int .i64 x.a) ∧ w'.cell? ⟨eb, eo + 2, none⟩ = some (.int .i64 x.b) ∧ w'.cell? ⟨eb, eo + 3, none⟩ = some (.int .i64 x.to) ∧ w'.cell? ⟨eb, eo + 4, none⟩ = some (.int .i64 x.el) ∧ w'.cell? ⟨eb, eo + 5, none⟩ = some (.string x.tx) ∧ w'.cell? ⟨eb, eo + 6, none⟩ = some (.slice AA x.args.length AC) ∧ w'.cell? ⟨fb, fo + 3, none⟩ = some (.int .i64 an)) (fun _ => true) mixed (HS.out _ (below_next BA.out (below_drew _))) ?_
  intro S0
  have BL : Below w0.heap.size w0 w2.drew := below_next BA.out (below_drew _)
  generalize w2.drew = wd at *
  refine tkO (i := 0) (v := ?_) rfl (Or.inl ⟨by rfl, ?_⟩) S0 ?_
  rotate_left
  · intro w' hS'
    obtain ⟨h0, h1, h2, h3, h4, h5, h6, h7, h8, h9, h10⟩ := hS'
    (try go_simp)
    first | done | exact rfl | exact ⟨rfl, rfl⟩
  (try simp only [Act.put, qA, qC, qD, qE, qF])
  refine tkO (i := 1) (v := ?_) rfl (Or.inl ⟨by rfl, ?_⟩) S0 ?_
  rotate_left
  · intro w' hS'
    obtain ⟨h0, h1, h2, h3, h4, h5, h6, h7, h8, h9, h10⟩ := hS'
    (try go_simp)
    first | done | exact rfl | exact ⟨rfl, rfl⟩
  (try simp only [Act.put, qA, qB, qC, qD, qE, qF])
  refine tkO (i := 2) (v := ?_) rfl (Or.inl ⟨by rfl, ?_⟩) S0 ?_
  rotate_left
  · intro w' hS'
    obtain ⟨h0, h1, h2, h3, h4, h5, h6, h7, h8, h9, h10⟩ := hS'
    (try go_simp)
    first | done | exact rfl | exact ⟨rfl, rfl⟩
  (try simp only [Act.put, qA, qB, qC, qD, qE, qF])
  refine tkO (i := 3) (v := ?_) rfl (Or.inl ⟨by rfl, ?_⟩) S0 ?_
  rotate_left
  · intro w' hS'
    obtain ⟨h0, h1, h2, h3, h4, h5, h6, h7, h8, h9, h10⟩ := hS'
    (try go_simp)
    first | done | exact rfl | exact ⟨rfl, rfl⟩
  (try simp only [Act.put, qA, qB, qC, qD, qE, qF])
  refine tkO (i := 4) (v := ?_) rfl (Or.inl ⟨by rfl, ?_⟩) S0 ?_
  rotate_left
  · intro w' hS'
    obtain ⟨h0, h1, h2, h3, h4, h5, h6, h7, h8, h9, h10⟩ := hS'
    (try go_simp)
    first | done | exact rfl | exact ⟨rfl, rfl⟩
  (try simp only [Act.put, qA, qB, qC, qD, qE, qF])
  refine tkO (i := 5) (v := ?_) rfl (Or.inl ⟨by rfl, ?_⟩) S0 ?_
  rotate_left
  · intro w' hS'
    obtain ⟨h0, h1, h2, h3, h4, h5, h6, h7, h8, h9, h10⟩ := hS'
    (try go_simp)
    first | done | exact rfl | exact ⟨rfl, rfl⟩
  (try simp only [Act.put, qA, qB, qC, qD, qE, qF])
  refine tkO (i := 6) (v := ?_) rfl (Or.inl ⟨by rfl, ?_⟩) S0 ?_
  rotate_left
  · intro w' hS'
    obtain ⟨h0, h1, h2, h3, h4, h5, h6, h7, h8, h9, h10⟩ := hS'
    (try go_simp)
    first | done | exact rfl | exact ⟨rfl, rfl⟩
  (try simp only [Act.put, qA, qB, qC, qD, qE, qF])
  refine tkO (i := 7) (v := ?_) rfl (Or.inl ⟨by rfl, ?_⟩) S0 ?_
  rotate_left
  · intro w' hS'
    obtain ⟨h0, h1, h2, h3, h4, h5, h6, h7, h8, h9, h10⟩ := hS'
    (try go_simp)
    first | done | exact rfl | exact ⟨rfl, rfl⟩
  (try simp only [Act.put, qA, qB, qC, qD, qE, qF])
  refine tkO (i := 8) (v := ?_) rfl (Or.inl ⟨by rfl, ?_⟩) S0 ?_
  rotate_left
  · intro w' hS'
    obtain ⟨h0, h1, h2, h3, h4, h5, h6, h7, h8, h9, h10⟩ := hS'
    (try go_simp)
    first | done | exact rfl | exact ⟨rfl, rfl⟩
  (try simp only [Act.put, qA, qB, qC, qD, qE, qF])
  refine tkO (i := 9) (v := ?_) rfl (Or.inl ⟨by rfl, ?_⟩) S0 ?_
  rotate_left
  · intro w' hS'
    obtain ⟨h0, h1, h2, h3, h4, h5, h6, h7, h8, h9, h10⟩ := hS'
    (try go_simp)
    first | done | exact rfl | exact ⟨rfl, rfl⟩
  (try simp only [Act.put, qA, qB, qC, qD, qE, qF])
  refine tkO (i := 10) (v := ?_) rfl (Or.inl ⟨by rfl, ?_⟩) S0 ?_
  rotate_left
  · intro w' hS'
    obtain ⟨h0, h1, h2, h3, h4, h5, h6, h7, h8, h9, h10⟩ := hS'
    (try go_simp)
    first | done | exact rfl | exact ⟨rfl, rfl⟩
  (try simp only [Act.put, qA, qB, qC, qD, qE, qF])
  refine wpAnyN_one (i := 11) (by kernel_rfl) rfl (fun K hK => ?_)
  go_simp
  have N11 := nos_two (w := wd) x.a x.b
  have BL := below_next BL (below_alloc wd (.cells #[.int .i64 x.a, .int .i64 x.b] 3))
  have S12 := HS.out _ BL
  generalize wd.alloc (.cells #[.int .i64 x.a, .int .i64 x.b] 3) = wb11 at *
  refine hK _ _ (fun _ => S12) ?_
  clear hK K
  (try simp only [Act.put, qA, qB, qC, qD, qE, qF])
  refine wpAnyN_one (i := 12) (by kernel_rfl) rfl (fun K hK => ?_)
  go_simp
  (go_at_call 28; refine Calls.mono (reads_c _ _ fb fo rg _ _ _ (kp_cell HR.out (below_next B0.out BL)) N11) ?_; rintro e w112 ⟨rfl, hb12⟩)
  rw [G1.out]
  have BL := below_next BL hb12
  have S13 := HS.out _ BL
  clear hb12
  go_wp2_with fail
  refine hK _ _ (fun _ => S13) ?_
  clear hK K
  (try simp only [Act.put, qA, qB, qC, qD, qE, qF])
  refine tkO (i := 13) (v := ?_) rfl (Or.inl ⟨by rfl, ?_⟩) S13 ?_
  rotate_left
  · intro w' hS'
    obtain ⟨h0, h1, h2, h3, h4, h5, h6, h7, h8, h9, h10⟩ := hS'
    (try go_simp)
    first | done | exact rfl | exact ⟨rfl, rfl⟩
  (try simp only [Act.put, qA, qB, qC, qD, qE, qF])
  refine tkO (i := 14) (v := ?_) rfl (Or.inl ⟨by rfl, ?_⟩) S13 ?_
  rotate_left
  · intro w' hS'
    obtain ⟨h0, h1, h2, h3, h4, h5, h6, h7, h8, h9, h10⟩ := hS'
    (try go_simp)
    first | done | exact rfl | exact ⟨rfl, rfl⟩
  (try simp only [Act.put, qA, qB, qC, qD, qE, qF])
  refine tkO (i := 15) (v := ?_) rfl (Or.inl ⟨by rfl, ?_⟩) S13 ?_
  rotate_left
  · intro w' hS'
    obtain ⟨h0, h1, h2, h3, h4, h5, h6, h7, h8, h9, h10⟩ := hS'
    (try go_simp)
    first | done | exact rfl | exact ⟨rfl, rfl⟩
  (try simp only [Act.put, qA, qB, qC, qD, qE, qF])
  refine tkO (i := 16) (v := ?_) rfl (Or.inl ⟨by rfl, ?_⟩) S13 ?_
  rotate_left
  · intro w' hS'
    obtain ⟨h0, h1, h2, h3, h4, h5, h6, h7, h8, h9, h10⟩ := hS'
    (try go_simp)
    first | done | exact rfl | exact ⟨rfl, rfl⟩
  (try simp only [Act.put, qA, qB, qC, qD, qE, qF])
  refine tkO (i := 17) (v := ?_) rfl (Or.inl ⟨by rfl, ?_⟩) S13 ?_
  rotate_left
  · intro w' hS'
    obtain ⟨h0, h1, h2, h3, h4, h5, h6, h7, h8, h9, h10⟩ := hS'
    (try go_simp)
    first | done | exact rfl | exact ⟨rfl, rfl⟩
  (try simp only [Act.put, qA, qB, qC, qD, qE, qF])
  refine tkO (i := 18) (v := ?_) rfl (Or.inl ⟨by rfl, ?_⟩) S13 ?_
  rotate_left
  · intro w' hS'
    obtain ⟨h0, h1, h2, h3, h4, h5, h6, h7, h8, h9, h10⟩ := hS'
    (try go_simp)
    first | done | exact rfl | exact ⟨rfl, rfl⟩
  (try simp only [Act.put, qA, qB, qC, qD, qE, qF])
  refine tkO (i := 19) (v := ?_) rfl (Or.inl ⟨by rfl, ?_⟩) S13 ?_
  rotate_left
  · intro w' hS'
    obtain ⟨h0, h1, h2, h3, h4, h5, h6, h7, h8, h9, h10⟩ := hS'
    (try go_simp)
    first | done | exact rfl | exact ⟨rfl, rfl⟩
  (try simp only [Act.put, qA, qB, qC, qD, qE, qF])
  refine wpAnyN_one (i := 20) (by kernel_rfl) rfl (fun K hK => ?_)
  go_simp
  (go_at_call 34; refine Calls.mono (block_c _ _ fb fo nb A C _ _ (kp_cell HB.out (below_next B0.out BL))) ?_; rintro e w120 ⟨rfl, hb20⟩)
  rw [G2.out]
  have BL := below_next BL hb20
  have S21 := HS.out _ BL
  clear hb20
  go_wp2_with fail
  refine hK _ _ (fun _ => S21) ?_
  clear hK K
  (try simp only [Act.put, qA, qB, qC, qD, qE, qF])
  refine tkO (i := 21) (v := ?_) rfl (Or.inl ⟨by rfl, ?_⟩) S21 ?_
  rotate_left
  · intro w' hS'
    obtain ⟨h0, h1, h2, h3, h4, h5, h6, h7, h8, h9, h10⟩ := hS'
    (try go_simp)
    first | done | exact rfl | exact ⟨rfl, rfl⟩
  (try simp only [Act.put, qA, qB, qC, qD, qE, qF])
  refine tkO (i := 22) (v := ?_) rfl (Or.inl ⟨by rfl, ?_⟩) S21 ?_
  rotate_left
  · intro w' hS'
    obtain ⟨h0, h1, h2, h3, h4, h5, h6, h7, h8, h9, h10⟩ := hS'
    (try go_simp)
    first | done | exact rfl | exact ⟨rfl, rfl⟩
  (try simp only [Act.put, qA, qB, qC, qD, qE, qF])
  refine wpAnyN_take (i := 23) (v := undef) rfl (by kernel_rfl) (by kernel_rfl) (by kernel_rfl) (by kernel_rfl) (fun _ _ _ h => h) (Or.inr ⟨by rfl, rfl⟩) S21 ?_
  (try simp only [Act.put, qA, qB, qC, qD, qE, qF])
  refine wpAnyN_take (i := 24) (v := undef) rfl (by kernel_rfl) (by kernel_rfl) (by kernel_rfl) (by kernel_rfl) (fun _ _ _ h => h) (Or.inr ⟨by rfl, rfl⟩) S21 ?_
  (try simp only [Act.put, qA, qB, qC, qD, qE, qF])
  refine wpAnyN_take (i := 25) (v := undef) rfl (by kernel_rfl) (by kernel_rfl) (by kernel_rfl) (by kernel_rfl) (fun _ _ _ h => h) (Or.inr ⟨by rfl, rfl⟩) S21 ?_
  (try simp only [Act.put, qA, qB, qC, qD, qE, qF])
  refine wpAnyN_take (i := 26) (v := undef) rfl (by kernel_rfl) (by kernel_rfl) (by kernel_rfl) (by kernel_rfl) (fun _ _ _ h => h) (Or.inr ⟨by rfl, rfl⟩) S21 ?_
  (try simp only [Act.put, qA, qB, qC, qD, qE, qF])
  refine wpAnyN_take (i := 27) (v := undef) rfl (by kernel_rfl) (by kernel_rfl) (by kernel_rfl) (by kernel_rfl) (fun _ _ _ h => h) (Or.inr ⟨by rfl, rfl⟩) S21 ?_
  (try simp only [Act.put, qA, qB, qC, qD, qE, qF])
  refine wpAnyN_take (i := 28) (v := undef) rfl (by kernel_rfl) (by kernel_rfl) (by kernel_rfl) (by kernel_rfl) (fun _ _ _ h => h) (Or.inr ⟨by rfl, rfl⟩) S21 ?_
  (try simp only [Act.put, qA, qB, qC, qD, qE, qF])
  refine tkO (i := 29) (v := ?_) rfl (Or.inl ⟨by rfl, ?_⟩) S21 ?_
  rotate_left
  · intro w' hS'
    obtain ⟨h0, h1, h2, h3, h4, h5, h6, h7, h8, h9, h10⟩ := hS'
    (try go_simp)
    first | done | exact rfl | exact ⟨rfl, rfl⟩
  (try simp only [Act.put, qA, qB, qC, qD, qE, qF])
  refine tkO (i := 30) (v := ?_) rfl (Or.inl ⟨by rfl, ?_⟩) S21 ?_
  rotate_left
  · intro w' hS'
    obtain ⟨h0, h1, h2, h3, h4, h5, h6, h7, h8, h9, h10⟩ := hS'
    (try go_simp)
    first | done | exact rfl | exact ⟨rfl, rfl⟩
  (try simp only [Act.put, qA, qB, qC, qD, qE, qF])
  refine wpAnyN_done (by kernel_rfl) ?_ _
  have BE : Hid (Below w.heap.size w w120) := below_next B0.out BL
  clear BL BA HS HR
  go_wp2
  go_ret
  exact ⟨rfl, BE.out⟩

set_option maxRecDepth 20000 in
set_option maxHeartbeats 1000000 in
theorem term2_tttx (lv mv : Value) (fb fo eb eo nb C : Nat) (A : Option Addr) (rg an : Int) (x : Le) (av : Value) (w : World) (hop : x.k = 2) (hr : w.cell? ⟨fb, fo + 1, none⟩ = some (.int .i64 rg)) (hn : w.cell? ⟨fb, fo + 3, none⟩ = some (.int .i64 an)) (hb : w.cell? ⟨fb, fo + 6, none⟩ = some (.slice A nb C)) (hx : RowAt w eb eo (leC x av)) (ha : NosIn w x.args av) (g0 : cmpB x.tx = true) (g1 : readsB rg [x.a, x.b] = true) (g2 : toB nb x.to = true) :
    Calls Tryd.prog 23 #[.agg #[lv, mv, .pointer (some ⟨fb, fo, none⟩)], .pointer (some ⟨eb, eo, none⟩)] w fun e w' => e = .returned (.bool (toB nb x.el)) ∧ Below w.heap.size w w' := by
  obtain ⟨ha0, AA, AC, rfl, ha1⟩ := ha.cells
  have HA : Hid (NosIn w x.args (.slice AA x.args.length AC)) := ha
  have B0 : Hid (Below w.heap.size w (w.alloc (.cells #[lv, mv, .pointer (some ⟨fb, fo, none⟩)] 62))) := below_alloc _ _
  have HS : Hid (∀ w', Below (w.alloc (.cells #[lv, mv, .pointer (some ⟨fb, fo, none⟩)] 62)).heap.size (w.alloc (.cells #[lv, mv, .pointer (some ⟨fb, fo, none⟩)] 62)) w' → w'.cell? ⟨w.heap.size, 0, none⟩ = some lv ∧ w'.cell? ⟨w.heap.size, 1, none⟩ = some mv ∧ w'.cell? ⟨w.heap.size, 2, none⟩ = some (.pointer (some ⟨fb, fo, none⟩)) ∧ w'.cell? ⟨eb, eo, none⟩ = some (.int .i64 2) ∧ w'.cell? ⟨eb, eo + 1, none⟩ = some (.int .i64 x.a) ∧ w'.cell? ⟨eb, eo + 2, none⟩ = some (.int .i64 x.b) ∧ w'.cell? ⟨eb, eo + 3, none⟩ = some (.int .i64 x.to) ∧ w'.cell? ⟨eb, eo + 4, none⟩ = some (.int .i64 x.el) ∧ w'.cell? ⟨eb, eo + 5, none⟩ = some (.string x.tx) ∧ w'.cell? ⟨eb, eo + 6, none⟩ = some (.slice AA x.args.length AC) ∧ w'.cell? ⟨fb, fo + 3, none⟩ = some (.int .i64 an)) := fun w' hb => by
    have hb2 := below_next B0.out hb
    have hA := (At.new w #[lv, mv, .pointer (some ⟨fb, fo, none⟩)] 62).below hb (by simp)
    exact ⟨hA.cell 0, hA.cell 1, hA.cell 2, hop ▸ kp_cell (hx.at 0 rfl) hb2, kp_cell (hx.at 1 rfl) hb2, kp_cell (hx.at 2 rfl) hb2, kp_cell (hx.at 3 rfl) hb2, kp_cell (hx.at 4 rfl) hb2, kp_cell (hx.at 5 rfl) hb2, kp_cell (hx.at 6 rfl) hb2, kp_cell hn hb2⟩
  have HR : Hid (w.cell? ⟨fb, fo + 1, none⟩ = some (.int .i64 rg)) := hr
  have HB : Hid (w.cell? ⟨fb, fo + 6, none⟩ = some (.slice A nb C)) := hb
  obtain ⟨c0, c1, c2, c3, c4, c5, c6, c7, c8, c9, c10⟩ := HS.out _ (Below.refl _ _)
  clear hr hx hop hn hb ha ha0 ha1
  have G0 : Hid (cmpB x.tx = true) := g0
  have G1 : Hid (readsB rg [x.a, x.b] = true) := g1
  have G2 : Hid (toB nb x.to = true) := g2
  clear g0 g1 g2
  go_enter Tryd.func23, Tryd.ntmps23
  go_wp2_with (go_at_call 35; refine (named_t _ G0.out _).mono ?_; rintro e w1 ⟨f1, q1, rfl, hw⟩; have BA : Hid (Below (w.alloc (.cells #[lv, mv, .pointer (some ⟨fb, fo, none⟩)] 62)).heap.size (w.alloc (.cells #[lv, mv, .pointer (some ⟨fb, fo, none⟩)] 62)) (w1.alloc (.cells #[.func (.func f1) #[] #[], .bool q1] 95))) := below_next hw (below_alloc _ _); clear hw)
  generalize w1.alloc (.cells #[.func (.func f1) #[] #[], .bool q1] 95) = w2 at *
  clear c0 c1 c2 c3 c4 c5 c6 c7 c8 c9 c10
  generalize w.alloc (.cells #[lv, mv, .pointer (some ⟨fb, fo, none⟩)] 62) = w0 at *
  refine wp_region_N (fun w' => w'.cell? ⟨w.heap.size, 0, none⟩ = some lv ∧ w'.cell? ⟨w.heap.size, 1, none⟩ = some mv ∧ w'.cell? ⟨w.heap.size, 2, none⟩ = some (.pointer (some ⟨fb, fo, none⟩)) ∧ w'.cell? ⟨eb, eo, none⟩ = some (.int .i64 2) ∧ w'.cell? ⟨eb, eo + 1, none⟩ = some (.int .i64 x.a) ∧ w'.cell? ⟨eb, eo + 2, none⟩ = some (.int .i64 x.b) ∧ w'.cell? ⟨eb, eo + 3, none⟩ = some (.int .i64 x.to) ∧ w'.cell? ⟨eb, eo + 4, none⟩ = some (.int .i64 x.el) ∧ w'.cell? ⟨eb, eo + 5, none⟩ = some (.string x.tx) ∧ w'.cell? ⟨eb, eo + 6, none⟩ = some (.slice AA x.args.length AC) ∧ w'.cell? ⟨fb, fo + 3, none⟩ = some (.int .i64 an)) (fun _ => true) mixed (HS.out _ (below_next BA.out (below_drew _))) ?_
  intro S0
  have BL : Below w0.heap.size w0 w2.drew := below_next BA.out (below_drew _)
  generalize w2.drew = wd at *
  refine tkO (i := 0) (v := ?_) rfl (Or.inl ⟨by rfl, ?_⟩) S0 ?_
  rotate_left
  · intro w' hS'
    obtain ⟨h0, h1, h2, h3, h4, h5, h6, h7, h8, h9, h10⟩ := hS'
    (try go_simp)
    first | done | exact rfl | exact ⟨rfl, rfl⟩
  (try simp only [Act.put, qA, qC, qD, qE, qF])
  refine tkO (i := 1) (v := ?_) rfl (Or.inl ⟨by rfl, ?_⟩) S0 ?_
  rotate_left
  · intro w' hS'
    obtain ⟨h0, h1, h2, h3, h4, h5, h6, h7, h8, h9, h10⟩ := hS'
    (try go_simp)
    first | done | exact rfl | exact ⟨rfl, rfl⟩
  (try simp only [Act.put, qA, qB, qC, qD, qE, qF])
  refine tkO (i := 2) (v := ?_) rfl (Or.inl ⟨by rfl, ?_⟩) S0 ?_
  rotate_left
  · intro w' hS'
    obtain ⟨h0, h1, h2, h3, h4, h5, h6, h7, h8, h9, h10⟩ := hS'
    (try go_simp)
    first | done | exact rfl | exact ⟨rfl, rfl⟩
  (try simp only [Act.put, qA, qB, qC, qD, qE, qF])
  refine tkO (i := 3) (v := ?_) rfl (Or.inl ⟨by rfl, ?_⟩) S0 ?_
  rotate_left
  · intro w' hS'
    obtain ⟨h0, h1, h2, h3, h4, h5, h6, h7, h8, h9, h10⟩ := hS'
    (try go_simp)
    first | done | exact rfl | exact ⟨rfl, rfl⟩
  (try simp only [Act.put, qA, qB, qC, qD, qE, qF])
  refine tkO (i := 4) (v := ?_) rfl (Or.inl ⟨by rfl, ?_⟩) S0 ?_
  rotate_left
  · intro w' hS'
    obtain ⟨h0, h1, h2, h3, h4, h5, h6, h7, h8, h9, h10⟩ := hS'
    (try go_simp)
    first | done | exact rfl | exact ⟨rfl, rfl⟩
  (try simp only [Act.put, qA, qB, qC, qD, qE, qF])
  refine tkO (i := 5) (v := ?_) rfl (Or.inl ⟨by rfl, ?_⟩) S0 ?_
  rotate_left
  · intro w' hS'
    obtain ⟨h0, h1, h2, h3, h4, h5, h6, h7, h8, h9, h10⟩ := hS'
    (try go_simp)
    first | done | exact rfl | exact ⟨rfl, rfl⟩
  (try simp only [Act.put, qA, qB, qC, qD, qE, qF])
  refine tkO (i := 6) (v := ?_) rfl (Or.inl ⟨by rfl, ?_⟩) S0 ?_
  rotate_left
  · intro w' hS'
    obtain ⟨h0, h1, h2, h3, h4, h5, h6, h7, h8, h9, h10⟩ := hS'
    (try go_simp)
    first | done | exact rfl | exact ⟨rfl, rfl⟩
  (try simp only [Act.put, qA, qB, qC, qD, qE, qF])
  refine tkO (i := 7) (v := ?_) rfl (Or.inl ⟨by rfl, ?_⟩) S0 ?_
  rotate_left
  · intro w' hS'
    obtain ⟨h0, h1, h2, h3, h4, h5, h6, h7, h8, h9, h10⟩ := hS'
    (try go_simp)
    first | done | exact rfl | exact ⟨rfl, rfl⟩
  (try simp only [Act.put, qA, qB, qC, qD, qE, qF])
  refine tkO (i := 8) (v := ?_) rfl (Or.inl ⟨by rfl, ?_⟩) S0 ?_
  rotate_left
  · intro w' hS'
    obtain ⟨h0, h1, h2, h3, h4, h5, h6, h7, h8, h9, h10⟩ := hS'
    (try go_simp)
    first | done | exact rfl | exact ⟨rfl, rfl⟩
  (try simp only [Act.put, qA, qB, qC, qD, qE, qF])
  refine tkO (i := 9) (v := ?_) rfl (Or.inl ⟨by rfl, ?_⟩) S0 ?_
  rotate_left
  · intro w' hS'
    obtain ⟨h0, h1, h2, h3, h4, h5, h6, h7, h8, h9, h10⟩ := hS'
    (try go_simp)
    first | done | exact rfl | exact ⟨rfl, rfl⟩
  (try simp only [Act.put, qA, qB, qC, qD, qE, qF])
  refine tkO (i := 10) (v := ?_) rfl (Or.inl ⟨by rfl, ?_⟩) S0 ?_
  rotate_left
  · intro w' hS'
    obtain ⟨h0, h1, h2, h3, h4, h5, h6, h7, h8, h9, h10⟩ := hS'
    (try go_simp)
    first | done | exact rfl | exact ⟨rfl, rfl⟩
  (try simp only [Act.put, qA, qB, qC, qD, qE, qF])
  refine wpAnyN_one (i := 11) (by kernel_rfl) rfl (fun K hK => ?_)
  go_simp
  have N11 := nos_two (w := wd) x.a x.b
  have BL := below_next BL (below_alloc wd (.cells #[.int .i64 x.a, .int .i64 x.b] 3))
  have S12 := HS.out _ BL
  generalize wd.alloc (.cells #[.int .i64 x.a, .int .i64 x.b] 3) = wb11 at *
  refine hK _ _ (fun _ => S12) ?_
  clear hK K
  (try simp only [Act.put, qA, qB, qC, qD, qE, qF])
  refine wpAnyN_one (i := 12) (by kernel_rfl) rfl (fun K hK => ?_)
  go_simp
  (go_at_call 28; refine Calls.mono (reads_c _ _ fb fo rg _ _ _ (kp_cell HR.out (below_next B0.out BL)) N11) ?_; rintro e w112 ⟨rfl, hb12⟩)
  rw [G1.out]
  have BL := below_next BL hb12
  have S13 := HS.out _ BL
  clear hb12
  go_wp2_with fail
  refine hK _ _ (fun _ => S13) ?_
  clear hK K
  (try simp only [Act.put, qA, qB, qC, qD, qE, qF])
  refine tkO (i := 13) (v := ?_) rfl (Or.inl ⟨by rfl, ?_⟩) S13 ?_
  rotate_left
  · intro w' hS'
    obtain ⟨h0, h1, h2, h3, h4, h5, h6, h7, h8, h9, h10⟩ := hS'
    (try go_simp)
    first | done | exact rfl | exact ⟨rfl, rfl⟩
  (try simp only [Act.put, qA, qB, qC, qD, qE, qF])
  refine tkO (i := 14) (v := ?_) rfl (Or.inl ⟨by rfl, ?_⟩) S13 ?_
  rotate_left
  · intro w' hS'
    obtain ⟨h0, h1, h2, h3, h4, h5, h6, h7, h8, h9, h10⟩ := hS'
    (try go_simp)
    first | done | exact rfl | exact ⟨rfl, rfl⟩
  (try simp only [Act.put, qA, qB, qC, qD, qE, qF])
  refine tkO (i := 15) (v := ?_) rfl (Or.inl ⟨by rfl, ?_⟩) S13 ?_
  rotate_left
  · intro w' hS'
    obtain ⟨h0, h1, h2, h3, h4, h5, h6, h7, h8, h9, h10⟩ := hS'
    (try go_simp)
    first | done | exact rfl | exact ⟨rfl, rfl⟩
  (try simp only [Act.put, qA, qB, qC, qD, qE, qF])
  refine tkO (i := 16) (v := ?_) rfl (Or.inl ⟨by rfl, ?_⟩) S13 ?_
  rotate_left
  · intro w' hS'
    obtain ⟨h0, h1, h2, h3, h4, h5, h6, h7, h8, h9, h10⟩ := hS'
    (try go_simp)
    first | done | exact rfl | exact ⟨rfl, rfl⟩
  (try simp only [Act.put, qA, qB, qC, qD, qE, qF])
  refine tkO (i := 17) (v := ?_) rfl (Or.inl ⟨by rfl, ?_⟩) S13 ?_
  rotate_left
  · intro w' hS'
    obtain ⟨h0, h1, h2, h3, h4, h5, h6, h7, h8, h9, h10⟩ := hS'
    (try go_simp)
    first | done | exact rfl | exact ⟨rfl, rfl⟩
  (try simp only [Act.put, qA, qB, qC, qD, qE, qF])
  refine tkO (i := 18) (v := ?_) rfl (Or.inl ⟨by rfl, ?_⟩) S13 ?_
  rotate_left
  · intro w' hS'
    obtain ⟨h0, h1, h2, h3, h4, h5, h6, h7, h8, h9, h10⟩ := hS'
    (try go_simp)
    first | done | exact rfl | exact ⟨rfl, rfl⟩
  (try simp only [Act.put, qA, qB, qC, qD, qE, qF])
  refine tkO (i := 19) (v := ?_) rfl (Or.inl ⟨by rfl, ?_⟩) S13 ?_
  rotate_left
  · intro w' hS'
    obtain ⟨h0, h1, h2, h3, h4, h5, h6, h7, h8, h9, h10⟩ := hS'
    (try go_simp)
    first | done | exact rfl | exact ⟨rfl, rfl⟩
  (try simp only [Act.put, qA, qB, qC, qD, qE, qF])
  refine wpAnyN_one (i := 20) (by kernel_rfl) rfl (fun K hK => ?_)
  go_simp
  (go_at_call 34; refine Calls.mono (block_c _ _ fb fo nb A C _ _ (kp_cell HB.out (below_next B0.out BL))) ?_; rintro e w120 ⟨rfl, hb20⟩)
  rw [G2.out]
  have BL := below_next BL hb20
  have S21 := HS.out _ BL
  clear hb20
  go_wp2_with fail
  refine hK _ _ (fun _ => S21) ?_
  clear hK K
  (try simp only [Act.put, qA, qB, qC, qD, qE, qF])
  refine tkO (i := 21) (v := ?_) rfl (Or.inl ⟨by rfl, ?_⟩) S21 ?_
  rotate_left
  · intro w' hS'
    obtain ⟨h0, h1, h2, h3, h4, h5, h6, h7, h8, h9, h10⟩ := hS'
    (try go_simp)
    first | done | exact rfl | exact ⟨rfl, rfl⟩
  (try simp only [Act.put, qA, qB, qC, qD, qE, qF])
  refine tkO (i := 22) (v := ?_) rfl (Or.inl ⟨by rfl, ?_⟩) S21 ?_
  rotate_left
  · intro w' hS'
    obtain ⟨h0, h1, h2, h3, h4, h5, h6, h7, h8, h9, h10⟩ := hS'
    (try go_simp)
    first | done | exact rfl | exact ⟨rfl, rfl⟩
  (try simp only [Act.put, qA, qB, qC, qD, qE, qF])
  refine tkO (i := 23) (v := ?_) rfl (Or.inl ⟨by rfl, ?_⟩) S21 ?_
  rotate_left
  · intro w' hS'
    obtain ⟨h0, h1, h2, h3, h4, h5, h6, h7, h8, h9, h10⟩ := hS'
    (try go_simp)
    first | done | exact rfl | exact ⟨rfl, rfl⟩
  (try simp only [Act.put, qA, qB, qC, qD, qE, qF])
  refine tkO (i := 24) (v := ?_) rfl (Or.inl ⟨by rfl, ?_⟩) S21 ?_
  rotate_left
  · intro w' hS'
    obtain ⟨h0, h1, h2, h3, h4, h5, h6, h7, h8, h9, h10⟩ := hS'
    (try go_simp)
    first | done | exact rfl | exact ⟨rfl, rfl⟩
  (try simp only [Act.put, qA, qB, qC, qD, qE, qF])
  refine tkO (i := 25) (v := ?_) rfl (Or.inl ⟨by rfl, ?_⟩) S21 ?_
  rotate_left
  · intro w' hS'
    obtain ⟨h0, h1, h2, h3, h4, h5, h6, h7, h8, h9, h10⟩ := hS'
    (try go_simp)
    first | done | exact rfl | exact ⟨rfl, rfl⟩
  (try simp only [Act.put, qA, qB, qC, qD, qE, qF])
  refine tkO (i := 26) (v := ?_) rfl (Or.inl ⟨by rfl, ?_⟩) S21 ?_
  rotate_left
  · intro w' hS'
    obtain ⟨h0, h1, h2, h3, h4, h5, h6, h7, h8, h9, h10⟩ := hS'
    (try go_simp)
    first | done | exact rfl | exact ⟨rfl, rfl⟩
  (try simp only [Act.put, qA, qB, qC, qD, qE, qF])
  refine tkO (i := 27) (v := ?_) rfl (Or.inl ⟨by rfl, ?_⟩) S21 ?_
  rotate_left
  · intro w' hS'
    obtain ⟨h0, h1, h2, h3, h4, h5, h6, h7, h8, h9, h10⟩ := hS'
    (try go_simp)
    first | done | exact rfl | exact ⟨rfl, rfl⟩
  (try simp only [Act.put, qA, qB, qC, qD, qE, qF])
  refine wpAnyN_one (i := 28) (by kernel_rfl) rfl (fun K hK => ?_)
  go_simp
  (go_at_call 34; refine Calls.mono (block_c _ _ fb fo nb A C _ _ (kp_cell HB.out (below_next B0.out BL))) ?_; rintro e w128 ⟨rfl, hb28⟩)
  have BL := below_next BL hb28
  have S29 := HS.out _ BL
  clear hb28
  go_wp2_with fail
  refine hK _ _ (fun _ => S29) ?_
  clear hK K
  (try simp only [Act.put, qA, qB, qC, qD, qE, qF])
  refine tkO (i := 29) (v := ?_) rfl (Or.inl ⟨by rfl, ?_⟩) S29 ?_
  rotate_left
  · intro w' hS'
    obtain ⟨h0, h1, h2, h3, h4, h5, h6, h7, h8, h9, h10⟩ := hS'
    (try go_simp)
    first | done | exact rfl | exact ⟨rfl, rfl⟩
  (try simp only [Act.put, qA, qB, qC, qD, qE, qF])
  refine tkO (i := 30) (v := ?_) rfl (Or.inl ⟨by rfl, ?_⟩) S29 ?_
  rotate_left
  · intro w' hS'
    obtain ⟨h0, h1, h2, h3, h4, h5, h6, h7, h8, h9, h10⟩ := hS'
    (try go_simp)
    first | done | exact rfl | exact ⟨rfl, rfl⟩
  (try simp only [Act.put, qA, qB, qC, qD, qE, qF])
  refine wpAnyN_done (by kernel_rfl) ?_ _
  have BE : Hid (Below w.heap.size w w128) := below_next B0.out BL
  clear BL BA HS HR
  go_wp2
  go_ret
  exact ⟨rfl, BE.out⟩

set_option maxRecDepth 20000 in
set_option maxHeartbeats 1000000 in
theorem term3_f (lv mv : Value) (fb fo eb eo nb C : Nat) (A : Option Addr) (rg an : Int) (x : Le) (av : Value) (w : World) (hop : x.k = 3) (hr : w.cell? ⟨fb, fo + 1, none⟩ = some (.int .i64 rg)) (hn : w.cell? ⟨fb, fo + 3, none⟩ = some (.int .i64 an)) (hb : w.cell? ⟨fb, fo + 6, none⟩ = some (.slice A nb C)) (hx : RowAt w eb eo (leC x av)) (ha : NosIn w x.args av) (g0 : decide ((x.args.length : Int) = an) = false) :
    Calls Tryd.prog 23 #[.agg #[lv, mv, .pointer (some ⟨fb, fo, none⟩)], .pointer (some ⟨eb, eo, none⟩)] w fun e w' => e = .returned (.bool (false)) ∧ Below w.heap.size w w' := by
  obtain ⟨ha0, AA, AC, rfl, ha1⟩ := ha.cells
  have HA : Hid (NosIn w x.args (.slice AA x.args.length AC)) := ha
  have B0 : Hid (Below w.heap.size w (w.alloc (.cells #[lv, mv, .pointer (some ⟨fb, fo, none⟩)] 62))) := below_alloc _ _
  have HS : Hid (∀ w', Below (w.alloc (.cells #[lv, mv, .pointer (some ⟨fb, fo, none⟩)] 62)).heap.size (w.alloc (.cells #[lv, mv, .pointer (some ⟨fb, fo, none⟩)] 62)) w' → w'.cell? ⟨w.heap.size, 0, none⟩ = some lv ∧ w'.cell? ⟨w.heap.size, 1, none⟩ = some mv ∧ w'.cell? ⟨w.heap.size, 2, none⟩ = some (.pointer (some ⟨fb, fo, none⟩)) ∧ w'.cell? ⟨eb, eo, none⟩ = some (.int .i64 3) ∧ w'.cell? ⟨eb, eo + 1, none⟩ = some (.int .i64 x.a) ∧ w'.cell? ⟨eb, eo + 2, none⟩ = some (.int .i64 x.b) ∧ w'.cell? ⟨eb, eo + 3, none⟩ = some (.int .i64 x.to) ∧ w'.cell? ⟨eb, eo + 4, none⟩ = some (.int .i64 x.el) ∧ w'.cell? ⟨eb, eo + 5, none⟩ = some (.string x.tx) ∧ w'.cell? ⟨eb, eo + 6, none⟩ = some (.slice AA x.args.length AC) ∧ w'.cell? ⟨fb, fo + 3, none⟩ = some (.int .i64 an)) := fun w' hb => by
    have hb2 := below_next B0.out hb
    have hA := (At.new w #[lv, mv, .pointer (some ⟨fb, fo, none⟩)] 62).below hb (by simp)
    exact ⟨hA.cell 0, hA.cell 1, hA.cell 2, hop ▸ kp_cell (hx.at 0 rfl) hb2, kp_cell (hx.at 1 rfl) hb2, kp_cell (hx.at 2 rfl) hb2, kp_cell (hx.at 3 rfl) hb2, kp_cell (hx.at 4 rfl) hb2, kp_cell (hx.at 5 rfl) hb2, kp_cell (hx.at 6 rfl) hb2, kp_cell hn hb2⟩
  have HR : Hid (w.cell? ⟨fb, fo + 1, none⟩ = some (.int .i64 rg)) := hr
  have HB : Hid (w.cell? ⟨fb, fo + 6, none⟩ = some (.slice A nb C)) := hb
  obtain ⟨c0, c1, c2, c3, c4, c5, c6, c7, c8, c9, c10⟩ := HS.out _ (Below.refl _ _)
  clear hr hx hop hn hb ha ha0 ha1
  have gq : ((x.args.length : Int) == an) = false := by simpa using g0
  clear g0
  go_enter Tryd.func23, Tryd.ntmps23
  go_wp2
  have BA : Hid (Below (w.alloc (.cells #[lv, mv, .pointer (some ⟨fb, fo, none⟩)] 62)).heap.size (w.alloc (.cells #[lv, mv, .pointer (some ⟨fb, fo, none⟩)] 62)) (w.alloc (.cells #[lv, mv, .pointer (some ⟨fb, fo, none⟩)] 62))) := Below.refl _ _
  clear c0 c1 c2 c3 c4 c5 c6 c7 c8 c9 c10
  generalize w.alloc (.cells #[lv, mv, .pointer (some ⟨fb, fo, none⟩)] 62) = w0 at *
  refine wp_region_N (fun w' => w'.cell? ⟨w.heap.size, 0, none⟩ = some lv ∧ w'.cell? ⟨w.heap.size, 1, none⟩ = some mv ∧ w'.cell? ⟨w.heap.size, 2, none⟩ = some (.pointer (some ⟨fb, fo, none⟩)) ∧ w'.cell? ⟨eb, eo, none⟩ = some (.int .i64 3) ∧ w'.cell? ⟨eb, eo + 1, none⟩ = some (.int .i64 x.a) ∧ w'.cell? ⟨eb, eo + 2, none⟩ = some (.int .i64 x.b) ∧ w'.cell? ⟨eb, eo + 3, none⟩ = some (.int .i64 x.to) ∧ w'.cell? ⟨eb, eo + 4, none⟩ = some (.int .i64 x.el) ∧ w'.cell? ⟨eb, eo + 5, none⟩ = some (.string x.tx) ∧ w'.cell? ⟨eb, eo + 6, none⟩ = some (.slice AA x.args.length AC) ∧ w'.cell? ⟨fb, fo + 3, none⟩ = some (.int .i64 an)) (fun _ => true) mixed (HS.out _ (below_next BA.out (below_drew _))) ?_
  intro S0
  have BL : Below w0.heap.size w0 w0.drew := below_next BA.out (below_drew _)
  generalize w0.drew = wd at *
  refine tkO (i := 0) (v := ?_) rfl (Or.inl ⟨by rfl, ?_⟩) S0 ?_
  rotate_left
  · intro w' hS'
    obtain ⟨h0, h1, h2, h3, h4, h5, h6, h7, h8, h9, h10⟩ := hS'
    (try go_simp)
    first | done | exact rfl | exact ⟨rfl, rfl⟩
  (try simp only [Act.put, qA, qC, qD, qE, qF])
  refine tkO (i := 1) (v := ?_) rfl (Or.inl ⟨by rfl, ?_⟩) S0 ?_
  rotate_left
  · intro w' hS'
    obtain ⟨h0, h1, h2, h3, h4, h5, h6, h7, h8, h9, h10⟩ := hS'
    (try go_simp)
    first | done | exact rfl | exact ⟨rfl, rfl⟩
  (try simp only [Act.put, qA, qB, qC, qD, qE, qF])
  refine tkO (i := 2) (v := ?_) rfl (Or.inl ⟨by rfl, ?_⟩) S0 ?_
  rotate_left
  · intro w' hS'
    obtain ⟨h0, h1, h2, h3, h4, h5, h6, h7, h8, h9, h10⟩ := hS'
    (try go_simp)
    first | done | exact rfl | exact ⟨rfl, rfl⟩
  (try simp only [Act.put, qA, qB, qC, qD, qE, qF])
  refine tkO (i := 3) (v := ?_) rfl (Or.inl ⟨by rfl, ?_⟩) S0 ?_
  rotate_left
  · intro w' hS'
    obtain ⟨h0, h1, h2, h3, h4, h5, h6, h7, h8, h9, h10⟩ := hS'
    (try go_simp)
    first | done | exact rfl | exact ⟨rfl, rfl⟩
  (try simp only [Act.put, qA, qB, qC, qD, qE, qF])
  refine tkO (i := 4) (v := ?_) rfl (Or.inl ⟨by rfl, ?_⟩) S0 ?_
  rotate_left
  · intro w' hS'
    obtain ⟨h0, h1, h2, h3, h4, h5, h6, h7, h8, h9, h10⟩ := hS'
    (try go_simp)
    first | done | exact rfl | exact ⟨rfl, rfl⟩
  (try simp only [Act.put, qA, qB, qC, qD, qE, qF])
  refine tkO (i := 5) (v := ?_) rfl (Or.inl ⟨by rfl, ?_⟩) S0 ?_
  rotate_left
  · intro w' hS'
    obtain ⟨h0, h1, h2, h3, h4, h5, h6, h7, h8, h9, h10⟩ := hS'
    (try go_simp)
    first | done | exact rfl | exact ⟨rfl, rfl⟩
  (try simp only [Act.put, qA, qB, qC, qD, qE, qF])
  refine tkO (i := 6) (v := ?_) rfl (Or.inl ⟨by rfl, ?_⟩) S0 ?_
  rotate_left
  · intro w' hS'
    obtain ⟨h0, h1, h2, h3, h4, h5, h6, h7, h8, h9, h10⟩ := hS'
    (try go_simp)
    first | done | exact rfl | exact ⟨rfl, rfl⟩
  (try simp only [Act.put, qA, qB, qC, qD, qE, qF])
  refine tkO (i := 7) (v := ?_) rfl (Or.inl ⟨by rfl, ?_⟩) S0 ?_
  rotate_left
  · intro w' hS'
    obtain ⟨h0, h1, h2, h3, h4, h5, h6, h7, h8, h9, h10⟩ := hS'
    (try go_simp)
    first | done | exact rfl | exact ⟨rfl, rfl⟩
  (try simp only [Act.put, qA, qB, qC, qD, qE, qF])
  refine tkO (i := 8) (v := ?_) rfl (Or.inl ⟨by rfl, ?_⟩) S0 ?_
  rotate_left
  · intro w' hS'
    obtain ⟨h0, h1, h2, h3, h4, h5, h6, h7, h8, h9, h10⟩ := hS'
    (try go_simp)
    first | done | exact rfl | exact ⟨rfl, rfl⟩
  (try simp only [Act.put, qA, qB, qC, qD, qE, qF])
  refine tkO (i := 9) (v := ?_) rfl (Or.inl ⟨by rfl, ?_⟩) S0 ?_
  rotate_left
  · intro w' hS'
    obtain ⟨h0, h1, h2, h3, h4, h5, h6, h7, h8, h9, h10⟩ := hS'
    (try go_simp)
    first | done | exact rfl | exact ⟨rfl, rfl⟩
  (try simp only [Act.put, qA, qB, qC, qD, qE, qF])
  refine tkO (i := 10) (v := ?_) rfl (Or.inl ⟨by rfl, ?_⟩) S0 ?_
  rotate_left
  · intro w' hS'
    obtain ⟨h0, h1, h2, h3, h4, h5, h6, h7, h8, h9, h10⟩ := hS'
    (try go_simp)
    first | done | exact rfl | exact ⟨rfl, rfl⟩
  (try simp only [Act.put, qA, qB, qC, qD, qE, qF])
  refine tkO (i := 11) (v := ?_) rfl (Or.inl ⟨by rfl, ?_⟩) S0 ?_
  rotate_left
  · intro w' hS'
    obtain ⟨h0, h1, h2, h3, h4, h5, h6, h7, h8, h9, h10⟩ := hS'
    (try go_simp)
    first | done | exact rfl | exact ⟨rfl, rfl⟩
  (try simp only [Act.put, qA, qB, qC, qD, qE, qF])
  refine wpAnyN_take (i := 12) (v := undef) rfl (by kernel_rfl) (by kernel_rfl) (by kernel_rfl) (by kernel_rfl) (fun _ _ _ h => h) (Or.inr ⟨by rfl, rfl⟩) S0 ?_
  (try simp only [Act.put, qA, qB, qC, qD, qE, qF])
  refine wpAnyN_take (i := 13) (v := undef) rfl (by kernel_rfl) (by kernel_rfl) (by kernel_rfl) (by kernel_rfl) (fun _ _ _ h => h) (Or.inr ⟨by rfl, rfl⟩) S0 ?_
  (try simp only [Act.put, qA, qB, qC, qD, qE, qF])
  refine wpAnyN_take (i := 14) (v := undef) rfl (by kernel_rfl) (by kernel_rfl) (by kernel_rfl) (by kernel_rfl) (fun _ _ _ h => h) (Or.inr ⟨by rfl, rfl⟩) S0 ?_
  (try simp only [Act.put, qA, qB, qC, qD, qE, qF])
  refine wpAnyN_take (i := 15) (v := undef) rfl (by kernel_rfl) (by kernel_rfl) (by kernel_rfl) (by kernel_rfl) (fun _ _ _ h => h) (Or.inr ⟨by rfl, rfl⟩) S0 ?_
  (try simp only [Act.put, qA, qB, qC, qD, qE, qF])
  refine wpAnyN_take (i := 16) (v := undef) rfl (by kernel_rfl) (by kernel_rfl) (by kernel_rfl) (by kernel_rfl) (fun _ _ _ h => h) (Or.inr ⟨by rfl, rfl⟩) S0 ?_
  (try simp only [Act.put, qA, qB, qC, qD, qE, qF])
  refine wpAnyN_take (i := 17) (v := undef) rfl (by kernel_rfl) (by kernel_rfl) (by kernel_rfl) (by kernel_rfl) (fun _ _ _ h => h) (Or.inr ⟨by rfl, rfl⟩) S0 ?_
  (try simp only [Act.put, qA, qB, qC, qD, qE, qF])
  refine tkO (i := 18) (v := ?_) rfl (Or.inl ⟨by rfl, ?_⟩) S0 ?_
  rotate_left
  · intro w' hS'
    obtain ⟨h0, h1, h2, h3, h4, h5, h6, h7, h8, h9, h10⟩ := hS'
    (try go_simp)
    first | done | exact rfl | exact ⟨rfl, rfl⟩
  (try simp only [Act.put, qA, qB, qC, qD, qE, qF])
  refine tkO (i := 19) (v := ?_) rfl (Or.inl ⟨by rfl, ?_⟩) S0 ?_
  rotate_left
  · intro w' hS'
    obtain ⟨h0, h1, h2, h3, h4, h5, h6, h7, h8, h9, h10⟩ := hS'
    (try go_simp)
    first | done | exact rfl | exact ⟨rfl, rfl⟩
  (try simp only [Act.put, qA, qB, qC, qD, qE, qF])
  refine wpAnyN_done (by kernel_rfl) ?_ _
  have BE : Hid (Below w.heap.size w wd) := below_next B0.out BL
  clear BL BA HS HR
  go_wp2
  go_ret
  exact ⟨rfl, BE.out⟩

set_option maxRecDepth 20000 in
set_option maxHeartbeats 1000000 in
theorem term3_tx (lv mv : Value) (fb fo eb eo nb C : Nat) (A : Option Addr) (rg an : Int) (x : Le) (av : Value) (w : World) (hop : x.k = 3) (hr : w.cell? ⟨fb, fo + 1, none⟩ = some (.int .i64 rg)) (hn : w.cell? ⟨fb, fo + 3, none⟩ = some (.int .i64 an)) (hb : w.cell? ⟨fb, fo + 6, none⟩ = some (.slice A nb C)) (hx : RowAt w eb eo (leC x av)) (ha : NosIn w x.args av) (g0 : decide ((x.args.length : Int) = an) = true) :
    Calls Tryd.prog 23 #[.agg #[lv, mv, .pointer (some ⟨fb, fo, none⟩)], .pointer (some ⟨eb, eo, none⟩)] w fun e w' => e = .returned (.bool (readsB rg x.args)) ∧ Below w.heap.size w w' := by
  obtain ⟨ha0, AA, AC, rfl, ha1⟩ := ha.cells
  have HA : Hid (NosIn w x.args (.slice AA x.args.length AC)) := ha
  have B0 : Hid (Below w.heap.size w (w.alloc (.cells #[lv, mv, .pointer (some ⟨fb, fo, none⟩)] 62))) := below_alloc _ _
  have HS : Hid (∀ w', Below (w.alloc (.cells #[lv, mv, .pointer (some ⟨fb, fo, none⟩)] 62)).heap.size (w.alloc (.cells #[lv, mv, .pointer (some ⟨fb, fo, none⟩)] 62)) w' → w'.cell? ⟨w.heap.size, 0, none⟩ = some lv ∧ w'.cell? ⟨w.heap.size, 1, none⟩ = some mv ∧ w'.cell? ⟨w.heap.size, 2, none⟩ = some (.pointer (some ⟨fb, fo, none⟩)) ∧ w'.cell? ⟨eb, eo, none⟩ = some (.int .i64 3) ∧ w'.cell? ⟨eb, eo + 1, none⟩ = some (.int .i64 x.a) ∧ w'.cell? ⟨eb, eo + 2, none⟩ = some (.int .i64 x.b) ∧ w'.cell? ⟨eb, eo + 3, none⟩ = some (.int .i64 x.to) ∧ w'.cell? ⟨eb, eo + 4, none⟩ = some (.int .i64 x.el) ∧ w'.cell? ⟨eb, eo + 5, none⟩ = some (.string x.tx) ∧ w'.cell? ⟨eb, eo + 6, none⟩ = some (.slice AA x.args.length AC) ∧ w'.cell? ⟨fb, fo + 3, none⟩ = some (.int .i64 an)) := fun w' hb => by
    have hb2 := below_next B0.out hb
    have hA := (At.new w #[lv, mv, .pointer (some ⟨fb, fo, none⟩)] 62).below hb (by simp)
    exact ⟨hA.cell 0, hA.cell 1, hA.cell 2, hop ▸ kp_cell (hx.at 0 rfl) hb2, kp_cell (hx.at 1 rfl) hb2, kp_cell (hx.at 2 rfl) hb2, kp_cell (hx.at 3 rfl) hb2, kp_cell (hx.at 4 rfl) hb2, kp_cell (hx.at 5 rfl) hb2, kp_cell (hx.at 6 rfl) hb2, kp_cell hn hb2⟩
  have HR : Hid (w.cell? ⟨fb, fo + 1, none⟩ = some (.int .i64 rg)) := hr
  have HB : Hid (w.cell? ⟨fb, fo + 6, none⟩ = some (.slice A nb C)) := hb
  obtain ⟨c0, c1, c2, c3, c4, c5, c6, c7, c8, c9, c10⟩ := HS.out _ (Below.refl _ _)
  clear hr hx hop hn hb ha ha0 ha1
  have gq : ((x.args.length : Int) == an) = true := by simpa using g0
  clear g0
  go_enter Tryd.func23, Tryd.ntmps23
  go_wp2
  have BA : Hid (Below (w.alloc (.cells #[lv, mv, .pointer (some ⟨fb, fo, none⟩)] 62)).heap.size (w.alloc (.cells #[lv, mv, .pointer (some ⟨fb, fo, none⟩)] 62)) (w.alloc (.cells #[lv, mv, .pointer (some ⟨fb, fo, none⟩)] 62))) := Below.refl _ _
  clear c0 c1 c2 c3 c4 c5 c6 c7 c8 c9 c10
  generalize w.alloc (.cells #[lv, mv, .pointer (some ⟨fb, fo, none⟩)] 62) = w0 at *
  refine wp_region_N (fun w' => w'.cell? ⟨w.heap.size, 0, none⟩ = some lv ∧ w'.cell? ⟨w.heap.size, 1, none⟩ = some mv ∧ w'.cell? ⟨w.heap.size, 2, none⟩ = some (.pointer (some ⟨fb, fo, none⟩)) ∧ w'.cell? ⟨eb, eo, none⟩ = some (.int .i64 3) ∧ w'.cell? ⟨eb, eo + 1, none⟩ = some (.int .i64 x.a) ∧ w'.cell? ⟨eb, eo + 2, none⟩ = some (.int .i64 x.b) ∧ w'.cell? ⟨eb, eo + 3, none⟩ = some (.int .i64 x.to) ∧ w'.cell? ⟨eb, eo + 4, none⟩ = some (.int .i64 x.el) ∧ w'.cell? ⟨eb, eo + 5, none⟩ = some (.string x.tx) ∧ w'.cell? ⟨eb, eo + 6, none⟩ = some (.slice AA x.args.length AC) ∧ w'.cell? ⟨fb, fo + 3, none⟩ = some (.int .i64 an)) (fun _ => true) mixed (HS.out _ (below_next BA.out (below_drew _))) ?_
  intro S0
  have BL : Below w0.heap.size w0 w0.drew := below_next BA.out (below_drew _)
  generalize w0.drew = wd at *
  refine tkO (i := 0) (v := ?_) rfl (Or.inl ⟨by rfl, ?_⟩) S0 ?_
  rotate_left
  · intro w' hS'
    obtain ⟨h0, h1, h2, h3, h4, h5, h6, h7, h8, h9, h10⟩ := hS'
    (try go_simp)
    first | done | exact rfl | exact ⟨rfl, rfl⟩
  (try simp only [Act.put, qA, qC, qD, qE, qF])
  refine tkO (i := 1) (v := ?_) rfl (Or.inl ⟨by rfl, ?_⟩) S0 ?_
  rotate_left
  · intro w' hS'
    obtain ⟨h0, h1, h2, h3, h4, h5, h6, h7, h8, h9, h10⟩ := hS'
    (try go_simp)
    first | done | exact rfl | exact ⟨rfl, rfl⟩
  (try simp only [Act.put, qA, qB, qC, qD, qE, qF])
  refine tkO (i := 2) (v := ?_) rfl (Or.inl ⟨by rfl, ?_⟩) S0 ?_
  rotate_left
  · intro w' hS'
    obtain ⟨h0, h1, h2, h3, h4, h5, h6, h7, h8, h9, h10⟩ := hS'
    (try go_simp)
    first | done | exact rfl | exact ⟨rfl, rfl⟩
  (try simp only [Act.put, qA, qB, qC, qD, qE, qF])
  refine tkO (i := 3) (v := ?_) rfl (Or.inl ⟨by rfl, ?_⟩) S0 ?_
  rotate_left
  · intro w' hS'
    obtain ⟨h0, h1, h2, h3, h4, h5, h6, h7, h8, h9, h10⟩ := hS'
    (try go_simp)
    first | done | exact rfl | exact ⟨rfl, rfl⟩
  (try simp only [Act.put, qA, qB, qC, qD, qE, qF])
  refine tkO (i := 4) (v := ?_) rfl (Or.inl ⟨by rfl, ?_⟩) S0 ?_
  rotate_left
  · intro w' hS'
    obtain ⟨h0, h1, h2, h3, h4, h5, h6, h7, h8, h9, h10⟩ := hS'
    (try go_simp)
    first | done | exact rfl | exact ⟨rfl, rfl⟩
  (try simp only [Act.put, qA, qB, qC, qD, qE, qF])
  refine tkO (i := 5) (v := ?_) rfl (Or.inl ⟨by rfl, ?_⟩) S0 ?_
  rotate_left
  · intro w' hS'
    obtain ⟨h0, h1, h2, h3, h4, h5, h6, h7, h8, h9, h10⟩ := hS'
    (try go_simp)
    first | done | exact rfl | exact ⟨rfl, rfl⟩
  (try simp only [Act.put, qA, qB, qC, qD, qE, qF])
  refine tkO (i := 6) (v := ?_) rfl (Or.inl ⟨by rfl, ?_⟩) S0 ?_
  rotate_left
  · intro w' hS'
    obtain ⟨h0, h1, h2, h3, h4, h5, h6, h7, h8, h9, h10⟩ := hS'
    (try go_simp)
    first | done | exact rfl | exact ⟨rfl, rfl⟩
  (try simp only [Act.put, qA, qB, qC, qD, qE, qF])
  refine tkO (i := 7) (v := ?_) rfl (Or.inl ⟨by rfl, ?_⟩) S0 ?_
  rotate_left
  · intro w' hS'
    obtain ⟨h0, h1, h2, h3, h4, h5, h6, h7, h8, h9, h10⟩ := hS'
    (try go_simp)
    first | done | exact rfl | exact ⟨rfl, rfl⟩
  (try simp only [Act.put, qA, qB, qC, qD, qE, qF])
  refine tkO (i := 8) (v := ?_) rfl (Or.inl ⟨by rfl, ?_⟩) S0 ?_
  rotate_left
  · intro w' hS'
    obtain ⟨h0, h1, h2, h3, h4, h5, h6, h7, h8, h9, h10⟩ := hS'
    (try go_simp)
    first | done | exact rfl | exact ⟨rfl, rfl⟩
  (try simp only [Act.put, qA, qB, qC, qD, qE, qF])
  refine tkO (i := 9) (v := ?_) rfl (Or.inl ⟨by rfl, ?_⟩) S0 ?_
  rotate_left
  · intro w' hS'
    obtain ⟨h0, h1, h2, h3, h4, h5, h6, h7, h8, h9, h10⟩ := hS'
    (try go_simp)
    first | done | exact rfl | exact ⟨rfl, rfl⟩
  (try simp only [Act.put, qA, qB, qC, qD, qE, qF])
  refine tkO (i := 10) (v := ?_) rfl (Or.inl ⟨by rfl, ?_⟩) S0 ?_
  rotate_left
  · intro w' hS'
    obtain ⟨h0, h1, h2, h3, h4, h5, h6, h7, h8, h9, h10⟩ := hS'
    (try go_simp)
    first | done | exact rfl | exact ⟨rfl, rfl⟩
  (try simp only [Act.put, qA, qB, qC, qD, qE, qF])
  refine tkO (i := 11) (v := ?_) rfl (Or.inl ⟨by rfl, ?_⟩) S0 ?_
  rotate_left
  · intro w' hS'
    obtain ⟨h0, h1, h2, h3, h4, h5, h6, h7, h8, h9, h10⟩ := hS'
    (try go_simp)
    first | done | exact rfl | exact ⟨rfl, rfl⟩
  (try simp only [Act.put, qA, qB, qC, qD, qE, qF])
  refine tkO (i := 12) (v := ?_) rfl (Or.inl ⟨by rfl, ?_⟩) S0 ?_
  rotate_left
  · intro w' hS'
    obtain ⟨h0, h1, h2, h3, h4, h5, h6, h7, h8, h9, h10⟩ := hS'
    (try go_simp)
    first | done | exact rfl | exact ⟨rfl, rfl⟩
  (try simp only [Act.put, qA, qB, qC, qD, qE, qF])
  refine tkO (i := 13) (v := ?_) rfl (Or.inl ⟨by rfl, ?_⟩) S0 ?_
  rotate_left
  · intro w' hS'
    obtain ⟨h0, h1, h2, h3, h4, h5, h6, h7, h8, h9, h10⟩ := hS'
    (try go_simp)
    first | done | exact rfl | exact ⟨rfl, rfl⟩
  (try simp only [Act.put, qA, qB, qC, qD, qE, qF])
  refine tkO (i := 14) (v := ?_) rfl (Or.inl ⟨by rfl, ?_⟩) S0 ?_
  rotate_left
  · intro w' hS'
    obtain ⟨h0, h1, h2, h3, h4, h5, h6, h7, h8, h9, h10⟩ := hS'
    (try go_simp)
    first | done | exact rfl | exact ⟨rfl, rfl⟩
  (try simp only [Act.put, qA, qB, qC, qD, qE, qF])
  refine tkO (i := 15) (v := ?_) rfl (Or.inl ⟨by rfl, ?_⟩) S0 ?_
  rotate_left
  · intro w' hS'
    obtain ⟨h0, h1, h2, h3, h4, h5, h6, h7, h8, h9, h10⟩ := hS'
    (try go_simp)
    first | done | exact rfl | exact ⟨rfl, rfl⟩
  (try simp only [Act.put, qA, qB, qC, qD, qE, qF])
  refine tkO (i := 16) (v := ?_) rfl (Or.inl ⟨by rfl, ?_⟩) S0 ?_
  rotate_left
  · intro w' hS'
    obtain ⟨h0, h1, h2, h3, h4, h5, h6, h7, h8, h9, h10⟩ := hS'
    (try go_simp)
    first | done | exact rfl | exact ⟨rfl, rfl⟩
  (try simp only [Act.put, qA, qB, qC, qD, qE, qF])
  refine wpAnyN_one (i := 17) (by kernel_rfl) rfl (fun K hK => ?_)
  go_simp
  (go_at_call 28; refine Calls.mono (reads_c _ _ fb fo rg x.args _ _ (kp_cell HR.out (below_next B0.out BL)) (HA.out.below (below_next B0.out BL))) ?_; rintro e w117 ⟨rfl, hb17⟩)
  have BL := below_next BL hb17
  have S18 := HS.out _ BL
  clear hb17
  go_wp2_with fail
  refine hK _ _ (fun _ => S18) ?_
  clear hK K
  (try simp only [Act.put, qA, qB, qC, qD, qE, qF])
  refine tkO (i := 18) (v := ?_) rfl (Or.inl ⟨by rfl, ?_⟩) S18 ?_
  rotate_left
  · intro w' hS'
    obtain ⟨h0, h1, h2, h3, h4, h5, h6, h7, h8, h9, h10⟩ := hS'
    (try go_simp)
    first | done | exact rfl | exact ⟨rfl, rfl⟩
  (try simp only [Act.put, qA, qB, qC, qD, qE, qF])
  refine tkO (i := 19) (v := ?_) rfl (Or.inl ⟨by rfl, ?_⟩) S18 ?_
  rotate_left
  · intro w' hS'
    obtain ⟨h0, h1, h2, h3, h4, h5, h6, h7, h8, h9, h10⟩ := hS'
    (try go_simp)
    first | done | exact rfl | exact ⟨rfl, rfl⟩
  (try simp only [Act.put, qA, qB, qC, qD, qE, qF])
  refine wpAnyN_done (by kernel_rfl) ?_ _
  have BE : Hid (Below w.heap.size w w117) := below_next B0.out BL
  clear BL BA HS HR
  go_wp2
  go_ret
  exact ⟨rfl, BE.out⟩

set_option maxRecDepth 20000 in
theorem term_else (lv mv : Value) (fb fo eb eo : Nat) (x : Le) (av : Value) (w : World) (h1 : ¬ x.k = 1) (h2 : ¬ x.k = 2) (h3 : ¬ x.k = 3) (hx : RowAt w eb eo (leC x av)) :
    Calls Tryd.prog 23 #[.agg #[lv, mv, .pointer (some ⟨fb, fo, none⟩)], .pointer (some ⟨eb, eo, none⟩)] w fun e w' => e = .returned (.bool (decide (x.k = 4))) ∧ Below w.heap.size w w' := by
  have c0 : (w.alloc (.cells #[lv, mv, .pointer (some ⟨fb, fo, none⟩)] 62)).cell? ⟨eb, eo, none⟩ = some (.int .i64 x.k) := kp_cell (hx.at 0 rfl) (below_alloc w _)
  have e1 : (x.k == 1) = false := by simpa using h1
  have e2 : (x.k == 2) = false := by simpa using h2
  have e3 : (x.k == 3) = false := by simpa using h3
  have e4 : (x.k == 4) = decide (x.k = 4) := by by_cases h : x.k = 4 <;> simp [h]
  rw [← e4]
  clear hx e4
  generalize x.k = k at *
  go_enter Tryd.func23, Tryd.ntmps23
  go_wp2
  go_ret
  exact ⟨rfl, below_alloc _ _⟩

theorem term_c (lv mv : Value) (fb fo eb eo nb C : Nat) (A : Option Addr) (rg an : Int) (x : Le) (av : Value) (w : World) (hr : w.cell? ⟨fb, fo + 1, none⟩ = some (.int .i64 rg)) (hn : w.cell? ⟨fb, fo + 3, none⟩ = some (.int .i64 an)) (hb : w.cell? ⟨fb, fo + 6, none⟩ = some (.slice A nb C)) (hx : RowAt w eb eo (leC x av)) (ha : NosIn w x.args av) :
    Calls Tryd.prog 23 #[.agg #[lv, mv, .pointer (some ⟨fb, fo, none⟩)], .pointer (some ⟨eb, eo, none⟩)] w fun e w' => e = .returned (.bool (termB rg an nb x)) ∧ Below w.heap.size w w' := by
  unfold termB
  by_cases h1 : x.k = 1
  · rw [if_pos h1]
    exact term1_x lv mv fb fo eb eo nb C A rg an x av w h1 hr hn hb hx ha
  rw [if_neg h1]
  by_cases h2 : x.k = 2
  · rw [if_pos h2]
    have hR : (rdB rg x.a && rdB rg x.b) = readsB rg [x.a, x.b] := (readsB_two _ _ _).symm
    cases g0 : cmpB x.tx with
    | false => simpa only [Bool.false_and] using term2_f lv mv fb fo eb eo nb C A rg an x av w h2 hr hn hb hx ha g0
    | true =>
      rw [Bool.true_and, hR]
      cases g1 : readsB rg [x.a, x.b] with
      | false => simpa only [Bool.false_and] using term2_tf lv mv fb fo eb eo nb C A rg an x av w h2 hr hn hb hx ha g0 g1
      | true =>
        rw [Bool.true_and]
        cases g2 : toB nb x.to with
        | false => simpa only [Bool.false_and] using term2_ttf lv mv fb fo eb eo nb C A rg an x av w h2 hr hn hb hx ha g0 g1 g2
        | true =>
          rw [Bool.true_and]
          exact term2_tttx lv mv fb fo eb eo nb C A rg an x av w h2 hr hn hb hx ha g0 g1 g2
  rw [if_neg h2]
  by_cases h3 : x.k = 3
  · rw [if_pos h3]
    cases g0 : decide ((x.args.length : Int) = an) with
    | false => simpa only [Bool.false_and] using term3_f lv mv fb fo eb eo nb C A rg an x av w h3 hr hn hb hx ha g0
    | true =>
      rw [Bool.true_and]
      exact term3_tx lv mv fb fo eb eo nb C A rg an x av w h3 hr hn hb hx ha g0
  rw [if_neg h3]
  exact term_else lv mv fb fo eb eo x av w h1 h2 h3 hx

end Go.Proofs.YtapgaclonilnbaaDoor
