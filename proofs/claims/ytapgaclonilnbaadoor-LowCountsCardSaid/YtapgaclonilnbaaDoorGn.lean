/-
  Proved: what the checker's call answers.
-/
import Derived.Test.YtapgaclonilnbaaDoorGe
import Derived.Test.YtapgaclonilnbaaDoorGa
namespace Go.Proofs.YtapgaclonilnbaaDoor
open Go.RowKit
set_option linter.unusedVariables false
set_option linter.unusedSimpArgs false

theorem mixed : Tryd.prog.follows .mixedOrders = true := by kernel_rfl

set_option maxHeartbeats 1000000 in
theorem call_none (l : List Lf) (LA : Option Addr) (LC mb n fb fo ib io : Nat) (rg : Int) (x : Lo) (av dv : Value) (w : World) (hl : LfsIn w l (.slice LA l.length LC)) (hm : MapS w mb n (byN l)) (hr : w.cell? ⟨fb, fo + 1, none⟩ = some (.int .i64 rg))
    (hx : RowAt w ib io (loC x av dv)) (ht : x.tx.size ≤ maxLen) (ha : NosIn w x.args av) (hd : NosIn w x.dsts dv) (hn : byN l x.tx.data.toList = none) :
    Calls Tryd.prog 33 #[.agg #[.slice LA l.length LC, .map (some mb), .pointer (some ⟨fb, fo, none⟩)], .pointer (some ⟨ib, io, none⟩)] w fun e w' => e = .returned (.bool false) ∧ Below w.heap.size w w' := by
  obtain ⟨ha0, AA, AC, rfl, ha1⟩ := ha.cells
  obtain ⟨hd0, DA, DC, rfl, hd1⟩ := hd.cells
  have HA : Hid (NosIn w x.args (.slice AA x.args.length AC)) := ha
  have HD : Hid (NosIn w x.dsts (.slice DA x.dsts.length DC)) := hd
  clear ha hd ha1 hd1 ha0 hd0
  have hlk : ∀ {w' : World}, MapS w' mb n (byN l) → (Instr.lookup 50 (.map (some mb)) (.string x.tx) true).run Tryd.prog w' = .ok (.tuple #[.int .i64 0, .bool false]) w' := fun h => by
    have := h.look2 (x := x.tx) ht
    rw [hn] at this
    exact this
  have B0 : Hid (Below w.heap.size w (w.alloc (.cells #[.slice LA l.length LC, .map (some mb), .pointer (some ⟨fb, fo, none⟩)] 62))) := below_alloc _ _
  have HS : Hid (∀ w', Below (w.alloc (.cells #[.slice LA l.length LC, .map (some mb), .pointer (some ⟨fb, fo, none⟩)] 62)).heap.size (w.alloc (.cells #[.slice LA l.length LC, .map (some mb), .pointer (some ⟨fb, fo, none⟩)] 62)) w' → w'.cell? ⟨w.heap.size, 0, none⟩ = some (.slice LA l.length LC) ∧ w'.cell? ⟨w.heap.size, 1, none⟩ = some (.map (some mb)) ∧ w'.cell? ⟨w.heap.size, 2, none⟩ = some (.pointer (some ⟨fb, fo, none⟩)) ∧ w'.cell? ⟨ib, io + 5, none⟩ = some (.string x.tx) ∧ w'.cell? ⟨ib, io + 6, none⟩ = some (.slice AA x.args.length AC) ∧ w'.cell? ⟨ib, io + 7, none⟩ = some (.slice DA x.dsts.length DC) ∧ (Instr.lookup 50 (.map (some mb)) (.string x.tx) true).run Tryd.prog w' = .ok (.tuple #[.int .i64 0, .bool false]) w') := fun w' hb => by
    have hb2 := below_next B0.out hb
    have hA := (At.new w #[.slice LA l.length LC, .map (some mb), .pointer (some ⟨fb, fo, none⟩)] 62).below hb (by simp)
    exact ⟨hA.cell 0, hA.cell 1, hA.cell 2, kp_cell (hx.at 5 rfl) hb2, kp_cell (hx.at 6 rfl) hb2, kp_cell (hx.at 7 rfl) hb2, hlk (hm.below hb2)⟩
  have HR : Hid (w.cell? ⟨fb, fo + 1, none⟩ = some (.int .i64 rg)) := hr
  clear hl hm hr hx ht hn hlk
  go_enter Tryd.func33, Tryd.ntmps33
  go_wp2
  generalize w.alloc (.cells #[.slice LA l.length LC, .map (some mb), .pointer (some ⟨fb, fo, none⟩)] 62) = w1 at *
  refine wp_region_N (fun w' => w'.cell? ⟨w.heap.size, 0, none⟩ = some (.slice LA l.length LC) ∧ w'.cell? ⟨w.heap.size, 1, none⟩ = some (.map (some mb)) ∧ w'.cell? ⟨w.heap.size, 2, none⟩ = some (.pointer (some ⟨fb, fo, none⟩)) ∧ w'.cell? ⟨ib, io + 5, none⟩ = some (.string x.tx) ∧ w'.cell? ⟨ib, io + 6, none⟩ = some (.slice AA x.args.length AC) ∧ w'.cell? ⟨ib, io + 7, none⟩ = some (.slice DA x.dsts.length DC) ∧ (Instr.lookup 50 (.map (some mb)) (.string x.tx) true).run Tryd.prog w' = .ok (.tuple #[.int .i64 0, .bool false]) w') (fun _ => true) mixed (HS.out _ (below_drew _)) ?_
  intro S0
  refine tkO (i := 0) (v := ?_) rfl (Or.inl ⟨by rfl, ?_⟩) S0 ?_
  rotate_left
  · intro w' hS'
    obtain ⟨h0, h1, h2, h3, h4, h5, h6⟩ := hS'
    (try go_simp)
    first | done | exact rfl | exact ⟨rfl, rfl⟩
  (try simp only [Act.put, qA, qC, qD, qE, qF])
  refine tkO (i := 1) (v := ?_) rfl (Or.inl ⟨by rfl, ?_⟩) S0 ?_
  rotate_left
  · intro w' hS'
    obtain ⟨h0, h1, h2, h3, h4, h5, h6⟩ := hS'
    (try go_simp)
    first | done | exact rfl | exact ⟨rfl, rfl⟩
  (try simp only [Act.put, qA, qB, qC, qD, qE, qF])
  refine tkO (i := 2) (v := ?_) rfl (Or.inl ⟨by rfl, ?_⟩) S0 ?_
  rotate_left
  · intro w' hS'
    obtain ⟨h0, h1, h2, h3, h4, h5, h6⟩ := hS'
    (try go_simp)
    first | done | exact rfl | exact ⟨rfl, rfl⟩
  (try simp only [Act.put, qA, qB, qC, qD, qE, qF])
  refine tkO (i := 3) (v := ?_) rfl (Or.inl ⟨by rfl, ?_⟩) S0 ?_
  rotate_left
  · intro w' hS'
    obtain ⟨h0, h1, h2, h3, h4, h5, h6⟩ := hS'
    (try go_simp)
    first | done | exact rfl | exact ⟨rfl, rfl⟩
  (try simp only [Act.put, qA, qB, qC, qD, qE, qF])
  refine tkO (i := 4) (v := ?_) rfl (Or.inl ⟨by rfl, ?_⟩) S0 ?_
  rotate_left
  · intro w' hS'
    obtain ⟨h0, h1, h2, h3, h4, h5, h6⟩ := hS'
    (try go_simp)
    first | done | exact rfl | exact ⟨rfl, rfl⟩
  (try simp only [Act.put, qA, qB, qC, qD, qE, qF])
  refine tkO (i := 5) (v := ?_) rfl (Or.inl ⟨by rfl, ?_⟩) S0 ?_
  rotate_left
  · intro w' hS'
    obtain ⟨h0, h1, h2, h3, h4, h5, h6⟩ := hS'
    (try go_simp)
    first | done | exact rfl | exact ⟨rfl, rfl⟩
  (try simp only [Act.put, qA, qB, qC, qD, qE, qF])
  refine tkO (i := 6) (v := ?_) rfl (Or.inl ⟨by rfl, ?_⟩) S0 ?_
  rotate_left
  · intro w' hS'
    obtain ⟨h0, h1, h2, h3, h4, h5, h6⟩ := hS'
    (try go_simp)
    first | done | exact rfl | exact ⟨rfl, rfl⟩
  (try simp only [Act.put, qA, qB, qC, qD, qE, qF])
  refine tkO (i := 7) (v := ?_) rfl (Or.inl ⟨by rfl, ?_⟩) S0 ?_
  rotate_left
  · intro w' hS'
    obtain ⟨h0, h1, h2, h3, h4, h5, h6⟩ := hS'
    (try go_simp)
    first | done | exact rfl | exact ⟨rfl, rfl⟩
  (try simp only [Act.put, qA, qB, qC, qD, qE, qF])
  refine tkO (i := 8) (v := ?_) rfl (Or.inl ⟨by rfl, ?_⟩) S0 ?_
  rotate_left
  · intro w' hS'
    obtain ⟨h0, h1, h2, h3, h4, h5, h6⟩ := hS'
    (try go_simp)
    first | done | exact rfl | exact ⟨rfl, rfl⟩
  (try simp only [Act.put, qA, qB, qC, qD, qE, qF])
  refine tkO (i := 9) (v := ?_) rfl (Or.inl ⟨by rfl, ?_⟩) S0 ?_
  rotate_left
  · intro w' hS'
    obtain ⟨h0, h1, h2, h3, h4, h5, h6⟩ := hS'
    (try go_simp)
    first | done | exact rfl | exact ⟨rfl, rfl⟩
  (try simp only [Act.put, qA, qB, qC, qD, qE, qF])
  refine tkO (i := 10) (v := ?_) rfl (Or.inl ⟨by rfl, ?_⟩) S0 ?_
  rotate_left
  · intro w' hS'
    obtain ⟨h0, h1, h2, h3, h4, h5, h6⟩ := hS'
    (try go_simp)
    first | done | exact rfl | exact ⟨rfl, rfl⟩
  (try simp only [Act.put, qA, qB, qC, qD, qE, qF])
  refine tkO (i := 11) (v := ?_) rfl (Or.inl ⟨by rfl, ?_⟩) S0 ?_
  rotate_left
  · intro w' hS'
    obtain ⟨h0, h1, h2, h3, h4, h5, h6⟩ := hS'
    (try go_simp)
    first | done | exact rfl | exact ⟨rfl, rfl⟩
  (try simp only [Act.put, qA, qB, qC, qD, qE, qF])
  refine wpAnyN_done (by kernel_rfl) ?_ _
  have BW : Hid (Below w1.heap.size w1 w1.drew) := below_drew _
  generalize w1.drew = w2 at *
  go_wp2
  refine wp_region_N (fun w' => w'.cell? ⟨w.heap.size, 0, none⟩ = some (.slice LA l.length LC) ∧ w'.cell? ⟨w.heap.size, 1, none⟩ = some (.map (some mb)) ∧ w'.cell? ⟨w.heap.size, 2, none⟩ = some (.pointer (some ⟨fb, fo, none⟩)) ∧ w'.cell? ⟨ib, io + 5, none⟩ = some (.string x.tx) ∧ w'.cell? ⟨ib, io + 6, none⟩ = some (.slice AA x.args.length AC) ∧ w'.cell? ⟨ib, io + 7, none⟩ = some (.slice DA x.dsts.length DC) ∧ (Instr.lookup 50 (.map (some mb)) (.string x.tx) true).run Tryd.prog w' = .ok (.tuple #[.int .i64 0, .bool false]) w') (fun _ => true) mixed (HS.out _ (below_next BW.out (below_drew _))) ?_
  intro S0
  refine tkO (i := 0) (v := ?_) rfl (Or.inl ⟨by rfl, ?_⟩) S0 ?_
  rotate_left
  · intro w' hS'
    obtain ⟨h0, h1, h2, h3, h4, h5, h6⟩ := hS'
    (try go_simp)
    first | done | exact rfl | exact ⟨rfl, rfl⟩
  (try simp only [Act.put, qA, qC, qD, qE, qF])
  refine tkO (i := 1) (v := ?_) rfl (Or.inl ⟨by rfl, ?_⟩) S0 ?_
  rotate_left
  · intro w' hS'
    obtain ⟨h0, h1, h2, h3, h4, h5, h6⟩ := hS'
    (try go_simp)
    first | done | exact rfl | exact ⟨rfl, rfl⟩
  (try simp only [Act.put, qA, qB, qC, qD, qE, qF])
  refine tkO (i := 2) (v := ?_) rfl (Or.inl ⟨by rfl, ?_⟩) S0 ?_
  rotate_left
  · intro w' hS'
    obtain ⟨h0, h1, h2, h3, h4, h5, h6⟩ := hS'
    (try go_simp)
    first | done | exact rfl | exact ⟨rfl, rfl⟩
  (try simp only [Act.put, qA, qB, qC, qD, qE, qF])
  refine wpAnyN_take (i := 3) (v := undef) rfl (by kernel_rfl) (by kernel_rfl) (by kernel_rfl) (by kernel_rfl) (fun _ _ _ h => h) (Or.inr ⟨by rfl, rfl⟩) S0 ?_
  (try simp only [Act.put, qA, qB, qC, qD, qE, qF])
  refine wpAnyN_take (i := 4) (v := undef) rfl (by kernel_rfl) (by kernel_rfl) (by kernel_rfl) (by kernel_rfl) (fun _ _ _ h => h) (Or.inr ⟨by rfl, rfl⟩) S0 ?_
  (try simp only [Act.put, qA, qB, qC, qD, qE, qF])
  refine wpAnyN_take (i := 5) (v := undef) rfl (by kernel_rfl) (by kernel_rfl) (by kernel_rfl) (by kernel_rfl) (fun _ _ _ h => h) (Or.inr ⟨by rfl, rfl⟩) S0 ?_
  (try simp only [Act.put, qA, qB, qC, qD, qE, qF])
  refine wpAnyN_take (i := 6) (v := undef) rfl (by kernel_rfl) (by kernel_rfl) (by kernel_rfl) (by kernel_rfl) (fun _ _ _ h => h) (Or.inr ⟨by rfl, rfl⟩) S0 ?_
  (try simp only [Act.put, qA, qB, qC, qD, qE, qF])
  refine wpAnyN_take (i := 7) (v := undef) rfl (by kernel_rfl) (by kernel_rfl) (by kernel_rfl) (by kernel_rfl) (fun _ _ _ h => h) (Or.inr ⟨by rfl, rfl⟩) S0 ?_
  (try simp only [Act.put, qA, qB, qC, qD, qE, qF])
  refine wpAnyN_take (i := 8) (v := undef) rfl (by kernel_rfl) (by kernel_rfl) (by kernel_rfl) (by kernel_rfl) (fun _ _ _ h => h) (Or.inr ⟨by rfl, rfl⟩) S0 ?_
  (try simp only [Act.put, qA, qB, qC, qD, qE, qF])
  refine wpAnyN_take (i := 9) (v := undef) rfl (by kernel_rfl) (by kernel_rfl) (by kernel_rfl) (by kernel_rfl) (fun _ _ _ h => h) (Or.inr ⟨by rfl, rfl⟩) S0 ?_
  (try simp only [Act.put, qA, qB, qC, qD, qE, qF])
  refine wpAnyN_take (i := 10) (v := undef) rfl (by kernel_rfl) (by kernel_rfl) (by kernel_rfl) (by kernel_rfl) (fun _ _ _ h => h) (Or.inr ⟨by rfl, rfl⟩) S0 ?_
  (try simp only [Act.put, qA, qB, qC, qD, qE, qF])
  refine wpAnyN_take (i := 11) (v := undef) rfl (by kernel_rfl) (by kernel_rfl) (by kernel_rfl) (by kernel_rfl) (fun _ _ _ h => h) (Or.inr ⟨by rfl, rfl⟩) S0 ?_
  (try simp only [Act.put, qA, qB, qC, qD, qE, qF])
  refine wpAnyN_take (i := 12) (v := undef) rfl (by kernel_rfl) (by kernel_rfl) (by kernel_rfl) (by kernel_rfl) (fun _ _ _ h => h) (Or.inr ⟨by rfl, rfl⟩) S0 ?_
  (try simp only [Act.put, qA, qB, qC, qD, qE, qF])
  refine wpAnyN_take (i := 13) (v := undef) rfl (by kernel_rfl) (by kernel_rfl) (by kernel_rfl) (by kernel_rfl) (fun _ _ _ h => h) (Or.inr ⟨by rfl, rfl⟩) S0 ?_
  (try simp only [Act.put, qA, qB, qC, qD, qE, qF])
  refine wpAnyN_take (i := 14) (v := undef) rfl (by kernel_rfl) (by kernel_rfl) (by kernel_rfl) (by kernel_rfl) (fun _ _ _ h => h) (Or.inr ⟨by rfl, rfl⟩) S0 ?_
  (try simp only [Act.put, qA, qB, qC, qD, qE, qF])
  refine wpAnyN_take (i := 15) (v := undef) rfl (by kernel_rfl) (by kernel_rfl) (by kernel_rfl) (by kernel_rfl) (fun _ _ _ h => h) (Or.inr ⟨by rfl, rfl⟩) S0 ?_
  (try simp only [Act.put, qA, qB, qC, qD, qE, qF])
  refine tkO (i := 16) (v := ?_) rfl (Or.inl ⟨by rfl, ?_⟩) S0 ?_
  rotate_left
  · intro w' hS'
    obtain ⟨h0, h1, h2, h3, h4, h5, h6⟩ := hS'
    (try go_simp)
    first | done | exact rfl | exact ⟨rfl, rfl⟩
  (try simp only [Act.put, qA, qB, qC, qD, qE, qF])
  refine tkO (i := 17) (v := ?_) rfl (Or.inl ⟨by rfl, ?_⟩) S0 ?_
  rotate_left
  · intro w' hS'
    obtain ⟨h0, h1, h2, h3, h4, h5, h6⟩ := hS'
    (try go_simp)
    first | done | exact rfl | exact ⟨rfl, rfl⟩
  (try simp only [Act.put, qA, qB, qC, qD, qE, qF])
  refine wpAnyN_take (i := 18) (v := undef) rfl (by kernel_rfl) (by kernel_rfl) (by kernel_rfl) (by kernel_rfl) (fun _ _ _ h => h) (Or.inr ⟨by rfl, rfl⟩) S0 ?_
  (try simp only [Act.put, qA, qB, qC, qD, qE, qF])
  refine wpAnyN_take (i := 19) (v := undef) rfl (by kernel_rfl) (by kernel_rfl) (by kernel_rfl) (by kernel_rfl) (fun _ _ _ h => h) (Or.inr ⟨by rfl, rfl⟩) S0 ?_
  (try simp only [Act.put, qA, qB, qC, qD, qE, qF])
  refine wpAnyN_take (i := 20) (v := undef) rfl (by kernel_rfl) (by kernel_rfl) (by kernel_rfl) (by kernel_rfl) (fun _ _ _ h => h) (Or.inr ⟨by rfl, rfl⟩) S0 ?_
  (try simp only [Act.put, qA, qB, qC, qD, qE, qF])
  refine wpAnyN_take (i := 21) (v := undef) rfl (by kernel_rfl) (by kernel_rfl) (by kernel_rfl) (by kernel_rfl) (fun _ _ _ h => h) (Or.inr ⟨by rfl, rfl⟩) S0 ?_
  (try simp only [Act.put, qA, qB, qC, qD, qE, qF])
  refine wpAnyN_take (i := 22) (v := undef) rfl (by kernel_rfl) (by kernel_rfl) (by kernel_rfl) (by kernel_rfl) (fun _ _ _ h => h) (Or.inr ⟨by rfl, rfl⟩) S0 ?_
  (try simp only [Act.put, qA, qB, qC, qD, qE, qF])
  refine wpAnyN_take (i := 23) (v := undef) rfl (by kernel_rfl) (by kernel_rfl) (by kernel_rfl) (by kernel_rfl) (fun _ _ _ h => h) (Or.inr ⟨by rfl, rfl⟩) S0 ?_
  (try simp only [Act.put, qA, qB, qC, qD, qE, qF])
  refine wpAnyN_take (i := 24) (v := undef) rfl (by kernel_rfl) (by kernel_rfl) (by kernel_rfl) (by kernel_rfl) (fun _ _ _ h => h) (Or.inr ⟨by rfl, rfl⟩) S0 ?_
  (try simp only [Act.put, qA, qB, qC, qD, qE, qF])
  refine wpAnyN_take (i := 25) (v := undef) rfl (by kernel_rfl) (by kernel_rfl) (by kernel_rfl) (by kernel_rfl) (fun _ _ _ h => h) (Or.inr ⟨by rfl, rfl⟩) S0 ?_
  (try simp only [Act.put, qA, qB, qC, qD, qE, qF])
  refine wpAnyN_take (i := 26) (v := undef) rfl (by kernel_rfl) (by kernel_rfl) (by kernel_rfl) (by kernel_rfl) (fun _ _ _ h => h) (Or.inr ⟨by rfl, rfl⟩) S0 ?_
  (try simp only [Act.put, qA, qB, qC, qD, qE, qF])
  refine wpAnyN_take (i := 27) (v := undef) rfl (by kernel_rfl) (by kernel_rfl) (by kernel_rfl) (by kernel_rfl) (fun _ _ _ h => h) (Or.inr ⟨by rfl, rfl⟩) S0 ?_
  (try simp only [Act.put, qA, qB, qC, qD, qE, qF])
  refine wpAnyN_take (i := 28) (v := undef) rfl (by kernel_rfl) (by kernel_rfl) (by kernel_rfl) (by kernel_rfl) (fun _ _ _ h => h) (Or.inr ⟨by rfl, rfl⟩) S0 ?_
  (try simp only [Act.put, qA, qB, qC, qD, qE, qF])
  refine wpAnyN_take (i := 29) (v := undef) rfl (by kernel_rfl) (by kernel_rfl) (by kernel_rfl) (by kernel_rfl) (fun _ _ _ h => h) (Or.inr ⟨by rfl, rfl⟩) S0 ?_
  (try simp only [Act.put, qA, qB, qC, qD, qE, qF])
  refine tkO (i := 30) (v := ?_) rfl (Or.inl ⟨by rfl, ?_⟩) S0 ?_
  rotate_left
  · intro w' hS'
    obtain ⟨h0, h1, h2, h3, h4, h5, h6⟩ := hS'
    (try go_simp)
    first | done | exact rfl | exact ⟨rfl, rfl⟩
  (try simp only [Act.put, qA, qB, qC, qD, qE, qF])
  refine wpAnyN_done (by kernel_rfl) ?_ _
  clear S0
  go_wp2
  go_ret
  exact ⟨rfl, below_next B0.out (below_next BW.out (below_drew _))⟩

set_option maxHeartbeats 1000000 in
theorem call_params (l : List Lf) (LA : Option Addr) (LC mb n fb fo ib io : Nat) (rg : Int) (x : Lo) (av dv : Value) (w : World) (hl : LfsIn w l (.slice LA l.length LC)) (hm : MapS w mb n (byN l)) (hr : w.cell? ⟨fb, fo + 1, none⟩ = some (.int .i64 rg))
    (hx : RowAt w ib io (loC x av dv)) (ht : x.tx.size ≤ maxLen) (ha : NosIn w x.args av) (hd : NosIn w x.dsts dv) (k : Nat) (hk : k < l.length) (hn : byN l x.tx.data.toList = some (k : Int)) (h1 : ¬ x.args.length = l[k].pa.length) :
    Calls Tryd.prog 33 #[.agg #[.slice LA l.length LC, .map (some mb), .pointer (some ⟨fb, fo, none⟩)], .pointer (some ⟨ib, io, none⟩)] w fun e w' => e = .returned (.bool false) ∧ Below w.heap.size w w' := by
  obtain ⟨ha0, AA, AC, rfl, ha1⟩ := ha.cells
  obtain ⟨hd0, DA, DC, rfl, hd1⟩ := hd.cells
  have HA : Hid (NosIn w x.args (.slice AA x.args.length AC)) := ha
  have HD : Hid (NosIn w x.dsts (.slice DA x.dsts.length DC)) := hd
  clear ha hd ha1 hd1 ha0 hd0
  have hlk : ∀ {w' : World}, MapS w' mb n (byN l) → (Instr.lookup 50 (.map (some mb)) (.string x.tx) true).run Tryd.prog w' = .ok (.tuple #[.int .i64 (k : Int), .bool true]) w' := fun h => by
    have := h.look2 (x := x.tx) ht
    rw [hn] at this
    exact this
  have hkz : (k : Int) < l.length := by omega
  obtain ⟨hl1, LA', LC', eL, hL⟩ := hl
  cases eL
  obtain ⟨lb, lo, cs, rfl, hrow, PV, BV, rfl, _, hpa, _⟩ := hL k hk
  obtain ⟨_, PA, PC, rfl, _⟩ := hpa.cells
  have hp := hrow.at 2 (v := .slice PA l[k].pa.length PC) rfl
  have hq := hrow.at 3 (v := .int .i64 l[k].an) rfl
  clear hrow hpa hL hl1
  generalize l[k] = g at *
  have g1 : ((x.args.length : Int) != g.pa.length) = true := by rw [bne_iff_ne]; omega
  have B0 : Hid (Below w.heap.size w (w.alloc (.cells #[.slice (some ⟨lb, lo, none⟩) l.length LC, .map (some mb), .pointer (some ⟨fb, fo, none⟩)] 62))) := below_alloc _ _
  have HS : Hid (∀ w', Below (w.alloc (.cells #[.slice (some ⟨lb, lo, none⟩) l.length LC, .map (some mb), .pointer (some ⟨fb, fo, none⟩)] 62)).heap.size (w.alloc (.cells #[.slice (some ⟨lb, lo, none⟩) l.length LC, .map (some mb), .pointer (some ⟨fb, fo, none⟩)] 62)) w' → w'.cell? ⟨w.heap.size, 0, none⟩ = some (.slice (some ⟨lb, lo, none⟩) l.length LC) ∧ w'.cell? ⟨w.heap.size, 1, none⟩ = some (.map (some mb)) ∧ w'.cell? ⟨w.heap.size, 2, none⟩ = some (.pointer (some ⟨fb, fo, none⟩)) ∧ w'.cell? ⟨ib, io + 5, none⟩ = some (.string x.tx) ∧ w'.cell? ⟨ib, io + 6, none⟩ = some (.slice AA x.args.length AC) ∧ w'.cell? ⟨ib, io + 7, none⟩ = some (.slice DA x.dsts.length DC) ∧ (Instr.lookup 50 (.map (some mb)) (.string x.tx) true).run Tryd.prog w' = .ok (.tuple #[.int .i64 (k : Int), .bool true]) w' ∧ w'.cell? ⟨lb, lo + k * 7 + 2, none⟩ = some (.slice PA g.pa.length PC) ∧ w'.cell? ⟨lb, lo + k * 7 + 3, none⟩ = some (.int .i64 g.an)) := fun w' hb => by
    have hb2 := below_next B0.out hb
    have hA := (At.new w #[.slice (some ⟨lb, lo, none⟩) l.length LC, .map (some mb), .pointer (some ⟨fb, fo, none⟩)] 62).below hb (by simp)
    exact ⟨hA.cell 0, hA.cell 1, hA.cell 2, kp_cell (hx.at 5 rfl) hb2, kp_cell (hx.at 6 rfl) hb2, kp_cell (hx.at 7 rfl) hb2, hlk (hm.below hb2), kp_cell hp hb2, kp_cell hq hb2⟩
  have HR : Hid (w.cell? ⟨fb, fo + 1, none⟩ = some (.int .i64 rg)) := hr
  clear hm hr hx ht hn hlk hp hq h1
  go_enter Tryd.func33, Tryd.ntmps33
  go_wp2
  generalize w.alloc (.cells #[.slice (some ⟨lb, lo, none⟩) l.length LC, .map (some mb), .pointer (some ⟨fb, fo, none⟩)] 62) = w1 at *
  refine wp_region_N (fun w' => w'.cell? ⟨w.heap.size, 0, none⟩ = some (.slice (some ⟨lb, lo, none⟩) l.length LC) ∧ w'.cell? ⟨w.heap.size, 1, none⟩ = some (.map (some mb)) ∧ w'.cell? ⟨w.heap.size, 2, none⟩ = some (.pointer (some ⟨fb, fo, none⟩)) ∧ w'.cell? ⟨ib, io + 5, none⟩ = some (.string x.tx) ∧ w'.cell? ⟨ib, io + 6, none⟩ = some (.slice AA x.args.length AC) ∧ w'.cell? ⟨ib, io + 7, none⟩ = some (.slice DA x.dsts.length DC) ∧ (Instr.lookup 50 (.map (some mb)) (.string x.tx) true).run Tryd.prog w' = .ok (.tuple #[.int .i64 (k : Int), .bool true]) w' ∧ w'.cell? ⟨lb, lo + k * 7 + 2, none⟩ = some (.slice PA g.pa.length PC) ∧ w'.cell? ⟨lb, lo + k * 7 + 3, none⟩ = some (.int .i64 g.an)) (fun _ => true) mixed (HS.out _ (below_drew _)) ?_
  intro S0
  refine tkO (i := 0) (v := ?_) rfl (Or.inl ⟨by rfl, ?_⟩) S0 ?_
  rotate_left
  · intro w' hS'
    obtain ⟨h0, h1, h2, h3, h4, h5, h6, h7, h8⟩ := hS'
    (try go_simp)
    first | done | exact rfl | exact ⟨rfl, rfl⟩
  (try simp only [Act.put, qA, qC, qD, qE, qF])
  refine tkO (i := 1) (v := ?_) rfl (Or.inl ⟨by rfl, ?_⟩) S0 ?_
  rotate_left
  · intro w' hS'
    obtain ⟨h0, h1, h2, h3, h4, h5, h6, h7, h8⟩ := hS'
    (try go_simp)
    first | done | exact rfl | exact ⟨rfl, rfl⟩
  (try simp only [Act.put, qA, qB, qC, qD, qE, qF])
  refine tkO (i := 2) (v := ?_) rfl (Or.inl ⟨by rfl, ?_⟩) S0 ?_
  rotate_left
  · intro w' hS'
    obtain ⟨h0, h1, h2, h3, h4, h5, h6, h7, h8⟩ := hS'
    (try go_simp)
    first | done | exact rfl | exact ⟨rfl, rfl⟩
  (try simp only [Act.put, qA, qB, qC, qD, qE, qF])
  refine tkO (i := 3) (v := ?_) rfl (Or.inl ⟨by rfl, ?_⟩) S0 ?_
  rotate_left
  · intro w' hS'
    obtain ⟨h0, h1, h2, h3, h4, h5, h6, h7, h8⟩ := hS'
    (try go_simp)
    first | done | exact rfl | exact ⟨rfl, rfl⟩
  (try simp only [Act.put, qA, qB, qC, qD, qE, qF])
  refine tkO (i := 4) (v := ?_) rfl (Or.inl ⟨by rfl, ?_⟩) S0 ?_
  rotate_left
  · intro w' hS'
    obtain ⟨h0, h1, h2, h3, h4, h5, h6, h7, h8⟩ := hS'
    (try go_simp)
    first | done | exact rfl | exact ⟨rfl, rfl⟩
  (try simp only [Act.put, qA, qB, qC, qD, qE, qF])
  refine tkO (i := 5) (v := ?_) rfl (Or.inl ⟨by rfl, ?_⟩) S0 ?_
  rotate_left
  · intro w' hS'
    obtain ⟨h0, h1, h2, h3, h4, h5, h6, h7, h8⟩ := hS'
    (try go_simp)
    first | done | exact rfl | exact ⟨rfl, rfl⟩
  (try simp only [Act.put, qA, qB, qC, qD, qE, qF])
  refine tkO (i := 6) (v := ?_) rfl (Or.inl ⟨by rfl, ?_⟩) S0 ?_
  rotate_left
  · intro w' hS'
    obtain ⟨h0, h1, h2, h3, h4, h5, h6, h7, h8⟩ := hS'
    (try go_simp)
    first | done | exact rfl | exact ⟨rfl, rfl⟩
  (try simp only [Act.put, qA, qB, qC, qD, qE, qF])
  refine tkO (i := 7) (v := ?_) rfl (Or.inl ⟨by rfl, ?_⟩) S0 ?_
  rotate_left
  · intro w' hS'
    obtain ⟨h0, h1, h2, h3, h4, h5, h6, h7, h8⟩ := hS'
    (try go_simp)
    first | done | exact rfl | exact ⟨rfl, rfl⟩
  (try simp only [Act.put, qA, qB, qC, qD, qE, qF])
  refine tkO (i := 8) (v := ?_) rfl (Or.inl ⟨by rfl, ?_⟩) S0 ?_
  rotate_left
  · intro w' hS'
    obtain ⟨h0, h1, h2, h3, h4, h5, h6, h7, h8⟩ := hS'
    (try go_simp)
    first | done | exact rfl | exact ⟨rfl, rfl⟩
  (try simp only [Act.put, qA, qB, qC, qD, qE, qF])
  refine tkO (i := 9) (v := ?_) rfl (Or.inl ⟨by rfl, ?_⟩) S0 ?_
  rotate_left
  · intro w' hS'
    obtain ⟨h0, h1, h2, h3, h4, h5, h6, h7, h8⟩ := hS'
    (try go_simp)
    first | done | exact rfl | exact ⟨rfl, rfl⟩
  (try simp only [Act.put, qA, qB, qC, qD, qE, qF])
  refine tkO (i := 10) (v := ?_) rfl (Or.inl ⟨by rfl, ?_⟩) S0 ?_
  rotate_left
  · intro w' hS'
    obtain ⟨h0, h1, h2, h3, h4, h5, h6, h7, h8⟩ := hS'
    (try go_simp)
    first | done | exact rfl | exact ⟨rfl, rfl⟩
  (try simp only [Act.put, qA, qB, qC, qD, qE, qF])
  refine tkO (i := 11) (v := ?_) rfl (Or.inl ⟨by rfl, ?_⟩) S0 ?_
  rotate_left
  · intro w' hS'
    obtain ⟨h0, h1, h2, h3, h4, h5, h6, h7, h8⟩ := hS'
    (try go_simp)
    first | done | exact rfl | exact ⟨rfl, rfl⟩
  (try simp only [Act.put, qA, qB, qC, qD, qE, qF])
  refine wpAnyN_done (by kernel_rfl) ?_ _
  have BW : Hid (Below w1.heap.size w1 w1.drew) := below_drew _
  generalize w1.drew = w2 at *
  go_wp2
  refine wp_region_N (fun w' => w'.cell? ⟨w.heap.size, 0, none⟩ = some (.slice (some ⟨lb, lo, none⟩) l.length LC) ∧ w'.cell? ⟨w.heap.size, 1, none⟩ = some (.map (some mb)) ∧ w'.cell? ⟨w.heap.size, 2, none⟩ = some (.pointer (some ⟨fb, fo, none⟩)) ∧ w'.cell? ⟨ib, io + 5, none⟩ = some (.string x.tx) ∧ w'.cell? ⟨ib, io + 6, none⟩ = some (.slice AA x.args.length AC) ∧ w'.cell? ⟨ib, io + 7, none⟩ = some (.slice DA x.dsts.length DC) ∧ (Instr.lookup 50 (.map (some mb)) (.string x.tx) true).run Tryd.prog w' = .ok (.tuple #[.int .i64 (k : Int), .bool true]) w' ∧ w'.cell? ⟨lb, lo + k * 7 + 2, none⟩ = some (.slice PA g.pa.length PC) ∧ w'.cell? ⟨lb, lo + k * 7 + 3, none⟩ = some (.int .i64 g.an)) (fun _ => true) mixed (HS.out _ (below_next BW.out (below_drew _))) ?_
  intro S0
  refine tkO (i := 0) (v := ?_) rfl (Or.inl ⟨by rfl, ?_⟩) S0 ?_
  rotate_left
  · intro w' hS'
    obtain ⟨h0, h1, h2, h3, h4, h5, h6, h7, h8⟩ := hS'
    (try go_simp)
    first | done | exact rfl | exact ⟨rfl, rfl⟩
  (try simp only [Act.put, qA, qC, qD, qE, qF])
  refine tkO (i := 1) (v := ?_) rfl (Or.inl ⟨by rfl, ?_⟩) S0 ?_
  rotate_left
  · intro w' hS'
    obtain ⟨h0, h1, h2, h3, h4, h5, h6, h7, h8⟩ := hS'
    (try go_simp)
    first | done | exact rfl | exact ⟨rfl, rfl⟩
  (try simp only [Act.put, qA, qB, qC, qD, qE, qF])
  refine tkO (i := 2) (v := ?_) rfl (Or.inl ⟨by rfl, ?_⟩) S0 ?_
  rotate_left
  · intro w' hS'
    obtain ⟨h0, h1, h2, h3, h4, h5, h6, h7, h8⟩ := hS'
    (try go_simp)
    first | done | exact rfl | exact ⟨rfl, rfl⟩
  (try simp only [Act.put, qA, qB, qC, qD, qE, qF])
  refine tkO (i := 3) (v := ?_) rfl (Or.inl ⟨by rfl, ?_⟩) S0 ?_
  rotate_left
  · intro w' hS'
    obtain ⟨h0, h1, h2, h3, h4, h5, h6, h7, h8⟩ := hS'
    (try go_simp)
    first | done | exact rfl | exact ⟨rfl, rfl⟩
  (try simp only [Act.put, qA, qB, qC, qD, qE, qF])
  refine tkO (i := 4) (v := ?_) rfl (Or.inl ⟨by rfl, ?_⟩) S0 ?_
  rotate_left
  · intro w' hS'
    obtain ⟨h0, h1, h2, h3, h4, h5, h6, h7, h8⟩ := hS'
    (try go_simp)
    first | done | exact rfl | exact ⟨rfl, rfl⟩
  (try simp only [Act.put, qA, qB, qC, qD, qE, qF])
  refine tkO (i := 5) (v := ?_) rfl (Or.inl ⟨by rfl, ?_⟩) S0 ?_
  rotate_left
  · intro w' hS'
    obtain ⟨h0, h1, h2, h3, h4, h5, h6, h7, h8⟩ := hS'
    (try go_simp)
    first | done | exact rfl | exact ⟨rfl, rfl⟩
  (try simp only [Act.put, qA, qB, qC, qD, qE, qF])
  refine tkO (i := 6) (v := ?_) rfl (Or.inl ⟨by rfl, ?_⟩) S0 ?_
  rotate_left
  · intro w' hS'
    obtain ⟨h0, h1, h2, h3, h4, h5, h6, h7, h8⟩ := hS'
    (try go_simp)
    first | done | exact rfl | exact ⟨rfl, rfl⟩
  (try simp only [Act.put, qA, qB, qC, qD, qE, qF])
  refine tkO (i := 7) (v := ?_) rfl (Or.inl ⟨by rfl, ?_⟩) S0 ?_
  rotate_left
  · intro w' hS'
    obtain ⟨h0, h1, h2, h3, h4, h5, h6, h7, h8⟩ := hS'
    (try go_simp)
    first | done | exact rfl | exact ⟨rfl, rfl⟩
  (try simp only [Act.put, qA, qB, qC, qD, qE, qF])
  refine tkO (i := 8) (v := ?_) rfl (Or.inl ⟨by rfl, ?_⟩) S0 ?_
  rotate_left
  · intro w' hS'
    obtain ⟨h0, h1, h2, h3, h4, h5, h6, h7, h8⟩ := hS'
    (try go_simp)
    first | done | exact rfl | exact ⟨rfl, rfl⟩
  (try simp only [Act.put, qA, qB, qC, qD, qE, qF])
  refine tkO (i := 9) (v := ?_) rfl (Or.inl ⟨by rfl, ?_⟩) S0 ?_
  rotate_left
  · intro w' hS'
    obtain ⟨h0, h1, h2, h3, h4, h5, h6, h7, h8⟩ := hS'
    (try go_simp)
    first | done | exact rfl | exact ⟨rfl, rfl⟩
  (try simp only [Act.put, qA, qB, qC, qD, qE, qF])
  refine tkO (i := 10) (v := ?_) rfl (Or.inl ⟨by rfl, ?_⟩) S0 ?_
  rotate_left
  · intro w' hS'
    obtain ⟨h0, h1, h2, h3, h4, h5, h6, h7, h8⟩ := hS'
    (try go_simp)
    first | done | exact rfl | exact ⟨rfl, rfl⟩
  (try simp only [Act.put, qA, qB, qC, qD, qE, qF])
  refine tkO (i := 11) (v := ?_) rfl (Or.inl ⟨by rfl, ?_⟩) S0 ?_
  rotate_left
  · intro w' hS'
    obtain ⟨h0, h1, h2, h3, h4, h5, h6, h7, h8⟩ := hS'
    (try go_simp)
    first | done | exact rfl | exact ⟨rfl, rfl⟩
  (try simp only [Act.put, qA, qB, qC, qD, qE, qF])
  refine tkO (i := 12) (v := ?_) rfl (Or.inl ⟨by rfl, ?_⟩) S0 ?_
  rotate_left
  · intro w' hS'
    obtain ⟨h0, h1, h2, h3, h4, h5, h6, h7, h8⟩ := hS'
    (try go_simp)
    first | done | exact rfl | exact ⟨rfl, rfl⟩
  (try simp only [Act.put, qA, qB, qC, qD, qE, qF])
  refine tkO (i := 13) (v := ?_) rfl (Or.inl ⟨by rfl, ?_⟩) S0 ?_
  rotate_left
  · intro w' hS'
    obtain ⟨h0, h1, h2, h3, h4, h5, h6, h7, h8⟩ := hS'
    (try go_simp)
    first | done | exact rfl | exact ⟨rfl, rfl⟩
  (try simp only [Act.put, qA, qB, qC, qD, qE, qF])
  refine tkO (i := 14) (v := ?_) rfl (Or.inl ⟨by rfl, ?_⟩) S0 ?_
  rotate_left
  · intro w' hS'
    obtain ⟨h0, h1, h2, h3, h4, h5, h6, h7, h8⟩ := hS'
    (try go_simp)
    first | done | exact rfl | exact ⟨rfl, rfl⟩
  (try simp only [Act.put, qA, qB, qC, qD, qE, qF])
  refine tkO (i := 15) (v := ?_) rfl (Or.inl ⟨by rfl, ?_⟩) S0 ?_
  rotate_left
  · intro w' hS'
    obtain ⟨h0, h1, h2, h3, h4, h5, h6, h7, h8⟩ := hS'
    (try go_simp)
    first | done | exact rfl | exact ⟨rfl, rfl⟩
  (try simp only [Act.put, qA, qB, qC, qD, qE, qF])
  refine tkO (i := 16) (v := ?_) rfl (Or.inl ⟨by rfl, ?_⟩) S0 ?_
  rotate_left
  · intro w' hS'
    obtain ⟨h0, h1, h2, h3, h4, h5, h6, h7, h8⟩ := hS'
    (try go_simp)
    first | done | exact rfl | exact ⟨rfl, rfl⟩
  (try simp only [Act.put, qA, qB, qC, qD, qE, qF])
  refine tkO (i := 17) (v := ?_) rfl (Or.inl ⟨by rfl, ?_⟩) S0 ?_
  rotate_left
  · intro w' hS'
    obtain ⟨h0, h1, h2, h3, h4, h5, h6, h7, h8⟩ := hS'
    (try go_simp)
    first | done | exact rfl | exact ⟨rfl, rfl⟩
  (try simp only [Act.put, qA, qB, qC, qD, qE, qF])
  refine wpAnyN_take (i := 18) (v := undef) rfl (by kernel_rfl) (by kernel_rfl) (by kernel_rfl) (by kernel_rfl) (fun _ _ _ h => h) (Or.inr ⟨by rfl, rfl⟩) S0 ?_
  (try simp only [Act.put, qA, qB, qC, qD, qE, qF])
  refine wpAnyN_take (i := 19) (v := undef) rfl (by kernel_rfl) (by kernel_rfl) (by kernel_rfl) (by kernel_rfl) (fun _ _ _ h => h) (Or.inr ⟨by rfl, rfl⟩) S0 ?_
  (try simp only [Act.put, qA, qB, qC, qD, qE, qF])
  refine wpAnyN_take (i := 20) (v := undef) rfl (by kernel_rfl) (by kernel_rfl) (by kernel_rfl) (by kernel_rfl) (fun _ _ _ h => h) (Or.inr ⟨by rfl, rfl⟩) S0 ?_
  (try simp only [Act.put, qA, qB, qC, qD, qE, qF])
  refine wpAnyN_take (i := 21) (v := undef) rfl (by kernel_rfl) (by kernel_rfl) (by kernel_rfl) (by kernel_rfl) (fun _ _ _ h => h) (Or.inr ⟨by rfl, rfl⟩) S0 ?_
  (try simp only [Act.put, qA, qB, qC, qD, qE, qF])
  refine wpAnyN_take (i := 22) (v := undef) rfl (by kernel_rfl) (by kernel_rfl) (by kernel_rfl) (by kernel_rfl) (fun _ _ _ h => h) (Or.inr ⟨by rfl, rfl⟩) S0 ?_
  (try simp only [Act.put, qA, qB, qC, qD, qE, qF])
  refine wpAnyN_take (i := 23) (v := undef) rfl (by kernel_rfl) (by kernel_rfl) (by kernel_rfl) (by kernel_rfl) (fun _ _ _ h => h) (Or.inr ⟨by rfl, rfl⟩) S0 ?_
  (try simp only [Act.put, qA, qB, qC, qD, qE, qF])
  refine wpAnyN_take (i := 24) (v := undef) rfl (by kernel_rfl) (by kernel_rfl) (by kernel_rfl) (by kernel_rfl) (fun _ _ _ h => h) (Or.inr ⟨by rfl, rfl⟩) S0 ?_
  (try simp only [Act.put, qA, qB, qC, qD, qE, qF])
  refine wpAnyN_take (i := 25) (v := undef) rfl (by kernel_rfl) (by kernel_rfl) (by kernel_rfl) (by kernel_rfl) (fun _ _ _ h => h) (Or.inr ⟨by rfl, rfl⟩) S0 ?_
  (try simp only [Act.put, qA, qB, qC, qD, qE, qF])
  refine wpAnyN_take (i := 26) (v := undef) rfl (by kernel_rfl) (by kernel_rfl) (by kernel_rfl) (by kernel_rfl) (fun _ _ _ h => h) (Or.inr ⟨by rfl, rfl⟩) S0 ?_
  (try simp only [Act.put, qA, qB, qC, qD, qE, qF])
  refine wpAnyN_take (i := 27) (v := undef) rfl (by kernel_rfl) (by kernel_rfl) (by kernel_rfl) (by kernel_rfl) (fun _ _ _ h => h) (Or.inr ⟨by rfl, rfl⟩) S0 ?_
  (try simp only [Act.put, qA, qB, qC, qD, qE, qF])
  refine wpAnyN_take (i := 28) (v := undef) rfl (by kernel_rfl) (by kernel_rfl) (by kernel_rfl) (by kernel_rfl) (fun _ _ _ h => h) (Or.inr ⟨by rfl, rfl⟩) S0 ?_
  (try simp only [Act.put, qA, qB, qC, qD, qE, qF])
  refine wpAnyN_take (i := 29) (v := undef) rfl (by kernel_rfl) (by kernel_rfl) (by kernel_rfl) (by kernel_rfl) (fun _ _ _ h => h) (Or.inr ⟨by rfl, rfl⟩) S0 ?_
  (try simp only [Act.put, qA, qB, qC, qD, qE, qF])
  refine tkO (i := 30) (v := ?_) rfl (Or.inl ⟨by rfl, ?_⟩) S0 ?_
  rotate_left
  · intro w' hS'
    obtain ⟨h0, h1, h2, h3, h4, h5, h6, h7, h8⟩ := hS'
    (try go_simp)
    first | done | exact rfl | exact ⟨rfl, rfl⟩
  (try simp only [Act.put, qA, qB, qC, qD, qE, qF])
  refine wpAnyN_done (by kernel_rfl) ?_ _
  clear S0
  go_wp2
  go_ret
  exact ⟨rfl, below_next B0.out (below_next BW.out (below_drew _))⟩

set_option maxHeartbeats 1000000 in
theorem call_dsts (l : List Lf) (LA : Option Addr) (LC mb n fb fo ib io : Nat) (rg : Int) (x : Lo) (av dv : Value) (w : World) (hl : LfsIn w l (.slice LA l.length LC)) (hm : MapS w mb n (byN l)) (hr : w.cell? ⟨fb, fo + 1, none⟩ = some (.int .i64 rg))
    (hx : RowAt w ib io (loC x av dv)) (ht : x.tx.size ≤ maxLen) (ha : NosIn w x.args av) (hd : NosIn w x.dsts dv) (k : Nat) (hk : k < l.length) (hn : byN l x.tx.data.toList = some (k : Int)) (h1 : x.args.length = l[k].pa.length) (h2 : ¬ (x.dsts.length : Int) = l[k].an) :
    Calls Tryd.prog 33 #[.agg #[.slice LA l.length LC, .map (some mb), .pointer (some ⟨fb, fo, none⟩)], .pointer (some ⟨ib, io, none⟩)] w fun e w' => e = .returned (.bool false) ∧ Below w.heap.size w w' := by
  obtain ⟨ha0, AA, AC, rfl, ha1⟩ := ha.cells
  obtain ⟨hd0, DA, DC, rfl, hd1⟩ := hd.cells
  have HA : Hid (NosIn w x.args (.slice AA x.args.length AC)) := ha
  have HD : Hid (NosIn w x.dsts (.slice DA x.dsts.length DC)) := hd
  clear ha hd ha1 hd1 ha0 hd0
  have hlk : ∀ {w' : World}, MapS w' mb n (byN l) → (Instr.lookup 50 (.map (some mb)) (.string x.tx) true).run Tryd.prog w' = .ok (.tuple #[.int .i64 (k : Int), .bool true]) w' := fun h => by
    have := h.look2 (x := x.tx) ht
    rw [hn] at this
    exact this
  have hkz : (k : Int) < l.length := by omega
  obtain ⟨hl1, LA', LC', eL, hL⟩ := hl
  cases eL
  obtain ⟨lb, lo, cs, rfl, hrow, PV, BV, rfl, _, hpa, _⟩ := hL k hk
  obtain ⟨_, PA, PC, rfl, _⟩ := hpa.cells
  have hp := hrow.at 2 (v := .slice PA l[k].pa.length PC) rfl
  have hq := hrow.at 3 (v := .int .i64 l[k].an) rfl
  clear hrow hpa hL hl1
  generalize l[k] = g at *
  have g1 : ((x.args.length : Int) != g.pa.length) = false := by rw [bne_eq_false_iff_eq]; omega
  have g2 : ((x.dsts.length : Int) != g.an) = true := by rw [bne_iff_ne]; omega
  have B0 : Hid (Below w.heap.size w (w.alloc (.cells #[.slice (some ⟨lb, lo, none⟩) l.length LC, .map (some mb), .pointer (some ⟨fb, fo, none⟩)] 62))) := below_alloc _ _
  have HS : Hid (∀ w', Below (w.alloc (.cells #[.slice (some ⟨lb, lo, none⟩) l.length LC, .map (some mb), .pointer (some ⟨fb, fo, none⟩)] 62)).heap.size (w.alloc (.cells #[.slice (some ⟨lb, lo, none⟩) l.length LC, .map (some mb), .pointer (some ⟨fb, fo, none⟩)] 62)) w' → w'.cell? ⟨w.heap.size, 0, none⟩ = some (.slice (some ⟨lb, lo, none⟩) l.length LC) ∧ w'.cell? ⟨w.heap.size, 1, none⟩ = some (.map (some mb)) ∧ w'.cell? ⟨w.heap.size, 2, none⟩ = some (.pointer (some ⟨fb, fo, none⟩)) ∧ w'.cell? ⟨ib, io + 5, none⟩ = some (.string x.tx) ∧ w'.cell? ⟨ib, io + 6, none⟩ = some (.slice AA x.args.length AC) ∧ w'.cell? ⟨ib, io + 7, none⟩ = some (.slice DA x.dsts.length DC) ∧ (Instr.lookup 50 (.map (some mb)) (.string x.tx) true).run Tryd.prog w' = .ok (.tuple #[.int .i64 (k : Int), .bool true]) w' ∧ w'.cell? ⟨lb, lo + k * 7 + 2, none⟩ = some (.slice PA g.pa.length PC) ∧ w'.cell? ⟨lb, lo + k * 7 + 3, none⟩ = some (.int .i64 g.an)) := fun w' hb => by
    have hb2 := below_next B0.out hb
    have hA := (At.new w #[.slice (some ⟨lb, lo, none⟩) l.length LC, .map (some mb), .pointer (some ⟨fb, fo, none⟩)] 62).below hb (by simp)
    exact ⟨hA.cell 0, hA.cell 1, hA.cell 2, kp_cell (hx.at 5 rfl) hb2, kp_cell (hx.at 6 rfl) hb2, kp_cell (hx.at 7 rfl) hb2, hlk (hm.below hb2), kp_cell hp hb2, kp_cell hq hb2⟩
  have HR : Hid (w.cell? ⟨fb, fo + 1, none⟩ = some (.int .i64 rg)) := hr
  clear hm hr hx ht hn hlk hp hq h1 h2
  go_enter Tryd.func33, Tryd.ntmps33
  go_wp2
  generalize w.alloc (.cells #[.slice (some ⟨lb, lo, none⟩) l.length LC, .map (some mb), .pointer (some ⟨fb, fo, none⟩)] 62) = w1 at *
  refine wp_region_N (fun w' => w'.cell? ⟨w.heap.size, 0, none⟩ = some (.slice (some ⟨lb, lo, none⟩) l.length LC) ∧ w'.cell? ⟨w.heap.size, 1, none⟩ = some (.map (some mb)) ∧ w'.cell? ⟨w.heap.size, 2, none⟩ = some (.pointer (some ⟨fb, fo, none⟩)) ∧ w'.cell? ⟨ib, io + 5, none⟩ = some (.string x.tx) ∧ w'.cell? ⟨ib, io + 6, none⟩ = some (.slice AA x.args.length AC) ∧ w'.cell? ⟨ib, io + 7, none⟩ = some (.slice DA x.dsts.length DC) ∧ (Instr.lookup 50 (.map (some mb)) (.string x.tx) true).run Tryd.prog w' = .ok (.tuple #[.int .i64 (k : Int), .bool true]) w' ∧ w'.cell? ⟨lb, lo + k * 7 + 2, none⟩ = some (.slice PA g.pa.length PC) ∧ w'.cell? ⟨lb, lo + k * 7 + 3, none⟩ = some (.int .i64 g.an)) (fun _ => true) mixed (HS.out _ (below_drew _)) ?_
  intro S0
  refine tkO (i := 0) (v := ?_) rfl (Or.inl ⟨by rfl, ?_⟩) S0 ?_
  rotate_left
  · intro w' hS'
    obtain ⟨h0, h1, h2, h3, h4, h5, h6, h7, h8⟩ := hS'
    (try go_simp)
    first | done | exact rfl | exact ⟨rfl, rfl⟩
  (try simp only [Act.put, qA, qC, qD, qE, qF])
  refine tkO (i := 1) (v := ?_) rfl (Or.inl ⟨by rfl, ?_⟩) S0 ?_
  rotate_left
  · intro w' hS'
    obtain ⟨h0, h1, h2, h3, h4, h5, h6, h7, h8⟩ := hS'
    (try go_simp)
    first | done | exact rfl | exact ⟨rfl, rfl⟩
  (try simp only [Act.put, qA, qB, qC, qD, qE, qF])
  refine tkO (i := 2) (v := ?_) rfl (Or.inl ⟨by rfl, ?_⟩) S0 ?_
  rotate_left
  · intro w' hS'
    obtain ⟨h0, h1, h2, h3, h4, h5, h6, h7, h8⟩ := hS'
    (try go_simp)
    first | done | exact rfl | exact ⟨rfl, rfl⟩
  (try simp only [Act.put, qA, qB, qC, qD, qE, qF])
  refine tkO (i := 3) (v := ?_) rfl (Or.inl ⟨by rfl, ?_⟩) S0 ?_
  rotate_left
  · intro w' hS'
    obtain ⟨h0, h1, h2, h3, h4, h5, h6, h7, h8⟩ := hS'
    (try go_simp)
    first | done | exact rfl | exact ⟨rfl, rfl⟩
  (try simp only [Act.put, qA, qB, qC, qD, qE, qF])
  refine tkO (i := 4) (v := ?_) rfl (Or.inl ⟨by rfl, ?_⟩) S0 ?_
  rotate_left
  · intro w' hS'
    obtain ⟨h0, h1, h2, h3, h4, h5, h6, h7, h8⟩ := hS'
    (try go_simp)
    first | done | exact rfl | exact ⟨rfl, rfl⟩
  (try simp only [Act.put, qA, qB, qC, qD, qE, qF])
  refine tkO (i := 5) (v := ?_) rfl (Or.inl ⟨by rfl, ?_⟩) S0 ?_
  rotate_left
  · intro w' hS'
    obtain ⟨h0, h1, h2, h3, h4, h5, h6, h7, h8⟩ := hS'
    (try go_simp)
    first | done | exact rfl | exact ⟨rfl, rfl⟩
  (try simp only [Act.put, qA, qB, qC, qD, qE, qF])
  refine tkO (i := 6) (v := ?_) rfl (Or.inl ⟨by rfl, ?_⟩) S0 ?_
  rotate_left
  · intro w' hS'
    obtain ⟨h0, h1, h2, h3, h4, h5, h6, h7, h8⟩ := hS'
    (try go_simp)
    first | done | exact rfl | exact ⟨rfl, rfl⟩
  (try simp only [Act.put, qA, qB, qC, qD, qE, qF])
  refine tkO (i := 7) (v := ?_) rfl (Or.inl ⟨by rfl, ?_⟩) S0 ?_
  rotate_left
  · intro w' hS'
    obtain ⟨h0, h1, h2, h3, h4, h5, h6, h7, h8⟩ := hS'
    (try go_simp)
    first | done | exact rfl | exact ⟨rfl, rfl⟩
  (try simp only [Act.put, qA, qB, qC, qD, qE, qF])
  refine tkO (i := 8) (v := ?_) rfl (Or.inl ⟨by rfl, ?_⟩) S0 ?_
  rotate_left
  · intro w' hS'
    obtain ⟨h0, h1, h2, h3, h4, h5, h6, h7, h8⟩ := hS'
    (try go_simp)
    first | done | exact rfl | exact ⟨rfl, rfl⟩
  (try simp only [Act.put, qA, qB, qC, qD, qE, qF])
  refine tkO (i := 9) (v := ?_) rfl (Or.inl ⟨by rfl, ?_⟩) S0 ?_
  rotate_left
  · intro w' hS'
    obtain ⟨h0, h1, h2, h3, h4, h5, h6, h7, h8⟩ := hS'
    (try go_simp)
    first | done | exact rfl | exact ⟨rfl, rfl⟩
  (try simp only [Act.put, qA, qB, qC, qD, qE, qF])
  refine tkO (i := 10) (v := ?_) rfl (Or.inl ⟨by rfl, ?_⟩) S0 ?_
  rotate_left
  · intro w' hS'
    obtain ⟨h0, h1, h2, h3, h4, h5, h6, h7, h8⟩ := hS'
    (try go_simp)
    first | done | exact rfl | exact ⟨rfl, rfl⟩
  (try simp only [Act.put, qA, qB, qC, qD, qE, qF])
  refine tkO (i := 11) (v := ?_) rfl (Or.inl ⟨by rfl, ?_⟩) S0 ?_
  rotate_left
  · intro w' hS'
    obtain ⟨h0, h1, h2, h3, h4, h5, h6, h7, h8⟩ := hS'
    (try go_simp)
    first | done | exact rfl | exact ⟨rfl, rfl⟩
  (try simp only [Act.put, qA, qB, qC, qD, qE, qF])
  refine wpAnyN_done (by kernel_rfl) ?_ _
  have BW : Hid (Below w1.heap.size w1 w1.drew) := below_drew _
  generalize w1.drew = w2 at *
  go_wp2
  refine wp_region_N (fun w' => w'.cell? ⟨w.heap.size, 0, none⟩ = some (.slice (some ⟨lb, lo, none⟩) l.length LC) ∧ w'.cell? ⟨w.heap.size, 1, none⟩ = some (.map (some mb)) ∧ w'.cell? ⟨w.heap.size, 2, none⟩ = some (.pointer (some ⟨fb, fo, none⟩)) ∧ w'.cell? ⟨ib, io + 5, none⟩ = some (.string x.tx) ∧ w'.cell? ⟨ib, io + 6, none⟩ = some (.slice AA x.args.length AC) ∧ w'.cell? ⟨ib, io + 7, none⟩ = some (.slice DA x.dsts.length DC) ∧ (Instr.lookup 50 (.map (some mb)) (.string x.tx) true).run Tryd.prog w' = .ok (.tuple #[.int .i64 (k : Int), .bool true]) w' ∧ w'.cell? ⟨lb, lo + k * 7 + 2, none⟩ = some (.slice PA g.pa.length PC) ∧ w'.cell? ⟨lb, lo + k * 7 + 3, none⟩ = some (.int .i64 g.an)) (fun _ => true) mixed (HS.out _ (below_next BW.out (below_drew _))) ?_
  intro S0
  refine tkO (i := 0) (v := ?_) rfl (Or.inl ⟨by rfl, ?_⟩) S0 ?_
  rotate_left
  · intro w' hS'
    obtain ⟨h0, h1, h2, h3, h4, h5, h6, h7, h8⟩ := hS'
    (try go_simp)
    first | done | exact rfl | exact ⟨rfl, rfl⟩
  (try simp only [Act.put, qA, qC, qD, qE, qF])
  refine tkO (i := 1) (v := ?_) rfl (Or.inl ⟨by rfl, ?_⟩) S0 ?_
  rotate_left
  · intro w' hS'
    obtain ⟨h0, h1, h2, h3, h4, h5, h6, h7, h8⟩ := hS'
    (try go_simp)
    first | done | exact rfl | exact ⟨rfl, rfl⟩
  (try simp only [Act.put, qA, qB, qC, qD, qE, qF])
  refine tkO (i := 2) (v := ?_) rfl (Or.inl ⟨by rfl, ?_⟩) S0 ?_
  rotate_left
  · intro w' hS'
    obtain ⟨h0, h1, h2, h3, h4, h5, h6, h7, h8⟩ := hS'
    (try go_simp)
    first | done | exact rfl | exact ⟨rfl, rfl⟩
  (try simp only [Act.put, qA, qB, qC, qD, qE, qF])
  refine tkO (i := 3) (v := ?_) rfl (Or.inl ⟨by rfl, ?_⟩) S0 ?_
  rotate_left
  · intro w' hS'
    obtain ⟨h0, h1, h2, h3, h4, h5, h6, h7, h8⟩ := hS'
    (try go_simp)
    first | done | exact rfl | exact ⟨rfl, rfl⟩
  (try simp only [Act.put, qA, qB, qC, qD, qE, qF])
  refine tkO (i := 4) (v := ?_) rfl (Or.inl ⟨by rfl, ?_⟩) S0 ?_
  rotate_left
  · intro w' hS'
    obtain ⟨h0, h1, h2, h3, h4, h5, h6, h7, h8⟩ := hS'
    (try go_simp)
    first | done | exact rfl | exact ⟨rfl, rfl⟩
  (try simp only [Act.put, qA, qB, qC, qD, qE, qF])
  refine tkO (i := 5) (v := ?_) rfl (Or.inl ⟨by rfl, ?_⟩) S0 ?_
  rotate_left
  · intro w' hS'
    obtain ⟨h0, h1, h2, h3, h4, h5, h6, h7, h8⟩ := hS'
    (try go_simp)
    first | done | exact rfl | exact ⟨rfl, rfl⟩
  (try simp only [Act.put, qA, qB, qC, qD, qE, qF])
  refine tkO (i := 6) (v := ?_) rfl (Or.inl ⟨by rfl, ?_⟩) S0 ?_
  rotate_left
  · intro w' hS'
    obtain ⟨h0, h1, h2, h3, h4, h5, h6, h7, h8⟩ := hS'
    (try go_simp)
    first | done | exact rfl | exact ⟨rfl, rfl⟩
  (try simp only [Act.put, qA, qB, qC, qD, qE, qF])
  refine tkO (i := 7) (v := ?_) rfl (Or.inl ⟨by rfl, ?_⟩) S0 ?_
  rotate_left
  · intro w' hS'
    obtain ⟨h0, h1, h2, h3, h4, h5, h6, h7, h8⟩ := hS'
    (try go_simp)
    first | done | exact rfl | exact ⟨rfl, rfl⟩
  (try simp only [Act.put, qA, qB, qC, qD, qE, qF])
  refine tkO (i := 8) (v := ?_) rfl (Or.inl ⟨by rfl, ?_⟩) S0 ?_
  rotate_left
  · intro w' hS'
    obtain ⟨h0, h1, h2, h3, h4, h5, h6, h7, h8⟩ := hS'
    (try go_simp)
    first | done | exact rfl | exact ⟨rfl, rfl⟩
  (try simp only [Act.put, qA, qB, qC, qD, qE, qF])
  refine tkO (i := 9) (v := ?_) rfl (Or.inl ⟨by rfl, ?_⟩) S0 ?_
  rotate_left
  · intro w' hS'
    obtain ⟨h0, h1, h2, h3, h4, h5, h6, h7, h8⟩ := hS'
    (try go_simp)
    first | done | exact rfl | exact ⟨rfl, rfl⟩
  (try simp only [Act.put, qA, qB, qC, qD, qE, qF])
  refine tkO (i := 10) (v := ?_) rfl (Or.inl ⟨by rfl, ?_⟩) S0 ?_
  rotate_left
  · intro w' hS'
    obtain ⟨h0, h1, h2, h3, h4, h5, h6, h7, h8⟩ := hS'
    (try go_simp)
    first | done | exact rfl | exact ⟨rfl, rfl⟩
  (try simp only [Act.put, qA, qB, qC, qD, qE, qF])
  refine tkO (i := 11) (v := ?_) rfl (Or.inl ⟨by rfl, ?_⟩) S0 ?_
  rotate_left
  · intro w' hS'
    obtain ⟨h0, h1, h2, h3, h4, h5, h6, h7, h8⟩ := hS'
    (try go_simp)
    first | done | exact rfl | exact ⟨rfl, rfl⟩
  (try simp only [Act.put, qA, qB, qC, qD, qE, qF])
  refine tkO (i := 12) (v := ?_) rfl (Or.inl ⟨by rfl, ?_⟩) S0 ?_
  rotate_left
  · intro w' hS'
    obtain ⟨h0, h1, h2, h3, h4, h5, h6, h7, h8⟩ := hS'
    (try go_simp)
    first | done | exact rfl | exact ⟨rfl, rfl⟩
  (try simp only [Act.put, qA, qB, qC, qD, qE, qF])
  refine tkO (i := 13) (v := ?_) rfl (Or.inl ⟨by rfl, ?_⟩) S0 ?_
  rotate_left
  · intro w' hS'
    obtain ⟨h0, h1, h2, h3, h4, h5, h6, h7, h8⟩ := hS'
    (try go_simp)
    first | done | exact rfl | exact ⟨rfl, rfl⟩
  (try simp only [Act.put, qA, qB, qC, qD, qE, qF])
  refine tkO (i := 14) (v := ?_) rfl (Or.inl ⟨by rfl, ?_⟩) S0 ?_
  rotate_left
  · intro w' hS'
    obtain ⟨h0, h1, h2, h3, h4, h5, h6, h7, h8⟩ := hS'
    (try go_simp)
    first | done | exact rfl | exact ⟨rfl, rfl⟩
  (try simp only [Act.put, qA, qB, qC, qD, qE, qF])
  refine tkO (i := 15) (v := ?_) rfl (Or.inl ⟨by rfl, ?_⟩) S0 ?_
  rotate_left
  · intro w' hS'
    obtain ⟨h0, h1, h2, h3, h4, h5, h6, h7, h8⟩ := hS'
    (try go_simp)
    first | done | exact rfl | exact ⟨rfl, rfl⟩
  (try simp only [Act.put, qA, qB, qC, qD, qE, qF])
  refine tkO (i := 16) (v := ?_) rfl (Or.inl ⟨by rfl, ?_⟩) S0 ?_
  rotate_left
  · intro w' hS'
    obtain ⟨h0, h1, h2, h3, h4, h5, h6, h7, h8⟩ := hS'
    (try go_simp)
    first | done | exact rfl | exact ⟨rfl, rfl⟩
  (try simp only [Act.put, qA, qB, qC, qD, qE, qF])
  refine tkO (i := 17) (v := ?_) rfl (Or.inl ⟨by rfl, ?_⟩) S0 ?_
  rotate_left
  · intro w' hS'
    obtain ⟨h0, h1, h2, h3, h4, h5, h6, h7, h8⟩ := hS'
    (try go_simp)
    first | done | exact rfl | exact ⟨rfl, rfl⟩
  (try simp only [Act.put, qA, qB, qC, qD, qE, qF])
  refine tkO (i := 18) (v := ?_) rfl (Or.inl ⟨by rfl, ?_⟩) S0 ?_
  rotate_left
  · intro w' hS'
    obtain ⟨h0, h1, h2, h3, h4, h5, h6, h7, h8⟩ := hS'
    (try go_simp)
    first | done | exact rfl | exact ⟨rfl, rfl⟩
  (try simp only [Act.put, qA, qB, qC, qD, qE, qF])
  refine tkO (i := 19) (v := ?_) rfl (Or.inl ⟨by rfl, ?_⟩) S0 ?_
  rotate_left
  · intro w' hS'
    obtain ⟨h0, h1, h2, h3, h4, h5, h6, h7, h8⟩ := hS'
    (try go_simp)
    first | done | exact rfl | exact ⟨rfl, rfl⟩
  (try simp only [Act.put, qA, qB, qC, qD, qE, qF])
  refine tkO (i := 20) (v := ?_) rfl (Or.inl ⟨by rfl, ?_⟩) S0 ?_
  rotate_left
  · intro w' hS'
    obtain ⟨h0, h1, h2, h3, h4, h5, h6, h7, h8⟩ := hS'
    (try go_simp)
    first | done | exact rfl | exact ⟨rfl, rfl⟩
  (try simp only [Act.put, qA, qB, qC, qD, qE, qF])
  refine tkO (i := 21) (v := ?_) rfl (Or.inl ⟨by rfl, ?_⟩) S0 ?_
  rotate_left
  · intro w' hS'
    obtain ⟨h0, h1, h2, h3, h4, h5, h6, h7, h8⟩ := hS'
    (try go_simp)
    first | done | exact rfl | exact ⟨rfl, rfl⟩
  (try simp only [Act.put, qA, qB, qC, qD, qE, qF])
  refine tkO (i := 22) (v := ?_) rfl (Or.inl ⟨by rfl, ?_⟩) S0 ?_
  rotate_left
  · intro w' hS'
    obtain ⟨h0, h1, h2, h3, h4, h5, h6, h7, h8⟩ := hS'
    (try go_simp)
    first | done | exact rfl | exact ⟨rfl, rfl⟩
  (try simp only [Act.put, qA, qB, qC, qD, qE, qF])
  refine tkO (i := 23) (v := ?_) rfl (Or.inl ⟨by rfl, ?_⟩) S0 ?_
  rotate_left
  · intro w' hS'
    obtain ⟨h0, h1, h2, h3, h4, h5, h6, h7, h8⟩ := hS'
    (try go_simp)
    first | done | exact rfl | exact ⟨rfl, rfl⟩
  (try simp only [Act.put, qA, qB, qC, qD, qE, qF])
  refine tkO (i := 24) (v := ?_) rfl (Or.inl ⟨by rfl, ?_⟩) S0 ?_
  rotate_left
  · intro w' hS'
    obtain ⟨h0, h1, h2, h3, h4, h5, h6, h7, h8⟩ := hS'
    (try go_simp)
    first | done | exact rfl | exact ⟨rfl, rfl⟩
  (try simp only [Act.put, qA, qB, qC, qD, qE, qF])
  refine tkO (i := 25) (v := ?_) rfl (Or.inl ⟨by rfl, ?_⟩) S0 ?_
  rotate_left
  · intro w' hS'
    obtain ⟨h0, h1, h2, h3, h4, h5, h6, h7, h8⟩ := hS'
    (try go_simp)
    first | done | exact rfl | exact ⟨rfl, rfl⟩
  (try simp only [Act.put, qA, qB, qC, qD, qE, qF])
  refine tkO (i := 26) (v := ?_) rfl (Or.inl ⟨by rfl, ?_⟩) S0 ?_
  rotate_left
  · intro w' hS'
    obtain ⟨h0, h1, h2, h3, h4, h5, h6, h7, h8⟩ := hS'
    (try go_simp)
    first | done | exact rfl | exact ⟨rfl, rfl⟩
  (try simp only [Act.put, qA, qB, qC, qD, qE, qF])
  refine tkO (i := 27) (v := ?_) rfl (Or.inl ⟨by rfl, ?_⟩) S0 ?_
  rotate_left
  · intro w' hS'
    obtain ⟨h0, h1, h2, h3, h4, h5, h6, h7, h8⟩ := hS'
    (try go_simp)
    first | done | exact rfl | exact ⟨rfl, rfl⟩
  (try simp only [Act.put, qA, qB, qC, qD, qE, qF])
  refine tkO (i := 28) (v := ?_) rfl (Or.inl ⟨by rfl, ?_⟩) S0 ?_
  rotate_left
  · intro w' hS'
    obtain ⟨h0, h1, h2, h3, h4, h5, h6, h7, h8⟩ := hS'
    (try go_simp)
    first | done | exact rfl | exact ⟨rfl, rfl⟩
  (try simp only [Act.put, qA, qB, qC, qD, qE, qF])
  refine tkO (i := 29) (v := ?_) rfl (Or.inl ⟨by rfl, ?_⟩) S0 ?_
  rotate_left
  · intro w' hS'
    obtain ⟨h0, h1, h2, h3, h4, h5, h6, h7, h8⟩ := hS'
    (try go_simp)
    first | done | exact rfl | exact ⟨rfl, rfl⟩
  (try simp only [Act.put, qA, qB, qC, qD, qE, qF])
  refine tkO (i := 30) (v := ?_) rfl (Or.inl ⟨by rfl, ?_⟩) S0 ?_
  rotate_left
  · intro w' hS'
    obtain ⟨h0, h1, h2, h3, h4, h5, h6, h7, h8⟩ := hS'
    (try go_simp)
    first | done | exact rfl | exact ⟨rfl, rfl⟩
  (try simp only [Act.put, qA, qB, qC, qD, qE, qF])
  refine wpAnyN_done (by kernel_rfl) ?_ _
  clear S0
  go_wp2
  go_ret
  exact ⟨rfl, below_next B0.out (below_next BW.out (below_drew _))⟩

set_option maxHeartbeats 1000000 in
theorem call_reads (l : List Lf) (LA : Option Addr) (LC mb n fb fo ib io : Nat) (rg : Int) (x : Lo) (av dv : Value) (w : World) (hl : LfsIn w l (.slice LA l.length LC)) (hm : MapS w mb n (byN l)) (hr : w.cell? ⟨fb, fo + 1, none⟩ = some (.int .i64 rg))
    (hx : RowAt w ib io (loC x av dv)) (ht : x.tx.size ≤ maxLen) (ha : NosIn w x.args av) (hd : NosIn w x.dsts dv) (k : Nat) (hk : k < l.length) (hn : byN l x.tx.data.toList = some (k : Int)) (h1 : x.args.length = l[k].pa.length) (h2 : (x.dsts.length : Int) = l[k].an) (h3 : readsB rg x.args = false) :
    Calls Tryd.prog 33 #[.agg #[.slice LA l.length LC, .map (some mb), .pointer (some ⟨fb, fo, none⟩)], .pointer (some ⟨ib, io, none⟩)] w fun e w' => e = .returned (.bool false) ∧ Below w.heap.size w w' := by
  obtain ⟨ha0, AA, AC, rfl, ha1⟩ := ha.cells
  obtain ⟨hd0, DA, DC, rfl, hd1⟩ := hd.cells
  have HA : Hid (NosIn w x.args (.slice AA x.args.length AC)) := ha
  have HD : Hid (NosIn w x.dsts (.slice DA x.dsts.length DC)) := hd
  clear ha hd ha1 hd1 ha0 hd0
  have hlk : ∀ {w' : World}, MapS w' mb n (byN l) → (Instr.lookup 50 (.map (some mb)) (.string x.tx) true).run Tryd.prog w' = .ok (.tuple #[.int .i64 (k : Int), .bool true]) w' := fun h => by
    have := h.look2 (x := x.tx) ht
    rw [hn] at this
    exact this
  have hkz : (k : Int) < l.length := by omega
  obtain ⟨hl1, LA', LC', eL, hL⟩ := hl
  cases eL
  obtain ⟨lb, lo, cs, rfl, hrow, PV, BV, rfl, _, hpa, _⟩ := hL k hk
  obtain ⟨_, PA, PC, rfl, _⟩ := hpa.cells
  have hp := hrow.at 2 (v := .slice PA l[k].pa.length PC) rfl
  have hq := hrow.at 3 (v := .int .i64 l[k].an) rfl
  clear hrow hpa hL hl1
  generalize l[k] = g at *
  have g1 : ((x.args.length : Int) != g.pa.length) = false := by rw [bne_eq_false_iff_eq]; omega
  have g2 : ((x.dsts.length : Int) != g.an) = false := by rw [bne_eq_false_iff_eq]; omega
  have B0 : Hid (Below w.heap.size w (w.alloc (.cells #[.slice (some ⟨lb, lo, none⟩) l.length LC, .map (some mb), .pointer (some ⟨fb, fo, none⟩)] 62))) := below_alloc _ _
  have HS : Hid (∀ w', Below (w.alloc (.cells #[.slice (some ⟨lb, lo, none⟩) l.length LC, .map (some mb), .pointer (some ⟨fb, fo, none⟩)] 62)).heap.size (w.alloc (.cells #[.slice (some ⟨lb, lo, none⟩) l.length LC, .map (some mb), .pointer (some ⟨fb, fo, none⟩)] 62)) w' → w'.cell? ⟨w.heap.size, 0, none⟩ = some (.slice (some ⟨lb, lo, none⟩) l.length LC) ∧ w'.cell? ⟨w.heap.size, 1, none⟩ = some (.map (some mb)) ∧ w'.cell? ⟨w.heap.size, 2, none⟩ = some (.pointer (some ⟨fb, fo, none⟩)) ∧ w'.cell? ⟨ib, io + 5, none⟩ = some (.string x.tx) ∧ w'.cell? ⟨ib, io + 6, none⟩ = some (.slice AA x.args.length AC) ∧ w'.cell? ⟨ib, io + 7, none⟩ = some (.slice DA x.dsts.length DC) ∧ (Instr.lookup 50 (.map (some mb)) (.string x.tx) true).run Tryd.prog w' = .ok (.tuple #[.int .i64 (k : Int), .bool true]) w' ∧ w'.cell? ⟨lb, lo + k * 7 + 2, none⟩ = some (.slice PA g.pa.length PC) ∧ w'.cell? ⟨lb, lo + k * 7 + 3, none⟩ = some (.int .i64 g.an)) := fun w' hb => by
    have hb2 := below_next B0.out hb
    have hA := (At.new w #[.slice (some ⟨lb, lo, none⟩) l.length LC, .map (some mb), .pointer (some ⟨fb, fo, none⟩)] 62).below hb (by simp)
    exact ⟨hA.cell 0, hA.cell 1, hA.cell 2, kp_cell (hx.at 5 rfl) hb2, kp_cell (hx.at 6 rfl) hb2, kp_cell (hx.at 7 rfl) hb2, hlk (hm.below hb2), kp_cell hp hb2, kp_cell hq hb2⟩
  have HR : Hid (w.cell? ⟨fb, fo + 1, none⟩ = some (.int .i64 rg)) := hr
  clear hm hr hx ht hn hlk hp hq h1 h2
  go_enter Tryd.func33, Tryd.ntmps33
  go_wp2
  generalize w.alloc (.cells #[.slice (some ⟨lb, lo, none⟩) l.length LC, .map (some mb), .pointer (some ⟨fb, fo, none⟩)] 62) = w1 at *
  refine wp_region_N (fun w' => w'.cell? ⟨w.heap.size, 0, none⟩ = some (.slice (some ⟨lb, lo, none⟩) l.length LC) ∧ w'.cell? ⟨w.heap.size, 1, none⟩ = some (.map (some mb)) ∧ w'.cell? ⟨w.heap.size, 2, none⟩ = some (.pointer (some ⟨fb, fo, none⟩)) ∧ w'.cell? ⟨ib, io + 5, none⟩ = some (.string x.tx) ∧ w'.cell? ⟨ib, io + 6, none⟩ = some (.slice AA x.args.length AC) ∧ w'.cell? ⟨ib, io + 7, none⟩ = some (.slice DA x.dsts.length DC) ∧ (Instr.lookup 50 (.map (some mb)) (.string x.tx) true).run Tryd.prog w' = .ok (.tuple #[.int .i64 (k : Int), .bool true]) w' ∧ w'.cell? ⟨lb, lo + k * 7 + 2, none⟩ = some (.slice PA g.pa.length PC) ∧ w'.cell? ⟨lb, lo + k * 7 + 3, none⟩ = some (.int .i64 g.an)) (fun _ => true) mixed (HS.out _ (below_drew _)) ?_
  intro S0
  refine tkO (i := 0) (v := ?_) rfl (Or.inl ⟨by rfl, ?_⟩) S0 ?_
  rotate_left
  · intro w' hS'
    obtain ⟨h0, h1, h2, h3, h4, h5, h6, h7, h8⟩ := hS'
    (try go_simp)
    first | done | exact rfl | exact ⟨rfl, rfl⟩
  (try simp only [Act.put, qA, qC, qD, qE, qF])
  refine tkO (i := 1) (v := ?_) rfl (Or.inl ⟨by rfl, ?_⟩) S0 ?_
  rotate_left
  · intro w' hS'
    obtain ⟨h0, h1, h2, h3, h4, h5, h6, h7, h8⟩ := hS'
    (try go_simp)
    first | done | exact rfl | exact ⟨rfl, rfl⟩
  (try simp only [Act.put, qA, qB, qC, qD, qE, qF])
  refine tkO (i := 2) (v := ?_) rfl (Or.inl ⟨by rfl, ?_⟩) S0 ?_
  rotate_left
  · intro w' hS'
    obtain ⟨h0, h1, h2, h3, h4, h5, h6, h7, h8⟩ := hS'
    (try go_simp)
    first | done | exact rfl | exact ⟨rfl, rfl⟩
  (try simp only [Act.put, qA, qB, qC, qD, qE, qF])
  refine tkO (i := 3) (v := ?_) rfl (Or.inl ⟨by rfl, ?_⟩) S0 ?_
  rotate_left
  · intro w' hS'
    obtain ⟨h0, h1, h2, h3, h4, h5, h6, h7, h8⟩ := hS'
    (try go_simp)
    first | done | exact rfl | exact ⟨rfl, rfl⟩
  (try simp only [Act.put, qA, qB, qC, qD, qE, qF])
  refine tkO (i := 4) (v := ?_) rfl (Or.inl ⟨by rfl, ?_⟩) S0 ?_
  rotate_left
  · intro w' hS'
    obtain ⟨h0, h1, h2, h3, h4, h5, h6, h7, h8⟩ := hS'
    (try go_simp)
    first | done | exact rfl | exact ⟨rfl, rfl⟩
  (try simp only [Act.put, qA, qB, qC, qD, qE, qF])
  refine tkO (i := 5) (v := ?_) rfl (Or.inl ⟨by rfl, ?_⟩) S0 ?_
  rotate_left
  · intro w' hS'
    obtain ⟨h0, h1, h2, h3, h4, h5, h6, h7, h8⟩ := hS'
    (try go_simp)
    first | done | exact rfl | exact ⟨rfl, rfl⟩
  (try simp only [Act.put, qA, qB, qC, qD, qE, qF])
  refine tkO (i := 6) (v := ?_) rfl (Or.inl ⟨by rfl, ?_⟩) S0 ?_
  rotate_left
  · intro w' hS'
    obtain ⟨h0, h1, h2, h3, h4, h5, h6, h7, h8⟩ := hS'
    (try go_simp)
    first | done | exact rfl | exact ⟨rfl, rfl⟩
  (try simp only [Act.put, qA, qB, qC, qD, qE, qF])
  refine tkO (i := 7) (v := ?_) rfl (Or.inl ⟨by rfl, ?_⟩) S0 ?_
  rotate_left
  · intro w' hS'
    obtain ⟨h0, h1, h2, h3, h4, h5, h6, h7, h8⟩ := hS'
    (try go_simp)
    first | done | exact rfl | exact ⟨rfl, rfl⟩
  (try simp only [Act.put, qA, qB, qC, qD, qE, qF])
  refine tkO (i := 8) (v := ?_) rfl (Or.inl ⟨by rfl, ?_⟩) S0 ?_
  rotate_left
  · intro w' hS'
    obtain ⟨h0, h1, h2, h3, h4, h5, h6, h7, h8⟩ := hS'
    (try go_simp)
    first | done | exact rfl | exact ⟨rfl, rfl⟩
  (try simp only [Act.put, qA, qB, qC, qD, qE, qF])
  refine tkO (i := 9) (v := ?_) rfl (Or.inl ⟨by rfl, ?_⟩) S0 ?_
  rotate_left
  · intro w' hS'
    obtain ⟨h0, h1, h2, h3, h4, h5, h6, h7, h8⟩ := hS'
    (try go_simp)
    first | done | exact rfl | exact ⟨rfl, rfl⟩
  (try simp only [Act.put, qA, qB, qC, qD, qE, qF])
  refine tkO (i := 10) (v := ?_) rfl (Or.inl ⟨by rfl, ?_⟩) S0 ?_
  rotate_left
  · intro w' hS'
    obtain ⟨h0, h1, h2, h3, h4, h5, h6, h7, h8⟩ := hS'
    (try go_simp)
    first | done | exact rfl | exact ⟨rfl, rfl⟩
  (try simp only [Act.put, qA, qB, qC, qD, qE, qF])
  refine tkO (i := 11) (v := ?_) rfl (Or.inl ⟨by rfl, ?_⟩) S0 ?_
  rotate_left
  · intro w' hS'
    obtain ⟨h0, h1, h2, h3, h4, h5, h6, h7, h8⟩ := hS'
    (try go_simp)
    first | done | exact rfl | exact ⟨rfl, rfl⟩
  (try simp only [Act.put, qA, qB, qC, qD, qE, qF])
  refine wpAnyN_done (by kernel_rfl) ?_ _
  have BW : Hid (Below w1.heap.size w1 w1.drew) := below_drew _
  generalize w1.drew = w2 at *
  go_wp2
  refine wp_region_N (fun w' => w'.cell? ⟨w.heap.size, 0, none⟩ = some (.slice (some ⟨lb, lo, none⟩) l.length LC) ∧ w'.cell? ⟨w.heap.size, 1, none⟩ = some (.map (some mb)) ∧ w'.cell? ⟨w.heap.size, 2, none⟩ = some (.pointer (some ⟨fb, fo, none⟩)) ∧ w'.cell? ⟨ib, io + 5, none⟩ = some (.string x.tx) ∧ w'.cell? ⟨ib, io + 6, none⟩ = some (.slice AA x.args.length AC) ∧ w'.cell? ⟨ib, io + 7, none⟩ = some (.slice DA x.dsts.length DC) ∧ (Instr.lookup 50 (.map (some mb)) (.string x.tx) true).run Tryd.prog w' = .ok (.tuple #[.int .i64 (k : Int), .bool true]) w' ∧ w'.cell? ⟨lb, lo + k * 7 + 2, none⟩ = some (.slice PA g.pa.length PC) ∧ w'.cell? ⟨lb, lo + k * 7 + 3, none⟩ = some (.int .i64 g.an)) (fun _ => true) mixed (HS.out _ (below_next BW.out (below_drew _))) ?_
  intro S0
  refine tkO (i := 0) (v := ?_) rfl (Or.inl ⟨by rfl, ?_⟩) S0 ?_
  rotate_left
  · intro w' hS'
    obtain ⟨h0, h1, h2, h3, h4, h5, h6, h7, h8⟩ := hS'
    (try go_simp)
    first | done | exact rfl | exact ⟨rfl, rfl⟩
  (try simp only [Act.put, qA, qC, qD, qE, qF])
  refine tkO (i := 1) (v := ?_) rfl (Or.inl ⟨by rfl, ?_⟩) S0 ?_
  rotate_left
  · intro w' hS'
    obtain ⟨h0, h1, h2, h3, h4, h5, h6, h7, h8⟩ := hS'
    (try go_simp)
    first | done | exact rfl | exact ⟨rfl, rfl⟩
  (try simp only [Act.put, qA, qB, qC, qD, qE, qF])
  refine tkO (i := 2) (v := ?_) rfl (Or.inl ⟨by rfl, ?_⟩) S0 ?_
  rotate_left
  · intro w' hS'
    obtain ⟨h0, h1, h2, h3, h4, h5, h6, h7, h8⟩ := hS'
    (try go_simp)
    first | done | exact rfl | exact ⟨rfl, rfl⟩
  (try simp only [Act.put, qA, qB, qC, qD, qE, qF])
  refine tkO (i := 3) (v := ?_) rfl (Or.inl ⟨by rfl, ?_⟩) S0 ?_
  rotate_left
  · intro w' hS'
    obtain ⟨h0, h1, h2, h3, h4, h5, h6, h7, h8⟩ := hS'
    (try go_simp)
    first | done | exact rfl | exact ⟨rfl, rfl⟩
  (try simp only [Act.put, qA, qB, qC, qD, qE, qF])
  refine tkO (i := 4) (v := ?_) rfl (Or.inl ⟨by rfl, ?_⟩) S0 ?_
  rotate_left
  · intro w' hS'
    obtain ⟨h0, h1, h2, h3, h4, h5, h6, h7, h8⟩ := hS'
    (try go_simp)
    first | done | exact rfl | exact ⟨rfl, rfl⟩
  (try simp only [Act.put, qA, qB, qC, qD, qE, qF])
  refine tkO (i := 5) (v := ?_) rfl (Or.inl ⟨by rfl, ?_⟩) S0 ?_
  rotate_left
  · intro w' hS'
    obtain ⟨h0, h1, h2, h3, h4, h5, h6, h7, h8⟩ := hS'
    (try go_simp)
    first | done | exact rfl | exact ⟨rfl, rfl⟩
  (try simp only [Act.put, qA, qB, qC, qD, qE, qF])
  refine tkO (i := 6) (v := ?_) rfl (Or.inl ⟨by rfl, ?_⟩) S0 ?_
  rotate_left
  · intro w' hS'
    obtain ⟨h0, h1, h2, h3, h4, h5, h6, h7, h8⟩ := hS'
    (try go_simp)
    first | done | exact rfl | exact ⟨rfl, rfl⟩
  (try simp only [Act.put, qA, qB, qC, qD, qE, qF])
  refine tkO (i := 7) (v := ?_) rfl (Or.inl ⟨by rfl, ?_⟩) S0 ?_
  rotate_left
  · intro w' hS'
    obtain ⟨h0, h1, h2, h3, h4, h5, h6, h7, h8⟩ := hS'
    (try go_simp)
    first | done | exact rfl | exact ⟨rfl, rfl⟩
  (try simp only [Act.put, qA, qB, qC, qD, qE, qF])
  refine tkO (i := 8) (v := ?_) rfl (Or.inl ⟨by rfl, ?_⟩) S0 ?_
  rotate_left
  · intro w' hS'
    obtain ⟨h0, h1, h2, h3, h4, h5, h6, h7, h8⟩ := hS'
    (try go_simp)
    first | done | exact rfl | exact ⟨rfl, rfl⟩
  (try simp only [Act.put, qA, qB, qC, qD, qE, qF])
  refine tkO (i := 9) (v := ?_) rfl (Or.inl ⟨by rfl, ?_⟩) S0 ?_
  rotate_left
  · intro w' hS'
    obtain ⟨h0, h1, h2, h3, h4, h5, h6, h7, h8⟩ := hS'
    (try go_simp)
    first | done | exact rfl | exact ⟨rfl, rfl⟩
  (try simp only [Act.put, qA, qB, qC, qD, qE, qF])
  refine tkO (i := 10) (v := ?_) rfl (Or.inl ⟨by rfl, ?_⟩) S0 ?_
  rotate_left
  · intro w' hS'
    obtain ⟨h0, h1, h2, h3, h4, h5, h6, h7, h8⟩ := hS'
    (try go_simp)
    first | done | exact rfl | exact ⟨rfl, rfl⟩
  (try simp only [Act.put, qA, qB, qC, qD, qE, qF])
  refine tkO (i := 11) (v := ?_) rfl (Or.inl ⟨by rfl, ?_⟩) S0 ?_
  rotate_left
  · intro w' hS'
    obtain ⟨h0, h1, h2, h3, h4, h5, h6, h7, h8⟩ := hS'
    (try go_simp)
    first | done | exact rfl | exact ⟨rfl, rfl⟩
  (try simp only [Act.put, qA, qB, qC, qD, qE, qF])
  refine tkO (i := 12) (v := ?_) rfl (Or.inl ⟨by rfl, ?_⟩) S0 ?_
  rotate_left
  · intro w' hS'
    obtain ⟨h0, h1, h2, h3, h4, h5, h6, h7, h8⟩ := hS'
    (try go_simp)
    first | done | exact rfl | exact ⟨rfl, rfl⟩
  (try simp only [Act.put, qA, qB, qC, qD, qE, qF])
  refine tkO (i := 13) (v := ?_) rfl (Or.inl ⟨by rfl, ?_⟩) S0 ?_
  rotate_left
  · intro w' hS'
    obtain ⟨h0, h1, h2, h3, h4, h5, h6, h7, h8⟩ := hS'
    (try go_simp)
    first | done | exact rfl | exact ⟨rfl, rfl⟩
  (try simp only [Act.put, qA, qB, qC, qD, qE, qF])
  refine tkO (i := 14) (v := ?_) rfl (Or.inl ⟨by rfl, ?_⟩) S0 ?_
  rotate_left
  · intro w' hS'
    obtain ⟨h0, h1, h2, h3, h4, h5, h6, h7, h8⟩ := hS'
    (try go_simp)
    first | done | exact rfl | exact ⟨rfl, rfl⟩
  (try simp only [Act.put, qA, qB, qC, qD, qE, qF])
  refine tkO (i := 15) (v := ?_) rfl (Or.inl ⟨by rfl, ?_⟩) S0 ?_
  rotate_left
  · intro w' hS'
    obtain ⟨h0, h1, h2, h3, h4, h5, h6, h7, h8⟩ := hS'
    (try go_simp)
    first | done | exact rfl | exact ⟨rfl, rfl⟩
  (try simp only [Act.put, qA, qB, qC, qD, qE, qF])
  refine tkO (i := 16) (v := ?_) rfl (Or.inl ⟨by rfl, ?_⟩) S0 ?_
  rotate_left
  · intro w' hS'
    obtain ⟨h0, h1, h2, h3, h4, h5, h6, h7, h8⟩ := hS'
    (try go_simp)
    first | done | exact rfl | exact ⟨rfl, rfl⟩
  (try simp only [Act.put, qA, qB, qC, qD, qE, qF])
  refine tkO (i := 17) (v := ?_) rfl (Or.inl ⟨by rfl, ?_⟩) S0 ?_
  rotate_left
  · intro w' hS'
    obtain ⟨h0, h1, h2, h3, h4, h5, h6, h7, h8⟩ := hS'
    (try go_simp)
    first | done | exact rfl | exact ⟨rfl, rfl⟩
  (try simp only [Act.put, qA, qB, qC, qD, qE, qF])
  refine tkO (i := 18) (v := ?_) rfl (Or.inl ⟨by rfl, ?_⟩) S0 ?_
  rotate_left
  · intro w' hS'
    obtain ⟨h0, h1, h2, h3, h4, h5, h6, h7, h8⟩ := hS'
    (try go_simp)
    first | done | exact rfl | exact ⟨rfl, rfl⟩
  (try simp only [Act.put, qA, qB, qC, qD, qE, qF])
  refine tkO (i := 19) (v := ?_) rfl (Or.inl ⟨by rfl, ?_⟩) S0 ?_
  rotate_left
  · intro w' hS'
    obtain ⟨h0, h1, h2, h3, h4, h5, h6, h7, h8⟩ := hS'
    (try go_simp)
    first | done | exact rfl | exact ⟨rfl, rfl⟩
  (try simp only [Act.put, qA, qB, qC, qD, qE, qF])
  refine tkO (i := 20) (v := ?_) rfl (Or.inl ⟨by rfl, ?_⟩) S0 ?_
  rotate_left
  · intro w' hS'
    obtain ⟨h0, h1, h2, h3, h4, h5, h6, h7, h8⟩ := hS'
    (try go_simp)
    first | done | exact rfl | exact ⟨rfl, rfl⟩
  (try simp only [Act.put, qA, qB, qC, qD, qE, qF])
  refine tkO (i := 21) (v := ?_) rfl (Or.inl ⟨by rfl, ?_⟩) S0 ?_
  rotate_left
  · intro w' hS'
    obtain ⟨h0, h1, h2, h3, h4, h5, h6, h7, h8⟩ := hS'
    (try go_simp)
    first | done | exact rfl | exact ⟨rfl, rfl⟩
  (try simp only [Act.put, qA, qB, qC, qD, qE, qF])
  refine tkO (i := 22) (v := ?_) rfl (Or.inl ⟨by rfl, ?_⟩) S0 ?_
  rotate_left
  · intro w' hS'
    obtain ⟨h0, h1, h2, h3, h4, h5, h6, h7, h8⟩ := hS'
    (try go_simp)
    first | done | exact rfl | exact ⟨rfl, rfl⟩
  (try simp only [Act.put, qA, qB, qC, qD, qE, qF])
  refine tkO (i := 23) (v := ?_) rfl (Or.inl ⟨by rfl, ?_⟩) S0 ?_
  rotate_left
  · intro w' hS'
    obtain ⟨h0, h1, h2, h3, h4, h5, h6, h7, h8⟩ := hS'
    (try go_simp)
    first | done | exact rfl | exact ⟨rfl, rfl⟩
  (try simp only [Act.put, qA, qB, qC, qD, qE, qF])
  refine tkO (i := 24) (v := ?_) rfl (Or.inl ⟨by rfl, ?_⟩) S0 ?_
  rotate_left
  · intro w' hS'
    obtain ⟨h0, h1, h2, h3, h4, h5, h6, h7, h8⟩ := hS'
    (try go_simp)
    first | done | exact rfl | exact ⟨rfl, rfl⟩
  (try simp only [Act.put, qA, qB, qC, qD, qE, qF])
  refine tkO (i := 25) (v := ?_) rfl (Or.inl ⟨by rfl, ?_⟩) S0 ?_
  rotate_left
  · intro w' hS'
    obtain ⟨h0, h1, h2, h3, h4, h5, h6, h7, h8⟩ := hS'
    (try go_simp)
    first | done | exact rfl | exact ⟨rfl, rfl⟩
  (try simp only [Act.put, qA, qB, qC, qD, qE, qF])
  refine tkO (i := 26) (v := ?_) rfl (Or.inl ⟨by rfl, ?_⟩) S0 ?_
  rotate_left
  · intro w' hS'
    obtain ⟨h0, h1, h2, h3, h4, h5, h6, h7, h8⟩ := hS'
    (try go_simp)
    first | done | exact rfl | exact ⟨rfl, rfl⟩
  (try simp only [Act.put, qA, qB, qC, qD, qE, qF])
  refine tkO (i := 27) (v := ?_) rfl (Or.inl ⟨by rfl, ?_⟩) S0 ?_
  rotate_left
  · intro w' hS'
    obtain ⟨h0, h1, h2, h3, h4, h5, h6, h7, h8⟩ := hS'
    (try go_simp)
    first | done | exact rfl | exact ⟨rfl, rfl⟩
  (try simp only [Act.put, qA, qB, qC, qD, qE, qF])
  refine tkO (i := 28) (v := ?_) rfl (Or.inl ⟨by rfl, ?_⟩) S0 ?_
  rotate_left
  · intro w' hS'
    obtain ⟨h0, h1, h2, h3, h4, h5, h6, h7, h8⟩ := hS'
    (try go_simp)
    first | done | exact rfl | exact ⟨rfl, rfl⟩
  (try simp only [Act.put, qA, qB, qC, qD, qE, qF])
  refine tkO (i := 29) (v := ?_) rfl (Or.inl ⟨by rfl, ?_⟩) S0 ?_
  rotate_left
  · intro w' hS'
    obtain ⟨h0, h1, h2, h3, h4, h5, h6, h7, h8⟩ := hS'
    (try go_simp)
    first | done | exact rfl | exact ⟨rfl, rfl⟩
  (try simp only [Act.put, qA, qB, qC, qD, qE, qF])
  refine tkO (i := 30) (v := ?_) rfl (Or.inl ⟨by rfl, ?_⟩) S0 ?_
  rotate_left
  · intro w' hS'
    obtain ⟨h0, h1, h2, h3, h4, h5, h6, h7, h8⟩ := hS'
    (try go_simp)
    first | done | exact rfl | exact ⟨rfl, rfl⟩
  (try simp only [Act.put, qA, qB, qC, qD, qE, qF])
  refine wpAnyN_done (by kernel_rfl) ?_ _
  clear S0
  have BX : Hid (Below w1.heap.size w1 w2.drew) := below_next BW.out (below_drew _)
  generalize w2.drew = w3 at *
  go_wp2
  have BD : Below w1.heap.size w1 w3.drew := below_next BX.out (below_drew _)
  refine wp_region_N (fun w' => w'.cell? ⟨w.heap.size, 0, none⟩ = some (.slice (some ⟨lb, lo, none⟩) l.length LC) ∧ w'.cell? ⟨w.heap.size, 1, none⟩ = some (.map (some mb)) ∧ w'.cell? ⟨w.heap.size, 2, none⟩ = some (.pointer (some ⟨fb, fo, none⟩)) ∧ w'.cell? ⟨ib, io + 5, none⟩ = some (.string x.tx) ∧ w'.cell? ⟨ib, io + 6, none⟩ = some (.slice AA x.args.length AC) ∧ w'.cell? ⟨ib, io + 7, none⟩ = some (.slice DA x.dsts.length DC) ∧ (Instr.lookup 50 (.map (some mb)) (.string x.tx) true).run Tryd.prog w' = .ok (.tuple #[.int .i64 (k : Int), .bool true]) w' ∧ w'.cell? ⟨lb, lo + k * 7 + 2, none⟩ = some (.slice PA g.pa.length PC) ∧ w'.cell? ⟨lb, lo + k * 7 + 3, none⟩ = some (.int .i64 g.an)) (fun _ => true) mixed (HS.out _ BD) ?_
  intro S0
  refine tkO (i := 0) (v := ?_) rfl (Or.inl ⟨by rfl, ?_⟩) S0 ?_
  rotate_left
  · intro w' hS'
    obtain ⟨h0, h1, h2, h3, h4, h5, h6, h7, h8⟩ := hS'
    (try go_simp)
    first | done | exact rfl | exact ⟨rfl, rfl⟩
  (try simp only [Act.put, qA, qC, qD, qE, qF])
  refine tkO (i := 1) (v := ?_) rfl (Or.inl ⟨by rfl, ?_⟩) S0 ?_
  rotate_left
  · intro w' hS'
    obtain ⟨h0, h1, h2, h3, h4, h5, h6, h7, h8⟩ := hS'
    (try go_simp)
    first | done | exact rfl | exact ⟨rfl, rfl⟩
  (try simp only [Act.put, qA, qB, qC, qD, qE, qF])
  refine tkO (i := 2) (v := ?_) rfl (Or.inl ⟨by rfl, ?_⟩) S0 ?_
  rotate_left
  · intro w' hS'
    obtain ⟨h0, h1, h2, h3, h4, h5, h6, h7, h8⟩ := hS'
    (try go_simp)
    first | done | exact rfl | exact ⟨rfl, rfl⟩
  (try simp only [Act.put, qA, qB, qC, qD, qE, qF])
  refine tkO (i := 3) (v := ?_) rfl (Or.inl ⟨by rfl, ?_⟩) S0 ?_
  rotate_left
  · intro w' hS'
    obtain ⟨h0, h1, h2, h3, h4, h5, h6, h7, h8⟩ := hS'
    (try go_simp)
    first | done | exact rfl | exact ⟨rfl, rfl⟩
  (try simp only [Act.put, qA, qB, qC, qD, qE, qF])
  refine tkO (i := 4) (v := ?_) rfl (Or.inl ⟨by rfl, ?_⟩) S0 ?_
  rotate_left
  · intro w' hS'
    obtain ⟨h0, h1, h2, h3, h4, h5, h6, h7, h8⟩ := hS'
    (try go_simp)
    first | done | exact rfl | exact ⟨rfl, rfl⟩
  (try simp only [Act.put, qA, qB, qC, qD, qE, qF])
  refine wpAnyN_one (i := 5) (by kernel_rfl) rfl (fun K hK => ?_)
  go_simp
  (go_at_call 28; refine Calls.mono (reads_c _ _ fb fo rg _ _ _ (kp_cell HR.out (below_next B0.out BD)) (NosIn.below HA.out (below_next B0.out BD))) ?_; rintro e w15 ⟨rfl, hb5⟩)
  rw [h3]
  have BL : Below w1.heap.size w1 w15 := below_next BD hb5
  have S6 := HS.out _ BL
  go_wp2_with fail
  refine hK _ _ (fun _ => S6) ?_
  clear hK K
  (try simp only [Act.put, qA, qB, qC, qD, qE, qF])
  refine tkO (i := 6) (v := ?_) rfl (Or.inl ⟨by rfl, ?_⟩) S6 ?_
  rotate_left
  · intro w' hS'
    obtain ⟨h0, h1, h2, h3, h4, h5, h6, h7, h8⟩ := hS'
    (try go_simp)
    first | done | exact rfl | exact ⟨rfl, rfl⟩
  (try simp only [Act.put, qA, qB, qC, qD, qE, qF])
  refine wpAnyN_take (i := 7) (v := undef) rfl (by kernel_rfl) (by kernel_rfl) (by kernel_rfl) (by kernel_rfl) (fun _ _ _ h => h) (Or.inr ⟨by rfl, rfl⟩) S6 ?_
  (try simp only [Act.put, qA, qB, qC, qD, qE, qF])
  refine wpAnyN_take (i := 8) (v := undef) rfl (by kernel_rfl) (by kernel_rfl) (by kernel_rfl) (by kernel_rfl) (fun _ _ _ h => h) (Or.inr ⟨by rfl, rfl⟩) S6 ?_
  (try simp only [Act.put, qA, qB, qC, qD, qE, qF])
  refine wpAnyN_take (i := 9) (v := undef) rfl (by kernel_rfl) (by kernel_rfl) (by kernel_rfl) (by kernel_rfl) (fun _ _ _ h => h) (Or.inr ⟨by rfl, rfl⟩) S6 ?_
  (try simp only [Act.put, qA, qB, qC, qD, qE, qF])
  refine wpAnyN_take (i := 10) (v := undef) rfl (by kernel_rfl) (by kernel_rfl) (by kernel_rfl) (by kernel_rfl) (fun _ _ _ h => h) (Or.inr ⟨by rfl, rfl⟩) S6 ?_
  (try simp only [Act.put, qA, qB, qC, qD, qE, qF])
  refine wpAnyN_take (i := 11) (v := undef) rfl (by kernel_rfl) (by kernel_rfl) (by kernel_rfl) (by kernel_rfl) (fun _ _ _ h => h) (Or.inr ⟨by rfl, rfl⟩) S6 ?_
  (try simp only [Act.put, qA, qB, qC, qD, qE, qF])
  refine wpAnyN_take (i := 12) (v := undef) rfl (by kernel_rfl) (by kernel_rfl) (by kernel_rfl) (by kernel_rfl) (fun _ _ _ h => h) (Or.inr ⟨by rfl, rfl⟩) S6 ?_
  (try simp only [Act.put, qA, qB, qC, qD, qE, qF])
  refine tkO (i := 13) (v := ?_) rfl (Or.inl ⟨by rfl, ?_⟩) S6 ?_
  rotate_left
  · intro w' hS'
    obtain ⟨h0, h1, h2, h3, h4, h5, h6, h7, h8⟩ := hS'
    (try go_simp)
    first | done | exact rfl | exact ⟨rfl, rfl⟩
  (try simp only [Act.put, qA, qB, qC, qD, qE, qF])
  refine tkO (i := 14) (v := ?_) rfl (Or.inl ⟨by rfl, ?_⟩) S6 ?_
  rotate_left
  · intro w' hS'
    obtain ⟨h0, h1, h2, h3, h4, h5, h6, h7, h8⟩ := hS'
    (try go_simp)
    first | done | exact rfl | exact ⟨rfl, rfl⟩
  (try simp only [Act.put, qA, qB, qC, qD, qE, qF])
  refine wpAnyN_done (by kernel_rfl) ?_ _
  have BE : Hid (Below w.heap.size w w15) := below_next B0.out BL
  clear S0 S6 BL BD
  go_wp2
  go_ret
  exact ⟨rfl, BE.out⟩

set_option maxHeartbeats 1000000 in
theorem call_sets (l : List Lf) (LA : Option Addr) (LC mb n fb fo ib io : Nat) (rg : Int) (x : Lo) (av dv : Value) (w : World) (hl : LfsIn w l (.slice LA l.length LC)) (hm : MapS w mb n (byN l)) (hr : w.cell? ⟨fb, fo + 1, none⟩ = some (.int .i64 rg))
    (hx : RowAt w ib io (loC x av dv)) (ht : x.tx.size ≤ maxLen) (ha : NosIn w x.args av) (hd : NosIn w x.dsts dv) (k : Nat) (hk : k < l.length) (hn : byN l x.tx.data.toList = some (k : Int)) (h1 : x.args.length = l[k].pa.length) (h2 : (x.dsts.length : Int) = l[k].an) (h3 : readsB rg x.args = true) :
    Calls Tryd.prog 33 #[.agg #[.slice LA l.length LC, .map (some mb), .pointer (some ⟨fb, fo, none⟩)], .pointer (some ⟨ib, io, none⟩)] w fun e w' => e = .returned (.bool (setsB rg x.dsts)) ∧ Below w.heap.size w w' := by
  obtain ⟨ha0, AA, AC, rfl, ha1⟩ := ha.cells
  obtain ⟨hd0, DA, DC, rfl, hd1⟩ := hd.cells
  have HA : Hid (NosIn w x.args (.slice AA x.args.length AC)) := ha
  have HD : Hid (NosIn w x.dsts (.slice DA x.dsts.length DC)) := hd
  clear ha hd ha1 hd1 ha0 hd0
  have hlk : ∀ {w' : World}, MapS w' mb n (byN l) → (Instr.lookup 50 (.map (some mb)) (.string x.tx) true).run Tryd.prog w' = .ok (.tuple #[.int .i64 (k : Int), .bool true]) w' := fun h => by
    have := h.look2 (x := x.tx) ht
    rw [hn] at this
    exact this
  have hkz : (k : Int) < l.length := by omega
  obtain ⟨hl1, LA', LC', eL, hL⟩ := hl
  cases eL
  obtain ⟨lb, lo, cs, rfl, hrow, PV, BV, rfl, _, hpa, _⟩ := hL k hk
  obtain ⟨_, PA, PC, rfl, _⟩ := hpa.cells
  have hp := hrow.at 2 (v := .slice PA l[k].pa.length PC) rfl
  have hq := hrow.at 3 (v := .int .i64 l[k].an) rfl
  clear hrow hpa hL hl1
  generalize l[k] = g at *
  have g1 : ((x.args.length : Int) != g.pa.length) = false := by rw [bne_eq_false_iff_eq]; omega
  have g2 : ((x.dsts.length : Int) != g.an) = false := by rw [bne_eq_false_iff_eq]; omega
  have B0 : Hid (Below w.heap.size w (w.alloc (.cells #[.slice (some ⟨lb, lo, none⟩) l.length LC, .map (some mb), .pointer (some ⟨fb, fo, none⟩)] 62))) := below_alloc _ _
  have HS : Hid (∀ w', Below (w.alloc (.cells #[.slice (some ⟨lb, lo, none⟩) l.length LC, .map (some mb), .pointer (some ⟨fb, fo, none⟩)] 62)).heap.size (w.alloc (.cells #[.slice (some ⟨lb, lo, none⟩) l.length LC, .map (some mb), .pointer (some ⟨fb, fo, none⟩)] 62)) w' → w'.cell? ⟨w.heap.size, 0, none⟩ = some (.slice (some ⟨lb, lo, none⟩) l.length LC) ∧ w'.cell? ⟨w.heap.size, 1, none⟩ = some (.map (some mb)) ∧ w'.cell? ⟨w.heap.size, 2, none⟩ = some (.pointer (some ⟨fb, fo, none⟩)) ∧ w'.cell? ⟨ib, io + 5, none⟩ = some (.string x.tx) ∧ w'.cell? ⟨ib, io + 6, none⟩ = some (.slice AA x.args.length AC) ∧ w'.cell? ⟨ib, io + 7, none⟩ = some (.slice DA x.dsts.length DC) ∧ (Instr.lookup 50 (.map (some mb)) (.string x.tx) true).run Tryd.prog w' = .ok (.tuple #[.int .i64 (k : Int), .bool true]) w' ∧ w'.cell? ⟨lb, lo + k * 7 + 2, none⟩ = some (.slice PA g.pa.length PC) ∧ w'.cell? ⟨lb, lo + k * 7 + 3, none⟩ = some (.int .i64 g.an)) := fun w' hb => by
    have hb2 := below_next B0.out hb
    have hA := (At.new w #[.slice (some ⟨lb, lo, none⟩) l.length LC, .map (some mb), .pointer (some ⟨fb, fo, none⟩)] 62).below hb (by simp)
    exact ⟨hA.cell 0, hA.cell 1, hA.cell 2, kp_cell (hx.at 5 rfl) hb2, kp_cell (hx.at 6 rfl) hb2, kp_cell (hx.at 7 rfl) hb2, hlk (hm.below hb2), kp_cell hp hb2, kp_cell hq hb2⟩
  have HR : Hid (w.cell? ⟨fb, fo + 1, none⟩ = some (.int .i64 rg)) := hr
  clear hm hr hx ht hn hlk hp hq h1 h2
  go_enter Tryd.func33, Tryd.ntmps33
  go_wp2
  generalize w.alloc (.cells #[.slice (some ⟨lb, lo, none⟩) l.length LC, .map (some mb), .pointer (some ⟨fb, fo, none⟩)] 62) = w1 at *
  refine wp_region_N (fun w' => w'.cell? ⟨w.heap.size, 0, none⟩ = some (.slice (some ⟨lb, lo, none⟩) l.length LC) ∧ w'.cell? ⟨w.heap.size, 1, none⟩ = some (.map (some mb)) ∧ w'.cell? ⟨w.heap.size, 2, none⟩ = some (.pointer (some ⟨fb, fo, none⟩)) ∧ w'.cell? ⟨ib, io + 5, none⟩ = some (.string x.tx) ∧ w'.cell? ⟨ib, io + 6, none⟩ = some (.slice AA x.args.length AC) ∧ w'.cell? ⟨ib, io + 7, none⟩ = some (.slice DA x.dsts.length DC) ∧ (Instr.lookup 50 (.map (some mb)) (.string x.tx) true).run Tryd.prog w' = .ok (.tuple #[.int .i64 (k : Int), .bool true]) w' ∧ w'.cell? ⟨lb, lo + k * 7 + 2, none⟩ = some (.slice PA g.pa.length PC) ∧ w'.cell? ⟨lb, lo + k * 7 + 3, none⟩ = some (.int .i64 g.an)) (fun _ => true) mixed (HS.out _ (below_drew _)) ?_
  intro S0
  refine tkO (i := 0) (v := ?_) rfl (Or.inl ⟨by rfl, ?_⟩) S0 ?_
  rotate_left
  · intro w' hS'
    obtain ⟨h0, h1, h2, h3, h4, h5, h6, h7, h8⟩ := hS'
    (try go_simp)
    first | done | exact rfl | exact ⟨rfl, rfl⟩
  (try simp only [Act.put, qA, qC, qD, qE, qF])
  refine tkO (i := 1) (v := ?_) rfl (Or.inl ⟨by rfl, ?_⟩) S0 ?_
  rotate_left
  · intro w' hS'
    obtain ⟨h0, h1, h2, h3, h4, h5, h6, h7, h8⟩ := hS'
    (try go_simp)
    first | done | exact rfl | exact ⟨rfl, rfl⟩
  (try simp only [Act.put, qA, qB, qC, qD, qE, qF])
  refine tkO (i := 2) (v := ?_) rfl (Or.inl ⟨by rfl, ?_⟩) S0 ?_
  rotate_left
  · intro w' hS'
    obtain ⟨h0, h1, h2, h3, h4, h5, h6, h7, h8⟩ := hS'
    (try go_simp)
    first | done | exact rfl | exact ⟨rfl, rfl⟩
  (try simp only [Act.put, qA, qB, qC, qD, qE, qF])
  refine tkO (i := 3) (v := ?_) rfl (Or.inl ⟨by rfl, ?_⟩) S0 ?_
  rotate_left
  · intro w' hS'
    obtain ⟨h0, h1, h2, h3, h4, h5, h6, h7, h8⟩ := hS'
    (try go_simp)
    first | done | exact rfl | exact ⟨rfl, rfl⟩
  (try simp only [Act.put, qA, qB, qC, qD, qE, qF])
  refine tkO (i := 4) (v := ?_) rfl (Or.inl ⟨by rfl, ?_⟩) S0 ?_
  rotate_left
  · intro w' hS'
    obtain ⟨h0, h1, h2, h3, h4, h5, h6, h7, h8⟩ := hS'
    (try go_simp)
    first | done | exact rfl | exact ⟨rfl, rfl⟩
  (try simp only [Act.put, qA, qB, qC, qD, qE, qF])
  refine tkO (i := 5) (v := ?_) rfl (Or.inl ⟨by rfl, ?_⟩) S0 ?_
  rotate_left
  · intro w' hS'
    obtain ⟨h0, h1, h2, h3, h4, h5, h6, h7, h8⟩ := hS'
    (try go_simp)
    first | done | exact rfl | exact ⟨rfl, rfl⟩
  (try simp only [Act.put, qA, qB, qC, qD, qE, qF])
  refine tkO (i := 6) (v := ?_) rfl (Or.inl ⟨by rfl, ?_⟩) S0 ?_
  rotate_left
  · intro w' hS'
    obtain ⟨h0, h1, h2, h3, h4, h5, h6, h7, h8⟩ := hS'
    (try go_simp)
    first | done | exact rfl | exact ⟨rfl, rfl⟩
  (try simp only [Act.put, qA, qB, qC, qD, qE, qF])
  refine tkO (i := 7) (v := ?_) rfl (Or.inl ⟨by rfl, ?_⟩) S0 ?_
  rotate_left
  · intro w' hS'
    obtain ⟨h0, h1, h2, h3, h4, h5, h6, h7, h8⟩ := hS'
    (try go_simp)
    first | done | exact rfl | exact ⟨rfl, rfl⟩
  (try simp only [Act.put, qA, qB, qC, qD, qE, qF])
  refine tkO (i := 8) (v := ?_) rfl (Or.inl ⟨by rfl, ?_⟩) S0 ?_
  rotate_left
  · intro w' hS'
    obtain ⟨h0, h1, h2, h3, h4, h5, h6, h7, h8⟩ := hS'
    (try go_simp)
    first | done | exact rfl | exact ⟨rfl, rfl⟩
  (try simp only [Act.put, qA, qB, qC, qD, qE, qF])
  refine tkO (i := 9) (v := ?_) rfl (Or.inl ⟨by rfl, ?_⟩) S0 ?_
  rotate_left
  · intro w' hS'
    obtain ⟨h0, h1, h2, h3, h4, h5, h6, h7, h8⟩ := hS'
    (try go_simp)
    first | done | exact rfl | exact ⟨rfl, rfl⟩
  (try simp only [Act.put, qA, qB, qC, qD, qE, qF])
  refine tkO (i := 10) (v := ?_) rfl (Or.inl ⟨by rfl, ?_⟩) S0 ?_
  rotate_left
  · intro w' hS'
    obtain ⟨h0, h1, h2, h3, h4, h5, h6, h7, h8⟩ := hS'
    (try go_simp)
    first | done | exact rfl | exact ⟨rfl, rfl⟩
  (try simp only [Act.put, qA, qB, qC, qD, qE, qF])
  refine tkO (i := 11) (v := ?_) rfl (Or.inl ⟨by rfl, ?_⟩) S0 ?_
  rotate_left
  · intro w' hS'
    obtain ⟨h0, h1, h2, h3, h4, h5, h6, h7, h8⟩ := hS'
    (try go_simp)
    first | done | exact rfl | exact ⟨rfl, rfl⟩
  (try simp only [Act.put, qA, qB, qC, qD, qE, qF])
  refine wpAnyN_done (by kernel_rfl) ?_ _
  have BW : Hid (Below w1.heap.size w1 w1.drew) := below_drew _
  generalize w1.drew = w2 at *
  go_wp2
  refine wp_region_N (fun w' => w'.cell? ⟨w.heap.size, 0, none⟩ = some (.slice (some ⟨lb, lo, none⟩) l.length LC) ∧ w'.cell? ⟨w.heap.size, 1, none⟩ = some (.map (some mb)) ∧ w'.cell? ⟨w.heap.size, 2, none⟩ = some (.pointer (some ⟨fb, fo, none⟩)) ∧ w'.cell? ⟨ib, io + 5, none⟩ = some (.string x.tx) ∧ w'.cell? ⟨ib, io + 6, none⟩ = some (.slice AA x.args.length AC) ∧ w'.cell? ⟨ib, io + 7, none⟩ = some (.slice DA x.dsts.length DC) ∧ (Instr.lookup 50 (.map (some mb)) (.string x.tx) true).run Tryd.prog w' = .ok (.tuple #[.int .i64 (k : Int), .bool true]) w' ∧ w'.cell? ⟨lb, lo + k * 7 + 2, none⟩ = some (.slice PA g.pa.length PC) ∧ w'.cell? ⟨lb, lo + k * 7 + 3, none⟩ = some (.int .i64 g.an)) (fun _ => true) mixed (HS.out _ (below_next BW.out (below_drew _))) ?_
  intro S0
  refine tkO (i := 0) (v := ?_) rfl (Or.inl ⟨by rfl, ?_⟩) S0 ?_
  rotate_left
  · intro w' hS'
    obtain ⟨h0, h1, h2, h3, h4, h5, h6, h7, h8⟩ := hS'
    (try go_simp)
    first | done | exact rfl | exact ⟨rfl, rfl⟩
  (try simp only [Act.put, qA, qC, qD, qE, qF])
  refine tkO (i := 1) (v := ?_) rfl (Or.inl ⟨by rfl, ?_⟩) S0 ?_
  rotate_left
  · intro w' hS'
    obtain ⟨h0, h1, h2, h3, h4, h5, h6, h7, h8⟩ := hS'
    (try go_simp)
    first | done | exact rfl | exact ⟨rfl, rfl⟩
  (try simp only [Act.put, qA, qB, qC, qD, qE, qF])
  refine tkO (i := 2) (v := ?_) rfl (Or.inl ⟨by rfl, ?_⟩) S0 ?_
  rotate_left
  · intro w' hS'
    obtain ⟨h0, h1, h2, h3, h4, h5, h6, h7, h8⟩ := hS'
    (try go_simp)
    first | done | exact rfl | exact ⟨rfl, rfl⟩
  (try simp only [Act.put, qA, qB, qC, qD, qE, qF])
  refine tkO (i := 3) (v := ?_) rfl (Or.inl ⟨by rfl, ?_⟩) S0 ?_
  rotate_left
  · intro w' hS'
    obtain ⟨h0, h1, h2, h3, h4, h5, h6, h7, h8⟩ := hS'
    (try go_simp)
    first | done | exact rfl | exact ⟨rfl, rfl⟩
  (try simp only [Act.put, qA, qB, qC, qD, qE, qF])
  refine tkO (i := 4) (v := ?_) rfl (Or.inl ⟨by rfl, ?_⟩) S0 ?_
  rotate_left
  · intro w' hS'
    obtain ⟨h0, h1, h2, h3, h4, h5, h6, h7, h8⟩ := hS'
    (try go_simp)
    first | done | exact rfl | exact ⟨rfl, rfl⟩
  (try simp only [Act.put, qA, qB, qC, qD, qE, qF])
  refine tkO (i := 5) (v := ?_) rfl (Or.inl ⟨by rfl, ?_⟩) S0 ?_
  rotate_left
  · intro w' hS'
    obtain ⟨h0, h1, h2, h3, h4, h5, h6, h7, h8⟩ := hS'
    (try go_simp)
    first | done | exact rfl | exact ⟨rfl, rfl⟩
  (try simp only [Act.put, qA, qB, qC, qD, qE, qF])
  refine tkO (i := 6) (v := ?_) rfl (Or.inl ⟨by rfl, ?_⟩) S0 ?_
  rotate_left
  · intro w' hS'
    obtain ⟨h0, h1, h2, h3, h4, h5, h6, h7, h8⟩ := hS'
    (try go_simp)
    first | done | exact rfl | exact ⟨rfl, rfl⟩
  (try simp only [Act.put, qA, qB, qC, qD, qE, qF])
  refine tkO (i := 7) (v := ?_) rfl (Or.inl ⟨by rfl, ?_⟩) S0 ?_
  rotate_left
  · intro w' hS'
    obtain ⟨h0, h1, h2, h3, h4, h5, h6, h7, h8⟩ := hS'
    (try go_simp)
    first | done | exact rfl | exact ⟨rfl, rfl⟩
  (try simp only [Act.put, qA, qB, qC, qD, qE, qF])
  refine tkO (i := 8) (v := ?_) rfl (Or.inl ⟨by rfl, ?_⟩) S0 ?_
  rotate_left
  · intro w' hS'
    obtain ⟨h0, h1, h2, h3, h4, h5, h6, h7, h8⟩ := hS'
    (try go_simp)
    first | done | exact rfl | exact ⟨rfl, rfl⟩
  (try simp only [Act.put, qA, qB, qC, qD, qE, qF])
  refine tkO (i := 9) (v := ?_) rfl (Or.inl ⟨by rfl, ?_⟩) S0 ?_
  rotate_left
  · intro w' hS'
    obtain ⟨h0, h1, h2, h3, h4, h5, h6, h7, h8⟩ := hS'
    (try go_simp)
    first | done | exact rfl | exact ⟨rfl, rfl⟩
  (try simp only [Act.put, qA, qB, qC, qD, qE, qF])
  refine tkO (i := 10) (v := ?_) rfl (Or.inl ⟨by rfl, ?_⟩) S0 ?_
  rotate_left
  · intro w' hS'
    obtain ⟨h0, h1, h2, h3, h4, h5, h6, h7, h8⟩ := hS'
    (try go_simp)
    first | done | exact rfl | exact ⟨rfl, rfl⟩
  (try simp only [Act.put, qA, qB, qC, qD, qE, qF])
  refine tkO (i := 11) (v := ?_) rfl (Or.inl ⟨by rfl, ?_⟩) S0 ?_
  rotate_left
  · intro w' hS'
    obtain ⟨h0, h1, h2, h3, h4, h5, h6, h7, h8⟩ := hS'
    (try go_simp)
    first | done | exact rfl | exact ⟨rfl, rfl⟩
  (try simp only [Act.put, qA, qB, qC, qD, qE, qF])
  refine tkO (i := 12) (v := ?_) rfl (Or.inl ⟨by rfl, ?_⟩) S0 ?_
  rotate_left
  · intro w' hS'
    obtain ⟨h0, h1, h2, h3, h4, h5, h6, h7, h8⟩ := hS'
    (try go_simp)
    first | done | exact rfl | exact ⟨rfl, rfl⟩
  (try simp only [Act.put, qA, qB, qC, qD, qE, qF])
  refine tkO (i := 13) (v := ?_) rfl (Or.inl ⟨by rfl, ?_⟩) S0 ?_
  rotate_left
  · intro w' hS'
    obtain ⟨h0, h1, h2, h3, h4, h5, h6, h7, h8⟩ := hS'
    (try go_simp)
    first | done | exact rfl | exact ⟨rfl, rfl⟩
  (try simp only [Act.put, qA, qB, qC, qD, qE, qF])
  refine tkO (i := 14) (v := ?_) rfl (Or.inl ⟨by rfl, ?_⟩) S0 ?_
  rotate_left
  · intro w' hS'
    obtain ⟨h0, h1, h2, h3, h4, h5, h6, h7, h8⟩ := hS'
    (try go_simp)
    first | done | exact rfl | exact ⟨rfl, rfl⟩
  (try simp only [Act.put, qA, qB, qC, qD, qE, qF])
  refine tkO (i := 15) (v := ?_) rfl (Or.inl ⟨by rfl, ?_⟩) S0 ?_
  rotate_left
  · intro w' hS'
    obtain ⟨h0, h1, h2, h3, h4, h5, h6, h7, h8⟩ := hS'
    (try go_simp)
    first | done | exact rfl | exact ⟨rfl, rfl⟩
  (try simp only [Act.put, qA, qB, qC, qD, qE, qF])
  refine tkO (i := 16) (v := ?_) rfl (Or.inl ⟨by rfl, ?_⟩) S0 ?_
  rotate_left
  · intro w' hS'
    obtain ⟨h0, h1, h2, h3, h4, h5, h6, h7, h8⟩ := hS'
    (try go_simp)
    first | done | exact rfl | exact ⟨rfl, rfl⟩
  (try simp only [Act.put, qA, qB, qC, qD, qE, qF])
  refine tkO (i := 17) (v := ?_) rfl (Or.inl ⟨by rfl, ?_⟩) S0 ?_
  rotate_left
  · intro w' hS'
    obtain ⟨h0, h1, h2, h3, h4, h5, h6, h7, h8⟩ := hS'
    (try go_simp)
    first | done | exact rfl | exact ⟨rfl, rfl⟩
  (try simp only [Act.put, qA, qB, qC, qD, qE, qF])
  refine tkO (i := 18) (v := ?_) rfl (Or.inl ⟨by rfl, ?_⟩) S0 ?_
  rotate_left
  · intro w' hS'
    obtain ⟨h0, h1, h2, h3, h4, h5, h6, h7, h8⟩ := hS'
    (try go_simp)
    first | done | exact rfl | exact ⟨rfl, rfl⟩
  (try simp only [Act.put, qA, qB, qC, qD, qE, qF])
  refine tkO (i := 19) (v := ?_) rfl (Or.inl ⟨by rfl, ?_⟩) S0 ?_
  rotate_left
  · intro w' hS'
    obtain ⟨h0, h1, h2, h3, h4, h5, h6, h7, h8⟩ := hS'
    (try go_simp)
    first | done | exact rfl | exact ⟨rfl, rfl⟩
  (try simp only [Act.put, qA, qB, qC, qD, qE, qF])
  refine tkO (i := 20) (v := ?_) rfl (Or.inl ⟨by rfl, ?_⟩) S0 ?_
  rotate_left
  · intro w' hS'
    obtain ⟨h0, h1, h2, h3, h4, h5, h6, h7, h8⟩ := hS'
    (try go_simp)
    first | done | exact rfl | exact ⟨rfl, rfl⟩
  (try simp only [Act.put, qA, qB, qC, qD, qE, qF])
  refine tkO (i := 21) (v := ?_) rfl (Or.inl ⟨by rfl, ?_⟩) S0 ?_
  rotate_left
  · intro w' hS'
    obtain ⟨h0, h1, h2, h3, h4, h5, h6, h7, h8⟩ := hS'
    (try go_simp)
    first | done | exact rfl | exact ⟨rfl, rfl⟩
  (try simp only [Act.put, qA, qB, qC, qD, qE, qF])
  refine tkO (i := 22) (v := ?_) rfl (Or.inl ⟨by rfl, ?_⟩) S0 ?_
  rotate_left
  · intro w' hS'
    obtain ⟨h0, h1, h2, h3, h4, h5, h6, h7, h8⟩ := hS'
    (try go_simp)
    first | done | exact rfl | exact ⟨rfl, rfl⟩
  (try simp only [Act.put, qA, qB, qC, qD, qE, qF])
  refine tkO (i := 23) (v := ?_) rfl (Or.inl ⟨by rfl, ?_⟩) S0 ?_
  rotate_left
  · intro w' hS'
    obtain ⟨h0, h1, h2, h3, h4, h5, h6, h7, h8⟩ := hS'
    (try go_simp)
    first | done | exact rfl | exact ⟨rfl, rfl⟩
  (try simp only [Act.put, qA, qB, qC, qD, qE, qF])
  refine tkO (i := 24) (v := ?_) rfl (Or.inl ⟨by rfl, ?_⟩) S0 ?_
  rotate_left
  · intro w' hS'
    obtain ⟨h0, h1, h2, h3, h4, h5, h6, h7, h8⟩ := hS'
    (try go_simp)
    first | done | exact rfl | exact ⟨rfl, rfl⟩
  (try simp only [Act.put, qA, qB, qC, qD, qE, qF])
  refine tkO (i := 25) (v := ?_) rfl (Or.inl ⟨by rfl, ?_⟩) S0 ?_
  rotate_left
  · intro w' hS'
    obtain ⟨h0, h1, h2, h3, h4, h5, h6, h7, h8⟩ := hS'
    (try go_simp)
    first | done | exact rfl | exact ⟨rfl, rfl⟩
  (try simp only [Act.put, qA, qB, qC, qD, qE, qF])
  refine tkO (i := 26) (v := ?_) rfl (Or.inl ⟨by rfl, ?_⟩) S0 ?_
  rotate_left
  · intro w' hS'
    obtain ⟨h0, h1, h2, h3, h4, h5, h6, h7, h8⟩ := hS'
    (try go_simp)
    first | done | exact rfl | exact ⟨rfl, rfl⟩
  (try simp only [Act.put, qA, qB, qC, qD, qE, qF])
  refine tkO (i := 27) (v := ?_) rfl (Or.inl ⟨by rfl, ?_⟩) S0 ?_
  rotate_left
  · intro w' hS'
    obtain ⟨h0, h1, h2, h3, h4, h5, h6, h7, h8⟩ := hS'
    (try go_simp)
    first | done | exact rfl | exact ⟨rfl, rfl⟩
  (try simp only [Act.put, qA, qB, qC, qD, qE, qF])
  refine tkO (i := 28) (v := ?_) rfl (Or.inl ⟨by rfl, ?_⟩) S0 ?_
  rotate_left
  · intro w' hS'
    obtain ⟨h0, h1, h2, h3, h4, h5, h6, h7, h8⟩ := hS'
    (try go_simp)
    first | done | exact rfl | exact ⟨rfl, rfl⟩
  (try simp only [Act.put, qA, qB, qC, qD, qE, qF])
  refine tkO (i := 29) (v := ?_) rfl (Or.inl ⟨by rfl, ?_⟩) S0 ?_
  rotate_left
  · intro w' hS'
    obtain ⟨h0, h1, h2, h3, h4, h5, h6, h7, h8⟩ := hS'
    (try go_simp)
    first | done | exact rfl | exact ⟨rfl, rfl⟩
  (try simp only [Act.put, qA, qB, qC, qD, qE, qF])
  refine tkO (i := 30) (v := ?_) rfl (Or.inl ⟨by rfl, ?_⟩) S0 ?_
  rotate_left
  · intro w' hS'
    obtain ⟨h0, h1, h2, h3, h4, h5, h6, h7, h8⟩ := hS'
    (try go_simp)
    first | done | exact rfl | exact ⟨rfl, rfl⟩
  (try simp only [Act.put, qA, qB, qC, qD, qE, qF])
  refine wpAnyN_done (by kernel_rfl) ?_ _
  clear S0
  have BX : Hid (Below w1.heap.size w1 w2.drew) := below_next BW.out (below_drew _)
  generalize w2.drew = w3 at *
  go_wp2
  have BD : Below w1.heap.size w1 w3.drew := below_next BX.out (below_drew _)
  refine wp_region_N (fun w' => w'.cell? ⟨w.heap.size, 0, none⟩ = some (.slice (some ⟨lb, lo, none⟩) l.length LC) ∧ w'.cell? ⟨w.heap.size, 1, none⟩ = some (.map (some mb)) ∧ w'.cell? ⟨w.heap.size, 2, none⟩ = some (.pointer (some ⟨fb, fo, none⟩)) ∧ w'.cell? ⟨ib, io + 5, none⟩ = some (.string x.tx) ∧ w'.cell? ⟨ib, io + 6, none⟩ = some (.slice AA x.args.length AC) ∧ w'.cell? ⟨ib, io + 7, none⟩ = some (.slice DA x.dsts.length DC) ∧ (Instr.lookup 50 (.map (some mb)) (.string x.tx) true).run Tryd.prog w' = .ok (.tuple #[.int .i64 (k : Int), .bool true]) w' ∧ w'.cell? ⟨lb, lo + k * 7 + 2, none⟩ = some (.slice PA g.pa.length PC) ∧ w'.cell? ⟨lb, lo + k * 7 + 3, none⟩ = some (.int .i64 g.an)) (fun _ => true) mixed (HS.out _ BD) ?_
  intro S0
  refine tkO (i := 0) (v := ?_) rfl (Or.inl ⟨by rfl, ?_⟩) S0 ?_
  rotate_left
  · intro w' hS'
    obtain ⟨h0, h1, h2, h3, h4, h5, h6, h7, h8⟩ := hS'
    (try go_simp)
    first | done | exact rfl | exact ⟨rfl, rfl⟩
  (try simp only [Act.put, qA, qC, qD, qE, qF])
  refine tkO (i := 1) (v := ?_) rfl (Or.inl ⟨by rfl, ?_⟩) S0 ?_
  rotate_left
  · intro w' hS'
    obtain ⟨h0, h1, h2, h3, h4, h5, h6, h7, h8⟩ := hS'
    (try go_simp)
    first | done | exact rfl | exact ⟨rfl, rfl⟩
  (try simp only [Act.put, qA, qB, qC, qD, qE, qF])
  refine tkO (i := 2) (v := ?_) rfl (Or.inl ⟨by rfl, ?_⟩) S0 ?_
  rotate_left
  · intro w' hS'
    obtain ⟨h0, h1, h2, h3, h4, h5, h6, h7, h8⟩ := hS'
    (try go_simp)
    first | done | exact rfl | exact ⟨rfl, rfl⟩
  (try simp only [Act.put, qA, qB, qC, qD, qE, qF])
  refine tkO (i := 3) (v := ?_) rfl (Or.inl ⟨by rfl, ?_⟩) S0 ?_
  rotate_left
  · intro w' hS'
    obtain ⟨h0, h1, h2, h3, h4, h5, h6, h7, h8⟩ := hS'
    (try go_simp)
    first | done | exact rfl | exact ⟨rfl, rfl⟩
  (try simp only [Act.put, qA, qB, qC, qD, qE, qF])
  refine tkO (i := 4) (v := ?_) rfl (Or.inl ⟨by rfl, ?_⟩) S0 ?_
  rotate_left
  · intro w' hS'
    obtain ⟨h0, h1, h2, h3, h4, h5, h6, h7, h8⟩ := hS'
    (try go_simp)
    first | done | exact rfl | exact ⟨rfl, rfl⟩
  (try simp only [Act.put, qA, qB, qC, qD, qE, qF])
  refine wpAnyN_one (i := 5) (by kernel_rfl) rfl (fun K hK => ?_)
  go_simp
  (go_at_call 28; refine Calls.mono (reads_c _ _ fb fo rg _ _ _ (kp_cell HR.out (below_next B0.out BD)) (NosIn.below HA.out (below_next B0.out BD))) ?_; rintro e w15 ⟨rfl, hb5⟩)
  rw [h3]
  have BL : Below w1.heap.size w1 w15 := below_next BD hb5
  have S6 := HS.out _ BL
  go_wp2_with fail
  refine hK _ _ (fun _ => S6) ?_
  clear hK K
  (try simp only [Act.put, qA, qB, qC, qD, qE, qF])
  refine tkO (i := 6) (v := ?_) rfl (Or.inl ⟨by rfl, ?_⟩) S6 ?_
  rotate_left
  · intro w' hS'
    obtain ⟨h0, h1, h2, h3, h4, h5, h6, h7, h8⟩ := hS'
    (try go_simp)
    first | done | exact rfl | exact ⟨rfl, rfl⟩
  (try simp only [Act.put, qA, qB, qC, qD, qE, qF])
  refine tkO (i := 7) (v := ?_) rfl (Or.inl ⟨by rfl, ?_⟩) S6 ?_
  rotate_left
  · intro w' hS'
    obtain ⟨h0, h1, h2, h3, h4, h5, h6, h7, h8⟩ := hS'
    (try go_simp)
    first | done | exact rfl | exact ⟨rfl, rfl⟩
  (try simp only [Act.put, qA, qB, qC, qD, qE, qF])
  refine tkO (i := 8) (v := ?_) rfl (Or.inl ⟨by rfl, ?_⟩) S6 ?_
  rotate_left
  · intro w' hS'
    obtain ⟨h0, h1, h2, h3, h4, h5, h6, h7, h8⟩ := hS'
    (try go_simp)
    first | done | exact rfl | exact ⟨rfl, rfl⟩
  (try simp only [Act.put, qA, qB, qC, qD, qE, qF])
  refine tkO (i := 9) (v := ?_) rfl (Or.inl ⟨by rfl, ?_⟩) S6 ?_
  rotate_left
  · intro w' hS'
    obtain ⟨h0, h1, h2, h3, h4, h5, h6, h7, h8⟩ := hS'
    (try go_simp)
    first | done | exact rfl | exact ⟨rfl, rfl⟩
  (try simp only [Act.put, qA, qB, qC, qD, qE, qF])
  refine tkO (i := 10) (v := ?_) rfl (Or.inl ⟨by rfl, ?_⟩) S6 ?_
  rotate_left
  · intro w' hS'
    obtain ⟨h0, h1, h2, h3, h4, h5, h6, h7, h8⟩ := hS'
    (try go_simp)
    first | done | exact rfl | exact ⟨rfl, rfl⟩
  (try simp only [Act.put, qA, qB, qC, qD, qE, qF])
  refine tkO (i := 11) (v := ?_) rfl (Or.inl ⟨by rfl, ?_⟩) S6 ?_
  rotate_left
  · intro w' hS'
    obtain ⟨h0, h1, h2, h3, h4, h5, h6, h7, h8⟩ := hS'
    (try go_simp)
    first | done | exact rfl | exact ⟨rfl, rfl⟩
  (try simp only [Act.put, qA, qB, qC, qD, qE, qF])
  refine wpAnyN_one (i := 12) (by kernel_rfl) rfl (fun K hK => ?_)
  go_simp
  (go_at_call 21; refine Calls.mono (sets_c _ _ fb fo rg _ _ _ (kp_cell HR.out (below_next B0.out BL)) (NosIn.below HD.out (below_next B0.out BL))) ?_; rintro e w22 ⟨rfl, hb12⟩)
  skip
  have BL : Below w1.heap.size w1 w22 := below_next BL hb12
  have S13 := HS.out _ BL
  go_wp2_with fail
  refine hK _ _ (fun _ => S13) ?_
  clear hK K
  (try simp only [Act.put, qA, qB, qC, qD, qE, qF])
  refine tkO (i := 13) (v := ?_) rfl (Or.inl ⟨by rfl, ?_⟩) S13 ?_
  rotate_left
  · intro w' hS'
    obtain ⟨h0, h1, h2, h3, h4, h5, h6, h7, h8⟩ := hS'
    (try go_simp)
    first | done | exact rfl | exact ⟨rfl, rfl⟩
  (try simp only [Act.put, qA, qB, qC, qD, qE, qF])
  refine tkO (i := 14) (v := ?_) rfl (Or.inl ⟨by rfl, ?_⟩) S13 ?_
  rotate_left
  · intro w' hS'
    obtain ⟨h0, h1, h2, h3, h4, h5, h6, h7, h8⟩ := hS'
    (try go_simp)
    first | done | exact rfl | exact ⟨rfl, rfl⟩
  (try simp only [Act.put, qA, qB, qC, qD, qE, qF])
  refine wpAnyN_done (by kernel_rfl) ?_ _
  have BE : Hid (Below w.heap.size w w22) := below_next B0.out BL
  clear S0 S6 S13 BL BD
  go_wp2
  go_ret
  exact ⟨rfl, BE.out⟩

theorem call_c (l : List Lf) (LA : Option Addr) (LC mb n fb fo ib io : Nat) (rg : Int) (x : Lo) (av dv : Value) (w : World) (hl : LfsIn w l (.slice LA l.length LC)) (hm : MapS w mb n (byN l)) (hr : w.cell? ⟨fb, fo + 1, none⟩ = some (.int .i64 rg))
    (hx : RowAt w ib io (loC x av dv)) (ht : x.tx.size ≤ maxLen) (ha : NosIn w x.args av) (hd : NosIn w x.dsts dv) :
    Calls Tryd.prog 33 #[.agg #[.slice LA l.length LC, .map (some mb), .pointer (some ⟨fb, fo, none⟩)], .pointer (some ⟨ib, io, none⟩)] w fun e w' => e = .returned (.bool (callB l rg x)) ∧ Below w.heap.size w w' := by
  unfold callB
  cases hn : byN l x.tx.data.toList with
  | none => exact call_none l LA LC mb n fb fo ib io rg x av dv w hl hm hr hx ht ha hd hn
  | some z =>
    obtain ⟨k, rfl, hk, _⟩ := byN_some hn
    simp only [Int.toNat_natCast, List.getD_eq_getElem?_getD, List.getElem?_eq_getElem hk, Option.getD_some]
    by_cases h1 : x.args.length = l[k].pa.length
    · by_cases h2 : (x.dsts.length : Int) = l[k].an
      · cases h3 : readsB rg x.args with
        | false => simpa only [h1, h2, h3, decide_true, Bool.and_false, Bool.false_and] using call_reads l LA LC mb n fb fo ib io rg x av dv w hl hm hr hx ht ha hd k hk hn h1 h2 h3
        | true => simpa only [h1, h2, h3, decide_true, Bool.true_and, Bool.and_self] using call_sets l LA LC mb n fb fo ib io rg x av dv w hl hm hr hx ht ha hd k hk hn h1 h2 h3
      · rw [decide_eq_false h2]
        simpa only [Bool.and_false, Bool.false_and] using call_dsts l LA LC mb n fb fo ib io rg x av dv w hl hm hr hx ht ha hd k hk hn h1 h2
    · rw [decide_eq_false h1]
      simpa only [Bool.false_and] using call_params l LA LC mb n fb fo ib io rg x av dv w hl hm hr hx ht ha hd k hk hn h1

end Go.Proofs.YtapgaclonilnbaaDoor
