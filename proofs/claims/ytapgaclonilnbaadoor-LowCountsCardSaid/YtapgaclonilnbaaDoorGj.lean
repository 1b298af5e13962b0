/-
  Proved: what an instruction of kind 5s does to the machine.
-/
import Derived.Test.YtapgaclonilnbaaDoorGh
namespace Go.Proofs.YtapgaclonilnbaaDoor
open Go.RowKit
set_option linter.unusedVariables false
set_option linter.unusedSimpArgs false

section
variable {X : Cx} {m : Mc} {st : Int} {L : Ly} {w w' : World} {x : Lo} {ib io : Nat} {av dv : Value}

set_option maxRecDepth 20000 in
set_option maxHeartbeats 4000000 in
theorem ins_5s (h : MS X m st L w) (hx : RowAt X.wz ib io (loC x av dv)) (hop : x.op = 5) (hd : rgB m.nw.rg.length x.d = true) (ha : bgB m.nw.rg.length x.a = true) (hn : m.bl.length ≤ 1000) (hs : ∀ i j, i ≤ j → j ≤ m.bl.length → (callAt m i).ba ≤ (callAt m j).ba) (hb : ∀ i, i ≤ m.bl.length → 0 ≤ (callAt m i).ba) (p : Option Nat × Nat) (hq : atL m (farA m.nw x.a x.n) = some p) :
    Calls Tryd.prog 27 #[.pointer (some ⟨X.R, 0, none⟩), .pointer (some ⟨ib, io, none⟩)] w fun e w' => e = .returned (.tuple #[]) ∧ ∃ L, MS X (setN m x.d (ldL m p)) st L w' := by
  have c0 : w.cell? ⟨ib, io, none⟩ = some (.int .i64 5) := by
    have := (h.bz.cell (p := ⟨ib, io + 0, none⟩) hx.1).trans (hx.at 0 (v := .int .i64 x.op) rfl)
    rwa [hop] at this
  obtain ⟨pn, hpn⟩ : ∃ pn, pn = L.pb m.bl.length := ⟨_, rfl⟩
  have PN : Hid (pn = L.pb m.bl.length) := hpn
  have HS : Hid (SI X pn ib io x av dv w.drew) := (by rw [hpn]; exact (h.below (below_drew w)).si hx : SI X pn ib io x av dv w.drew)
  have HM : Hid (MS X m st L w.drew) := h.below (below_drew w)
  have d0 := rg_lt hd
  obtain ⟨ab, ao, hloc, hlp⟩ := loc_ptr X L p
  have hok := atL_ok hq
  have FA : Hid (Calls Tryd.prog 43 #[.pointer (some ⟨pn, 0, none⟩), .int .i64 x.a, .int .i64 x.n] w.drew fun e w' => e = .returned (.int .u32 (farA m.nw x.a x.n)) ∧ w' = w.drew) := (by rw [hpn]; exact far_c HM.out.now x.a x.n ha)
  have hfa := wh_in (wh (cw m.nw x.a) + wh x.n)
  have AT : Hid (Calls Tryd.prog 42 #[.pointer (some ⟨X.R, 0, none⟩), .int .u32 (farA m.nw x.a x.n)] w.drew fun e w' => e = .returned (.pointer (some ⟨ab, ao, none⟩)) ∧ Below w.drew.heap.size w.drew w') := (by have := at_c HM.out (farA m.nw x.a x.n) hfa.1 hfa.2 hn hs hb; rw [hq] at this; simp only [hloc] at this; exact this)
  clear hfa hn hs hb
  have LP : Hid (∀ w', MS X m st L w' → w'.cell? ⟨ab, ao, none⟩ = some (.int .i32 (ldL m p)) ∧ w'.frozen? ⟨ab, ao, none⟩ = false ∧ ∀ v, MS X (stL m v p) st L (w'.setCell ⟨ab, ao, none⟩ (.int .i32 v))) := fun w' hw => hlp m st w' hw hok
  clear hlp hok hloc hq
  generalize ldL m p = lv at *
  clear h hx hop hpn
  go_enter Tryd.func27, Tryd.ntmps27
  go_wp2
  refine wp_region_N (fun w' => SI X pn ib io x av dv w') (fun i => i != 25) mixedE (HS.out) ?_
  intro S0
  clear HS c0
  generalize w.drew = wq at *
  refine tkT (i := 0) (v := ?_) rfl (Or.inl ⟨by rfl, ?_⟩) S0 ?_
  rotate_left
  · intro w' hS'
    obtain ⟨h0, h1, h2, h3, h4, h5, h6, h7⟩ := hS'
    (try go_simp)
    first | done | exact rfl | exact ⟨rfl, rfl⟩
  (try simp only [Act.put, qA, qC, qD, qE, qF])
  refine tkT (i := 1) (v := ?_) rfl (Or.inl ⟨by rfl, ?_⟩) S0 ?_
  rotate_left
  · intro w' hS'
    obtain ⟨h0, h1, h2, h3, h4, h5, h6, h7⟩ := hS'
    (try go_simp)
    first | done | exact rfl | exact ⟨rfl, rfl⟩
  (try simp only [Act.put, qA, qB, qC, qD, qE, qF])
  refine tkT (i := 2) (v := ?_) rfl (Or.inl ⟨by rfl, ?_⟩) S0 ?_
  rotate_left
  · intro w' hS'
    obtain ⟨h0, h1, h2, h3, h4, h5, h6, h7⟩ := hS'
    (try go_simp)
    first | done | exact rfl | exact ⟨rfl, rfl⟩
  (try simp only [Act.put, qA, qB, qC, qD, qE, qF])
  refine tkT (i := 3) (v := ?_) rfl (Or.inl ⟨by rfl, ?_⟩) S0 ?_
  rotate_left
  · intro w' hS'
    obtain ⟨h0, h1, h2, h3, h4, h5, h6, h7⟩ := hS'
    (try go_simp)
    first | done | exact rfl | exact ⟨rfl, rfl⟩
  (try simp only [Act.put, qA, qB, qC, qD, qE, qF])
  refine tkT (i := 4) (v := ?_) rfl (Or.inl ⟨by rfl, ?_⟩) S0 ?_
  rotate_left
  · intro w' hS'
    obtain ⟨h0, h1, h2, h3, h4, h5, h6, h7⟩ := hS'
    (try go_simp)
    first | done | exact rfl | exact ⟨rfl, rfl⟩
  (try simp only [Act.put, qA, qB, qC, qD, qE, qF])
  refine tkT (i := 5) (v := ?_) rfl (Or.inl ⟨by rfl, ?_⟩) S0 ?_
  rotate_left
  · intro w' hS'
    obtain ⟨h0, h1, h2, h3, h4, h5, h6, h7⟩ := hS'
    (try go_simp)
    first | done | exact rfl | exact ⟨rfl, rfl⟩
  (try simp only [Act.put, qA, qB, qC, qD, qE, qF])
  refine tkT (i := 6) (v := ?_) rfl (Or.inl ⟨by rfl, ?_⟩) S0 ?_
  rotate_left
  · intro w' hS'
    obtain ⟨h0, h1, h2, h3, h4, h5, h6, h7⟩ := hS'
    (try go_simp)
    first | done | exact rfl | exact ⟨rfl, rfl⟩
  (try simp only [Act.put, qA, qB, qC, qD, qE, qF])
  refine tkT (i := 7) (v := ?_) rfl (Or.inl ⟨by rfl, ?_⟩) S0 ?_
  rotate_left
  · intro w' hS'
    obtain ⟨h0, h1, h2, h3, h4, h5, h6, h7⟩ := hS'
    (try go_simp)
    first | done | exact rfl | exact ⟨rfl, rfl⟩
  (try simp only [Act.put, qA, qB, qC, qD, qE, qF])
  refine tkT (i := 8) (v := ?_) rfl (Or.inl ⟨by rfl, ?_⟩) S0 ?_
  rotate_left
  · intro w' hS'
    obtain ⟨h0, h1, h2, h3, h4, h5, h6, h7⟩ := hS'
    (try go_simp)
    first | done | exact rfl | exact ⟨rfl, rfl⟩
  (try simp only [Act.put, qA, qB, qC, qD, qE, qF])
  refine tkT (i := 9) (v := ?_) rfl (Or.inl ⟨by rfl, ?_⟩) S0 ?_
  rotate_left
  · intro w' hS'
    obtain ⟨h0, h1, h2, h3, h4, h5, h6, h7⟩ := hS'
    (try go_simp)
    first | done | exact rfl | exact ⟨rfl, rfl⟩
  (try simp only [Act.put, qA, qB, qC, qD, qE, qF])
  refine tkT (i := 10) (v := ?_) rfl (Or.inl ⟨by rfl, ?_⟩) S0 ?_
  rotate_left
  · intro w' hS'
    obtain ⟨h0, h1, h2, h3, h4, h5, h6, h7⟩ := hS'
    (try go_simp)
    first | done | exact rfl | exact ⟨rfl, rfl⟩
  (try simp only [Act.put, qA, qB, qC, qD, qE, qF])
  refine tkT (i := 11) (v := ?_) rfl (Or.inl ⟨by rfl, ?_⟩) S0 ?_
  rotate_left
  · intro w' hS'
    obtain ⟨h0, h1, h2, h3, h4, h5, h6, h7⟩ := hS'
    (try go_simp)
    first | done | exact rfl | exact ⟨rfl, rfl⟩
  (try simp only [Act.put, qA, qB, qC, qD, qE, qF])
  refine tkT (i := 12) (v := ?_) rfl (Or.inl ⟨by rfl, ?_⟩) S0 ?_
  rotate_left
  · intro w' hS'
    obtain ⟨h0, h1, h2, h3, h4, h5, h6, h7⟩ := hS'
    (try go_simp)
    first | done | exact rfl | exact ⟨rfl, rfl⟩
  (try simp only [Act.put, qA, qB, qC, qD, qE, qF])
  refine tkT (i := 13) (v := ?_) rfl (Or.inl ⟨by rfl, ?_⟩) S0 ?_
  rotate_left
  · intro w' hS'
    obtain ⟨h0, h1, h2, h3, h4, h5, h6, h7⟩ := hS'
    (try go_simp)
    first | done | exact rfl | exact ⟨rfl, rfl⟩
  (try simp only [Act.put, qA, qB, qC, qD, qE, qF])
  refine tkT (i := 14) (v := ?_) rfl (Or.inl ⟨by rfl, ?_⟩) S0 ?_
  rotate_left
  · intro w' hS'
    obtain ⟨h0, h1, h2, h3, h4, h5, h6, h7⟩ := hS'
    (try go_simp)
    first | done | exact rfl | exact ⟨rfl, rfl⟩
  (try simp only [Act.put, qA, qB, qC, qD, qE, qF])
  refine tkT (i := 15) (v := ?_) rfl (Or.inl ⟨by rfl, ?_⟩) S0 ?_
  rotate_left
  · intro w' hS'
    obtain ⟨h0, h1, h2, h3, h4, h5, h6, h7⟩ := hS'
    (try go_simp)
    first | done | exact rfl | exact ⟨rfl, rfl⟩
  (try simp only [Act.put, qA, qB, qC, qD, qE, qF])
  refine tkT (i := 16) (v := ?_) rfl (Or.inl ⟨by rfl, ?_⟩) S0 ?_
  rotate_left
  · intro w' hS'
    obtain ⟨h0, h1, h2, h3, h4, h5, h6, h7⟩ := hS'
    (try go_simp)
    first | done | exact rfl | exact ⟨rfl, rfl⟩
  (try simp only [Act.put, qA, qB, qC, qD, qE, qF])
  refine tkT (i := 17) (v := ?_) rfl (Or.inl ⟨by rfl, ?_⟩) S0 ?_
  rotate_left
  · intro w' hS'
    obtain ⟨h0, h1, h2, h3, h4, h5, h6, h7⟩ := hS'
    (try go_simp)
    first | done | exact rfl | exact ⟨rfl, rfl⟩
  (try simp only [Act.put, qA, qB, qC, qD, qE, qF])
  refine tkT (i := 18) (v := ?_) rfl (Or.inl ⟨by rfl, ?_⟩) S0 ?_
  rotate_left
  · intro w' hS'
    obtain ⟨h0, h1, h2, h3, h4, h5, h6, h7⟩ := hS'
    (try go_simp)
    first | done | exact rfl | exact ⟨rfl, rfl⟩
  (try simp only [Act.put, qA, qB, qC, qD, qE, qF])
  refine tkT (i := 19) (v := ?_) rfl (Or.inl ⟨by rfl, ?_⟩) S0 ?_
  rotate_left
  · intro w' hS'
    obtain ⟨h0, h1, h2, h3, h4, h5, h6, h7⟩ := hS'
    (try go_simp)
    first | done | exact rfl | exact ⟨rfl, rfl⟩
  (try simp only [Act.put, qA, qB, qC, qD, qE, qF])
  refine tkT (i := 20) (v := ?_) rfl (Or.inl ⟨by rfl, ?_⟩) S0 ?_
  rotate_left
  · intro w' hS'
    obtain ⟨h0, h1, h2, h3, h4, h5, h6, h7⟩ := hS'
    (try go_simp)
    first | done | exact rfl | exact ⟨rfl, rfl⟩
  (try simp only [Act.put, qA, qB, qC, qD, qE, qF])
  refine wpAnyN_one (i := 21) (by kernel_rfl) rfl (fun K hK => ?_)
  go_simp
  refine Calls.mono (Hid.out FA) ?_
  rintro e w7 ⟨rfl, hw7⟩
  rw [hw7]
  clear hw7 w7
  go_wp2_with fail
  refine hK _ _ (fun _ => S0) ?_
  clear hK K
  (try simp only [Act.put, qA, qB, qC, qD, qE, qF])
  have S22 := S0
  refine wpAnyN_one (i := 22) (by kernel_rfl) rfl (fun K hK => ?_)
  go_simp
  refine Calls.mono (Hid.out AT) ?_
  rintro e w9 ⟨rfl, hb7⟩
  have Mw9 := HM.out.below hb7
  have S23 := S22.below hb7
  obtain ⟨c9, f9, -⟩ := LP.out _ Mw9
  have HM : Hid (MS X m st L w9) := Mw9
  clear hb7 Mw9
  go_wp2_with fail
  refine hK _ _ (fun _ => S23) ?_
  clear hK K
  (try simp only [Act.put, qA, qB, qC, qD, qE, qF])
  refine wpAnyN_one (i := 23) (by kernel_rfl) rfl (fun K hK => ?_)
  go_simp
  refine hK _ _ (fun _ => S23) ?_
  clear hK K
  (try simp only [Act.put, qA, qB, qC, qD, qE, qF])
  have S24 := S23
  refine wpAnyN_one (i := 24) (by kernel_rfl) rfl (fun K hK => ?_)
  go_simp
  refine hK _ _ (fun _ => S24) ?_
  clear hK K
  (try simp only [Act.put, qA, qB, qC, qD, qE, qF])
  have S25 := S24
  have SC : Hid (Calls Tryd.prog 25 #[.pointer (some ⟨pn, 0, none⟩), .int .i64 x.d, .int .i32 (lv)] w9 fun e w' => e = .returned (.tuple #[]) ∧ w' = w9.setCell ⟨L.rb m.bl.length, x.d.toNat, none⟩ (.int .i32 (lv))) := (by rw [PN.out]; exact set_c HM.out.now x.d _ d0.1 d0.2)
  refine wpAnyN_one (i := 25) (by kernel_rfl) rfl (fun K hK => ?_)
  go_simp
  refine Calls.mono SC.out ?_
  rintro e w7 ⟨rfl, hw7⟩
  rw [hw7]
  clear hw7 w7 SC
  go_wp2_with fail
  refine hK _ _ (fun h => by cases h) ?_
  clear hK K
  (try simp only [Act.put, qA, qB, qC, qD, qE, qF])
  have S26 := S25
  refine wpAnyN_done (by kernel_rfl) ?_ _
  go_wp2
  go_end0
  exact ⟨rfl, L, (by have := MS.reg (HM.out) x.d.toNat (show x.d.toNat < m.nw.rg.length by have := d0; omega) (lv); rwa [show ((x.d.toNat : Nat) : Int) = x.d by have := d0.1; omega] at this)⟩
end
end Go.Proofs.YtapgaclonilnbaaDoor

/-
  Proved: what an instruction of kind 6n does to the machine.
-/
namespace Go.Proofs.YtapgaclonilnbaaDoor
open Go.RowKit
set_option linter.unusedVariables false
set_option linter.unusedSimpArgs false

section
variable {X : Cx} {m : Mc} {st : Int} {L : Ly} {w w' : World} {x : Lo} {ib io : Nat} {av dv : Value}

set_option maxRecDepth 20000 in
set_option maxHeartbeats 4000000 in
theorem ins_6n (h : MS X m st L w) (hx : RowAt X.wz ib io (loC x av dv)) (hop : x.op = 6) (ha : bgB m.nw.rg.length x.a = true) (hn : m.bl.length ≤ 1000) (hs : ∀ i j, i ≤ j → j ≤ m.bl.length → (callAt m i).ba ≤ (callAt m j).ba) (hb : ∀ i, i ≤ m.bl.length → 0 ≤ (callAt m i).ba) (hq : atL m (farA m.nw x.a x.n) = none) :
    Calls Tryd.prog 27 #[.pointer (some ⟨X.R, 0, none⟩), .pointer (some ⟨ib, io, none⟩)] w fun e w' => e = .panicked [{ v := endV 4 0, recovered := false }] ∧ ∃ z nv L, z.out = m.out ∧ MX X z nv st L w' := by
  have c0 : w.cell? ⟨ib, io, none⟩ = some (.int .i64 6) := by
    have := (h.bz.cell (p := ⟨ib, io + 0, none⟩) hx.1).trans (hx.at 0 (v := .int .i64 x.op) rfl)
    rwa [hop] at this
  obtain ⟨pn, hpn⟩ : ∃ pn, pn = L.pb m.bl.length := ⟨_, rfl⟩
  have PN : Hid (pn = L.pb m.bl.length) := hpn
  have HS : Hid (SI X pn ib io x av dv w.drew) := (by rw [hpn]; exact (h.below (below_drew w)).si hx : SI X pn ib io x av dv w.drew)
  have HM : Hid (MS X m st L w.drew) := h.below (below_drew w)
  have FA : Hid (Calls Tryd.prog 43 #[.pointer (some ⟨pn, 0, none⟩), .int .i64 x.a, .int .i64 x.n] w.drew fun e w' => e = .returned (.int .u32 (farA m.nw x.a x.n)) ∧ w' = w.drew) := (by rw [hpn]; exact far_c HM.out.now x.a x.n ha)
  have hfa := wh_in (wh (cw m.nw x.a) + wh x.n)
  have AT : Hid (Calls Tryd.prog 42 #[.pointer (some ⟨X.R, 0, none⟩), .int .u32 (farA m.nw x.a x.n)] w.drew fun e w' => e = .panicked [{ v := endV 4 0, recovered := false }] ∧ Below w.drew.heap.size w.drew w') := (by have := at_c HM.out (farA m.nw x.a x.n) hfa.1 hfa.2 hn hs hb; rw [hq] at this; exact this)
  clear hfa hn hs hb
  clear hq
  clear h hx hop hpn
  go_enter Tryd.func27, Tryd.ntmps27
  go_wp2
  refine wp_region_N (fun w' => SI X pn ib io x av dv w') (fun i => i != 25) mixedE (HS.out) ?_
  intro S0
  clear HS c0
  generalize w.drew = wq at *
  refine tkT (i := 0) (v := ?_) rfl (Or.inl ⟨by rfl, ?_⟩) S0 ?_
  rotate_left
  · intro w' hS'
    obtain ⟨h0, h1, h2, h3, h4, h5, h6, h7⟩ := hS'
    (try go_simp)
    first | done | exact rfl | exact ⟨rfl, rfl⟩
  (try simp only [Act.put, qA, qC, qD, qE, qF])
  refine tkT (i := 1) (v := ?_) rfl (Or.inl ⟨by rfl, ?_⟩) S0 ?_
  rotate_left
  · intro w' hS'
    obtain ⟨h0, h1, h2, h3, h4, h5, h6, h7⟩ := hS'
    (try go_simp)
    first | done | exact rfl | exact ⟨rfl, rfl⟩
  (try simp only [Act.put, qA, qB, qC, qD, qE, qF])
  refine tkT (i := 2) (v := ?_) rfl (Or.inl ⟨by rfl, ?_⟩) S0 ?_
  rotate_left
  · intro w' hS'
    obtain ⟨h0, h1, h2, h3, h4, h5, h6, h7⟩ := hS'
    (try go_simp)
    first | done | exact rfl | exact ⟨rfl, rfl⟩
  (try simp only [Act.put, qA, qB, qC, qD, qE, qF])
  refine tkT (i := 3) (v := ?_) rfl (Or.inl ⟨by rfl, ?_⟩) S0 ?_
  rotate_left
  · intro w' hS'
    obtain ⟨h0, h1, h2, h3, h4, h5, h6, h7⟩ := hS'
    (try go_simp)
    first | done | exact rfl | exact ⟨rfl, rfl⟩
  (try simp only [Act.put, qA, qB, qC, qD, qE, qF])
  refine tkT (i := 4) (v := ?_) rfl (Or.inl ⟨by rfl, ?_⟩) S0 ?_
  rotate_left
  · intro w' hS'
    obtain ⟨h0, h1, h2, h3, h4, h5, h6, h7⟩ := hS'
    (try go_simp)
    first | done | exact rfl | exact ⟨rfl, rfl⟩
  (try simp only [Act.put, qA, qB, qC, qD, qE, qF])
  refine tkT (i := 5) (v := ?_) rfl (Or.inl ⟨by rfl, ?_⟩) S0 ?_
  rotate_left
  · intro w' hS'
    obtain ⟨h0, h1, h2, h3, h4, h5, h6, h7⟩ := hS'
    (try go_simp)
    first | done | exact rfl | exact ⟨rfl, rfl⟩
  (try simp only [Act.put, qA, qB, qC, qD, qE, qF])
  refine tkT (i := 6) (v := ?_) rfl (Or.inl ⟨by rfl, ?_⟩) S0 ?_
  rotate_left
  · intro w' hS'
    obtain ⟨h0, h1, h2, h3, h4, h5, h6, h7⟩ := hS'
    (try go_simp)
    first | done | exact rfl | exact ⟨rfl, rfl⟩
  (try simp only [Act.put, qA, qB, qC, qD, qE, qF])
  refine tkT (i := 7) (v := ?_) rfl (Or.inl ⟨by rfl, ?_⟩) S0 ?_
  rotate_left
  · intro w' hS'
    obtain ⟨h0, h1, h2, h3, h4, h5, h6, h7⟩ := hS'
    (try go_simp)
    first | done | exact rfl | exact ⟨rfl, rfl⟩
  (try simp only [Act.put, qA, qB, qC, qD, qE, qF])
  refine tkT (i := 8) (v := ?_) rfl (Or.inl ⟨by rfl, ?_⟩) S0 ?_
  rotate_left
  · intro w' hS'
    obtain ⟨h0, h1, h2, h3, h4, h5, h6, h7⟩ := hS'
    (try go_simp)
    first | done | exact rfl | exact ⟨rfl, rfl⟩
  (try simp only [Act.put, qA, qB, qC, qD, qE, qF])
  refine tkT (i := 9) (v := ?_) rfl (Or.inl ⟨by rfl, ?_⟩) S0 ?_
  rotate_left
  · intro w' hS'
    obtain ⟨h0, h1, h2, h3, h4, h5, h6, h7⟩ := hS'
    (try go_simp)
    first | done | exact rfl | exact ⟨rfl, rfl⟩
  (try simp only [Act.put, qA, qB, qC, qD, qE, qF])
  refine tkT (i := 10) (v := ?_) rfl (Or.inl ⟨by rfl, ?_⟩) S0 ?_
  rotate_left
  · intro w' hS'
    obtain ⟨h0, h1, h2, h3, h4, h5, h6, h7⟩ := hS'
    (try go_simp)
    first | done | exact rfl | exact ⟨rfl, rfl⟩
  (try simp only [Act.put, qA, qB, qC, qD, qE, qF])
  refine tkT (i := 11) (v := ?_) rfl (Or.inl ⟨by rfl, ?_⟩) S0 ?_
  rotate_left
  · intro w' hS'
    obtain ⟨h0, h1, h2, h3, h4, h5, h6, h7⟩ := hS'
    (try go_simp)
    first | done | exact rfl | exact ⟨rfl, rfl⟩
  (try simp only [Act.put, qA, qB, qC, qD, qE, qF])
  refine tkT (i := 12) (v := ?_) rfl (Or.inl ⟨by rfl, ?_⟩) S0 ?_
  rotate_left
  · intro w' hS'
    obtain ⟨h0, h1, h2, h3, h4, h5, h6, h7⟩ := hS'
    (try go_simp)
    first | done | exact rfl | exact ⟨rfl, rfl⟩
  (try simp only [Act.put, qA, qB, qC, qD, qE, qF])
  refine tkT (i := 15) (v := ?_) rfl (Or.inl ⟨by rfl, ?_⟩) S0 ?_
  rotate_left
  · intro w' hS'
    obtain ⟨h0, h1, h2, h3, h4, h5, h6, h7⟩ := hS'
    (try go_simp)
    first | done | exact rfl | exact ⟨rfl, rfl⟩
  (try simp only [Act.put, qA, qB, qC, qD, qE, qF])
  refine tkT (i := 16) (v := ?_) rfl (Or.inl ⟨by rfl, ?_⟩) S0 ?_
  rotate_left
  · intro w' hS'
    obtain ⟨h0, h1, h2, h3, h4, h5, h6, h7⟩ := hS'
    (try go_simp)
    first | done | exact rfl | exact ⟨rfl, rfl⟩
  (try simp only [Act.put, qA, qB, qC, qD, qE, qF])
  refine tkT (i := 17) (v := ?_) rfl (Or.inl ⟨by rfl, ?_⟩) S0 ?_
  rotate_left
  · intro w' hS'
    obtain ⟨h0, h1, h2, h3, h4, h5, h6, h7⟩ := hS'
    (try go_simp)
    first | done | exact rfl | exact ⟨rfl, rfl⟩
  (try simp only [Act.put, qA, qB, qC, qD, qE, qF])
  refine tkT (i := 18) (v := ?_) rfl (Or.inl ⟨by rfl, ?_⟩) S0 ?_
  rotate_left
  · intro w' hS'
    obtain ⟨h0, h1, h2, h3, h4, h5, h6, h7⟩ := hS'
    (try go_simp)
    first | done | exact rfl | exact ⟨rfl, rfl⟩
  (try simp only [Act.put, qA, qB, qC, qD, qE, qF])
  refine tkT (i := 19) (v := ?_) rfl (Or.inl ⟨by rfl, ?_⟩) S0 ?_
  rotate_left
  · intro w' hS'
    obtain ⟨h0, h1, h2, h3, h4, h5, h6, h7⟩ := hS'
    (try go_simp)
    first | done | exact rfl | exact ⟨rfl, rfl⟩
  (try simp only [Act.put, qA, qB, qC, qD, qE, qF])
  refine tkT (i := 20) (v := ?_) rfl (Or.inl ⟨by rfl, ?_⟩) S0 ?_
  rotate_left
  · intro w' hS'
    obtain ⟨h0, h1, h2, h3, h4, h5, h6, h7⟩ := hS'
    (try go_simp)
    first | done | exact rfl | exact ⟨rfl, rfl⟩
  (try simp only [Act.put, qA, qB, qC, qD, qE, qF])
  refine tkT (i := 21) (v := ?_) rfl (Or.inl ⟨by rfl, ?_⟩) S0 ?_
  rotate_left
  · intro w' hS'
    obtain ⟨h0, h1, h2, h3, h4, h5, h6, h7⟩ := hS'
    (try go_simp)
    first | done | exact rfl | exact ⟨rfl, rfl⟩
  (try simp only [Act.put, qA, qB, qC, qD, qE, qF])
  refine tkT (i := 22) (v := ?_) rfl (Or.inl ⟨by rfl, ?_⟩) S0 ?_
  rotate_left
  · intro w' hS'
    obtain ⟨h0, h1, h2, h3, h4, h5, h6, h7⟩ := hS'
    (try go_simp)
    first | done | exact rfl | exact ⟨rfl, rfl⟩
  (try simp only [Act.put, qA, qB, qC, qD, qE, qF])
  refine wpAnyN_one (i := 13) (by kernel_rfl) rfl (fun K hK => ?_)
  go_simp
  refine Calls.mono (Hid.out FA) ?_
  rintro e w7 ⟨rfl, hw7⟩
  rw [hw7]
  clear hw7 w7
  go_wp2_with fail
  refine hK _ _ (fun _ => S0) ?_
  clear hK K
  (try simp only [Act.put, qA, qB, qC, qD, qE, qF])
  have S14 := S0
  refine wpAnyN_one (i := 14) (by kernel_rfl) rfl (fun K hK => ?_)
  go_simp
  refine Calls.mono (AT.out) ?_
  rintro e w9 ⟨rfl, hb9⟩
  have hM9 := HM.out.below hb9
  exact ⟨rfl, rfl, _, _, _, (by rfl), MS.toX hM9⟩
end
end Go.Proofs.YtapgaclonilnbaaDoor

/-
  Proved: what an instruction of kind 6s does to the machine.
-/
namespace Go.Proofs.YtapgaclonilnbaaDoor
open Go.RowKit
set_option linter.unusedVariables false
set_option linter.unusedSimpArgs false

section
variable {X : Cx} {m : Mc} {st : Int} {L : Ly} {w w' : World} {x : Lo} {ib io : Nat} {av dv : Value}

set_option maxRecDepth 20000 in
set_option maxHeartbeats 4000000 in
theorem ins_6s (h : MS X m st L w) (hx : RowAt X.wz ib io (loC x av dv)) (hop : x.op = 6) (ha : bgB m.nw.rg.length x.a = true) (hn : m.bl.length ≤ 1000) (hs : ∀ i j, i ≤ j → j ≤ m.bl.length → (callAt m i).ba ≤ (callAt m j).ba) (hb : ∀ i, i ≤ m.bl.length → 0 ≤ (callAt m i).ba) (hrb : rdB m.nw.rg.length x.b = true) (p : Option Nat × Nat) (hq : atL m (farA m.nw x.a x.n) = some p) :
    Calls Tryd.prog 27 #[.pointer (some ⟨X.R, 0, none⟩), .pointer (some ⟨ib, io, none⟩)] w fun e w' => e = .returned (.tuple #[]) ∧ ∃ L, MS X (stL m (cw m.nw x.b) p) st L w' := by
  have c0 : w.cell? ⟨ib, io, none⟩ = some (.int .i64 6) := by
    have := (h.bz.cell (p := ⟨ib, io + 0, none⟩) hx.1).trans (hx.at 0 (v := .int .i64 x.op) rfl)
    rwa [hop] at this
  obtain ⟨pn, hpn⟩ : ∃ pn, pn = L.pb m.bl.length := ⟨_, rfl⟩
  have PN : Hid (pn = L.pb m.bl.length) := hpn
  have HS : Hid (SI X pn ib io x av dv w.drew) := (by rw [hpn]; exact (h.below (below_drew w)).si hx : SI X pn ib io x av dv w.drew)
  have HM : Hid (MS X m st L w.drew) := h.below (below_drew w)
  obtain ⟨ab, ao, hloc, hlp⟩ := loc_ptr X L p
  have hok := atL_ok hq
  have FA : Hid (Calls Tryd.prog 43 #[.pointer (some ⟨pn, 0, none⟩), .int .i64 x.a, .int .i64 x.n] w.drew fun e w' => e = .returned (.int .u32 (farA m.nw x.a x.n)) ∧ w' = w.drew) := (by rw [hpn]; exact far_c HM.out.now x.a x.n ha)
  have HB : Hid (bgB m.nw.rg.length x.b = true) := rdB_bg hrb
  have hfa := wh_in (wh (cw m.nw x.a) + wh x.n)
  have AT : Hid (Calls Tryd.prog 42 #[.pointer (some ⟨X.R, 0, none⟩), .int .u32 (farA m.nw x.a x.n)] w.drew fun e w' => e = .returned (.pointer (some ⟨ab, ao, none⟩)) ∧ Below w.drew.heap.size w.drew w') := (by have := at_c HM.out (farA m.nw x.a x.n) hfa.1 hfa.2 hn hs hb; rw [hq] at this; simp only [hloc] at this; exact this)
  clear hfa hn hs hb
  have LP : Hid (∀ w', MS X m st L w' → w'.cell? ⟨ab, ao, none⟩ = some (.int .i32 (ldL m p)) ∧ w'.frozen? ⟨ab, ao, none⟩ = false ∧ ∀ v, MS X (stL m v p) st L (w'.setCell ⟨ab, ao, none⟩ (.int .i32 v))) := fun w' hw => hlp m st w' hw hok
  clear hlp hok hloc hq
  clear h hx hop hpn
  go_enter Tryd.func27, Tryd.ntmps27
  go_wp2
  refine wp_region_N (fun w' => SI X pn ib io x av dv w') (fun i => i != 25) mixedE (HS.out) ?_
  intro S0
  clear HS c0
  generalize w.drew = wq at *
  refine tkT (i := 0) (v := ?_) rfl (Or.inl ⟨by rfl, ?_⟩) S0 ?_
  rotate_left
  · intro w' hS'
    obtain ⟨h0, h1, h2, h3, h4, h5, h6, h7⟩ := hS'
    (try go_simp)
    first | done | exact rfl | exact ⟨rfl, rfl⟩
  (try simp only [Act.put, qA, qC, qD, qE, qF])
  refine tkT (i := 1) (v := ?_) rfl (Or.inl ⟨by rfl, ?_⟩) S0 ?_
  rotate_left
  · intro w' hS'
    obtain ⟨h0, h1, h2, h3, h4, h5, h6, h7⟩ := hS'
    (try go_simp)
    first | done | exact rfl | exact ⟨rfl, rfl⟩
  (try simp only [Act.put, qA, qB, qC, qD, qE, qF])
  refine tkT (i := 2) (v := ?_) rfl (Or.inl ⟨by rfl, ?_⟩) S0 ?_
  rotate_left
  · intro w' hS'
    obtain ⟨h0, h1, h2, h3, h4, h5, h6, h7⟩ := hS'
    (try go_simp)
    first | done | exact rfl | exact ⟨rfl, rfl⟩
  (try simp only [Act.put, qA, qB, qC, qD, qE, qF])
  refine tkT (i := 3) (v := ?_) rfl (Or.inl ⟨by rfl, ?_⟩) S0 ?_
  rotate_left
  · intro w' hS'
    obtain ⟨h0, h1, h2, h3, h4, h5, h6, h7⟩ := hS'
    (try go_simp)
    first | done | exact rfl | exact ⟨rfl, rfl⟩
  (try simp only [Act.put, qA, qB, qC, qD, qE, qF])
  refine tkT (i := 4) (v := ?_) rfl (Or.inl ⟨by rfl, ?_⟩) S0 ?_
  rotate_left
  · intro w' hS'
    obtain ⟨h0, h1, h2, h3, h4, h5, h6, h7⟩ := hS'
    (try go_simp)
    first | done | exact rfl | exact ⟨rfl, rfl⟩
  (try simp only [Act.put, qA, qB, qC, qD, qE, qF])
  refine tkT (i := 5) (v := ?_) rfl (Or.inl ⟨by rfl, ?_⟩) S0 ?_
  rotate_left
  · intro w' hS'
    obtain ⟨h0, h1, h2, h3, h4, h5, h6, h7⟩ := hS'
    (try go_simp)
    first | done | exact rfl | exact ⟨rfl, rfl⟩
  (try simp only [Act.put, qA, qB, qC, qD, qE, qF])
  refine tkT (i := 6) (v := ?_) rfl (Or.inl ⟨by rfl, ?_⟩) S0 ?_
  rotate_left
  · intro w' hS'
    obtain ⟨h0, h1, h2, h3, h4, h5, h6, h7⟩ := hS'
    (try go_simp)
    first | done | exact rfl | exact ⟨rfl, rfl⟩
  (try simp only [Act.put, qA, qB, qC, qD, qE, qF])
  refine tkT (i := 7) (v := ?_) rfl (Or.inl ⟨by rfl, ?_⟩) S0 ?_
  rotate_left
  · intro w' hS'
    obtain ⟨h0, h1, h2, h3, h4, h5, h6, h7⟩ := hS'
    (try go_simp)
    first | done | exact rfl | exact ⟨rfl, rfl⟩
  (try simp only [Act.put, qA, qB, qC, qD, qE, qF])
  refine tkT (i := 8) (v := ?_) rfl (Or.inl ⟨by rfl, ?_⟩) S0 ?_
  rotate_left
  · intro w' hS'
    obtain ⟨h0, h1, h2, h3, h4, h5, h6, h7⟩ := hS'
    (try go_simp)
    first | done | exact rfl | exact ⟨rfl, rfl⟩
  (try simp only [Act.put, qA, qB, qC, qD, qE, qF])
  refine tkT (i := 9) (v := ?_) rfl (Or.inl ⟨by rfl, ?_⟩) S0 ?_
  rotate_left
  · intro w' hS'
    obtain ⟨h0, h1, h2, h3, h4, h5, h6, h7⟩ := hS'
    (try go_simp)
    first | done | exact rfl | exact ⟨rfl, rfl⟩
  (try simp only [Act.put, qA, qB, qC, qD, qE, qF])
  refine tkT (i := 10) (v := ?_) rfl (Or.inl ⟨by rfl, ?_⟩) S0 ?_
  rotate_left
  · intro w' hS'
    obtain ⟨h0, h1, h2, h3, h4, h5, h6, h7⟩ := hS'
    (try go_simp)
    first | done | exact rfl | exact ⟨rfl, rfl⟩
  (try simp only [Act.put, qA, qB, qC, qD, qE, qF])
  refine tkT (i := 11) (v := ?_) rfl (Or.inl ⟨by rfl, ?_⟩) S0 ?_
  rotate_left
  · intro w' hS'
    obtain ⟨h0, h1, h2, h3, h4, h5, h6, h7⟩ := hS'
    (try go_simp)
    first | done | exact rfl | exact ⟨rfl, rfl⟩
  (try simp only [Act.put, qA, qB, qC, qD, qE, qF])
  refine tkT (i := 12) (v := ?_) rfl (Or.inl ⟨by rfl, ?_⟩) S0 ?_
  rotate_left
  · intro w' hS'
    obtain ⟨h0, h1, h2, h3, h4, h5, h6, h7⟩ := hS'
    (try go_simp)
    first | done | exact rfl | exact ⟨rfl, rfl⟩
  (try simp only [Act.put, qA, qB, qC, qD, qE, qF])
  refine tkT (i := 15) (v := ?_) rfl (Or.inl ⟨by rfl, ?_⟩) S0 ?_
  rotate_left
  · intro w' hS'
    obtain ⟨h0, h1, h2, h3, h4, h5, h6, h7⟩ := hS'
    (try go_simp)
    first | done | exact rfl | exact ⟨rfl, rfl⟩
  (try simp only [Act.put, qA, qB, qC, qD, qE, qF])
  refine tkT (i := 16) (v := ?_) rfl (Or.inl ⟨by rfl, ?_⟩) S0 ?_
  rotate_left
  · intro w' hS'
    obtain ⟨h0, h1, h2, h3, h4, h5, h6, h7⟩ := hS'
    (try go_simp)
    first | done | exact rfl | exact ⟨rfl, rfl⟩
  (try simp only [Act.put, qA, qB, qC, qD, qE, qF])
  refine tkT (i := 17) (v := ?_) rfl (Or.inl ⟨by rfl, ?_⟩) S0 ?_
  rotate_left
  · intro w' hS'
    obtain ⟨h0, h1, h2, h3, h4, h5, h6, h7⟩ := hS'
    (try go_simp)
    first | done | exact rfl | exact ⟨rfl, rfl⟩
  (try simp only [Act.put, qA, qB, qC, qD, qE, qF])
  refine tkT (i := 18) (v := ?_) rfl (Or.inl ⟨by rfl, ?_⟩) S0 ?_
  rotate_left
  · intro w' hS'
    obtain ⟨h0, h1, h2, h3, h4, h5, h6, h7⟩ := hS'
    (try go_simp)
    first | done | exact rfl | exact ⟨rfl, rfl⟩
  (try simp only [Act.put, qA, qB, qC, qD, qE, qF])
  refine tkT (i := 19) (v := ?_) rfl (Or.inl ⟨by rfl, ?_⟩) S0 ?_
  rotate_left
  · intro w' hS'
    obtain ⟨h0, h1, h2, h3, h4, h5, h6, h7⟩ := hS'
    (try go_simp)
    first | done | exact rfl | exact ⟨rfl, rfl⟩
  (try simp only [Act.put, qA, qB, qC, qD, qE, qF])
  refine tkT (i := 20) (v := ?_) rfl (Or.inl ⟨by rfl, ?_⟩) S0 ?_
  rotate_left
  · intro w' hS'
    obtain ⟨h0, h1, h2, h3, h4, h5, h6, h7⟩ := hS'
    (try go_simp)
    first | done | exact rfl | exact ⟨rfl, rfl⟩
  (try simp only [Act.put, qA, qB, qC, qD, qE, qF])
  refine tkT (i := 21) (v := ?_) rfl (Or.inl ⟨by rfl, ?_⟩) S0 ?_
  rotate_left
  · intro w' hS'
    obtain ⟨h0, h1, h2, h3, h4, h5, h6, h7⟩ := hS'
    (try go_simp)
    first | done | exact rfl | exact ⟨rfl, rfl⟩
  (try simp only [Act.put, qA, qB, qC, qD, qE, qF])
  refine tkT (i := 22) (v := ?_) rfl (Or.inl ⟨by rfl, ?_⟩) S0 ?_
  rotate_left
  · intro w' hS'
    obtain ⟨h0, h1, h2, h3, h4, h5, h6, h7⟩ := hS'
    (try go_simp)
    first | done | exact rfl | exact ⟨rfl, rfl⟩
  (try simp only [Act.put, qA, qB, qC, qD, qE, qF])
  refine wpAnyN_one (i := 13) (by kernel_rfl) rfl (fun K hK => ?_)
  go_simp
  refine Calls.mono (Hid.out FA) ?_
  rintro e w7 ⟨rfl, hw7⟩
  rw [hw7]
  clear hw7 w7
  go_wp2_with fail
  refine hK _ _ (fun _ => S0) ?_
  clear hK K
  (try simp only [Act.put, qA, qB, qC, qD, qE, qF])
  have S14 := S0
  refine wpAnyN_one (i := 14) (by kernel_rfl) rfl (fun K hK => ?_)
  go_simp
  refine Calls.mono (Hid.out AT) ?_
  rintro e w9 ⟨rfl, hb7⟩
  have Mw9 := HM.out.below hb7
  have S15 := S14.below hb7
  obtain ⟨c9, f9, -⟩ := LP.out _ Mw9
  have HM : Hid (MS X m st L w9) := Mw9
  clear hb7 Mw9
  go_wp2_with fail
  refine hK _ _ (fun _ => S15) ?_
  clear hK K
  (try simp only [Act.put, qA, qB, qC, qD, qE, qF])
  have WB : Hid (Calls Tryd.prog 38 #[.pointer (some ⟨pn, 0, none⟩), .int .i64 x.b] w9 fun e w' => e = .returned (.int .i32 (cw m.nw x.b)) ∧ w' = w9) := (by rw [PN.out]; exact cword_c HM.out.now x.b HB.out)
  refine wpAnyN_one (i := 23) (by kernel_rfl) rfl (fun K hK => ?_)
  go_simp
  refine Calls.mono (Hid.out WB) ?_
  rintro e w7 ⟨rfl, hw7⟩
  rw [hw7]
  clear hw7 w7
  go_wp2_with fail
  refine hK _ _ (fun _ => S15) ?_
  clear hK K
  (try simp only [Act.put, qA, qB, qC, qD, qE, qF])
  have S24 := S15
  refine wpAnyN_one (i := 24) (by kernel_rfl) rfl (fun K hK => ?_)
  go_simp
  refine hK _ _ (fun _ => S24) ?_
  clear hK K
  (try simp only [Act.put, qA, qB, qC, qD, qE, qF])
  have S25 := S24
  refine wpAnyN_one (i := 25) (by kernel_rfl) rfl (fun K hK => ?_)
  go_simp
  refine hK _ _ (fun h => by cases h) ?_
  clear hK K
  (try simp only [Act.put, qA, qB, qC, qD, qE, qF])
  have S26 := S25
  refine wpAnyN_done (by kernel_rfl) ?_ _
  go_wp2
  go_end0
  exact ⟨rfl, L, (LP.out _ HM.out).2.2 _⟩
end
end Go.Proofs.YtapgaclonilnbaaDoor

/-
  Proved: what an instruction of kind 7 does to the machine.
-/
namespace Go.Proofs.YtapgaclonilnbaaDoor
open Go.RowKit
set_option linter.unusedVariables false
set_option linter.unusedSimpArgs false

section
variable {X : Cx} {m : Mc} {st : Int} {L : Ly} {w w' : World} {x : Lo} {ib io : Nat} {av dv : Value}

set_option maxRecDepth 20000 in
set_option maxHeartbeats 4000000 in
theorem ins_7 (h : MS X m st L w) (hx : RowAt X.wz ib io (loC x av dv)) (hop : x.op = 7) (htx : x.tx.size ≤ maxLen) (hargs : NosIn X.wz x.args av) (k : Nat) (hk : k < X.l.length) (hby : byN X.l x.tx.data.toList = some (k : Int)) (ha : ∀ r ∈ x.args, rdB m.nw.rg.length r = true) (rg fr : Nat) (hrgE : X.l[k].rg = (rg : Int)) (hfrE : X.l[k].fr = (fr : Int)) (hrg : rg ≤ 65536) (hfr : fr ≤ 65536) (hnf : m.nw.fr.length ≤ 65536) (hlen : X.l[k].pa.length = x.args.length) (hl8 : x.args.length ≤ 8) (hpa : ∀ r ∈ X.l[k].pa, 0 ≤ r ∧ r < rg) (q : Bool) (hq : X.l[k].qu = q) (hld : q = false → ¬ 48 ≤ m.ld) (hldb : -1000 ≤ m.ld ∧ m.ld ≤ 1000) (hn : m.bl.length + 1 < 392) :
    Calls Tryd.prog 27 #[.pointer (some ⟨X.R, 0, none⟩), .pointer (some ⟨ib, io, none⟩)] w fun e w' => e = .returned (.tuple #[]) ∧ ∃ L, MS X (⟨m.bl ++ [m.nw], setsR ⟨k, List.replicate rg 0, List.replicate fr 0, roomB m, 0, 0⟩ X.l[k].pa (x.args.map (cw m.nw)), m.us, m.wo, m.ip, m.out, if q then m.ld else m.ld + 1⟩) st L w' := by
  have c0 : w.cell? ⟨ib, io, none⟩ = some (.int .i64 7) := by
    have := (h.bz.cell (p := ⟨ib, io + 0, none⟩) hx.1).trans (hx.at 0 (v := .int .i64 x.op) rfl)
    rwa [hop] at this
  obtain ⟨pn, hpn⟩ : ∃ pn, pn = L.pb m.bl.length := ⟨_, rfl⟩
  have PN : Hid (pn = L.pb m.bl.length) := hpn
  have HS : Hid (SI X pn ib io x av dv w.drew) := (by rw [hpn]; exact (h.below (below_drew w)).si hx : SI X pn ib io x av dv w.drew)
  have HM : Hid (MS X m st L w.drew) := h.below (below_drew w)
  obtain ⟨_, lAA, lCC, elA, hlr⟩ := h.hl
  obtain ⟨fb0, fo, csx, hlA, -, -⟩ := hlr k hk
  cases elA
  have hfp : fpV X k = .pointer (some ⟨fb0, fo + k * 7, none⟩) := by rw [fpV, hlA]; rfl
  have HT : Hid (x.tx.size ≤ maxLen) := htx
  have BY : Hid (byN X.l x.tx.data.toList = some (k : Int)) := hby
  have hkz : (k : Int) < X.l.length := by omega
  have RL : Hid (X.R < w.drew.heap.size) := HM.out.rr.lt
  have HS7 : Hid (S7 X pn ib io x av dv w.drew) := ⟨HS.out, HM.out.rr.cell 0 (by omega), HM.out.rr.cell 1 (by omega), HM.out.mp.1⟩
  have AL : Hid (Calls Tryd.prog 40 #[.pointer (some ⟨pn, 0, none⟩), av] w.drew fun e w' => e = .returned (.slice (some ⟨w.drew.heap.size, 0, none⟩) x.args.length x.args.length) ∧ Below w.drew.heap.size w.drew w' ∧ WZ w' w.drew.heap.size x.args.length fun i => (x.args.map (cw m.nw)).getD i 0) := (by rw [hpn]; exact all_c HM.out.now x.args av (hargs.below HM.out.bz) (by omega) ha)
  obtain ⟨m2, hm2⟩ : ∃ m2 : Mc, m2 = ⟨m.bl ++ [m.nw], setsR ⟨k, List.replicate rg 0, List.replicate fr 0, roomB m, 0, 0⟩ X.l[k].pa (x.args.map (cw m.nw)), m.us, m.wo, m.ip, m.out, if q then m.ld else m.ld + 1⟩ := ⟨_, rfl⟩
  have EN : Hid (∀ w9, MS X m st L w9 → AIn X w9 (x.args.map (cw m.nw)) (.slice (some ⟨w.drew.heap.size, 0, none⟩) x.args.length x.args.length) → Calls Tryd.prog 18 #[.pointer (some ⟨X.R, 0, none⟩), .pointer (some ⟨fb0, fo + k * 7, none⟩), .slice (some ⟨w.drew.heap.size, 0, none⟩) x.args.length x.args.length] w9 fun e w' => e = .returned (.tuple #[]) ∧ ∃ L', MS X m2 st L' w') := fun w9 h9 ha9 => by
    rw [hm2, ← hfp]
    exact enter_ms h9 k hk rg fr hrgE hfrE hrg hfr hnf _ _ ha9 (by simpa using hlen) (by simpa using hl8) hpa q hq hld hldb hn
  rw [← hm2]
  clear hargs hby ha hrgE hfrE hrg hfr hnf hlen hl8 hpa hq hld hldb hn hm2 hfp htx hlr hk
  clear h hx hop hpn
  go_enter Tryd.func27, Tryd.ntmps27
  go_wp2
  refine wp_region_N (fun w' => S7 X pn ib io x av dv w') (fun i => i != 24) mixedE (HS7.out) ?_
  intro S0
  clear HS HS7 c0
  generalize w.drew = wq at *
  refine tkT (i := 0) (v := ?_) rfl (Or.inl ⟨by rfl, ?_⟩) S0 ?_
  rotate_left
  · intro w' hS'
    obtain ⟨⟨h0, h1, h2, h3, h4, h5, h6, h7⟩, h8, h9, h10⟩ := hS'
    have h11 := h10.look1 HT.out
    rw [BY.out] at h11
    simp only [Option.getD_some] at h11
    rw [hlA] at h8
    (try go_simp)
    first | done | exact rfl | exact ⟨rfl, rfl⟩
  (try simp only [Act.put, qA, qC, qD, qE, qF])
  refine tkT (i := 1) (v := ?_) rfl (Or.inl ⟨by rfl, ?_⟩) S0 ?_
  rotate_left
  · intro w' hS'
    obtain ⟨⟨h0, h1, h2, h3, h4, h5, h6, h7⟩, h8, h9, h10⟩ := hS'
    have h11 := h10.look1 HT.out
    rw [BY.out] at h11
    simp only [Option.getD_some] at h11
    rw [hlA] at h8
    (try go_simp)
    first | done | exact rfl | exact ⟨rfl, rfl⟩
  (try simp only [Act.put, qA, qB, qC, qD, qE, qF])
  refine tkT (i := 2) (v := ?_) rfl (Or.inl ⟨by rfl, ?_⟩) S0 ?_
  rotate_left
  · intro w' hS'
    obtain ⟨⟨h0, h1, h2, h3, h4, h5, h6, h7⟩, h8, h9, h10⟩ := hS'
    have h11 := h10.look1 HT.out
    rw [BY.out] at h11
    simp only [Option.getD_some] at h11
    rw [hlA] at h8
    (try go_simp)
    first | done | exact rfl | exact ⟨rfl, rfl⟩
  (try simp only [Act.put, qA, qB, qC, qD, qE, qF])
  refine tkT (i := 3) (v := ?_) rfl (Or.inl ⟨by rfl, ?_⟩) S0 ?_
  rotate_left
  · intro w' hS'
    obtain ⟨⟨h0, h1, h2, h3, h4, h5, h6, h7⟩, h8, h9, h10⟩ := hS'
    have h11 := h10.look1 HT.out
    rw [BY.out] at h11
    simp only [Option.getD_some] at h11
    rw [hlA] at h8
    (try go_simp)
    first | done | exact rfl | exact ⟨rfl, rfl⟩
  (try simp only [Act.put, qA, qB, qC, qD, qE, qF])
  refine tkT (i := 4) (v := ?_) rfl (Or.inl ⟨by rfl, ?_⟩) S0 ?_
  rotate_left
  · intro w' hS'
    obtain ⟨⟨h0, h1, h2, h3, h4, h5, h6, h7⟩, h8, h9, h10⟩ := hS'
    have h11 := h10.look1 HT.out
    rw [BY.out] at h11
    simp only [Option.getD_some] at h11
    rw [hlA] at h8
    (try go_simp)
    first | done | exact rfl | exact ⟨rfl, rfl⟩
  (try simp only [Act.put, qA, qB, qC, qD, qE, qF])
  refine tkT (i := 5) (v := ?_) rfl (Or.inl ⟨by rfl, ?_⟩) S0 ?_
  rotate_left
  · intro w' hS'
    obtain ⟨⟨h0, h1, h2, h3, h4, h5, h6, h7⟩, h8, h9, h10⟩ := hS'
    have h11 := h10.look1 HT.out
    rw [BY.out] at h11
    simp only [Option.getD_some] at h11
    rw [hlA] at h8
    (try go_simp)
    first | done | exact rfl | exact ⟨rfl, rfl⟩
  (try simp only [Act.put, qA, qB, qC, qD, qE, qF])
  refine tkT (i := 6) (v := ?_) rfl (Or.inl ⟨by rfl, ?_⟩) S0 ?_
  rotate_left
  · intro w' hS'
    obtain ⟨⟨h0, h1, h2, h3, h4, h5, h6, h7⟩, h8, h9, h10⟩ := hS'
    have h11 := h10.look1 HT.out
    rw [BY.out] at h11
    simp only [Option.getD_some] at h11
    rw [hlA] at h8
    (try go_simp)
    first | done | exact rfl | exact ⟨rfl, rfl⟩
  (try simp only [Act.put, qA, qB, qC, qD, qE, qF])
  refine tkT (i := 7) (v := ?_) rfl (Or.inl ⟨by rfl, ?_⟩) S0 ?_
  rotate_left
  · intro w' hS'
    obtain ⟨⟨h0, h1, h2, h3, h4, h5, h6, h7⟩, h8, h9, h10⟩ := hS'
    have h11 := h10.look1 HT.out
    rw [BY.out] at h11
    simp only [Option.getD_some] at h11
    rw [hlA] at h8
    (try go_simp)
    first | done | exact rfl | exact ⟨rfl, rfl⟩
  (try simp only [Act.put, qA, qB, qC, qD, qE, qF])
  refine tkT (i := 8) (v := ?_) rfl (Or.inl ⟨by rfl, ?_⟩) S0 ?_
  rotate_left
  · intro w' hS'
    obtain ⟨⟨h0, h1, h2, h3, h4, h5, h6, h7⟩, h8, h9, h10⟩ := hS'
    have h11 := h10.look1 HT.out
    rw [BY.out] at h11
    simp only [Option.getD_some] at h11
    rw [hlA] at h8
    (try go_simp)
    first | done | exact rfl | exact ⟨rfl, rfl⟩
  (try simp only [Act.put, qA, qB, qC, qD, qE, qF])
  refine tkT (i := 9) (v := ?_) rfl (Or.inl ⟨by rfl, ?_⟩) S0 ?_
  rotate_left
  · intro w' hS'
    obtain ⟨⟨h0, h1, h2, h3, h4, h5, h6, h7⟩, h8, h9, h10⟩ := hS'
    have h11 := h10.look1 HT.out
    rw [BY.out] at h11
    simp only [Option.getD_some] at h11
    rw [hlA] at h8
    (try go_simp)
    first | done | exact rfl | exact ⟨rfl, rfl⟩
  (try simp only [Act.put, qA, qB, qC, qD, qE, qF])
  refine tkT (i := 10) (v := ?_) rfl (Or.inl ⟨by rfl, ?_⟩) S0 ?_
  rotate_left
  · intro w' hS'
    obtain ⟨⟨h0, h1, h2, h3, h4, h5, h6, h7⟩, h8, h9, h10⟩ := hS'
    have h11 := h10.look1 HT.out
    rw [BY.out] at h11
    simp only [Option.getD_some] at h11
    rw [hlA] at h8
    (try go_simp)
    first | done | exact rfl | exact ⟨rfl, rfl⟩
  (try simp only [Act.put, qA, qB, qC, qD, qE, qF])
  refine tkT (i := 11) (v := ?_) rfl (Or.inl ⟨by rfl, ?_⟩) S0 ?_
  rotate_left
  · intro w' hS'
    obtain ⟨⟨h0, h1, h2, h3, h4, h5, h6, h7⟩, h8, h9, h10⟩ := hS'
    have h11 := h10.look1 HT.out
    rw [BY.out] at h11
    simp only [Option.getD_some] at h11
    rw [hlA] at h8
    (try go_simp)
    first | done | exact rfl | exact ⟨rfl, rfl⟩
  (try simp only [Act.put, qA, qB, qC, qD, qE, qF])
  refine tkT (i := 12) (v := ?_) rfl (Or.inl ⟨by rfl, ?_⟩) S0 ?_
  rotate_left
  · intro w' hS'
    obtain ⟨⟨h0, h1, h2, h3, h4, h5, h6, h7⟩, h8, h9, h10⟩ := hS'
    have h11 := h10.look1 HT.out
    rw [BY.out] at h11
    simp only [Option.getD_some] at h11
    rw [hlA] at h8
    (try go_simp)
    first | done | exact rfl | exact ⟨rfl, rfl⟩
  (try simp only [Act.put, qA, qB, qC, qD, qE, qF])
  refine tkT (i := 13) (v := ?_) rfl (Or.inl ⟨by rfl, ?_⟩) S0 ?_
  rotate_left
  · intro w' hS'
    obtain ⟨⟨h0, h1, h2, h3, h4, h5, h6, h7⟩, h8, h9, h10⟩ := hS'
    have h11 := h10.look1 HT.out
    rw [BY.out] at h11
    simp only [Option.getD_some] at h11
    rw [hlA] at h8
    (try go_simp)
    first | done | exact rfl | exact ⟨rfl, rfl⟩
  (try simp only [Act.put, qA, qB, qC, qD, qE, qF])
  refine tkT (i := 14) (v := ?_) rfl (Or.inl ⟨by rfl, ?_⟩) S0 ?_
  rotate_left
  · intro w' hS'
    obtain ⟨⟨h0, h1, h2, h3, h4, h5, h6, h7⟩, h8, h9, h10⟩ := hS'
    have h11 := h10.look1 HT.out
    rw [BY.out] at h11
    simp only [Option.getD_some] at h11
    rw [hlA] at h8
    (try go_simp)
    first | done | exact rfl | exact ⟨rfl, rfl⟩
  (try simp only [Act.put, qA, qB, qC, qD, qE, qF])
  refine tkT (i := 15) (v := ?_) rfl (Or.inl ⟨by rfl, ?_⟩) S0 ?_
  rotate_left
  · intro w' hS'
    obtain ⟨⟨h0, h1, h2, h3, h4, h5, h6, h7⟩, h8, h9, h10⟩ := hS'
    have h11 := h10.look1 HT.out
    rw [BY.out] at h11
    simp only [Option.getD_some] at h11
    rw [hlA] at h8
    (try go_simp)
    first | done | exact rfl | exact ⟨rfl, rfl⟩
  (try simp only [Act.put, qA, qB, qC, qD, qE, qF])
  refine tkT (i := 16) (v := ?_) rfl (Or.inl ⟨by rfl, ?_⟩) S0 ?_
  rotate_left
  · intro w' hS'
    obtain ⟨⟨h0, h1, h2, h3, h4, h5, h6, h7⟩, h8, h9, h10⟩ := hS'
    have h11 := h10.look1 HT.out
    rw [BY.out] at h11
    simp only [Option.getD_some] at h11
    rw [hlA] at h8
    (try go_simp)
    first | done | exact rfl | exact ⟨rfl, rfl⟩
  (try simp only [Act.put, qA, qB, qC, qD, qE, qF])
  refine tkT (i := 17) (v := ?_) rfl (Or.inl ⟨by rfl, ?_⟩) S0 ?_
  rotate_left
  · intro w' hS'
    obtain ⟨⟨h0, h1, h2, h3, h4, h5, h6, h7⟩, h8, h9, h10⟩ := hS'
    have h11 := h10.look1 HT.out
    rw [BY.out] at h11
    simp only [Option.getD_some] at h11
    rw [hlA] at h8
    (try go_simp)
    first | done | exact rfl | exact ⟨rfl, rfl⟩
  (try simp only [Act.put, qA, qB, qC, qD, qE, qF])
  refine tkT (i := 18) (v := ?_) rfl (Or.inl ⟨by rfl, ?_⟩) S0 ?_
  rotate_left
  · intro w' hS'
    obtain ⟨⟨h0, h1, h2, h3, h4, h5, h6, h7⟩, h8, h9, h10⟩ := hS'
    have h11 := h10.look1 HT.out
    rw [BY.out] at h11
    simp only [Option.getD_some] at h11
    rw [hlA] at h8
    (try go_simp)
    first | done | exact rfl | exact ⟨rfl, rfl⟩
  (try simp only [Act.put, qA, qB, qC, qD, qE, qF])
  refine tkT (i := 19) (v := ?_) rfl (Or.inl ⟨by rfl, ?_⟩) S0 ?_
  rotate_left
  · intro w' hS'
    obtain ⟨⟨h0, h1, h2, h3, h4, h5, h6, h7⟩, h8, h9, h10⟩ := hS'
    have h11 := h10.look1 HT.out
    rw [BY.out] at h11
    simp only [Option.getD_some] at h11
    rw [hlA] at h8
    (try go_simp)
    first | done | exact rfl | exact ⟨rfl, rfl⟩
  (try simp only [Act.put, qA, qB, qC, qD, qE, qF])
  refine tkT (i := 20) (v := ?_) rfl (Or.inl ⟨by rfl, ?_⟩) S0 ?_
  rotate_left
  · intro w' hS'
    obtain ⟨⟨h0, h1, h2, h3, h4, h5, h6, h7⟩, h8, h9, h10⟩ := hS'
    have h11 := h10.look1 HT.out
    rw [BY.out] at h11
    simp only [Option.getD_some] at h11
    rw [hlA] at h8
    (try go_simp)
    first | done | exact rfl | exact ⟨rfl, rfl⟩
  (try simp only [Act.put, qA, qB, qC, qD, qE, qF])
  refine tkT (i := 21) (v := ?_) rfl (Or.inl ⟨by rfl, ?_⟩) S0 ?_
  rotate_left
  · intro w' hS'
    obtain ⟨⟨h0, h1, h2, h3, h4, h5, h6, h7⟩, h8, h9, h10⟩ := hS'
    have h11 := h10.look1 HT.out
    rw [BY.out] at h11
    simp only [Option.getD_some] at h11
    rw [hlA] at h8
    (try go_simp)
    first | done | exact rfl | exact ⟨rfl, rfl⟩
  (try simp only [Act.put, qA, qB, qC, qD, qE, qF])
  refine tkT (i := 22) (v := ?_) rfl (Or.inl ⟨by rfl, ?_⟩) S0 ?_
  rotate_left
  · intro w' hS'
    obtain ⟨⟨h0, h1, h2, h3, h4, h5, h6, h7⟩, h8, h9, h10⟩ := hS'
    have h11 := h10.look1 HT.out
    rw [BY.out] at h11
    simp only [Option.getD_some] at h11
    rw [hlA] at h8
    (try go_simp)
    first | done | exact rfl | exact ⟨rfl, rfl⟩
  (try simp only [Act.put, qA, qB, qC, qD, qE, qF])
  refine wpAnyN_one (i := 23) (by kernel_rfl) rfl (fun K hK => ?_)
  go_simp
  refine Calls.mono AL.out ?_
  rintro e w9 ⟨rfl, hb7, hz7⟩
  have HM := HM.out.below hb7
  have S24 : S7 X pn ib io x av dv w9 := ⟨S0.1.below hb7, HM.rr.cell 0 (by omega), HM.rr.cell 1 (by omega), HM.mp.1⟩
  have EC := EN.out w9 HM ⟨some ⟨wq.heap.size, 0, none⟩, x.args.length, (by simp), fun i hi => ⟨wq.heap.size, 0, rfl, GZ.lt hz7, (by have := RL.out; omega), (by have hi2 : i < x.args.length := (by simpa using hi); have := GZ.cell hz7 i hi2; rw [Nat.zero_add]; rw [this]; simp [List.getD_eq_getElem?_getD, hi2])⟩⟩
  have EC : Hid (Calls Tryd.prog 18 #[.pointer (some ⟨X.R, 0, none⟩), .pointer (some ⟨fb0, fo + k * 7, none⟩), .slice (some ⟨wq.heap.size, 0, none⟩) x.args.length x.args.length] w9 fun e w' => e = .returned (.tuple #[]) ∧ ∃ L', MS X m2 st L' w') := EC
  clear hb7 hz7 HM EN RL
  go_wp2_with fail
  refine hK _ _ (fun _ => S24) ?_
  clear hK K
  (try simp only [Act.put, qA, qB, qC, qD, qE, qF])
  refine wpAnyN_one (i := 24) (by kernel_rfl) rfl (fun K hK => ?_)
  go_simp
  refine Calls.mono EC.out ?_
  rintro e w7 ⟨rfl, L7, hM⟩
  go_wp2_with fail
  refine hK _ _ (fun h => by cases h) ?_
  clear hK K
  (try simp only [Act.put, qA, qB, qC, qD, qE, qF])
  have S25 := S24
  refine wpAnyN_done (by kernel_rfl) ?_ _
  go_wp2
  go_end0
  exact ⟨rfl, L7, hM⟩
end
end Go.Proofs.YtapgaclonilnbaaDoor

/-
  Proved: what an instruction of kind 7f does to the machine.
-/
namespace Go.Proofs.YtapgaclonilnbaaDoor
open Go.RowKit
set_option linter.unusedVariables false
set_option linter.unusedSimpArgs false

section
variable {X : Cx} {m : Mc} {st : Int} {L : Ly} {w w' : World} {x : Lo} {ib io : Nat} {av dv : Value}

set_option maxRecDepth 20000 in
set_option maxHeartbeats 4000000 in
theorem ins_7f (h : MS X m st L w) (hx : RowAt X.wz ib io (loC x av dv)) (hop : x.op = 7) (htx : x.tx.size ≤ maxLen) (hargs : NosIn X.wz x.args av) (k : Nat) (hk : k < X.l.length) (hby : byN X.l x.tx.data.toList = some (k : Int)) (ha : ∀ r ∈ x.args, rdB m.nw.rg.length r = true) (hl8 : x.args.length ≤ 8) (q : Bool) (hq : X.l[k].qu = q) (hc : (q = false ∧ 48 ≤ m.ld) ∨ 392 ≤ m.bl.length + 1) :
    Calls Tryd.prog 27 #[.pointer (some ⟨X.R, 0, none⟩), .pointer (some ⟨ib, io, none⟩)] w fun e w' => e = .panicked [{ v := endV 2 0, recovered := false }] ∧ ∃ z nv L, z.out = m.out ∧ MX X z nv st L w' := by
  have c0 : w.cell? ⟨ib, io, none⟩ = some (.int .i64 7) := by
    have := (h.bz.cell (p := ⟨ib, io + 0, none⟩) hx.1).trans (hx.at 0 (v := .int .i64 x.op) rfl)
    rwa [hop] at this
  obtain ⟨pn, hpn⟩ : ∃ pn, pn = L.pb m.bl.length := ⟨_, rfl⟩
  have PN : Hid (pn = L.pb m.bl.length) := hpn
  have HS : Hid (SI X pn ib io x av dv w.drew) := (by rw [hpn]; exact (h.below (below_drew w)).si hx : SI X pn ib io x av dv w.drew)
  have HM : Hid (MS X m st L w.drew) := h.below (below_drew w)
  obtain ⟨_, lAA, lCC, elA, hlr⟩ := h.hl
  obtain ⟨fb0, fo, csx, hlA, -, -⟩ := hlr k hk
  cases elA
  have hfp : fpV X k = .pointer (some ⟨fb0, fo + k * 7, none⟩) := by rw [fpV, hlA]; rfl
  have HT : Hid (x.tx.size ≤ maxLen) := htx
  have BY : Hid (byN X.l x.tx.data.toList = some (k : Int)) := hby
  have hkz : (k : Int) < X.l.length := by omega
  have RL : Hid (X.R < w.drew.heap.size) := HM.out.rr.lt
  have HS7 : Hid (S7 X pn ib io x av dv w.drew) := ⟨HS.out, HM.out.rr.cell 0 (by omega), HM.out.rr.cell 1 (by omega), HM.out.mp.1⟩
  have AL : Hid (Calls Tryd.prog 40 #[.pointer (some ⟨pn, 0, none⟩), av] w.drew fun e w' => e = .returned (.slice (some ⟨w.drew.heap.size, 0, none⟩) x.args.length x.args.length) ∧ Below w.drew.heap.size w.drew w' ∧ WZ w' w.drew.heap.size x.args.length fun i => (x.args.map (cw m.nw)).getD i 0) := (by rw [hpn]; exact all_c HM.out.now x.args av (hargs.below HM.out.bz) (by omega) ha)
  have EN : Hid (∀ w9, MS X m st L w9 → Calls Tryd.prog 18 #[.pointer (some ⟨X.R, 0, none⟩), .pointer (some ⟨fb0, fo + k * 7, none⟩), .slice (some ⟨w.drew.heap.size, 0, none⟩) x.args.length x.args.length] w9 fun e w' => e = .panicked [{ v := endV 2 0, recovered := false }] ∧ w' = w9) := fun w9 h9 => by
    rw [← hfp]
    exact enter_full h9.toX k hk _ q hq (by simpa using hc)
  clear hargs hby ha hl8 hq hc hfp htx hlr hk
  clear h hx hop hpn
  go_enter Tryd.func27, Tryd.ntmps27
  go_wp2
  refine wp_region_N (fun w' => S7 X pn ib io x av dv w') (fun i => i != 24) mixedE (HS7.out) ?_
  intro S0
  clear HS HS7 c0
  generalize w.drew = wq at *
  refine tkT (i := 0) (v := ?_) rfl (Or.inl ⟨by rfl, ?_⟩) S0 ?_
  rotate_left
  · intro w' hS'
    obtain ⟨⟨h0, h1, h2, h3, h4, h5, h6, h7⟩, h8, h9, h10⟩ := hS'
    have h11 := h10.look1 HT.out
    rw [BY.out] at h11
    simp only [Option.getD_some] at h11
    rw [hlA] at h8
    (try go_simp)
    first | done | exact rfl | exact ⟨rfl, rfl⟩
  (try simp only [Act.put, qA, qC, qD, qE, qF])
  refine tkT (i := 1) (v := ?_) rfl (Or.inl ⟨by rfl, ?_⟩) S0 ?_
  rotate_left
  · intro w' hS'
    obtain ⟨⟨h0, h1, h2, h3, h4, h5, h6, h7⟩, h8, h9, h10⟩ := hS'
    have h11 := h10.look1 HT.out
    rw [BY.out] at h11
    simp only [Option.getD_some] at h11
    rw [hlA] at h8
    (try go_simp)
    first | done | exact rfl | exact ⟨rfl, rfl⟩
  (try simp only [Act.put, qA, qB, qC, qD, qE, qF])
  refine tkT (i := 2) (v := ?_) rfl (Or.inl ⟨by rfl, ?_⟩) S0 ?_
  rotate_left
  · intro w' hS'
    obtain ⟨⟨h0, h1, h2, h3, h4, h5, h6, h7⟩, h8, h9, h10⟩ := hS'
    have h11 := h10.look1 HT.out
    rw [BY.out] at h11
    simp only [Option.getD_some] at h11
    rw [hlA] at h8
    (try go_simp)
    first | done | exact rfl | exact ⟨rfl, rfl⟩
  (try simp only [Act.put, qA, qB, qC, qD, qE, qF])
  refine tkT (i := 3) (v := ?_) rfl (Or.inl ⟨by rfl, ?_⟩) S0 ?_
  rotate_left
  · intro w' hS'
    obtain ⟨⟨h0, h1, h2, h3, h4, h5, h6, h7⟩, h8, h9, h10⟩ := hS'
    have h11 := h10.look1 HT.out
    rw [BY.out] at h11
    simp only [Option.getD_some] at h11
    rw [hlA] at h8
    (try go_simp)
    first | done | exact rfl | exact ⟨rfl, rfl⟩
  (try simp only [Act.put, qA, qB, qC, qD, qE, qF])
  refine tkT (i := 4) (v := ?_) rfl (Or.inl ⟨by rfl, ?_⟩) S0 ?_
  rotate_left
  · intro w' hS'
    obtain ⟨⟨h0, h1, h2, h3, h4, h5, h6, h7⟩, h8, h9, h10⟩ := hS'
    have h11 := h10.look1 HT.out
    rw [BY.out] at h11
    simp only [Option.getD_some] at h11
    rw [hlA] at h8
    (try go_simp)
    first | done | exact rfl | exact ⟨rfl, rfl⟩
  (try simp only [Act.put, qA, qB, qC, qD, qE, qF])
  refine tkT (i := 5) (v := ?_) rfl (Or.inl ⟨by rfl, ?_⟩) S0 ?_
  rotate_left
  · intro w' hS'
    obtain ⟨⟨h0, h1, h2, h3, h4, h5, h6, h7⟩, h8, h9, h10⟩ := hS'
    have h11 := h10.look1 HT.out
    rw [BY.out] at h11
    simp only [Option.getD_some] at h11
    rw [hlA] at h8
    (try go_simp)
    first | done | exact rfl | exact ⟨rfl, rfl⟩
  (try simp only [Act.put, qA, qB, qC, qD, qE, qF])
  refine tkT (i := 6) (v := ?_) rfl (Or.inl ⟨by rfl, ?_⟩) S0 ?_
  rotate_left
  · intro w' hS'
    obtain ⟨⟨h0, h1, h2, h3, h4, h5, h6, h7⟩, h8, h9, h10⟩ := hS'
    have h11 := h10.look1 HT.out
    rw [BY.out] at h11
    simp only [Option.getD_some] at h11
    rw [hlA] at h8
    (try go_simp)
    first | done | exact rfl | exact ⟨rfl, rfl⟩
  (try simp only [Act.put, qA, qB, qC, qD, qE, qF])
  refine tkT (i := 7) (v := ?_) rfl (Or.inl ⟨by rfl, ?_⟩) S0 ?_
  rotate_left
  · intro w' hS'
    obtain ⟨⟨h0, h1, h2, h3, h4, h5, h6, h7⟩, h8, h9, h10⟩ := hS'
    have h11 := h10.look1 HT.out
    rw [BY.out] at h11
    simp only [Option.getD_some] at h11
    rw [hlA] at h8
    (try go_simp)
    first | done | exact rfl | exact ⟨rfl, rfl⟩
  (try simp only [Act.put, qA, qB, qC, qD, qE, qF])
  refine tkT (i := 8) (v := ?_) rfl (Or.inl ⟨by rfl, ?_⟩) S0 ?_
  rotate_left
  · intro w' hS'
    obtain ⟨⟨h0, h1, h2, h3, h4, h5, h6, h7⟩, h8, h9, h10⟩ := hS'
    have h11 := h10.look1 HT.out
    rw [BY.out] at h11
    simp only [Option.getD_some] at h11
    rw [hlA] at h8
    (try go_simp)
    first | done | exact rfl | exact ⟨rfl, rfl⟩
  (try simp only [Act.put, qA, qB, qC, qD, qE, qF])
  refine tkT (i := 9) (v := ?_) rfl (Or.inl ⟨by rfl, ?_⟩) S0 ?_
  rotate_left
  · intro w' hS'
    obtain ⟨⟨h0, h1, h2, h3, h4, h5, h6, h7⟩, h8, h9, h10⟩ := hS'
    have h11 := h10.look1 HT.out
    rw [BY.out] at h11
    simp only [Option.getD_some] at h11
    rw [hlA] at h8
    (try go_simp)
    first | done | exact rfl | exact ⟨rfl, rfl⟩
  (try simp only [Act.put, qA, qB, qC, qD, qE, qF])
  refine tkT (i := 10) (v := ?_) rfl (Or.inl ⟨by rfl, ?_⟩) S0 ?_
  rotate_left
  · intro w' hS'
    obtain ⟨⟨h0, h1, h2, h3, h4, h5, h6, h7⟩, h8, h9, h10⟩ := hS'
    have h11 := h10.look1 HT.out
    rw [BY.out] at h11
    simp only [Option.getD_some] at h11
    rw [hlA] at h8
    (try go_simp)
    first | done | exact rfl | exact ⟨rfl, rfl⟩
  (try simp only [Act.put, qA, qB, qC, qD, qE, qF])
  refine tkT (i := 11) (v := ?_) rfl (Or.inl ⟨by rfl, ?_⟩) S0 ?_
  rotate_left
  · intro w' hS'
    obtain ⟨⟨h0, h1, h2, h3, h4, h5, h6, h7⟩, h8, h9, h10⟩ := hS'
    have h11 := h10.look1 HT.out
    rw [BY.out] at h11
    simp only [Option.getD_some] at h11
    rw [hlA] at h8
    (try go_simp)
    first | done | exact rfl | exact ⟨rfl, rfl⟩
  (try simp only [Act.put, qA, qB, qC, qD, qE, qF])
  refine tkT (i := 12) (v := ?_) rfl (Or.inl ⟨by rfl, ?_⟩) S0 ?_
  rotate_left
  · intro w' hS'
    obtain ⟨⟨h0, h1, h2, h3, h4, h5, h6, h7⟩, h8, h9, h10⟩ := hS'
    have h11 := h10.look1 HT.out
    rw [BY.out] at h11
    simp only [Option.getD_some] at h11
    rw [hlA] at h8
    (try go_simp)
    first | done | exact rfl | exact ⟨rfl, rfl⟩
  (try simp only [Act.put, qA, qB, qC, qD, qE, qF])
  refine tkT (i := 13) (v := ?_) rfl (Or.inl ⟨by rfl, ?_⟩) S0 ?_
  rotate_left
  · intro w' hS'
    obtain ⟨⟨h0, h1, h2, h3, h4, h5, h6, h7⟩, h8, h9, h10⟩ := hS'
    have h11 := h10.look1 HT.out
    rw [BY.out] at h11
    simp only [Option.getD_some] at h11
    rw [hlA] at h8
    (try go_simp)
    first | done | exact rfl | exact ⟨rfl, rfl⟩
  (try simp only [Act.put, qA, qB, qC, qD, qE, qF])
  refine tkT (i := 14) (v := ?_) rfl (Or.inl ⟨by rfl, ?_⟩) S0 ?_
  rotate_left
  · intro w' hS'
    obtain ⟨⟨h0, h1, h2, h3, h4, h5, h6, h7⟩, h8, h9, h10⟩ := hS'
    have h11 := h10.look1 HT.out
    rw [BY.out] at h11
    simp only [Option.getD_some] at h11
    rw [hlA] at h8
    (try go_simp)
    first | done | exact rfl | exact ⟨rfl, rfl⟩
  (try simp only [Act.put, qA, qB, qC, qD, qE, qF])
  refine tkT (i := 15) (v := ?_) rfl (Or.inl ⟨by rfl, ?_⟩) S0 ?_
  rotate_left
  · intro w' hS'
    obtain ⟨⟨h0, h1, h2, h3, h4, h5, h6, h7⟩, h8, h9, h10⟩ := hS'
    have h11 := h10.look1 HT.out
    rw [BY.out] at h11
    simp only [Option.getD_some] at h11
    rw [hlA] at h8
    (try go_simp)
    first | done | exact rfl | exact ⟨rfl, rfl⟩
  (try simp only [Act.put, qA, qB, qC, qD, qE, qF])
  refine tkT (i := 16) (v := ?_) rfl (Or.inl ⟨by rfl, ?_⟩) S0 ?_
  rotate_left
  · intro w' hS'
    obtain ⟨⟨h0, h1, h2, h3, h4, h5, h6, h7⟩, h8, h9, h10⟩ := hS'
    have h11 := h10.look1 HT.out
    rw [BY.out] at h11
    simp only [Option.getD_some] at h11
    rw [hlA] at h8
    (try go_simp)
    first | done | exact rfl | exact ⟨rfl, rfl⟩
  (try simp only [Act.put, qA, qB, qC, qD, qE, qF])
  refine tkT (i := 17) (v := ?_) rfl (Or.inl ⟨by rfl, ?_⟩) S0 ?_
  rotate_left
  · intro w' hS'
    obtain ⟨⟨h0, h1, h2, h3, h4, h5, h6, h7⟩, h8, h9, h10⟩ := hS'
    have h11 := h10.look1 HT.out
    rw [BY.out] at h11
    simp only [Option.getD_some] at h11
    rw [hlA] at h8
    (try go_simp)
    first | done | exact rfl | exact ⟨rfl, rfl⟩
  (try simp only [Act.put, qA, qB, qC, qD, qE, qF])
  refine tkT (i := 18) (v := ?_) rfl (Or.inl ⟨by rfl, ?_⟩) S0 ?_
  rotate_left
  · intro w' hS'
    obtain ⟨⟨h0, h1, h2, h3, h4, h5, h6, h7⟩, h8, h9, h10⟩ := hS'
    have h11 := h10.look1 HT.out
    rw [BY.out] at h11
    simp only [Option.getD_some] at h11
    rw [hlA] at h8
    (try go_simp)
    first | done | exact rfl | exact ⟨rfl, rfl⟩
  (try simp only [Act.put, qA, qB, qC, qD, qE, qF])
  refine tkT (i := 19) (v := ?_) rfl (Or.inl ⟨by rfl, ?_⟩) S0 ?_
  rotate_left
  · intro w' hS'
    obtain ⟨⟨h0, h1, h2, h3, h4, h5, h6, h7⟩, h8, h9, h10⟩ := hS'
    have h11 := h10.look1 HT.out
    rw [BY.out] at h11
    simp only [Option.getD_some] at h11
    rw [hlA] at h8
    (try go_simp)
    first | done | exact rfl | exact ⟨rfl, rfl⟩
  (try simp only [Act.put, qA, qB, qC, qD, qE, qF])
  refine tkT (i := 20) (v := ?_) rfl (Or.inl ⟨by rfl, ?_⟩) S0 ?_
  rotate_left
  · intro w' hS'
    obtain ⟨⟨h0, h1, h2, h3, h4, h5, h6, h7⟩, h8, h9, h10⟩ := hS'
    have h11 := h10.look1 HT.out
    rw [BY.out] at h11
    simp only [Option.getD_some] at h11
    rw [hlA] at h8
    (try go_simp)
    first | done | exact rfl | exact ⟨rfl, rfl⟩
  (try simp only [Act.put, qA, qB, qC, qD, qE, qF])
  refine tkT (i := 21) (v := ?_) rfl (Or.inl ⟨by rfl, ?_⟩) S0 ?_
  rotate_left
  · intro w' hS'
    obtain ⟨⟨h0, h1, h2, h3, h4, h5, h6, h7⟩, h8, h9, h10⟩ := hS'
    have h11 := h10.look1 HT.out
    rw [BY.out] at h11
    simp only [Option.getD_some] at h11
    rw [hlA] at h8
    (try go_simp)
    first | done | exact rfl | exact ⟨rfl, rfl⟩
  (try simp only [Act.put, qA, qB, qC, qD, qE, qF])
  refine tkT (i := 22) (v := ?_) rfl (Or.inl ⟨by rfl, ?_⟩) S0 ?_
  rotate_left
  · intro w' hS'
    obtain ⟨⟨h0, h1, h2, h3, h4, h5, h6, h7⟩, h8, h9, h10⟩ := hS'
    have h11 := h10.look1 HT.out
    rw [BY.out] at h11
    simp only [Option.getD_some] at h11
    rw [hlA] at h8
    (try go_simp)
    first | done | exact rfl | exact ⟨rfl, rfl⟩
  (try simp only [Act.put, qA, qB, qC, qD, qE, qF])
  refine wpAnyN_one (i := 23) (by kernel_rfl) rfl (fun K hK => ?_)
  go_simp
  refine Calls.mono AL.out ?_
  rintro e w9 ⟨rfl, hb7, hz7⟩
  have HM := HM.out.below hb7
  have S24 : S7 X pn ib io x av dv w9 := ⟨S0.1.below hb7, HM.rr.cell 0 (by omega), HM.rr.cell 1 (by omega), HM.mp.1⟩
  have EC := EN.out w9 HM
  have EC : Hid (Calls Tryd.prog 18 #[.pointer (some ⟨X.R, 0, none⟩), .pointer (some ⟨fb0, fo + k * 7, none⟩), .slice (some ⟨wq.heap.size, 0, none⟩) x.args.length x.args.length] w9 fun e w' => e = .panicked [{ v := endV 2 0, recovered := false }] ∧ w' = w9) := EC
  have HM9 : MS X m st L w9 := HM
  clear hb7 hz7 EN RL
  go_wp2_with fail
  refine hK _ _ (fun _ => S24) ?_
  clear hK K
  (try simp only [Act.put, qA, qB, qC, qD, qE, qF])
  refine wpAnyN_one (i := 24) (by kernel_rfl) rfl (fun K hK => ?_)
  go_simp
  refine Calls.mono EC.out ?_
  rintro e w7 ⟨rfl, hw7⟩
  rw [hw7]
  exact ⟨rfl, rfl, _, _, _, (by rfl), MS.toX HM9⟩
end
end Go.Proofs.YtapgaclonilnbaaDoor
