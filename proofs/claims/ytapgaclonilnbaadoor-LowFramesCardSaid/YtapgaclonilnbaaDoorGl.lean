/-
  Proved: what the machine's memory is behind a block that is gone to; the cells that a block's end reads.
-/
import Derived.Test.YtapgaclonilnbaaDoorGh
namespace Go.Proofs.YtapgaclonilnbaaDoor
open Go.RowKit
set_option linter.unusedVariables false
set_option linter.unusedSimpArgs false

section
variable {X : Cx} {m : Mc} {st : Int} {L : Ly} {w w' : World} {t : Le} {tb tq : Nat} {tv : Value}

/-- The cells that a block's end reads. -/
def TI (X : Cx) (pn tb tq : Nat) (t : Le) (tv : Value) (w' : World) : Prop :=
  w'.cell? ⟨X.R, 7, none⟩ = some (.pointer (some ⟨pn, 0, none⟩)) ∧ w'.cell? ⟨tb, tq + 1, none⟩ = some (.int .i64 t.a) ∧ w'.cell? ⟨tb, tq + 2, none⟩ = some (.int .i64 t.b) ∧ w'.cell? ⟨tb, tq + 3, none⟩ = some (.int .i64 t.to) ∧ w'.cell? ⟨tb, tq + 4, none⟩ = some (.int .i64 t.el) ∧ w'.cell? ⟨tb, tq + 5, none⟩ = some (.string t.tx) ∧ w'.cell? ⟨tb, tq + 6, none⟩ = some tv

theorem MS.ti (h : MS X m st L w) (hx : RowAt X.wz tb tq (leC t tv)) : TI X (L.pb m.bl.length) tb tq t tv w := by
  have c := fun j v (e : (leC t tv)[j]? = some v) => (h.bz.cell (p := ⟨tb, tq + j, none⟩) hx.1).trans (hx.at j e)
  exact ⟨h.rr.cell 7 (by omega), c 1 _ rfl, c 2 _ rfl, c 3 _ rfl, c 4 _ rfl, c 5 _ rfl, c 6 _ rfl⟩
theorem TI.below {pn : Nat} (h : TI X pn tb tq t tv w) (k : Below w.heap.size w w') : TI X pn tb tq t tv w' := by
  obtain ⟨h0, h1, h2, h3, h4, h5, h6⟩ := h
  have c := fun (p : Addr) v (e : w.cell? p = some v) => (k.cell (p := p) (World.block_lt_of_cell? _ _ e)).trans e
  exact ⟨c _ _ h0, c _ _ h1, c _ _ h2, c _ _ h3, c _ _ h4, c _ _ h5, c _ _ h6⟩

/-- A block is gone to. -/
theorem MS.gone (h : MS X m st L w) (b : Int) (hb : 0 ≤ b) : MS X { m with nw := goC m.nw b } st L ((w.setCell ⟨L.pb m.bl.length, 4, none⟩ (.int .i64 b)).setCell ⟨L.pb m.bl.length, 5, none⟩ (.int .i64 0)) := by
  have hr := (h.ro.s _ (Nat.lt_succ_self m.bl.length)).1
  refine h.stand b.toNat 0 ((Kp.set (F := fun c => L.ro c = 10 + 3 * m.bl.length) w 4 _ hr).trans (Kp.set (F := fun c => L.ro c = 10 + 3 * m.bl.length) _ 5 _ hr)) (((GZ.set h.now.s 4 (by omega) _).set 5 (by omega) _).ext fun i hi => ?_)
  unfold pu
  rcases i with _ | _ | _ | _ | _ | _ | i
  · rfl
  · rfl
  · rfl
  · rfl
  · show Value.int .i64 b = Value.int .i64 (b.toNat : Int)
    rw [Int.toNat_of_nonneg hb]
  · rfl
  · omega
end
end Go.Proofs.YtapgaclonilnbaaDoor

/-
  Proved: what a block's end of kind 1 does to the machine.
-/
namespace Go.Proofs.YtapgaclonilnbaaDoor
open Go.RowKit
set_option linter.unusedVariables false
set_option linter.unusedSimpArgs false

section
variable {X : Cx} {m : Mc} {st : Int} {L : Ly} {w w' : World} {t : Le} {tb tq : Nat} {tv : Value}

set_option maxRecDepth 20000 in
set_option maxHeartbeats 4000000 in
theorem ter_1 (h : MS X m st L w) (hx : RowAt X.wz tb tq (leC t tv)) (hop : t.k = 1) (hb : 0 ≤ t.to) :
    Calls Tryd.prog 26 #[.pointer (some ⟨X.R, 0, none⟩), .pointer (some ⟨tb, tq, none⟩)] w fun e w' => e = .returned (.tuple #[]) ∧ ∃ L, MS X ({ m with nw := goC m.nw t.to }) st L w' := by
  have c0 : w.cell? ⟨tb, tq, none⟩ = some (.int .i64 1) := by
    have := (h.bz.cell (p := ⟨tb, tq + 0, none⟩) hx.1).trans (hx.at 0 (v := .int .i64 t.k) rfl)
    rwa [hop] at this
  obtain ⟨pn, hpn⟩ : ∃ pn, pn = L.pb m.bl.length := ⟨_, rfl⟩
  have PN : Hid (pn = L.pb m.bl.length) := hpn
  have HS : Hid (∀ w', Below w.heap.size w w' → TI X pn tb tq t tv w') := fun w' hb => (by rw [hpn]; exact (h.below hb).ti hx : TI X pn tb tq t tv w')
  have HM : Hid (∀ w', Below w.heap.size w w' → MS X m st L w') := fun w' hb => h.below hb
  have HX : Hid (RowAt X.wz tb tq (leC t tv)) := hx
  clear h hx hop hpn
  go_enter Tryd.func26, Tryd.ntmps26
  go_wp2
  clear c0
  refine wp_region_N (fun w' => TI X pn tb tq t tv w') (fun i => i != 8) mixedE ((HS.out _ (below_drew _))) ?_
  intro S0
  have B0 : Hid (Below w.heap.size w w.drew) := (below_drew _)
  generalize w.drew = wq at *
  refine tkT (i := 0) (v := ?_) rfl (Or.inl ⟨by rfl, ?_⟩) S0 ?_
  rotate_left
  · intro w' hS'
    obtain ⟨h0, h1, h2, h3, h4, h5, h6⟩ := hS'
    (try go_simp)
    first | done | exact rfl | exact ⟨rfl, rfl⟩
  (try simp only [Act.put, qA, qC, qD, qE, qF])
  refine tkT (i := 1) (v := ?_) rfl (Or.inl ⟨by rfl, ?_⟩) S0 ?_
  rotate_left
  · intro w' hS'
    obtain ⟨h0, h1, h2, h3, h4, h5, h6⟩ := hS'
    (try go_simp)
    first | done | exact rfl | exact ⟨rfl, rfl⟩
  (try simp only [Act.put, qA, qB, qC, qD, qE, qF])
  refine tkT (i := 2) (v := ?_) rfl (Or.inl ⟨by rfl, ?_⟩) S0 ?_
  rotate_left
  · intro w' hS'
    obtain ⟨h0, h1, h2, h3, h4, h5, h6⟩ := hS'
    (try go_simp)
    first | done | exact rfl | exact ⟨rfl, rfl⟩
  (try simp only [Act.put, qA, qB, qC, qD, qE, qF])
  refine tkT (i := 3) (v := ?_) rfl (Or.inl ⟨by rfl, ?_⟩) S0 ?_
  rotate_left
  · intro w' hS'
    obtain ⟨h0, h1, h2, h3, h4, h5, h6⟩ := hS'
    (try go_simp)
    first | done | exact rfl | exact ⟨rfl, rfl⟩
  (try simp only [Act.put, qA, qB, qC, qD, qE, qF])
  refine tkT (i := 4) (v := ?_) rfl (Or.inl ⟨by rfl, ?_⟩) S0 ?_
  rotate_left
  · intro w' hS'
    obtain ⟨h0, h1, h2, h3, h4, h5, h6⟩ := hS'
    (try go_simp)
    first | done | exact rfl | exact ⟨rfl, rfl⟩
  (try simp only [Act.put, qA, qB, qC, qD, qE, qF])
  refine tkT (i := 5) (v := ?_) rfl (Or.inl ⟨by rfl, ?_⟩) S0 ?_
  rotate_left
  · intro w' hS'
    obtain ⟨h0, h1, h2, h3, h4, h5, h6⟩ := hS'
    (try go_simp)
    first | done | exact rfl | exact ⟨rfl, rfl⟩
  (try simp only [Act.put, qA, qB, qC, qD, qE, qF])
  refine tkT (i := 6) (v := ?_) rfl (Or.inl ⟨by rfl, ?_⟩) S0 ?_
  rotate_left
  · intro w' hS'
    obtain ⟨h0, h1, h2, h3, h4, h5, h6⟩ := hS'
    (try go_simp)
    first | done | exact rfl | exact ⟨rfl, rfl⟩
  (try simp only [Act.put, qA, qB, qC, qD, qE, qF])
  refine tkT (i := 7) (v := ?_) rfl (Or.inl ⟨by rfl, ?_⟩) S0 ?_
  rotate_left
  · intro w' hS'
    obtain ⟨h0, h1, h2, h3, h4, h5, h6⟩ := hS'
    (try go_simp)
    first | done | exact rfl | exact ⟨rfl, rfl⟩
  (try simp only [Act.put, qA, qB, qC, qD, qE, qF])
  have GC : Hid (Calls Tryd.prog 36 #[.pointer (some ⟨pn, 0, none⟩), .int .i64 t.to] wq fun e w' => e = .returned (.tuple #[]) ∧ w' = (wq.setCell ⟨L.pb m.bl.length, 4, none⟩ (.int .i64 t.to)).setCell ⟨L.pb m.bl.length, 5, none⟩ (.int .i64 0)) := (by rw [PN.out]; exact goTo_c (HM.out _ B0.out).now t.to)
  refine wpAnyN_one (i := 8) (by kernel_rfl) rfl (fun K hK => ?_)
  go_simp
  refine Calls.mono GC.out ?_
  rintro e w7 ⟨rfl, hw7⟩
  rw [hw7]
  clear hw7 w7 GC
  go_wp2_with fail
  refine hK _ _ (fun h => by cases h) ?_
  clear hK K
  (try simp only [Act.put, qA, qB, qC, qD, qE, qF])
  have S9 := S0
  refine wpAnyN_done (by kernel_rfl) ?_ _
  go_wp2
  go_end0
  exact ⟨rfl, L, (HM.out _ B0.out).gone t.to hb⟩
end
end Go.Proofs.YtapgaclonilnbaaDoor

/-
  Proved: what a block's end of kind 4 does to the machine.
-/
namespace Go.Proofs.YtapgaclonilnbaaDoor
open Go.RowKit
set_option linter.unusedVariables false
set_option linter.unusedSimpArgs false

section
variable {X : Cx} {m : Mc} {st : Int} {L : Ly} {w w' : World} {t : Le} {tb tq : Nat} {tv : Value}

set_option maxRecDepth 20000 in
set_option maxHeartbeats 4000000 in
theorem ter_4 (h : MS X m st L w) (hx : RowAt X.wz tb tq (leC t tv)) (hop : t.k = 4) :
    Calls Tryd.prog 26 #[.pointer (some ⟨X.R, 0, none⟩), .pointer (some ⟨tb, tq, none⟩)] w fun e w' => e = .panicked [{ v := endV 1 101, recovered := false }] ∧ ∃ z nv L, z.out = m.out ∧ MX X z nv st L w' := by
  have c0 : w.cell? ⟨tb, tq, none⟩ = some (.int .i64 4) := by
    have := (h.bz.cell (p := ⟨tb, tq + 0, none⟩) hx.1).trans (hx.at 0 (v := .int .i64 t.k) rfl)
    rwa [hop] at this
  obtain ⟨pn, hpn⟩ : ∃ pn, pn = L.pb m.bl.length := ⟨_, rfl⟩
  have PN : Hid (pn = L.pb m.bl.length) := hpn
  have HS : Hid (∀ w', Below w.heap.size w w' → TI X pn tb tq t tv w') := fun w' hb => (by rw [hpn]; exact (h.below hb).ti hx : TI X pn tb tq t tv w')
  have HM : Hid (∀ w', Below w.heap.size w w' → MS X m st L w') := fun w' hb => h.below hb
  have HX : Hid (RowAt X.wz tb tq (leC t tv)) := hx
  have HT := fun w => stop_c 1 101 w
  clear h hx hop hpn
  go_enter Tryd.func26, Tryd.ntmps26
  go_wp2_with (go_at_call 17; refine (HT _).mono ?_; rintro e w3 ⟨rfl, hw⟩; rw [hw]; clear hw w3)
  exact ⟨rfl, rfl, _, _, _, (by rfl), MS.toX (HM.out w (Below.refl _ _))⟩
end
end Go.Proofs.YtapgaclonilnbaaDoor

/-
  Proved: what a block's end of kind 2t does to the machine.
-/
namespace Go.Proofs.YtapgaclonilnbaaDoor
open Go.RowKit
set_option linter.unusedVariables false
set_option linter.unusedSimpArgs false

section
variable {X : Cx} {m : Mc} {st : Int} {L : Ly} {w w' : World} {t : Le} {tb tq : Nat} {tv : Value}

set_option maxRecDepth 20000 in
set_option maxHeartbeats 4000000 in
theorem ter_2t (h : MS X m st L w) (hx : RowAt X.wz tb tq (leC t tv)) (hop : t.k = 2) (htx : cmpB t.tx = true) (ha : rdB m.nw.rg.length t.a = true) (hbb : rdB m.nw.rg.length t.b = true) (hcm : cmpv t.tx (cw m.nw t.a) (cw m.nw t.b) = true) (hb : 0 ≤ t.to) :
    Calls Tryd.prog 26 #[.pointer (some ⟨X.R, 0, none⟩), .pointer (some ⟨tb, tq, none⟩)] w fun e w' => e = .returned (.tuple #[]) ∧ ∃ L, MS X ({ m with nw := goC m.nw t.to }) st L w' := by
  have c0 : w.cell? ⟨tb, tq, none⟩ = some (.int .i64 2) := by
    have := (h.bz.cell (p := ⟨tb, tq + 0, none⟩) hx.1).trans (hx.at 0 (v := .int .i64 t.k) rfl)
    rwa [hop] at this
  obtain ⟨pn, hpn⟩ : ∃ pn, pn = L.pb m.bl.length := ⟨_, rfl⟩
  have PN : Hid (pn = L.pb m.bl.length) := hpn
  have HS : Hid (∀ w', Below w.heap.size w w' → TI X pn tb tq t tv w') := fun w' hb => (by rw [hpn]; exact (h.below hb).ti hx : TI X pn tb tq t tv w')
  have HM : Hid (∀ w', Below w.heap.size w w' → MS X m st L w') := fun w' hb => h.below hb
  have HX : Hid (RowAt X.wz tb tq (leC t tv)) := hx
  obtain ⟨fc, qc, CV0⟩ := cmp_all t.tx htx
  have CV : Hid (CmpV t.tx (.agg #[.func (.func fc) #[] #[], .bool qc])) := CV0
  have CH : Hid (cmpv t.tx (cw m.nw t.a) (cw m.nw t.b) = true) := hcm
  have HA : Hid (rdB m.nw.rg.length t.a = true) := ha
  have HB : Hid (rdB m.nw.rg.length t.b = true) := hbb
  have c5 := (HS.out w (Below.refl _ _)).2.2.2.2.2.1
  clear CV0 htx hcm ha hbb
  clear h hx hop hpn
  go_enter Tryd.func26, Tryd.ntmps26
  go_wp2_with (go_at_call 35; refine (CV.out.1 _).mono ?_; rintro e w1 ⟨rfl, hw1⟩; have B1 : Hid (Below w.heap.size w w1) := hw1; clear hw1)
  have B2 : Hid (Below w.heap.size w (w1.alloc (.cells #[.func (.func fc) #[] #[], .bool qc] 95))) := below_next B1.out (below_alloc _ _)
  have A2 : Hid (At (w1.alloc (.cells #[.func (.func fc) #[] #[], .bool qc] 95)) w1.heap.size #[.func (.func fc) #[] #[], .bool qc] 95) := At.new _ _ _
  clear B1 c5 c0
  generalize w1.alloc (.cells #[.func (.func fc) #[] #[], .bool qc] 95) = w2 at *
  generalize w1.heap.size = cb at *
  have S5F : Hid (TI X pn tb tq t tv w2.drew ∧ w2.drew.cell? ⟨cb, 0, none⟩ = some (.func (.func fc) #[] #[]) ∧ w2.drew.cell? ⟨cb, 1, none⟩ = some (.bool qc)) := ⟨HS.out _ (below_next B2.out (below_drew _)), A2.out.cell 0, A2.out.cell 1⟩
  clear A2
  refine wp_region_N (fun w' => TI X pn tb tq t tv w' ∧ w'.cell? ⟨cb, 0, none⟩ = some (.func (.func fc) #[] #[]) ∧ w'.cell? ⟨cb, 1, none⟩ = some (.bool qc)) (fun i => i != 19) mixedE (S5F.out) ?_
  intro S0
  have B0 : Hid (Below w.heap.size w w2.drew) := (below_next B2.out (below_drew _))
  generalize w2.drew = wq at *
  refine tkT (i := 0) (v := ?_) rfl (Or.inl ⟨by rfl, ?_⟩) S0 ?_
  rotate_left
  · intro w' hS'
    obtain ⟨⟨h0, h1, h2, h3, h4, h5, h6⟩, h7, h8⟩ := hS'
    (try go_simp)
    first | done | exact rfl | exact ⟨rfl, rfl⟩
  (try simp only [Act.put, qA, qC, qD, qE, qF])
  refine tkT (i := 1) (v := ?_) rfl (Or.inl ⟨by rfl, ?_⟩) S0 ?_
  rotate_left
  · intro w' hS'
    obtain ⟨⟨h0, h1, h2, h3, h4, h5, h6⟩, h7, h8⟩ := hS'
    (try go_simp)
    first | done | exact rfl | exact ⟨rfl, rfl⟩
  (try simp only [Act.put, qA, qB, qC, qD, qE, qF])
  refine tkT (i := 2) (v := ?_) rfl (Or.inl ⟨by rfl, ?_⟩) S0 ?_
  rotate_left
  · intro w' hS'
    obtain ⟨⟨h0, h1, h2, h3, h4, h5, h6⟩, h7, h8⟩ := hS'
    (try go_simp)
    first | done | exact rfl | exact ⟨rfl, rfl⟩
  (try simp only [Act.put, qA, qB, qC, qD, qE, qF])
  refine tkT (i := 3) (v := ?_) rfl (Or.inl ⟨by rfl, ?_⟩) S0 ?_
  rotate_left
  · intro w' hS'
    obtain ⟨⟨h0, h1, h2, h3, h4, h5, h6⟩, h7, h8⟩ := hS'
    (try go_simp)
    first | done | exact rfl | exact ⟨rfl, rfl⟩
  (try simp only [Act.put, qA, qB, qC, qD, qE, qF])
  refine tkT (i := 4) (v := ?_) rfl (Or.inl ⟨by rfl, ?_⟩) S0 ?_
  rotate_left
  · intro w' hS'
    obtain ⟨⟨h0, h1, h2, h3, h4, h5, h6⟩, h7, h8⟩ := hS'
    (try go_simp)
    first | done | exact rfl | exact ⟨rfl, rfl⟩
  (try simp only [Act.put, qA, qB, qC, qD, qE, qF])
  refine tkT (i := 5) (v := ?_) rfl (Or.inl ⟨by rfl, ?_⟩) S0 ?_
  rotate_left
  · intro w' hS'
    obtain ⟨⟨h0, h1, h2, h3, h4, h5, h6⟩, h7, h8⟩ := hS'
    (try go_simp)
    first | done | exact rfl | exact ⟨rfl, rfl⟩
  (try simp only [Act.put, qA, qB, qC, qD, qE, qF])
  refine tkT (i := 6) (v := ?_) rfl (Or.inl ⟨by rfl, ?_⟩) S0 ?_
  rotate_left
  · intro w' hS'
    obtain ⟨⟨h0, h1, h2, h3, h4, h5, h6⟩, h7, h8⟩ := hS'
    (try go_simp)
    first | done | exact rfl | exact ⟨rfl, rfl⟩
  (try simp only [Act.put, qA, qB, qC, qD, qE, qF])
  refine tkT (i := 7) (v := ?_) rfl (Or.inl ⟨by rfl, ?_⟩) S0 ?_
  rotate_left
  · intro w' hS'
    obtain ⟨⟨h0, h1, h2, h3, h4, h5, h6⟩, h7, h8⟩ := hS'
    (try go_simp)
    first | done | exact rfl | exact ⟨rfl, rfl⟩
  (try simp only [Act.put, qA, qB, qC, qD, qE, qF])
  refine tkT (i := 8) (v := ?_) rfl (Or.inl ⟨by rfl, ?_⟩) S0 ?_
  rotate_left
  · intro w' hS'
    obtain ⟨⟨h0, h1, h2, h3, h4, h5, h6⟩, h7, h8⟩ := hS'
    (try go_simp)
    first | done | exact rfl | exact ⟨rfl, rfl⟩
  (try simp only [Act.put, qA, qB, qC, qD, qE, qF])
  refine tkT (i := 10) (v := ?_) rfl (Or.inl ⟨by rfl, ?_⟩) S0 ?_
  rotate_left
  · intro w' hS'
    obtain ⟨⟨h0, h1, h2, h3, h4, h5, h6⟩, h7, h8⟩ := hS'
    (try go_simp)
    first | done | exact rfl | exact ⟨rfl, rfl⟩
  (try simp only [Act.put, qA, qB, qC, qD, qE, qF])
  refine tkT (i := 11) (v := ?_) rfl (Or.inl ⟨by rfl, ?_⟩) S0 ?_
  rotate_left
  · intro w' hS'
    obtain ⟨⟨h0, h1, h2, h3, h4, h5, h6⟩, h7, h8⟩ := hS'
    (try go_simp)
    first | done | exact rfl | exact ⟨rfl, rfl⟩
  (try simp only [Act.put, qA, qB, qC, qD, qE, qF])
  refine tkT (i := 12) (v := ?_) rfl (Or.inl ⟨by rfl, ?_⟩) S0 ?_
  rotate_left
  · intro w' hS'
    obtain ⟨⟨h0, h1, h2, h3, h4, h5, h6⟩, h7, h8⟩ := hS'
    (try go_simp)
    first | done | exact rfl | exact ⟨rfl, rfl⟩
  (try simp only [Act.put, qA, qB, qC, qD, qE, qF])
  refine tkT (i := 13) (v := ?_) rfl (Or.inl ⟨by rfl, ?_⟩) S0 ?_
  rotate_left
  · intro w' hS'
    obtain ⟨⟨h0, h1, h2, h3, h4, h5, h6⟩, h7, h8⟩ := hS'
    (try go_simp)
    first | done | exact rfl | exact ⟨rfl, rfl⟩
  (try simp only [Act.put, qA, qB, qC, qD, qE, qF])
  refine tkT (i := 14) (v := ?_) rfl (Or.inl ⟨by rfl, ?_⟩) S0 ?_
  rotate_left
  · intro w' hS'
    obtain ⟨⟨h0, h1, h2, h3, h4, h5, h6⟩, h7, h8⟩ := hS'
    (try go_simp)
    first | done | exact rfl | exact ⟨rfl, rfl⟩
  (try simp only [Act.put, qA, qB, qC, qD, qE, qF])
  refine tkT (i := 15) (v := ?_) rfl (Or.inl ⟨by rfl, ?_⟩) S0 ?_
  rotate_left
  · intro w' hS'
    obtain ⟨⟨h0, h1, h2, h3, h4, h5, h6⟩, h7, h8⟩ := hS'
    (try go_simp)
    first | done | exact rfl | exact ⟨rfl, rfl⟩
  (try simp only [Act.put, qA, qB, qC, qD, qE, qF])
  refine tkT (i := 16) (v := ?_) rfl (Or.inl ⟨by rfl, ?_⟩) S0 ?_
  rotate_left
  · intro w' hS'
    obtain ⟨⟨h0, h1, h2, h3, h4, h5, h6⟩, h7, h8⟩ := hS'
    (try go_simp)
    first | done | exact rfl | exact ⟨rfl, rfl⟩
  (try simp only [Act.put, qA, qB, qC, qD, qE, qF])
  refine tkT (i := 17) (v := ?_) rfl (Or.inl ⟨by rfl, ?_⟩) S0 ?_
  rotate_left
  · intro w' hS'
    obtain ⟨⟨h0, h1, h2, h3, h4, h5, h6⟩, h7, h8⟩ := hS'
    (try go_simp)
    first | done | exact rfl | exact ⟨rfl, rfl⟩
  (try simp only [Act.put, qA, qB, qC, qD, qE, qF])
  have WA : Hid (Calls Tryd.prog 38 #[.pointer (some ⟨pn, 0, none⟩), .int .i64 t.a] wq fun e w' => e = .returned (.int .i32 (cw m.nw t.a)) ∧ w' = wq) := (by rw [PN.out]; exact cword_c (HM.out _ B0.out).now t.a (rdB_bg HA.out))
  refine wpAnyN_one (i := 9) (by kernel_rfl) rfl (fun K hK => ?_)
  go_simp
  refine Calls.mono (Hid.out WA) ?_
  rintro e w7 ⟨rfl, hw7⟩
  rw [hw7]
  clear hw7 w7
  go_wp2_with fail
  refine hK _ _ (fun _ => S0) ?_
  clear hK K
  (try simp only [Act.put, qA, qB, qC, qD, qE, qF])
  have S10 := S0
  clear WA
  have WA : Hid (Calls Tryd.prog 38 #[.pointer (some ⟨pn, 0, none⟩), .int .i64 t.b] wq fun e w' => e = .returned (.int .i32 (cw m.nw t.b)) ∧ w' = wq) := (by rw [PN.out]; exact cword_c (HM.out _ B0.out).now t.b (rdB_bg HB.out))
  refine wpAnyN_one (i := 18) (by kernel_rfl) rfl (fun K hK => ?_)
  go_simp
  refine Calls.mono (Hid.out WA) ?_
  rintro e w7 ⟨rfl, hw7⟩
  rw [hw7]
  clear hw7 w7
  go_wp2_with fail
  refine hK _ _ (fun _ => S10) ?_
  clear hK K
  (try simp only [Act.put, qA, qB, qC, qD, qE, qF])
  have S19 := S10
  clear WA
  refine wpAnyN_one (i := 19) (by kernel_rfl) rfl (fun K hK => ?_)
  go_simp
  refine Calls.mono (CV.out.2 _ _ _) ?_
  rintro e w8 ⟨rfl, hb8⟩
  rw [CH.out]
  have S20 := S19
  have B8 : Hid (Below w.heap.size w w8) := below_next B0.out hb8
  clear hb8
  go_wp2_with fail
  refine hK _ _ (fun h => by cases h) ?_
  clear hK K
  (try simp only [Act.put, qA, qB, qC, qD, qE, qF])
  refine wpAnyN_done (by kernel_rfl) ?_ _
  clear S0 S5F S10 S19 S20 B0 HA HB CH CV
  go_wp2
  refine wp_region_N (fun w' => TI X pn tb tq t tv w') (fun i => i != 8) mixedE ((HS.out _ (below_next B8.out (below_drew _)))) ?_
  intro S0
  have B0 : Hid (Below w.heap.size w w8.drew) := (below_next B8.out (below_drew _))
  generalize w8.drew = wq at *
  refine tkT (i := 0) (v := ?_) rfl (Or.inl ⟨by rfl, ?_⟩) S0 ?_
  rotate_left
  · intro w' hS'
    obtain ⟨h0, h1, h2, h3, h4, h5, h6⟩ := hS'
    (try go_simp)
    first | done | exact rfl | exact ⟨rfl, rfl⟩
  (try simp only [Act.put, qA, qC, qD, qE, qF])
  refine tkT (i := 1) (v := ?_) rfl (Or.inl ⟨by rfl, ?_⟩) S0 ?_
  rotate_left
  · intro w' hS'
    obtain ⟨h0, h1, h2, h3, h4, h5, h6⟩ := hS'
    (try go_simp)
    first | done | exact rfl | exact ⟨rfl, rfl⟩
  (try simp only [Act.put, qA, qB, qC, qD, qE, qF])
  refine tkT (i := 2) (v := ?_) rfl (Or.inl ⟨by rfl, ?_⟩) S0 ?_
  rotate_left
  · intro w' hS'
    obtain ⟨h0, h1, h2, h3, h4, h5, h6⟩ := hS'
    (try go_simp)
    first | done | exact rfl | exact ⟨rfl, rfl⟩
  (try simp only [Act.put, qA, qB, qC, qD, qE, qF])
  refine tkT (i := 3) (v := ?_) rfl (Or.inl ⟨by rfl, ?_⟩) S0 ?_
  rotate_left
  · intro w' hS'
    obtain ⟨h0, h1, h2, h3, h4, h5, h6⟩ := hS'
    (try go_simp)
    first | done | exact rfl | exact ⟨rfl, rfl⟩
  (try simp only [Act.put, qA, qB, qC, qD, qE, qF])
  refine tkT (i := 4) (v := ?_) rfl (Or.inl ⟨by rfl, ?_⟩) S0 ?_
  rotate_left
  · intro w' hS'
    obtain ⟨h0, h1, h2, h3, h4, h5, h6⟩ := hS'
    (try go_simp)
    first | done | exact rfl | exact ⟨rfl, rfl⟩
  (try simp only [Act.put, qA, qB, qC, qD, qE, qF])
  refine tkT (i := 5) (v := ?_) rfl (Or.inl ⟨by rfl, ?_⟩) S0 ?_
  rotate_left
  · intro w' hS'
    obtain ⟨h0, h1, h2, h3, h4, h5, h6⟩ := hS'
    (try go_simp)
    first | done | exact rfl | exact ⟨rfl, rfl⟩
  (try simp only [Act.put, qA, qB, qC, qD, qE, qF])
  refine tkT (i := 6) (v := ?_) rfl (Or.inl ⟨by rfl, ?_⟩) S0 ?_
  rotate_left
  · intro w' hS'
    obtain ⟨h0, h1, h2, h3, h4, h5, h6⟩ := hS'
    (try go_simp)
    first | done | exact rfl | exact ⟨rfl, rfl⟩
  (try simp only [Act.put, qA, qB, qC, qD, qE, qF])
  refine tkT (i := 7) (v := ?_) rfl (Or.inl ⟨by rfl, ?_⟩) S0 ?_
  rotate_left
  · intro w' hS'
    obtain ⟨h0, h1, h2, h3, h4, h5, h6⟩ := hS'
    (try go_simp)
    first | done | exact rfl | exact ⟨rfl, rfl⟩
  (try simp only [Act.put, qA, qB, qC, qD, qE, qF])
  have GC : Hid (Calls Tryd.prog 36 #[.pointer (some ⟨pn, 0, none⟩), .int .i64 t.to] wq fun e w' => e = .returned (.tuple #[]) ∧ w' = (wq.setCell ⟨L.pb m.bl.length, 4, none⟩ (.int .i64 t.to)).setCell ⟨L.pb m.bl.length, 5, none⟩ (.int .i64 0)) := (by rw [PN.out]; exact goTo_c (HM.out _ B0.out).now t.to)
  refine wpAnyN_one (i := 8) (by kernel_rfl) rfl (fun K hK => ?_)
  go_simp
  refine Calls.mono GC.out ?_
  rintro e w7 ⟨rfl, hw7⟩
  rw [hw7]
  clear hw7 w7 GC
  go_wp2_with fail
  refine hK _ _ (fun h => by cases h) ?_
  clear hK K
  (try simp only [Act.put, qA, qB, qC, qD, qE, qF])
  have S9 := S0
  refine wpAnyN_done (by kernel_rfl) ?_ _
  go_wp2
  go_end0
  exact ⟨rfl, L, (HM.out _ B0.out).gone t.to hb⟩
end
end Go.Proofs.YtapgaclonilnbaaDoor

/-
  Proved: what a block's end of kind 2f does to the machine.
-/
namespace Go.Proofs.YtapgaclonilnbaaDoor
open Go.RowKit
set_option linter.unusedVariables false
set_option linter.unusedSimpArgs false

section
variable {X : Cx} {m : Mc} {st : Int} {L : Ly} {w w' : World} {t : Le} {tb tq : Nat} {tv : Value}

set_option maxRecDepth 20000 in
set_option maxHeartbeats 4000000 in
theorem ter_2f (h : MS X m st L w) (hx : RowAt X.wz tb tq (leC t tv)) (hop : t.k = 2) (htx : cmpB t.tx = true) (ha : rdB m.nw.rg.length t.a = true) (hbb : rdB m.nw.rg.length t.b = true) (hcm : cmpv t.tx (cw m.nw t.a) (cw m.nw t.b) = false) (hb : 0 ≤ t.el) :
    Calls Tryd.prog 26 #[.pointer (some ⟨X.R, 0, none⟩), .pointer (some ⟨tb, tq, none⟩)] w fun e w' => e = .returned (.tuple #[]) ∧ ∃ L, MS X ({ m with nw := goC m.nw t.el }) st L w' := by
  have c0 : w.cell? ⟨tb, tq, none⟩ = some (.int .i64 2) := by
    have := (h.bz.cell (p := ⟨tb, tq + 0, none⟩) hx.1).trans (hx.at 0 (v := .int .i64 t.k) rfl)
    rwa [hop] at this
  obtain ⟨pn, hpn⟩ : ∃ pn, pn = L.pb m.bl.length := ⟨_, rfl⟩
  have PN : Hid (pn = L.pb m.bl.length) := hpn
  have HS : Hid (∀ w', Below w.heap.size w w' → TI X pn tb tq t tv w') := fun w' hb => (by rw [hpn]; exact (h.below hb).ti hx : TI X pn tb tq t tv w')
  have HM : Hid (∀ w', Below w.heap.size w w' → MS X m st L w') := fun w' hb => h.below hb
  have HX : Hid (RowAt X.wz tb tq (leC t tv)) := hx
  obtain ⟨fc, qc, CV0⟩ := cmp_all t.tx htx
  have CV : Hid (CmpV t.tx (.agg #[.func (.func fc) #[] #[], .bool qc])) := CV0
  have CH : Hid (cmpv t.tx (cw m.nw t.a) (cw m.nw t.b) = false) := hcm
  have HA : Hid (rdB m.nw.rg.length t.a = true) := ha
  have HB : Hid (rdB m.nw.rg.length t.b = true) := hbb
  have c5 := (HS.out w (Below.refl _ _)).2.2.2.2.2.1
  clear CV0 htx hcm ha hbb
  clear h hx hop hpn
  go_enter Tryd.func26, Tryd.ntmps26
  go_wp2_with (go_at_call 35; refine (CV.out.1 _).mono ?_; rintro e w1 ⟨rfl, hw1⟩; have B1 : Hid (Below w.heap.size w w1) := hw1; clear hw1)
  have B2 : Hid (Below w.heap.size w (w1.alloc (.cells #[.func (.func fc) #[] #[], .bool qc] 95))) := below_next B1.out (below_alloc _ _)
  have A2 : Hid (At (w1.alloc (.cells #[.func (.func fc) #[] #[], .bool qc] 95)) w1.heap.size #[.func (.func fc) #[] #[], .bool qc] 95) := At.new _ _ _
  clear B1 c5 c0
  generalize w1.alloc (.cells #[.func (.func fc) #[] #[], .bool qc] 95) = w2 at *
  generalize w1.heap.size = cb at *
  have S5F : Hid (TI X pn tb tq t tv w2.drew ∧ w2.drew.cell? ⟨cb, 0, none⟩ = some (.func (.func fc) #[] #[]) ∧ w2.drew.cell? ⟨cb, 1, none⟩ = some (.bool qc)) := ⟨HS.out _ (below_next B2.out (below_drew _)), A2.out.cell 0, A2.out.cell 1⟩
  clear A2
  refine wp_region_N (fun w' => TI X pn tb tq t tv w' ∧ w'.cell? ⟨cb, 0, none⟩ = some (.func (.func fc) #[] #[]) ∧ w'.cell? ⟨cb, 1, none⟩ = some (.bool qc)) (fun i => i != 19) mixedE (S5F.out) ?_
  intro S0
  have B0 : Hid (Below w.heap.size w w2.drew) := (below_next B2.out (below_drew _))
  generalize w2.drew = wq at *
  refine tkT (i := 0) (v := ?_) rfl (Or.inl ⟨by rfl, ?_⟩) S0 ?_
  rotate_left
  · intro w' hS'
    obtain ⟨⟨h0, h1, h2, h3, h4, h5, h6⟩, h7, h8⟩ := hS'
    (try go_simp)
    first | done | exact rfl | exact ⟨rfl, rfl⟩
  (try simp only [Act.put, qA, qC, qD, qE, qF])
  refine tkT (i := 1) (v := ?_) rfl (Or.inl ⟨by rfl, ?_⟩) S0 ?_
  rotate_left
  · intro w' hS'
    obtain ⟨⟨h0, h1, h2, h3, h4, h5, h6⟩, h7, h8⟩ := hS'
    (try go_simp)
    first | done | exact rfl | exact ⟨rfl, rfl⟩
  (try simp only [Act.put, qA, qB, qC, qD, qE, qF])
  refine tkT (i := 2) (v := ?_) rfl (Or.inl ⟨by rfl, ?_⟩) S0 ?_
  rotate_left
  · intro w' hS'
    obtain ⟨⟨h0, h1, h2, h3, h4, h5, h6⟩, h7, h8⟩ := hS'
    (try go_simp)
    first | done | exact rfl | exact ⟨rfl, rfl⟩
  (try simp only [Act.put, qA, qB, qC, qD, qE, qF])
  refine tkT (i := 3) (v := ?_) rfl (Or.inl ⟨by rfl, ?_⟩) S0 ?_
  rotate_left
  · intro w' hS'
    obtain ⟨⟨h0, h1, h2, h3, h4, h5, h6⟩, h7, h8⟩ := hS'
    (try go_simp)
    first | done | exact rfl | exact ⟨rfl, rfl⟩
  (try simp only [Act.put, qA, qB, qC, qD, qE, qF])
  refine tkT (i := 4) (v := ?_) rfl (Or.inl ⟨by rfl, ?_⟩) S0 ?_
  rotate_left
  · intro w' hS'
    obtain ⟨⟨h0, h1, h2, h3, h4, h5, h6⟩, h7, h8⟩ := hS'
    (try go_simp)
    first | done | exact rfl | exact ⟨rfl, rfl⟩
  (try simp only [Act.put, qA, qB, qC, qD, qE, qF])
  refine tkT (i := 5) (v := ?_) rfl (Or.inl ⟨by rfl, ?_⟩) S0 ?_
  rotate_left
  · intro w' hS'
    obtain ⟨⟨h0, h1, h2, h3, h4, h5, h6⟩, h7, h8⟩ := hS'
    (try go_simp)
    first | done | exact rfl | exact ⟨rfl, rfl⟩
  (try simp only [Act.put, qA, qB, qC, qD, qE, qF])
  refine tkT (i := 6) (v := ?_) rfl (Or.inl ⟨by rfl, ?_⟩) S0 ?_
  rotate_left
  · intro w' hS'
    obtain ⟨⟨h0, h1, h2, h3, h4, h5, h6⟩, h7, h8⟩ := hS'
    (try go_simp)
    first | done | exact rfl | exact ⟨rfl, rfl⟩
  (try simp only [Act.put, qA, qB, qC, qD, qE, qF])
  refine tkT (i := 7) (v := ?_) rfl (Or.inl ⟨by rfl, ?_⟩) S0 ?_
  rotate_left
  · intro w' hS'
    obtain ⟨⟨h0, h1, h2, h3, h4, h5, h6⟩, h7, h8⟩ := hS'
    (try go_simp)
    first | done | exact rfl | exact ⟨rfl, rfl⟩
  (try simp only [Act.put, qA, qB, qC, qD, qE, qF])
  refine tkT (i := 8) (v := ?_) rfl (Or.inl ⟨by rfl, ?_⟩) S0 ?_
  rotate_left
  · intro w' hS'
    obtain ⟨⟨h0, h1, h2, h3, h4, h5, h6⟩, h7, h8⟩ := hS'
    (try go_simp)
    first | done | exact rfl | exact ⟨rfl, rfl⟩
  (try simp only [Act.put, qA, qB, qC, qD, qE, qF])
  refine tkT (i := 10) (v := ?_) rfl (Or.inl ⟨by rfl, ?_⟩) S0 ?_
  rotate_left
  · intro w' hS'
    obtain ⟨⟨h0, h1, h2, h3, h4, h5, h6⟩, h7, h8⟩ := hS'
    (try go_simp)
    first | done | exact rfl | exact ⟨rfl, rfl⟩
  (try simp only [Act.put, qA, qB, qC, qD, qE, qF])
  refine tkT (i := 11) (v := ?_) rfl (Or.inl ⟨by rfl, ?_⟩) S0 ?_
  rotate_left
  · intro w' hS'
    obtain ⟨⟨h0, h1, h2, h3, h4, h5, h6⟩, h7, h8⟩ := hS'
    (try go_simp)
    first | done | exact rfl | exact ⟨rfl, rfl⟩
  (try simp only [Act.put, qA, qB, qC, qD, qE, qF])
  refine tkT (i := 12) (v := ?_) rfl (Or.inl ⟨by rfl, ?_⟩) S0 ?_
  rotate_left
  · intro w' hS'
    obtain ⟨⟨h0, h1, h2, h3, h4, h5, h6⟩, h7, h8⟩ := hS'
    (try go_simp)
    first | done | exact rfl | exact ⟨rfl, rfl⟩
  (try simp only [Act.put, qA, qB, qC, qD, qE, qF])
  refine tkT (i := 13) (v := ?_) rfl (Or.inl ⟨by rfl, ?_⟩) S0 ?_
  rotate_left
  · intro w' hS'
    obtain ⟨⟨h0, h1, h2, h3, h4, h5, h6⟩, h7, h8⟩ := hS'
    (try go_simp)
    first | done | exact rfl | exact ⟨rfl, rfl⟩
  (try simp only [Act.put, qA, qB, qC, qD, qE, qF])
  refine tkT (i := 14) (v := ?_) rfl (Or.inl ⟨by rfl, ?_⟩) S0 ?_
  rotate_left
  · intro w' hS'
    obtain ⟨⟨h0, h1, h2, h3, h4, h5, h6⟩, h7, h8⟩ := hS'
    (try go_simp)
    first | done | exact rfl | exact ⟨rfl, rfl⟩
  (try simp only [Act.put, qA, qB, qC, qD, qE, qF])
  refine tkT (i := 15) (v := ?_) rfl (Or.inl ⟨by rfl, ?_⟩) S0 ?_
  rotate_left
  · intro w' hS'
    obtain ⟨⟨h0, h1, h2, h3, h4, h5, h6⟩, h7, h8⟩ := hS'
    (try go_simp)
    first | done | exact rfl | exact ⟨rfl, rfl⟩
  (try simp only [Act.put, qA, qB, qC, qD, qE, qF])
  refine tkT (i := 16) (v := ?_) rfl (Or.inl ⟨by rfl, ?_⟩) S0 ?_
  rotate_left
  · intro w' hS'
    obtain ⟨⟨h0, h1, h2, h3, h4, h5, h6⟩, h7, h8⟩ := hS'
    (try go_simp)
    first | done | exact rfl | exact ⟨rfl, rfl⟩
  (try simp only [Act.put, qA, qB, qC, qD, qE, qF])
  refine tkT (i := 17) (v := ?_) rfl (Or.inl ⟨by rfl, ?_⟩) S0 ?_
  rotate_left
  · intro w' hS'
    obtain ⟨⟨h0, h1, h2, h3, h4, h5, h6⟩, h7, h8⟩ := hS'
    (try go_simp)
    first | done | exact rfl | exact ⟨rfl, rfl⟩
  (try simp only [Act.put, qA, qB, qC, qD, qE, qF])
  have WA : Hid (Calls Tryd.prog 38 #[.pointer (some ⟨pn, 0, none⟩), .int .i64 t.a] wq fun e w' => e = .returned (.int .i32 (cw m.nw t.a)) ∧ w' = wq) := (by rw [PN.out]; exact cword_c (HM.out _ B0.out).now t.a (rdB_bg HA.out))
  refine wpAnyN_one (i := 9) (by kernel_rfl) rfl (fun K hK => ?_)
  go_simp
  refine Calls.mono (Hid.out WA) ?_
  rintro e w7 ⟨rfl, hw7⟩
  rw [hw7]
  clear hw7 w7
  go_wp2_with fail
  refine hK _ _ (fun _ => S0) ?_
  clear hK K
  (try simp only [Act.put, qA, qB, qC, qD, qE, qF])
  have S10 := S0
  clear WA
  have WA : Hid (Calls Tryd.prog 38 #[.pointer (some ⟨pn, 0, none⟩), .int .i64 t.b] wq fun e w' => e = .returned (.int .i32 (cw m.nw t.b)) ∧ w' = wq) := (by rw [PN.out]; exact cword_c (HM.out _ B0.out).now t.b (rdB_bg HB.out))
  refine wpAnyN_one (i := 18) (by kernel_rfl) rfl (fun K hK => ?_)
  go_simp
  refine Calls.mono (Hid.out WA) ?_
  rintro e w7 ⟨rfl, hw7⟩
  rw [hw7]
  clear hw7 w7
  go_wp2_with fail
  refine hK _ _ (fun _ => S10) ?_
  clear hK K
  (try simp only [Act.put, qA, qB, qC, qD, qE, qF])
  have S19 := S10
  clear WA
  refine wpAnyN_one (i := 19) (by kernel_rfl) rfl (fun K hK => ?_)
  go_simp
  refine Calls.mono (CV.out.2 _ _ _) ?_
  rintro e w8 ⟨rfl, hb8⟩
  rw [CH.out]
  have S20 := S19
  have B8 : Hid (Below w.heap.size w w8) := below_next B0.out hb8
  clear hb8
  go_wp2_with fail
  refine hK _ _ (fun h => by cases h) ?_
  clear hK K
  (try simp only [Act.put, qA, qB, qC, qD, qE, qF])
  refine wpAnyN_done (by kernel_rfl) ?_ _
  clear S0 S5F S10 S19 S20 B0 HA HB CH CV
  go_wp2
  refine wp_region_N (fun w' => TI X pn tb tq t tv w') (fun i => i != 8) mixedE ((HS.out _ (below_next B8.out (below_drew _)))) ?_
  intro S0
  have B0 : Hid (Below w.heap.size w w8.drew) := (below_next B8.out (below_drew _))
  generalize w8.drew = wq at *
  refine tkT (i := 0) (v := ?_) rfl (Or.inl ⟨by rfl, ?_⟩) S0 ?_
  rotate_left
  · intro w' hS'
    obtain ⟨h0, h1, h2, h3, h4, h5, h6⟩ := hS'
    (try go_simp)
    first | done | exact rfl | exact ⟨rfl, rfl⟩
  (try simp only [Act.put, qA, qC, qD, qE, qF])
  refine tkT (i := 1) (v := ?_) rfl (Or.inl ⟨by rfl, ?_⟩) S0 ?_
  rotate_left
  · intro w' hS'
    obtain ⟨h0, h1, h2, h3, h4, h5, h6⟩ := hS'
    (try go_simp)
    first | done | exact rfl | exact ⟨rfl, rfl⟩
  (try simp only [Act.put, qA, qB, qC, qD, qE, qF])
  refine tkT (i := 2) (v := ?_) rfl (Or.inl ⟨by rfl, ?_⟩) S0 ?_
  rotate_left
  · intro w' hS'
    obtain ⟨h0, h1, h2, h3, h4, h5, h6⟩ := hS'
    (try go_simp)
    first | done | exact rfl | exact ⟨rfl, rfl⟩
  (try simp only [Act.put, qA, qB, qC, qD, qE, qF])
  refine tkT (i := 3) (v := ?_) rfl (Or.inl ⟨by rfl, ?_⟩) S0 ?_
  rotate_left
  · intro w' hS'
    obtain ⟨h0, h1, h2, h3, h4, h5, h6⟩ := hS'
    (try go_simp)
    first | done | exact rfl | exact ⟨rfl, rfl⟩
  (try simp only [Act.put, qA, qB, qC, qD, qE, qF])
  refine tkT (i := 4) (v := ?_) rfl (Or.inl ⟨by rfl, ?_⟩) S0 ?_
  rotate_left
  · intro w' hS'
    obtain ⟨h0, h1, h2, h3, h4, h5, h6⟩ := hS'
    (try go_simp)
    first | done | exact rfl | exact ⟨rfl, rfl⟩
  (try simp only [Act.put, qA, qB, qC, qD, qE, qF])
  refine tkT (i := 5) (v := ?_) rfl (Or.inl ⟨by rfl, ?_⟩) S0 ?_
  rotate_left
  · intro w' hS'
    obtain ⟨h0, h1, h2, h3, h4, h5, h6⟩ := hS'
    (try go_simp)
    first | done | exact rfl | exact ⟨rfl, rfl⟩
  (try simp only [Act.put, qA, qB, qC, qD, qE, qF])
  refine tkT (i := 6) (v := ?_) rfl (Or.inl ⟨by rfl, ?_⟩) S0 ?_
  rotate_left
  · intro w' hS'
    obtain ⟨h0, h1, h2, h3, h4, h5, h6⟩ := hS'
    (try go_simp)
    first | done | exact rfl | exact ⟨rfl, rfl⟩
  (try simp only [Act.put, qA, qB, qC, qD, qE, qF])
  refine tkT (i := 7) (v := ?_) rfl (Or.inl ⟨by rfl, ?_⟩) S0 ?_
  rotate_left
  · intro w' hS'
    obtain ⟨h0, h1, h2, h3, h4, h5, h6⟩ := hS'
    (try go_simp)
    first | done | exact rfl | exact ⟨rfl, rfl⟩
  (try simp only [Act.put, qA, qB, qC, qD, qE, qF])
  have GC : Hid (Calls Tryd.prog 36 #[.pointer (some ⟨pn, 0, none⟩), .int .i64 t.el] wq fun e w' => e = .returned (.tuple #[]) ∧ w' = (wq.setCell ⟨L.pb m.bl.length, 4, none⟩ (.int .i64 t.el)).setCell ⟨L.pb m.bl.length, 5, none⟩ (.int .i64 0)) := (by rw [PN.out]; exact goTo_c (HM.out _ B0.out).now t.el)
  refine wpAnyN_one (i := 8) (by kernel_rfl) rfl (fun K hK => ?_)
  go_simp
  refine Calls.mono GC.out ?_
  rintro e w7 ⟨rfl, hw7⟩
  rw [hw7]
  clear hw7 w7 GC
  go_wp2_with fail
  refine hK _ _ (fun h => by cases h) ?_
  clear hK K
  (try simp only [Act.put, qA, qB, qC, qD, qE, qF])
  have S9 := S0
  refine wpAnyN_done (by kernel_rfl) ?_ _
  go_wp2
  go_end0
  exact ⟨rfl, L, (HM.out _ B0.out).gone t.el hb⟩
end
end Go.Proofs.YtapgaclonilnbaaDoor

/-
  Proved: what a block's end of kind 3a does to the machine.
-/
namespace Go.Proofs.YtapgaclonilnbaaDoor
open Go.RowKit
set_option linter.unusedVariables false
set_option linter.unusedSimpArgs false

section
variable {X : Cx} {m : Mc} {st : Int} {L : Ly} {w w' : World} {t : Le} {tb tq : Nat} {tv : Value}

set_option maxRecDepth 20000 in
set_option maxHeartbeats 4000000 in
theorem ter_3a (h : MS X m st L w) (hx : RowAt X.wz tb tq (leC t tv)) (hop : t.k = 3) (hargs : NosIn X.wz t.args tv) (hr : ∀ r ∈ t.args, rdB m.nw.rg.length r = true) (hl8 : t.args.length ≤ 8) (hk : m.nw.fn < X.l.length) (q : Bool) (hq : X.l[m.nw.fn].qu = q) (hld : -1000 ≤ m.ld ∧ m.ld ≤ 1000) (hbl : m.bl = []) :
    Calls Tryd.prog 26 #[.pointer (some ⟨X.R, 0, none⟩), .pointer (some ⟨tb, tq, none⟩)] w fun e w' => e = .returned (.tuple #[]) ∧ ∃ z nv L, z.cs = [] ∧ z.out = m.out ∧ MX X z nv st L w' := by
  have c0 : w.cell? ⟨tb, tq, none⟩ = some (.int .i64 3) := by
    have := (h.bz.cell (p := ⟨tb, tq + 0, none⟩) hx.1).trans (hx.at 0 (v := .int .i64 t.k) rfl)
    rwa [hop] at this
  obtain ⟨pn, hpn⟩ : ∃ pn, pn = L.pb m.bl.length := ⟨_, rfl⟩
  have PN : Hid (pn = L.pb m.bl.length) := hpn
  have HS : Hid (∀ w', Below w.heap.size w w' → TI X pn tb tq t tv w') := fun w' hb => (by rw [hpn]; exact (h.below hb).ti hx : TI X pn tb tq t tv w')
  have HM : Hid (∀ w', Below w.heap.size w w' → MS X m st L w') := fun w' hb => h.below hb
  have HX : Hid (RowAt X.wz tb tq (leC t tv)) := hx
  have AL : Hid (∀ w1, Below w.heap.size w w1 → Calls Tryd.prog 40 #[.pointer (some ⟨pn, 0, none⟩), tv] w1 fun e w' => e = .returned (.slice (some ⟨w1.heap.size, 0, none⟩) t.args.length t.args.length) ∧ Below w1.heap.size w1 w' ∧ WZ w' w1.heap.size t.args.length fun i => (t.args.map (cw m.nw)).getD i 0) := fun w1 hw1 => (by rw [hpn]; exact all_c (HM.out w1 hw1).now t.args tv (hargs.below (HM.out w1 hw1).bz) (by omega) hr)
  have RL : Hid (True) := trivial
  have EN : Hid (∀ wq w9 : World, Below w.heap.size w wq → MS X m st L w9 → WZ w9 wq.heap.size t.args.length (fun i => (t.args.map (cw m.nw)).getD i 0) → Calls Tryd.prog 39 #[.pointer (some ⟨X.R, 0, none⟩), .slice (some ⟨wq.heap.size, 0, none⟩) t.args.length t.args.length] w9 fun e w' => e = .returned (.tuple #[]) ∧ ∃ z nv L, z.cs = [] ∧ z.out = m.out ∧ MX X z nv st L w') := fun wq w9 hq9 h9 hz9 => by
    cases q with
    | true => exact (leave_A_true h9 hk hq hld hbl _).mono fun e w' ⟨h1, L', nv, h2⟩ => ⟨h1, _, nv, L', rfl, rfl, h2⟩
    | false => exact (leave_A_false h9 hk hq hld hbl _).mono fun e w' ⟨h1, L', nv, h2⟩ => ⟨h1, _, nv, L', rfl, rfl, h2⟩
  clear hbl
  clear hargs hr hl8 hk hq hld
  clear h hx hop hpn
  go_enter Tryd.func26, Tryd.ntmps26
  go_wp2
  clear c0
  refine wp_region_N (fun w' => TI X pn tb tq t tv w') (fun i => i != 10) mixedE ((HS.out _ (below_drew _))) ?_
  intro S0
  have B0 : Hid (Below w.heap.size w w.drew) := (below_drew _)
  have AL : Hid (_) := AL.out _ B0.out
  generalize w.drew = wq at *
  refine tkT (i := 0) (v := ?_) rfl (Or.inl ⟨by rfl, ?_⟩) S0 ?_
  rotate_left
  · intro w' hS'
    obtain ⟨h0, h1, h2, h3, h4, h5, h6⟩ := hS'
    (try go_simp)
    first | done | exact rfl | exact ⟨rfl, rfl⟩
  (try simp only [Act.put, qA, qC, qD, qE, qF])
  refine tkT (i := 1) (v := ?_) rfl (Or.inl ⟨by rfl, ?_⟩) S0 ?_
  rotate_left
  · intro w' hS'
    obtain ⟨h0, h1, h2, h3, h4, h5, h6⟩ := hS'
    (try go_simp)
    first | done | exact rfl | exact ⟨rfl, rfl⟩
  (try simp only [Act.put, qA, qB, qC, qD, qE, qF])
  refine tkT (i := 2) (v := ?_) rfl (Or.inl ⟨by rfl, ?_⟩) S0 ?_
  rotate_left
  · intro w' hS'
    obtain ⟨h0, h1, h2, h3, h4, h5, h6⟩ := hS'
    (try go_simp)
    first | done | exact rfl | exact ⟨rfl, rfl⟩
  (try simp only [Act.put, qA, qB, qC, qD, qE, qF])
  refine tkT (i := 3) (v := ?_) rfl (Or.inl ⟨by rfl, ?_⟩) S0 ?_
  rotate_left
  · intro w' hS'
    obtain ⟨h0, h1, h2, h3, h4, h5, h6⟩ := hS'
    (try go_simp)
    first | done | exact rfl | exact ⟨rfl, rfl⟩
  (try simp only [Act.put, qA, qB, qC, qD, qE, qF])
  refine tkT (i := 4) (v := ?_) rfl (Or.inl ⟨by rfl, ?_⟩) S0 ?_
  rotate_left
  · intro w' hS'
    obtain ⟨h0, h1, h2, h3, h4, h5, h6⟩ := hS'
    (try go_simp)
    first | done | exact rfl | exact ⟨rfl, rfl⟩
  (try simp only [Act.put, qA, qB, qC, qD, qE, qF])
  refine tkT (i := 5) (v := ?_) rfl (Or.inl ⟨by rfl, ?_⟩) S0 ?_
  rotate_left
  · intro w' hS'
    obtain ⟨h0, h1, h2, h3, h4, h5, h6⟩ := hS'
    (try go_simp)
    first | done | exact rfl | exact ⟨rfl, rfl⟩
  (try simp only [Act.put, qA, qB, qC, qD, qE, qF])
  refine tkT (i := 6) (v := ?_) rfl (Or.inl ⟨by rfl, ?_⟩) S0 ?_
  rotate_left
  · intro w' hS'
    obtain ⟨h0, h1, h2, h3, h4, h5, h6⟩ := hS'
    (try go_simp)
    first | done | exact rfl | exact ⟨rfl, rfl⟩
  (try simp only [Act.put, qA, qB, qC, qD, qE, qF])
  refine tkT (i := 7) (v := ?_) rfl (Or.inl ⟨by rfl, ?_⟩) S0 ?_
  rotate_left
  · intro w' hS'
    obtain ⟨h0, h1, h2, h3, h4, h5, h6⟩ := hS'
    (try go_simp)
    first | done | exact rfl | exact ⟨rfl, rfl⟩
  (try simp only [Act.put, qA, qB, qC, qD, qE, qF])
  refine tkT (i := 8) (v := ?_) rfl (Or.inl ⟨by rfl, ?_⟩) S0 ?_
  rotate_left
  · intro w' hS'
    obtain ⟨h0, h1, h2, h3, h4, h5, h6⟩ := hS'
    (try go_simp)
    first | done | exact rfl | exact ⟨rfl, rfl⟩
  (try simp only [Act.put, qA, qB, qC, qD, qE, qF])
  refine wpAnyN_one (i := 9) (by kernel_rfl) rfl (fun K hK => ?_)
  go_simp
  refine Calls.mono AL.out ?_
  rintro e w9 ⟨rfl, hb7, hz7⟩
  have HM9 := (HM.out _ B0.out).below hb7
  have S10 := S0.below hb7
  have EC : Hid (Calls Tryd.prog 39 #[.pointer (some ⟨X.R, 0, none⟩), .slice (some ⟨wq.heap.size, 0, none⟩) t.args.length t.args.length] w9 fun e w' => e = .returned (.tuple #[]) ∧ ∃ z nv L, z.cs = [] ∧ z.out = m.out ∧ MX X z nv st L w') := EN.out wq w9 B0.out HM9 hz7
  clear hb7 hz7 HM9 EN RL
  go_wp2_with fail
  refine hK _ _ (fun _ => S10) ?_
  clear hK K
  (try simp only [Act.put, qA, qB, qC, qD, qE, qF])
  refine wpAnyN_one (i := 10) (by kernel_rfl) rfl (fun K hK => ?_)
  go_simp
  refine Calls.mono EC.out ?_
  rintro e w7 ⟨rfl, z7, nv7, L7, z1, z2, hM⟩
  go_wp2_with fail
  refine hK _ _ (fun h => by cases h) ?_
  clear hK K
  (try simp only [Act.put, qA, qB, qC, qD, qE, qF])
  have S11 := S10
  refine wpAnyN_done (by kernel_rfl) ?_ _
  go_wp2
  go_end0
  exact ⟨rfl, z7, nv7, L7, z1, z2, hM⟩
end
end Go.Proofs.YtapgaclonilnbaaDoor

/-
  Proved: what a block's end of kind 3b does to the machine.
-/
namespace Go.Proofs.YtapgaclonilnbaaDoor
open Go.RowKit
set_option linter.unusedVariables false
set_option linter.unusedSimpArgs false

section
variable {X : Cx} {m : Mc} {st : Int} {L : Ly} {w w' : World} {t : Le} {tb tq : Nat} {tv : Value}

set_option maxRecDepth 20000 in
set_option maxHeartbeats 4000000 in
theorem ter_3b (h : MS X m st L w) (hx : RowAt X.wz tb tq (leC t tv)) (hop : t.k = 3) (hargs : NosIn X.wz t.args tv) (hr : ∀ r ∈ t.args, rdB m.nw.rg.length r = true) (hl8 : t.args.length ≤ 8) (hk : m.nw.fn < X.l.length) (q : Bool) (hq : X.l[m.nw.fn].qu = q) (hld : -1000 ≤ m.ld ∧ m.ld ≤ 1000) (bl : List Cl) (c : Cl) (hbl : m.bl = bl ++ [c]) (hn : bl.length < 1000) (hck : c.fn < X.l.length) (hcb : c.bk < X.l[c.fn].bs.length) (j : Nat) (hnx : c.nx = j + 1) (hj : j < X.l[c.fn].bs[c.bk].li.length) (hbs : X.l[c.fn].bs.length ≤ 281474976710656) (hlen : X.l[c.fn].bs[c.bk].li[j].dsts.length = t.args.length) (hds : ∀ r ∈ X.l[c.fn].bs[c.bk].li[j].dsts, 0 ≤ r ∧ r < c.rg.length) :
    Calls Tryd.prog 26 #[.pointer (some ⟨X.R, 0, none⟩), .pointer (some ⟨tb, tq, none⟩)] w fun e w' => e = .returned (.tuple #[]) ∧ ∃ L', MS X ⟨bl, setsR c X.l[c.fn].bs[c.bk].li[j].dsts (t.args.map (cw m.nw)), m.us, m.wo, m.ip, m.out, if q then m.ld else m.ld - 1⟩ st L' w' := by
  have c0 : w.cell? ⟨tb, tq, none⟩ = some (.int .i64 3) := by
    have := (h.bz.cell (p := ⟨tb, tq + 0, none⟩) hx.1).trans (hx.at 0 (v := .int .i64 t.k) rfl)
    rwa [hop] at this
  obtain ⟨pn, hpn⟩ : ∃ pn, pn = L.pb m.bl.length := ⟨_, rfl⟩
  have PN : Hid (pn = L.pb m.bl.length) := hpn
  have HS : Hid (∀ w', Below w.heap.size w w' → TI X pn tb tq t tv w') := fun w' hb => (by rw [hpn]; exact (h.below hb).ti hx : TI X pn tb tq t tv w')
  have HM : Hid (∀ w', Below w.heap.size w w' → MS X m st L w') := fun w' hb => h.below hb
  have HX : Hid (RowAt X.wz tb tq (leC t tv)) := hx
  have AL : Hid (∀ w1, Below w.heap.size w w1 → Calls Tryd.prog 40 #[.pointer (some ⟨pn, 0, none⟩), tv] w1 fun e w' => e = .returned (.slice (some ⟨w1.heap.size, 0, none⟩) t.args.length t.args.length) ∧ Below w1.heap.size w1 w' ∧ WZ w' w1.heap.size t.args.length fun i => (t.args.map (cw m.nw)).getD i 0) := fun w1 hw1 => (by rw [hpn]; exact all_c (HM.out w1 hw1).now t.args tv (hargs.below (HM.out w1 hw1).bz) (by omega) hr)
  obtain ⟨m2, hm2⟩ : ∃ m2 : Mc, m2 = ⟨bl, setsR c X.l[c.fn].bs[c.bk].li[j].dsts (t.args.map (cw m.nw)), m.us, m.wo, m.ip, m.out, if q then m.ld else m.ld - 1⟩ := ⟨_, rfl⟩
  have RL : Hid (True) := trivial
  have EN : Hid (∀ wq w9 : World, Below w.heap.size w wq → MS X m st L w9 → WZ w9 wq.heap.size t.args.length (fun i => (t.args.map (cw m.nw)).getD i 0) → Calls Tryd.prog 39 #[.pointer (some ⟨X.R, 0, none⟩), .slice (some ⟨wq.heap.size, 0, none⟩) t.args.length t.args.length] w9 fun e w' => e = .returned (.tuple #[]) ∧ ∃ L', MS X m2 st L' w') := fun wq w9 hq9 h9 hz9 => by
    have ha : AOn X L bl.length w9 (t.args.map (cw m.nw)) (some ⟨wq.heap.size, 0, none⟩) := fun i hi => by
      have hi2 : i < t.args.length := by simpa using hi
      have lt := h.lts
      have sz := hq9.size
      refine ⟨wq.heap.size, 0, rfl, by omega, fun jj hjj => ?_, ?_⟩
      · have := (lt.2.2.2.2 jj (by rw [hbl]; simp; omega)).2.1
        omega
      · have := GZ.cell hz9 i hi2
        rw [Nat.zero_add, this]
        simp [List.getD_eq_getElem?_getD, hi2]
    rw [hm2]
    have el : (t.args.map (cw m.nw)).length = t.args.length := by simp
    cases q with
    | true => have := leave_B_true h9 hk hq hld bl c hbl hn hck hcb j hnx hj hbs (t.args.map (cw m.nw)) _ t.args.length ha (by rw [el]; exact hlen) (by rw [el]; exact hl8) hds; rw [el] at this; exact this
    | false => have := leave_B_false h9 hk hq hld bl c hbl hn hck hcb j hnx hj hbs (t.args.map (cw m.nw)) _ t.args.length ha (by rw [el]; exact hlen) (by rw [el]; exact hl8) hds; rw [el] at this; exact this
  rw [← hm2]
  clear hm2 hbl hds hlen hj hbs hcb hck hnx
  clear hargs hr hl8 hk hq hld hn
  clear h hx hop hpn
  go_enter Tryd.func26, Tryd.ntmps26
  go_wp2
  clear c0
  refine wp_region_N (fun w' => TI X pn tb tq t tv w') (fun i => i != 10) mixedE ((HS.out _ (below_drew _))) ?_
  intro S0
  have B0 : Hid (Below w.heap.size w w.drew) := (below_drew _)
  have AL : Hid (_) := AL.out _ B0.out
  generalize w.drew = wq at *
  refine tkT (i := 0) (v := ?_) rfl (Or.inl ⟨by rfl, ?_⟩) S0 ?_
  rotate_left
  · intro w' hS'
    obtain ⟨h0, h1, h2, h3, h4, h5, h6⟩ := hS'
    (try go_simp)
    first | done | exact rfl | exact ⟨rfl, rfl⟩
  (try simp only [Act.put, qA, qC, qD, qE, qF])
  refine tkT (i := 1) (v := ?_) rfl (Or.inl ⟨by rfl, ?_⟩) S0 ?_
  rotate_left
  · intro w' hS'
    obtain ⟨h0, h1, h2, h3, h4, h5, h6⟩ := hS'
    (try go_simp)
    first | done | exact rfl | exact ⟨rfl, rfl⟩
  (try simp only [Act.put, qA, qB, qC, qD, qE, qF])
  refine tkT (i := 2) (v := ?_) rfl (Or.inl ⟨by rfl, ?_⟩) S0 ?_
  rotate_left
  · intro w' hS'
    obtain ⟨h0, h1, h2, h3, h4, h5, h6⟩ := hS'
    (try go_simp)
    first | done | exact rfl | exact ⟨rfl, rfl⟩
  (try simp only [Act.put, qA, qB, qC, qD, qE, qF])
  refine tkT (i := 3) (v := ?_) rfl (Or.inl ⟨by rfl, ?_⟩) S0 ?_
  rotate_left
  · intro w' hS'
    obtain ⟨h0, h1, h2, h3, h4, h5, h6⟩ := hS'
    (try go_simp)
    first | done | exact rfl | exact ⟨rfl, rfl⟩
  (try simp only [Act.put, qA, qB, qC, qD, qE, qF])
  refine tkT (i := 4) (v := ?_) rfl (Or.inl ⟨by rfl, ?_⟩) S0 ?_
  rotate_left
  · intro w' hS'
    obtain ⟨h0, h1, h2, h3, h4, h5, h6⟩ := hS'
    (try go_simp)
    first | done | exact rfl | exact ⟨rfl, rfl⟩
  (try simp only [Act.put, qA, qB, qC, qD, qE, qF])
  refine tkT (i := 5) (v := ?_) rfl (Or.inl ⟨by rfl, ?_⟩) S0 ?_
  rotate_left
  · intro w' hS'
    obtain ⟨h0, h1, h2, h3, h4, h5, h6⟩ := hS'
    (try go_simp)
    first | done | exact rfl | exact ⟨rfl, rfl⟩
  (try simp only [Act.put, qA, qB, qC, qD, qE, qF])
  refine tkT (i := 6) (v := ?_) rfl (Or.inl ⟨by rfl, ?_⟩) S0 ?_
  rotate_left
  · intro w' hS'
    obtain ⟨h0, h1, h2, h3, h4, h5, h6⟩ := hS'
    (try go_simp)
    first | done | exact rfl | exact ⟨rfl, rfl⟩
  (try simp only [Act.put, qA, qB, qC, qD, qE, qF])
  refine tkT (i := 7) (v := ?_) rfl (Or.inl ⟨by rfl, ?_⟩) S0 ?_
  rotate_left
  · intro w' hS'
    obtain ⟨h0, h1, h2, h3, h4, h5, h6⟩ := hS'
    (try go_simp)
    first | done | exact rfl | exact ⟨rfl, rfl⟩
  (try simp only [Act.put, qA, qB, qC, qD, qE, qF])
  refine tkT (i := 8) (v := ?_) rfl (Or.inl ⟨by rfl, ?_⟩) S0 ?_
  rotate_left
  · intro w' hS'
    obtain ⟨h0, h1, h2, h3, h4, h5, h6⟩ := hS'
    (try go_simp)
    first | done | exact rfl | exact ⟨rfl, rfl⟩
  (try simp only [Act.put, qA, qB, qC, qD, qE, qF])
  refine wpAnyN_one (i := 9) (by kernel_rfl) rfl (fun K hK => ?_)
  go_simp
  refine Calls.mono AL.out ?_
  rintro e w9 ⟨rfl, hb7, hz7⟩
  have HM9 := (HM.out _ B0.out).below hb7
  have S10 := S0.below hb7
  have EC : Hid (Calls Tryd.prog 39 #[.pointer (some ⟨X.R, 0, none⟩), .slice (some ⟨wq.heap.size, 0, none⟩) t.args.length t.args.length] w9 fun e w' => e = .returned (.tuple #[]) ∧ ∃ L', MS X m2 st L' w') := EN.out wq w9 B0.out HM9 hz7
  clear hb7 hz7 HM9 EN RL
  go_wp2_with fail
  refine hK _ _ (fun _ => S10) ?_
  clear hK K
  (try simp only [Act.put, qA, qB, qC, qD, qE, qF])
  refine wpAnyN_one (i := 10) (by kernel_rfl) rfl (fun K hK => ?_)
  go_simp
  refine Calls.mono EC.out ?_
  rintro e w7 ⟨rfl, L7, hM⟩
  go_wp2_with fail
  refine hK _ _ (fun h => by cases h) ?_
  clear hK K
  (try simp only [Act.put, qA, qB, qC, qD, qE, qF])
  have S11 := S10
  refine wpAnyN_done (by kernel_rfl) ?_ _
  go_wp2
  go_end0
  exact ⟨rfl, L7, hM⟩
end
end Go.Proofs.YtapgaclonilnbaaDoor
