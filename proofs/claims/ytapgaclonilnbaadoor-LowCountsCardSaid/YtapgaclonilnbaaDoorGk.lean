/-
  Proved: what an instruction of kind 8 does to the machine.
-/
import Derived.Test.YtapgaclonilnbaaDoorGh
import Derived.Test.YtapgaclonilnbaaDoorGi
import Derived.Test.YtapgaclonilnbaaDoorGj
namespace Go.Proofs.YtapgaclonilnbaaDoor
open Go.RowKit
set_option linter.unusedVariables false
set_option linter.unusedSimpArgs false

section
variable {X : Cx} {m : Mc} {st : Int} {L : Ly} {w w' : World} {x : Lo} {ib io : Nat} {av dv : Value}

set_option maxRecDepth 20000 in
set_option maxHeartbeats 4000000 in
theorem ins_8 (h : MS X m st L w) (hx : RowAt X.wz ib io (loC x av dv)) (hop : x.op = 8) (ha : rdB m.nw.rg.length x.a = true) (h32 : ∀ r, I32 (cw m.nw r)) (hl : m.out.length ≤ 10000000) :
    Calls Tryd.prog 27 #[.pointer (some ⟨X.R, 0, none⟩), .pointer (some ⟨ib, io, none⟩)] w fun e w' => e = .returned (.tuple #[]) ∧ ∃ L, MS X ({ m with out := m.out ++ [if x.n = 1 then wh (cw m.nw x.a) else cw m.nw x.a] }) st L w' := by
  have c0 : w.cell? ⟨ib, io, none⟩ = some (.int .i64 8) := by
    have := (h.bz.cell (p := ⟨ib, io + 0, none⟩) hx.1).trans (hx.at 0 (v := .int .i64 x.op) rfl)
    rwa [hop] at this
  obtain ⟨pn, hpn⟩ : ∃ pn, pn = L.pb m.bl.length := ⟨_, rfl⟩
  have PN : Hid (pn = L.pb m.bl.length) := hpn
  have HS : Hid (SI X pn ib io x av dv w.drew) := (by rw [hpn]; exact (h.below (below_drew w)).si hx : SI X pn ib io x av dv w.drew)
  have HM : Hid (MS X m st L w.drew) := h.below (below_drew w)
  have WA : Hid (Calls Tryd.prog 38 #[.pointer (some ⟨pn, 0, none⟩), .int .i64 x.a] w.drew fun e w' => e = .returned (.int .i32 (cw m.nw x.a)) ∧ w' = w.drew) := (by rw [hpn]; exact cword_c HM.out.now x.a (rdB_bg ha))
  obtain ⟨ov, hov⟩ : ∃ ov, ov = (if x.n = 1 then wh (cw m.nw x.a) else cw m.nw x.a) := ⟨_, rfl⟩
  rw [← hov]
  have PR : Hid (Calls Tryd.prog 44 #[.pointer (some ⟨X.R, 0, none⟩), .int .i32 (cw m.nw x.a), .bool (x.n == 1)] w.drew fun e w' => e = .returned (.tuple #[]) ∧ ∃ L', L'.pb = L.pb ∧ MS X { m with out := m.out ++ [ov] } st L' w') := (by have := print_c HM.out (cw m.nw x.a) (x.n == 1) (h32 _) hl; rw [hov]; simp only [beq_iff_eq] at this; exact this)
  clear h32 hl hov
  clear h hx hop hpn
  go_enter Tryd.func27, Tryd.ntmps27
  go_wp2
  refine wp_region_N (fun w' => SI X pn ib io x av dv w') (fun i => i != 15) mixedE (HS.out) ?_
  intro S0
  clear HS c0
  generalize w.drew = wq at *
  refine tkT (i := 0) (v := ?_) rfl (Or.inl ⟨by rfl, ?_⟩) S0 ?_
  rotate_left
  · intro w' hS'
    obtain ⟨h0, h1, h2, h3, h4, h5, h6, h7⟩ := hS'
    (try go_simp)
    first | done | exact rfl | exact ⟨rfl, rfl⟩
  (try simp only [Act.put, qA, qC, qD, qE, qF])
  refine tkT (i := 1) (v := ?_) rfl (Or.inl ⟨by rfl, ?_⟩) S0 ?_
  rotate_left
  · intro w' hS'
    obtain ⟨h0, h1, h2, h3, h4, h5, h6, h7⟩ := hS'
    (try go_simp)
    first | done | exact rfl | exact ⟨rfl, rfl⟩
  (try simp only [Act.put, qA, qB, qC, qD, qE, qF])
  refine tkT (i := 2) (v := ?_) rfl (Or.inl ⟨by rfl, ?_⟩) S0 ?_
  rotate_left
  · intro w' hS'
    obtain ⟨h0, h1, h2, h3, h4, h5, h6, h7⟩ := hS'
    (try go_simp)
    first | done | exact rfl | exact ⟨rfl, rfl⟩
  (try simp only [Act.put, qA, qB, qC, qD, qE, qF])
  refine tkT (i := 3) (v := ?_) rfl (Or.inl ⟨by rfl, ?_⟩) S0 ?_
  rotate_left
  · intro w' hS'
    obtain ⟨h0, h1, h2, h3, h4, h5, h6, h7⟩ := hS'
    (try go_simp)
    first | done | exact rfl | exact ⟨rfl, rfl⟩
  (try simp only [Act.put, qA, qB, qC, qD, qE, qF])
  refine tkT (i := 4) (v := ?_) rfl (Or.inl ⟨by rfl, ?_⟩) S0 ?_
  rotate_left
  · intro w' hS'
    obtain ⟨h0, h1, h2, h3, h4, h5, h6, h7⟩ := hS'
    (try go_simp)
    first | done | exact rfl | exact ⟨rfl, rfl⟩
  (try simp only [Act.put, qA, qB, qC, qD, qE, qF])
  refine tkT (i := 5) (v := ?_) rfl (Or.inl ⟨by rfl, ?_⟩) S0 ?_
  rotate_left
  · intro w' hS'
    obtain ⟨h0, h1, h2, h3, h4, h5, h6, h7⟩ := hS'
    (try go_simp)
    first | done | exact rfl | exact ⟨rfl, rfl⟩
  (try simp only [Act.put, qA, qB, qC, qD, qE, qF])
  refine tkT (i := 6) (v := ?_) rfl (Or.inl ⟨by rfl, ?_⟩) S0 ?_
  rotate_left
  · intro w' hS'
    obtain ⟨h0, h1, h2, h3, h4, h5, h6, h7⟩ := hS'
    (try go_simp)
    first | done | exact rfl | exact ⟨rfl, rfl⟩
  (try simp only [Act.put, qA, qB, qC, qD, qE, qF])
  refine tkT (i := 7) (v := ?_) rfl (Or.inl ⟨by rfl, ?_⟩) S0 ?_
  rotate_left
  · intro w' hS'
    obtain ⟨h0, h1, h2, h3, h4, h5, h6, h7⟩ := hS'
    (try go_simp)
    first | done | exact rfl | exact ⟨rfl, rfl⟩
  (try simp only [Act.put, qA, qB, qC, qD, qE, qF])
  refine tkT (i := 8) (v := ?_) rfl (Or.inl ⟨by rfl, ?_⟩) S0 ?_
  rotate_left
  · intro w' hS'
    obtain ⟨h0, h1, h2, h3, h4, h5, h6, h7⟩ := hS'
    (try go_simp)
    first | done | exact rfl | exact ⟨rfl, rfl⟩
  (try simp only [Act.put, qA, qB, qC, qD, qE, qF])
  refine tkT (i := 10) (v := ?_) rfl (Or.inl ⟨by rfl, ?_⟩) S0 ?_
  rotate_left
  · intro w' hS'
    obtain ⟨h0, h1, h2, h3, h4, h5, h6, h7⟩ := hS'
    (try go_simp)
    first | done | exact rfl | exact ⟨rfl, rfl⟩
  (try simp only [Act.put, qA, qB, qC, qD, qE, qF])
  refine tkT (i := 11) (v := ?_) rfl (Or.inl ⟨by rfl, ?_⟩) S0 ?_
  rotate_left
  · intro w' hS'
    obtain ⟨h0, h1, h2, h3, h4, h5, h6, h7⟩ := hS'
    (try go_simp)
    first | done | exact rfl | exact ⟨rfl, rfl⟩
  (try simp only [Act.put, qA, qB, qC, qD, qE, qF])
  refine tkT (i := 12) (v := ?_) rfl (Or.inl ⟨by rfl, ?_⟩) S0 ?_
  rotate_left
  · intro w' hS'
    obtain ⟨h0, h1, h2, h3, h4, h5, h6, h7⟩ := hS'
    (try go_simp)
    first | done | exact rfl | exact ⟨rfl, rfl⟩
  (try simp only [Act.put, qA, qB, qC, qD, qE, qF])
  refine tkT (i := 13) (v := ?_) rfl (Or.inl ⟨by rfl, ?_⟩) S0 ?_
  rotate_left
  · intro w' hS'
    obtain ⟨h0, h1, h2, h3, h4, h5, h6, h7⟩ := hS'
    (try go_simp)
    first | done | exact rfl | exact ⟨rfl, rfl⟩
  (try simp only [Act.put, qA, qB, qC, qD, qE, qF])
  refine tkT (i := 14) (v := ?_) rfl (Or.inl ⟨by rfl, ?_⟩) S0 ?_
  rotate_left
  · intro w' hS'
    obtain ⟨h0, h1, h2, h3, h4, h5, h6, h7⟩ := hS'
    (try go_simp)
    first | done | exact rfl | exact ⟨rfl, rfl⟩
  (try simp only [Act.put, qA, qB, qC, qD, qE, qF])
  refine wpAnyN_one (i := 9) (by kernel_rfl) rfl (fun K hK => ?_)
  go_simp
  refine Calls.mono (Hid.out WA) ?_
  rintro e w7 ⟨rfl, hw7⟩
  rw [hw7]
  clear hw7 w7
  go_wp2_with fail
  refine hK _ _ (fun _ => S0) ?_
  clear hK K
  (try simp only [Act.put, qA, qB, qC, qD, qE, qF])
  have S10 := S0
  refine wpAnyN_one (i := 15) (by kernel_rfl) rfl (fun K hK => ?_)
  go_simp
  refine Calls.mono (PR.out) ?_
  rintro e w7 ⟨rfl, L7, _, hM⟩
  go_wp2_with fail
  refine hK _ _ (fun h => by cases h) ?_
  clear hK K
  (try simp only [Act.put, qA, qB, qC, qD, qE, qF])
  have S16 := S10
  refine wpAnyN_done (by kernel_rfl) ?_ _
  go_wp2
  go_end0
  exact ⟨rfl, L7, hM⟩
end
end Go.Proofs.YtapgaclonilnbaaDoor

/-
  Proved: what an instruction of kind 9 does to the machine.
-/
namespace Go.Proofs.YtapgaclonilnbaaDoor
open Go.RowKit
set_option linter.unusedVariables false
set_option linter.unusedSimpArgs false

section
variable {X : Cx} {m : Mc} {st : Int} {L : Ly} {w w' : World} {x : Lo} {ib io : Nat} {av dv : Value}

set_option maxRecDepth 20000 in
set_option maxHeartbeats 4000000 in
theorem ins_9 (h : MS X m st L w) (hx : RowAt X.wz ib io (loC x av dv)) (hop : x.op = 9) (hd : rgB m.nw.rg.length x.d = true) :
    Calls Tryd.prog 27 #[.pointer (some ⟨X.R, 0, none⟩), .pointer (some ⟨ib, io, none⟩)] w fun e w' => e = .returned (.tuple #[]) ∧ ∃ L, MS X (setN { m with ip := m.ip.drop 1 } x.d (wd (m.ip.getD 0 0))) st L w' := by
  have c0 : w.cell? ⟨ib, io, none⟩ = some (.int .i64 9) := by
    have := (h.bz.cell (p := ⟨ib, io + 0, none⟩) hx.1).trans (hx.at 0 (v := .int .i64 x.op) rfl)
    rwa [hop] at this
  obtain ⟨pn, hpn⟩ : ∃ pn, pn = L.pb m.bl.length := ⟨_, rfl⟩
  have PN : Hid (pn = L.pb m.bl.length) := hpn
  have HS : Hid (SI X pn ib io x av dv w.drew) := (by rw [hpn]; exact (h.below (below_drew w)).si hx : SI X pn ib io x av dv w.drew)
  have HM : Hid (MS X m st L w.drew) := h.below (below_drew w)
  have d0 := rg_lt hd
  have HX : Hid (RowAt X.wz ib io (loC x av dv)) := hx
  have RD : Hid (Calls Tryd.prog 45 #[.pointer (some ⟨X.R, 0, none⟩)] w.drew fun e w' => e = .returned (.int .i32 (wd (m.ip.getD 0 0))) ∧ ∃ L', L'.pb = L.pb ∧ L'.rb = L.rb ∧ MS X { m with ip := m.ip.drop 1 } st L' w') := read_c HM.out
  obtain ⟨rv, hrv⟩ : ∃ rv, rv = wd (m.ip.getD 0 0) := ⟨_, rfl⟩
  rw [← hrv] at RD ⊢
  clear hrv
  clear h hx hop hpn
  go_enter Tryd.func27, Tryd.ntmps27
  go_wp2
  refine wp_region_N (fun w' => SI X pn ib io x av dv w') (fun i => i != 10) mixedE (HS.out) ?_
  intro S0
  clear HS c0
  generalize w.drew = wq at *
  refine tkT (i := 0) (v := ?_) rfl (Or.inl ⟨by rfl, ?_⟩) S0 ?_
  rotate_left
  · intro w' hS'
    obtain ⟨h0, h1, h2, h3, h4, h5, h6, h7⟩ := hS'
    (try go_simp)
    first | done | exact rfl | exact ⟨rfl, rfl⟩
  (try simp only [Act.put, qA, qC, qD, qE, qF])
  refine tkT (i := 1) (v := ?_) rfl (Or.inl ⟨by rfl, ?_⟩) S0 ?_
  rotate_left
  · intro w' hS'
    obtain ⟨h0, h1, h2, h3, h4, h5, h6, h7⟩ := hS'
    (try go_simp)
    first | done | exact rfl | exact ⟨rfl, rfl⟩
  (try simp only [Act.put, qA, qB, qC, qD, qE, qF])
  refine tkT (i := 2) (v := ?_) rfl (Or.inl ⟨by rfl, ?_⟩) S0 ?_
  rotate_left
  · intro w' hS'
    obtain ⟨h0, h1, h2, h3, h4, h5, h6, h7⟩ := hS'
    (try go_simp)
    first | done | exact rfl | exact ⟨rfl, rfl⟩
  (try simp only [Act.put, qA, qB, qC, qD, qE, qF])
  refine tkT (i := 3) (v := ?_) rfl (Or.inl ⟨by rfl, ?_⟩) S0 ?_
  rotate_left
  · intro w' hS'
    obtain ⟨h0, h1, h2, h3, h4, h5, h6, h7⟩ := hS'
    (try go_simp)
    first | done | exact rfl | exact ⟨rfl, rfl⟩
  (try simp only [Act.put, qA, qB, qC, qD, qE, qF])
  refine tkT (i := 4) (v := ?_) rfl (Or.inl ⟨by rfl, ?_⟩) S0 ?_
  rotate_left
  · intro w' hS'
    obtain ⟨h0, h1, h2, h3, h4, h5, h6, h7⟩ := hS'
    (try go_simp)
    first | done | exact rfl | exact ⟨rfl, rfl⟩
  (try simp only [Act.put, qA, qB, qC, qD, qE, qF])
  refine tkT (i := 5) (v := ?_) rfl (Or.inl ⟨by rfl, ?_⟩) S0 ?_
  rotate_left
  · intro w' hS'
    obtain ⟨h0, h1, h2, h3, h4, h5, h6, h7⟩ := hS'
    (try go_simp)
    first | done | exact rfl | exact ⟨rfl, rfl⟩
  (try simp only [Act.put, qA, qB, qC, qD, qE, qF])
  refine tkT (i := 6) (v := ?_) rfl (Or.inl ⟨by rfl, ?_⟩) S0 ?_
  rotate_left
  · intro w' hS'
    obtain ⟨h0, h1, h2, h3, h4, h5, h6, h7⟩ := hS'
    (try go_simp)
    first | done | exact rfl | exact ⟨rfl, rfl⟩
  (try simp only [Act.put, qA, qB, qC, qD, qE, qF])
  refine tkT (i := 7) (v := ?_) rfl (Or.inl ⟨by rfl, ?_⟩) S0 ?_
  rotate_left
  · intro w' hS'
    obtain ⟨h0, h1, h2, h3, h4, h5, h6, h7⟩ := hS'
    (try go_simp)
    first | done | exact rfl | exact ⟨rfl, rfl⟩
  (try simp only [Act.put, qA, qB, qC, qD, qE, qF])
  refine tkT (i := 8) (v := ?_) rfl (Or.inl ⟨by rfl, ?_⟩) S0 ?_
  rotate_left
  · intro w' hS'
    obtain ⟨h0, h1, h2, h3, h4, h5, h6, h7⟩ := hS'
    (try go_simp)
    first | done | exact rfl | exact ⟨rfl, rfl⟩
  (try simp only [Act.put, qA, qB, qC, qD, qE, qF])
  refine wpAnyN_one (i := 9) (by kernel_rfl) rfl (fun K hK => ?_)
  go_simp
  refine Calls.mono RD.out ?_
  rintro e w9 ⟨rfl, L9, l1, l2, hM9⟩
  have S10 : SI X pn ib io x av dv w9 := by
    have := hM9.si HX.out
    rw [l1, ← PN.out] at this
    exact this
  have HM9 : Hid (MS X { m with ip := m.ip.drop 1 } st L9 w9 ∧ L9.pb = L.pb) := ⟨hM9, l1⟩
  clear hM9 l2
  go_wp2_with fail
  refine hK _ _ (fun _ => S10) ?_
  clear hK K
  (try simp only [Act.put, qA, qB, qC, qD, qE, qF])
  have SC : Hid (Calls Tryd.prog 25 #[.pointer (some ⟨pn, 0, none⟩), .int .i64 x.d, .int .i32 (rv)] w9 fun e w' => e = .returned (.tuple #[]) ∧ w' = w9.setCell ⟨L9.rb m.bl.length, x.d.toNat, none⟩ (.int .i32 (rv))) := (by rw [PN.out, ← HM9.out.2]; exact set_c HM9.out.1.now x.d _ d0.1 d0.2)
  refine wpAnyN_one (i := 10) (by kernel_rfl) rfl (fun K hK => ?_)
  go_simp
  refine Calls.mono SC.out ?_
  rintro e w7 ⟨rfl, hw7⟩
  rw [hw7]
  clear hw7 w7 SC
  go_wp2_with fail
  refine hK _ _ (fun h => by cases h) ?_
  clear hK K
  (try simp only [Act.put, qA, qB, qC, qD, qE, qF])
  have S11 := S10
  refine wpAnyN_done (by kernel_rfl) ?_ _
  go_wp2
  go_end0
  exact ⟨rfl, L9, (by have := MS.reg (HM9.out.1) x.d.toNat (show x.d.toNat < m.nw.rg.length by have := d0; omega) (rv); rwa [show ((x.d.toNat : Nat) : Int) = x.d by have := d0.1; omega] at this)⟩
end
end Go.Proofs.YtapgaclonilnbaaDoor

/-
  Proved: what an instruction of kind 10a does to the machine.
-/
namespace Go.Proofs.YtapgaclonilnbaaDoor
open Go.RowKit
set_option linter.unusedVariables false
set_option linter.unusedSimpArgs false

section
variable {X : Cx} {m : Mc} {st : Int} {L : Ly} {w w' : World} {x : Lo} {ib io : Nat} {av dv : Value}

set_option maxRecDepth 20000 in
set_option maxHeartbeats 4000000 in
theorem ins_10a (h : MS X m st L w) (hx : RowAt X.wz ib io (loC x av dv)) (hop : x.op = 10) (hd : rgB m.nw.rg.length x.d = true) (hal : (alA m.us (clsOf x.n)).2.1 = 0) :
    Calls Tryd.prog 27 #[.pointer (some ⟨X.R, 0, none⟩), .pointer (some ⟨ib, io, none⟩)] w fun e w' => e = .returned (.tuple #[]) ∧ ∃ L, MS X (setN { m with us := (alA m.us (clsOf x.n)).2.2 } x.d (wd (alA m.us (clsOf x.n)).1)) st L w' := by
  have c0 : w.cell? ⟨ib, io, none⟩ = some (.int .i64 10) := by
    have := (h.bz.cell (p := ⟨ib, io + 0, none⟩) hx.1).trans (hx.at 0 (v := .int .i64 x.op) rfl)
    rwa [hop] at this
  obtain ⟨pn, hpn⟩ : ∃ pn, pn = L.pb m.bl.length := ⟨_, rfl⟩
  have PN : Hid (pn = L.pb m.bl.length) := hpn
  have HS : Hid (SI X pn ib io x av dv w.drew) := (by rw [hpn]; exact (h.below (below_drew w)).si hx : SI X pn ib io x av dv w.drew)
  have HM : Hid (MS X m st L w.drew) := h.below (below_drew w)
  have d0 := rg_lt hd
  have HX : Hid (RowAt X.wz ib io (loC x av dv)) := hx
  have AL : Hid (Calls Tryd.prog 46 #[.pointer (some ⟨X.R, 0, none⟩), .int .i64 x.n] w.drew fun e w' => e = .returned (.int .i32 (wd (alA m.us (clsOf x.n)).1)) ∧ MS X { m with us := (alA m.us (clsOf x.n)).2.2 } st L w') := (alloc2_c HM.out x.n).mono fun e w' h => h.1 hal
  obtain ⟨rv, hrv⟩ : ∃ rv, rv = wd (alA m.us (clsOf x.n)).1 := ⟨_, rfl⟩
  rw [← hrv] at AL ⊢
  clear hrv hal
  clear h hx hop hpn
  go_enter Tryd.func27, Tryd.ntmps27
  go_wp2
  refine wp_region_N (fun w' => SI X pn ib io x av dv w') (fun i => i != 14) mixedE (HS.out) ?_
  intro S0
  clear HS c0
  generalize w.drew = wq at *
  refine tkT (i := 0) (v := ?_) rfl (Or.inl ⟨by rfl, ?_⟩) S0 ?_
  rotate_left
  · intro w' hS'
    obtain ⟨h0, h1, h2, h3, h4, h5, h6, h7⟩ := hS'
    (try go_simp)
    first | done | exact rfl | exact ⟨rfl, rfl⟩
  (try simp only [Act.put, qA, qC, qD, qE, qF])
  refine tkT (i := 1) (v := ?_) rfl (Or.inl ⟨by rfl, ?_⟩) S0 ?_
  rotate_left
  · intro w' hS'
    obtain ⟨h0, h1, h2, h3, h4, h5, h6, h7⟩ := hS'
    (try go_simp)
    first | done | exact rfl | exact ⟨rfl, rfl⟩
  (try simp only [Act.put, qA, qB, qC, qD, qE, qF])
  refine tkT (i := 2) (v := ?_) rfl (Or.inl ⟨by rfl, ?_⟩) S0 ?_
  rotate_left
  · intro w' hS'
    obtain ⟨h0, h1, h2, h3, h4, h5, h6, h7⟩ := hS'
    (try go_simp)
    first | done | exact rfl | exact ⟨rfl, rfl⟩
  (try simp only [Act.put, qA, qB, qC, qD, qE, qF])
  refine tkT (i := 3) (v := ?_) rfl (Or.inl ⟨by rfl, ?_⟩) S0 ?_
  rotate_left
  · intro w' hS'
    obtain ⟨h0, h1, h2, h3, h4, h5, h6, h7⟩ := hS'
    (try go_simp)
    first | done | exact rfl | exact ⟨rfl, rfl⟩
  (try simp only [Act.put, qA, qB, qC, qD, qE, qF])
  refine tkT (i := 4) (v := ?_) rfl (Or.inl ⟨by rfl, ?_⟩) S0 ?_
  rotate_left
  · intro w' hS'
    obtain ⟨h0, h1, h2, h3, h4, h5, h6, h7⟩ := hS'
    (try go_simp)
    first | done | exact rfl | exact ⟨rfl, rfl⟩
  (try simp only [Act.put, qA, qB, qC, qD, qE, qF])
  refine tkT (i := 5) (v := ?_) rfl (Or.inl ⟨by rfl, ?_⟩) S0 ?_
  rotate_left
  · intro w' hS'
    obtain ⟨h0, h1, h2, h3, h4, h5, h6, h7⟩ := hS'
    (try go_simp)
    first | done | exact rfl | exact ⟨rfl, rfl⟩
  (try simp only [Act.put, qA, qB, qC, qD, qE, qF])
  refine tkT (i := 6) (v := ?_) rfl (Or.inl ⟨by rfl, ?_⟩) S0 ?_
  rotate_left
  · intro w' hS'
    obtain ⟨h0, h1, h2, h3, h4, h5, h6, h7⟩ := hS'
    (try go_simp)
    first | done | exact rfl | exact ⟨rfl, rfl⟩
  (try simp only [Act.put, qA, qB, qC, qD, qE, qF])
  refine tkT (i := 7) (v := ?_) rfl (Or.inl ⟨by rfl, ?_⟩) S0 ?_
  rotate_left
  · intro w' hS'
    obtain ⟨h0, h1, h2, h3, h4, h5, h6, h7⟩ := hS'
    (try go_simp)
    first | done | exact rfl | exact ⟨rfl, rfl⟩
  (try simp only [Act.put, qA, qB, qC, qD, qE, qF])
  refine tkT (i := 8) (v := ?_) rfl (Or.inl ⟨by rfl, ?_⟩) S0 ?_
  rotate_left
  · intro w' hS'
    obtain ⟨h0, h1, h2, h3, h4, h5, h6, h7⟩ := hS'
    (try go_simp)
    first | done | exact rfl | exact ⟨rfl, rfl⟩
  (try simp only [Act.put, qA, qB, qC, qD, qE, qF])
  refine tkT (i := 9) (v := ?_) rfl (Or.inl ⟨by rfl, ?_⟩) S0 ?_
  rotate_left
  · intro w' hS'
    obtain ⟨h0, h1, h2, h3, h4, h5, h6, h7⟩ := hS'
    (try go_simp)
    first | done | exact rfl | exact ⟨rfl, rfl⟩
  (try simp only [Act.put, qA, qB, qC, qD, qE, qF])
  refine tkT (i := 10) (v := ?_) rfl (Or.inl ⟨by rfl, ?_⟩) S0 ?_
  rotate_left
  · intro w' hS'
    obtain ⟨h0, h1, h2, h3, h4, h5, h6, h7⟩ := hS'
    (try go_simp)
    first | done | exact rfl | exact ⟨rfl, rfl⟩
  (try simp only [Act.put, qA, qB, qC, qD, qE, qF])
  refine tkT (i := 11) (v := ?_) rfl (Or.inl ⟨by rfl, ?_⟩) S0 ?_
  rotate_left
  · intro w' hS'
    obtain ⟨h0, h1, h2, h3, h4, h5, h6, h7⟩ := hS'
    (try go_simp)
    first | done | exact rfl | exact ⟨rfl, rfl⟩
  (try simp only [Act.put, qA, qB, qC, qD, qE, qF])
  refine tkT (i := 12) (v := ?_) rfl (Or.inl ⟨by rfl, ?_⟩) S0 ?_
  rotate_left
  · intro w' hS'
    obtain ⟨h0, h1, h2, h3, h4, h5, h6, h7⟩ := hS'
    (try go_simp)
    first | done | exact rfl | exact ⟨rfl, rfl⟩
  (try simp only [Act.put, qA, qB, qC, qD, qE, qF])
  refine wpAnyN_one (i := 13) (by kernel_rfl) rfl (fun K hK => ?_)
  go_simp
  refine Calls.mono AL.out ?_
  rintro e w9 ⟨rfl, hM9⟩
  have S14 : SI X pn ib io x av dv w9 := by
    have := hM9.si HX.out
    rw [PN.out]
    exact this
  have HM9 : Hid (MS X { m with us := (alA m.us (clsOf x.n)).2.2 } st L w9) := hM9
  clear hM9
  go_wp2_with fail
  refine hK _ _ (fun _ => S14) ?_
  clear hK K
  (try simp only [Act.put, qA, qB, qC, qD, qE, qF])
  have SC : Hid (Calls Tryd.prog 25 #[.pointer (some ⟨pn, 0, none⟩), .int .i64 x.d, .int .i32 rv] w9 fun e w' => e = .returned (.tuple #[]) ∧ w' = w9.setCell ⟨L.rb m.bl.length, x.d.toNat, none⟩ (.int .i32 rv)) := (by rw [PN.out]; exact set_c HM9.out.now x.d _ d0.1 d0.2)
  refine wpAnyN_one (i := 14) (by kernel_rfl) rfl (fun K hK => ?_)
  go_simp
  refine Calls.mono SC.out ?_
  rintro e w7 ⟨rfl, hw7⟩
  rw [hw7]
  clear hw7 w7 SC
  go_wp2_with fail
  refine hK _ _ (fun h => by cases h) ?_
  clear hK K
  (try simp only [Act.put, qA, qB, qC, qD, qE, qF])
  have S15 := S14
  refine wpAnyN_done (by kernel_rfl) ?_ _
  go_wp2
  go_end0
  exact ⟨rfl, L, (by have := MS.reg (HM9.out) x.d.toNat (show x.d.toNat < m.nw.rg.length by have := d0; omega) (rv); rwa [show ((x.d.toNat : Nat) : Int) = x.d by have := d0.1; omega] at this)⟩
end
end Go.Proofs.YtapgaclonilnbaaDoor

/-
  Proved: what an instruction of kind 10b does to the machine.
-/
namespace Go.Proofs.YtapgaclonilnbaaDoor
open Go.RowKit
set_option linter.unusedVariables false
set_option linter.unusedSimpArgs false

section
variable {X : Cx} {m : Mc} {st : Int} {L : Ly} {w w' : World} {x : Lo} {ib io : Nat} {av dv : Value}

set_option maxRecDepth 20000 in
set_option maxHeartbeats 4000000 in
theorem ins_10b (h : MS X m st L w) (hx : RowAt X.wz ib io (loC x av dv)) (hop : x.op = 10) (hal : (alA m.us (clsOf x.n)).2.1 ≠ 0) :
    Calls Tryd.prog 27 #[.pointer (some ⟨X.R, 0, none⟩), .pointer (some ⟨ib, io, none⟩)] w fun e w' => e = .panicked [{ v := endV 3 0, recovered := false }] ∧ ∃ z nv L, z.out = m.out ∧ MX X z nv st L w' := by
  have c0 : w.cell? ⟨ib, io, none⟩ = some (.int .i64 10) := by
    have := (h.bz.cell (p := ⟨ib, io + 0, none⟩) hx.1).trans (hx.at 0 (v := .int .i64 x.op) rfl)
    rwa [hop] at this
  obtain ⟨pn, hpn⟩ : ∃ pn, pn = L.pb m.bl.length := ⟨_, rfl⟩
  have PN : Hid (pn = L.pb m.bl.length) := hpn
  have HS : Hid (SI X pn ib io x av dv w.drew) := (by rw [hpn]; exact (h.below (below_drew w)).si hx : SI X pn ib io x av dv w.drew)
  have HM : Hid (MS X m st L w.drew) := h.below (below_drew w)
  have AL : Hid (Calls Tryd.prog 46 #[.pointer (some ⟨X.R, 0, none⟩), .int .i64 x.n] w.drew fun e w' => e = .panicked [{ v := endV 3 0, recovered := false }] ∧ MS X { m with us := (alA m.us (clsOf x.n)).2.2 } st L w') := (alloc2_c HM.out x.n).mono fun e w' h => h.2 hal
  clear hal
  clear h hx hop hpn
  go_enter Tryd.func27, Tryd.ntmps27
  go_wp2
  refine wp_region_N (fun w' => SI X pn ib io x av dv w') (fun i => i != 14) mixedE (HS.out) ?_
  intro S0
  clear HS c0
  generalize w.drew = wq at *
  refine tkT (i := 0) (v := ?_) rfl (Or.inl ⟨by rfl, ?_⟩) S0 ?_
  rotate_left
  · intro w' hS'
    obtain ⟨h0, h1, h2, h3, h4, h5, h6, h7⟩ := hS'
    (try go_simp)
    first | done | exact rfl | exact ⟨rfl, rfl⟩
  (try simp only [Act.put, qA, qC, qD, qE, qF])
  refine tkT (i := 1) (v := ?_) rfl (Or.inl ⟨by rfl, ?_⟩) S0 ?_
  rotate_left
  · intro w' hS'
    obtain ⟨h0, h1, h2, h3, h4, h5, h6, h7⟩ := hS'
    (try go_simp)
    first | done | exact rfl | exact ⟨rfl, rfl⟩
  (try simp only [Act.put, qA, qB, qC, qD, qE, qF])
  refine tkT (i := 2) (v := ?_) rfl (Or.inl ⟨by rfl, ?_⟩) S0 ?_
  rotate_left
  · intro w' hS'
    obtain ⟨h0, h1, h2, h3, h4, h5, h6, h7⟩ := hS'
    (try go_simp)
    first | done | exact rfl | exact ⟨rfl, rfl⟩
  (try simp only [Act.put, qA, qB, qC, qD, qE, qF])
  refine tkT (i := 3) (v := ?_) rfl (Or.inl ⟨by rfl, ?_⟩) S0 ?_
  rotate_left
  · intro w' hS'
    obtain ⟨h0, h1, h2, h3, h4, h5, h6, h7⟩ := hS'
    (try go_simp)
    first | done | exact rfl | exact ⟨rfl, rfl⟩
  (try simp only [Act.put, qA, qB, qC, qD, qE, qF])
  refine tkT (i := 4) (v := ?_) rfl (Or.inl ⟨by rfl, ?_⟩) S0 ?_
  rotate_left
  · intro w' hS'
    obtain ⟨h0, h1, h2, h3, h4, h5, h6, h7⟩ := hS'
    (try go_simp)
    first | done | exact rfl | exact ⟨rfl, rfl⟩
  (try simp only [Act.put, qA, qB, qC, qD, qE, qF])
  refine tkT (i := 5) (v := ?_) rfl (Or.inl ⟨by rfl, ?_⟩) S0 ?_
  rotate_left
  · intro w' hS'
    obtain ⟨h0, h1, h2, h3, h4, h5, h6, h7⟩ := hS'
    (try go_simp)
    first | done | exact rfl | exact ⟨rfl, rfl⟩
  (try simp only [Act.put, qA, qB, qC, qD, qE, qF])
  refine tkT (i := 6) (v := ?_) rfl (Or.inl ⟨by rfl, ?_⟩) S0 ?_
  rotate_left
  · intro w' hS'
    obtain ⟨h0, h1, h2, h3, h4, h5, h6, h7⟩ := hS'
    (try go_simp)
    first | done | exact rfl | exact ⟨rfl, rfl⟩
  (try simp only [Act.put, qA, qB, qC, qD, qE, qF])
  refine tkT (i := 7) (v := ?_) rfl (Or.inl ⟨by rfl, ?_⟩) S0 ?_
  rotate_left
  · intro w' hS'
    obtain ⟨h0, h1, h2, h3, h4, h5, h6, h7⟩ := hS'
    (try go_simp)
    first | done | exact rfl | exact ⟨rfl, rfl⟩
  (try simp only [Act.put, qA, qB, qC, qD, qE, qF])
  refine tkT (i := 8) (v := ?_) rfl (Or.inl ⟨by rfl, ?_⟩) S0 ?_
  rotate_left
  · intro w' hS'
    obtain ⟨h0, h1, h2, h3, h4, h5, h6, h7⟩ := hS'
    (try go_simp)
    first | done | exact rfl | exact ⟨rfl, rfl⟩
  (try simp only [Act.put, qA, qB, qC, qD, qE, qF])
  refine tkT (i := 9) (v := ?_) rfl (Or.inl ⟨by rfl, ?_⟩) S0 ?_
  rotate_left
  · intro w' hS'
    obtain ⟨h0, h1, h2, h3, h4, h5, h6, h7⟩ := hS'
    (try go_simp)
    first | done | exact rfl | exact ⟨rfl, rfl⟩
  (try simp only [Act.put, qA, qB, qC, qD, qE, qF])
  refine tkT (i := 10) (v := ?_) rfl (Or.inl ⟨by rfl, ?_⟩) S0 ?_
  rotate_left
  · intro w' hS'
    obtain ⟨h0, h1, h2, h3, h4, h5, h6, h7⟩ := hS'
    (try go_simp)
    first | done | exact rfl | exact ⟨rfl, rfl⟩
  (try simp only [Act.put, qA, qB, qC, qD, qE, qF])
  refine tkT (i := 11) (v := ?_) rfl (Or.inl ⟨by rfl, ?_⟩) S0 ?_
  rotate_left
  · intro w' hS'
    obtain ⟨h0, h1, h2, h3, h4, h5, h6, h7⟩ := hS'
    (try go_simp)
    first | done | exact rfl | exact ⟨rfl, rfl⟩
  (try simp only [Act.put, qA, qB, qC, qD, qE, qF])
  refine tkT (i := 12) (v := ?_) rfl (Or.inl ⟨by rfl, ?_⟩) S0 ?_
  rotate_left
  · intro w' hS'
    obtain ⟨h0, h1, h2, h3, h4, h5, h6, h7⟩ := hS'
    (try go_simp)
    first | done | exact rfl | exact ⟨rfl, rfl⟩
  (try simp only [Act.put, qA, qB, qC, qD, qE, qF])
  refine wpAnyN_one (i := 13) (by kernel_rfl) rfl (fun K hK => ?_)
  go_simp
  refine Calls.mono (AL.out) ?_
  rintro e w9 ⟨rfl, hM9⟩
  exact ⟨rfl, rfl, _, _, _, (by rfl), MS.toX hM9⟩
end
end Go.Proofs.YtapgaclonilnbaaDoor

/-
  Proved: what an instruction of kind 11a does to the machine.
-/
namespace Go.Proofs.YtapgaclonilnbaaDoor
open Go.RowKit
set_option linter.unusedVariables false
set_option linter.unusedSimpArgs false

section
variable {X : Cx} {m : Mc} {st : Int} {L : Ly} {w w' : World} {x : Lo} {ib io : Nat} {av dv : Value}

set_option maxRecDepth 20000 in
set_option maxHeartbeats 4000000 in
theorem ins_11a (h : MS X m st L w) (hx : RowAt X.wz ib io (loC x av dv)) (hop : x.op = 11) (ha : rdB m.nw.rg.length x.a = true) (hfr : (frA m.us (wh (cw m.nw x.a)) (atOf (wh (cw m.nw x.a)))).1 = 0) :
    Calls Tryd.prog 27 #[.pointer (some ⟨X.R, 0, none⟩), .pointer (some ⟨ib, io, none⟩)] w fun e w' => e = .returned (.tuple #[]) ∧ ∃ L, MS X ({ m with us := (frA m.us (wh (cw m.nw x.a)) (atOf (wh (cw m.nw x.a)))).2 }) st L w' := by
  have c0 : w.cell? ⟨ib, io, none⟩ = some (.int .i64 11) := by
    have := (h.bz.cell (p := ⟨ib, io + 0, none⟩) hx.1).trans (hx.at 0 (v := .int .i64 x.op) rfl)
    rwa [hop] at this
  obtain ⟨pn, hpn⟩ : ∃ pn, pn = L.pb m.bl.length := ⟨_, rfl⟩
  have PN : Hid (pn = L.pb m.bl.length) := hpn
  have HS : Hid (SI X pn ib io x av dv w.drew) := (by rw [hpn]; exact (h.below (below_drew w)).si hx : SI X pn ib io x av dv w.drew)
  have HM : Hid (MS X m st L w.drew) := h.below (below_drew w)
  have WA : Hid (Calls Tryd.prog 38 #[.pointer (some ⟨pn, 0, none⟩), .int .i64 x.a] w.drew fun e w' => e = .returned (.int .i32 (cw m.nw x.a)) ∧ w' = w.drew) := (by rw [hpn]; exact cword_c HM.out.now x.a (rdB_bg ha))
  have hwh := wh_in (cw m.nw x.a)
  have FR : Hid (Calls Tryd.prog 47 #[.pointer (some ⟨X.R, 0, none⟩), .int .u32 (IntKind.u32.wrap (cw m.nw x.a))] w.drew fun e w' => e = .returned (.tuple #[]) ∧ MS X { m with us := (frA m.us (wh (cw m.nw x.a)) (atOf (wh (cw m.nw x.a)))).2 } st L w') := (by rw [conv_u32]; exact (free2_c HM.out (wh (cw m.nw x.a)) hwh.1 hwh.2).mono fun e w' h => h.1 hfr)
  clear hwh hfr
  clear h hx hop hpn
  go_enter Tryd.func27, Tryd.ntmps27
  go_wp2
  refine wp_region_N (fun w' => SI X pn ib io x av dv w') (fun i => i != 11) mixedE (HS.out) ?_
  intro S0
  clear HS c0
  generalize w.drew = wq at *
  refine tkT (i := 0) (v := ?_) rfl (Or.inl ⟨by rfl, ?_⟩) S0 ?_
  rotate_left
  · intro w' hS'
    obtain ⟨h0, h1, h2, h3, h4, h5, h6, h7⟩ := hS'
    (try go_simp)
    first | done | exact rfl | exact ⟨rfl, rfl⟩
  (try simp only [Act.put, qA, qC, qD, qE, qF])
  refine tkT (i := 1) (v := ?_) rfl (Or.inl ⟨by rfl, ?_⟩) S0 ?_
  rotate_left
  · intro w' hS'
    obtain ⟨h0, h1, h2, h3, h4, h5, h6, h7⟩ := hS'
    (try go_simp)
    first | done | exact rfl | exact ⟨rfl, rfl⟩
  (try simp only [Act.put, qA, qB, qC, qD, qE, qF])
  refine tkT (i := 2) (v := ?_) rfl (Or.inl ⟨by rfl, ?_⟩) S0 ?_
  rotate_left
  · intro w' hS'
    obtain ⟨h0, h1, h2, h3, h4, h5, h6, h7⟩ := hS'
    (try go_simp)
    first | done | exact rfl | exact ⟨rfl, rfl⟩
  (try simp only [Act.put, qA, qB, qC, qD, qE, qF])
  refine tkT (i := 3) (v := ?_) rfl (Or.inl ⟨by rfl, ?_⟩) S0 ?_
  rotate_left
  · intro w' hS'
    obtain ⟨h0, h1, h2, h3, h4, h5, h6, h7⟩ := hS'
    (try go_simp)
    first | done | exact rfl | exact ⟨rfl, rfl⟩
  (try simp only [Act.put, qA, qB, qC, qD, qE, qF])
  refine tkT (i := 4) (v := ?_) rfl (Or.inl ⟨by rfl, ?_⟩) S0 ?_
  rotate_left
  · intro w' hS'
    obtain ⟨h0, h1, h2, h3, h4, h5, h6, h7⟩ := hS'
    (try go_simp)
    first | done | exact rfl | exact ⟨rfl, rfl⟩
  (try simp only [Act.put, qA, qB, qC, qD, qE, qF])
  refine tkT (i := 5) (v := ?_) rfl (Or.inl ⟨by rfl, ?_⟩) S0 ?_
  rotate_left
  · intro w' hS'
    obtain ⟨h0, h1, h2, h3, h4, h5, h6, h7⟩ := hS'
    (try go_simp)
    first | done | exact rfl | exact ⟨rfl, rfl⟩
  (try simp only [Act.put, qA, qB, qC, qD, qE, qF])
  refine tkT (i := 6) (v := ?_) rfl (Or.inl ⟨by rfl, ?_⟩) S0 ?_
  rotate_left
  · intro w' hS'
    obtain ⟨h0, h1, h2, h3, h4, h5, h6, h7⟩ := hS'
    (try go_simp)
    first | done | exact rfl | exact ⟨rfl, rfl⟩
  (try simp only [Act.put, qA, qB, qC, qD, qE, qF])
  refine tkT (i := 7) (v := ?_) rfl (Or.inl ⟨by rfl, ?_⟩) S0 ?_
  rotate_left
  · intro w' hS'
    obtain ⟨h0, h1, h2, h3, h4, h5, h6, h7⟩ := hS'
    (try go_simp)
    first | done | exact rfl | exact ⟨rfl, rfl⟩
  (try simp only [Act.put, qA, qB, qC, qD, qE, qF])
  refine tkT (i := 8) (v := ?_) rfl (Or.inl ⟨by rfl, ?_⟩) S0 ?_
  rotate_left
  · intro w' hS'
    obtain ⟨h0, h1, h2, h3, h4, h5, h6, h7⟩ := hS'
    (try go_simp)
    first | done | exact rfl | exact ⟨rfl, rfl⟩
  (try simp only [Act.put, qA, qB, qC, qD, qE, qF])
  refine wpAnyN_one (i := 9) (by kernel_rfl) rfl (fun K hK => ?_)
  go_simp
  refine Calls.mono (Hid.out WA) ?_
  rintro e w7 ⟨rfl, hw7⟩
  rw [hw7]
  clear hw7 w7
  go_wp2_with fail
  refine hK _ _ (fun _ => S0) ?_
  clear hK K
  (try simp only [Act.put, qA, qB, qC, qD, qE, qF])
  have S10 := S0
  refine tkT (i := 10) (v := ?_) rfl (Or.inl ⟨by rfl, ?_⟩) S10 ?_
  rotate_left
  · intro w' hS'
    obtain ⟨h0, h1, h2, h3, h4, h5, h6, h7⟩ := hS'
    (try go_simp)
    first | done | exact rfl | exact ⟨rfl, rfl⟩
  (try simp only [Act.put, qA, qB, qC, qD, qE, qF])
  refine wpAnyN_one (i := 11) (by kernel_rfl) rfl (fun K hK => ?_)
  go_simp
  refine Calls.mono (FR.out) ?_
  rintro e w7 ⟨rfl, hM⟩
  go_wp2_with fail
  refine hK _ _ (fun h => by cases h) ?_
  clear hK K
  (try simp only [Act.put, qA, qB, qC, qD, qE, qF])
  have S12 := S10
  refine wpAnyN_done (by kernel_rfl) ?_ _
  go_wp2
  go_end0
  exact ⟨rfl, L, hM⟩
end
end Go.Proofs.YtapgaclonilnbaaDoor

/-
  Proved: what an instruction of kind 11b does to the machine.
-/
namespace Go.Proofs.YtapgaclonilnbaaDoor
open Go.RowKit
set_option linter.unusedVariables false
set_option linter.unusedSimpArgs false

section
variable {X : Cx} {m : Mc} {st : Int} {L : Ly} {w w' : World} {x : Lo} {ib io : Nat} {av dv : Value}

set_option maxRecDepth 20000 in
set_option maxHeartbeats 4000000 in
theorem ins_11b (h : MS X m st L w) (hx : RowAt X.wz ib io (loC x av dv)) (hop : x.op = 11) (ha : rdB m.nw.rg.length x.a = true) (hfr : (frA m.us (wh (cw m.nw x.a)) (atOf (wh (cw m.nw x.a)))).1 ≠ 0) :
    Calls Tryd.prog 27 #[.pointer (some ⟨X.R, 0, none⟩), .pointer (some ⟨ib, io, none⟩)] w fun e w' => e = .panicked [{ v := endV 4 0, recovered := false }] ∧ ∃ z nv L, z.out = m.out ∧ MX X z nv st L w' := by
  have c0 : w.cell? ⟨ib, io, none⟩ = some (.int .i64 11) := by
    have := (h.bz.cell (p := ⟨ib, io + 0, none⟩) hx.1).trans (hx.at 0 (v := .int .i64 x.op) rfl)
    rwa [hop] at this
  obtain ⟨pn, hpn⟩ : ∃ pn, pn = L.pb m.bl.length := ⟨_, rfl⟩
  have PN : Hid (pn = L.pb m.bl.length) := hpn
  have HS : Hid (SI X pn ib io x av dv w.drew) := (by rw [hpn]; exact (h.below (below_drew w)).si hx : SI X pn ib io x av dv w.drew)
  have HM : Hid (MS X m st L w.drew) := h.below (below_drew w)
  have WA : Hid (Calls Tryd.prog 38 #[.pointer (some ⟨pn, 0, none⟩), .int .i64 x.a] w.drew fun e w' => e = .returned (.int .i32 (cw m.nw x.a)) ∧ w' = w.drew) := (by rw [hpn]; exact cword_c HM.out.now x.a (rdB_bg ha))
  have hwh := wh_in (cw m.nw x.a)
  have FR : Hid (Calls Tryd.prog 47 #[.pointer (some ⟨X.R, 0, none⟩), .int .u32 (IntKind.u32.wrap (cw m.nw x.a))] w.drew fun e w' => e = .panicked [{ v := endV 4 0, recovered := false }] ∧ MS X { m with us := (frA m.us (wh (cw m.nw x.a)) (atOf (wh (cw m.nw x.a)))).2 } st L w') := (by rw [conv_u32]; exact (free2_c HM.out (wh (cw m.nw x.a)) hwh.1 hwh.2).mono fun e w' h => h.2 hfr)
  clear hwh hfr
  clear h hx hop hpn
  go_enter Tryd.func27, Tryd.ntmps27
  go_wp2
  refine wp_region_N (fun w' => SI X pn ib io x av dv w') (fun i => i != 11) mixedE (HS.out) ?_
  intro S0
  clear HS c0
  generalize w.drew = wq at *
  refine tkT (i := 0) (v := ?_) rfl (Or.inl ⟨by rfl, ?_⟩) S0 ?_
  rotate_left
  · intro w' hS'
    obtain ⟨h0, h1, h2, h3, h4, h5, h6, h7⟩ := hS'
    (try go_simp)
    first | done | exact rfl | exact ⟨rfl, rfl⟩
  (try simp only [Act.put, qA, qC, qD, qE, qF])
  refine tkT (i := 1) (v := ?_) rfl (Or.inl ⟨by rfl, ?_⟩) S0 ?_
  rotate_left
  · intro w' hS'
    obtain ⟨h0, h1, h2, h3, h4, h5, h6, h7⟩ := hS'
    (try go_simp)
    first | done | exact rfl | exact ⟨rfl, rfl⟩
  (try simp only [Act.put, qA, qB, qC, qD, qE, qF])
  refine tkT (i := 2) (v := ?_) rfl (Or.inl ⟨by rfl, ?_⟩) S0 ?_
  rotate_left
  · intro w' hS'
    obtain ⟨h0, h1, h2, h3, h4, h5, h6, h7⟩ := hS'
    (try go_simp)
    first | done | exact rfl | exact ⟨rfl, rfl⟩
  (try simp only [Act.put, qA, qB, qC, qD, qE, qF])
  refine tkT (i := 3) (v := ?_) rfl (Or.inl ⟨by rfl, ?_⟩) S0 ?_
  rotate_left
  · intro w' hS'
    obtain ⟨h0, h1, h2, h3, h4, h5, h6, h7⟩ := hS'
    (try go_simp)
    first | done | exact rfl | exact ⟨rfl, rfl⟩
  (try simp only [Act.put, qA, qB, qC, qD, qE, qF])
  refine tkT (i := 4) (v := ?_) rfl (Or.inl ⟨by rfl, ?_⟩) S0 ?_
  rotate_left
  · intro w' hS'
    obtain ⟨h0, h1, h2, h3, h4, h5, h6, h7⟩ := hS'
    (try go_simp)
    first | done | exact rfl | exact ⟨rfl, rfl⟩
  (try simp only [Act.put, qA, qB, qC, qD, qE, qF])
  refine tkT (i := 5) (v := ?_) rfl (Or.inl ⟨by rfl, ?_⟩) S0 ?_
  rotate_left
  · intro w' hS'
    obtain ⟨h0, h1, h2, h3, h4, h5, h6, h7⟩ := hS'
    (try go_simp)
    first | done | exact rfl | exact ⟨rfl, rfl⟩
  (try simp only [Act.put, qA, qB, qC, qD, qE, qF])
  refine tkT (i := 6) (v := ?_) rfl (Or.inl ⟨by rfl, ?_⟩) S0 ?_
  rotate_left
  · intro w' hS'
    obtain ⟨h0, h1, h2, h3, h4, h5, h6, h7⟩ := hS'
    (try go_simp)
    first | done | exact rfl | exact ⟨rfl, rfl⟩
  (try simp only [Act.put, qA, qB, qC, qD, qE, qF])
  refine tkT (i := 7) (v := ?_) rfl (Or.inl ⟨by rfl, ?_⟩) S0 ?_
  rotate_left
  · intro w' hS'
    obtain ⟨h0, h1, h2, h3, h4, h5, h6, h7⟩ := hS'
    (try go_simp)
    first | done | exact rfl | exact ⟨rfl, rfl⟩
  (try simp only [Act.put, qA, qB, qC, qD, qE, qF])
  refine tkT (i := 8) (v := ?_) rfl (Or.inl ⟨by rfl, ?_⟩) S0 ?_
  rotate_left
  · intro w' hS'
    obtain ⟨h0, h1, h2, h3, h4, h5, h6, h7⟩ := hS'
    (try go_simp)
    first | done | exact rfl | exact ⟨rfl, rfl⟩
  (try simp only [Act.put, qA, qB, qC, qD, qE, qF])
  refine wpAnyN_one (i := 9) (by kernel_rfl) rfl (fun K hK => ?_)
  go_simp
  refine Calls.mono (Hid.out WA) ?_
  rintro e w7 ⟨rfl, hw7⟩
  rw [hw7]
  clear hw7 w7
  go_wp2_with fail
  refine hK _ _ (fun _ => S0) ?_
  clear hK K
  (try simp only [Act.put, qA, qB, qC, qD, qE, qF])
  have S10 := S0
  refine tkT (i := 10) (v := ?_) rfl (Or.inl ⟨by rfl, ?_⟩) S10 ?_
  rotate_left
  · intro w' hS'
    obtain ⟨h0, h1, h2, h3, h4, h5, h6, h7⟩ := hS'
    (try go_simp)
    first | done | exact rfl | exact ⟨rfl, rfl⟩
  (try simp only [Act.put, qA, qB, qC, qD, qE, qF])
  refine wpAnyN_one (i := 11) (by kernel_rfl) rfl (fun K hK => ?_)
  go_simp
  refine Calls.mono (FR.out) ?_
  rintro e w9 ⟨rfl, hM9⟩
  exact ⟨rfl, rfl, _, _, _, (by rfl), MS.toX hM9⟩
end
end Go.Proofs.YtapgaclonilnbaaDoor

/-
  Proved: what an instruction does, whichever it is.
-/
namespace Go.Proofs.YtapgaclonilnbaaDoor
open Go.RowKit
set_option linter.unusedVariables false
set_option linter.unusedSimpArgs false

section
variable {X : Cx} {m : Mc} {st : Int} {L : Ly} {w w' : World}

/-- What comes of an instruction. -/
def InR (X : Cx) (out : List Int) (st : Int) (r : Sx) (e : Ending) (w' : World) : Prop :=
  match r with
  | .inl m' => e = .returned (.tuple #[]) ∧ ∃ L, MS X m' st L w'
  | .inr k => e = .panicked [{ v := endV k.1 k.2, recovered := false }] ∧ k ≠ (1, 0) ∧ ∃ z nv L, z.out = out ∧ MX X z nv st L w'

theorem InR.pan {out : List Int} {a b : Int} {f : FuncId} {args : Array Value} (hab : (a, b) ≠ ((1 : Int), (0 : Int))) (h : Calls Tryd.prog f args w fun e w' => e = .panicked [{ v := endV a b, recovered := false }] ∧ ∃ z nv L, z.out = out ∧ MX X z nv st L w') : Calls Tryd.prog f args w fun e w' => InR X out st (.inr (a, b)) e w' :=
  h.mono fun e w' ⟨h1, h2⟩ => ⟨h1, hab, h2⟩

set_option maxHeartbeats 2000000 in
theorem ins_c (hc : chk X.l = true) (h : WF X.l m) (hs : MS X m st L w) {x : Lo} {ib io : Nat} {av dv : Value} (hx : RowAt X.wz ib io (loC x av dv)) (htx : x.tx.size ≤ maxLen) (hav : NosIn X.wz x.args av) (hib : instrB X.l (fnO X.l m.nw.fn).rg x = true) (hout : m.out.length ≤ 10000000) :
    Calls Tryd.prog 27 #[.pointer (some ⟨X.R, 0, none⟩), .pointer (some ⟨ib, io, none⟩)] w fun e w' => InR X m.out st (instrS X.l m x) e w' := by
  have hw := h.cw
  have h32 : ∀ r, I32 (cw m.nw r) := fun r => hw.cw r
  have hn : m.bl.length ≤ 1000 := by have := h.n; omega
  have hf : ∀ i, i ≤ m.bl.length → (callAt m i).fr.length ≤ 65536 := fun i hi => (h.c i hi).frz hc
  have hup := h.up
  have hb0 : ∀ i, i ≤ m.bl.length → 0 ≤ (callAt m i).ba := fun i hi => by have := h.ba hf i hi; omega
  rw [← hw.rgz hc] at hib
  unfold instrB at hib
  by_cases h1 : x.op = 1
  · have e : instrS X.l m x = .inl (setN m x.d (wd x.n)) := by unfold instrS; simp [h1]
    rw [e]
    exact ins_1 hs hx h1 (by simpa [h1] using hib)
  by_cases h2 : x.op = 2
  · have e : instrS X.l m x = .inl (setN m x.d (cw m.nw x.a)) := by unfold instrS; simp [h2]
    rw [e]
    simp [h2] at hib
    exact ins_2 hs hx h2 hib.1 hib.2
  by_cases h3 : x.op = 3
  · have e : instrS X.l m x = .inl (setN m x.d (dov x.tx (cw m.nw x.a) (cw m.nw x.b))) := by unfold instrS; simp [h3]
    rw [e]
    simp [h3] at hib
    exact ins_3 hs hx h3 hib.1.1.2 hib.1.2 hib.2 h32
  by_cases h4 : x.op = 4
  · have e : instrS X.l m x = .inl (setN m x.d (dov x.tx (cw m.nw x.a) (wd x.n))) := by unfold instrS; simp [h4]
    rw [e]
    simp [h4] at hib
    exact ins_4 hs hx h4 hib.1.2 hib.2 h32
  by_cases h5 : x.op = 5
  · simp [h5] at hib
    cases hq : atL m (farA m.nw x.a x.n) with
    | none =>
      have e : instrS X.l m x = .inr (4, 0) := by unfold instrS; simp [h5, hq, trapS]
      rw [e]
      exact InR.pan (by decide) (ins_5n hs hx h5 hib.2 hn hup hb0 hq)
    | some p =>
      have e : instrS X.l m x = .inl (setN m x.d (ldL m p)) := by unfold instrS; simp [h5, hq]
      rw [e]
      exact ins_5s hs hx h5 hib.1.2 hib.2 hn hup hb0 p hq
  by_cases h6 : x.op = 6
  · simp [h6] at hib
    cases hq : atL m (farA m.nw x.a x.n) with
    | none =>
      have e : instrS X.l m x = .inr (4, 0) := by unfold instrS; simp [h6, hq, trapS]
      rw [e]
      exact InR.pan (by decide) (ins_6n hs hx h6 hib.1.2 hn hup hb0 hq)
    | some p =>
      have e : instrS X.l m x = .inl (stL m (cw m.nw x.b) p) := by unfold instrS; simp [h6, hq]
      rw [e]
      exact ins_6s hs hx h6 hib.1.2 hn hup hb0 hib.2 p hq
  by_cases h7 : x.op = 7
  · have e : instrS X.l m x = enterS X.l m ((byN X.l x.tx.data.toList).getD 0).toNat (x.args.map (cw m.nw)) := by unfold instrS; simp [h7]
    rw [e]
    simp [h7] at hib
    unfold callB at hib
    split at hib
    · cases hib
    · rename_i z hz
      obtain ⟨k, rfl, hk, -⟩ := byN_some hz
      simp only [Bool.and_eq_true, decide_eq_true_eq, Int.toNat_natCast] at hib
      obtain ⟨⟨⟨a1, a2⟩, a3⟩, a4⟩ := hib
      have ha : ∀ r ∈ x.args, rdB m.nw.rg.length r = true := fun r hr => by unfold readsB at a3; exact List.all_eq_true.1 a3 r hr
      obtain ⟨f1, f2⟩ := ck_fn hc hk
      obtain ⟨p1, p2, p3, p4, p5⟩ := form_parts f1
      rw [hz]
      simp only [Option.getD_some, Int.toNat_natCast]
      have eg : X.l.getD k noF = X.l[k] := fnO_get X.l k hk
      have ef : fnO X.l k = X.l[k] := fnO_get X.l k hk
      rw [eg] at a1
      rw [ef] at f1 f2 p1 p2 p3 p4 p5
      by_cases hfull : ((fnO X.l k).qu = false ∧ 48 ≤ m.ld) ∨ 392 ≤ m.cs.length
      · have e2 : enterS X.l m k (x.args.map (cw m.nw)) = .inr (2, 0) := by unfold enterS; rw [if_pos hfull]
        rw [e2]
        rw [ef, cs_len] at hfull
        exact InR.pan (by decide) (ins_7f hs hx h7 htx hav k hk hz ha (by omega) X.l[k].qu rfl hfull)
      · have e2 : enterS X.l m k (x.args.map (cw m.nw)) = .inl { m with bl := m.cs, nw := newC X.l k (roomB m) (x.args.map (cw m.nw)), ld := if (fnO X.l k).qu then m.ld else m.ld + 1 } := by unfold enterS; rw [if_neg hfull]
        rw [e2]
        rw [ef, cs_len] at hfull
        have hset : ∀ r ∈ X.l[k].pa, 0 ≤ r ∧ r < X.l[k].rg := fun r hr => by
          unfold blocksB setsB at f2
          simp only [Bool.and_eq_true] at f2
          exact rg_lt (List.all_eq_true.1 f2.1 r hr)
        have hl := h.ldb
        have := ins_7 hs hx h7 htx hav k hk hz ha X.l[k].rg.toNat X.l[k].fr.toNat (by omega) (by omega) (by omega) (by omega) (hw.frz hc) (by omega) (by omega) (fun r hr => by have := hset r hr; omega) X.l[k].qu rfl (fun q => by
          by_cases q2 : 48 ≤ m.ld
          · exact absurd (Or.inl ⟨q, q2⟩) hfull
          · exact q2) (by omega) (by omega)
        unfold newC
        rw [ef]
        exact this
  by_cases h8 : x.op = 8
  · have e : instrS X.l m x = .inl { m with out := m.out ++ [if x.n = 1 then wh (cw m.nw x.a) else cw m.nw x.a] } := by unfold instrS; simp [h8]
    rw [e]
    simp [h8] at hib
    exact ins_8 hs hx h8 hib h32 hout
  by_cases h9 : x.op = 9
  · have e : instrS X.l m x = .inl (setN { m with ip := m.ip.drop 1 } x.d (wd (m.ip.getD 0 0))) := by unfold instrS; simp [h9]
    rw [e]
    simp [h9] at hib
    exact ins_9 hs hx h9 hib
  by_cases h10 : x.op = 10
  · simp [h10] at hib
    by_cases hal : (alA m.us (clsOf x.n)).2.1 = 0
    · have e : instrS X.l m x = .inl (setN { m with us := (alA m.us (clsOf x.n)).2.2 } x.d (wd (alA m.us (clsOf x.n)).1)) := by unfold instrS; simp [h10, hal]
      rw [e]
      exact ins_10a hs hx h10 hib.2 hal
    · have e : instrS X.l m x = .inr (3, 0) := by unfold instrS; simp [h10, hal]
      rw [e]
      exact InR.pan (by decide) (ins_10b hs hx h10 hal)
  by_cases h11 : x.op = 11
  · simp [h11] at hib
    by_cases hfr : (frA m.us (wh (cw m.nw x.a)) (atOf (wh (cw m.nw x.a)))).1 = 0
    · have e : instrS X.l m x = .inl { m with us := (frA m.us (wh (cw m.nw x.a)) (atOf (wh (cw m.nw x.a)))).2 } := by unfold instrS; simp [h11, hfr]
      rw [e]
      exact ins_11a hs hx h11 hib hfr
    · have e : instrS X.l m x = .inr (4, 0) := by unfold instrS; simp [h11, hfr, trapS]
      rw [e]
      exact InR.pan (by decide) (ins_11b hs hx h11 hib hfr)
  simp [h1, h2, h3, h4, h5, h6, h7, h8, h9, h10, h11] at hib
end
end Go.Proofs.YtapgaclonilnbaaDoor
