/-
  Proved: what leave does to the machine: the last call is gone, and what it answers is where it was called for.
-/
import Derived.Test.YtapgaclonilnbaaDoorGf
import Derived.Test.YtapgaclonilnbaaDoorGd
namespace Go.Proofs.YtapgaclonilnbaaDoor
open Go.RowKit
set_option linter.unusedVariables false
set_option linter.unusedSimpArgs false

/-- Answers, in memory that is none of the machine's. -/
def AOn (X : Cx) (L : Ly) (n : Nat) (w : World) (l : List Int) (A : Option Addr) : Prop := ∀ i (h : i < l.length), ∃ b o, A = some ⟨b, o, none⟩ ∧ b ≠ X.R ∧ (∀ j, j ≤ n → b ≠ L.rb j) ∧ w.cell? ⟨b, o + i, none⟩ = some (.int .i32 (l[i]'h))
theorem AOn.drew {X : Cx} {L : Ly} {n : Nat} {w : World} {l : List Int} {A : Option Addr} (h : AOn X L n w l A) : AOn X L n w.drew l A := h
theorem AOn.set {X : Cx} {L : Ly} {n : Nat} {w : World} {l : List Int} {A : Option Addr} (h : AOn X L n w l A) {b j : Nat} (v : Value) (hb : b = X.R ∨ ∃ j, j ≤ n ∧ b = L.rb j) : AOn X L n (w.setCell ⟨b, j, none⟩ v) l A := fun i hi => by
  obtain ⟨b2, o, e, h1, h2, h3⟩ := h i hi
  refine ⟨b2, o, e, h1, h2, ?_⟩
  rw [World.cell?_setCell_far]
  · exact h3
  · show b ≠ b2
    rcases hb with hb | ⟨j2, hj, hb⟩
    · omega
    · have := h2 j2 hj; omega

section
variable {X : Cx} {m : Mc} {st : Int} {L : Ly} {w w' : World}

set_option maxRecDepth 20000 in
set_option maxHeartbeats 4000000 in
theorem leave_A_true (h : MS X m st L w) (hk : m.nw.fn < X.l.length) (hq : X.l[m.nw.fn].qu = true) (hld : -1000 ≤ m.ld ∧ m.ld ≤ 1000) (hbl : m.bl = []) (av : Value) :
    Calls Tryd.prog 39 #[.pointer (some ⟨X.R, 0, none⟩), av] w fun e w' => e = .returned (.tuple #[]) ∧ ∃ L' nv, MX X ⟨[], m.us, m.wo, m.ip, m.out, m.ld⟩ nv st L' w' := by
  have hX := h.toX
  obtain ⟨fb0, fo, pv0, bv0, hfp, hrow, -, -⟩ := hX.fn m.nw.fn hk
  have c5 : w.cell? ⟨fb0, fo + 5, none⟩ = some (.bool true) := by
    have r5 := hrow.at 5 (v := .bool X.l[m.nw.fn].qu) rfl
    rw [hq] at r5
    exact (h.bz.cell (p := ⟨fb0, fo + 5, none⟩) hrow.1).trans r5
  have c7 : w.cell? ⟨X.R, 7, none⟩ = some (.pointer (some ⟨L.pb m.bl.length, 0, none⟩)) := h.rr.cell 7 (by omega)
  have c0 : w.cell? ⟨L.pb m.bl.length, 0, none⟩ = some (.pointer (some ⟨fb0, fo, none⟩)) := by rw [← hfp]; exact h.now.s.cell 0 (by omega)
  have c8 : w.cell? ⟨X.R, 8, none⟩ = some (.int .i64 m.ld) := h.rr.cell 8 (by omega)
  have f8 := h.rr.frozen 8
  obtain ⟨B, C, ecv, hC, hBR, hcl⟩ := hX.calls (by simp)
  have H1 : MX X { hOf m with ld := m.ld } (.pointer (some ⟨L.pb m.bl.length, 0, none⟩)) st L w := hX
  simp only [hbl, List.nil_append, List.length_singleton] at ecv hC
  have H2 : Hid (∀ wd, MX X { hOf m with ld := m.ld } (.pointer (some ⟨L.pb m.bl.length, 0, none⟩)) st L wd → MX X ⟨[], m.us, m.wo, m.ip, m.out, m.ld⟩ (.pointer (some ⟨L.pb m.bl.length, 0, none⟩)) st { L with cv := .slice (some ⟨B, 0, none⟩) 0 C } (wd.setCell ⟨X.R, 6, none⟩ (.slice (some ⟨B, 0, none⟩) 0 C))) := fun wd hw => hw.pop (cs := []) (c := m.nw) (by simp [hbl]) ecv
  have H1h : Hid (MX X { hOf m with ld := m.ld } (.pointer (some ⟨L.pb m.bl.length, 0, none⟩)) st L w) := H1
  have S2F : Hid (w.drew.cell? ⟨X.R, 6, none⟩ = some (.slice (some ⟨B, 0, none⟩) (0 + 1) C) ∧ w.drew.frozen? ⟨X.R, 6, none⟩ = false) := ⟨by have := H1.rr.cell 6 (by omega); rw [show rnG X _ st L.cv L.pv L.iv _ 6 = L.cv from rfl, ecv] at this; exact this, H1.rr.frozen 6⟩
  have H1d : Hid (MX X { hOf m with ld := m.ld } (.pointer (some ⟨L.pb m.bl.length, 0, none⟩)) st L w.drew) := H1.below (below_drew _)
  clear hX hfp hrow hcl H1 H1h h hk hq ecv hbl hBR
  generalize L.pb m.bl.length = pl at *
  obtain ⟨m1, m2⟩ := hld
  go_enter Tryd.func39, Tryd.ntmps39
  go_upto_region 2 with fail
  clear c5 c7 c0 c8 f8
  refine wp_region_N (fun w' => w'.cell? ⟨X.R, 6, none⟩ = some (.slice (some ⟨B, 0, none⟩) (0 + 1) C) ∧ w'.frozen? ⟨X.R, 6, none⟩ = false) (fun i => i != 14) mixedE (S2F.out) ?_
  intro S0
  obtain ⟨c6, f6⟩ := S0
  have S0 := And.intro c6 f6
  generalize w.drew = wd at *
  refine tkO (i := 0) (v := ?_) rfl (Or.inl ⟨by rfl, ?_⟩) S0 ?_
  rotate_left
  · intro w' hS'
    obtain ⟨h0, h1⟩ := hS'
    (try go_simp)
    first | done | exact rfl | exact ⟨rfl, rfl⟩
  (try simp only [Act.put, qA, qC, qD, qE, qF])
  refine tkO (i := 1) (v := ?_) rfl (Or.inl ⟨by rfl, ?_⟩) S0 ?_
  rotate_left
  · intro w' hS'
    obtain ⟨h0, h1⟩ := hS'
    (try go_simp)
    first | done | exact rfl | exact ⟨rfl, rfl⟩
  (try simp only [Act.put, qA, qB, qC, qD, qE, qF])
  refine tkO (i := 2) (v := ?_) rfl (Or.inl ⟨by rfl, ?_⟩) S0 ?_
  rotate_left
  · intro w' hS'
    obtain ⟨h0, h1⟩ := hS'
    (try go_simp)
    first | done | exact rfl | exact ⟨rfl, rfl⟩
  (try simp only [Act.put, qA, qB, qC, qD, qE, qF])
  refine tkO (i := 3) (v := ?_) rfl (Or.inl ⟨by rfl, ?_⟩) S0 ?_
  rotate_left
  · intro w' hS'
    obtain ⟨h0, h1⟩ := hS'
    (try go_simp)
    first | done | exact rfl | exact ⟨rfl, rfl⟩
  (try simp only [Act.put, qA, qB, qC, qD, qE, qF])
  refine tkO (i := 4) (v := ?_) rfl (Or.inl ⟨by rfl, ?_⟩) S0 ?_
  rotate_left
  · intro w' hS'
    obtain ⟨h0, h1⟩ := hS'
    (try go_simp)
    first | done | exact rfl | exact ⟨rfl, rfl⟩
  (try simp only [Act.put, qA, qB, qC, qD, qE, qF])
  refine tkO (i := 5) (v := ?_) rfl (Or.inl ⟨by rfl, ?_⟩) S0 ?_
  rotate_left
  · intro w' hS'
    obtain ⟨h0, h1⟩ := hS'
    (try go_simp)
    first | done | exact rfl | exact ⟨rfl, rfl⟩
  (try simp only [Act.put, qA, qB, qC, qD, qE, qF])
  refine tkO (i := 6) (v := ?_) rfl (Or.inl ⟨by rfl, ?_⟩) S0 ?_
  rotate_left
  · intro w' hS'
    obtain ⟨h0, h1⟩ := hS'
    (try go_simp)
    first | done | exact rfl | exact ⟨rfl, rfl⟩
  (try simp only [Act.put, qA, qB, qC, qD, qE, qF])
  refine tkO (i := 7) (v := ?_) rfl (Or.inl ⟨by rfl, ?_⟩) S0 ?_
  rotate_left
  · intro w' hS'
    obtain ⟨h0, h1⟩ := hS'
    (try go_simp)
    first | done | exact rfl | exact ⟨rfl, rfl⟩
  (try simp only [Act.put, qA, qB, qC, qD, qE, qF])
  refine tkO (i := 8) (v := ?_) rfl (Or.inl ⟨by rfl, ?_⟩) S0 ?_
  rotate_left
  · intro w' hS'
    obtain ⟨h0, h1⟩ := hS'
    (try go_simp)
    first | done | exact rfl | exact ⟨rfl, rfl⟩
  (try simp only [Act.put, qA, qB, qC, qD, qE, qF])
  refine tkO (i := 9) (v := ?_) rfl (Or.inl ⟨by rfl, ?_⟩) S0 ?_
  rotate_left
  · intro w' hS'
    obtain ⟨h0, h1⟩ := hS'
    (try go_simp)
    first | done | exact rfl | exact ⟨rfl, rfl⟩
  (try simp only [Act.put, qA, qB, qC, qD, qE, qF])
  refine tkO (i := 10) (v := ?_) rfl (Or.inl ⟨by rfl, ?_⟩) S0 ?_
  rotate_left
  · intro w' hS'
    obtain ⟨h0, h1⟩ := hS'
    (try go_simp)
    first | done | exact rfl | exact ⟨rfl, rfl⟩
  (try simp only [Act.put, qA, qB, qC, qD, qE, qF])
  refine tkO (i := 11) (v := ?_) rfl (Or.inl ⟨by rfl, ?_⟩) S0 ?_
  rotate_left
  · intro w' hS'
    obtain ⟨h0, h1⟩ := hS'
    (try go_simp)
    first | done | exact rfl | exact ⟨rfl, rfl⟩
  (try simp only [Act.put, qA, qB, qC, qD, qE, qF])
  refine wpAnyN_one (i := 12) (by kernel_rfl) rfl (fun K hK => ?_)
  go_simp
  refine hK _ _ (fun _ => S0) ?_
  clear hK K
  (try simp only [Act.put, qA, qB, qC, qD, qE, qF])
  have S13 := S0
  refine wpAnyN_one (i := 13) (by kernel_rfl) rfl (fun K hK => ?_)
  go_simp
  refine hK _ _ (fun _ => S13) ?_
  clear hK K
  (try simp only [Act.put, qA, qB, qC, qD, qE, qF])
  have S14 := S13
  refine wpAnyN_one (i := 14) (by kernel_rfl) rfl (fun K hK => ?_)
  go_simp
  refine hK _ _ (fun h => by cases h) ?_
  clear hK K
  (try simp only [Act.put, qA, qB, qC, qD, qE, qF])
  have S15 := S14
  refine wpAnyN_done (by kernel_rfl) ?_ _
  have H3 : Hid (MX X ⟨[], m.us, m.wo, m.ip, m.out, m.ld⟩ (.pointer (some ⟨pl, 0, none⟩)) st { L with cv := .slice (some ⟨B, 0, none⟩) 0 C } (wd.setCell ⟨X.R, 6, none⟩ (.slice (some ⟨B, 0, none⟩) 0 C))) := H2.out _ H1d.out
  clear c6 f6 S0 S2F S13 S14 S15
  have c6 : (wd.setCell ⟨X.R, 6, none⟩ (.slice (some ⟨B, 0, none⟩) 0 C)).cell? ⟨X.R, 6, none⟩ = some (.slice (some ⟨B, 0, none⟩) 0 C) := H3.out.rr.cell 6 (by omega)
  go_wp2
  refine bodyPost_ret (results_none rfl _ _ _) rfl ?_
  exact ⟨rfl, _, _, H3.out⟩

set_option maxRecDepth 20000 in
set_option maxHeartbeats 8000000 in
theorem leave_B_true (h : MS X m st L w) (hk : m.nw.fn < X.l.length) (hq : X.l[m.nw.fn].qu = true) (hld : -1000 ≤ m.ld ∧ m.ld ≤ 1000) (bl : List Cl) (c : Cl) (hbl : m.bl = bl ++ [c]) (hn : bl.length < 1000)
    (hck : c.fn < X.l.length) (hcb : c.bk < X.l[c.fn].bs.length) (j : Nat) (hnx : c.nx = j + 1) (hj : j < X.l[c.fn].bs[c.bk].li.length) (hbs : X.l[c.fn].bs.length ≤ 281474976710656)
    (vs : List Int) (AA : Option Addr) (AC : Nat) (ha : AOn X L bl.length w vs AA) (hlen : X.l[c.fn].bs[c.bk].li[j].dsts.length = vs.length) (hl8 : vs.length ≤ 8) (hds : ∀ r ∈ X.l[c.fn].bs[c.bk].li[j].dsts, 0 ≤ r ∧ r < c.rg.length) :
    Calls Tryd.prog 39 #[.pointer (some ⟨X.R, 0, none⟩), .slice AA vs.length AC] w fun e w' => e = .returned (.tuple #[]) ∧ ∃ L', MS X ⟨bl, setsR c X.l[c.fn].bs[c.bk].li[j].dsts vs, m.us, m.wo, m.ip, m.out, m.ld⟩ st L' w' := by
  have hX := h.toX
  obtain ⟨fb0, fo, pv0, bv0, hfp, hrow, -, -⟩ := hX.fn m.nw.fn hk
  have c5 : w.cell? ⟨fb0, fo + 5, none⟩ = some (.bool true) := by
    have r5 := hrow.at 5 (v := .bool X.l[m.nw.fn].qu) rfl
    rw [hq] at r5
    exact (h.bz.cell (p := ⟨fb0, fo + 5, none⟩) hrow.1).trans r5
  have c7 : w.cell? ⟨X.R, 7, none⟩ = some (.pointer (some ⟨L.pb m.bl.length, 0, none⟩)) := h.rr.cell 7 (by omega)
  have c0 : w.cell? ⟨L.pb m.bl.length, 0, none⟩ = some (.pointer (some ⟨fb0, fo, none⟩)) := by rw [← hfp]; exact h.now.s.cell 0 (by omega)
  have c8 : w.cell? ⟨X.R, 8, none⟩ = some (.int .i64 m.ld) := h.rr.cell 8 (by omega)
  have f8 := h.rr.frozen 8
  obtain ⟨B, C, ecv, hC, hBR, hcl⟩ := hX.calls (by simp)
  have H1 : MX X { hOf m with ld := m.ld } (.pointer (some ⟨L.pb m.bl.length, 0, none⟩)) st L w := hX
  have ecs : (hOf m).cs.length = bl.length + 1 + 1 := by simp [hbl]
  rw [ecs] at ecv hC
  have cpn : w.cell? ⟨B, bl.length, none⟩ = some (.pointer (some ⟨L.pb bl.length, 0, none⟩)) := hcl bl.length (by rw [ecs]; omega)
  obtain ⟨fb1, fo1, pv1, BC1, bb, bo, lA, lC, tv, g1, g2, g3, g4, g5⟩ := blk_at h.hl c.fn hck c.bk hcb
  obtain ⟨ib, io, xav, xdv, rfl, g6, g7, g8, g9⟩ := ins_at g4 j hj
  obtain ⟨-, DA, DC, rfl, g10⟩ := g9.cells
  have H2 : Hid (∀ wd, MX X { hOf m with ld := m.ld } (.pointer (some ⟨L.pb m.bl.length, 0, none⟩)) st L wd → MX X ⟨bl ++ [c], m.us, m.wo, m.ip, m.out, m.ld⟩ (.pointer (some ⟨L.pb m.bl.length, 0, none⟩)) st { L with cv := .slice (some ⟨B, 0, none⟩) (bl.length + 1) C } (wd.setCell ⟨X.R, 6, none⟩ (.slice (some ⟨B, 0, none⟩) (bl.length + 1) C))) := fun wd hw => by
    have := hw.pop (cs := bl ++ [c]) (c := m.nw) (by simp [hbl]) (A := some ⟨B, 0, none⟩) (C := C) (by rw [ecv]; simp)
    simpa using this
  have S2F : Hid (w.drew.cell? ⟨X.R, 6, none⟩ = some (.slice (some ⟨B, 0, none⟩) (bl.length + 1 + 1) C) ∧ w.drew.frozen? ⟨X.R, 6, none⟩ = false) := ⟨by have := H1.rr.cell 6 (by omega); rw [show rnG X _ st L.cv L.pv L.iv _ 6 = L.cv from rfl, ecv] at this; exact this, H1.rr.frozen 6⟩
  have H1d : Hid (MX X { hOf m with ld := m.ld } (.pointer (some ⟨L.pb m.bl.length, 0, none⟩)) st L w.drew ∧ w.drew.cell? ⟨B, bl.length, none⟩ = some (.pointer (some ⟨L.pb bl.length, 0, none⟩)) ∧ AOn X L bl.length w.drew vs AA) := ⟨H1.below (below_drew _), cpn, AOn.drew ha⟩
  have HO : Hid (∀ w', Below X.wz.heap.size X.wz w' → w'.cell? ⟨fb1, fo1 + 6, none⟩ = some (.slice (some ⟨bb, bo, none⟩) X.l[c.fn].bs.length BC1) ∧ w'.cell? ⟨bb, bo + c.bk * 8, none⟩ = some (.slice (some ⟨ib, io, none⟩) X.l[c.fn].bs[c.bk].li.length lC) ∧ w'.cell? ⟨ib, io + j * 8 + 7, none⟩ = some (.slice DA vs.length DC)) := fun w' hw => by
    have a1 := g2.at 6 (v := .slice (some ⟨bb, bo, none⟩) X.l[c.fn].bs.length BC1) rfl
    have a2 := g3.at 0 (v := .slice (some ⟨ib, io, none⟩) X.l[c.fn].bs[c.bk].li.length lC) rfl
    have a3 := g6.at 7 (v := .slice DA X.l[c.fn].bs[c.bk].li[j].dsts.length DC) rfl
    rw [hlen] at a3
    exact ⟨(hw.cell (p := ⟨fb1, fo1 + 6, none⟩) g2.1).trans a1, (hw.cell (p := ⟨bb, bo + c.bk * 8, none⟩) g3.1).trans a2, (hw.cell (p := ⟨ib, io + j * 8 + 7, none⟩) g6.1).trans a3⟩
  have HD : Hid (∀ i (h : i < X.l[c.fn].bs[c.bk].li[j].dsts.length), ∃ b o, DA = some ⟨b, o, none⟩ ∧ ∀ w' : World, Below X.wz.heap.size X.wz w' → w'.cell? ⟨b, o + i, none⟩ = some (.int .i64 (X.l[c.fn].bs[c.bk].li[j].dsts[i]'h))) := fun i hi => by
    obtain ⟨b, o, e, hb, hc⟩ := g10 i hi
    exact ⟨b, o, e, fun w' hw => (hw.cell (p := ⟨b, o + i, none⟩) hb).trans hc⟩
  have G1 : Hid (fpV X c.fn = .pointer (some ⟨fb1, fo1, none⟩)) := g1
  have hcbz : (c.bk : Int) < X.l[c.fn].bs.length := by omega
  have hjz : (j : Int) < X.l[c.fn].bs[c.bk].li.length := by omega
  have hwj : IntKind.i64.wrap (j : Int) = (j : Int) := wrap_in _ ⟨by omega, by have := g4.1; omega⟩
  have hwj1 : (j : Int) + 1 - 1 = (j : Int) := by omega
  have LN : Hid (X.l[c.fn].bs[c.bk].li[j].dsts.length = vs.length) := hlen
  have HP : Hid (∀ r ∈ X.l[c.fn].bs[c.bk].li[j].dsts, 0 ≤ r ∧ r < c.rg.length) := hds
  have NX : Hid (c.nx = j + 1) := hnx
  have HBR : Hid (B ≠ X.R) := hBR
  clear hX hfp hrow hcl H1 h hk hq ecv ecs cpn g1 g2 g3 g4 g5 g6 g7 g8 g9 g10 hlen hds hnx ha hBR hbl
  generalize X.l[c.fn].bs[c.bk].li[j].dsts = ds at *
  generalize X.l[c.fn].bs[c.bk].li.length = nl at *
  clear hj
  generalize X.l[c.fn].bs.length = nb at *
  generalize L.pb m.bl.length = pl at *
  obtain ⟨pn, hpn⟩ : ∃ pn, pn = L.pb bl.length := ⟨_, rfl⟩
  obtain ⟨n, hnE⟩ : ∃ n, n = bl.length := ⟨_, rfl⟩
  have PN : Hid (pn = L.pb n ∧ n = bl.length) := ⟨by rw [hnE]; exact hpn, hnE⟩
  rw [← hpn] at H1d
  rw [← hnE] at H1d H2 S2F hC
  clear hpn hnE
  obtain ⟨m1, m2⟩ := hld
  have hcz1 : (n : Int) + 1 ≤ (C : Int) := by omega
  have hcz0 : (0 : Int) ≤ (n : Int) + 1 := by omega
  have hcz2 : ((n : Int) + 1).toNat = n + 1 := by omega
  have hcz3 : (n : Int) < (n : Int) + 1 := by omega
  have hcz4 : n < n + 1 := by omega
  have hnb : n < 1000 := by have := PN.out.2; omega
  have hw1 : IntKind.i64.wrap ((n : Int) + 1) = (n : Int) + 1 := wrap_in _ ⟨by omega, by omega⟩
  have hw0 : IntKind.i64.wrap (n : Int) = (n : Int) := wrap_in _ ⟨by omega, by omega⟩
  go_enter Tryd.func39, Tryd.ntmps39
  go_upto_region 2 with fail
  clear c5 c7 c0 c8 f8
  refine wp_region_N (fun w' => w'.cell? ⟨X.R, 6, none⟩ = some (.slice (some ⟨B, 0, none⟩) (n + 1 + 1) C) ∧ w'.frozen? ⟨X.R, 6, none⟩ = false) (fun i => i != 14) mixedE (S2F.out) ?_
  intro S0
  obtain ⟨c6, f6⟩ := S0
  have S0 := And.intro c6 f6
  generalize w.drew = wd at *
  refine tkO (i := 0) (v := ?_) rfl (Or.inl ⟨by rfl, ?_⟩) S0 ?_
  rotate_left
  · intro w' hS'
    obtain ⟨h0, h1⟩ := hS'
    (try go_simp)
    first | done | exact rfl | exact ⟨rfl, rfl⟩
  (try simp only [Act.put, qA, qC, qD, qE, qF])
  refine tkO (i := 1) (v := ?_) rfl (Or.inl ⟨by rfl, ?_⟩) S0 ?_
  rotate_left
  · intro w' hS'
    obtain ⟨h0, h1⟩ := hS'
    (try go_simp)
    first | done | exact rfl | exact ⟨rfl, rfl⟩
  (try simp only [Act.put, qA, qB, qC, qD, qE, qF])
  refine tkO (i := 2) (v := ?_) rfl (Or.inl ⟨by rfl, ?_⟩) S0 ?_
  rotate_left
  · intro w' hS'
    obtain ⟨h0, h1⟩ := hS'
    (try go_simp)
    first | done | exact rfl | exact ⟨rfl, rfl⟩
  (try simp only [Act.put, qA, qB, qC, qD, qE, qF])
  refine tkO (i := 3) (v := ?_) rfl (Or.inl ⟨by rfl, ?_⟩) S0 ?_
  rotate_left
  · intro w' hS'
    obtain ⟨h0, h1⟩ := hS'
    (try go_simp)
    first | done | exact rfl | exact ⟨rfl, rfl⟩
  (try simp only [Act.put, qA, qB, qC, qD, qE, qF])
  refine tkO (i := 4) (v := ?_) rfl (Or.inl ⟨by rfl, ?_⟩) S0 ?_
  rotate_left
  · intro w' hS'
    obtain ⟨h0, h1⟩ := hS'
    (try go_simp)
    first | done | exact rfl | exact ⟨rfl, rfl⟩
  (try simp only [Act.put, qA, qB, qC, qD, qE, qF])
  refine tkO (i := 5) (v := ?_) rfl (Or.inl ⟨by rfl, ?_⟩) S0 ?_
  rotate_left
  · intro w' hS'
    obtain ⟨h0, h1⟩ := hS'
    (try go_simp)
    first | done | exact rfl | exact ⟨rfl, rfl⟩
  (try simp only [Act.put, qA, qB, qC, qD, qE, qF])
  refine tkO (i := 6) (v := ?_) rfl (Or.inl ⟨by rfl, ?_⟩) S0 ?_
  rotate_left
  · intro w' hS'
    obtain ⟨h0, h1⟩ := hS'
    (try go_simp)
    first | done | exact rfl | exact ⟨rfl, rfl⟩
  (try simp only [Act.put, qA, qB, qC, qD, qE, qF])
  refine tkO (i := 7) (v := ?_) rfl (Or.inl ⟨by rfl, ?_⟩) S0 ?_
  rotate_left
  · intro w' hS'
    obtain ⟨h0, h1⟩ := hS'
    (try go_simp)
    first | done | exact rfl | exact ⟨rfl, rfl⟩
  (try simp only [Act.put, qA, qB, qC, qD, qE, qF])
  refine tkO (i := 8) (v := ?_) rfl (Or.inl ⟨by rfl, ?_⟩) S0 ?_
  rotate_left
  · intro w' hS'
    obtain ⟨h0, h1⟩ := hS'
    (try go_simp)
    first | done | exact rfl | exact ⟨rfl, rfl⟩
  (try simp only [Act.put, qA, qB, qC, qD, qE, qF])
  refine tkO (i := 9) (v := ?_) rfl (Or.inl ⟨by rfl, ?_⟩) S0 ?_
  rotate_left
  · intro w' hS'
    obtain ⟨h0, h1⟩ := hS'
    (try go_simp)
    first | done | exact rfl | exact ⟨rfl, rfl⟩
  (try simp only [Act.put, qA, qB, qC, qD, qE, qF])
  refine tkO (i := 10) (v := ?_) rfl (Or.inl ⟨by rfl, ?_⟩) S0 ?_
  rotate_left
  · intro w' hS'
    obtain ⟨h0, h1⟩ := hS'
    (try go_simp)
    first | done | exact rfl | exact ⟨rfl, rfl⟩
  (try simp only [Act.put, qA, qB, qC, qD, qE, qF])
  refine tkO (i := 11) (v := ?_) rfl (Or.inl ⟨by rfl, ?_⟩) S0 ?_
  rotate_left
  · intro w' hS'
    obtain ⟨h0, h1⟩ := hS'
    (try go_simp)
    first | done | exact rfl | exact ⟨rfl, rfl⟩
  (try simp only [Act.put, qA, qB, qC, qD, qE, qF])
  refine wpAnyN_one (i := 12) (by kernel_rfl) rfl (fun K hK => ?_)
  go_simp
  refine hK _ _ (fun _ => S0) ?_
  clear hK K
  (try simp only [Act.put, qA, qB, qC, qD, qE, qF])
  have S13 := S0
  refine wpAnyN_one (i := 13) (by kernel_rfl) rfl (fun K hK => ?_)
  go_simp
  refine hK _ _ (fun _ => S13) ?_
  clear hK K
  (try simp only [Act.put, qA, qB, qC, qD, qE, qF])
  have S14 := S13
  refine wpAnyN_one (i := 14) (by kernel_rfl) rfl (fun K hK => ?_)
  go_simp
  refine hK _ _ (fun h => by cases h) ?_
  clear hK K
  (try simp only [Act.put, qA, qB, qC, qD, qE, qF])
  have S15 := S14
  refine wpAnyN_done (by kernel_rfl) ?_ _
  have H3 : Hid (MX X ⟨bl ++ [c], m.us, m.wo, m.ip, m.out, m.ld⟩ (.pointer (some ⟨pl, 0, none⟩)) st { L with cv := .slice (some ⟨B, 0, none⟩) (n + 1) C } (wd.setCell ⟨X.R, 6, none⟩ (.slice (some ⟨B, 0, none⟩) (n + 1) C))) := H2.out _ H1d.out.1
  have H4 : Hid ((wd.setCell ⟨X.R, 6, none⟩ (.slice (some ⟨B, 0, none⟩) (n + 1) C)).cell? ⟨B, n, none⟩ = some (.pointer (some ⟨pn, 0, none⟩)) ∧ AOn X L n (wd.setCell ⟨X.R, 6, none⟩ (.slice (some ⟨B, 0, none⟩) (n + 1) C)) vs AA) := ⟨by rw [World.cell?_setCell_far _ _ _ _ (show X.R ≠ B from fun e => HBR.out e.symm)]; exact H1d.out.2.1, H1d.out.2.2.set _ (Or.inl rfl)⟩
  clear c6 f6 S0 S2F S13 S14 S15 H1d H2
  generalize (wd.setCell ⟨X.R, 6, none⟩ (.slice (some ⟨B, 0, none⟩) (n + 1) C)) = w2 at *
  have c6 : w2.cell? ⟨X.R, 6, none⟩ = some (.slice (some ⟨B, 0, none⟩) (n + 1) C) := H3.out.rr.cell 6 (by omega)
  have hz : ¬ ((n : Int) + 1 = 0) := by omega
  obtain ⟨nv, hnv⟩ : ∃ nv : Value, nv = .pointer (some ⟨pl, 0, none⟩) := ⟨_, rfl⟩
  rw [← hnv] at H3
  clear hnv
  go_wp2
  have S4F : Hid (w2.drew.cell? ⟨X.R, 6, none⟩ = some (.slice (some ⟨B, 0, none⟩) (n + 1) C) ∧ w2.drew.cell? ⟨B, n, none⟩ = some (.pointer (some ⟨pn, 0, none⟩)) ∧ w2.drew.cell? ⟨X.R, 7, none⟩ = some nv ∧ w2.drew.frozen? ⟨X.R, 7, none⟩ = false) := ⟨c6, H4.out.1, H3.out.rr.cell 7 (by omega), H3.out.rr.frozen 7⟩
  have H3d : Hid (MX X ⟨bl ++ [c], m.us, m.wo, m.ip, m.out, m.ld⟩ nv st { L with cv := .slice (some ⟨B, 0, none⟩) (n + 1) C } w2.drew ∧ AOn X L n w2.drew vs AA) := ⟨H3.out.below (below_drew _), H4.out.2.drew⟩
  clear c6 H3 H4
  refine wp_region_N (fun w' => w'.cell? ⟨X.R, 6, none⟩ = some (.slice (some ⟨B, 0, none⟩) (n + 1) C) ∧ w'.cell? ⟨B, n, none⟩ = some (.pointer (some ⟨pn, 0, none⟩)) ∧ w'.cell? ⟨X.R, 7, none⟩ = some nv ∧ w'.frozen? ⟨X.R, 7, none⟩ = false) (fun i => i != 15) mixedE (S4F.out) ?_
  intro S0
  obtain ⟨_, _, c7, f7⟩ := S0
  have S0 := S4F.out
  generalize w2.drew = wd at *
  refine tkO (i := 0) (v := ?_) rfl (Or.inl ⟨by rfl, ?_⟩) S0 ?_
  rotate_left
  · intro w' hS'
    obtain ⟨h0, h1, h2, h3⟩ := hS'
    (try go_simp)
    first | done | exact rfl | exact ⟨rfl, rfl⟩
  (try simp only [Act.put, qA, qC, qD, qE, qF])
  refine tkO (i := 1) (v := ?_) rfl (Or.inl ⟨by rfl, ?_⟩) S0 ?_
  rotate_left
  · intro w' hS'
    obtain ⟨h0, h1, h2, h3⟩ := hS'
    (try go_simp)
    first | done | exact rfl | exact ⟨rfl, rfl⟩
  (try simp only [Act.put, qA, qB, qC, qD, qE, qF])
  refine tkO (i := 2) (v := ?_) rfl (Or.inl ⟨by rfl, ?_⟩) S0 ?_
  rotate_left
  · intro w' hS'
    obtain ⟨h0, h1, h2, h3⟩ := hS'
    (try go_simp)
    first | done | exact rfl | exact ⟨rfl, rfl⟩
  (try simp only [Act.put, qA, qB, qC, qD, qE, qF])
  refine tkO (i := 3) (v := ?_) rfl (Or.inl ⟨by rfl, ?_⟩) S0 ?_
  rotate_left
  · intro w' hS'
    obtain ⟨h0, h1, h2, h3⟩ := hS'
    (try go_simp)
    first | done | exact rfl | exact ⟨rfl, rfl⟩
  (try simp only [Act.put, qA, qB, qC, qD, qE, qF])
  refine tkO (i := 4) (v := ?_) rfl (Or.inl ⟨by rfl, ?_⟩) S0 ?_
  rotate_left
  · intro w' hS'
    obtain ⟨h0, h1, h2, h3⟩ := hS'
    (try go_simp)
    first | done | exact rfl | exact ⟨rfl, rfl⟩
  (try simp only [Act.put, qA, qB, qC, qD, qE, qF])
  refine tkO (i := 5) (v := ?_) rfl (Or.inl ⟨by rfl, ?_⟩) S0 ?_
  rotate_left
  · intro w' hS'
    obtain ⟨h0, h1, h2, h3⟩ := hS'
    (try go_simp)
    first | done | exact rfl | exact ⟨rfl, rfl⟩
  (try simp only [Act.put, qA, qB, qC, qD, qE, qF])
  refine tkO (i := 6) (v := ?_) rfl (Or.inl ⟨by rfl, ?_⟩) S0 ?_
  rotate_left
  · intro w' hS'
    obtain ⟨h0, h1, h2, h3⟩ := hS'
    (try go_simp)
    first | done | exact rfl | exact ⟨rfl, rfl⟩
  (try simp only [Act.put, qA, qB, qC, qD, qE, qF])
  refine tkO (i := 7) (v := ?_) rfl (Or.inl ⟨by rfl, ?_⟩) S0 ?_
  rotate_left
  · intro w' hS'
    obtain ⟨h0, h1, h2, h3⟩ := hS'
    (try go_simp)
    first | done | exact rfl | exact ⟨rfl, rfl⟩
  (try simp only [Act.put, qA, qB, qC, qD, qE, qF])
  refine tkO (i := 8) (v := ?_) rfl (Or.inl ⟨by rfl, ?_⟩) S0 ?_
  rotate_left
  · intro w' hS'
    obtain ⟨h0, h1, h2, h3⟩ := hS'
    (try go_simp)
    first | done | exact rfl | exact ⟨rfl, rfl⟩
  (try simp only [Act.put, qA, qB, qC, qD, qE, qF])
  refine tkO (i := 9) (v := ?_) rfl (Or.inl ⟨by rfl, ?_⟩) S0 ?_
  rotate_left
  · intro w' hS'
    obtain ⟨h0, h1, h2, h3⟩ := hS'
    (try go_simp)
    first | done | exact rfl | exact ⟨rfl, rfl⟩
  (try simp only [Act.put, qA, qB, qC, qD, qE, qF])
  refine tkO (i := 10) (v := ?_) rfl (Or.inl ⟨by rfl, ?_⟩) S0 ?_
  rotate_left
  · intro w' hS'
    obtain ⟨h0, h1, h2, h3⟩ := hS'
    (try go_simp)
    first | done | exact rfl | exact ⟨rfl, rfl⟩
  (try simp only [Act.put, qA, qB, qC, qD, qE, qF])
  refine tkO (i := 11) (v := ?_) rfl (Or.inl ⟨by rfl, ?_⟩) S0 ?_
  rotate_left
  · intro w' hS'
    obtain ⟨h0, h1, h2, h3⟩ := hS'
    (try go_simp)
    first | done | exact rfl | exact ⟨rfl, rfl⟩
  (try simp only [Act.put, qA, qB, qC, qD, qE, qF])
  refine tkO (i := 12) (v := ?_) rfl (Or.inl ⟨by rfl, ?_⟩) S0 ?_
  rotate_left
  · intro w' hS'
    obtain ⟨h0, h1, h2, h3⟩ := hS'
    (try go_simp)
    first | done | exact rfl | exact ⟨rfl, rfl⟩
  (try simp only [Act.put, qA, qB, qC, qD, qE, qF])
  refine wpAnyN_one (i := 13) (by kernel_rfl) rfl (fun K hK => ?_)
  go_simp
  refine hK _ _ (fun _ => S0) ?_
  clear hK K
  (try simp only [Act.put, qA, qB, qC, qD, qE, qF])
  have S14 := S0
  refine wpAnyN_one (i := 14) (by kernel_rfl) rfl (fun K hK => ?_)
  go_simp
  refine hK _ _ (fun _ => S14) ?_
  clear hK K
  (try simp only [Act.put, qA, qB, qC, qD, qE, qF])
  have S15 := S14
  refine wpAnyN_one (i := 15) (by kernel_rfl) rfl (fun K hK => ?_)
  go_simp
  refine hK _ _ (fun h => by cases h) ?_
  clear hK K
  (try simp only [Act.put, qA, qB, qC, qD, qE, qF])
  have S16 := S15
  refine wpAnyN_done (by kernel_rfl) ?_ _
  have H5 : Hid (MS X ⟨bl, c, m.us, m.wo, m.ip, m.out, m.ld⟩ st { L with cv := .slice (some ⟨B, 0, none⟩) (n + 1) C } (wd.setCell ⟨X.R, 7, none⟩ (.pointer (some ⟨pn, 0, none⟩))) ∧ AOn X L n (wd.setCell ⟨X.R, 7, none⟩ (.pointer (some ⟨pn, 0, none⟩))) vs AA) := ⟨MX.toS (by
    have := H3d.out.1.now (.pointer (some ⟨pn, 0, none⟩))
    rw [PN.out.1, PN.out.2] at this ⊢
    exact this), H3d.out.2.set _ (Or.inl rfl)⟩
  clear c7 f7 S0 S4F S14 S15 S16 H3d hz
  generalize (wd.setCell ⟨X.R, 7, none⟩ (.pointer (some ⟨pn, 0, none⟩))) = w3 at *
  obtain ⟨h6, h7⟩ := H5.out
  have c7 : w3.cell? ⟨X.R, 7, none⟩ = some (.pointer (some ⟨pn, 0, none⟩)) := by
    have := h6.rr.cell 7 (by omega)
    rw [PN.out.1, PN.out.2]
    exact this
  have k0 : w3.cell? ⟨pn, 0, none⟩ = some (.pointer (some ⟨fb1, fo1, none⟩)) := by
    have := h6.now.s.cell 0 (by omega)
    rw [PN.out.1, PN.out.2, ← G1.out]
    exact this
  have k4 : w3.cell? ⟨pn, 4, none⟩ = some (.int .i64 (c.bk : Int)) := by
    have := h6.now.s.cell 4 (by omega)
    rw [PN.out.1, PN.out.2]
    exact this
  have k5 : w3.cell? ⟨pn, 5, none⟩ = some (.int .i64 ((j : Int) + 1)) := by
    have := h6.now.s.cell 5 (by omega)
    rw [PN.out.1, PN.out.2, this]
    simp [clF, NX.out]
  obtain ⟨o6, o8, o7⟩ := HO.out w3 h6.bz
  have H5 : Hid (MS X ⟨bl, c, m.us, m.wo, m.ip, m.out, m.ld⟩ st { L with cv := .slice (some ⟨B, 0, none⟩) (n + 1) C } w3 ∧ AOn X L n w3 vs AA) := ⟨h6, h7⟩
  clear h6 h7 HO
  go_wp2
  go_quiet (fail)
  go_wp2
  have H6 : Hid (∀ q, MS X ⟨bl, c, m.us, m.wo, m.ip, m.out, m.ld⟩ st { L with cv := .slice (some ⟨B, 0, none⟩) (n + 1) C } (w3.drewN q) ∧ AOn X L n (w3.drewN q) vs AA) := fun q => ⟨H5.out.1.below (below_drewN _ _), H5.out.2⟩
  clear c7 k0 k4 k5 o6 o8 o7 H5
  go_loopw [94] (fun iv wr => ∃ i : Nat, i ≤ vs.length ∧ iv = .int .i64 (i : Int) ∧ MS X ⟨bl, setsR c (ds.take i) (vs.take i), m.us, m.wo, m.ip, m.out, m.ld⟩ st { L with cv := .slice (some ⟨B, 0, none⟩) (n + 1) C } wr ∧ AOn X L n wr vs AA) (fun iv _ => vs.length - (intOf iv).toNat)
  case atStart => exact ⟨0, by omega, rfl, (H6.out _).1, (H6.out _).2⟩
  case round =>
    obtain ⟨i, hi, rfl, hM, hA⟩ := hrel
    have MI : Hid (MS X ⟨bl, setsR c (ds.take i) (vs.take i), m.us, m.wo, m.ip, m.out, m.ld⟩ st { L with cv := .slice (some ⟨B, 0, none⟩) (n + 1) C } wr) := hM
    have AI : Hid (AOn X L n wr vs AA) := hA
    clear hM hA H6
    rcases Nat.lt_or_ge i vs.length with hi' | hi'
    · have hiz : (i : Int) < vs.length := by omega
      have hid : i < ds.length := by rw [LN.out]; exact hi'
      obtain ⟨db, d0, rfl, hdc⟩ := HD.out i hid
      obtain ⟨ab, ao, rfl, a1, a2, a3⟩ := AI.out i hi'
      have cr := hdc wr MI.out.bz
      obtain ⟨r0, r1⟩ := HP.out ds[i] (List.getElem_mem hid)
      obtain ⟨rn, hrn⟩ : ∃ rn : Nat, ds[i] = (rn : Int) := ⟨ds[i].toNat, by omega⟩
      have hlr : (setsR c (ds.take i) (vs.take i)).rg.length = c.rg.length := (setsR_same _ _ _).2.2.2.2.2
      have SN : setsR c (ds.take (i + 1)) (vs.take (i + 1)) = setR (setsR c (ds.take i) (vs.take i)) (rn : Int) vs[i] := by
        rw [List.take_succ_eq_append_getElem hid, List.take_succ_eq_append_getElem hi', hrn]
        exact setsR_snoc _ _ _ _ _ (by simp; omega)
      have hrl : rn < (setsR c (ds.take i) (vs.take i)).rg.length := by rw [hlr]; omega
      have M2 : Hid (MS X ⟨bl, setsR c (ds.take (i + 1)) (vs.take (i + 1)), m.us, m.wo, m.ip, m.out, m.ld⟩ st { L with cv := .slice (some ⟨B, 0, none⟩) (n + 1) C } (wr.drew.setCell ⟨L.rb bl.length, rn, none⟩ (.int .i32 vs[i]))) := by
        show MS _ _ _ _ _
        rw [SN]
        exact (MI.out.below (below_drew wr)).reg rn hrl vs[i]
      have A2 : Hid (AOn X L n (wr.drew.setCell ⟨L.rb bl.length, rn, none⟩ (.int .i32 vs[i])) vs (some ⟨ab, ao, none⟩)) := AI.out.drew.set _ (Or.inr ⟨bl.length, by rw [PN.out.2]; exact Nat.le_refl _, rfl⟩)
      have SC : Hid (Calls Tryd.prog 25 #[.pointer (some ⟨pn, 0, none⟩), .int .i64 (rn : Int), .int .i32 vs[i]] wr.drew fun e w' => e = .returned (.tuple #[]) ∧ w' = wr.drew.setCell ⟨L.rb bl.length, rn, none⟩ (.int .i32 vs[i])) := by
        have := set_c (MI.out.below (below_drew wr)).now (rn : Int) vs[i] (by omega) (show (rn : Int) < ((setsR c (ds.take i) (vs.take i)).rg.length : Int) by omega)
        rw [Int.toNat_natCast] at this
        rw [PN.out.1, PN.out.2]
        exact this
      rw [hrn] at cr
      have S9F : Hid (wr.drew.cell? ⟨X.R, 7, none⟩ = some (.pointer (some ⟨pn, 0, none⟩)) ∧ wr.drew.cell? ⟨ab, ao + i, none⟩ = some (.int .i32 vs[i])) := ⟨by
        have := (MI.out.below (below_drew wr)).rr.cell 7 (by omega)
        rw [PN.out.1, PN.out.2]
        exact this, a3⟩
      have S9N : Hid ((wr.drew.setCell ⟨L.rb bl.length, rn, none⟩ (.int .i32 vs[i])).cell? ⟨X.R, 7, none⟩ = some (.pointer (some ⟨pn, 0, none⟩)) ∧ (wr.drew.setCell ⟨L.rb bl.length, rn, none⟩ (.int .i32 vs[i])).cell? ⟨ab, ao + i, none⟩ = some (.int .i32 vs[i])) := ⟨by
        have := M2.out.rr.cell 7 (by omega)
        rw [PN.out.1, PN.out.2]
        exact this, by
        obtain ⟨b9, o9, e9, _, _, h9⟩ := A2.out i hi'
        cases e9
        exact h9⟩
      clear SN hlr hrl r0 r1 hrn hdc a1 a2 a3
      generalize vs[i] = v at *
      go_wp2
      refine wp_region_N (fun w' => w'.cell? ⟨X.R, 7, none⟩ = some (.pointer (some ⟨pn, 0, none⟩)) ∧ w'.cell? ⟨ab, ao + i, none⟩ = some (.int .i32 v)) (fun _ => true) mixedE (S9F.out) ?_
      intro S0
      refine tkO (i := 0) (v := ?_) rfl (Or.inl ⟨by rfl, ?_⟩) S0 ?_
      rotate_left
      · intro w' hS'
        obtain ⟨h0, h1⟩ := hS'
        (try go_simp)
        first | done | exact rfl | exact ⟨rfl, rfl⟩
      (try simp only [Act.put, qA, qC, qD, qE, qF])
      refine tkO (i := 1) (v := ?_) rfl (Or.inl ⟨by rfl, ?_⟩) S0 ?_
      rotate_left
      · intro w' hS'
        obtain ⟨h0, h1⟩ := hS'
        (try go_simp)
        first | done | exact rfl | exact ⟨rfl, rfl⟩
      (try simp only [Act.put, qA, qB, qC, qD, qE, qF])
      refine tkO (i := 2) (v := ?_) rfl (Or.inl ⟨by rfl, ?_⟩) S0 ?_
      rotate_left
      · intro w' hS'
        obtain ⟨h0, h1⟩ := hS'
        (try go_simp)
        first | done | exact rfl | exact ⟨rfl, rfl⟩
      (try simp only [Act.put, qA, qB, qC, qD, qE, qF])
      refine tkO (i := 3) (v := ?_) rfl (Or.inl ⟨by rfl, ?_⟩) S0 ?_
      rotate_left
      · intro w' hS'
        obtain ⟨h0, h1⟩ := hS'
        (try go_simp)
        first | done | exact rfl | exact ⟨rfl, rfl⟩
      (try simp only [Act.put, qA, qB, qC, qD, qE, qF])
      refine tkO (i := 4) (v := ?_) rfl (Or.inl ⟨by rfl, ?_⟩) S0 ?_
      rotate_left
      · intro w' hS'
        obtain ⟨h0, h1⟩ := hS'
        (try go_simp)
        first | done | exact rfl | exact ⟨rfl, rfl⟩
      (try simp only [Act.put, qA, qB, qC, qD, qE, qF])
      refine tkO (i := 5) (v := ?_) rfl (Or.inl ⟨by rfl, ?_⟩) S0 ?_
      rotate_left
      · intro w' hS'
        obtain ⟨h0, h1⟩ := hS'
        (try go_simp)
        first | done | exact rfl | exact ⟨rfl, rfl⟩
      (try simp only [Act.put, qA, qB, qC, qD, qE, qF])
      refine tkO (i := 6) (v := ?_) rfl (Or.inl ⟨by rfl, ?_⟩) S0 ?_
      rotate_left
      · intro w' hS'
        obtain ⟨h0, h1⟩ := hS'
        (try go_simp)
        first | done | exact rfl | exact ⟨rfl, rfl⟩
      (try simp only [Act.put, qA, qB, qC, qD, qE, qF])
      refine tkO (i := 7) (v := ?_) rfl (Or.inl ⟨by rfl, ?_⟩) S0 ?_
      rotate_left
      · intro w' hS'
        obtain ⟨h0, h1⟩ := hS'
        (try go_simp)
        first | done | exact rfl | exact ⟨rfl, rfl⟩
      (try simp only [Act.put, qA, qB, qC, qD, qE, qF])
      refine tkO (i := 8) (v := ?_) rfl (Or.inl ⟨by rfl, ?_⟩) S0 ?_
      rotate_left
      · intro w' hS'
        obtain ⟨h0, h1⟩ := hS'
        (try go_simp)
        first | done | exact rfl | exact ⟨rfl, rfl⟩
      (try simp only [Act.put, qA, qB, qC, qD, qE, qF])
      refine wpAnyN_one (i := 9) (by kernel_rfl) rfl (fun K hK => ?_)
      go_simp
      refine Calls.mono SC.out ?_
      rintro e w7 ⟨rfl, hw7⟩
      rw [hw7]
      clear hw7 w7
      go_wp2_with fail
      refine hK _ _ (fun _ => S9N.out) ?_
      clear hK K
      (try simp only [Act.put, qA, qB, qC, qD, qE, qF])
      have S10 := S0
      refine wpAnyN_done (by kernel_rfl) ?_ _
      go_wp2
      go_roundw
      case rel => exact ⟨i + 1, by omega, by go_num, M2.out, A2.out⟩
      case measure => simp [intOf]; omega
    · have hiz : ¬ (i : Int) < vs.length := by omega
      obtain rfl : i = vs.length := by omega
      have MI : Hid (MS X ⟨bl, setsR c ds vs, m.us, m.wo, m.ip, m.out, m.ld⟩ st { L with cv := .slice (some ⟨B, 0, none⟩) (n + 1) C } wr) := (by have := MI.out; rwa [List.take_length, ← LN.out, List.take_length] at this : MS X ⟨bl, setsR c ds vs, m.us, m.wo, m.ip, m.out, m.ld⟩ st { L with cv := .slice (some ⟨B, 0, none⟩) (n + 1) C } wr)
      go_wp2
      go_end0
      exact ⟨rfl, _, MI.out⟩

set_option maxRecDepth 20000 in
set_option maxHeartbeats 4000000 in
theorem leave_A_false (h : MS X m st L w) (hk : m.nw.fn < X.l.length) (hq : X.l[m.nw.fn].qu = false) (hld : -1000 ≤ m.ld ∧ m.ld ≤ 1000) (hbl : m.bl = []) (av : Value) :
    Calls Tryd.prog 39 #[.pointer (some ⟨X.R, 0, none⟩), av] w fun e w' => e = .returned (.tuple #[]) ∧ ∃ L' nv, MX X ⟨[], m.us, m.wo, m.ip, m.out, m.ld - 1⟩ nv st L' w' := by
  have hX := h.toX
  obtain ⟨fb0, fo, pv0, bv0, hfp, hrow, -, -⟩ := hX.fn m.nw.fn hk
  have c5 : w.cell? ⟨fb0, fo + 5, none⟩ = some (.bool false) := by
    have r5 := hrow.at 5 (v := .bool X.l[m.nw.fn].qu) rfl
    rw [hq] at r5
    exact (h.bz.cell (p := ⟨fb0, fo + 5, none⟩) hrow.1).trans r5
  have c7 : w.cell? ⟨X.R, 7, none⟩ = some (.pointer (some ⟨L.pb m.bl.length, 0, none⟩)) := h.rr.cell 7 (by omega)
  have c0 : w.cell? ⟨L.pb m.bl.length, 0, none⟩ = some (.pointer (some ⟨fb0, fo, none⟩)) := by rw [← hfp]; exact h.now.s.cell 0 (by omega)
  have c8 : w.cell? ⟨X.R, 8, none⟩ = some (.int .i64 m.ld) := h.rr.cell 8 (by omega)
  have f8 := h.rr.frozen 8
  obtain ⟨B, C, ecv, hC, hBR, hcl⟩ := hX.calls (by simp)
  have H1 : MX X { hOf m with ld := m.ld - 1 } (.pointer (some ⟨L.pb m.bl.length, 0, none⟩)) st L (w.setCell ⟨X.R, 8, none⟩ (.int .i64 (m.ld - 1))) := hX.loud (m.ld - 1)
  simp only [hbl, List.nil_append, List.length_singleton] at ecv hC
  have H2 : Hid (∀ wd, MX X { hOf m with ld := m.ld - 1 } (.pointer (some ⟨L.pb m.bl.length, 0, none⟩)) st L wd → MX X ⟨[], m.us, m.wo, m.ip, m.out, m.ld - 1⟩ (.pointer (some ⟨L.pb m.bl.length, 0, none⟩)) st { L with cv := .slice (some ⟨B, 0, none⟩) 0 C } (wd.setCell ⟨X.R, 6, none⟩ (.slice (some ⟨B, 0, none⟩) 0 C))) := fun wd hw => hw.pop (cs := []) (c := m.nw) (by simp [hbl]) ecv
  have H1h : Hid (MX X { hOf m with ld := m.ld - 1 } (.pointer (some ⟨L.pb m.bl.length, 0, none⟩)) st L (w.setCell ⟨X.R, 8, none⟩ (.int .i64 (m.ld - 1)))) := H1
  have S2F : Hid ((w.setCell ⟨X.R, 8, none⟩ (.int .i64 (m.ld - 1))).drew.cell? ⟨X.R, 6, none⟩ = some (.slice (some ⟨B, 0, none⟩) (0 + 1) C) ∧ (w.setCell ⟨X.R, 8, none⟩ (.int .i64 (m.ld - 1))).drew.frozen? ⟨X.R, 6, none⟩ = false) := ⟨by have := H1.rr.cell 6 (by omega); rw [show rnG X _ st L.cv L.pv L.iv _ 6 = L.cv from rfl, ecv] at this; exact this, H1.rr.frozen 6⟩
  have H1d : Hid (MX X { hOf m with ld := m.ld - 1 } (.pointer (some ⟨L.pb m.bl.length, 0, none⟩)) st L (w.setCell ⟨X.R, 8, none⟩ (.int .i64 (m.ld - 1))).drew) := H1.below (below_drew _)
  clear hX hfp hrow hcl H1 H1h h hk hq ecv hbl hBR
  generalize L.pb m.bl.length = pl at *
  obtain ⟨m1, m2⟩ := hld
  go_enter Tryd.func39, Tryd.ntmps39
  go_upto_region 2 with fail
  clear c5 c7 c0 c8 f8
  refine wp_region_N (fun w' => w'.cell? ⟨X.R, 6, none⟩ = some (.slice (some ⟨B, 0, none⟩) (0 + 1) C) ∧ w'.frozen? ⟨X.R, 6, none⟩ = false) (fun i => i != 14) mixedE (S2F.out) ?_
  intro S0
  obtain ⟨c6, f6⟩ := S0
  have S0 := And.intro c6 f6
  generalize (w.setCell ⟨X.R, 8, none⟩ (.int .i64 (m.ld - 1))).drew = wd at *
  refine tkO (i := 0) (v := ?_) rfl (Or.inl ⟨by rfl, ?_⟩) S0 ?_
  rotate_left
  · intro w' hS'
    obtain ⟨h0, h1⟩ := hS'
    (try go_simp)
    first | done | exact rfl | exact ⟨rfl, rfl⟩
  (try simp only [Act.put, qA, qC, qD, qE, qF])
  refine tkO (i := 1) (v := ?_) rfl (Or.inl ⟨by rfl, ?_⟩) S0 ?_
  rotate_left
  · intro w' hS'
    obtain ⟨h0, h1⟩ := hS'
    (try go_simp)
    first | done | exact rfl | exact ⟨rfl, rfl⟩
  (try simp only [Act.put, qA, qB, qC, qD, qE, qF])
  refine tkO (i := 2) (v := ?_) rfl (Or.inl ⟨by rfl, ?_⟩) S0 ?_
  rotate_left
  · intro w' hS'
    obtain ⟨h0, h1⟩ := hS'
    (try go_simp)
    first | done | exact rfl | exact ⟨rfl, rfl⟩
  (try simp only [Act.put, qA, qB, qC, qD, qE, qF])
  refine tkO (i := 3) (v := ?_) rfl (Or.inl ⟨by rfl, ?_⟩) S0 ?_
  rotate_left
  · intro w' hS'
    obtain ⟨h0, h1⟩ := hS'
    (try go_simp)
    first | done | exact rfl | exact ⟨rfl, rfl⟩
  (try simp only [Act.put, qA, qB, qC, qD, qE, qF])
  refine tkO (i := 4) (v := ?_) rfl (Or.inl ⟨by rfl, ?_⟩) S0 ?_
  rotate_left
  · intro w' hS'
    obtain ⟨h0, h1⟩ := hS'
    (try go_simp)
    first | done | exact rfl | exact ⟨rfl, rfl⟩
  (try simp only [Act.put, qA, qB, qC, qD, qE, qF])
  refine tkO (i := 5) (v := ?_) rfl (Or.inl ⟨by rfl, ?_⟩) S0 ?_
  rotate_left
  · intro w' hS'
    obtain ⟨h0, h1⟩ := hS'
    (try go_simp)
    first | done | exact rfl | exact ⟨rfl, rfl⟩
  (try simp only [Act.put, qA, qB, qC, qD, qE, qF])
  refine tkO (i := 6) (v := ?_) rfl (Or.inl ⟨by rfl, ?_⟩) S0 ?_
  rotate_left
  · intro w' hS'
    obtain ⟨h0, h1⟩ := hS'
    (try go_simp)
    first | done | exact rfl | exact ⟨rfl, rfl⟩
  (try simp only [Act.put, qA, qB, qC, qD, qE, qF])
  refine tkO (i := 7) (v := ?_) rfl (Or.inl ⟨by rfl, ?_⟩) S0 ?_
  rotate_left
  · intro w' hS'
    obtain ⟨h0, h1⟩ := hS'
    (try go_simp)
    first | done | exact rfl | exact ⟨rfl, rfl⟩
  (try simp only [Act.put, qA, qB, qC, qD, qE, qF])
  refine tkO (i := 8) (v := ?_) rfl (Or.inl ⟨by rfl, ?_⟩) S0 ?_
  rotate_left
  · intro w' hS'
    obtain ⟨h0, h1⟩ := hS'
    (try go_simp)
    first | done | exact rfl | exact ⟨rfl, rfl⟩
  (try simp only [Act.put, qA, qB, qC, qD, qE, qF])
  refine tkO (i := 9) (v := ?_) rfl (Or.inl ⟨by rfl, ?_⟩) S0 ?_
  rotate_left
  · intro w' hS'
    obtain ⟨h0, h1⟩ := hS'
    (try go_simp)
    first | done | exact rfl | exact ⟨rfl, rfl⟩
  (try simp only [Act.put, qA, qB, qC, qD, qE, qF])
  refine tkO (i := 10) (v := ?_) rfl (Or.inl ⟨by rfl, ?_⟩) S0 ?_
  rotate_left
  · intro w' hS'
    obtain ⟨h0, h1⟩ := hS'
    (try go_simp)
    first | done | exact rfl | exact ⟨rfl, rfl⟩
  (try simp only [Act.put, qA, qB, qC, qD, qE, qF])
  refine tkO (i := 11) (v := ?_) rfl (Or.inl ⟨by rfl, ?_⟩) S0 ?_
  rotate_left
  · intro w' hS'
    obtain ⟨h0, h1⟩ := hS'
    (try go_simp)
    first | done | exact rfl | exact ⟨rfl, rfl⟩
  (try simp only [Act.put, qA, qB, qC, qD, qE, qF])
  refine wpAnyN_one (i := 12) (by kernel_rfl) rfl (fun K hK => ?_)
  go_simp
  refine hK _ _ (fun _ => S0) ?_
  clear hK K
  (try simp only [Act.put, qA, qB, qC, qD, qE, qF])
  have S13 := S0
  refine wpAnyN_one (i := 13) (by kernel_rfl) rfl (fun K hK => ?_)
  go_simp
  refine hK _ _ (fun _ => S13) ?_
  clear hK K
  (try simp only [Act.put, qA, qB, qC, qD, qE, qF])
  have S14 := S13
  refine wpAnyN_one (i := 14) (by kernel_rfl) rfl (fun K hK => ?_)
  go_simp
  refine hK _ _ (fun h => by cases h) ?_
  clear hK K
  (try simp only [Act.put, qA, qB, qC, qD, qE, qF])
  have S15 := S14
  refine wpAnyN_done (by kernel_rfl) ?_ _
  have H3 : Hid (MX X ⟨[], m.us, m.wo, m.ip, m.out, m.ld - 1⟩ (.pointer (some ⟨pl, 0, none⟩)) st { L with cv := .slice (some ⟨B, 0, none⟩) 0 C } (wd.setCell ⟨X.R, 6, none⟩ (.slice (some ⟨B, 0, none⟩) 0 C))) := H2.out _ H1d.out
  clear c6 f6 S0 S2F S13 S14 S15
  have c6 : (wd.setCell ⟨X.R, 6, none⟩ (.slice (some ⟨B, 0, none⟩) 0 C)).cell? ⟨X.R, 6, none⟩ = some (.slice (some ⟨B, 0, none⟩) 0 C) := H3.out.rr.cell 6 (by omega)
  go_wp2
  refine bodyPost_ret (results_none rfl _ _ _) rfl ?_
  exact ⟨rfl, _, _, H3.out⟩

set_option maxRecDepth 20000 in
set_option maxHeartbeats 8000000 in
theorem leave_B_false (h : MS X m st L w) (hk : m.nw.fn < X.l.length) (hq : X.l[m.nw.fn].qu = false) (hld : -1000 ≤ m.ld ∧ m.ld ≤ 1000) (bl : List Cl) (c : Cl) (hbl : m.bl = bl ++ [c]) (hn : bl.length < 1000)
    (hck : c.fn < X.l.length) (hcb : c.bk < X.l[c.fn].bs.length) (j : Nat) (hnx : c.nx = j + 1) (hj : j < X.l[c.fn].bs[c.bk].li.length) (hbs : X.l[c.fn].bs.length ≤ 281474976710656)
    (vs : List Int) (AA : Option Addr) (AC : Nat) (ha : AOn X L bl.length w vs AA) (hlen : X.l[c.fn].bs[c.bk].li[j].dsts.length = vs.length) (hl8 : vs.length ≤ 8) (hds : ∀ r ∈ X.l[c.fn].bs[c.bk].li[j].dsts, 0 ≤ r ∧ r < c.rg.length) :
    Calls Tryd.prog 39 #[.pointer (some ⟨X.R, 0, none⟩), .slice AA vs.length AC] w fun e w' => e = .returned (.tuple #[]) ∧ ∃ L', MS X ⟨bl, setsR c X.l[c.fn].bs[c.bk].li[j].dsts vs, m.us, m.wo, m.ip, m.out, m.ld - 1⟩ st L' w' := by
  have hX := h.toX
  obtain ⟨fb0, fo, pv0, bv0, hfp, hrow, -, -⟩ := hX.fn m.nw.fn hk
  have c5 : w.cell? ⟨fb0, fo + 5, none⟩ = some (.bool false) := by
    have r5 := hrow.at 5 (v := .bool X.l[m.nw.fn].qu) rfl
    rw [hq] at r5
    exact (h.bz.cell (p := ⟨fb0, fo + 5, none⟩) hrow.1).trans r5
  have c7 : w.cell? ⟨X.R, 7, none⟩ = some (.pointer (some ⟨L.pb m.bl.length, 0, none⟩)) := h.rr.cell 7 (by omega)
  have c0 : w.cell? ⟨L.pb m.bl.length, 0, none⟩ = some (.pointer (some ⟨fb0, fo, none⟩)) := by rw [← hfp]; exact h.now.s.cell 0 (by omega)
  have c8 : w.cell? ⟨X.R, 8, none⟩ = some (.int .i64 m.ld) := h.rr.cell 8 (by omega)
  have f8 := h.rr.frozen 8
  obtain ⟨B, C, ecv, hC, hBR, hcl⟩ := hX.calls (by simp)
  have H1 : MX X { hOf m with ld := m.ld - 1 } (.pointer (some ⟨L.pb m.bl.length, 0, none⟩)) st L (w.setCell ⟨X.R, 8, none⟩ (.int .i64 (m.ld - 1))) := hX.loud (m.ld - 1)
  have ecs : (hOf m).cs.length = bl.length + 1 + 1 := by simp [hbl]
  rw [ecs] at ecv hC
  have cpn : w.cell? ⟨B, bl.length, none⟩ = some (.pointer (some ⟨L.pb bl.length, 0, none⟩)) := hcl bl.length (by rw [ecs]; omega)
  obtain ⟨fb1, fo1, pv1, BC1, bb, bo, lA, lC, tv, g1, g2, g3, g4, g5⟩ := blk_at h.hl c.fn hck c.bk hcb
  obtain ⟨ib, io, xav, xdv, rfl, g6, g7, g8, g9⟩ := ins_at g4 j hj
  obtain ⟨-, DA, DC, rfl, g10⟩ := g9.cells
  have H2 : Hid (∀ wd, MX X { hOf m with ld := m.ld - 1 } (.pointer (some ⟨L.pb m.bl.length, 0, none⟩)) st L wd → MX X ⟨bl ++ [c], m.us, m.wo, m.ip, m.out, m.ld - 1⟩ (.pointer (some ⟨L.pb m.bl.length, 0, none⟩)) st { L with cv := .slice (some ⟨B, 0, none⟩) (bl.length + 1) C } (wd.setCell ⟨X.R, 6, none⟩ (.slice (some ⟨B, 0, none⟩) (bl.length + 1) C))) := fun wd hw => by
    have := hw.pop (cs := bl ++ [c]) (c := m.nw) (by simp [hbl]) (A := some ⟨B, 0, none⟩) (C := C) (by rw [ecv]; simp)
    simpa using this
  have S2F : Hid ((w.setCell ⟨X.R, 8, none⟩ (.int .i64 (m.ld - 1))).drew.cell? ⟨X.R, 6, none⟩ = some (.slice (some ⟨B, 0, none⟩) (bl.length + 1 + 1) C) ∧ (w.setCell ⟨X.R, 8, none⟩ (.int .i64 (m.ld - 1))).drew.frozen? ⟨X.R, 6, none⟩ = false) := ⟨by have := H1.rr.cell 6 (by omega); rw [show rnG X _ st L.cv L.pv L.iv _ 6 = L.cv from rfl, ecv] at this; exact this, H1.rr.frozen 6⟩
  have H1d : Hid (MX X { hOf m with ld := m.ld - 1 } (.pointer (some ⟨L.pb m.bl.length, 0, none⟩)) st L (w.setCell ⟨X.R, 8, none⟩ (.int .i64 (m.ld - 1))).drew ∧ (w.setCell ⟨X.R, 8, none⟩ (.int .i64 (m.ld - 1))).drew.cell? ⟨B, bl.length, none⟩ = some (.pointer (some ⟨L.pb bl.length, 0, none⟩)) ∧ AOn X L bl.length (w.setCell ⟨X.R, 8, none⟩ (.int .i64 (m.ld - 1))).drew vs AA) := ⟨H1.below (below_drew _), (by show (w.setCell _ _).cell? _ = _; rw [World.cell?_setCell_far _ _ _ _ (show X.R ≠ B from fun e => hBR e.symm)]; exact cpn), AOn.drew (ha.set _ (Or.inl rfl))⟩
  have HO : Hid (∀ w', Below X.wz.heap.size X.wz w' → w'.cell? ⟨fb1, fo1 + 6, none⟩ = some (.slice (some ⟨bb, bo, none⟩) X.l[c.fn].bs.length BC1) ∧ w'.cell? ⟨bb, bo + c.bk * 8, none⟩ = some (.slice (some ⟨ib, io, none⟩) X.l[c.fn].bs[c.bk].li.length lC) ∧ w'.cell? ⟨ib, io + j * 8 + 7, none⟩ = some (.slice DA vs.length DC)) := fun w' hw => by
    have a1 := g2.at 6 (v := .slice (some ⟨bb, bo, none⟩) X.l[c.fn].bs.length BC1) rfl
    have a2 := g3.at 0 (v := .slice (some ⟨ib, io, none⟩) X.l[c.fn].bs[c.bk].li.length lC) rfl
    have a3 := g6.at 7 (v := .slice DA X.l[c.fn].bs[c.bk].li[j].dsts.length DC) rfl
    rw [hlen] at a3
    exact ⟨(hw.cell (p := ⟨fb1, fo1 + 6, none⟩) g2.1).trans a1, (hw.cell (p := ⟨bb, bo + c.bk * 8, none⟩) g3.1).trans a2, (hw.cell (p := ⟨ib, io + j * 8 + 7, none⟩) g6.1).trans a3⟩
  have HD : Hid (∀ i (h : i < X.l[c.fn].bs[c.bk].li[j].dsts.length), ∃ b o, DA = some ⟨b, o, none⟩ ∧ ∀ w' : World, Below X.wz.heap.size X.wz w' → w'.cell? ⟨b, o + i, none⟩ = some (.int .i64 (X.l[c.fn].bs[c.bk].li[j].dsts[i]'h))) := fun i hi => by
    obtain ⟨b, o, e, hb, hc⟩ := g10 i hi
    exact ⟨b, o, e, fun w' hw => (hw.cell (p := ⟨b, o + i, none⟩) hb).trans hc⟩
  have G1 : Hid (fpV X c.fn = .pointer (some ⟨fb1, fo1, none⟩)) := g1
  have hcbz : (c.bk : Int) < X.l[c.fn].bs.length := by omega
  have hjz : (j : Int) < X.l[c.fn].bs[c.bk].li.length := by omega
  have hwj : IntKind.i64.wrap (j : Int) = (j : Int) := wrap_in _ ⟨by omega, by have := g4.1; omega⟩
  have hwj1 : (j : Int) + 1 - 1 = (j : Int) := by omega
  have LN : Hid (X.l[c.fn].bs[c.bk].li[j].dsts.length = vs.length) := hlen
  have HP : Hid (∀ r ∈ X.l[c.fn].bs[c.bk].li[j].dsts, 0 ≤ r ∧ r < c.rg.length) := hds
  have NX : Hid (c.nx = j + 1) := hnx
  have HBR : Hid (B ≠ X.R) := hBR
  clear hX hfp hrow hcl H1 h hk hq ecv ecs cpn g1 g2 g3 g4 g5 g6 g7 g8 g9 g10 hlen hds hnx ha hBR hbl
  generalize X.l[c.fn].bs[c.bk].li[j].dsts = ds at *
  generalize X.l[c.fn].bs[c.bk].li.length = nl at *
  clear hj
  generalize X.l[c.fn].bs.length = nb at *
  generalize L.pb m.bl.length = pl at *
  obtain ⟨pn, hpn⟩ : ∃ pn, pn = L.pb bl.length := ⟨_, rfl⟩
  obtain ⟨n, hnE⟩ : ∃ n, n = bl.length := ⟨_, rfl⟩
  have PN : Hid (pn = L.pb n ∧ n = bl.length) := ⟨by rw [hnE]; exact hpn, hnE⟩
  rw [← hpn] at H1d
  rw [← hnE] at H1d H2 S2F hC
  clear hpn hnE
  obtain ⟨m1, m2⟩ := hld
  have hcz1 : (n : Int) + 1 ≤ (C : Int) := by omega
  have hcz0 : (0 : Int) ≤ (n : Int) + 1 := by omega
  have hcz2 : ((n : Int) + 1).toNat = n + 1 := by omega
  have hcz3 : (n : Int) < (n : Int) + 1 := by omega
  have hcz4 : n < n + 1 := by omega
  have hnb : n < 1000 := by have := PN.out.2; omega
  have hw1 : IntKind.i64.wrap ((n : Int) + 1) = (n : Int) + 1 := wrap_in _ ⟨by omega, by omega⟩
  have hw0 : IntKind.i64.wrap (n : Int) = (n : Int) := wrap_in _ ⟨by omega, by omega⟩
  go_enter Tryd.func39, Tryd.ntmps39
  go_upto_region 2 with fail
  clear c5 c7 c0 c8 f8
  refine wp_region_N (fun w' => w'.cell? ⟨X.R, 6, none⟩ = some (.slice (some ⟨B, 0, none⟩) (n + 1 + 1) C) ∧ w'.frozen? ⟨X.R, 6, none⟩ = false) (fun i => i != 14) mixedE (S2F.out) ?_
  intro S0
  obtain ⟨c6, f6⟩ := S0
  have S0 := And.intro c6 f6
  generalize (w.setCell ⟨X.R, 8, none⟩ (.int .i64 (m.ld - 1))).drew = wd at *
  refine tkO (i := 0) (v := ?_) rfl (Or.inl ⟨by rfl, ?_⟩) S0 ?_
  rotate_left
  · intro w' hS'
    obtain ⟨h0, h1⟩ := hS'
    (try go_simp)
    first | done | exact rfl | exact ⟨rfl, rfl⟩
  (try simp only [Act.put, qA, qC, qD, qE, qF])
  refine tkO (i := 1) (v := ?_) rfl (Or.inl ⟨by rfl, ?_⟩) S0 ?_
  rotate_left
  · intro w' hS'
    obtain ⟨h0, h1⟩ := hS'
    (try go_simp)
    first | done | exact rfl | exact ⟨rfl, rfl⟩
  (try simp only [Act.put, qA, qB, qC, qD, qE, qF])
  refine tkO (i := 2) (v := ?_) rfl (Or.inl ⟨by rfl, ?_⟩) S0 ?_
  rotate_left
  · intro w' hS'
    obtain ⟨h0, h1⟩ := hS'
    (try go_simp)
    first | done | exact rfl | exact ⟨rfl, rfl⟩
  (try simp only [Act.put, qA, qB, qC, qD, qE, qF])
  refine tkO (i := 3) (v := ?_) rfl (Or.inl ⟨by rfl, ?_⟩) S0 ?_
  rotate_left
  · intro w' hS'
    obtain ⟨h0, h1⟩ := hS'
    (try go_simp)
    first | done | exact rfl | exact ⟨rfl, rfl⟩
  (try simp only [Act.put, qA, qB, qC, qD, qE, qF])
  refine tkO (i := 4) (v := ?_) rfl (Or.inl ⟨by rfl, ?_⟩) S0 ?_
  rotate_left
  · intro w' hS'
    obtain ⟨h0, h1⟩ := hS'
    (try go_simp)
    first | done | exact rfl | exact ⟨rfl, rfl⟩
  (try simp only [Act.put, qA, qB, qC, qD, qE, qF])
  refine tkO (i := 5) (v := ?_) rfl (Or.inl ⟨by rfl, ?_⟩) S0 ?_
  rotate_left
  · intro w' hS'
    obtain ⟨h0, h1⟩ := hS'
    (try go_simp)
    first | done | exact rfl | exact ⟨rfl, rfl⟩
  (try simp only [Act.put, qA, qB, qC, qD, qE, qF])
  refine tkO (i := 6) (v := ?_) rfl (Or.inl ⟨by rfl, ?_⟩) S0 ?_
  rotate_left
  · intro w' hS'
    obtain ⟨h0, h1⟩ := hS'
    (try go_simp)
    first | done | exact rfl | exact ⟨rfl, rfl⟩
  (try simp only [Act.put, qA, qB, qC, qD, qE, qF])
  refine tkO (i := 7) (v := ?_) rfl (Or.inl ⟨by rfl, ?_⟩) S0 ?_
  rotate_left
  · intro w' hS'
    obtain ⟨h0, h1⟩ := hS'
    (try go_simp)
    first | done | exact rfl | exact ⟨rfl, rfl⟩
  (try simp only [Act.put, qA, qB, qC, qD, qE, qF])
  refine tkO (i := 8) (v := ?_) rfl (Or.inl ⟨by rfl, ?_⟩) S0 ?_
  rotate_left
  · intro w' hS'
    obtain ⟨h0, h1⟩ := hS'
    (try go_simp)
    first | done | exact rfl | exact ⟨rfl, rfl⟩
  (try simp only [Act.put, qA, qB, qC, qD, qE, qF])
  refine tkO (i := 9) (v := ?_) rfl (Or.inl ⟨by rfl, ?_⟩) S0 ?_
  rotate_left
  · intro w' hS'
    obtain ⟨h0, h1⟩ := hS'
    (try go_simp)
    first | done | exact rfl | exact ⟨rfl, rfl⟩
  (try simp only [Act.put, qA, qB, qC, qD, qE, qF])
  refine tkO (i := 10) (v := ?_) rfl (Or.inl ⟨by rfl, ?_⟩) S0 ?_
  rotate_left
  · intro w' hS'
    obtain ⟨h0, h1⟩ := hS'
    (try go_simp)
    first | done | exact rfl | exact ⟨rfl, rfl⟩
  (try simp only [Act.put, qA, qB, qC, qD, qE, qF])
  refine tkO (i := 11) (v := ?_) rfl (Or.inl ⟨by rfl, ?_⟩) S0 ?_
  rotate_left
  · intro w' hS'
    obtain ⟨h0, h1⟩ := hS'
    (try go_simp)
    first | done | exact rfl | exact ⟨rfl, rfl⟩
  (try simp only [Act.put, qA, qB, qC, qD, qE, qF])
  refine wpAnyN_one (i := 12) (by kernel_rfl) rfl (fun K hK => ?_)
  go_simp
  refine hK _ _ (fun _ => S0) ?_
  clear hK K
  (try simp only [Act.put, qA, qB, qC, qD, qE, qF])
  have S13 := S0
  refine wpAnyN_one (i := 13) (by kernel_rfl) rfl (fun K hK => ?_)
  go_simp
  refine hK _ _ (fun _ => S13) ?_
  clear hK K
  (try simp only [Act.put, qA, qB, qC, qD, qE, qF])
  have S14 := S13
  refine wpAnyN_one (i := 14) (by kernel_rfl) rfl (fun K hK => ?_)
  go_simp
  refine hK _ _ (fun h => by cases h) ?_
  clear hK K
  (try simp only [Act.put, qA, qB, qC, qD, qE, qF])
  have S15 := S14
  refine wpAnyN_done (by kernel_rfl) ?_ _
  have H3 : Hid (MX X ⟨bl ++ [c], m.us, m.wo, m.ip, m.out, m.ld - 1⟩ (.pointer (some ⟨pl, 0, none⟩)) st { L with cv := .slice (some ⟨B, 0, none⟩) (n + 1) C } (wd.setCell ⟨X.R, 6, none⟩ (.slice (some ⟨B, 0, none⟩) (n + 1) C))) := H2.out _ H1d.out.1
  have H4 : Hid ((wd.setCell ⟨X.R, 6, none⟩ (.slice (some ⟨B, 0, none⟩) (n + 1) C)).cell? ⟨B, n, none⟩ = some (.pointer (some ⟨pn, 0, none⟩)) ∧ AOn X L n (wd.setCell ⟨X.R, 6, none⟩ (.slice (some ⟨B, 0, none⟩) (n + 1) C)) vs AA) := ⟨by rw [World.cell?_setCell_far _ _ _ _ (show X.R ≠ B from fun e => HBR.out e.symm)]; exact H1d.out.2.1, H1d.out.2.2.set _ (Or.inl rfl)⟩
  clear c6 f6 S0 S2F S13 S14 S15 H1d H2
  generalize (wd.setCell ⟨X.R, 6, none⟩ (.slice (some ⟨B, 0, none⟩) (n + 1) C)) = w2 at *
  have c6 : w2.cell? ⟨X.R, 6, none⟩ = some (.slice (some ⟨B, 0, none⟩) (n + 1) C) := H3.out.rr.cell 6 (by omega)
  have hz : ¬ ((n : Int) + 1 = 0) := by omega
  obtain ⟨nv, hnv⟩ : ∃ nv : Value, nv = .pointer (some ⟨pl, 0, none⟩) := ⟨_, rfl⟩
  rw [← hnv] at H3
  clear hnv
  go_wp2
  have S4F : Hid (w2.drew.cell? ⟨X.R, 6, none⟩ = some (.slice (some ⟨B, 0, none⟩) (n + 1) C) ∧ w2.drew.cell? ⟨B, n, none⟩ = some (.pointer (some ⟨pn, 0, none⟩)) ∧ w2.drew.cell? ⟨X.R, 7, none⟩ = some nv ∧ w2.drew.frozen? ⟨X.R, 7, none⟩ = false) := ⟨c6, H4.out.1, H3.out.rr.cell 7 (by omega), H3.out.rr.frozen 7⟩
  have H3d : Hid (MX X ⟨bl ++ [c], m.us, m.wo, m.ip, m.out, m.ld - 1⟩ nv st { L with cv := .slice (some ⟨B, 0, none⟩) (n + 1) C } w2.drew ∧ AOn X L n w2.drew vs AA) := ⟨H3.out.below (below_drew _), H4.out.2.drew⟩
  clear c6 H3 H4
  refine wp_region_N (fun w' => w'.cell? ⟨X.R, 6, none⟩ = some (.slice (some ⟨B, 0, none⟩) (n + 1) C) ∧ w'.cell? ⟨B, n, none⟩ = some (.pointer (some ⟨pn, 0, none⟩)) ∧ w'.cell? ⟨X.R, 7, none⟩ = some nv ∧ w'.frozen? ⟨X.R, 7, none⟩ = false) (fun i => i != 15) mixedE (S4F.out) ?_
  intro S0
  obtain ⟨_, _, c7, f7⟩ := S0
  have S0 := S4F.out
  generalize w2.drew = wd at *
  refine tkO (i := 0) (v := ?_) rfl (Or.inl ⟨by rfl, ?_⟩) S0 ?_
  rotate_left
  · intro w' hS'
    obtain ⟨h0, h1, h2, h3⟩ := hS'
    (try go_simp)
    first | done | exact rfl | exact ⟨rfl, rfl⟩
  (try simp only [Act.put, qA, qC, qD, qE, qF])
  refine tkO (i := 1) (v := ?_) rfl (Or.inl ⟨by rfl, ?_⟩) S0 ?_
  rotate_left
  · intro w' hS'
    obtain ⟨h0, h1, h2, h3⟩ := hS'
    (try go_simp)
    first | done | exact rfl | exact ⟨rfl, rfl⟩
  (try simp only [Act.put, qA, qB, qC, qD, qE, qF])
  refine tkO (i := 2) (v := ?_) rfl (Or.inl ⟨by rfl, ?_⟩) S0 ?_
  rotate_left
  · intro w' hS'
    obtain ⟨h0, h1, h2, h3⟩ := hS'
    (try go_simp)
    first | done | exact rfl | exact ⟨rfl, rfl⟩
  (try simp only [Act.put, qA, qB, qC, qD, qE, qF])
  refine tkO (i := 3) (v := ?_) rfl (Or.inl ⟨by rfl, ?_⟩) S0 ?_
  rotate_left
  · intro w' hS'
    obtain ⟨h0, h1, h2, h3⟩ := hS'
    (try go_simp)
    first | done | exact rfl | exact ⟨rfl, rfl⟩
  (try simp only [Act.put, qA, qB, qC, qD, qE, qF])
  refine tkO (i := 4) (v := ?_) rfl (Or.inl ⟨by rfl, ?_⟩) S0 ?_
  rotate_left
  · intro w' hS'
    obtain ⟨h0, h1, h2, h3⟩ := hS'
    (try go_simp)
    first | done | exact rfl | exact ⟨rfl, rfl⟩
  (try simp only [Act.put, qA, qB, qC, qD, qE, qF])
  refine tkO (i := 5) (v := ?_) rfl (Or.inl ⟨by rfl, ?_⟩) S0 ?_
  rotate_left
  · intro w' hS'
    obtain ⟨h0, h1, h2, h3⟩ := hS'
    (try go_simp)
    first | done | exact rfl | exact ⟨rfl, rfl⟩
  (try simp only [Act.put, qA, qB, qC, qD, qE, qF])
  refine tkO (i := 6) (v := ?_) rfl (Or.inl ⟨by rfl, ?_⟩) S0 ?_
  rotate_left
  · intro w' hS'
    obtain ⟨h0, h1, h2, h3⟩ := hS'
    (try go_simp)
    first | done | exact rfl | exact ⟨rfl, rfl⟩
  (try simp only [Act.put, qA, qB, qC, qD, qE, qF])
  refine tkO (i := 7) (v := ?_) rfl (Or.inl ⟨by rfl, ?_⟩) S0 ?_
  rotate_left
  · intro w' hS'
    obtain ⟨h0, h1, h2, h3⟩ := hS'
    (try go_simp)
    first | done | exact rfl | exact ⟨rfl, rfl⟩
  (try simp only [Act.put, qA, qB, qC, qD, qE, qF])
  refine tkO (i := 8) (v := ?_) rfl (Or.inl ⟨by rfl, ?_⟩) S0 ?_
  rotate_left
  · intro w' hS'
    obtain ⟨h0, h1, h2, h3⟩ := hS'
    (try go_simp)
    first | done | exact rfl | exact ⟨rfl, rfl⟩
  (try simp only [Act.put, qA, qB, qC, qD, qE, qF])
  refine tkO (i := 9) (v := ?_) rfl (Or.inl ⟨by rfl, ?_⟩) S0 ?_
  rotate_left
  · intro w' hS'
    obtain ⟨h0, h1, h2, h3⟩ := hS'
    (try go_simp)
    first | done | exact rfl | exact ⟨rfl, rfl⟩
  (try simp only [Act.put, qA, qB, qC, qD, qE, qF])
  refine tkO (i := 10) (v := ?_) rfl (Or.inl ⟨by rfl, ?_⟩) S0 ?_
  rotate_left
  · intro w' hS'
    obtain ⟨h0, h1, h2, h3⟩ := hS'
    (try go_simp)
    first | done | exact rfl | exact ⟨rfl, rfl⟩
  (try simp only [Act.put, qA, qB, qC, qD, qE, qF])
  refine tkO (i := 11) (v := ?_) rfl (Or.inl ⟨by rfl, ?_⟩) S0 ?_
  rotate_left
  · intro w' hS'
    obtain ⟨h0, h1, h2, h3⟩ := hS'
    (try go_simp)
    first | done | exact rfl | exact ⟨rfl, rfl⟩
  (try simp only [Act.put, qA, qB, qC, qD, qE, qF])
  refine tkO (i := 12) (v := ?_) rfl (Or.inl ⟨by rfl, ?_⟩) S0 ?_
  rotate_left
  · intro w' hS'
    obtain ⟨h0, h1, h2, h3⟩ := hS'
    (try go_simp)
    first | done | exact rfl | exact ⟨rfl, rfl⟩
  (try simp only [Act.put, qA, qB, qC, qD, qE, qF])
  refine wpAnyN_one (i := 13) (by kernel_rfl) rfl (fun K hK => ?_)
  go_simp
  refine hK _ _ (fun _ => S0) ?_
  clear hK K
  (try simp only [Act.put, qA, qB, qC, qD, qE, qF])
  have S14 := S0
  refine wpAnyN_one (i := 14) (by kernel_rfl) rfl (fun K hK => ?_)
  go_simp
  refine hK _ _ (fun _ => S14) ?_
  clear hK K
  (try simp only [Act.put, qA, qB, qC, qD, qE, qF])
  have S15 := S14
  refine wpAnyN_one (i := 15) (by kernel_rfl) rfl (fun K hK => ?_)
  go_simp
  refine hK _ _ (fun h => by cases h) ?_
  clear hK K
  (try simp only [Act.put, qA, qB, qC, qD, qE, qF])
  have S16 := S15
  refine wpAnyN_done (by kernel_rfl) ?_ _
  have H5 : Hid (MS X ⟨bl, c, m.us, m.wo, m.ip, m.out, m.ld - 1⟩ st { L with cv := .slice (some ⟨B, 0, none⟩) (n + 1) C } (wd.setCell ⟨X.R, 7, none⟩ (.pointer (some ⟨pn, 0, none⟩))) ∧ AOn X L n (wd.setCell ⟨X.R, 7, none⟩ (.pointer (some ⟨pn, 0, none⟩))) vs AA) := ⟨MX.toS (by
    have := H3d.out.1.now (.pointer (some ⟨pn, 0, none⟩))
    rw [PN.out.1, PN.out.2] at this ⊢
    exact this), H3d.out.2.set _ (Or.inl rfl)⟩
  clear c7 f7 S0 S4F S14 S15 S16 H3d hz
  generalize (wd.setCell ⟨X.R, 7, none⟩ (.pointer (some ⟨pn, 0, none⟩))) = w3 at *
  obtain ⟨h6, h7⟩ := H5.out
  have c7 : w3.cell? ⟨X.R, 7, none⟩ = some (.pointer (some ⟨pn, 0, none⟩)) := by
    have := h6.rr.cell 7 (by omega)
    rw [PN.out.1, PN.out.2]
    exact this
  have k0 : w3.cell? ⟨pn, 0, none⟩ = some (.pointer (some ⟨fb1, fo1, none⟩)) := by
    have := h6.now.s.cell 0 (by omega)
    rw [PN.out.1, PN.out.2, ← G1.out]
    exact this
  have k4 : w3.cell? ⟨pn, 4, none⟩ = some (.int .i64 (c.bk : Int)) := by
    have := h6.now.s.cell 4 (by omega)
    rw [PN.out.1, PN.out.2]
    exact this
  have k5 : w3.cell? ⟨pn, 5, none⟩ = some (.int .i64 ((j : Int) + 1)) := by
    have := h6.now.s.cell 5 (by omega)
    rw [PN.out.1, PN.out.2, this]
    simp [clF, NX.out]
  obtain ⟨o6, o8, o7⟩ := HO.out w3 h6.bz
  have H5 : Hid (MS X ⟨bl, c, m.us, m.wo, m.ip, m.out, m.ld - 1⟩ st { L with cv := .slice (some ⟨B, 0, none⟩) (n + 1) C } w3 ∧ AOn X L n w3 vs AA) := ⟨h6, h7⟩
  clear h6 h7 HO
  go_wp2
  go_quiet (fail)
  go_wp2
  have H6 : Hid (∀ q, MS X ⟨bl, c, m.us, m.wo, m.ip, m.out, m.ld - 1⟩ st { L with cv := .slice (some ⟨B, 0, none⟩) (n + 1) C } (w3.drewN q) ∧ AOn X L n (w3.drewN q) vs AA) := fun q => ⟨H5.out.1.below (below_drewN _ _), H5.out.2⟩
  clear c7 k0 k4 k5 o6 o8 o7 H5
  go_loopw [94] (fun iv wr => ∃ i : Nat, i ≤ vs.length ∧ iv = .int .i64 (i : Int) ∧ MS X ⟨bl, setsR c (ds.take i) (vs.take i), m.us, m.wo, m.ip, m.out, m.ld - 1⟩ st { L with cv := .slice (some ⟨B, 0, none⟩) (n + 1) C } wr ∧ AOn X L n wr vs AA) (fun iv _ => vs.length - (intOf iv).toNat)
  case atStart => exact ⟨0, by omega, rfl, (H6.out _).1, (H6.out _).2⟩
  case round =>
    obtain ⟨i, hi, rfl, hM, hA⟩ := hrel
    have MI : Hid (MS X ⟨bl, setsR c (ds.take i) (vs.take i), m.us, m.wo, m.ip, m.out, m.ld - 1⟩ st { L with cv := .slice (some ⟨B, 0, none⟩) (n + 1) C } wr) := hM
    have AI : Hid (AOn X L n wr vs AA) := hA
    clear hM hA H6
    rcases Nat.lt_or_ge i vs.length with hi' | hi'
    · have hiz : (i : Int) < vs.length := by omega
      have hid : i < ds.length := by rw [LN.out]; exact hi'
      obtain ⟨db, d0, rfl, hdc⟩ := HD.out i hid
      obtain ⟨ab, ao, rfl, a1, a2, a3⟩ := AI.out i hi'
      have cr := hdc wr MI.out.bz
      obtain ⟨r0, r1⟩ := HP.out ds[i] (List.getElem_mem hid)
      obtain ⟨rn, hrn⟩ : ∃ rn : Nat, ds[i] = (rn : Int) := ⟨ds[i].toNat, by omega⟩
      have hlr : (setsR c (ds.take i) (vs.take i)).rg.length = c.rg.length := (setsR_same _ _ _).2.2.2.2.2
      have SN : setsR c (ds.take (i + 1)) (vs.take (i + 1)) = setR (setsR c (ds.take i) (vs.take i)) (rn : Int) vs[i] := by
        rw [List.take_succ_eq_append_getElem hid, List.take_succ_eq_append_getElem hi', hrn]
        exact setsR_snoc _ _ _ _ _ (by simp; omega)
      have hrl : rn < (setsR c (ds.take i) (vs.take i)).rg.length := by rw [hlr]; omega
      have M2 : Hid (MS X ⟨bl, setsR c (ds.take (i + 1)) (vs.take (i + 1)), m.us, m.wo, m.ip, m.out, m.ld - 1⟩ st { L with cv := .slice (some ⟨B, 0, none⟩) (n + 1) C } (wr.drew.setCell ⟨L.rb bl.length, rn, none⟩ (.int .i32 vs[i]))) := by
        show MS _ _ _ _ _
        rw [SN]
        exact (MI.out.below (below_drew wr)).reg rn hrl vs[i]
      have A2 : Hid (AOn X L n (wr.drew.setCell ⟨L.rb bl.length, rn, none⟩ (.int .i32 vs[i])) vs (some ⟨ab, ao, none⟩)) := AI.out.drew.set _ (Or.inr ⟨bl.length, by rw [PN.out.2]; exact Nat.le_refl _, rfl⟩)
      have SC : Hid (Calls Tryd.prog 25 #[.pointer (some ⟨pn, 0, none⟩), .int .i64 (rn : Int), .int .i32 vs[i]] wr.drew fun e w' => e = .returned (.tuple #[]) ∧ w' = wr.drew.setCell ⟨L.rb bl.length, rn, none⟩ (.int .i32 vs[i])) := by
        have := set_c (MI.out.below (below_drew wr)).now (rn : Int) vs[i] (by omega) (show (rn : Int) < ((setsR c (ds.take i) (vs.take i)).rg.length : Int) by omega)
        rw [Int.toNat_natCast] at this
        rw [PN.out.1, PN.out.2]
        exact this
      rw [hrn] at cr
      have S9F : Hid (wr.drew.cell? ⟨X.R, 7, none⟩ = some (.pointer (some ⟨pn, 0, none⟩)) ∧ wr.drew.cell? ⟨ab, ao + i, none⟩ = some (.int .i32 vs[i])) := ⟨by
        have := (MI.out.below (below_drew wr)).rr.cell 7 (by omega)
        rw [PN.out.1, PN.out.2]
        exact this, a3⟩
      have S9N : Hid ((wr.drew.setCell ⟨L.rb bl.length, rn, none⟩ (.int .i32 vs[i])).cell? ⟨X.R, 7, none⟩ = some (.pointer (some ⟨pn, 0, none⟩)) ∧ (wr.drew.setCell ⟨L.rb bl.length, rn, none⟩ (.int .i32 vs[i])).cell? ⟨ab, ao + i, none⟩ = some (.int .i32 vs[i])) := ⟨by
        have := M2.out.rr.cell 7 (by omega)
        rw [PN.out.1, PN.out.2]
        exact this, by
        obtain ⟨b9, o9, e9, _, _, h9⟩ := A2.out i hi'
        cases e9
        exact h9⟩
      clear SN hlr hrl r0 r1 hrn hdc a1 a2 a3
      generalize vs[i] = v at *
      go_wp2
      refine wp_region_N (fun w' => w'.cell? ⟨X.R, 7, none⟩ = some (.pointer (some ⟨pn, 0, none⟩)) ∧ w'.cell? ⟨ab, ao + i, none⟩ = some (.int .i32 v)) (fun _ => true) mixedE (S9F.out) ?_
      intro S0
      refine tkO (i := 0) (v := ?_) rfl (Or.inl ⟨by rfl, ?_⟩) S0 ?_
      rotate_left
      · intro w' hS'
        obtain ⟨h0, h1⟩ := hS'
        (try go_simp)
        first | done | exact rfl | exact ⟨rfl, rfl⟩
      (try simp only [Act.put, qA, qC, qD, qE, qF])
      refine tkO (i := 1) (v := ?_) rfl (Or.inl ⟨by rfl, ?_⟩) S0 ?_
      rotate_left
      · intro w' hS'
        obtain ⟨h0, h1⟩ := hS'
        (try go_simp)
        first | done | exact rfl | exact ⟨rfl, rfl⟩
      (try simp only [Act.put, qA, qB, qC, qD, qE, qF])
      refine tkO (i := 2) (v := ?_) rfl (Or.inl ⟨by rfl, ?_⟩) S0 ?_
      rotate_left
      · intro w' hS'
        obtain ⟨h0, h1⟩ := hS'
        (try go_simp)
        first | done | exact rfl | exact ⟨rfl, rfl⟩
      (try simp only [Act.put, qA, qB, qC, qD, qE, qF])
      refine tkO (i := 3) (v := ?_) rfl (Or.inl ⟨by rfl, ?_⟩) S0 ?_
      rotate_left
      · intro w' hS'
        obtain ⟨h0, h1⟩ := hS'
        (try go_simp)
        first | done | exact rfl | exact ⟨rfl, rfl⟩
      (try simp only [Act.put, qA, qB, qC, qD, qE, qF])
      refine tkO (i := 4) (v := ?_) rfl (Or.inl ⟨by rfl, ?_⟩) S0 ?_
      rotate_left
      · intro w' hS'
        obtain ⟨h0, h1⟩ := hS'
        (try go_simp)
        first | done | exact rfl | exact ⟨rfl, rfl⟩
      (try simp only [Act.put, qA, qB, qC, qD, qE, qF])
      refine tkO (i := 5) (v := ?_) rfl (Or.inl ⟨by rfl, ?_⟩) S0 ?_
      rotate_left
      · intro w' hS'
        obtain ⟨h0, h1⟩ := hS'
        (try go_simp)
        first | done | exact rfl | exact ⟨rfl, rfl⟩
      (try simp only [Act.put, qA, qB, qC, qD, qE, qF])
      refine tkO (i := 6) (v := ?_) rfl (Or.inl ⟨by rfl, ?_⟩) S0 ?_
      rotate_left
      · intro w' hS'
        obtain ⟨h0, h1⟩ := hS'
        (try go_simp)
        first | done | exact rfl | exact ⟨rfl, rfl⟩
      (try simp only [Act.put, qA, qB, qC, qD, qE, qF])
      refine tkO (i := 7) (v := ?_) rfl (Or.inl ⟨by rfl, ?_⟩) S0 ?_
      rotate_left
      · intro w' hS'
        obtain ⟨h0, h1⟩ := hS'
        (try go_simp)
        first | done | exact rfl | exact ⟨rfl, rfl⟩
      (try simp only [Act.put, qA, qB, qC, qD, qE, qF])
      refine tkO (i := 8) (v := ?_) rfl (Or.inl ⟨by rfl, ?_⟩) S0 ?_
      rotate_left
      · intro w' hS'
        obtain ⟨h0, h1⟩ := hS'
        (try go_simp)
        first | done | exact rfl | exact ⟨rfl, rfl⟩
      (try simp only [Act.put, qA, qB, qC, qD, qE, qF])
      refine wpAnyN_one (i := 9) (by kernel_rfl) rfl (fun K hK => ?_)
      go_simp
      refine Calls.mono SC.out ?_
      rintro e w7 ⟨rfl, hw7⟩
      rw [hw7]
      clear hw7 w7
      go_wp2_with fail
      refine hK _ _ (fun _ => S9N.out) ?_
      clear hK K
      (try simp only [Act.put, qA, qB, qC, qD, qE, qF])
      have S10 := S0
      refine wpAnyN_done (by kernel_rfl) ?_ _
      go_wp2
      go_roundw
      case rel => exact ⟨i + 1, by omega, by go_num, M2.out, A2.out⟩
      case measure => simp [intOf]; omega
    · have hiz : ¬ (i : Int) < vs.length := by omega
      obtain rfl : i = vs.length := by omega
      have MI : Hid (MS X ⟨bl, setsR c ds vs, m.us, m.wo, m.ip, m.out, m.ld - 1⟩ st { L with cv := .slice (some ⟨B, 0, none⟩) (n + 1) C } wr) := (by have := MI.out; rwa [List.take_length, ← LN.out, List.take_length] at this : MS X ⟨bl, setsR c ds vs, m.us, m.wo, m.ip, m.out, m.ld - 1⟩ st { L with cv := .slice (some ⟨B, 0, none⟩) (n + 1) C } wr)
      go_wp2
      go_end0
      exact ⟨rfl, _, MI.out⟩
end
end Go.Proofs.YtapgaclonilnbaaDoor

/-
  Proved: a step keeps what holds of low's machine.
-/
namespace Go.Proofs.YtapgaclonilnbaaDoor
set_option linter.unusedVariables false
set_option linter.unusedSimpArgs false

section
variable {l : List Lf} {m : Mc} {c : Cl}

theorem fnO_get (l : List Lf) (k : Nat) (h : k < l.length) : fnO l k = l[k] := by unfold fnO; rw [List.getD_eq_getElem?_getD, List.getElem?_eq_getElem h]; rfl
theorem ck_fn (hc : chk l = true) {k : Nat} (h : k < l.length) : formB (fnO l k) = true ∧ blocksB l (fnO l k) = true := by
  obtain ⟨_, h2, h3⟩ := chk_parts hc
  rw [fnO_get l k h]
  exact ⟨h2 _ (List.getElem_mem h), h3 _ (List.getElem_mem h)⟩
theorem form_parts {f : Lf} (h : formB f = true) : 0 < f.bs.length ∧ (0 ≤ f.rg ∧ f.rg ≤ 65536) ∧ (0 ≤ f.fr ∧ f.fr ≤ 65536) ∧ (0 ≤ f.an ∧ f.an ≤ 8) ∧ f.pa.length ≤ 8 := by
  unfold formB upB at h
  simp only [Bool.and_eq_true, decide_eq_true_eq] at h
  omega
theorem ck_blk (hc : chk l = true) (h : CW l c) : (∀ x ∈ (blkO l c).li, instrB l (fnO l c.fn).rg x = true) ∧ termB (fnO l c.fn).rg (fnO l c.fn).an (fnO l c.fn).bs.length (blkO l c).tm = true := by
  have h2 := (ck_fn hc h.fn).2
  unfold blocksB at h2
  simp only [Bool.and_eq_true, List.all_eq_true] at h2
  have e : blkO l c = (fnO l c.fn).bs[c.bk]'h.bk := by unfold blkO; rw [List.getD_eq_getElem?_getD, List.getElem?_eq_getElem h.bk]; rfl
  have := h2.2 (blkO l c) (by rw [e]; exact List.getElem_mem _)
  unfold blockB at this
  simp only [Bool.and_eq_true, List.all_eq_true] at this
  exact this
theorem CW.rgz (hc : chk l = true) (h : CW l c) : ((c.rg.length : Nat) : Int) = (fnO l c.fn).rg := by
  have := (form_parts (ck_fn hc h.fn).1).2.1
  rw [h.rg]
  omega
theorem CW.frz (hc : chk l = true) (h : CW l c) : c.fr.length ≤ 65536 := by
  have := (form_parts (ck_fn hc h.fn).1).2.2.1
  rw [h.fr]
  omega

theorem I32_0 : I32 0 := by unfold I32; omega
theorem CW.cw (h : CW l c) (r : Int) : I32 (cw c r) := by
  unfold Go.Proofs.YtapgaclonilnbaaDoor.cw
  split
  · exact I32_0
  · split
    · exact wd_in _
    · exact h.rI _
theorem CW.set (h : CW l c) (r v : Int) (hr : r.toNat < c.rg.length) (hv : I32 v) : CW l (setR c r v) := by
  refine ⟨h.fn, h.bk, by simp [setR, h.rg], h.fr, h.nx, fun i => ?_, h.fI⟩
  show I32 ((c.rg.set r.toNat v).getD i 0)
  rw [getD_set _ _ _ _ hr]
  unfold pu
  split
  · exact hv
  · exact h.rI i
theorem CW.sets (h : CW l c) : ∀ (rs vs : List Int), (∀ r ∈ rs, r.toNat < c.rg.length) → (∀ v ∈ vs, I32 v) → CW l (setsR c rs vs) := by
  intro rs
  induction rs generalizing c with
  | nil => intro vs _ _; cases vs <;> exact h
  | cons r rs ih =>
    intro vs hr hv
    cases vs with
    | nil => exact h
    | cons v vs =>
      have h2 := h.set r v (hr r (List.mem_cons_self ..)) (hv v (List.mem_cons_self ..))
      exact ih h2 vs (fun r hr2 => by have := hr r (List.mem_cons_of_mem _ hr2); simpa [setR] using this) fun v hv2 => hv v (List.mem_cons_of_mem _ hv2)
theorem CW.setF (h : CW l c) (k : Nat) (v : Int) (hk : k < c.fr.length) (hv : I32 v) : CW l (Go.Proofs.YtapgaclonilnbaaDoor.setF c k v) := by
  refine ⟨h.fn, h.bk, h.rg, by simp [Go.Proofs.YtapgaclonilnbaaDoor.setF, h.fr], h.nx, h.rI, fun i => ?_⟩
  show I32 ((c.fr.set k v).getD i 0)
  rw [getD_set _ _ _ _ hk]
  unfold pu
  split
  · exact hv
  · exact h.fI i

theorem dov_in (s : ByteArray) (a b : Int) (ha : I32 a) (hb : I32 b) : I32 (dov s a b) := by
  obtain ⟨f, D⟩ := dop_all s
  exact D.low a b ha.1 ha.2 hb.1 hb.2

theorem WF.setN (h : WF l m) (r v : Int) (hr : r.toNat < m.nw.rg.length) (hv : I32 v) : WF l (Go.Proofs.YtapgaclonilnbaaDoor.setN m r v) := h.nw (h.cw.set r v hr hv) rfl rfl

theorem ldS_set (l : List Lf) (x : Cl) : ∀ (a : List Cl) (i : Nat) (h : i < a.length), x.fn = a[i].fn → ldS l (a.set i x) = ldS l a
  | [], i, h, _ => by simp at h
  | c :: a, 0, h, e => by
    have e : x.fn = c.fn := e
    simp only [List.set_cons_zero, ldS, ldC, e]
  | c :: a, i + 1, h, e => by
    simp only [List.set_cons_succ, ldS]
    rw [ldS_set l x a i (by simpa using h) (by simpa using e)]

theorem WF.stF (h : WF l m) (i k : Nat) (v : Int) (hi : i ≤ m.bl.length) (hk : k < (callAt m i).fr.length) (hv : I32 v) : WF l (stL m v (some i, k)) := by
  by_cases e : i < m.bl.length
  · have em : stL m v (some i, k) = { m with bl := m.bl.set i (Go.Proofs.YtapgaclonilnbaaDoor.setF (callAt m i) k v) } := if_pos e
    rw [em]
    have el : (m.bl.set i (Go.Proofs.YtapgaclonilnbaaDoor.setF (callAt m i) k v)).length = m.bl.length := by simp
    have ea : ∀ j, j ≤ m.bl.length → callAt { m with bl := m.bl.set i (Go.Proofs.YtapgaclonilnbaaDoor.setF (callAt m i) k v) } j = if i = j then Go.Proofs.YtapgaclonilnbaaDoor.setF (callAt m i) k v else callAt m j := fun j hj => by
      rcases Nat.lt_or_ge j m.bl.length with e2 | e2
      · rw [at_lt _ j (by show j < (m.bl.set _ _).length; omega)]
        show (m.bl.set i _)[j] = _
        rw [List.getElem_set]
        split
        · rfl
        · rw [at_lt m j e2]
      · obtain rfl : j = m.bl.length := by omega
        rw [if_neg (by omega), at_nw]
        have := at_nw { m with bl := m.bl.set i (Go.Proofs.YtapgaclonilnbaaDoor.setF (callAt m i) k v) }
        rwa [show ({ m with bl := m.bl.set i (Go.Proofs.YtapgaclonilnbaaDoor.setF (callAt m i) k v) } : Mc).bl.length = m.bl.length from el] at this
    have fr : ∀ j, j ≤ m.bl.length → (callAt { m with bl := m.bl.set i (Go.Proofs.YtapgaclonilnbaaDoor.setF (callAt m i) k v) } j).fr.length = (callAt m j).fr.length ∧ (callAt { m with bl := m.bl.set i (Go.Proofs.YtapgaclonilnbaaDoor.setF (callAt m i) k v) } j).ba = (callAt m j).ba := fun j hj => by
      rw [ea j hj]
      split
      · rename_i e3; subst e3; simp [Go.Proofs.YtapgaclonilnbaaDoor.setF]
      · exact ⟨rfl, rfl⟩
    refine ⟨fun j hj => ?_, fun j hj => ?_, by rw [(fr 0 (by omega)).2]; exact h.b0, fun j hj => ?_, by show (m.bl.set _ _).length ≤ 391; rw [el]; exact h.n, ?_, h.wo⟩
    · have hj : j ≤ m.bl.length := by rw [← el]; exact hj
      rw [ea j hj]
      split
      · exact (h.c i (by omega)).setF k v hk hv
      · exact h.c j hj
    · have hj : j < m.bl.length := by rw [← el]; exact hj
      have := h.k j hj
      rw [ea j (by omega), ea (j + 1) (by omega)]
      obtain ⟨q, h1, h2, h3, h4⟩ := this
      have e5 : (if i = j + 1 then Go.Proofs.YtapgaclonilnbaaDoor.setF (callAt m i) k v else callAt m (j + 1)).fn = (callAt m (j + 1)).fn := by
        split
        · rename_i e3; rw [e3]; rfl
        · rfl
      unfold Lk
      rw [e5]
      split
      · rename_i e3; subst e3; exact ⟨q, h1, h2, h3, h4⟩
      · exact ⟨q, h1, h2, h3, h4⟩
    · have hj : j < m.bl.length := by rw [← el]; exact hj
      rw [(fr (j + 1) (by omega)).2, (fr j (by omega)).1, (fr j (by omega)).2]
      exact h.bs j hj
    · show m.ld = ldS l (m.bl.set i _ ++ [m.nw])
      rw [ldS_app, ldS_set l _ m.bl i e (by show (callAt m i).fn = _; rw [at_lt m i e]), ← ldS_app]
      exact h.ld
  · obtain rfl : i = m.bl.length := by omega
    rw [at_nw] at hk
    have em : stL m v (some m.bl.length, k) = { m with nw := Go.Proofs.YtapgaclonilnbaaDoor.setF m.nw k v } := if_neg e
    rw [em]
    exact h.nw (h.cw.setF k v hk hv) rfl rfl

theorem WF.ld32 (h : WF l m) (p : Option Nat × Nat) : I32 (ldL m p) := by
  obtain ⟨o, k⟩ := p
  cases o with
  | none => exact h.wo k
  | some i =>
    show I32 ((callAt m i).fr.getD k 0)
    rcases Nat.lt_or_ge i (m.bl.length + 1) with e | e
    · exact (h.c i (by omega)).fI k
    · have : callAt m i = m.nw := by unfold callAt; rw [List.getD_eq_getElem?_getD, List.getElem?_eq_none (by omega)]; rfl
      rw [this]
      exact h.cw.fI k
end
end Go.Proofs.YtapgaclonilnbaaDoor
