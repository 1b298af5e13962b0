/-
  Proved: what an instruction of kind 7f does to the machine.
-/
import Derived.Test.YtapgaclonilnbaaDoorLfull
namespace Go.Proofs.YtapgaclonilnbaaDoor
open Go.RowKit
set_option linter.unusedVariables false
set_option linter.unusedSimpArgs false

section
variable {X : Cx} {m : Mc} {st : Int} {L : Ly} {w w' : World} {x : Lo} {ib io : Nat} {av dv : Value}

set_option maxRecDepth 20000 in
set_option maxHeartbeats 4000000 in
theorem ins_7f (h : MS X m st L w) (hx : RowAt X.wz ib io (loC x av dv)) (hop : x.op = 7) (htx : x.tx.size ≤ maxLen) (hargs : NosIn X.wz x.args av) (k : Nat) (hk : k < X.l.length) (hby : byN X.l x.tx.data.toList = some (k : Int)) (ha : ∀ r ∈ x.args, rdB m.nw.rg.length r = true) (hl8 : x.args.length ≤ 8) (q : Bool) (hq : X.l[k].qu = q) (hc : (q = false ∧ 48 ≤ m.ld) ∨ 392 ≤ m.bl.length + 1) :
    Calls Tryd.prog 27 #[.pointer (some ⟨X.R, 0, none⟩), .pointer (some ⟨ib, io, none⟩)] w fun e w' => e = .panicked [{ v := endV 2 0, recovered := false }] ∧ ∃ z nv L, z.out = m.out ∧ MX X z nv st L w' := by
  have c0 : w.cell? ⟨ib, io, none⟩ = some (.int .i64 7) := by
    have := (h.bz.cell (p := ⟨ib, io + 0, none⟩) hx.1).trans (hx.at 0 (v := .int .i64 x.op) rfl)
    rwa [hop] at this
  obtain ⟨pn, hpn⟩ : ∃ pn, pn = L.pb m.bl.length := ⟨_, rfl⟩
  have PN : Hid (pn = L.pb m.bl.length) := hpn
  have HS : Hid (SI X pn ib io x av dv w.drew) := (by rw [hpn]; exact (h.below (below_drew w)).si hx : SI X pn ib io x av dv w.drew)
  have HM : Hid (MS X m st L w.drew) := h.below (below_drew w)
  obtain ⟨_, lAA, lCC, elA, hlr⟩ := h.hl
  obtain ⟨fb0, fo, csx, hlA, -, -⟩ := hlr k hk
  cases elA
  have hfp : fpV X k = .pointer (some ⟨fb0, fo + k * 7, none⟩) := by rw [fpV, hlA]; rfl
  have HT : Hid (x.tx.size ≤ maxLen) := htx
  have BY : Hid (byN X.l x.tx.data.toList = some (k : Int)) := hby
  have hkz : (k : Int) < X.l.length := by omega
  have RL : Hid (X.R < w.drew.heap.size) := HM.out.rr.lt
  have HS7 : Hid (S7 X pn ib io x av dv w.drew) := ⟨HS.out, HM.out.rr.cell 0 (by omega), HM.out.rr.cell 1 (by omega), HM.out.mp.1⟩
  have AL : Hid (Calls Tryd.prog 40 #[.pointer (some ⟨pn, 0, none⟩), av] w.drew fun e w' => e = .returned (.slice (some ⟨w.drew.heap.size, 0, none⟩) x.args.length x.args.length) ∧ Below w.drew.heap.size w.drew w' ∧ WZ w' w.drew.heap.size x.args.length fun i => (x.args.map (cw m.nw)).getD i 0) := (by rw [hpn]; exact all_c HM.out.now x.args av (hargs.below HM.out.bz) (by omega) ha)
  have EN : Hid (∀ w9, MS X m st L w9 → Calls Tryd.prog 18 #[.pointer (some ⟨X.R, 0, none⟩), .pointer (some ⟨fb0, fo + k * 7, none⟩), .slice (some ⟨w.drew.heap.size, 0, none⟩) x.args.length x.args.length] w9 fun e w' => e = .panicked [{ v := endV 2 0, recovered := false }] ∧ w' = w9) := fun w9 h9 => by
    rw [← hfp]
    exact enter_full h9.toX k hk _ q hq (by simpa using hc)
  clear hargs hby ha hl8 hq hc hfp htx hlr hk
  clear h hx hop hpn
  go_enter Tryd.func27, Tryd.ntmps27
  go_wp2
  refine wp_region_N (fun w' => S7 X pn ib io x av dv w') (fun i => i != 24) mixedE (HS7.out) ?_
  intro S0
  clear HS HS7 c0
  generalize w.drew = wq at *
  refine wpAnyN_takeT (i := 0) (v := ?_) rfl (by kernel_rfl) (by kernel_rfl) (by kernel_rfl) (by kernel_rfl) (by kernel_rfl) (fun _ _ _ h => h) (Or.inl ⟨by rfl, ?_⟩) S0 ?_
  rotate_left
  · intro w' hS'
    obtain ⟨⟨h0, h1, h2, h3, h4, h5, h6, h7⟩, h8, h9, h10⟩ := hS'
    have h11 := h10.look1 HT.out
    rw [BY.out] at h11
    simp only [Option.getD_some] at h11
    rw [hlA] at h8
    (try go_simp)
    first | done | exact rfl | exact ⟨rfl, rfl⟩
  (try simp only [Act.put, List.getElem_toArray, List.getElem_cons_zero, List.setIfInBounds_toArray, List.set_cons_zero, List.set_cons_succ])
  refine wpAnyN_takeT (i := 1) (v := ?_) rfl (by kernel_rfl) (by kernel_rfl) (by kernel_rfl) (by kernel_rfl) (by kernel_rfl) (fun _ _ _ h => h) (Or.inl ⟨by rfl, ?_⟩) S0 ?_
  rotate_left
  · intro w' hS'
    obtain ⟨⟨h0, h1, h2, h3, h4, h5, h6, h7⟩, h8, h9, h10⟩ := hS'
    have h11 := h10.look1 HT.out
    rw [BY.out] at h11
    simp only [Option.getD_some] at h11
    rw [hlA] at h8
    (try go_simp)
    first | done | exact rfl | exact ⟨rfl, rfl⟩
  (try simp only [Act.put, List.getElem_toArray, List.getElem_cons_succ, List.getElem_cons_zero, List.setIfInBounds_toArray, List.set_cons_zero, List.set_cons_succ])
  refine wpAnyN_takeT (i := 2) (v := ?_) rfl (by kernel_rfl) (by kernel_rfl) (by kernel_rfl) (by kernel_rfl) (by kernel_rfl) (fun _ _ _ h => h) (Or.inl ⟨by rfl, ?_⟩) S0 ?_
  rotate_left
  · intro w' hS'
    obtain ⟨⟨h0, h1, h2, h3, h4, h5, h6, h7⟩, h8, h9, h10⟩ := hS'
    have h11 := h10.look1 HT.out
    rw [BY.out] at h11
    simp only [Option.getD_some] at h11
    rw [hlA] at h8
    (try go_simp)
    first | done | exact rfl | exact ⟨rfl, rfl⟩
  (try simp only [Act.put, List.getElem_toArray, List.getElem_cons_succ, List.getElem_cons_zero, List.setIfInBounds_toArray, List.set_cons_zero, List.set_cons_succ])
  refine wpAnyN_takeT (i := 3) (v := ?_) rfl (by kernel_rfl) (by kernel_rfl) (by kernel_rfl) (by kernel_rfl) (by kernel_rfl) (fun _ _ _ h => h) (Or.inl ⟨by rfl, ?_⟩) S0 ?_
  rotate_left
  · intro w' hS'
    obtain ⟨⟨h0, h1, h2, h3, h4, h5, h6, h7⟩, h8, h9, h10⟩ := hS'
    have h11 := h10.look1 HT.out
    rw [BY.out] at h11
    simp only [Option.getD_some] at h11
    rw [hlA] at h8
    (try go_simp)
    first | done | exact rfl | exact ⟨rfl, rfl⟩
  (try simp only [Act.put, List.getElem_toArray, List.getElem_cons_succ, List.getElem_cons_zero, List.setIfInBounds_toArray, List.set_cons_zero, List.set_cons_succ])
  refine wpAnyN_takeT (i := 4) (v := ?_) rfl (by kernel_rfl) (by kernel_rfl) (by kernel_rfl) (by kernel_rfl) (by kernel_rfl) (fun _ _ _ h => h) (Or.inl ⟨by rfl, ?_⟩) S0 ?_
  rotate_left
  · intro w' hS'
    obtain ⟨⟨h0, h1, h2, h3, h4, h5, h6, h7⟩, h8, h9, h10⟩ := hS'
    have h11 := h10.look1 HT.out
    rw [BY.out] at h11
    simp only [Option.getD_some] at h11
    rw [hlA] at h8
    (try go_simp)
    first | done | exact rfl | exact ⟨rfl, rfl⟩
  (try simp only [Act.put, List.getElem_toArray, List.getElem_cons_succ, List.getElem_cons_zero, List.setIfInBounds_toArray, List.set_cons_zero, List.set_cons_succ])
  refine wpAnyN_takeT (i := 5) (v := ?_) rfl (by kernel_rfl) (by kernel_rfl) (by kernel_rfl) (by kernel_rfl) (by kernel_rfl) (fun _ _ _ h => h) (Or.inl ⟨by rfl, ?_⟩) S0 ?_
  rotate_left
  · intro w' hS'
    obtain ⟨⟨h0, h1, h2, h3, h4, h5, h6, h7⟩, h8, h9, h10⟩ := hS'
    have h11 := h10.look1 HT.out
    rw [BY.out] at h11
    simp only [Option.getD_some] at h11
    rw [hlA] at h8
    (try go_simp)
    first | done | exact rfl | exact ⟨rfl, rfl⟩
  (try simp only [Act.put, List.getElem_toArray, List.getElem_cons_succ, List.getElem_cons_zero, List.setIfInBounds_toArray, List.set_cons_zero, List.set_cons_succ])
  refine wpAnyN_takeT (i := 6) (v := ?_) rfl (by kernel_rfl) (by kernel_rfl) (by kernel_rfl) (by kernel_rfl) (by kernel_rfl) (fun _ _ _ h => h) (Or.inl ⟨by rfl, ?_⟩) S0 ?_
  rotate_left
  · intro w' hS'
    obtain ⟨⟨h0, h1, h2, h3, h4, h5, h6, h7⟩, h8, h9, h10⟩ := hS'
    have h11 := h10.look1 HT.out
    rw [BY.out] at h11
    simp only [Option.getD_some] at h11
    rw [hlA] at h8
    (try go_simp)
    first | done | exact rfl | exact ⟨rfl, rfl⟩
  (try simp only [Act.put, List.getElem_toArray, List.getElem_cons_succ, List.getElem_cons_zero, List.setIfInBounds_toArray, List.set_cons_zero, List.set_cons_succ])
  refine wpAnyN_takeT (i := 7) (v := ?_) rfl (by kernel_rfl) (by kernel_rfl) (by kernel_rfl) (by kernel_rfl) (by kernel_rfl) (fun _ _ _ h => h) (Or.inl ⟨by rfl, ?_⟩) S0 ?_
  rotate_left
  · intro w' hS'
    obtain ⟨⟨h0, h1, h2, h3, h4, h5, h6, h7⟩, h8, h9, h10⟩ := hS'
    have h11 := h10.look1 HT.out
    rw [BY.out] at h11
    simp only [Option.getD_some] at h11
    rw [hlA] at h8
    (try go_simp)
    first | done | exact rfl | exact ⟨rfl, rfl⟩
  (try simp only [Act.put, List.getElem_toArray, List.getElem_cons_succ, List.getElem_cons_zero, List.setIfInBounds_toArray, List.set_cons_zero, List.set_cons_succ])
  refine wpAnyN_takeT (i := 8) (v := ?_) rfl (by kernel_rfl) (by kernel_rfl) (by kernel_rfl) (by kernel_rfl) (by kernel_rfl) (fun _ _ _ h => h) (Or.inl ⟨by rfl, ?_⟩) S0 ?_
  rotate_left
  · intro w' hS'
    obtain ⟨⟨h0, h1, h2, h3, h4, h5, h6, h7⟩, h8, h9, h10⟩ := hS'
    have h11 := h10.look1 HT.out
    rw [BY.out] at h11
    simp only [Option.getD_some] at h11
    rw [hlA] at h8
    (try go_simp)
    first | done | exact rfl | exact ⟨rfl, rfl⟩
  (try simp only [Act.put, List.getElem_toArray, List.getElem_cons_succ, List.getElem_cons_zero, List.setIfInBounds_toArray, List.set_cons_zero, List.set_cons_succ])
  refine wpAnyN_takeT (i := 9) (v := ?_) rfl (by kernel_rfl) (by kernel_rfl) (by kernel_rfl) (by kernel_rfl) (by kernel_rfl) (fun _ _ _ h => h) (Or.inl ⟨by rfl, ?_⟩) S0 ?_
  rotate_left
  · intro w' hS'
    obtain ⟨⟨h0, h1, h2, h3, h4, h5, h6, h7⟩, h8, h9, h10⟩ := hS'
    have h11 := h10.look1 HT.out
    rw [BY.out] at h11
    simp only [Option.getD_some] at h11
    rw [hlA] at h8
    (try go_simp)
    first | done | exact rfl | exact ⟨rfl, rfl⟩
  (try simp only [Act.put, List.getElem_toArray, List.getElem_cons_succ, List.getElem_cons_zero, List.setIfInBounds_toArray, List.set_cons_zero, List.set_cons_succ])
  refine wpAnyN_takeT (i := 10) (v := ?_) rfl (by kernel_rfl) (by kernel_rfl) (by kernel_rfl) (by kernel_rfl) (by kernel_rfl) (fun _ _ _ h => h) (Or.inl ⟨by rfl, ?_⟩) S0 ?_
  rotate_left
  · intro w' hS'
    obtain ⟨⟨h0, h1, h2, h3, h4, h5, h6, h7⟩, h8, h9, h10⟩ := hS'
    have h11 := h10.look1 HT.out
    rw [BY.out] at h11
    simp only [Option.getD_some] at h11
    rw [hlA] at h8
    (try go_simp)
    first | done | exact rfl | exact ⟨rfl, rfl⟩
  (try simp only [Act.put, List.getElem_toArray, List.getElem_cons_succ, List.getElem_cons_zero, List.setIfInBounds_toArray, List.set_cons_zero, List.set_cons_succ])
  refine wpAnyN_takeT (i := 11) (v := ?_) rfl (by kernel_rfl) (by kernel_rfl) (by kernel_rfl) (by kernel_rfl) (by kernel_rfl) (fun _ _ _ h => h) (Or.inl ⟨by rfl, ?_⟩) S0 ?_
  rotate_left
  · intro w' hS'
    obtain ⟨⟨h0, h1, h2, h3, h4, h5, h6, h7⟩, h8, h9, h10⟩ := hS'
    have h11 := h10.look1 HT.out
    rw [BY.out] at h11
    simp only [Option.getD_some] at h11
    rw [hlA] at h8
    (try go_simp)
    first | done | exact rfl | exact ⟨rfl, rfl⟩
  (try simp only [Act.put, List.getElem_toArray, List.getElem_cons_succ, List.getElem_cons_zero, List.setIfInBounds_toArray, List.set_cons_zero, List.set_cons_succ])
  refine wpAnyN_takeT (i := 12) (v := ?_) rfl (by kernel_rfl) (by kernel_rfl) (by kernel_rfl) (by kernel_rfl) (by kernel_rfl) (fun _ _ _ h => h) (Or.inl ⟨by rfl, ?_⟩) S0 ?_
  rotate_left
  · intro w' hS'
    obtain ⟨⟨h0, h1, h2, h3, h4, h5, h6, h7⟩, h8, h9, h10⟩ := hS'
    have h11 := h10.look1 HT.out
    rw [BY.out] at h11
    simp only [Option.getD_some] at h11
    rw [hlA] at h8
    (try go_simp)
    first | done | exact rfl | exact ⟨rfl, rfl⟩
  (try simp only [Act.put, List.getElem_toArray, List.getElem_cons_succ, List.getElem_cons_zero, List.setIfInBounds_toArray, List.set_cons_zero, List.set_cons_succ])
  refine wpAnyN_takeT (i := 13) (v := ?_) rfl (by kernel_rfl) (by kernel_rfl) (by kernel_rfl) (by kernel_rfl) (by kernel_rfl) (fun _ _ _ h => h) (Or.inl ⟨by rfl, ?_⟩) S0 ?_
  rotate_left
  · intro w' hS'
    obtain ⟨⟨h0, h1, h2, h3, h4, h5, h6, h7⟩, h8, h9, h10⟩ := hS'
    have h11 := h10.look1 HT.out
    rw [BY.out] at h11
    simp only [Option.getD_some] at h11
    rw [hlA] at h8
    (try go_simp)
    first | done | exact rfl | exact ⟨rfl, rfl⟩
  (try simp only [Act.put, List.getElem_toArray, List.getElem_cons_succ, List.getElem_cons_zero, List.setIfInBounds_toArray, List.set_cons_zero, List.set_cons_succ])
  refine wpAnyN_takeT (i := 14) (v := ?_) rfl (by kernel_rfl) (by kernel_rfl) (by kernel_rfl) (by kernel_rfl) (by kernel_rfl) (fun _ _ _ h => h) (Or.inl ⟨by rfl, ?_⟩) S0 ?_
  rotate_left
  · intro w' hS'
    obtain ⟨⟨h0, h1, h2, h3, h4, h5, h6, h7⟩, h8, h9, h10⟩ := hS'
    have h11 := h10.look1 HT.out
    rw [BY.out] at h11
    simp only [Option.getD_some] at h11
    rw [hlA] at h8
    (try go_simp)
    first | done | exact rfl | exact ⟨rfl, rfl⟩
  (try simp only [Act.put, List.getElem_toArray, List.getElem_cons_succ, List.getElem_cons_zero, List.setIfInBounds_toArray, List.set_cons_zero, List.set_cons_succ])
  refine wpAnyN_takeT (i := 15) (v := ?_) rfl (by kernel_rfl) (by kernel_rfl) (by kernel_rfl) (by kernel_rfl) (by kernel_rfl) (fun _ _ _ h => h) (Or.inl ⟨by rfl, ?_⟩) S0 ?_
  rotate_left
  · intro w' hS'
    obtain ⟨⟨h0, h1, h2, h3, h4, h5, h6, h7⟩, h8, h9, h10⟩ := hS'
    have h11 := h10.look1 HT.out
    rw [BY.out] at h11
    simp only [Option.getD_some] at h11
    rw [hlA] at h8
    (try go_simp)
    first | done | exact rfl | exact ⟨rfl, rfl⟩
  (try simp only [Act.put, List.getElem_toArray, List.getElem_cons_succ, List.getElem_cons_zero, List.setIfInBounds_toArray, List.set_cons_zero, List.set_cons_succ])
  refine wpAnyN_takeT (i := 16) (v := ?_) rfl (by kernel_rfl) (by kernel_rfl) (by kernel_rfl) (by kernel_rfl) (by kernel_rfl) (fun _ _ _ h => h) (Or.inl ⟨by rfl, ?_⟩) S0 ?_
  rotate_left
  · intro w' hS'
    obtain ⟨⟨h0, h1, h2, h3, h4, h5, h6, h7⟩, h8, h9, h10⟩ := hS'
    have h11 := h10.look1 HT.out
    rw [BY.out] at h11
    simp only [Option.getD_some] at h11
    rw [hlA] at h8
    (try go_simp)
    first | done | exact rfl | exact ⟨rfl, rfl⟩
  (try simp only [Act.put, List.getElem_toArray, List.getElem_cons_succ, List.getElem_cons_zero, List.setIfInBounds_toArray, List.set_cons_zero, List.set_cons_succ])
  refine wpAnyN_takeT (i := 17) (v := ?_) rfl (by kernel_rfl) (by kernel_rfl) (by kernel_rfl) (by kernel_rfl) (by kernel_rfl) (fun _ _ _ h => h) (Or.inl ⟨by rfl, ?_⟩) S0 ?_
  rotate_left
  · intro w' hS'
    obtain ⟨⟨h0, h1, h2, h3, h4, h5, h6, h7⟩, h8, h9, h10⟩ := hS'
    have h11 := h10.look1 HT.out
    rw [BY.out] at h11
    simp only [Option.getD_some] at h11
    rw [hlA] at h8
    (try go_simp)
    first | done | exact rfl | exact ⟨rfl, rfl⟩
  (try simp only [Act.put, List.getElem_toArray, List.getElem_cons_succ, List.getElem_cons_zero, List.setIfInBounds_toArray, List.set_cons_zero, List.set_cons_succ])
  refine wpAnyN_takeT (i := 18) (v := ?_) rfl (by kernel_rfl) (by kernel_rfl) (by kernel_rfl) (by kernel_rfl) (by kernel_rfl) (fun _ _ _ h => h) (Or.inl ⟨by rfl, ?_⟩) S0 ?_
  rotate_left
  · intro w' hS'
    obtain ⟨⟨h0, h1, h2, h3, h4, h5, h6, h7⟩, h8, h9, h10⟩ := hS'
    have h11 := h10.look1 HT.out
    rw [BY.out] at h11
    simp only [Option.getD_some] at h11
    rw [hlA] at h8
    (try go_simp)
    first | done | exact rfl | exact ⟨rfl, rfl⟩
  (try simp only [Act.put, List.getElem_toArray, List.getElem_cons_succ, List.getElem_cons_zero, List.setIfInBounds_toArray, List.set_cons_zero, List.set_cons_succ])
  refine wpAnyN_takeT (i := 19) (v := ?_) rfl (by kernel_rfl) (by kernel_rfl) (by kernel_rfl) (by kernel_rfl) (by kernel_rfl) (fun _ _ _ h => h) (Or.inl ⟨by rfl, ?_⟩) S0 ?_
  rotate_left
  · intro w' hS'
    obtain ⟨⟨h0, h1, h2, h3, h4, h5, h6, h7⟩, h8, h9, h10⟩ := hS'
    have h11 := h10.look1 HT.out
    rw [BY.out] at h11
    simp only [Option.getD_some] at h11
    rw [hlA] at h8
    (try go_simp)
    first | done | exact rfl | exact ⟨rfl, rfl⟩
  (try simp only [Act.put, List.getElem_toArray, List.getElem_cons_succ, List.getElem_cons_zero, List.setIfInBounds_toArray, List.set_cons_zero, List.set_cons_succ])
  refine wpAnyN_takeT (i := 20) (v := ?_) rfl (by kernel_rfl) (by kernel_rfl) (by kernel_rfl) (by kernel_rfl) (by kernel_rfl) (fun _ _ _ h => h) (Or.inl ⟨by rfl, ?_⟩) S0 ?_
  rotate_left
  · intro w' hS'
    obtain ⟨⟨h0, h1, h2, h3, h4, h5, h6, h7⟩, h8, h9, h10⟩ := hS'
    have h11 := h10.look1 HT.out
    rw [BY.out] at h11
    simp only [Option.getD_some] at h11
    rw [hlA] at h8
    (try go_simp)
    first | done | exact rfl | exact ⟨rfl, rfl⟩
  (try simp only [Act.put, List.getElem_toArray, List.getElem_cons_succ, List.getElem_cons_zero, List.setIfInBounds_toArray, List.set_cons_zero, List.set_cons_succ])
  refine wpAnyN_takeT (i := 21) (v := ?_) rfl (by kernel_rfl) (by kernel_rfl) (by kernel_rfl) (by kernel_rfl) (by kernel_rfl) (fun _ _ _ h => h) (Or.inl ⟨by rfl, ?_⟩) S0 ?_
  rotate_left
  · intro w' hS'
    obtain ⟨⟨h0, h1, h2, h3, h4, h5, h6, h7⟩, h8, h9, h10⟩ := hS'
    have h11 := h10.look1 HT.out
    rw [BY.out] at h11
    simp only [Option.getD_some] at h11
    rw [hlA] at h8
    (try go_simp)
    first | done | exact rfl | exact ⟨rfl, rfl⟩
  (try simp only [Act.put, List.getElem_toArray, List.getElem_cons_succ, List.getElem_cons_zero, List.setIfInBounds_toArray, List.set_cons_zero, List.set_cons_succ])
  refine wpAnyN_takeT (i := 22) (v := ?_) rfl (by kernel_rfl) (by kernel_rfl) (by kernel_rfl) (by kernel_rfl) (by kernel_rfl) (fun _ _ _ h => h) (Or.inl ⟨by rfl, ?_⟩) S0 ?_
  rotate_left
  · intro w' hS'
    obtain ⟨⟨h0, h1, h2, h3, h4, h5, h6, h7⟩, h8, h9, h10⟩ := hS'
    have h11 := h10.look1 HT.out
    rw [BY.out] at h11
    simp only [Option.getD_some] at h11
    rw [hlA] at h8
    (try go_simp)
    first | done | exact rfl | exact ⟨rfl, rfl⟩
  (try simp only [Act.put, List.getElem_toArray, List.getElem_cons_succ, List.getElem_cons_zero, List.setIfInBounds_toArray, List.set_cons_zero, List.set_cons_succ])
  refine wpAnyN_one (i := 23) (by kernel_rfl) rfl (fun K hK => ?_)
  go_simp
  refine Calls.mono AL.out ?_
  rintro e w9 ⟨rfl, hb7, hz7⟩
  have HM := HM.out.below hb7
  have S24 : S7 X pn ib io x av dv w9 := ⟨S0.1.below hb7, HM.rr.cell 0 (by omega), HM.rr.cell 1 (by omega), HM.mp.1⟩
  have EC := EN.out w9 HM
  have EC : Hid (Calls Tryd.prog 18 #[.pointer (some ⟨X.R, 0, none⟩), .pointer (some ⟨fb0, fo + k * 7, none⟩), .slice (some ⟨wq.heap.size, 0, none⟩) x.args.length x.args.length] w9 fun e w' => e = .panicked [{ v := endV 2 0, recovered := false }] ∧ w' = w9) := EC
  have HM9 : MS X m st L w9 := HM
  clear hb7 hz7 EN RL
  go_wp2_with fail
  refine hK _ _ (fun _ => S24) ?_
  clear hK K
  (try simp only [Act.put, List.getElem_toArray, List.getElem_cons_succ, List.getElem_cons_zero, List.setIfInBounds_toArray, List.set_cons_zero, List.set_cons_succ])
  refine wpAnyN_one (i := 24) (by kernel_rfl) rfl (fun K hK => ?_)
  go_simp
  refine Calls.mono EC.out ?_
  rintro e w7 ⟨rfl, hw7⟩
  rw [hw7]
  exact ⟨rfl, rfl, _, _, _, (by rfl), MS.toX HM9⟩
end
end Go.Proofs.YtapgaclonilnbaaDoor
