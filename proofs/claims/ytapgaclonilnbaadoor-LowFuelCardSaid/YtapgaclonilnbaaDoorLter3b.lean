/-
  Proved: what a block's end of kind 3b does to the machine.
-/
import Derived.Test.YtapgaclonilnbaaDoorLterh
namespace Go.Proofs.YtapgaclonilnbaaDoor
open Go.RowKit
set_option linter.unusedVariables false
set_option linter.unusedSimpArgs false

section
variable {X : Cx} {m : Mc} {st : Int} {L : Ly} {w w' : World} {t : Le} {tb tq : Nat} {tv : Value}

set_option maxRecDepth 20000 in
set_option maxHeartbeats 4000000 in
theorem ter_3b (h : MS X m st L w) (hx : RowAt X.wz tb tq (leC t tv)) (hop : t.k = 3) (hargs : NosIn X.wz t.args tv) (hr : ∀ r ∈ t.args, rdB m.nw.rg.length r = true) (hl8 : t.args.length ≤ 8) (hk : m.nw.fn < X.l.length) (q : Bool) (hq : X.l[m.nw.fn].qu = q) (hld : -1000 ≤ m.ld ∧ m.ld ≤ 1000) (bl : List Cl) (c : Cl) (hbl : m.bl = bl ++ [c]) (hn : bl.length < 1000) (hck : c.fn < X.l.length) (hcb : c.bk < X.l[c.fn].bs.length) (j : Nat) (hnx : c.nx = j + 1) (hj : j < X.l[c.fn].bs[c.bk].li.length) (hbs : X.l[c.fn].bs.length ≤ 281474976710656) (hlen : X.l[c.fn].bs[c.bk].li[j].dsts.length = t.args.length) (hds : ∀ r ∈ X.l[c.fn].bs[c.bk].li[j].dsts, 0 ≤ r ∧ r < c.rg.length) :
    Calls Tryd.prog 26 #[.pointer (some ⟨X.R, 0, none⟩), .pointer (some ⟨tb, tq, none⟩)] w fun e w' => e = .returned (.tuple #[]) ∧ ∃ L', MS X ⟨bl, setsR c X.l[c.fn].bs[c.bk].li[j].dsts (t.args.map (cw m.nw)), m.us, m.wo, m.ip, m.out, if q then m.ld else m.ld - 1⟩ st L' w' := by
  have c0 : w.cell? ⟨tb, tq, none⟩ = some (.int .i64 3) := by
    have := (h.bz.cell (p := ⟨tb, tq + 0, none⟩) hx.1).trans (hx.at 0 (v := .int .i64 t.k) rfl)
    rwa [hop] at this
  obtain ⟨pn, hpn⟩ : ∃ pn, pn = L.pb m.bl.length := ⟨_, rfl⟩
  have PN : Hid (pn = L.pb m.bl.length) := hpn
  have HS : Hid (∀ w', Below w.heap.size w w' → TI X pn tb tq t tv w') := fun w' hb => (by rw [hpn]; exact (h.below hb).ti hx : TI X pn tb tq t tv w')
  have HM : Hid (∀ w', Below w.heap.size w w' → MS X m st L w') := fun w' hb => h.below hb
  have HX : Hid (RowAt X.wz tb tq (leC t tv)) := hx
  have AL : Hid (∀ w1, Below w.heap.size w w1 → Calls Tryd.prog 40 #[.pointer (some ⟨pn, 0, none⟩), tv] w1 fun e w' => e = .returned (.slice (some ⟨w1.heap.size, 0, none⟩) t.args.length t.args.length) ∧ Below w1.heap.size w1 w' ∧ WZ w' w1.heap.size t.args.length fun i => (t.args.map (cw m.nw)).getD i 0) := fun w1 hw1 => (by rw [hpn]; exact all_c (HM.out w1 hw1).now t.args tv (hargs.below (HM.out w1 hw1).bz) (by omega) hr)
  obtain ⟨m2, hm2⟩ : ∃ m2 : Mc, m2 = ⟨bl, setsR c X.l[c.fn].bs[c.bk].li[j].dsts (t.args.map (cw m.nw)), m.us, m.wo, m.ip, m.out, if q then m.ld else m.ld - 1⟩ := ⟨_, rfl⟩
  have RL : Hid (True) := trivial
  have EN : Hid (∀ wq w9 : World, Below w.heap.size w wq → MS X m st L w9 → WZ w9 wq.heap.size t.args.length (fun i => (t.args.map (cw m.nw)).getD i 0) → Calls Tryd.prog 39 #[.pointer (some ⟨X.R, 0, none⟩), .slice (some ⟨wq.heap.size, 0, none⟩) t.args.length t.args.length] w9 fun e w' => e = .returned (.tuple #[]) ∧ ∃ L', MS X m2 st L' w') := fun wq w9 hq9 h9 hz9 => by
    have ha : AOn X L bl.length w9 (t.args.map (cw m.nw)) (some ⟨wq.heap.size, 0, none⟩) := fun i hi => by
      have hi2 : i < t.args.length := by simpa using hi
      have lt := h.lts
      have sz := hq9.size
      refine ⟨wq.heap.size, 0, rfl, by omega, fun jj hjj => ?_, ?_⟩
      · have := (lt.2.2.2.2 jj (by rw [hbl]; simp; omega)).2.1
        omega
      · have := GZ.cell hz9 i hi2
        rw [Nat.zero_add, this]
        simp [List.getD_eq_getElem?_getD, hi2]
    rw [hm2]
    have el : (t.args.map (cw m.nw)).length = t.args.length := by simp
    cases q with
    | true => have := leave_B_true h9 hk hq hld bl c hbl hn hck hcb j hnx hj hbs (t.args.map (cw m.nw)) _ t.args.length ha (by rw [el]; exact hlen) (by rw [el]; exact hl8) hds; rw [el] at this; exact this
    | false => have := leave_B_false h9 hk hq hld bl c hbl hn hck hcb j hnx hj hbs (t.args.map (cw m.nw)) _ t.args.length ha (by rw [el]; exact hlen) (by rw [el]; exact hl8) hds; rw [el] at this; exact this
  rw [← hm2]
  clear hm2 hbl hds hlen hj hbs hcb hck hnx
  clear hargs hr hl8 hk hq hld hn
  clear h hx hop hpn
  go_enter Tryd.func26, Tryd.ntmps26
  go_wp2
  clear c0
  refine wp_region_N (fun w' => TI X pn tb tq t tv w') (fun i => i != 10) mixedE ((HS.out _ (below_drew _))) ?_
  intro S0
  have B0 : Hid (Below w.heap.size w w.drew) := (below_drew _)
  have AL : Hid (_) := AL.out _ B0.out
  generalize w.drew = wq at *
  refine wpAnyN_takeT (i := 0) (v := ?_) rfl (by kernel_rfl) (by kernel_rfl) (by kernel_rfl) (by kernel_rfl) (by kernel_rfl) (fun _ _ _ h => h) (Or.inl ⟨by rfl, ?_⟩) S0 ?_
  rotate_left
  · intro w' hS'
    obtain ⟨h0, h1, h2, h3, h4, h5, h6⟩ := hS'
    (try go_simp)
    first | done | exact rfl | exact ⟨rfl, rfl⟩
  (try simp only [Act.put, List.getElem_toArray, List.getElem_cons_zero, List.setIfInBounds_toArray, List.set_cons_zero, List.set_cons_succ])
  refine wpAnyN_takeT (i := 1) (v := ?_) rfl (by kernel_rfl) (by kernel_rfl) (by kernel_rfl) (by kernel_rfl) (by kernel_rfl) (fun _ _ _ h => h) (Or.inl ⟨by rfl, ?_⟩) S0 ?_
  rotate_left
  · intro w' hS'
    obtain ⟨h0, h1, h2, h3, h4, h5, h6⟩ := hS'
    (try go_simp)
    first | done | exact rfl | exact ⟨rfl, rfl⟩
  (try simp only [Act.put, List.getElem_toArray, List.getElem_cons_succ, List.getElem_cons_zero, List.setIfInBounds_toArray, List.set_cons_zero, List.set_cons_succ])
  refine wpAnyN_takeT (i := 2) (v := ?_) rfl (by kernel_rfl) (by kernel_rfl) (by kernel_rfl) (by kernel_rfl) (by kernel_rfl) (fun _ _ _ h => h) (Or.inl ⟨by rfl, ?_⟩) S0 ?_
  rotate_left
  · intro w' hS'
    obtain ⟨h0, h1, h2, h3, h4, h5, h6⟩ := hS'
    (try go_simp)
    first | done | exact rfl | exact ⟨rfl, rfl⟩
  (try simp only [Act.put, List.getElem_toArray, List.getElem_cons_succ, List.getElem_cons_zero, List.setIfInBounds_toArray, List.set_cons_zero, List.set_cons_succ])
  refine wpAnyN_takeT (i := 3) (v := ?_) rfl (by kernel_rfl) (by kernel_rfl) (by kernel_rfl) (by kernel_rfl) (by kernel_rfl) (fun _ _ _ h => h) (Or.inl ⟨by rfl, ?_⟩) S0 ?_
  rotate_left
  · intro w' hS'
    obtain ⟨h0, h1, h2, h3, h4, h5, h6⟩ := hS'
    (try go_simp)
    first | done | exact rfl | exact ⟨rfl, rfl⟩
  (try simp only [Act.put, List.getElem_toArray, List.getElem_cons_succ, List.getElem_cons_zero, List.setIfInBounds_toArray, List.set_cons_zero, List.set_cons_succ])
  refine wpAnyN_takeT (i := 4) (v := ?_) rfl (by kernel_rfl) (by kernel_rfl) (by kernel_rfl) (by kernel_rfl) (by kernel_rfl) (fun _ _ _ h => h) (Or.inl ⟨by rfl, ?_⟩) S0 ?_
  rotate_left
  · intro w' hS'
    obtain ⟨h0, h1, h2, h3, h4, h5, h6⟩ := hS'
    (try go_simp)
    first | done | exact rfl | exact ⟨rfl, rfl⟩
  (try simp only [Act.put, List.getElem_toArray, List.getElem_cons_succ, List.getElem_cons_zero, List.setIfInBounds_toArray, List.set_cons_zero, List.set_cons_succ])
  refine wpAnyN_takeT (i := 5) (v := ?_) rfl (by kernel_rfl) (by kernel_rfl) (by kernel_rfl) (by kernel_rfl) (by kernel_rfl) (fun _ _ _ h => h) (Or.inl ⟨by rfl, ?_⟩) S0 ?_
  rotate_left
  · intro w' hS'
    obtain ⟨h0, h1, h2, h3, h4, h5, h6⟩ := hS'
    (try go_simp)
    first | done | exact rfl | exact ⟨rfl, rfl⟩
  (try simp only [Act.put, List.getElem_toArray, List.getElem_cons_succ, List.getElem_cons_zero, List.setIfInBounds_toArray, List.set_cons_zero, List.set_cons_succ])
  refine wpAnyN_takeT (i := 6) (v := ?_) rfl (by kernel_rfl) (by kernel_rfl) (by kernel_rfl) (by kernel_rfl) (by kernel_rfl) (fun _ _ _ h => h) (Or.inl ⟨by rfl, ?_⟩) S0 ?_
  rotate_left
  · intro w' hS'
    obtain ⟨h0, h1, h2, h3, h4, h5, h6⟩ := hS'
    (try go_simp)
    first | done | exact rfl | exact ⟨rfl, rfl⟩
  (try simp only [Act.put, List.getElem_toArray, List.getElem_cons_succ, List.getElem_cons_zero, List.setIfInBounds_toArray, List.set_cons_zero, List.set_cons_succ])
  refine wpAnyN_takeT (i := 7) (v := ?_) rfl (by kernel_rfl) (by kernel_rfl) (by kernel_rfl) (by kernel_rfl) (by kernel_rfl) (fun _ _ _ h => h) (Or.inl ⟨by rfl, ?_⟩) S0 ?_
  rotate_left
  · intro w' hS'
    obtain ⟨h0, h1, h2, h3, h4, h5, h6⟩ := hS'
    (try go_simp)
    first | done | exact rfl | exact ⟨rfl, rfl⟩
  (try simp only [Act.put, List.getElem_toArray, List.getElem_cons_succ, List.getElem_cons_zero, List.setIfInBounds_toArray, List.set_cons_zero, List.set_cons_succ])
  refine wpAnyN_takeT (i := 8) (v := ?_) rfl (by kernel_rfl) (by kernel_rfl) (by kernel_rfl) (by kernel_rfl) (by kernel_rfl) (fun _ _ _ h => h) (Or.inl ⟨by rfl, ?_⟩) S0 ?_
  rotate_left
  · intro w' hS'
    obtain ⟨h0, h1, h2, h3, h4, h5, h6⟩ := hS'
    (try go_simp)
    first | done | exact rfl | exact ⟨rfl, rfl⟩
  (try simp only [Act.put, List.getElem_toArray, List.getElem_cons_succ, List.getElem_cons_zero, List.setIfInBounds_toArray, List.set_cons_zero, List.set_cons_succ])
  refine wpAnyN_one (i := 9) (by kernel_rfl) rfl (fun K hK => ?_)
  go_simp
  refine Calls.mono AL.out ?_
  rintro e w9 ⟨rfl, hb7, hz7⟩
  have HM9 := (HM.out _ B0.out).below hb7
  have S10 := S0.below hb7
  have EC : Hid (Calls Tryd.prog 39 #[.pointer (some ⟨X.R, 0, none⟩), .slice (some ⟨wq.heap.size, 0, none⟩) t.args.length t.args.length] w9 fun e w' => e = .returned (.tuple #[]) ∧ ∃ L', MS X m2 st L' w') := EN.out wq w9 B0.out HM9 hz7
  clear hb7 hz7 HM9 EN RL
  go_wp2_with fail
  refine hK _ _ (fun _ => S10) ?_
  clear hK K
  (try simp only [Act.put, List.getElem_toArray, List.getElem_cons_succ, List.getElem_cons_zero, List.setIfInBounds_toArray, List.set_cons_zero, List.set_cons_succ])
  refine wpAnyN_one (i := 10) (by kernel_rfl) rfl (fun K hK => ?_)
  go_simp
  refine Calls.mono EC.out ?_
  rintro e w7 ⟨rfl, L7, hM⟩
  go_wp2_with fail
  refine hK _ _ (fun h => by cases h) ?_
  clear hK K
  (try simp only [Act.put, List.getElem_toArray, List.getElem_cons_succ, List.getElem_cons_zero, List.setIfInBounds_toArray, List.set_cons_zero, List.set_cons_succ])
  have S11 := S10
  refine wpAnyN_done (by kernel_rfl) ?_ _
  go_wp2
  go_end0
  exact ⟨rfl, L7, hM⟩
end
end Go.Proofs.YtapgaclonilnbaaDoor
