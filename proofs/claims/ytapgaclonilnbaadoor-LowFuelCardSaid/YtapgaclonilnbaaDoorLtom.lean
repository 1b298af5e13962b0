/-
  Proved: what toTheEnd does: it runs main.
-/
import Derived.Test.YtapgaclonilnbaaDoorLtor
namespace Go.Proofs.YtapgaclonilnbaaDoor
open Go.RowKit
set_option linter.unusedVariables false
set_option linter.unusedSimpArgs false

theorem least_ex (p : Nat → Prop) (h : ∃ m, p m) : ∃ m, p m ∧ ∀ k, p k → m ≤ k := by
  obtain ⟨m, hm⟩ := h
  induction m using Nat.strongRecOn with
  | _ m ih =>
    by_cases e : ∃ k, k < m ∧ p k
    · obtain ⟨k, h1, h2⟩ := e
      exact ih k h1 h2
    · exact ⟨m, hm, fun k hk => Nat.le_of_not_lt fun hl => e ⟨k, hl, hk⟩⟩
noncomputable def lst (p : Nat → Prop) : Nat := @dite _ (∃ m, p m) (Classical.propDecidable _) (fun h => Classical.choose (least_ex p h)) (fun _ => 0)
theorem lst_spec {p : Nat → Prop} (h : ∃ m, p m) : p (lst p) := by
  unfold lst
  rw [dif_pos h]
  exact (Classical.choose_spec (least_ex p h)).1
theorem lst_le {p : Nat → Prop} {m : Nat} (h : p m) : lst p ≤ m := by
  have h' : ∃ m, p m := ⟨m, h⟩
  unfold lst
  rw [dif_pos h']
  exact (Classical.choose_spec (least_ex p h')).2 m h

section
variable {X : Cx} {z : Mh} {nv : Value} {st : Int} {L : Ly} {w w' : World} {ip : List Int}

set_option maxRecDepth 20000 in
set_option maxHeartbeats 4000000 in
theorem toe_main (hc : chk X.l = true) (h : MX X ⟨[], fun _ _ => false, fun _ => 0, ip, [], 0⟩ (.pointer none) 0 L w) (k : Nat) (hk : k < X.l.length) (hb : byN X.l [109, 97, 105, 110] = some (k : Int)) (hw1 : X.l[k].pa.length = 0) (hw2 : X.l[k].an = 0) (fu : Nat) (hfu : X.fu = fu) (hf6 : fu ≤ 1000000) :
    Calls Tryd.prog 11 #[.pointer (some ⟨X.R, 0, none⟩)] w fun e w' => e = .returned (.agg #[.int .i64 (goS X.l fu (beginM X.l k ip)).1.1, .int .i64 (goS X.l fu (beginM X.l k ip)).1.2]) ∧ EndR X (goS X.l fu (beginM X.l k ip)).2.1 ((goS X.l fu (beginM X.l k ip)).2.2 : Int) w' := by
  have hmf : ∀ (fn : Fn) (first cap : Array Value) (w : World), (Instr.makeFunc fn first cap).run Tryd.prog w = .ok (.func fn first cap) w := fun _ _ _ _ => rfl
  have HX := h.boxed rfl (.cells #[.int .i64 0, .int .i64 0] 48)
  have c1 : (w.alloc (.cells #[.int .i64 0, .int .i64 0] 48)).cell? ⟨X.R, 1, none⟩ = some (.map (some X.mb)) := HX.rr.cell 1 (by omega)
  have c0 : (w.alloc (.cells #[.int .i64 0, .int .i64 0] 48)).cell? ⟨X.R, 0, none⟩ = some (.slice X.lA X.l.length X.lC) := HX.rr.cell 0 (by omega)
  obtain ⟨_, lAA, lCC, elA, hlr⟩ := h.hl
  obtain ⟨fb0, fo, csx, hlA, hrow, pv, bv, ecs, -, hpn, -⟩ := hlr k hk
  cases elA
  cases ecs
  obtain ⟨-, PA, PC, rfl, -⟩ := hpn
  rw [hlA] at c0
  have c2 : (w.alloc (.cells #[.int .i64 0, .int .i64 0] 48)).cell? ⟨fb0, fo + k * 7 + 2, none⟩ = some (.slice PA 0 PC) := by
    have := (HX.bz.cell (p := ⟨fb0, fo + k * 7 + 2, none⟩) hrow.1).trans (hrow.at 2 rfl)
    rwa [hw1] at this
  have c3 : (w.alloc (.cells #[.int .i64 0, .int .i64 0] 48)).cell? ⟨fb0, fo + k * 7 + 3, none⟩ = some (.int .i64 0) := by
    have := (HX.bz.cell (p := ⟨fb0, fo + k * 7 + 3, none⟩) hrow.1).trans (hrow.at 3 rfl)
    rwa [hw2] at this
  have ML : ∀ {w' : World}, MapS w' X.mb X.mn (byN X.l) → (Instr.lookup 50 (.map (some X.mb)) (.string mainT) true).run Tryd.prog w' = .ok (.tuple #[.int .i64 (k : Int), .bool true]) w' := fun hm => by
    have := hm.look2 (x := mainT) (by decide)
    rw [this]
    have e : byN X.l mainT.data.toList = some (k : Int) := hb
    rw [e]
    rfl
  have HM := ML HX.mp.1
  unfold mainT at HM
  have hkz : (k : Int) < X.l.length := by omega
  have hfp : fpV X k = .pointer (some ⟨fb0, fo + k * 7, none⟩) := by rw [fpV, hlA]; rfl
  have HC : Hid (chk X.l = true) := hc
  have HF : Hid (X.fu = fu) := hfu
  obtain ⟨X2, hX2⟩ : ∃ X2 : Cx, X2 = { X with xb := w.heap.size, xo := (w.alloc (.cells #[.int .i64 0, .int .i64 0] 48)).heap[w.heap.size]? } := ⟨_, rfl⟩
  have q1 : X2.l = X.l := by rw [hX2]
  have q2 : X2.R = X.R := by rw [hX2]
  have q3 : X2.fu = X.fu := by rw [hX2]
  have q4 : X2.xb = w.heap.size := by rw [hX2]
  have q5 : X2.xo = (w.alloc (.cells #[.int .i64 0, .int .i64 0] 48)).heap[w.heap.size]? := by rw [hX2]
  have q6 : ∀ out st w', EndR X2 out st w' → EndR X out st w' := fun out st w' q => by rw [hX2] at q; exact q
  have q7 : fpV X2 k = fpV X k := by rw [hX2]; rfl
  rw [← hX2] at HX
  obtain ⟨m0, hm0⟩ : ∃ m0, m0 = beginM X.l k ip := ⟨_, rfl⟩
  have EN : Hid (Calls Tryd.prog 18 #[.pointer (some ⟨X.R, 0, none⟩), .pointer (some ⟨fb0, fo + k * 7, none⟩), .slice none 0 0] (w.alloc (.cells #[.int .i64 0, .int .i64 0] 48)) fun e w' => e = .returned (.tuple #[]) ∧ RS X2 fu m0 w' (fu + 1)) := by
    have := enter_main (X := X2) (by rw [q1]; exact hc) HX k (by rw [q1]; exact hk) (by simp only [q1]; exact hw1) fu
    rw [q2, q7, hfp, q1, ← hm0] at this
    exact this
  rw [← hm0]
  obtain ⟨r, hr⟩ : ∃ r, r = goS X.l fu m0 := ⟨_, rfl⟩
  rw [← hr]
  have HR : Hid (goS X2.l fu m0 = r) := by rw [q1]; exact hr.symm
  clear hr
  have Q : Hid (X2.l = X.l ∧ X2.R = X.R ∧ X2.fu = X.fu ∧ X2.xb = w.heap.size ∧ X2.xo = (w.alloc (.cells #[.int .i64 0, .int .i64 0] 48)).heap[w.heap.size]? ∧ ∀ out st w', EndR X2 out st w' → EndR X out st w') := ⟨q1, q2, q3, q4, q5, q6⟩
  clear ML hlr hrow h HX hlA hb hX2 q1 q2 q3 q4 q5 q6 q7 hm0 hc hfu hw1 hw2 hfp
  go_enter_defers Tryd.func11, Tryd.ntmps11
  go_wp2_with (go_at_call 18; refine (EN.out).mono ?_; rintro e w3 ⟨rfl, hrs⟩; have RS3 : Hid (RS X2 fu m0 w3 (fu + 1)) := hrs; clear hrs)
  clear c0 c1 c2 c3 HM EN
  go_loopw [] (fun wr => ∃ n, RS X2 fu m0 wr n) (fun wr => lst (RS X2 fu m0 wr))
  case atStart => exact ⟨_, RS3.out⟩
  case round =>
    have hz := lst_spec hrel
    obtain ⟨g, hg⟩ : ∃ g, g = lst (RS X2 fu m0 wr) := ⟨_, rfl⟩
    rw [← hg] at hz
    have MM : Hid (g = lst (RS X2 fu m0 wr)) := hg
    clear hg hrel RS3
    obtain ⟨q1, q2, q3, q4, q5, q6⟩ := Q.out
    obtain ⟨z, nv, d, L2, hm, ⟨m, rfl, rfl, hwf, hd, hn, ho, hg⟩ | ⟨hz0, hn, hg⟩⟩ := hz
    · have c6 : wr.cell? ⟨X.R, 6, none⟩ = some L2.cv := by rw [← q2]; exact hm.rr.cell 6 (by omega)
      obtain ⟨A, C, ev, -⟩ := OwnB.shape ptC_len hm.cc
      rw [ev] at c6
      have el : (hOf m).cs.length = m.bl.length + 1 := by simp [hOf]
      simp only [List.length_map, List.length_range, el] at c6
      have hlz : (0 : Int) < ((m.bl.length + 1 : Nat) : Int) := by omega
      have hbx := hm.box q5
      rcases round_split (m0 := m0) (by rw [q1]; exact HC.out) fu (by rw [q3]; exact HF.out) hf6 hm hwf hd ho hg with GO | GO
      · rw [q2] at GO
        have G2 : Hid (Calls Tryd.prog 19 #[.pointer (some ⟨X.R, 0, none⟩)] wr fun e w' => e = .returned (.tuple #[]) ∧ ∃ n, n < fu - d + 1 ∧ RS X2 fu m0 w' n) := GO
        rw [hn] at MM
        have M2 : Hid (fu - d + 1 = lst (RS X2 fu m0 wr)) := MM.out
        clear GO hm hwf hg ev hbx ho el q1 q2 q3 q4 q5 q6 hn MM
        generalize m.bl.length + 1 = n at *
        go_wp2_with (go_at_call 19; refine (G2.out).mono ?_; rintro e w5 ⟨rfl, n5, hn5, hrs⟩; have R5 : Hid (n5 < fu - d + 1 ∧ RS X2 fu m0 w5 n5) := ⟨hn5, hrs⟩; clear hn5 hrs)
        go_roundw
        case rel => exact ⟨n5, R5.out.2⟩
        case measure =>
          have := lst_le R5.out.2
          have := R5.out.1
          have := M2.out
          omega
      · rw [q2] at GO
        rw [HR.out] at GO
        have G2 : Hid (Calls Tryd.prog 19 #[.pointer (some ⟨X.R, 0, none⟩)] wr fun e w' => e = .panicked [{ v := endV r.1.1 r.1.2, recovered := false }] ∧ ∃ z nv L, z.out = r.2.1 ∧ MX X2 z nv (r.2.2 : Int) L w') := GO
        clear GO hm hwf hg ev hbx ho el hn MM HR q1 q2 q3
        generalize m.bl.length + 1 = n at *
        go_wp2_with (go_at_call 19; refine (G2.out).mono ?_; rintro e w5 ⟨rfl, z5, nv5, L5, ho5, hm5⟩; have M5 : Hid (z5.out = r.2.1 ∧ MX X2 z5 nv5 (r.2.2 : Int) L5 w5) := ⟨ho5, hm5⟩; clear ho5 hm5)
        refine leaves_cons (f := 16) (args := #[.pointer (some ⟨w.heap.size, 0, none⟩)]) (by simp) (by simp [go_sem]) ?_
        rw [← q4]
        refine (toe_caught M5.out.2 (M5.out.2.box q5) r.1.1 r.1.2).mono ?_
        rintro e u' w'' ⟨rfl, rfl, d0, d1, EE⟩
        rw [M5.out.1] at EE
        simp [Leaves, settle, results, Tryd.results11, go_sem, d0, d1]
        exact q6 _ _ _ EE
    · have c6 : wr.cell? ⟨X.R, 6, none⟩ = some L2.cv := by rw [← q2]; exact hm.rr.cell 6 (by omega)
      obtain ⟨A, C, ev, -⟩ := OwnB.shape ptC_len hm.cc
      rw [ev] at c6
      simp only [List.length_map, List.length_range, hz0, List.length_nil] at c6
      have hbx := hm.box q5
      have EE := hm.ended2 (.int .i64 1) (.int .i64 0) 0 1
      have bx2 := (hbx.set (j := 0) (.int .i64 1)).set (j := 1) (.int .i64 0)
      have d0 := bx2.cell (j := 0)
      have d1 := bx2.cell (j := 1)
      rw [q4] at hbx EE d0 d1
      have b0 : wr.cell? ⟨w.heap.size, 0, none⟩ = some (.int .i64 0) := by rw [hbx.cell]; rfl
      have b1 : wr.cell? ⟨w.heap.size, 1, none⟩ = some (.int .i64 0) := by rw [hbx.cell]; rfl
      have f0 := hbx.frozen 0
      have f1 := hbx.frozen 1
      rw [HR.out] at hg
      have EE := q6 _ _ _ EE
      clear HR
      subst hg
      have E2 : Hid (EndR X z.out d ((wr.setCell ⟨w.heap.size, 0, none⟩ (.int .i64 1)).setCell ⟨w.heap.size, 1, none⟩ (.int .i64 0))) := EE
      clear EE hm ev hn MM q1 q2 q3 q5 q6 hbx bx2
      go_wp2
      refine leaves_cons (f := 16) (args := #[.pointer (some ⟨w.heap.size, 0, none⟩)]) (by simp) (by simp [go_sem]) ?_
      refine (catch_off w.heap.size _).mono ?_
      rintro e u' w'' ⟨rfl, rfl, rfl⟩
      have e0 : ((wr.setCell ⟨w.heap.size, 0, none⟩ (.int .i64 1)).setCell ⟨w.heap.size, 1, none⟩ (.int .i64 0)).cell? ⟨w.heap.size, 0, none⟩ = some (.int .i64 1) := by rw [d0]; rfl
      have e1 : ((wr.setCell ⟨w.heap.size, 0, none⟩ (.int .i64 1)).setCell ⟨w.heap.size, 1, none⟩ (.int .i64 0)).cell? ⟨w.heap.size, 1, none⟩ = some (.int .i64 0) := by rw [d1]; rfl
      have E3 := E2.out
      generalize (wr.setCell ⟨w.heap.size, 0, none⟩ (.int .i64 1)).setCell ⟨w.heap.size, 1, none⟩ (.int .i64 0) = w9 at *
      simp [Leaves, settle, results, Tryd.results11, go_sem, e0, e1]
      exact E3
end
end Go.Proofs.YtapgaclonilnbaaDoor
