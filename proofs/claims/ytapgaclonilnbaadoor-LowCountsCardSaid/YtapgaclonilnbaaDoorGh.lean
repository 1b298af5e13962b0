/-
  Proved: what an instruction does to the machine.
-/
import Derived.Test.YtapgaclonilnbaaDoorGg
import Derived.Test.YtapgaclonilnbaaDoorGd
namespace Go.Proofs.YtapgaclonilnbaaDoor
open Go.RowKit Go.Maps Go.WideShapes Go.WideMaps
set_option maxRecDepth 20000
set_option linter.unusedVariables false
set_option linter.unusedSimpArgs false

/-- What comes of a step's part. -/
def Res (X : Cx) (out : List Int) (st : Int) (r : Sx) (e : Ending) (w' : World) : Prop :=
  match r with
  | .inl m' => e = .returned (.tuple #[]) ∧ ∃ L, MS X m' st L w'
  | .inr k => e = .panicked [{ v := endV k.1 k.2, recovered := false }] ∧ ∃ z nv L, z.out = out ∧ MX X z nv st L w'

section
variable {X : Cx} {m : Mc} {st : Int} {L : Ly} {w w' : World} {x : Lo} {ib io : Nat} {av dv : Value}

/-- The cells that an instruction reads. -/
def SI (X : Cx) (pn ib io : Nat) (x : Lo) (av dv : Value) (w' : World) : Prop :=
  w'.cell? ⟨X.R, 7, none⟩ = some (.pointer (some ⟨pn, 0, none⟩)) ∧ w'.cell? ⟨ib, io + 1, none⟩ = some (.int .i64 x.d) ∧ w'.cell? ⟨ib, io + 2, none⟩ = some (.int .i64 x.a) ∧ w'.cell? ⟨ib, io + 3, none⟩ = some (.int .i64 x.b) ∧ w'.cell? ⟨ib, io + 4, none⟩ = some (.int .i64 x.n) ∧ w'.cell? ⟨ib, io + 5, none⟩ = some (.string x.tx) ∧ w'.cell? ⟨ib, io + 6, none⟩ = some av ∧ w'.cell? ⟨ib, io + 7, none⟩ = some dv

theorem MS.si (h : MS X m st L w) (hx : RowAt X.wz ib io (loC x av dv)) : SI X (L.pb m.bl.length) ib io x av dv w := by
  have c := fun j v (e : (loC x av dv)[j]? = some v) => (h.bz.cell (p := ⟨ib, io + j, none⟩) hx.1).trans (hx.at j e)
  exact ⟨h.rr.cell 7 (by omega), c 1 _ rfl, c 2 _ rfl, c 3 _ rfl, c 4 _ rfl, c 5 _ rfl, c 6 _ rfl, c 7 _ rfl⟩
theorem SI.below {pn : Nat} (h : SI X pn ib io x av dv w) (k : Below w.heap.size w w') : SI X pn ib io x av dv w' := by
  obtain ⟨h0, h1, h2, h3, h4, h5, h6, h7⟩ := h
  have c := fun (p : Addr) v (e : w.cell? p = some v) => (k.cell (p := p) (World.block_lt_of_cell? _ _ e)).trans e
  exact ⟨c _ _ h0, c _ _ h1, c _ _ h2, c _ _ h3, c _ _ h4, c _ _ h5, c _ _ h6, c _ _ h7⟩
theorem rdB_bg {n r : Int} (h : rdB n r = true) : bgB n r = true := by unfold bgB; rw [h]; simp
theorem rg_lt {n r : Int} (h : rgB n r = true) : 0 ≤ r ∧ r < n := by
  unfold rgB at h
  simp only [Bool.and_eq_true, decide_eq_true_eq] at h
  exact h

/-- A word that there is. -/
def LocOk (m : Mc) : Option Nat × Nat → Prop
  | (none, k) => k < 2816
  | (some i, k) => i ≤ m.bl.length ∧ k < (callAt m i).fr.length

theorem atL_ok {m : Mc} {a : Int} {p : Option Nat × Nat} (h : atL m a = some p) : LocOk m p := by
  unfold atL at h
  split at h
  · rename_i q
    injection h with h
    subst h
    have := at_in q.2
    show ((a - 262144) / 4).toNat < 2816
    omega
  · split at h
    · cases h
    · split at h
      · rename_i q1 q2 q3
        injection h with h
        subst h
        have : nAr m.cs a ≤ m.cs.length := List.findIdx_le_length
        rw [cs_len] at this
        refine ⟨by omega, ?_⟩
        have := nAr_le m a (nAr m.cs a - 1) (by omega) (by omega)
        omega
      · cases h

theorem loc_ptr (X : Cx) (L : Ly) (p : Option Nat × Nat) : ∃ ab ao, locV X L p = .pointer (some ⟨ab, ao, none⟩) ∧ ∀ m st w, MS X m st L w → LocOk m p → w.cell? ⟨ab, ao, none⟩ = some (.int .i32 (ldL m p)) ∧ w.frozen? ⟨ab, ao, none⟩ = false ∧ ∀ v, MS X (stL m v p) st L (w.setCell ⟨ab, ao, none⟩ (.int .i32 v)) := by
  obtain ⟨o, k⟩ := p
  cases o with
  | none => exact ⟨_, _, rfl, fun m st w h hk => ⟨by have := h.rr.cell (10 + k) (by have : k < 2816 := hk; omega); rw [show 10 + k = k + 10 by omega] at this ⊢; exact this, h.rr.frozen _, fun v => h.word k hk v⟩⟩
  | some i => exact ⟨_, _, rfl, fun m st w h hk => ⟨GZ.cell (h.at i hk.1).f k hk.2, GZ.frozen (h.at i hk.1).f k, fun v => h.frame i hk.1 k hk.2 v⟩⟩

theorem MapS.look1 {w : World} {b n : Nat} {f : Tx → Option Int} (h : MapS w b n f) {x : ByteArray} (hx : x.size ≤ maxLen) : (Instr.lookup 50 (.map (some b)) (.string x) false).run Tryd.prog w = .ok (.int .i64 ((f x.data.toList).getD 0)) w := by
  obtain ⟨D, h1, _, h2⟩ := h
  obtain ⟨c, hr, ha, _⟩ := h1.lookup_int lawS Tryd.underlying50 Tryd.underlying3 (zeroSI w) (keyOf_string_mk Tryd.underlying9 hx)
  rw [(h2 x.data.toList).2] at ha
  injection ha with ha
  injection ha with _ ha
  rw [hr, ← ha]

/-- The cells that a call reads. -/
def S7 (X : Cx) (pn ib io : Nat) (x : Lo) (av dv : Value) (w' : World) : Prop := SI X pn ib io x av dv w' ∧ w'.cell? ⟨X.R, 0, none⟩ = some (.slice X.lA X.l.length X.lC) ∧ w'.cell? ⟨X.R, 1, none⟩ = some (.map (some X.mb)) ∧ MapS w' X.mb X.mn (byN X.l)

/-- One call more. -/
theorem enter_ms (h : MS X m st L w) (k : Nat) (hk : k < X.l.length) (rg fr : Nat) (hrgE : X.l[k].rg = (rg : Int)) (hfrE : X.l[k].fr = (fr : Int)) (hrg : rg ≤ 65536) (hfr : fr ≤ 65536) (hnf : m.nw.fr.length ≤ 65536)
    (vs : List Int) (av : Value) (ha : AIn X w vs av) (hlen : X.l[k].pa.length = vs.length) (hl8 : vs.length ≤ 8) (hpa : ∀ r ∈ X.l[k].pa, 0 ≤ r ∧ r < rg) (q : Bool) (hq : X.l[k].qu = q) (hld : q = false → ¬ 48 ≤ m.ld) (hldb : -1000 ≤ m.ld ∧ m.ld ≤ 1000) (hn : m.bl.length + 1 < 392) :
    Calls Tryd.prog 18 #[.pointer (some ⟨X.R, 0, none⟩), fpV X k, av] w fun e w' => e = .returned (.tuple #[]) ∧ ∃ L', MS X ⟨m.bl ++ [m.nw], setsR ⟨k, List.replicate rg 0, List.replicate fr 0, roomB m, 0, 0⟩ X.l[k].pa vs, m.us, m.wo, m.ip, m.out, if q then m.ld else m.ld + 1⟩ st L' w' := by
  have el : (hOf m).cs.length = m.bl.length + 1 := by simp
  have hRM : ∀ w', Below w.heap.size w w' → Calls Tryd.prog 24 #[.pointer (some ⟨X.R, 0, none⟩)] w' fun e w2 => e = .returned (.int .u32 (roomB m)) ∧ Below w'.heap.size w' w2 := fun w' hb => room_c (h.below hb) hnf
  cases q with
  | true =>
    refine (enter_true h.toX k hk rg fr hrgE hfrE hrg hfr (roomB m) hRM vs av ha hlen hl8 hpa hq hldb (by rw [el]; exact hn)).mono ?_
    rintro e w' ⟨rfl, L', p, rfl, hM⟩
    exact ⟨rfl, L', MX.toS hM⟩
  | false =>
    refine (enter_false h.toX k hk rg fr hrgE hfrE hrg hfr (roomB m) hRM vs av ha hlen hl8 hpa hq (hld rfl) hldb (by rw [el]; exact hn)).mono ?_
    rintro e w' ⟨rfl, L', p, rfl, hM⟩
    exact ⟨rfl, L', MX.toS hM⟩
end
end Go.Proofs.YtapgaclonilnbaaDoor

/-
  Proved: too many calls end the run.
-/
namespace Go.Proofs.YtapgaclonilnbaaDoor
open Go.RowKit
set_option linter.unusedVariables false
set_option linter.unusedSimpArgs false

section
variable {X : Cx} {z : Mh} {nv : Value} {st : Int} {L : Ly} {w w' : World}

set_option maxRecDepth 20000 in
set_option maxHeartbeats 2000000 in
theorem enter_full (h : MX X z nv st L w) (k : Nat) (hk : k < X.l.length) (av : Value) (q : Bool) (hq : X.l[k].qu = q) (hc : (q = false ∧ 48 ≤ z.ld) ∨ 392 ≤ z.cs.length) :
    Calls Tryd.prog 18 #[.pointer (some ⟨X.R, 0, none⟩), fpV X k, av] w fun e w' => e = .panicked [{ v := endV 2 0, recovered := false }] ∧ w' = w := by
  obtain ⟨fb0, fo, pv, bv, hfp, hrow, -, -⟩ := h.fn k hk
  have c5 : w.cell? ⟨fb0, fo + 5, none⟩ = some (.bool q) := by
    have r5 := hrow.at 5 (v := .bool X.l[k].qu) rfl
    rw [hq] at r5
    exact (h.bz.cell (p := ⟨fb0, fo + 5, none⟩) hrow.1).trans r5
  have c8 : w.cell? ⟨X.R, 8, none⟩ = some (.int .i64 z.ld) := h.rr.cell 8 (by omega)
  obtain ⟨cA, cC, ecv, -⟩ := OwnB.shape ptC_len h.cc
  have el : ((List.range z.cs.length).map L.pb).length = z.cs.length := by simp
  rw [el] at ecv
  have c6 : w.cell? ⟨X.R, 6, none⟩ = some (.slice cA z.cs.length cC) := by have := h.rr.cell 6 (by omega); rw [← ecv]; exact this
  have HT := fun w => stop_c 2 0 w
  rw [hfp]
  clear h hrow hfp hk hq ecv el
  generalize z.cs.length = n at *
  generalize z.ld = ld at *
  by_cases h1 : q = false ∧ 48 ≤ ld
  · obtain ⟨rfl, h1⟩ := h1
    clear hc
    go_enter Tryd.func18, Tryd.ntmps18
    go_wp2_with (go_at_call 17; refine (HT _).mono ?_; rintro e w3 ⟨rfl, hw⟩; rw [hw]; clear hw w3)
    exact ⟨rfl, rfl, rfl⟩
  · have h2 : 392 ≤ n := hc.resolve_left h1
    have h3 : 392 ≤ (n : Int) := by omega
    clear hc
    cases q with
    | true =>
      go_enter Tryd.func18, Tryd.ntmps18
      go_wp2_with (go_at_call 17; refine (HT _).mono ?_; rintro e w3 ⟨rfl, hw⟩; rw [hw]; clear hw w3)
      exact ⟨rfl, rfl, rfl⟩
    | false =>
      have h4 : ¬ 48 ≤ ld := fun e => h1 ⟨rfl, e⟩
      clear h1
      go_enter Tryd.func18, Tryd.ntmps18
      go_wp2_with (go_at_call 17; refine (HT _).mono ?_; rintro e w3 ⟨rfl, hw⟩; rw [hw]; clear hw w3)
      exact ⟨rfl, rfl, rfl⟩
end
end Go.Proofs.YtapgaclonilnbaaDoor

/-
  Proved: a step keeps what holds of low's machine: instructions, blocks' ends.
-/
namespace Go.Proofs.YtapgaclonilnbaaDoor
set_option linter.unusedVariables false
set_option linter.unusedSimpArgs false

section
variable {l : List Lf} {m m' : Mc} {c : Cl}

theorem rg_nat {c : Cl} (hc : chk l = true) (h : CW l c) {r : Int} (hr : rgB (fnO l c.fn).rg r = true) : r.toNat < c.rg.length := by
  have := rg_lt hr
  have := h.rgz hc
  omega

/-- A call that begins. -/
theorem new_cw (hc : chk l = true) (k : Nat) (hk : k < l.length) (ba : Int) (vs : List Int) (hv : ∀ v ∈ vs, I32 v) : CW l (newC l k ba vs) := by
  obtain ⟨f1, f2⟩ := ck_fn hc hk
  obtain ⟨p1, p2, p3, p4, p5⟩ := form_parts f1
  have hs : setsB (fnO l k).rg (fnO l k).pa = true := by
    unfold blocksB at f2
    simp only [Bool.and_eq_true] at f2
    exact f2.1
  have b : CW l ⟨k, List.replicate (fnO l k).rg.toNat 0, List.replicate (fnO l k).fr.toNat 0, ba, 0, 0⟩ := by
    refine ⟨hk, p1, by simp, by simp, Nat.zero_le _, fun i => ?_, fun i => ?_⟩
    · show I32 ((List.replicate _ (0 : Int)).getD i 0)
      rw [List.getD_eq_getElem?_getD, List.getElem?_replicate]
      split <;> exact I32_0
    · show I32 ((List.replicate _ (0 : Int)).getD i 0)
      rw [List.getD_eq_getElem?_getD, List.getElem?_replicate]
      split <;> exact I32_0
  refine b.sets _ vs (fun r hr => ?_) hv
  unfold setsB at hs
  have := rg_lt (List.all_eq_true.1 hs r hr)
  show r.toNat < (List.replicate (fnO l k).rg.toNat (0 : Int)).length
  rw [List.length_replicate]
  omega

theorem room_eq (hc : chk l = true) (h : WF l m) : roomB m = m.nw.ba + 4 * ((m.nw.fr.length : Int) + 64) := by
  have hf : ∀ i, i ≤ m.bl.length → (callAt m i).fr.length ≤ 65536 := fun i hi => (h.c i hi).frz hc
  have := h.ba hf m.bl.length (Nat.le_refl _)
  rw [at_nw] at this
  have h2 := h.cw.frz hc
  have hn := h.n
  unfold roomB wh
  omega

/-- The instruction that comes next. -/
theorem next_in (h : WF l m) (e : ¬ (blkO l m.nw).li.length ≤ m.nw.nx) : (blkO l m.nw).li.getD m.nw.nx noLo ∈ (blkO l m.nw).li ∧ WF l { m with nw := { m.nw with nx := m.nw.nx + 1 } } := by
  have hlt : m.nw.nx < (blkO l m.nw).li.length := by omega
  refine ⟨by rw [List.getD_eq_getElem?_getD, List.getElem?_eq_getElem hlt]; exact List.getElem_mem hlt, ?_⟩
  have hw := h.cw
  exact h.nw (c := { m.nw with nx := m.nw.nx + 1 }) ⟨hw.fn, hw.bk, hw.rg, hw.fr, by show m.nw.nx + 1 ≤ (blkO l m.nw).li.length; omega, hw.rI, hw.fI⟩ rfl rfl

theorem enter_ok (hc : chk l = true) (h : WF l m) {x : Lo} {vs : List Int} (hx : callB l (fnO l m.nw.fn).rg x = true) (j : Nat) (hj : m.nw.nx = j + 1) (hjl : j < (blkO l m.nw).li.length) (hxe : (blkO l m.nw).li.getD j noLo = x) (h7 : x.op = 7) (hv : ∀ v ∈ vs, I32 v)
    (e : enterS l m ((byN l x.tx.data.toList).getD 0).toNat vs = .inl m') : WF l m' := by
  unfold callB at hx
  split at hx
  · cases hx
  · rename_i z hz
    obtain ⟨k, rfl, hk, _⟩ := byN_some hz
    rw [hz] at e
    simp only [Option.getD_some, Int.toNat_natCast] at e
    unfold enterS at e
    split at e
    · cases e
    · rename_i hne
      injection e with e
      subst e
      have hn : m.bl.length + 1 ≤ 391 := by
        have : ¬ 392 ≤ m.cs.length := fun q => hne (Or.inr q)
        rw [cs_len] at this
        omega
      have hb : (newC l k (roomB m) vs).ba = m.nw.ba + 4 * ((m.nw.fr.length : Int) + 64) := by
        rw [← room_eq hc h]
        exact (setsR_same _ _ _).2.2.1
      have hf : (newC l k (roomB m) vs).fn = k := (setsR_same _ _ _).1
      have := h.push (new_cw hc k hk (roomB m) vs hv) ⟨j, hj, hjl, by rw [hxe]; exact h7, by rw [hxe, hf]; exact hz⟩ hb hn
      unfold ldC at this
      rw [hf] at this
      cases q : (fnO l k).qu with
      | true => rw [q] at this; simpa [Mc.cs] using this
      | false => rw [q] at this; simpa [Mc.cs] using this

theorem inl_inj {a b : Mc} (e : (Sum.inl a : Sx) = .inl b) : a = b := by injection e

theorem instr_ok (hc : chk l = true) (h : WF l m) {x : Lo} (hx : instrB l (fnO l m.nw.fn).rg x = true) (j : Nat) (hj : m.nw.nx = j + 1) (hjl : j < (blkO l m.nw).li.length) (hxe : (blkO l m.nw).li.getD j noLo = x) (e : instrS l m x = .inl m') : WF l m' := by
  have hw := h.cw
  unfold instrB at hx
  unfold instrS at e
  by_cases h1 : x.op = 1
  · simp [h1] at hx e
    subst e
    exact h.setN _ _ (rg_nat hc hw hx) (wd_in _)
  · by_cases h2 : x.op = 2
    · simp [h2] at hx e
      subst e
      exact h.setN _ _ (rg_nat hc hw hx.1) (hw.cw _)
    · by_cases h3 : x.op = 3
      · simp [h3] at hx e
        subst e
        exact h.setN _ _ (rg_nat hc hw hx.1.1.2) (dov_in _ _ _ (hw.cw _) (hw.cw _))
      · by_cases h4 : x.op = 4
        · simp [h4] at hx e
          subst e
          exact h.setN _ _ (rg_nat hc hw hx.1.2) (dov_in _ _ _ (hw.cw _) (wd_in _))
        · by_cases h5 : x.op = 5
          · simp [h5] at hx e
            split at e
            · cases e
            · have e := inl_inj e
              subst e
              exact h.setN _ _ (rg_nat hc hw hx.1.2) (h.ld32 _)
          · by_cases h6 : x.op = 6
            · simp [h6] at hx e
              split at e
              · cases e
              · rename_i p hp
                have e := inl_inj e
                subst e
                have hok := atL_ok hp
                obtain ⟨o, k⟩ := p
                cases o with
                | none =>
                  refine h.rest m.us _ m.ip m.out fun q => ?_
                  show I32 (if q = k then _ else m.wo q)
                  split
                  · exact hw.cw _
                  · exact h.wo q
                | some i => exact h.stF i k _ hok.1 hok.2 (hw.cw _)
            · by_cases h7 : x.op = 7
              · simp [h7] at hx e
                exact enter_ok hc h hx j hj hjl hxe h7 (fun v hv => by
                  obtain ⟨r, _, rfl⟩ := List.mem_map.1 hv
                  exact hw.cw r) e
              · by_cases h8 : x.op = 8
                · simp [h8] at hx e
                  subst e
                  exact h.rest m.us m.wo m.ip _ h.wo
                · by_cases h9 : x.op = 9
                  · simp [h9] at hx e
                    subst e
                    exact (h.rest m.us m.wo m.ip.tail m.out h.wo).setN _ _ (rg_nat hc hw hx) (wd_in _)
                  · by_cases h10 : x.op = 10
                    · simp [h10] at hx e
                      split at e
                      · have e := inl_inj e
                        subst e
                        exact (h.rest _ m.wo m.ip m.out h.wo).setN _ _ (rg_nat hc hw hx.2) (wd_in _)
                      · cases e
                    · by_cases h11 : x.op = 11
                      · simp [h11] at hx e
                        split at e
                        · have e := inl_inj e
                          subst e
                          exact h.rest _ m.wo m.ip m.out h.wo
                        · cases e
                      · simp [h1, h2, h3, h4, h5, h6, h7, h8, h9, h10, h11] at hx

theorem goC_ok (h : WF l m) (b : Int) (hb : toB (fnO l m.nw.fn).bs.length b = true) : WF l { m with nw := goC m.nw b } := by
  unfold toB at hb
  simp only [Bool.and_eq_true, decide_eq_true_eq] at hb
  have hw := h.cw
  exact h.nw (c := goC m.nw b) ⟨hw.fn, by show b.toNat < (fnO l m.nw.fn).bs.length; omega, hw.rg, hw.fr, Nat.zero_le _, hw.rI, hw.fI⟩ rfl rfl

theorem term_ok (hc : chk l = true) (h : WF l m) {t : Le} (ht : termB (fnO l m.nw.fn).rg (fnO l m.nw.fn).an (fnO l m.nw.fn).bs.length t = true) (e : termS l m t = .inl m') : WF l m' := by
  have hw := h.cw
  unfold termB at ht
  unfold termS at e
  by_cases h1 : t.k = 1
  · simp [h1] at ht e
    subst e
    exact goC_ok h _ ht
  · by_cases h2 : t.k = 2
    · simp [h2] at ht e
      subst e
      refine goC_ok h _ ?_
      split
      · exact ht.1.2
      · exact ht.2
    · by_cases h3 : t.k = 3
      · simp [h3] at ht e
        split at e
        · cases e
        · rename_i m2 hm
          have e := inl_inj e
          subst e
          unfold leaveS at hm
          simp only at hm
          split at hm
          · cases hm
          · rename_i c hl
            have hm := Option.some.inj hm
            subst hm
            have hbl : m.bl = m.bl.dropLast ++ [c] := by
              have hne : m.bl ≠ [] := fun q => by rw [q] at hl; cases hl
              have := List.dropLast_concat_getLast hne
              have h9 : m.bl.getLast? = some (m.bl.getLast hne) := List.getLast?_eq_some_getLast hne
              rw [h9] at hl
              rw [Option.some.inj hl] at this
              exact this.symm
            have el : m.bl.length = m.bl.dropLast.length + 1 := by
              have := congrArg List.length hbl
              simpa using this
            have ec : callAt m m.bl.dropLast.length = c := by
              rw [at_lt m _ (by omega)]
              have := congrArg (·[m.bl.dropLast.length]?) hbl
              simp only [List.getElem?_append_right (Nat.le_refl _), Nat.sub_self, List.getElem?_cons_zero] at this
              rw [List.getElem?_eq_getElem (by omega)] at this
              exact Option.some.inj this
            have hcc := h.c m.bl.dropLast.length (by omega)
            have hlk := h.k m.bl.dropLast.length (by omega)
            rw [ec] at hcc hlk
            obtain ⟨j, j1, j2, j3, j4⟩ := hlk
            have hmem : (blkO l c).li.getD j noLo ∈ (blkO l c).li := by rw [List.getD_eq_getElem?_getD, List.getElem?_eq_getElem j2]; exact List.getElem_mem j2
            have hib := (ck_blk hc hcc).1 _ hmem
            have hib : callB l (fnO l c.fn).rg ((blkO l c).li.getD j noLo) = true := by
              generalize (blkO l c).li.getD j noLo = x at hib j3
              unfold instrB at hib
              simpa [j3] using hib
            have hset := (callB_regs hib).2
            have hcw : CW l (setsR c ((blkO l c).li.getD (c.nx - 1) noLo).dsts (t.args.map (cw m.nw))) := by
              rw [j1, Nat.add_sub_cancel]
              refine hcc.sets _ _ (fun r hr => ?_) fun v hv => ?_
              · unfold setsB at hset
                exact rg_nat hc hcc (List.all_eq_true.1 hset r (by simpa using hr))
              · obtain ⟨r, _, rfl⟩ := List.mem_map.1 hv
                exact hw.cw r
            have := h.pop hbl hcw (setsR_same _ _ _).1 (setsR_same _ _ _).2.2.1
            unfold ldC at this
            cases q : (fnO l m.nw.fn).qu with
            | true => rw [q] at this; simpa using this
            | false => rw [q] at this; simpa using this
      · simp [h1, h2, h3] at e

theorem step_ok (hc : chk l = true) (h : WF l m) (e : stepS l m = .inl m') : WF l m' := by
  obtain ⟨c1, c2⟩ := ck_blk hc h.cw
  unfold stepS at e
  split at e
  · exact term_ok hc h c2 e
  · rename_i hne
    obtain ⟨n1, n2⟩ := next_in h hne
    exact instr_ok hc n2 (c1 _ n1) m.nw.nx rfl (by show m.nw.nx < (blkO l m.nw).li.length; omega) rfl e
end
end Go.Proofs.YtapgaclonilnbaaDoor
