/-
  Proved: what an instruction does to the machine.
-/
import Derived.Test.YtapgaclonilnbaaDoorLlea
import Derived.Test.YtapgaclonilnbaaDoorLpn
import Derived.Test.YtapgaclonilnbaaDoorLw5
namespace Go.Proofs.YtapgaclonilnbaaDoor
open Go.RowKit Go.Maps Go.WideShapes Go.WideMaps
set_option maxRecDepth 20000
set_option linter.unusedVariables false
set_option linter.unusedSimpArgs false

/-- What comes of a step's part. -/
def Res (X : Cx) (out : List Int) (st : Int) (r : Sx) (e : Ending) (w' : World) : Prop :=
  match r with
  | .inl m' => e = .returned (.tuple #[]) ∧ ∃ L, MS X m' st L w'
  | .inr k => e = .panicked [{ v := endV k.1 k.2, recovered := false }] ∧ ∃ z nv L, z.out = out ∧ MX X z nv st L w'

section
variable {X : Cx} {m : Mc} {st : Int} {L : Ly} {w w' : World} {x : Lo} {ib io : Nat} {av dv : Value}

/-- The cells that an instruction reads. -/
def SI (X : Cx) (pn ib io : Nat) (x : Lo) (av dv : Value) (w' : World) : Prop :=
  w'.cell? ⟨X.R, 7, none⟩ = some (.pointer (some ⟨pn, 0, none⟩)) ∧ w'.cell? ⟨ib, io + 1, none⟩ = some (.int .i64 x.d) ∧ w'.cell? ⟨ib, io + 2, none⟩ = some (.int .i64 x.a) ∧ w'.cell? ⟨ib, io + 3, none⟩ = some (.int .i64 x.b) ∧ w'.cell? ⟨ib, io + 4, none⟩ = some (.int .i64 x.n) ∧ w'.cell? ⟨ib, io + 5, none⟩ = some (.string x.tx) ∧ w'.cell? ⟨ib, io + 6, none⟩ = some av ∧ w'.cell? ⟨ib, io + 7, none⟩ = some dv

theorem MS.si (h : MS X m st L w) (hx : RowAt X.wz ib io (loC x av dv)) : SI X (L.pb m.bl.length) ib io x av dv w := by
  have c := fun j v (e : (loC x av dv)[j]? = some v) => (h.bz.cell (p := ⟨ib, io + j, none⟩) hx.1).trans (hx.at j e)
  exact ⟨h.rr.cell 7 (by omega), c 1 _ rfl, c 2 _ rfl, c 3 _ rfl, c 4 _ rfl, c 5 _ rfl, c 6 _ rfl, c 7 _ rfl⟩
theorem SI.below {pn : Nat} (h : SI X pn ib io x av dv w) (k : Below w.heap.size w w') : SI X pn ib io x av dv w' := by
  obtain ⟨h0, h1, h2, h3, h4, h5, h6, h7⟩ := h
  have c := fun (p : Addr) v (e : w.cell? p = some v) => (k.cell (p := p) (World.block_lt_of_cell? _ _ e)).trans e
  exact ⟨c _ _ h0, c _ _ h1, c _ _ h2, c _ _ h3, c _ _ h4, c _ _ h5, c _ _ h6, c _ _ h7⟩
theorem rdB_bg {n r : Int} (h : rdB n r = true) : bgB n r = true := by unfold bgB; rw [h]; simp
theorem rg_lt {n r : Int} (h : rgB n r = true) : 0 ≤ r ∧ r < n := by
  unfold rgB at h
  simp only [Bool.and_eq_true, decide_eq_true_eq] at h
  exact h

/-- A word that there is. -/
def LocOk (m : Mc) : Option Nat × Nat → Prop
  | (none, k) => k < 2816
  | (some i, k) => i ≤ m.bl.length ∧ k < (callAt m i).fr.length

theorem atL_ok {m : Mc} {a : Int} {p : Option Nat × Nat} (h : atL m a = some p) : LocOk m p := by
  unfold atL at h
  split at h
  · rename_i q
    injection h with h
    subst h
    have := at_in q.2
    show ((a - 262144) / 4).toNat < 2816
    omega
  · split at h
    · cases h
    · split at h
      · rename_i q1 q2 q3
        injection h with h
        subst h
        have : nAr m.cs a ≤ m.cs.length := List.findIdx_le_length
        rw [cs_len] at this
        refine ⟨by omega, ?_⟩
        have := nAr_le m a (nAr m.cs a - 1) (by omega) (by omega)
        omega
      · cases h

theorem loc_ptr (X : Cx) (L : Ly) (p : Option Nat × Nat) : ∃ ab ao, locV X L p = .pointer (some ⟨ab, ao, none⟩) ∧ ∀ m st w, MS X m st L w → LocOk m p → w.cell? ⟨ab, ao, none⟩ = some (.int .i32 (ldL m p)) ∧ w.frozen? ⟨ab, ao, none⟩ = false ∧ ∀ v, MS X (stL m v p) st L (w.setCell ⟨ab, ao, none⟩ (.int .i32 v)) := by
  obtain ⟨o, k⟩ := p
  cases o with
  | none => exact ⟨_, _, rfl, fun m st w h hk => ⟨by have := h.rr.cell (10 + k) (by have : k < 2816 := hk; omega); rw [show 10 + k = k + 10 by omega] at this ⊢; exact this, h.rr.frozen _, fun v => h.word k hk v⟩⟩
  | some i => exact ⟨_, _, rfl, fun m st w h hk => ⟨GZ.cell (h.at i hk.1).f k hk.2, GZ.frozen (h.at i hk.1).f k, fun v => h.frame i hk.1 k hk.2 v⟩⟩

theorem MapS.look1 {w : World} {b n : Nat} {f : Tx → Option Int} (h : MapS w b n f) {x : ByteArray} (hx : x.size ≤ maxLen) : (Instr.lookup 50 (.map (some b)) (.string x) false).run Tryd.prog w = .ok (.int .i64 ((f x.data.toList).getD 0)) w := by
  obtain ⟨D, h1, _, h2⟩ := h
  obtain ⟨c, hr, ha, _⟩ := h1.lookup_int lawS Tryd.underlying50 Tryd.underlying3 (zeroSI w) (keyOf_string_mk Tryd.underlying9 hx)
  rw [(h2 x.data.toList).2] at ha
  injection ha with ha
  injection ha with _ ha
  rw [hr, ← ha]

/-- The cells that a call reads. -/
def S7 (X : Cx) (pn ib io : Nat) (x : Lo) (av dv : Value) (w' : World) : Prop := SI X pn ib io x av dv w' ∧ w'.cell? ⟨X.R, 0, none⟩ = some (.slice X.lA X.l.length X.lC) ∧ w'.cell? ⟨X.R, 1, none⟩ = some (.map (some X.mb)) ∧ MapS w' X.mb X.mn (byN X.l)

/-- One call more. -/
theorem enter_ms (h : MS X m st L w) (k : Nat) (hk : k < X.l.length) (rg fr : Nat) (hrgE : X.l[k].rg = (rg : Int)) (hfrE : X.l[k].fr = (fr : Int)) (hrg : rg ≤ 65536) (hfr : fr ≤ 65536) (hnf : m.nw.fr.length ≤ 65536)
    (vs : List Int) (av : Value) (ha : AIn X w vs av) (hlen : X.l[k].pa.length = vs.length) (hl8 : vs.length ≤ 8) (hpa : ∀ r ∈ X.l[k].pa, 0 ≤ r ∧ r < rg) (q : Bool) (hq : X.l[k].qu = q) (hld : q = false → ¬ 48 ≤ m.ld) (hldb : -1000 ≤ m.ld ∧ m.ld ≤ 1000) (hn : m.bl.length + 1 < 392) :
    Calls Tryd.prog 18 #[.pointer (some ⟨X.R, 0, none⟩), fpV X k, av] w fun e w' => e = .returned (.tuple #[]) ∧ ∃ L', MS X ⟨m.bl ++ [m.nw], setsR ⟨k, List.replicate rg 0, List.replicate fr 0, roomB m, 0, 0⟩ X.l[k].pa vs, m.us, m.wo, m.ip, m.out, if q then m.ld else m.ld + 1⟩ st L' w' := by
  have el : (hOf m).cs.length = m.bl.length + 1 := by simp
  have hRM : ∀ w', Below w.heap.size w w' → Calls Tryd.prog 24 #[.pointer (some ⟨X.R, 0, none⟩)] w' fun e w2 => e = .returned (.int .u32 (roomB m)) ∧ Below w'.heap.size w' w2 := fun w' hb => room_c (h.below hb) hnf
  cases q with
  | true =>
    refine (enter_true h.toX k hk rg fr hrgE hfrE hrg hfr (roomB m) hRM vs av ha hlen hl8 hpa hq hldb (by rw [el]; exact hn)).mono ?_
    rintro e w' ⟨rfl, L', p, rfl, hM⟩
    exact ⟨rfl, L', MX.toS hM⟩
  | false =>
    refine (enter_false h.toX k hk rg fr hrgE hfrE hrg hfr (roomB m) hRM vs av ha hlen hl8 hpa hq (hld rfl) hldb (by rw [el]; exact hn)).mono ?_
    rintro e w' ⟨rfl, L', p, rfl, hM⟩
    exact ⟨rfl, L', MX.toS hM⟩
end
end Go.Proofs.YtapgaclonilnbaaDoor
