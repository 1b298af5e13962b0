/-
  Proved: firstOf asks functions one behind the other, till something is wrong; each asks of every element of a list, till something is wrong.
-/
import Derived.Test.YtjdkoahbahecoaaGreatDoorNType
namespace Go.Proofs.YtjdkoahbahecoaaGreatDoor
open Go.RowKit

/-- An error of the program's own type, or none. -/
def errV : Option (Int × Int) → Value
  | none => .nilIface
  | some (a, e) => .iface 47 (.agg #[.int .i64 a, .int .i64 e])

/-- The first answer, from the k-th on, of m. -/
def fo (R : Nat → Option (Int × Int)) : Nat → Nat → Option (Int × Int)
  | _, 0 => none
  | k, m + 1 => match R k with
    | some e => some e
    | none => fo R (k + 1) m

theorem fo_none {R : Nat → Option (Int × Int)} : ∀ {m k : Nat}, fo R k m = none ↔ ∀ j, k ≤ j → j < k + m → R j = none
  | 0, k => by simp [fo]; intro j h1 h2; omega
  | m + 1, k => by
    rw [fo]
    cases hk : R k with
    | some e => 
      simp only [reduceCtorEq, false_iff]
      intro h
      have := h k (Nat.le_refl _) (by omega)
      rw [hk] at this
      cases this
    | none =>
      simp only
      rw [fo_none]
      refine ⟨fun h j h1 h2 => ?_, fun h j h1 h2 => h j (by omega) (by omega)⟩
      rcases Nat.eq_or_lt_of_le h1 with rfl | h3
      · exact hk
      · exact h j h3 (by omega)

theorem fo_step {R : Nat → Option (Int × Int)} {k n : Nat} (h : k < n) : fo R k (n - k) = (R k).or (fo R (k + 1) (n - (k + 1))) := by
  rw [show n - k = (n - (k + 1)) + 1 by omega, fo]
  cases R k <;> rfl

/-- A function value. -/
structure Fv where
  g : Nat
  bnd : Array Value
  cap : Array Value

def Fv.v (f : Fv) : Value := .func (.func f.g) f.bnd f.cap

theorem ask_any (f : Fv) (eg : ∀ args w, (callFunc f.g args).run Tryz.prog w = .ok (.enter f.g args) w) (v : Value) (K : World → Prop) (w : World) (h : Calls Tryz.prog f.g (f.bnd ++ f.cap) w fun e w' => e = .returned v ∧ K w') :
    Calls Tryz.prog 51 #[f.v] w fun e w' => e = .returned v ∧ K w' := by
  obtain ⟨g, bnd, cap⟩ := f
  simp only at eg h
  have H : Hid (Calls Tryz.prog g (bnd ++ cap) w fun e w' => e = .returned v ∧ K w') := h
  clear h
  unfold Fv.v
  go_enter Tryz.func51, Tryz.ntmps51
  go_wp2
  refine H.out.mono ?_
  rintro e w1 ⟨rfl, hk⟩
  go_wp2
  go_ret
  exact ⟨rfl, hk⟩

set_option maxHeartbeats 1000000 in
theorem eachFunc_c (fs : List Fv) (hl : fs.length ≤ 9223372036854775807) (hE : ∀ f ∈ fs, ∀ args w, (callFunc f.g args).run Tryz.prog w = .ok (.enter f.g args) w) (G o C : Nat) (R : Nat → Option (Int × Int)) (I : Nat → World → Prop) (K : World → Prop) (w : World)
    (hrow : ∀ k wr, I k wr → ∀ j (h : j < fs.length), wr.cell? ⟨G, o + j, none⟩ = some (fs[j]'h).v) (hK : ∀ k wr, I k wr → K wr)
    (hstep : ∀ k (h : k < fs.length) wr, I k wr → Calls Tryz.prog (fs[k]'h).g ((fs[k]'h).bnd ++ (fs[k]'h).cap) wr fun e w' => e = .returned (errV (R k)) ∧ K w' ∧ (R k = none → I (k + 1) w')) (h0 : I 0 w) :
    Calls Tryz.prog 50 #[.slice (some ⟨G, o, none⟩) fs.length C, .func (.func 51) #[] #[]] w fun e w' => e = .returned (errV (fo R 0 fs.length)) ∧ K w' ∧ (fo R 0 fs.length = none → I fs.length w') := by
  generalize hX : fo R 0 fs.length = X
  have HX : Hid (fo R 0 (fs.length - 0) = X) := hX
  have HROW : Hid (∀ k wr, I k wr → ∀ j (h : j < fs.length), wr.cell? ⟨G, o + j, none⟩ = some (fs[j]'h).v) := hrow
  have HK : Hid (∀ k wr, I k wr → K wr) := hK
  have HS : Hid (∀ k (h : k < fs.length) wr, I k wr → Calls Tryz.prog 51 #[(fs[k]'h).v] wr fun e w' => e = .returned (errV (R k)) ∧ K w' ∧ (R k = none → I (k + 1) w')) := fun k h wr hi =>
    ask_any _ (hE _ (List.getElem_mem h)) _ _ wr (hstep k h wr hi)
  have H0 : Hid (I 0 w) := h0
  clear hX hrow hK hstep h0 hE
  go_enter Tryz.func50, Tryz.ntmps50
  go_wp2
  go_loopw [10] (fun i wr => ∃ k : Nat, k ≤ fs.length ∧ i = .int .i64 (k : Int) ∧ fo R k (fs.length - k) = X ∧ I k wr) (fun i _ => fs.length - (intOf i).toNat)
  case atStart => exact ⟨0, Nat.zero_le _, rfl, HX.out, H0.out⟩
  case round =>
    obtain ⟨k, hk, rfl, hr, hi⟩ := hrel
    have HR : Hid (fo R k (fs.length - k) = X) := hr
    have HI : Hid (I k wr) := hi
    clear hr hi
    by_cases hlt : k < fs.length
    · have c0 := HROW.out k wr HI.out k hlt
      have SC := HS.out k hlt wr HI.out
      have hfs := fo_step (R := R) hlt
      generalize (fs[k]'hlt).v = fv at c0 SC
      generalize hRk : R k = rk at SC hfs
      have SCH : Hid (Calls Tryz.prog 51 #[fv] wr fun e w' => e = .returned (errV rk) ∧ K w' ∧ (rk = none → I (k + 1) w')) := SC
      have HF : Hid (fo R k (fs.length - k) = rk.or (fo R (k + 1) (fs.length - (k + 1)))) := hfs
      have hlt' : (k : Int) < (fs.length : Int) := by omega
      clear SC hfs hRk
      cases rk with
      | none =>
        simp only [errV] at SCH
        go_wp2_with (go_at_call 51; refine SCH.out.mono ?_; rintro e w1 ⟨rfl, hk1, hi1⟩; have HI1 : Hid (I (k + 1) w1) := hi1 (by trivial); clear hi1 hk1)
        go_roundw
        case rel => exact ⟨k + 1, by omega, by go_num, by rw [← HR.out, HF.out]; rfl, HI1.out⟩
        case measure => simp [intOf]; omega
      | some ae =>
        obtain ⟨a, e⟩ := ae
        simp only [errV] at SCH
        go_wp2_with (go_at_call 51; refine SCH.out.mono ?_; rintro e w1 ⟨rfl, hk1, hi1⟩; have HK1 : Hid (K w1) := hk1; clear hi1 hk1)
        go_ret
        have hx : X = some (a, e) := by rw [← HR.out, HF.out]; rfl
        subst hx
        exact ⟨rfl, HK1.out, fun h => by cases h⟩
    · go_wp2
      go_ret
      obtain rfl : k = fs.length := by omega
      have hx : X = none := by rw [← HR.out, Nat.sub_self, fo]
      subst hx
      exact ⟨rfl, HK.out _ _ HI.out, fun _ => HI.out⟩

theorem firstOf_c (fs : List Fv) (hl : fs.length ≤ 9223372036854775807) (hE : ∀ f ∈ fs, ∀ args w, (callFunc f.g args).run Tryz.prog w = .ok (.enter f.g args) w) (G o C : Nat) (R : Nat → Option (Int × Int)) (I : Nat → World → Prop) (K : World → Prop) (w : World)
    (hrow : ∀ k wr, I k wr → ∀ j (h : j < fs.length), wr.cell? ⟨G, o + j, none⟩ = some (fs[j]'h).v) (hK : ∀ k wr, I k wr → K wr)
    (hstep : ∀ k (h : k < fs.length) wr, I k wr → Calls Tryz.prog (fs[k]'h).g ((fs[k]'h).bnd ++ (fs[k]'h).cap) wr fun e w' => e = .returned (errV (R k)) ∧ K w' ∧ (R k = none → I (k + 1) w')) (h0 : I 0 w) :
    Calls Tryz.prog 28 #[.slice (some ⟨G, o, none⟩) fs.length C] w fun e w' => e = .returned (errV (fo R 0 fs.length)) ∧ K w' ∧ (fo R 0 fs.length = none → I fs.length w') := by
  have H := eachFunc_c fs hl hE G o C R I K w hrow hK hstep h0
  generalize fo R 0 fs.length = X at H
  have HH : Hid (Calls Tryz.prog 50 #[.slice (some ⟨G, o, none⟩) fs.length C, .func (.func 51) #[] #[]] w fun e w' => e = .returned (errV X) ∧ K w' ∧ (X = none → I fs.length w')) := H
  clear H hrow hK hstep h0 hE
  generalize errV X = V at HH
  go_enter Tryz.func28, Tryz.ntmps28
  go_wp2_with (go_at_call 50; refine HH.out.mono ?_; rintro e w1 ⟨rfl, hk1, hi1⟩; have HK1 : Hid (K w1 ∧ (X = none → I fs.length w1)) := ⟨hk1, hi1⟩; clear hi1 hk1)
  go_ret
  exact ⟨rfl, HK1.out⟩

end Go.Proofs.YtjdkoahbahecoaaGreatDoor
