/-
  Proved: the reference's Doms, by what can be come to without a block.
-/
import Derived.Test.YtmmgdiecmokipaaGfrom
namespace Go.Proofs.Ytmmgdiecmokipaa
open Go.RowKit

def iZ (x : Int) : List Value := [.int .i64 x]
theorem iZ_len (a : Int) : (iZ a).length = 1 := rfl
theorem iZ_one (a : Int) : ∀ u ∈ iZ a, u.oneCell' = true := by intro u hu; simp [iZ] at hu; subst hu; rfl

/-- A row of numbers of one's own, of any sign. -/
def OZ (base : Nat) (l : List Int) (v : Value) (w : World) : Prop := OwnB 3 1 iZ base l v w

theorem OZ.app {base : Nat} {l : List Int} (w : World) {ops : Array Oper} {rest : List Oper} {o : Oper} {a : Act} {Q : Exit → Act → World → Prop} (hgd : o.guard = none) (s x : Operand)
    (ho : o.op = .call { callee := .builtin .append, args := #[s, x], argTypes := #[28, 28] })
    (v : Value) (hs : a.eval s = v) (y : Int) (hown : OZ base l v w) (ad : Addr) (C : Nat) (hx : a.eval x = .slice (some ad) 1 C)
    (hc : ∀ j u, (iZ y)[j]? = some u → w.cell? (ad.add j) = some u) (hl : l.length ≤ 10000)
    (h : ∀ v' w', OZ base (l ++ [y]) v' w' → Below base w w' → (∀ k, k < w.heap.size → v.ownBlock ≠ some k → w'.heap[k]? = w.heap[k]?) → (∀ b, v'.ownBlock = some b → v.ownBlock = some b ∨ w.heap.size ≤ b) → wpList Try.prog ops Q rest (a.put o.dst v') w') : wpList Try.prog ops Q (o :: rest) a w :=
  OwnB.appendNL 28 3 iZ _ 1 8 infoInt Try.underlying28 rfl (by decide) (by decide) iZ_len iZ_one w hgd s x ho v hs y hown ad C hx hc hl h

theorem OZ.empty {base : Nat} {w : World} (h : base ≤ w.heap.size) : OZ base [] (.slice none 0 0) w := ⟨h, by simp, Or.inl ⟨rfl, rfl⟩⟩
theorem OZ.below {base : Nat} {l : List Int} {v : Value} {w w' : World} (h : OZ base l v w) (k : Below w.heap.size w w') : OZ base l v w' := OwnB.below h k
theorem OZ.shape {base : Nat} {l : List Int} {v : Value} {w : World} (h : OZ base l v w) : ∃ A C, v = .slice A l.length C ∧ (0 < l.length → ∃ B, A = some ⟨B, 0, none⟩ ∧ base ≤ B ∧ B < w.heap.size ∧ l.length ≤ C ∧ ∀ i (hi : i < l.length), w.cell? ⟨B, i, none⟩ = some (.int .i64 l[i])) := by
  obtain ⟨A, C, e, h1⟩ := OwnB.shape iZ_len h
  refine ⟨A, C, e, fun h2 => ?_⟩
  obtain ⟨B, e1, e2, e3, e4, e5⟩ := h1 h2
  refine ⟨B, e1, e2, e3, e4, fun i hi => ?_⟩
  have := RowsIn.cell (j := 0) (u := .int .i64 l[i]) e5 i hi rfl
  simpa using this

/-- Can it be come to, but not over e? -/
noncomputable def rb (n : Nat) (to : List (List Int)) (e : Int) (j : Nat) : Bool := @decide (Rch (wy n to) e j) (Classical.propDecidable _)

theorem rb_iff (n : Nat) (to : List (List Int)) (e : Int) (j : Nat) : rb n to e j = true ↔ Rch (wy n to) e j := by
  unfold rb
  exact @decide_eq_true_iff _ (Classical.propDecidable _)

theorem walk_rb (n : Nat) (wo : Int) (to : List (List Int)) (tv : Value) (w : World) (h : RwsIn w to tv) (hf : Fw to) (hn : n ≤ 1000) :
    Calls Try.prog 21 #[.int .i64 (n : Int), tv, .int .i64 wo] w fun e w' => e = .returned (.slice (some ⟨w.heap.size, 0, none⟩) n n) ∧ Below w.heap.size w w' ∧ w.heap.size < w'.heap.size ∧ ∀ j, j < n → w'.cell? ⟨w.heap.size, j, none⟩ = some (.bool (rb n to wo j)) := by
  refine (walk_c n wo to tv w h hf hn).mono ?_
  rintro e w' ⟨rfl, hB, p, hR, hp⟩
  refine ⟨rfl, hB, hR.lt, fun j hj => ?_⟩
  rw [hR.cell j hj]
  congr 2
  rcases Bool.eq_false_or_eq_true (p j) with h1 | h1
  · rw [h1, (rb_iff _ _ _ _).2 ((hp j hj).1 h1)]
  · rw [h1]
    rcases Bool.eq_false_or_eq_true (rb n to wo j) with h2 | h2
    · have := (hp j hj).2 ((rb_iff _ _ _ _).1 h2)
      rw [h1] at this
      cases this
    · exact h2.symm

theorem reach_c (n : Nat) (to : List (List Int)) (tv : Value) (w : World) (h : RwsIn w to tv) (hf : Fw to) (hn : n ≤ 1000) :
    Calls Try.prog 9 #[.int .i64 (n : Int), tv] w fun e w' => e = .returned (.slice (some ⟨w.heap.size, 0, none⟩) n n) ∧ Below w.heap.size w w' ∧ w.heap.size < w'.heap.size ∧ ∀ j, j < n → w'.cell? ⟨w.heap.size, j, none⟩ = some (.bool (rb n to (-1) j)) := by
  have WC := walk_rb n (-1) to tv w h hf hn
  obtain ⟨A, C, rfl, -⟩ := h
  have WH : Hid (Calls Try.prog 21 #[.int .i64 (n : Int), .slice A to.length C, .int .i64 (-1)] w fun e w' => e = .returned (.slice (some ⟨w.heap.size, 0, none⟩) n n) ∧ Below w.heap.size w w' ∧ w.heap.size < w'.heap.size ∧ ∀ j, j < n → w'.cell? ⟨w.heap.size, j, none⟩ = some (.bool (rb n to (-1) j))) := WC
  clear WC
  go_enter Try.func9, Try.ntmps9
  go_wp2_with (go_at_call 21; refine WH.out.mono ?_; rintro e w1 ⟨rfl, h1, h2, h3⟩; have N1 : Hid (Below w.heap.size w w1 ∧ w.heap.size < w1.heap.size ∧ ∀ j, j < n → w1.cell? ⟨w.heap.size, j, none⟩ = some (.bool (rb n to (-1) j))) := ⟨h1, h2, h3⟩; clear h1 h2 h3)
  go_ret
  exact ⟨rfl, N1.out⟩

/-- How many of the first e stand on every way to d. -/
noncomputable def cnT (n : Nat) (to : List (List Int)) (d : Nat) : Nat → Nat
  | 0 => 0
  | e + 1 => cnT n to d e + if e ≠ d ∧ rb n to (-1) e = true ∧ rb n to (e : Int) d = false then 1 else 0

/-- Does d stand on every way to i? -/
def isD (n : Nat) (to : List (List Int)) (i d : Nat) : Prop := d ≠ i ∧ rb n to (-1) d = true ∧ rb n to (d : Int) i = false

/-- The best of the first d, and how many stand on every way to it. -/
noncomputable def dmT (n : Nat) (to : List (List Int)) (i : Nat) : Nat → Int × Int
  | 0 => (-1, -1)
  | d + 1 => @ite _ (isD n to i d ∧ (dmT n to i d).2 < (cnT n to d n : Int)) (Classical.propDecidable _) ((d : Int), (cnT n to d n : Int)) (dmT n to i d)

noncomputable def dm (n : Nat) (to : List (List Int)) (i : Nat) : Int := if 0 < i ∧ rb n to (-1) i = true then (dmT n to i n).1 else -1

theorem cnT_le (n : Nat) (to : List (List Int)) (d e : Nat) : cnT n to d e ≤ e := by
  induction e with
  | zero => exact Nat.le_refl _
  | succ e ih => simp only [cnT]; split <;> omega

theorem dmT_yes (n : Nat) (to : List (List Int)) (i d : Nat) (h : isD n to i d) (h2 : (dmT n to i d).2 < (cnT n to d n : Int)) : dmT n to i (d + 1) = ((d : Int), (cnT n to d n : Int)) := by
  rw [dmT]; exact if_pos ⟨h, h2⟩
theorem dmT_no (n : Nat) (to : List (List Int)) (i d : Nat) (h : ¬ (isD n to i d ∧ (dmT n to i d).2 < (cnT n to d n : Int))) : dmT n to i (d + 1) = dmT n to i d := by
  rw [dmT]; exact if_neg h

theorem dmT_le (n : Nat) (to : List (List Int)) (i d : Nat) : -1 ≤ (dmT n to i d).2 ∧ (dmT n to i d).2 ≤ n ∧ -1 ≤ (dmT n to i d).1 ∧ (dmT n to i d).1 < d ∨ d = 0 := by
  induction d with
  | zero => exact Or.inr rfl
  | succ d ih =>
    left
    by_cases h : isD n to i d ∧ (dmT n to i d).2 < (cnT n to d n : Int)
    · rw [dmT_yes n to i d h.1 h.2]
      have := cnT_le n to d n
      refine ⟨?_, ?_, ?_, ?_⟩ <;> simp only <;> omega
    · rw [dmT_no n to i d h]
      rcases ih with ⟨h1, h2, h3, h4⟩ | h1
      · refine ⟨h1, h2, h3, by omega⟩
      · subst h1
        refine ⟨?_, ?_, ?_, ?_⟩ <;> simp only [dmT] <;> omega

set_option maxRecDepth 20000 in
set_option maxHeartbeats 4000000 in
theorem doms_c (n : Nat) (to : List (List Int)) (tv : Value) (w : World) (h : RwsIn w to tv) (hf : Fw to) (hn : n ≤ 1000) :
    Calls Try.prog 16 #[.int .i64 (n : Int), tv] w fun e w' => ∃ v, e = .returned v ∧ OZ w.heap.size ((List.range n).map (dm n to)) v w' ∧ Below w.heap.size w w' := by
  have TI : Hid (RwsIn w to tv) := h
  have RC := reach_c n to tv w h hf hn
  obtain ⟨A, C, rfl, -⟩ := h
  have RH : Hid (Calls Try.prog 9 #[.int .i64 (n : Int), .slice A to.length C] w fun e w' => e = .returned (.slice (some ⟨w.heap.size, 0, none⟩) n n) ∧ Below w.heap.size w w' ∧ w.heap.size < w'.heap.size ∧ ∀ j, j < n → w'.cell? ⟨w.heap.size, j, none⟩ = some (.bool (rb n to (-1) j))) := RC
  have FW : Hid (Fw to) := hf
  clear hf RC
  have WH : Hid (∀ (wo : Nat) W, Below w.heap.size w W → Calls Try.prog 21 #[.int .i64 (n : Int), .slice A to.length C, .int .i64 (wo : Int)] W fun e w' => e = .returned (.slice (some ⟨W.heap.size, 0, none⟩) n n) ∧ Below W.heap.size W w' ∧ W.heap.size < w'.heap.size ∧ ∀ j, j < n → w'.cell? ⟨W.heap.size, j, none⟩ = some (.bool (rb n to (wo : Int) j))) := fun wo W hW => walk_rb n wo to _ W (TI.out.below hW) FW.out hn
  go_enter Try.func16, Try.ntmps16
  go_wp2_with (go_at_call 9; refine RH.out.mono ?_; rintro e w1 ⟨rfl, h1, h2, h3⟩; have N1 : Hid (Below w.heap.size w w1) := h1; have S1 : Hid (w.heap.size < w1.heap.size) := h2; have C1 : Hid (∀ j, j < n → w1.cell? ⟨w.heap.size, j, none⟩ = some (.bool (rb n to (-1) j))) := h3; clear h1 h2 h3)
  go_loopw [5, 7] (fun ov iv wr => ∃ i : Nat, i ≤ n ∧ iv = .int .i64 (i : Int) ∧ OZ w1.heap.size ((List.range i).map (dm n to)) ov wr ∧ Below w1.heap.size w1 wr) (fun _ iv _ => n - (intOf iv).toNat)
  case atStart => exact ⟨0, by omega, rfl, OZ.empty (Nat.le_refl _), Below.refl _ _⟩
  case round =>
    obtain ⟨i, hi, rfl, hO, hB⟩ := hrel
    have O1 : Hid (OZ w1.heap.size ((List.range i).map (dm n to)) _ wr) := hO
    have N2 : Hid (Below w1.heap.size w1 wr) := hB
    obtain ⟨Ao, Co, eo, -⟩ := hO.shape
    have LL : Hid (((List.range i).map (dm n to)).length ≤ 10000) := (by rw [List.length_map, List.length_range]; omega : ((List.range i).map (dm n to)).length ≤ 10000)
    have E4 : Hid ((List.range (i + 1)).map (dm n to) = (List.range i).map (dm n to) ++ [dm n to i]) := range_snoc _ _
    generalize hM : (List.range i).map (dm n to) = M at *
    have HM : Hid ((List.range i).map (dm n to) = M) := hM
    clear hM
    subst eo
    clear hO hB
    have CW : Hid (∀ W, Below wr.heap.size wr W → ∀ j, j < n → W.cell? ⟨w.heap.size, j, none⟩ = some (.bool (rb n to (-1) j))) := fun W hW j hj => ((below_next N2.out hW).cell (p := ⟨w.heap.size, j, none⟩) S1.out).trans (C1.out j hj)
    have BW : Hid (∀ W, Below wr.heap.size wr W → Below w.heap.size w W) := fun W hW => below_next N1.out (below_next N2.out hW)
    rcases Nat.lt_or_ge i n with hi' | hi'
    · have hiz : (i : Int) < n := by omega
      by_cases hact : 0 < i ∧ rb n to (-1) i = true
      · have DM : Hid (dm n to i = (dmT n to i n).1) := (by rw [dm, if_pos hact] : dm n to i = (dmT n to i n).1)
        have hi0 : (i : Int) > 0 := by omega
        have RI : Hid (rb n to (-1) i = true) := hact.2
        clear hact
        go_wp2
        go_loopw [8, 9, 10] (fun bv cv dv wz => ∃ d : Nat, d ≤ n ∧ dv = .int .i64 (d : Int) ∧ bv = .int .i64 (dmT n to i d).1 ∧ cv = .int .i64 (dmT n to i d).2 ∧ Below wr.heap.size wr wz) (fun _ _ dv _ => n - (intOf dv).toNat)
        case atStart => exact ⟨0, by omega, rfl, rfl, rfl, Below.refl _ _⟩
        case round =>
          rename World => wz
          obtain ⟨d, hd, rfl, rfl, rfl, hBz⟩ := hrel
          have N3 : Hid (Below wr.heap.size wr wz) := hBz
          have ci := CW.out wz hBz i hi'
          rw [RI.out] at ci
          clear hBz
          rcases Nat.lt_or_ge d n with hd' | hd'
          · have hdz : (d : Int) < n := by omega
            have cd := CW.out wz N3.out d hd'
            have DN : Hid (¬ (isD n to i d ∧ (dmT n to i d).2 < (cnT n to d n : Int)) → dmT n to i (d + 1) = dmT n to i d) := dmT_no n to i d
            have DY : Hid (isD n to i d → (dmT n to i d).2 < (cnT n to d n : Int) → dmT n to i (d + 1) = ((d : Int), (cnT n to d n : Int))) := dmT_yes n to i d
            by_cases q1 : d = i
            · have q1z : ((d : Int) == (i : Int)) = true := by simp [q1]
              have E5 : Hid (dmT n to i (d + 1) = dmT n to i d) := DN.out fun h => h.1.1 q1
              clear q1
              go_wp2
              go_roundw
              case rel => exact ⟨d + 1, by omega, by go_num, by rw [E5.out], by rw [E5.out], N3.out⟩
              case measure => simp [intOf]; omega
            · have q1z : ((d : Int) == (i : Int)) = false := by simp; omega
              rcases Bool.eq_false_or_eq_true (rb n to (-1) d) with q2 | q2
              · rw [q2] at cd
                have WD := WH.out d wz (BW.out _ N3.out)
                have WD2 : Hid (Calls Try.prog 21 #[.int .i64 (n : Int), .slice A to.length C, .int .i64 (d : Int)] wz fun e w' => e = .returned (.slice (some ⟨wz.heap.size, 0, none⟩) n n) ∧ Below wz.heap.size wz w' ∧ w'.cell? ⟨wz.heap.size, i, none⟩ = some (.bool (rb n to (d : Int) i))) := WD.mono fun e w' h => ⟨h.1, h.2.1, h.2.2.2 i hi'⟩
                clear WD
                rcases Bool.eq_false_or_eq_true (rb n to (d : Int) i) with q3 | q3
                · have E5 : Hid (dmT n to i (d + 1) = dmT n to i d) := DN.out fun h => by have := h.1.2.2; rw [q3] at this; cases this
                  rw [q3] at WD2
                  clear q2 q3
                  go_wp2_with (go_at_call 21; refine WD2.out.mono ?_; rintro e w4 ⟨rfl, h1, h2⟩; have N4 : Hid (Below wr.heap.size wr w4) := below_next N3.out h1; clear h1)
                  go_roundw
                  case rel => exact ⟨d + 1, by omega, by go_num, by rw [E5.out], by rw [E5.out], N4.out⟩
                  case measure => simp [intOf]; omega
                · have ID : Hid (isD n to i d) := ⟨q1, q2, q3⟩
                  rw [q3] at WD2
                  clear q2 q3
                  go_wp2_with (go_at_call 21; refine WD2.out.mono ?_; rintro e w4 ⟨rfl, h1, h2⟩; have N4 : Hid (Below wr.heap.size wr w4) := below_next N3.out h1; clear h1)
                  go_loopw [11, 12] (fun kv ev wy => ∃ e : Nat, e ≤ n ∧ ev = .int .i64 (e : Int) ∧ kv = .int .i64 (cnT n to d e : Int) ∧ Below wr.heap.size wr wy) (fun _ ev _ => n - (intOf ev).toNat)
                  case atStart => exact ⟨0, by omega, rfl, rfl, N4.out⟩
                  case round =>
                    rename World => wy
                    obtain ⟨e, he, rfl, rfl, hBy⟩ := hrel
                    have N5 : Hid (Below wr.heap.size wr wy) := hBy
                    have CL := cnT_le n to d e
                    clear hBy
                    rcases Nat.lt_or_ge e n with he' | he'
                    · have hez : (e : Int) < n := by omega
                      have ce := CW.out wy N5.out e he'
                      have S5 : Hid (cnT n to d (e + 1) = cnT n to d e + if e ≠ d ∧ rb n to (-1) e = true ∧ rb n to (e : Int) d = false then 1 else 0) := rfl
                      by_cases r1 : e = d
                      · have r1z : ((e : Int) != (d : Int)) = false := by simp [r1]
                        have S6 : Hid (cnT n to d (e + 1) = cnT n to d e) := (by rw [S5.out, if_neg (fun h => h.1 r1), Nat.add_zero] : cnT n to d (e + 1) = cnT n to d e)
                        clear r1
                        go_wp2
                        go_roundw
                        case rel => exact ⟨e + 1, by omega, by go_num, by rw [S6.out], N5.out⟩
                        case measure => simp [intOf]; omega
                      · have r1z : ((e : Int) != (d : Int)) = true := by simp; omega
                        rcases Bool.eq_false_or_eq_true (rb n to (-1) e) with r2 | r2
                        · rw [r2] at ce
                          have WE := WH.out e wy (BW.out _ N5.out)
                          have WE2 : Hid (Calls Try.prog 21 #[.int .i64 (n : Int), .slice A to.length C, .int .i64 (e : Int)] wy fun x w' => x = .returned (.slice (some ⟨wy.heap.size, 0, none⟩) n n) ∧ Below wy.heap.size wy w' ∧ w'.cell? ⟨wy.heap.size, d, none⟩ = some (.bool (rb n to (e : Int) d))) := WE.mono fun x w' h => ⟨h.1, h.2.1, h.2.2.2 d hd'⟩
                          clear WE
                          rcases Bool.eq_false_or_eq_true (rb n to (e : Int) d) with r3 | r3
                          · have S6 : Hid (cnT n to d (e + 1) = cnT n to d e) := (by rw [S5.out, if_neg (fun h => by have := h.2.2; rw [r3] at this; cases this), Nat.add_zero] : cnT n to d (e + 1) = cnT n to d e)
                            rw [r3] at WE2
                            clear r2 r3
                            go_wp2_with (go_at_call 21; refine WE2.out.mono ?_; rintro x w6 ⟨rfl, h1, h2⟩; have N6 : Hid (Below wr.heap.size wr w6) := below_next N5.out h1; clear h1)
                            go_roundw
                            case rel => exact ⟨e + 1, by omega, by go_num, by rw [S6.out], N6.out⟩
                            case measure => simp [intOf]; omega
                          · have S6 : Hid (cnT n to d (e + 1) = cnT n to d e + 1) := (by rw [S5.out, if_pos ⟨r1, r2, r3⟩] : cnT n to d (e + 1) = cnT n to d e + 1)
                            rw [r3] at WE2
                            clear r2 r3
                            go_wp2_with (go_at_call 21; refine WE2.out.mono ?_; rintro x w6 ⟨rfl, h1, h2⟩; have N6 : Hid (Below wr.heap.size wr w6) := below_next N5.out h1; clear h1)
                            go_roundw
                            case rel => exact ⟨e + 1, by omega, by go_num, by rw [S6.out]; go_num, N6.out⟩
                            case measure => simp [intOf]; omega
                        · have S6 : Hid (cnT n to d (e + 1) = cnT n to d e) := (by rw [S5.out, if_neg (fun h => by have := h.2.1; rw [r2] at this; cases this), Nat.add_zero] : cnT n to d (e + 1) = cnT n to d e)
                          rw [r2] at ce
                          clear r2
                          go_wp2
                          go_roundw
                          case rel => exact ⟨e + 1, by omega, by go_num, by rw [S6.out], N5.out⟩
                          case measure => simp [intOf]; omega
                    · have hez : ¬ (e : Int) < n := by omega
                      have EE : Hid (e = n) := (by omega : e = n)
                      have DY2 : Hid ((dmT n to i d).2 < (cnT n to d e : Int) → dmT n to i (d + 1) = ((d : Int), (cnT n to d e : Int))) := fun h => (by rw [EE.out] at h ⊢; exact DY.out ID.out h)
                      have DN2 : Hid (¬ (dmT n to i d).2 < (cnT n to d e : Int) → dmT n to i (d + 1) = dmT n to i d) := fun h => DN.out fun h2 => h (by rw [EE.out]; exact h2.2)
                      generalize cnT n to d e = cc at *
                      generalize hT : dmT n to i d = T at *
                      obtain ⟨t1, t2⟩ := T
                      by_cases hlt : t2 < (cc : Int)
                      · have E5 : Hid (dmT n to i (d + 1) = ((d : Int), (cc : Int))) := DY2.out hlt
                        clear hT
                        go_wp2
                        go_roundw
                        case rel => exact ⟨d + 1, by omega, by go_num, by rw [E5.out], by rw [E5.out], N5.out⟩
                        case measure => simp [intOf]; omega
                      · have E5 : Hid (dmT n to i (d + 1) = (t1, t2)) := DN2.out hlt
                        clear hT
                        go_wp2
                        go_roundw
                        case rel => exact ⟨d + 1, by omega, by go_num, by rw [E5.out], by rw [E5.out], N5.out⟩
                        case measure => simp [intOf]; omega
              · have E5 : Hid (dmT n to i (d + 1) = dmT n to i d) := DN.out fun h => by have := h.1.2.1; rw [q2] at this; cases this
                rw [q2] at cd
                clear q2
                go_wp2
                go_roundw
                case rel => exact ⟨d + 1, by omega, by go_num, by rw [E5.out], by rw [E5.out], N3.out⟩
                case measure => simp [intOf]; omega
          · have hdz : ¬ (d : Int) < n := by omega
            have E6 : Hid (dm n to i = (dmT n to i d).1) := (by rw [DM.out, show d = n by omega] : dm n to i = (dmT n to i d).1)
            generalize (dmT n to i d).1 = y at *
            generalize (dmT n to i d).2 = y2 at *
            go_wp2_with (at_builtin; refine OZ.app _ rfl _ _ rfl _ rfl y ((O1.out.below N3.out).below (below_alloc _ _)) ⟨wz.heap.size, 0, none⟩ 1 rfl (fun j u hj => cells_new _ (iZ y) 3 j u hj) LL.out ?_; intro v5 w5 ho hb _ _; have O5 : Hid (OZ w1.heap.size (M ++ [y]) v5 w5) := ho; have N5 : Hid (Below w1.heap.size w1 w5) := (below_next (below_next N2.out N3.out) (below_alloc _ _)).trans hb; clear ho hb)
            go_roundw
            case rel => exact ⟨i + 1, by omega, by go_num, by rw [E4.out, E6.out]; exact O5.out, N5.out⟩
            case measure => simp [intOf]; omega
      · have DM : Hid (dm n to i = -1) := (by rw [dm, if_neg hact] : dm n to i = -1)
        have ci := CW.out wr (Below.refl _ _) i hi'
        go_wp2
        go_loopw [8, 9, 10] (fun bv cv dv wz => bv = .int .i64 (-1) ∧ cv = .int .i64 (-1) ∧ dv = .int .i64 0 ∧ wz = wr) (fun _ _ _ _ => 0)
        case atStart => exact ⟨rfl, rfl, rfl, rfl⟩
        case round =>
          rename World => wz
          obtain ⟨rfl, rfl, rfl, hwz⟩ := hrel
          rw [hwz]
          clear hwz wz
          rcases Bool.eq_false_or_eq_true (rb n to (-1) i) with q | q
          · have hi0 : ¬ (i : Int) > 0 := fun h => hact ⟨by omega, q⟩
            rw [q] at ci
            clear hact q
            go_wp2_with (at_builtin; refine OZ.app _ rfl _ _ rfl _ rfl (-1) (O1.out.below (below_alloc _ _)) ⟨wr.heap.size, 0, none⟩ 1 rfl (fun j u hj => cells_new _ (iZ (-1)) 3 j u hj) LL.out ?_; intro v5 w5 ho hb _ _; have O5 : Hid (OZ w1.heap.size (M ++ [-1]) v5 w5) := ho; have N5 : Hid (Below w1.heap.size w1 w5) := (below_next N2.out (below_alloc _ _)).trans hb; clear ho hb)
            go_roundw
            case rel => exact ⟨i + 1, by omega, by go_num, by rw [E4.out, DM.out]; exact O5.out, N5.out⟩
            case measure => simp [intOf]; omega
          · rw [q] at ci
            clear hact q
            go_wp2_with (at_builtin; refine OZ.app _ rfl _ _ rfl _ rfl (-1) (O1.out.below (below_alloc _ _)) ⟨wr.heap.size, 0, none⟩ 1 rfl (fun j u hj => cells_new _ (iZ (-1)) 3 j u hj) LL.out ?_; intro v5 w5 ho hb _ _; have O5 : Hid (OZ w1.heap.size (M ++ [-1]) v5 w5) := ho; have N5 : Hid (Below w1.heap.size w1 w5) := (below_next N2.out (below_alloc _ _)).trans hb; clear ho hb)
            go_roundw
            case rel => exact ⟨i + 1, by omega, by go_num, by rw [E4.out, DM.out]; exact O5.out, N5.out⟩
            case measure => simp [intOf]; omega
    · have hiz : ¬ (i : Int) < n := by omega
      have EE : Hid (M = (List.range n).map (dm n to)) := (by rw [← HM.out, show i = n by omega] : M = (List.range n).map (dm n to))
      go_wp2
      go_ret
      exact ⟨_, rfl, by rw [← EE.out]; exact OwnB.lower O1.out N1.out.size, BW.out _ (Below.refl _ _)⟩
end Go.Proofs.Ytmmgdiecmokipaa
