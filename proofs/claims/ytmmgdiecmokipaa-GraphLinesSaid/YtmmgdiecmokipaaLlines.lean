/-
  Proved: GraphLines answers true.
-/
import Derived.Test.YtmmgdiecmokipaaLfew
import Derived.Test.YtmmgdiecmokipaaGline
namespace Go.Proofs.Ytmmgdiecmokipaa
open Go.RowKit

/-- The ways of a line's block, as blocks. -/
def lrow (a b i : Nat) : List Nat := if i = a ∧ a + 1 < b then [i + 1, b] else [i + 1]

theorem lrow_line (a b n : Nat) : (((List.range (n - 1)).map (lrow a b)).map fun l => l.map fun x : Nat => (x : Int)) = lineTo a b n := by
  unfold lineTo
  rw [List.map_map]
  apply List.map_congr_left
  intro i _
  show (lrow a b i).map _ = lineRow a b i
  unfold lrow lineRow
  split <;> rfl

theorem RO.rws {base : Nat} {L : List (List Nat)} {xs : List (Option Addr × Nat × Nat)} {v : Value} {w : World} (h : RO base L xs v w) : RwsIn w (L.map fun l => l.map fun x : Nat => (x : Int)) v := by
  obtain ⟨A, C, e, h1⟩ := OwnB.shape sL_len h.1
  rw [h.2.1] at e h1
  refine ⟨A, C, by rw [List.length_map]; exact e, fun i hi => ?_⟩
  have hi' : i < L.length := by simpa using hi
  obtain ⟨D, e1, e2, e3, e4, e5⟩ := h1 (by omega)
  have hx : i < xs.length := by rw [h.2.1]; exact hi'
  have hc := RowsIn.cell (j := 0) (u := sv xs[i]) e5 i hx rfl
  refine ⟨D, 0, sv xs[i], e1, e3, by simpa using hc, ?_⟩
  have := (h.2.2 i hi' hx).nums
  simpa using this

theorem cells_new2 (w : World) (o : Obj) (cs : List Value) (t : TypeId) : ∀ j u, cs[j]? = some u → ((w.alloc o).alloc (.cells cs.toArray t)).cell? ((⟨w.heap.size + 1, 0, none⟩ : Addr).add j) = some u := by
  intro j u hj
  have h := cells_new (w.alloc o) cs t j u hj
  rwa [show (w.alloc o).heap.size = w.heap.size + 1 by simp] at h

theorem line_fw (a b n : Nat) (hn : n ≤ 100) : Fw (lineTo a b n) := by
  refine ⟨by simp [lineTo]; omega, fun i hi => ?_⟩
  simp only [lineTo, List.getElem_map, lineRow]
  split <;> simp

theorem line_all (a b n i : Nat) (hab : a ≤ b) (hb : b < n) (hi : i < n) : dm n (lineTo a b n) i = lineD a b i := by
  rcases Nat.eq_zero_or_pos i with h0 | h0
  · subst h0
    rw [line_dom0]
    unfold lineD
    rw [if_neg (by omega)]
    rfl
  · exact line_dom a b n i hab hb h0 hi

set_option maxRecDepth 20000 in
set_option maxHeartbeats 4000000 in
theorem lines_pos (z x y : Int) (k n a b ta tb : Nat) (hm : bits .and .i64 z 15 = (k : Int)) (hkn : (3 : Int) + (k : Int) = (n : Int)) (hn : n ≤ 18)
    (hta : (wrap64 (x.tmod n + n)).tmod n = (ta : Int)) (htb : (wrap64 (y.tmod n + n)).tmod n = (tb : Int)) (hsw : (tb < ta ∧ a = tb ∧ b = ta) ∨ (¬ tb < ta ∧ a = ta ∧ b = tb)) (hbn : b < n) (w : World) :
    Calls Try.prog 6 #[.int .i64 z, .int .i64 x, .int .i64 y] w fun e w' => e = .returned (.bool true) ∧ Below w.heap.size w w' := by
  have hab : a ≤ b := by omega
  have hnz : ¬ (n : Int) = 0 := by omega
  have hnz2 : ((n : Int) == 0) = false := by simp; omega
  have D1 : Hid (∀ w1 tv, RwsIn w1 (lineTo a b n) tv → Calls Try.prog 15 #[.int .i64 (n : Int), tv] w1 fun e w' => e = .returned (.slice (some ⟨w1.heap.size, 0, none⟩) n n) ∧ Below w1.heap.size w1 w' ∧ IZ w' w1.heap.size n (lineD a b)) := fun w1 tv h => (doms_p n (by omega) (by omega) (lineTo a b n) tv w1 h (line_fw a b n (by omega))).mono fun e w' h => ⟨h.1, h.2.1, h.2.2.ext fun i hi => line_all a b n i hab hbn hi⟩
  have O1 : Hid (∀ w1 tv, RwsIn w1 (lineTo a b n) tv → Calls Try.prog 13 #[.int .i64 (n : Int), tv] w1 fun e w' => ∃ v, e = .returned v ∧ NumsIn w' ((List.range n).map fun x : Nat => (x : Int)) v ∧ Below w1.heap.size w1 w') := fun w1 tv h => by
    have := order_p n n (Or.inl rfl) (by omega) (lineTo a b n) tv w1 h (line_fw a b n (by omega))
    rwa [line_ord a b n hbn] at this
  rcases hsw with ⟨q1, rfl, rfl⟩ | ⟨q1, rfl, rfl⟩
  · have q1z : (a : Int) < (b : Int) := by omega
    go_enter Try.func6, Try.ntmps6
    go_wp2
    go_loopw [7, 8] (fun tv iv wr => ∃ (i : Nat) (xs : List (Option Addr × Nat × Nat)), i ≤ n - 1 ∧ iv = .int .i64 (i : Int) ∧ RO w.heap.size ((List.range i).map (lrow a b)) xs tv wr ∧ Below w.heap.size w wr) (fun _ iv _ => n - (intOf iv).toNat)
    case atStart => exact ⟨0, [], Nat.zero_le _, rfl, ⟨⟨Nat.le_refl _, by simp, Or.inl ⟨rfl, rfl⟩⟩, rfl, fun j hj => by simp at hj⟩, Below.refl _ _⟩
    case round =>
      obtain ⟨i, xs, hi, rfl, hR, hB⟩ := hrel
      have R1 : Hid (RO w.heap.size ((List.range i).map (lrow a b)) xs _ wr) := hR
      have B1 : Hid (Below w.heap.size w wr) := hB
      obtain ⟨Ao, Co, eo, -⟩ := OwnB.shape sL_len hR.1
      have HXL : Hid (xs.length = i) := (by have := hR.2.1; simpa using this : xs.length = i)
      subst eo
      clear hR hB
      rcases Nat.lt_or_ge (i + 1) n with hi' | hi'
      · have hiz : (i : Int) + 1 < n := by omega
        have E4 : Hid ((List.range (i + 1)).map (lrow a b) = (List.range i).map (lrow a b) ++ [lrow a b i]) := range_snoc _ _
        have OA : Hid (ON wr.heap.size [i + 1] (.slice (some ⟨wr.heap.size, 0, none⟩) 1 1) (wr.alloc (.cells #[.int .i64 ((i : Int) + 1)] 3))) := by
          have e : (((i + 1 : Nat)) : Int) = (i : Int) + 1 := by omega
          have h := ON.one (w := wr.alloc (.cells #[.int .i64 ((i + 1 : Nat) : Int)] 3)) (i + 1) (At.new _ _ _)
          rw [e] at h
          exact h
        by_cases hsp : i = a ∧ a + 1 < b
        · obtain ⟨rfl, hsp2⟩ := hsp
          have hq : ((i : Int) == (i : Int)) = true := by simp
          have hspz : (i : Int) + 1 < (b : Int) := by omega
          have EL : Hid (lrow i b i = [i + 1, b]) := (by unfold lrow; rw [if_pos ⟨rfl, hsp2⟩] : lrow i b i = [i + 1, b])
          have OB : Hid (ON wr.heap.size [i + 1] (.slice (some ⟨wr.heap.size, 0, none⟩) 1 1) ((wr.alloc (.cells #[.int .i64 ((i : Int) + 1)] 3)).alloc (.cells (iN b).toArray 3))) := OA.out.below (below_alloc _ _)
          go_wp2_with (first
            | (at_builtin; refine ON.app _ rfl _ _ rfl _ rfl b OB.out ⟨wr.heap.size + 1, 0, none⟩ 1 rfl (fun j u hj => cells_new2 wr _ (iN b) 3 j u hj) (by simp) ?_; intro v5 w5 ho hb5 hk5 hv5; obtain ⟨A5, C5, e5, -⟩ := ho.shape; have e6 : v5 = .slice A5 2 C5 := e5; subst e6; have B5 : Hid (Below wr.heap.size wr w5) := (below_two wr _ _).trans hb5; have O5 : Hid (ON w.heap.size (lrow i b i) (sv (A5, 2, C5)) (w5.alloc (.cells (sL (A5, 2, C5)).toArray 28))) := (by rw [EL.out]; exact (ho.lower B1.out.size).below (below_alloc _ _)); have R5 : Hid (RO w.heap.size ((List.range i).map (lrow i b)) xs (.slice Ao xs.length Co) (w5.alloc (.cells (sL (A5, 2, C5)).toArray 28))) := R1.out.below (below_next B5.out (below_alloc _ _)); clear ho hb5 hk5 hv5 e5)
            | (at_builtin; refine RO.app _ rfl _ _ rfl _ rfl (A5, 2, C5) R5.out.1 ⟨w5.heap.size, 0, none⟩ 1 rfl (fun j u hj => cells_new _ (sL (A5, 2, C5)) 28 j u hj) (by have := HXL.out; omega) ?_; intro v6 w6 ho hb hkk _; have R6 : Hid (RO w.heap.size ((List.range (i + 1)).map (lrow i b)) (xs ++ [(A5, 2, C5)]) v6 w6) := (by rw [E4.out]; exact R5.out.more O5.out ho hb.size hkk); have N6 : Hid (Below w.heap.size w w6) := (below_next (below_next B1.out B5.out) (below_alloc _ _)).trans hb; clear ho hb hkk))
          go_roundw
          case rel => exact ⟨i + 1, _, by omega, by go_num, R6.out, N6.out⟩
          case measure => simp [intOf]; omega
        · have EL : Hid (lrow a b i = [i + 1]) := (by unfold lrow; rw [if_neg hsp] : lrow a b i = [i + 1])
          have OC : Hid (ON w.heap.size (lrow a b i) (sv (some ⟨wr.heap.size, 0, none⟩, 1, 1)) ((wr.alloc (.cells #[.int .i64 ((i : Int) + 1)] 3)).alloc (.cells (sL (some ⟨wr.heap.size, 0, none⟩, 1, 1)).toArray 28))) := (by rw [EL.out]; exact (OA.out.lower B1.out.size).below (below_alloc _ _) : ON w.heap.size (lrow a b i) (sv (some ⟨wr.heap.size, 0, none⟩, 1, 1)) ((wr.alloc (.cells #[.int .i64 ((i : Int) + 1)] 3)).alloc (.cells (sL (some ⟨wr.heap.size, 0, none⟩, 1, 1)).toArray 28)))
          have RC : Hid (RO w.heap.size ((List.range i).map (lrow a b)) xs (.slice Ao xs.length Co) ((wr.alloc (.cells #[.int .i64 ((i : Int) + 1)] 3)).alloc (.cells (sL (some ⟨wr.heap.size, 0, none⟩, 1, 1)).toArray 28))) := R1.out.below (below_two _ _ _)
          by_cases hia : i = a
          · have hq : ((i : Int) == (a : Int)) = true := by simp; omega
            have hnz3 : ¬ (a : Int) + 1 < (b : Int) := by omega
            clear hsp hia
            go_wp2_with (at_builtin; refine RO.app _ rfl _ _ rfl _ rfl (some ⟨wr.heap.size, 0, none⟩, 1, 1) RC.out.1 ⟨wr.heap.size + 1, 0, none⟩ 1 rfl (fun j u hj => cells_new2 wr _ (sL (some ⟨wr.heap.size, 0, none⟩, 1, 1)) 28 j u hj) (by have := HXL.out; omega) ?_; intro v6 w6 ho hb hkk _; have R6 : Hid (RO w.heap.size ((List.range (i + 1)).map (lrow a b)) (xs ++ [(some ⟨wr.heap.size, 0, none⟩, 1, 1)]) v6 w6) := (by rw [E4.out]; exact RC.out.more OC.out ho hb.size hkk); have N6 : Hid (Below w.heap.size w w6) := (below_next B1.out (below_two _ _ _)).trans hb; clear ho hb hkk)
            go_roundw
            case rel => exact ⟨i + 1, _, by omega, by go_num, R6.out, N6.out⟩
            case measure => simp [intOf]; omega
          · have hq : ((i : Int) == (a : Int)) = false := by simp; omega
            clear hsp
            go_wp2_with (at_builtin; refine RO.app _ rfl _ _ rfl _ rfl (some ⟨wr.heap.size, 0, none⟩, 1, 1) RC.out.1 ⟨wr.heap.size + 1, 0, none⟩ 1 rfl (fun j u hj => cells_new2 wr _ (sL (some ⟨wr.heap.size, 0, none⟩, 1, 1)) 28 j u hj) (by have := HXL.out; omega) ?_; intro v6 w6 ho hb hkk _; have R6 : Hid (RO w.heap.size ((List.range (i + 1)).map (lrow a b)) (xs ++ [(some ⟨wr.heap.size, 0, none⟩, 1, 1)]) v6 w6) := (by rw [E4.out]; exact RC.out.more OC.out ho hb.size hkk); have N6 : Hid (Below w.heap.size w w6) := (below_next B1.out (below_two _ _ _)).trans hb; clear ho hb hkk)
            go_roundw
            case rel => exact ⟨i + 1, _, by omega, by go_num, R6.out, N6.out⟩
            case measure => simp [intOf]; omega
      · have hiz : ¬ (i : Int) + 1 < n := by omega
        obtain rfl : i = n - 1 := by omega
        have RW : Hid (RwsIn wr (lineTo a b n) (.slice Ao xs.length Co)) := (by rw [← lrow_line]; exact R1.out.rws : RwsIn wr (lineTo a b n) (.slice Ao xs.length Co))
        have hnn : ((n : Int) == (n : Int)) = true := by simp
        go_wp2_with (first
          | (go_at_call 15; refine (D1.out wr _ RW.out).mono ?_; rintro e w2 ⟨rfl, hb2, hz2⟩; have B2 : Hid (Below wr.heap.size wr w2) := hb2; have Z2 : Hid (IZ w2 wr.heap.size n (lineD a b)) := hz2; clear hb2 hz2)
          | (go_at_call 13; refine (O1.out w2 _ (RW.out.below B2.out)).mono ?_; rintro e w3 ⟨v3, rfl, hn3, hb3⟩; have B3 : Hid (Below w2.heap.size w2 w3) := hb3; obtain ⟨A3, K3, e3, hn4⟩ := hn3; rw [List.length_map, List.length_range] at e3; subst e3; obtain ⟨ob, oo, rfl, hob, hoc⟩ := hn4 0 (by simp; omega); have N3 : Hid (∀ i, i < n → w3.cell? ⟨ob, oo + i, none⟩ = some (.int .i64 (i : Int)) ∧ ob < w3.heap.size) := (fun i hi => by
              obtain ⟨b', o', e', h1, h2⟩ := hn4 i (by simpa using hi)
              injection e' with e'
              injection e' with e1 e2 _
              subst e1 e2
              exact ⟨by simpa using h2, h1⟩); clear hb3 hn4 hob hoc))
        have CT : Hid (Below w.heap.size w w3) := below_next B1.out (below_next B2.out B3.out)
        have Z3 : Hid (∀ wz, Below w3.heap.size w3 wz → IZ wz wr.heap.size n (lineD a b)) := fun wz hb => Z2.out.kp (Kp.of_below (F := fun _ => False) (below_next B3.out hb)) (fun h => h)
        go_loopw [12] (fun iv wz => ∃ i : Nat, i ≤ n ∧ iv = .int .i64 (i : Int) ∧ wz = w3) (fun iv _ => n - (intOf iv).toNat)
        case atStart => exact ⟨0, Nat.zero_le _, rfl, rfl⟩
        case round =>
          rename World => wz
          obtain ⟨i, hi, rfl, hwz⟩ := hrel
          rw [hwz]
          clear hwz wz
          rcases Nat.lt_or_ge i n with hi' | hi'
          · have hiz : (i : Int) < n := by omega
            have c1 := (Z3.out w3 (Below.refl _ _)).cell i hi'
            have c2 := (N3.out i hi').1
            have hii : ((i : Int) == (i : Int)) = true := by simp
            by_cases hsp : i = b ∧ a + 1 < b
            · rw [show lineD a b i = (a : Int) from by unfold lineD; rw [if_pos hsp]] at c1
              obtain ⟨rfl, hsp2⟩ := hsp
              have hq : (a : Int) + 1 < (i : Int) := by omega
              have haa : ((a : Int) == (a : Int)) = true := by simp
              go_wp2
              go_roundw
              case rel => exact ⟨i + 1, by omega, by go_num, trivial⟩
              case measure => simp [intOf]; omega
            · rw [show lineD a b i = (i : Int) - 1 from by unfold lineD; rw [if_neg hsp]] at c1
              have hjj : (((i : Int) - 1) == ((i : Int) - 1)) = true := by simp
              by_cases hib : i = b
              · have hq : ((i : Int) == (b : Int)) = true := by simp; omega
                have hq2 : ¬ (a : Int) + 1 < (b : Int) := by omega
                clear hsp hib
                go_wp2
                go_roundw
                case rel => exact ⟨i + 1, by omega, by go_num, trivial⟩
                case measure => simp [intOf]; omega
              · have hq : ((i : Int) == (b : Int)) = false := by simp; omega
                clear hsp
                go_wp2
                go_roundw
                case rel => exact ⟨i + 1, by omega, by go_num, trivial⟩
                case measure => simp [intOf]; omega
          · have hiz : ¬ (i : Int) < n := by omega
            go_wp2
            go_ret
            exact ⟨rfl, CT.out⟩
  · have q1z : ¬ (b : Int) < (a : Int) := by omega
    go_enter Try.func6, Try.ntmps6
    go_wp2
    go_loopw [7, 8] (fun tv iv wr => ∃ (i : Nat) (xs : List (Option Addr × Nat × Nat)), i ≤ n - 1 ∧ iv = .int .i64 (i : Int) ∧ RO w.heap.size ((List.range i).map (lrow a b)) xs tv wr ∧ Below w.heap.size w wr) (fun _ iv _ => n - (intOf iv).toNat)
    case atStart => exact ⟨0, [], Nat.zero_le _, rfl, ⟨⟨Nat.le_refl _, by simp, Or.inl ⟨rfl, rfl⟩⟩, rfl, fun j hj => by simp at hj⟩, Below.refl _ _⟩
    case round =>
      obtain ⟨i, xs, hi, rfl, hR, hB⟩ := hrel
      have R1 : Hid (RO w.heap.size ((List.range i).map (lrow a b)) xs _ wr) := hR
      have B1 : Hid (Below w.heap.size w wr) := hB
      obtain ⟨Ao, Co, eo, -⟩ := OwnB.shape sL_len hR.1
      have HXL : Hid (xs.length = i) := (by have := hR.2.1; simpa using this : xs.length = i)
      subst eo
      clear hR hB
      rcases Nat.lt_or_ge (i + 1) n with hi' | hi'
      · have hiz : (i : Int) + 1 < n := by omega
        have E4 : Hid ((List.range (i + 1)).map (lrow a b) = (List.range i).map (lrow a b) ++ [lrow a b i]) := range_snoc _ _
        have OA : Hid (ON wr.heap.size [i + 1] (.slice (some ⟨wr.heap.size, 0, none⟩) 1 1) (wr.alloc (.cells #[.int .i64 ((i : Int) + 1)] 3))) := by
          have e : (((i + 1 : Nat)) : Int) = (i : Int) + 1 := by omega
          have h := ON.one (w := wr.alloc (.cells #[.int .i64 ((i + 1 : Nat) : Int)] 3)) (i + 1) (At.new _ _ _)
          rw [e] at h
          exact h
        by_cases hsp : i = a ∧ a + 1 < b
        · obtain ⟨rfl, hsp2⟩ := hsp
          have hq : ((i : Int) == (i : Int)) = true := by simp
          have hspz : (i : Int) + 1 < (b : Int) := by omega
          have EL : Hid (lrow i b i = [i + 1, b]) := (by unfold lrow; rw [if_pos ⟨rfl, hsp2⟩] : lrow i b i = [i + 1, b])
          have OB : Hid (ON wr.heap.size [i + 1] (.slice (some ⟨wr.heap.size, 0, none⟩) 1 1) ((wr.alloc (.cells #[.int .i64 ((i : Int) + 1)] 3)).alloc (.cells (iN b).toArray 3))) := OA.out.below (below_alloc _ _)
          go_wp2_with (first
            | (at_builtin; refine ON.app _ rfl _ _ rfl _ rfl b OB.out ⟨wr.heap.size + 1, 0, none⟩ 1 rfl (fun j u hj => cells_new2 wr _ (iN b) 3 j u hj) (by simp) ?_; intro v5 w5 ho hb5 hk5 hv5; obtain ⟨A5, C5, e5, -⟩ := ho.shape; have e6 : v5 = .slice A5 2 C5 := e5; subst e6; have B5 : Hid (Below wr.heap.size wr w5) := (below_two wr _ _).trans hb5; have O5 : Hid (ON w.heap.size (lrow i b i) (sv (A5, 2, C5)) (w5.alloc (.cells (sL (A5, 2, C5)).toArray 28))) := (by rw [EL.out]; exact (ho.lower B1.out.size).below (below_alloc _ _)); have R5 : Hid (RO w.heap.size ((List.range i).map (lrow i b)) xs (.slice Ao xs.length Co) (w5.alloc (.cells (sL (A5, 2, C5)).toArray 28))) := R1.out.below (below_next B5.out (below_alloc _ _)); clear ho hb5 hk5 hv5 e5)
            | (at_builtin; refine RO.app _ rfl _ _ rfl _ rfl (A5, 2, C5) R5.out.1 ⟨w5.heap.size, 0, none⟩ 1 rfl (fun j u hj => cells_new _ (sL (A5, 2, C5)) 28 j u hj) (by have := HXL.out; omega) ?_; intro v6 w6 ho hb hkk _; have R6 : Hid (RO w.heap.size ((List.range (i + 1)).map (lrow i b)) (xs ++ [(A5, 2, C5)]) v6 w6) := (by rw [E4.out]; exact R5.out.more O5.out ho hb.size hkk); have N6 : Hid (Below w.heap.size w w6) := (below_next (below_next B1.out B5.out) (below_alloc _ _)).trans hb; clear ho hb hkk))
          go_roundw
          case rel => exact ⟨i + 1, _, by omega, by go_num, R6.out, N6.out⟩
          case measure => simp [intOf]; omega
        · have EL : Hid (lrow a b i = [i + 1]) := (by unfold lrow; rw [if_neg hsp] : lrow a b i = [i + 1])
          have OC : Hid (ON w.heap.size (lrow a b i) (sv (some ⟨wr.heap.size, 0, none⟩, 1, 1)) ((wr.alloc (.cells #[.int .i64 ((i : Int) + 1)] 3)).alloc (.cells (sL (some ⟨wr.heap.size, 0, none⟩, 1, 1)).toArray 28))) := (by rw [EL.out]; exact (OA.out.lower B1.out.size).below (below_alloc _ _) : ON w.heap.size (lrow a b i) (sv (some ⟨wr.heap.size, 0, none⟩, 1, 1)) ((wr.alloc (.cells #[.int .i64 ((i : Int) + 1)] 3)).alloc (.cells (sL (some ⟨wr.heap.size, 0, none⟩, 1, 1)).toArray 28)))
          have RC : Hid (RO w.heap.size ((List.range i).map (lrow a b)) xs (.slice Ao xs.length Co) ((wr.alloc (.cells #[.int .i64 ((i : Int) + 1)] 3)).alloc (.cells (sL (some ⟨wr.heap.size, 0, none⟩, 1, 1)).toArray 28))) := R1.out.below (below_two _ _ _)
          by_cases hia : i = a
          · have hq : ((i : Int) == (a : Int)) = true := by simp; omega
            have hnz3 : ¬ (a : Int) + 1 < (b : Int) := by omega
            clear hsp hia
            go_wp2_with (at_builtin; refine RO.app _ rfl _ _ rfl _ rfl (some ⟨wr.heap.size, 0, none⟩, 1, 1) RC.out.1 ⟨wr.heap.size + 1, 0, none⟩ 1 rfl (fun j u hj => cells_new2 wr _ (sL (some ⟨wr.heap.size, 0, none⟩, 1, 1)) 28 j u hj) (by have := HXL.out; omega) ?_; intro v6 w6 ho hb hkk _; have R6 : Hid (RO w.heap.size ((List.range (i + 1)).map (lrow a b)) (xs ++ [(some ⟨wr.heap.size, 0, none⟩, 1, 1)]) v6 w6) := (by rw [E4.out]; exact RC.out.more OC.out ho hb.size hkk); have N6 : Hid (Below w.heap.size w w6) := (below_next B1.out (below_two _ _ _)).trans hb; clear ho hb hkk)
            go_roundw
            case rel => exact ⟨i + 1, _, by omega, by go_num, R6.out, N6.out⟩
            case measure => simp [intOf]; omega
          · have hq : ((i : Int) == (a : Int)) = false := by simp; omega
            clear hsp
            go_wp2_with (at_builtin; refine RO.app _ rfl _ _ rfl _ rfl (some ⟨wr.heap.size, 0, none⟩, 1, 1) RC.out.1 ⟨wr.heap.size + 1, 0, none⟩ 1 rfl (fun j u hj => cells_new2 wr _ (sL (some ⟨wr.heap.size, 0, none⟩, 1, 1)) 28 j u hj) (by have := HXL.out; omega) ?_; intro v6 w6 ho hb hkk _; have R6 : Hid (RO w.heap.size ((List.range (i + 1)).map (lrow a b)) (xs ++ [(some ⟨wr.heap.size, 0, none⟩, 1, 1)]) v6 w6) := (by rw [E4.out]; exact RC.out.more OC.out ho hb.size hkk); have N6 : Hid (Below w.heap.size w w6) := (below_next B1.out (below_two _ _ _)).trans hb; clear ho hb hkk)
            go_roundw
            case rel => exact ⟨i + 1, _, by omega, by go_num, R6.out, N6.out⟩
            case measure => simp [intOf]; omega
      · have hiz : ¬ (i : Int) + 1 < n := by omega
        obtain rfl : i = n - 1 := by omega
        have RW : Hid (RwsIn wr (lineTo a b n) (.slice Ao xs.length Co)) := (by rw [← lrow_line]; exact R1.out.rws : RwsIn wr (lineTo a b n) (.slice Ao xs.length Co))
        have hnn : ((n : Int) == (n : Int)) = true := by simp
        go_wp2_with (first
          | (go_at_call 15; refine (D1.out wr _ RW.out).mono ?_; rintro e w2 ⟨rfl, hb2, hz2⟩; have B2 : Hid (Below wr.heap.size wr w2) := hb2; have Z2 : Hid (IZ w2 wr.heap.size n (lineD a b)) := hz2; clear hb2 hz2)
          | (go_at_call 13; refine (O1.out w2 _ (RW.out.below B2.out)).mono ?_; rintro e w3 ⟨v3, rfl, hn3, hb3⟩; have B3 : Hid (Below w2.heap.size w2 w3) := hb3; obtain ⟨A3, K3, e3, hn4⟩ := hn3; rw [List.length_map, List.length_range] at e3; subst e3; obtain ⟨ob, oo, rfl, hob, hoc⟩ := hn4 0 (by simp; omega); have N3 : Hid (∀ i, i < n → w3.cell? ⟨ob, oo + i, none⟩ = some (.int .i64 (i : Int)) ∧ ob < w3.heap.size) := (fun i hi => by
              obtain ⟨b', o', e', h1, h2⟩ := hn4 i (by simpa using hi)
              injection e' with e'
              injection e' with e1 e2 _
              subst e1 e2
              exact ⟨by simpa using h2, h1⟩); clear hb3 hn4 hob hoc))
        have CT : Hid (Below w.heap.size w w3) := below_next B1.out (below_next B2.out B3.out)
        have Z3 : Hid (∀ wz, Below w3.heap.size w3 wz → IZ wz wr.heap.size n (lineD a b)) := fun wz hb => Z2.out.kp (Kp.of_below (F := fun _ => False) (below_next B3.out hb)) (fun h => h)
        go_loopw [12] (fun iv wz => ∃ i : Nat, i ≤ n ∧ iv = .int .i64 (i : Int) ∧ wz = w3) (fun iv _ => n - (intOf iv).toNat)
        case atStart => exact ⟨0, Nat.zero_le _, rfl, rfl⟩
        case round =>
          rename World => wz
          obtain ⟨i, hi, rfl, hwz⟩ := hrel
          rw [hwz]
          clear hwz wz
          rcases Nat.lt_or_ge i n with hi' | hi'
          · have hiz : (i : Int) < n := by omega
            have c1 := (Z3.out w3 (Below.refl _ _)).cell i hi'
            have c2 := (N3.out i hi').1
            have hii : ((i : Int) == (i : Int)) = true := by simp
            by_cases hsp : i = b ∧ a + 1 < b
            · rw [show lineD a b i = (a : Int) from by unfold lineD; rw [if_pos hsp]] at c1
              obtain ⟨rfl, hsp2⟩ := hsp
              have hq : (a : Int) + 1 < (i : Int) := by omega
              have haa : ((a : Int) == (a : Int)) = true := by simp
              go_wp2
              go_roundw
              case rel => exact ⟨i + 1, by omega, by go_num, trivial⟩
              case measure => simp [intOf]; omega
            · rw [show lineD a b i = (i : Int) - 1 from by unfold lineD; rw [if_neg hsp]] at c1
              have hjj : (((i : Int) - 1) == ((i : Int) - 1)) = true := by simp
              by_cases hib : i = b
              · have hq : ((i : Int) == (b : Int)) = true := by simp; omega
                have hq2 : ¬ (a : Int) + 1 < (b : Int) := by omega
                clear hsp hib
                go_wp2
                go_roundw
                case rel => exact ⟨i + 1, by omega, by go_num, trivial⟩
                case measure => simp [intOf]; omega
              · have hq : ((i : Int) == (b : Int)) = false := by simp; omega
                clear hsp
                go_wp2
                go_roundw
                case rel => exact ⟨i + 1, by omega, by go_num, trivial⟩
                case measure => simp [intOf]; omega
          · have hiz : ¬ (i : Int) < n := by omega
            go_wp2
            go_ret
            exact ⟨rfl, CT.out⟩
end Go.Proofs.Ytmmgdiecmokipaa
