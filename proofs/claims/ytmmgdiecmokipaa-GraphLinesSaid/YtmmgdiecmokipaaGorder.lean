/-
  Proved: the reference's Order and From.
-/
import Derived.Test.YtmmgdiecmokipaaGleave
namespace Go.Proofs.Ytmmgdiecmokipaa
open Go.RowKit

/-- The blocks that can be come to, in the order in which the walk leaves them, turned round. -/
def ord (n : Nat) (to : List (List Int)) : List Nat := if n = 0 then [] else (lv (wy n to) n 0 (fun _ => false, [])).2.reverse

theorem un_all (n : Nat) : un n (fun _ => false) = n := by
  have h : ((List.range n).filter fun j => !(fun _ : Nat => false) j) = List.range n := List.filter_eq_self.2 fun _ _ => rfl
  unfold un
  rw [h, List.length_range]

set_option maxRecDepth 20000 in
set_option maxHeartbeats 2000000 in
theorem order_c (n : Nat) (to : List (List Int)) (tv : Value) (w : World) (h : RwsIn w to tv) (hf : Fw to) (hn : n ≤ 1000) :
    Calls Try.prog 14 #[.int .i64 (n : Int), tv] w fun e w' => ∃ v, e = .returned v ∧ ON w.heap.size (ord n to) v w' ∧ Below w.heap.size w w' := by
  have TI : Hid (RwsIn w to tv) := h
  obtain ⟨A, C, rfl, -⟩ := h
  have FW : Hid (Fw to) := hf
  clear hf
  have hmk := make_b n hn
  rcases Nat.eq_zero_or_pos n with h0 | h0
  · have hnz : (n : Int) < 1 := by omega
    have EO : Hid (ord n to = []) := (by rw [ord, if_pos h0] : ord n to = [])
    go_enter Try.func14, Try.ntmps14
    go_wp2
    go_ret
    exact ⟨_, rfl, by rw [EO.out]; exact ON.empty (Nat.le_refl _), Below.refl _ _⟩
  · have hnz : ¬ (n : Int) < 1 := by omega
    have EO : Hid (ord n to = (lv (wy n to) n 0 (fun _ => false, [])).2.reverse) := (by rw [ord, if_neg (by omega)] : ord n to = _)
    have hl := lv_len (n := n) (fun a b hb => wy_lt n to a b hb) n 0 (fun _ => false, []) h0 rfl (Nat.le_of_eq (un_all n))
    have e3 : ((fun _ => false, []) : (Nat → Bool) × List Nat).2.length + un n ((fun _ => false, []) : (Nat → Bool) × List Nat).1 = n := by rw [un_all]; simp
    have LN : (lv (wy n to) n 0 (fun _ => false, [])).2.length ≤ n := by omega
    have LC : Hid (∀ W, W = w.alloc (.cells (madeCells #[.bool false] n) 4) → Calls Try.prog 28 #[.int .i64 (n : Int), .slice A to.length C, .int .i64 0, .slice (some ⟨w.heap.size, 0, none⟩) n n, .slice none 0 0] W fun e w' => ∃ v', e = .returned v' ∧ ON (w.heap.size + 1) (lv (wy n to) n 0 (fun _ => false, [])).2 v' w' ∧ Below w.heap.size w w') := fun W e => by
      subst e
      have hB0 := below_alloc w (.cells (madeCells #[.bool false] n) 4)
      have hO0 : ON (w.heap.size + 1) [] (.slice none 0 0) (w.alloc (.cells (madeCells #[.bool false] n) 4)) := ON.empty (by simp)
      refine (leave_c n to _ w TI.out FW.out hn w.heap.size (w.heap.size + 1) (Nat.le_refl _) (Nat.lt_succ_self _) n 0 (fun _ => false) [] (.slice none 0 0) _ h0 rfl (Nat.le_of_eq (un_all n)) (by rw [un_all]; simp) hB0 (BR.made w n) hO0).mono ?_
      rintro e w' ⟨v', rfl, hK, hL⟩
      exact ⟨v', rfl, hK.2, hB0.trans (hL.old hO0 (Nat.le_refl _) (Nat.lt_succ_self _) hB0.size)⟩
    generalize (lv (wy n to) n 0 (fun _ => false, [])).2 = l at *
    clear hl e3
    go_enter Try.func14, Try.ntmps14
    go_wp2_with (go_at_call 28; refine (LC.out _ rfl).mono ?_; rintro e w1 ⟨v1, rfl, hO, hB⟩; obtain ⟨Al, Cl, rfl, hsh⟩ := hO.shape; have O1 : Hid (ON (w.heap.size + 1) l (.slice Al l.length Cl) w1) := hO; have N1 : Hid (Below w.heap.size w w1) := hB; clear hO hB)
    go_loopw [6, 7] (fun ov iv wz => ∃ k : Nat, k ≤ l.length ∧ iv = .int .i64 ((l.length : Int) - 1 - (k : Int)) ∧ ON w1.heap.size (l.reverse.take k) ov wz ∧ Below w1.heap.size w1 wz) (fun _ iv _ => (intOf iv + 1).toNat)
    case atStart => exact ⟨0, by omega, by go_num, by simpa using ON.empty (Nat.le_refl _), Below.refl _ _⟩
    case round =>
      rename World => wz
      obtain ⟨k, hk, rfl, hO, hB⟩ := hrel
      have O2 : Hid (ON w1.heap.size (l.reverse.take k) _ wz) := hO
      have N2 : Hid (Below w1.heap.size w1 wz) := hB
      obtain ⟨Ao, Co, eo, -⟩ := hO.shape
      subst eo
      clear hO hB
      rcases Nat.lt_or_ge k l.length with hk' | hk'
      · obtain ⟨m, hm⟩ : ∃ m : Nat, (l.length : Int) - 1 - (k : Int) = (m : Int) := ⟨l.length - 1 - k, by omega⟩
        have hml : m < l.length := by omega
        obtain ⟨D, rfl, -, hD2, -, hce⟩ := hsh (by omega)
        have c1 := (N2.out.cell (p := ⟨D, m, none⟩) hD2).trans (hce m hml)
        have S3 : Hid (l.reverse.take (k + 1) = l.reverse.take k ++ [l[m]]) := (by
          rw [List.take_succ_eq_append_getElem (by simpa using hk'), List.getElem_reverse]
          simp only [show l.length - 1 - k = m by omega] : l.reverse.take (k + 1) = l.reverse.take k ++ [l[m]])
        have LL : Hid ((l.reverse.take k).length ≤ 10000) := (by simp; omega : (l.reverse.take k).length ≤ 10000)
        rw [hm]
        have hmz : (m : Int) < l.length := by omega
        have hmk2 : (m : Int) - 1 = (l.length : Int) - 1 - ((k + 1 : Nat) : Int) := by omega
        clear hce hsh
        generalize l[m] = y at *
        go_wp2_with (at_builtin; refine ON.app _ rfl _ _ rfl _ rfl y (O2.out.below (below_alloc _ _)) ⟨wz.heap.size, 0, none⟩ 1 rfl (fun j u hj => cells_new _ (iN y) 3 j u hj) LL.out ?_; intro v5 w5 ho hb _ _; have O5 : Hid (ON w1.heap.size (l.reverse.take (k + 1)) v5 w5) := (by rw [S3.out]; exact ho); have N5 : Hid (Below w1.heap.size w1 w5) := (below_next N2.out (below_alloc _ _)).trans hb; clear ho hb)
        go_roundw
        case rel => exact ⟨k + 1, by omega, by rw [← hmk2]; go_num, O5.out, N5.out⟩
        case measure => simp [intOf]; omega
      · have hkz : (l.length : Int) - 1 - (k : Int) = -1 := by omega
        have ET : Hid (l.reverse.take k = ord n to) := (by rw [EO.out, List.take_of_length_le (by simp; omega)] : l.reverse.take k = ord n to)
        rw [hkz]
        go_wp2
        go_ret
        exact ⟨_, rfl, by rw [← ET.out]; exact O2.out.lower (by have := N1.out.size; omega), N1.out.trans (N2.out.mono N1.out.size)⟩
end Go.Proofs.Ytmmgdiecmokipaa
