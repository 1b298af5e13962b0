/-
  Proved: rows of numbers in memory; what the reference's ways answers: the ways of a block.
-/
import Derived.Test.YtmmgdiecmokipaaKit
namespace Go.Proofs.Ytmmgdiecmokipaa
open Go.RowKit

def iN (x : Nat) : List Value := [.int .i64 (x : Int)]
theorem iN_len (a : Nat) : (iN a).length = 1 := rfl
theorem iN_one (a : Nat) : ∀ u ∈ iN a, u.oneCell' = true := by intro u hu; simp [iN] at hu; subst hu; rfl
theorem infoInt : (Try.prog.info? 3).map (fun i => (i.zero, i.size, i.bytes)) = some (some (.int .i64 0), 1, 8) := by kernel_rfl

/-- A row of numbers of one's own. -/
def ON (base : Nat) (l : List Nat) (v : Value) (w : World) : Prop := OwnB 3 1 iN base l v w

theorem ON.app {base : Nat} {l : List Nat} (w : World) {ops : Array Oper} {rest : List Oper} {o : Oper} {a : Act} {Q : Exit → Act → World → Prop} (hgd : o.guard = none) (s x : Operand)
    (ho : o.op = .call { callee := .builtin .append, args := #[s, x], argTypes := #[28, 28] })
    (v : Value) (hs : a.eval s = v) (y : Nat) (hown : ON base l v w) (ad : Addr) (C : Nat) (hx : a.eval x = .slice (some ad) 1 C)
    (hc : ∀ j u, (iN y)[j]? = some u → w.cell? (ad.add j) = some u) (hl : l.length ≤ 10000)
    (h : ∀ v' w', ON base (l ++ [y]) v' w' → Below base w w' → (∀ k, k < w.heap.size → v.ownBlock ≠ some k → w'.heap[k]? = w.heap[k]?) → (∀ b, v'.ownBlock = some b → v.ownBlock = some b ∨ w.heap.size ≤ b) → wpList Try.prog ops Q rest (a.put o.dst v') w') : wpList Try.prog ops Q (o :: rest) a w :=
  OwnB.appendNL 28 3 iN _ 1 8 infoInt Try.underlying28 rfl (by decide) (by decide) iN_len iN_one w hgd s x ho v hs y hown ad C hx hc hl h

theorem ON.empty {base : Nat} {w : World} (h : base ≤ w.heap.size) : ON base [] (.slice none 0 0) w := ⟨h, by simp, Or.inl ⟨rfl, rfl⟩⟩
theorem ON.below {base : Nat} {l : List Nat} {v : Value} {w w' : World} (h : ON base l v w) (k : Below w.heap.size w w') : ON base l v w' := OwnB.below h k

/-- The cells of a row. -/
theorem ON.shape {base : Nat} {l : List Nat} {v : Value} {w : World} (h : ON base l v w) : ∃ A C, v = .slice A l.length C ∧ (0 < l.length → ∃ B, A = some ⟨B, 0, none⟩ ∧ base ≤ B ∧ B < w.heap.size ∧ l.length ≤ C ∧ ∀ i (hi : i < l.length), w.cell? ⟨B, i, none⟩ = some (.int .i64 (l[i] : Int))) := by
  obtain ⟨A, C, e, h1⟩ := OwnB.shape iN_len h
  refine ⟨A, C, e, fun h2 => ?_⟩
  obtain ⟨B, e1, e2, e3, e4, e5⟩ := h1 h2
  refine ⟨B, e1, e2, e3, e4, fun i hi => ?_⟩
  have := RowsIn.cell (j := 0) (u := .int .i64 (l[i] : Int)) e5 i hi rfl
  simpa using this

/-- Numbers that came in. -/
def NumsIn (w : World) (l : List Int) (v : Value) : Prop := ∃ A C, v = .slice A l.length C ∧ ∀ i (h : i < l.length), ∃ b o, A = some ⟨b, o, none⟩ ∧ b < w.heap.size ∧ w.cell? ⟨b, o + i, none⟩ = some (.int .i64 (l[i]'h))
/-- Rows of numbers that came in. -/
def RwsIn (w : World) (to : List (List Int)) (v : Value) : Prop := ∃ A C, v = .slice A to.length C ∧ ∀ i (h : i < to.length), ∃ b o u, A = some ⟨b, o, none⟩ ∧ b < w.heap.size ∧ w.cell? ⟨b, o + i, none⟩ = some u ∧ NumsIn w (to[i]'h) u

theorem NumsIn.below {w w' : World} {l : List Int} {v : Value} (h : NumsIn w l v) (k : Below w.heap.size w w') : NumsIn w' l v := by
  obtain ⟨A, C, e, h⟩ := h
  refine ⟨A, C, e, fun i hi => ?_⟩
  obtain ⟨b, o, e1, e2, e3⟩ := h i hi
  exact ⟨b, o, e1, Nat.lt_of_lt_of_le e2 k.size, (k.cell (p := ⟨b, o + i, none⟩) e2).trans e3⟩

theorem RwsIn.below {w w' : World} {to : List (List Int)} {v : Value} (h : RwsIn w to v) (k : Below w.heap.size w w') : RwsIn w' to v := by
  obtain ⟨A, C, e, h⟩ := h
  refine ⟨A, C, e, fun i hi => ?_⟩
  obtain ⟨b, o, u, e1, e2, e3, e4⟩ := h i hi
  exact ⟨b, o, u, e1, Nat.lt_of_lt_of_le e2 k.size, (k.cell (p := ⟨b, o + i, none⟩) e2).trans e3, e4.below k⟩

/-- Few ways. -/
def Fw (to : List (List Int)) : Prop := to.length ≤ 200 ∧ ∀ i (h : i < to.length), (to[i]'h).length ≤ 200

/-- Those of some numbers that are from 0 to n - 1. -/
def keep (n : Nat) (l : List Int) : List Nat := (l.filter fun x => decide (0 ≤ x) && decide (x < (n : Int))).map Int.toNat
/-- The ways of a block. -/
def wy (n : Nat) (to : List (List Int)) (i : Nat) : List Nat := keep n (to.getD i [])

theorem keep_step (n : Nat) (l : List Int) (k : Nat) (h : k < l.length) : keep n (l.take (k + 1)) = keep n (l.take k) ++ if 0 ≤ l[k] ∧ l[k] < (n : Int) then [l[k].toNat] else [] := by
  unfold keep
  rw [List.take_succ_eq_append_getElem h, List.filter_append, List.map_append]
  congr 1
  by_cases e : 0 ≤ l[k] ∧ l[k] < (n : Int)
  · rw [if_pos e, List.filter_cons_of_pos (by simpa using e)]; rfl
  · rw [if_neg e, List.filter_cons_of_neg (by simpa using e)]; rfl

theorem keep_len (n : Nat) (l : List Int) : (keep n l).length ≤ l.length := by
  unfold keep
  rw [List.length_map]
  exact List.length_filter_le _ _

theorem wy_lt (n : Nat) (to : List (List Int)) (i j : Nat) (h : j ∈ wy n to i) : j < n := by
  unfold wy keep at h
  obtain ⟨x, hx, rfl⟩ := List.mem_map.1 h
  have := (List.mem_filter.1 hx).2
  simp at this
  omega

theorem wy_len (n : Nat) (to : List (List Int)) (i : Nat) (h : Fw to) : (wy n to i).length ≤ 200 := by
  unfold wy
  refine Nat.le_trans (keep_len _ _) ?_
  rw [List.getD_eq_getElem?_getD]
  by_cases hi : i < to.length
  · rw [List.getElem?_eq_getElem hi]; exact h.2 i hi
  · rw [List.getElem?_eq_none (by omega)]; simp

set_option maxHeartbeats 1000000 in
theorem ways_c (n i : Nat) (to : List (List Int)) (tv : Value) (w : World) (h : RwsIn w to tv) (hf : Fw to) :
    Calls Try.prog 24 #[.int .i64 (n : Int), tv, .int .i64 (i : Int)] w fun e w' => ∃ v, e = .returned v ∧ ON w.heap.size (wy n to i) v w' ∧ Below w.heap.size w w' := by
  have TI : Hid (RwsIn w to tv) := h
  obtain ⟨A, C, rfl, hr⟩ := h
  have FW : Hid (Fw to) := hf
  have hl : to.length ≤ 200 := hf.1
  clear hf
  rcases Nat.lt_or_ge i to.length with hit | hit
  · have hiz : (i : Int) < to.length := by omega
    obtain ⟨b, o, u, rfl, hb, hc, hnum⟩ := hr i hit
    clear hr
    have W : Hid (wy n to i = keep n to[i]) := (by unfold wy; rw [List.getD_eq_getElem?_getD, List.getElem?_eq_getElem hit]; rfl : wy n to i = keep n to[i])
    have hlen : to[i].length ≤ 200 := FW.out.2 i hit
    have W2 : Hid (∀ k (hk : k < to[i].length), keep n (to[i].take (k + 1)) = keep n (to[i].take k) ++ if 0 ≤ to[i][k] ∧ to[i][k] < (n : Int) then [to[i][k].toNat] else []) := fun k hk => keep_step n _ k hk
    generalize to[i] = l at *
    obtain ⟨A1, C1, rfl, hn1⟩ := hnum
    have HN : Hid (∀ i (h : i < l.length), ∃ b o, A1 = some ⟨b, o, none⟩ ∧ b < w.heap.size ∧ w.cell? ⟨b, o + i, none⟩ = some (.int .i64 l[i])) := hn1
    clear hn1
    go_enter Try.func24, Try.ntmps24
    go_wp2
    go_loopw [7, 8] (fun v i wr => ∃ k : Nat, k ≤ l.length ∧ i = .int .i64 (k : Int) ∧ ON w.heap.size (keep n (l.take k)) v wr ∧ Below w.heap.size w wr) (fun _ i _ => l.length - (intOf i).toNat)
    case atStart => exact ⟨0, by omega, rfl, by simpa [keep] using ON.empty (Nat.le_refl _), Below.refl _ _⟩
    case round =>
      obtain ⟨k, hk, rfl, hO, hB⟩ := hrel
      have O : Hid (ON w.heap.size (keep n (l.take k)) _ wr) := hO
      have NN : Hid (Below w.heap.size w wr) := hB
      have c0 : wr.cell? ⟨b, o + i, none⟩ = some (.slice A1 l.length C1) := (hB.cell (p := ⟨b, o + i, none⟩) hb).trans hc
      have LL : Hid ((keep n (l.take k)).length ≤ 10000) := (by have := keep_len n (l.take k); simp at this; omega : (keep n (l.take k)).length ≤ 10000)
      obtain ⟨Av, Cv, ev, -⟩ := hO.shape
      subst ev
      clear hO hB
      rcases Nat.lt_or_ge k l.length with hk' | hk'
      · have hkz : (k : Int) < l.length := by omega
        obtain ⟨b1, o1, rfl, hb1, hc1⟩ := HN.out k hk'
        have c1 : wr.cell? ⟨b1, o1 + k, none⟩ = some (.int .i64 l[k]) := (NN.out.cell (p := ⟨b1, o1 + k, none⟩) hb1).trans hc1
        have S := W2.out k hk'
        have S2 : Hid (keep n (l.take (k + 1)) = keep n (l.take k) ++ if 0 ≤ l[k] ∧ l[k] < (n : Int) then [l[k].toNat] else []) := S
        clear S hc1
        generalize l[k] = x at *
        by_cases q1 : 0 ≤ x
        · by_cases q2 : x < (n : Int)
          · obtain ⟨y, rfl⟩ : ∃ y : Nat, x = (y : Int) := ⟨x.toNat, by omega⟩
            have S3 : Hid (keep n (l.take (k + 1)) = keep n (l.take k) ++ [y]) := (by rw [S2.out, if_pos ⟨q1, q2⟩]; simp : keep n (l.take (k + 1)) = keep n (l.take k) ++ [y])
            go_wp2_with (refine ON.app _ rfl _ _ rfl _ rfl y (O.out.below (below_alloc _ _)) ⟨wr.heap.size, 0, none⟩ 1 rfl (fun j u hj => cells_new _ (iN y) 3 j u hj) LL.out ?_; intro v5 w5 ho hb _ _; have O5 : Hid (ON w.heap.size (keep n (l.take (k + 1))) v5 w5) := (by rw [S3.out]; exact ho); have N5 : Hid (Below w.heap.size w w5) := (below_next NN.out (below_alloc _ _)).trans hb; clear ho hb)
            go_roundw
            case rel => exact ⟨k + 1, by omega, by go_num, O5.out, N5.out⟩
            case measure => simp [intOf]; omega
          · have S3 : Hid (keep n (l.take (k + 1)) = keep n (l.take k)) := (by rw [S2.out, if_neg (by omega), List.append_nil] : keep n (l.take (k + 1)) = keep n (l.take k))
            go_wp2
            go_roundw
            case rel => exact ⟨k + 1, by omega, by go_num, by rw [S3.out]; exact O.out, NN.out⟩
            case measure => simp [intOf]; omega
        · have S3 : Hid (keep n (l.take (k + 1)) = keep n (l.take k)) := (by rw [S2.out, if_neg (by omega), List.append_nil] : keep n (l.take (k + 1)) = keep n (l.take k))
          go_wp2
          go_roundw
          case rel => exact ⟨k + 1, by omega, by go_num, by rw [S3.out]; exact O.out, NN.out⟩
          case measure => simp [intOf]; omega
      · have hkz : ¬ (k : Int) < l.length := by omega
        obtain rfl : k = l.length := by omega
        go_wp2
        go_ret
        exact ⟨_, rfl, by rw [W.out]; simpa using O.out, NN.out⟩
  · have hiz : ¬ (i : Int) < to.length := by omega
    have W : Hid (wy n to i = []) := (by unfold wy; rw [List.getD_eq_getElem?_getD, List.getElem?_eq_none (by omega)]; rfl : wy n to i = [])
    go_enter Try.func24, Try.ntmps24
    go_wp2
    go_loopw [7, 8] (fun v i wr => v = .slice none 0 0 ∧ i = .int .i64 0 ∧ wr = w) (fun _ _ _ => 0)
    case atStart => exact ⟨rfl, rfl, rfl⟩
    case round =>
      obtain ⟨rfl, rfl, hwr⟩ := hrel
      rw [hwr]
      clear hwr wr
      go_wp2
      go_ret
      exact ⟨_, rfl, by rw [W.out]; exact ON.empty (Nat.le_refl _), Below.refl _ _⟩
end Go.Proofs.Ytmmgdiecmokipaa
