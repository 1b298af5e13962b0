/-
  Proved: rows of rows of numbers that grow each in its place.
-/
import Derived.Test.YtmmgdiecmokipaaPwalk2
import Derived.Test.YtmmgdiecmokipaaGfrom
namespace Go.Proofs.Ytmmgdiecmokipaa
open Go.RowKit

def vC (vs : Nat → Value) (n : Nat) : Array Value := ((List.range n).map vs).toArray

theorem vC_get (vs : Nat → Value) (n i : Nat) : (vC vs n)[i]? = if i < n then some (vs i) else none := by
  unfold vC
  rw [List.getElem?_toArray, List.getElem?_map]
  split
  · rw [List.getElem?_range (by assumption)]; rfl
  · rw [List.getElem?_eq_none (by simp; omega)]; rfl
theorem vC_size (vs : Nat → Value) (n : Nat) : (vC vs n).size = n := by simp [vC]
theorem vC_set (vs : Nat → Value) (n j : Nat) (u : Value) (h : j < n) : (vC vs n).setIfInBounds j u = vC (pu vs j u) n := by
  apply Array.ext_getElem?
  intro i
  rw [Array.getElem?_setIfInBounds, vC_get, vC_get, vC_size]
  by_cases e : j = i
  · subst e
    simp [pu_self, h]
  · rw [if_neg e, pu_ne _ _ (fun h => e h.symm)]
theorem vC_made (z : Value) (n : Nat) : madeCells #[z] n = vC (fun _ => z) n := by
  apply Array.ext_getElem?
  intro i
  rw [vC_get]
  split
  · rename_i h
    rw [Array.getElem?_eq_getElem (by rw [size_madeCells]; exact h)]
    simp [madeCells, Nat.mod_one]
  · rename_i h
    rw [Array.getElem?_eq_none (by rw [size_madeCells]; omega)]

theorem infoRow : (Try.prog.info? 28).map (fun i => (i.zero, i.size, i.bytes)) = some (some (.slice none 0 0), 1, 24) := by kernel_rfl

theorem make_rr (n : Nat) (hn : n ≤ 1000) (w : World) : (Instr.makeSlice 22 (.int .i64 (n : Int)) (.int .i64 (n : Int))).run Try.prog w = .ok (.slice (some ⟨w.heap.size, 0, none⟩) n n) (w.alloc (.cells (madeCells #[.slice none 0 0] n) 28)) :=
  run_make_row' (P := Try.prog) 22 28 (.slice none 0 0) 24 Try.underlying22 infoRow rfl .i64 .i64 n (by omega) (by omega) w

/-- n rows in block B. -/
def RR (w : World) (B n : Nat) (vs : Nat → Value) (rows : Nat → List Nat) : Prop :=
  At w B (vC vs n) 28 ∧ (∀ i, i < n → ON (B + 1) (rows i) (vs i) w) ∧ ∀ i j, i < n → j < n → i ≠ j → Apt (vs i) (vs j)

section
variable {w w' : World} {B n : Nat} {vs : Nat → Value} {rows : Nat → List Nat}

theorem RR.lt (h : RR w B n vs rows) : B < w.heap.size := h.1.lt
theorem RR.cell (h : RR w B n vs rows) (i : Nat) (hi : i < n) : w.cell? ⟨B, i, none⟩ = some (vs i) := by
  rw [h.1.cell, vC_get, if_pos hi]
theorem RR.frozen (h : RR w B n vs rows) (i : Nat) : w.frozen? ⟨B, i, none⟩ = false := h.1.frozen i

/-- The blocks of rows. -/
def RRB (B n : Nat) (vs : Nat → Value) (b : Nat) : Prop := b = B ∨ ∃ i, i < n ∧ (vs i).ownBlock = some b

theorem RR.kp {G : Nat → Prop} (h : RR w B n vs rows) (k : Kp G w w') (hG : ∀ b, G b → ¬ RRB B n vs b) : RR w' B n vs rows :=
  ⟨k.at h.1 fun hg => hG _ hg (Or.inl rfl), fun i hi => OwnB.but (h.2.1 i hi) k fun b hb hg => hG b hg (Or.inr ⟨i, hi, hb⟩), h.2.2⟩

theorem RR.blk (h : RR w B n vs rows) {b : Nat} (hb : RRB B n vs b) : B ≤ b ∧ b < w.heap.size := by
  rcases hb with rfl | ⟨i, hi, hb⟩
  · exact ⟨Nat.le_refl _, h.lt⟩
  · have := (h.2.1 i hi).blk hb
    exact ⟨by omega, this.2.1⟩

theorem RR.made (w : World) (n : Nat) : RR (w.alloc (.cells (madeCells #[.slice none 0 0] n) 28)) w.heap.size n (fun _ => .slice none 0 0) (fun _ => []) := by
  rw [vC_made]
  refine ⟨At.new w _ _, fun i _ => ON.empty (by simp), fun i j _ _ _ b hb => by cases hb⟩

/-- One row is written anew, out of an append. -/
theorem RR.put {i y : Nat} {v' : Value} (h : RR w B n vs rows) (hi : i < n) (ho : ON (B + 1) (rows i ++ [y]) v' w') (hb : Below (B + 1) w w') (hk : ∀ k, k < w.heap.size → (vs i).ownBlock ≠ some k → w'.heap[k]? = w.heap[k]?) (hv : ∀ b, v'.ownBlock = some b → (vs i).ownBlock = some b ∨ w.heap.size ≤ b) :
    RR (w'.setCell ⟨B, i, none⟩ v') B n (pu vs i v') (pu rows i (rows i ++ [y])) := by
  obtain ⟨h1, h2, h3⟩ := h
  refine ⟨?_, fun j hj => ?_, fun j k hj hk' hjk => ?_⟩
  · have := (h1.below hb (by omega)).set (j := i) v'
    rwa [vC_set _ _ _ _ hi] at this
  · by_cases e : j = i
    · subst e
      rw [pu_self, pu_self]
      exact OwnB.set ho (by omega) _
    · rw [pu_ne _ _ e, pu_ne _ _ e]
      refine OwnB.set ?_ (by omega) _
      refine (h2 j hj).move hb.size fun b hb' => hk b ((h2 j hj).blk hb').2.1 ?_
      exact h3 j i hj hi e b hb'
  · by_cases e : j = i
    · subst e
      rw [pu_self, pu_ne _ _ (fun h => hjk h.symm)]
      intro b hb1 hb2
      rcases hv b hb1 with h | h
      · exact h3 j k hj hk' hjk b h hb2
      · have := ((h2 k hk').blk hb2).2.1
        omega
    · rw [pu_ne _ _ e]
      by_cases e2 : k = i
      · subst e2
        rw [pu_self]
        intro b hb1 hb2
        rcases hv b hb2 with h | h
        · exact h3 j k hj hk' hjk b hb1 h
        · have := ((h2 j hj).blk hb1).2.1
          omega
      · rw [pu_ne _ _ e2]
        exact h3 j k hj hk' hjk
end

theorem endsWith_c {base : Nat} {l : List Nat} {v : Value} {w : World} (h : ON base l v w) (b : Nat) (hl : l.length ≤ 100000) :
    Calls Try.prog 23 #[v, .int .i64 (b : Int)] w fun e w' => e = .returned (.bool (decide (l.getLast? = some b))) ∧ w' = w := by
  obtain ⟨A, C, rfl, hs⟩ := h.shape
  rcases List.eq_nil_or_concat l with rfl | ⟨r, x, rfl⟩
  · rw [decide_eq_false (by simp)]
    clear hs h
    go_enter Try.func23, Try.ntmps23
    go_wp2
    go_ret
    exact ⟨rfl, rfl⟩
  · rw [List.concat_eq_append] at *
    obtain ⟨D, rfl, -, -, -, hce⟩ := hs (by simp)
    have c0 := hce r.length (by simp)
    rw [show (r ++ [x])[r.length]'(by simp) = x by simp] at c0
    rw [List.length_append] at *
    clear hs h hce
    have hq : (decide ((r ++ [x]).getLast? = some b)) = ((x : Int) == (b : Int)) := by
      rw [List.getLast?_append]
      simp
      rw [Bool.eq_iff_iff]
      simp
      omega
    rw [hq]
    generalize r.length = p at *
    have hp : (0 : Int) < p + 1 := by omega
    go_enter Try.func23, Try.ntmps23
    go_wp2
    go_ret
    exact ⟨rfl, rfl⟩
end Go.Proofs.Ytmmgdiecmokipaa
