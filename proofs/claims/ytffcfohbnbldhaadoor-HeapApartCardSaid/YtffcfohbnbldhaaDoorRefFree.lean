/-
  Proved: what the reference's Free answers, and which blocks it holds then.
-/
import Derived.Test.YtffcfohbnbldhaaDoorRefAlloc
namespace Go.Proofs.YtffcfohbnbldhaaDoor
open Go.RowKit

def bsF (bs : List (Nat × Nat)) : Option Nat → List (Nat × Nat)
  | none => bs
  | some i => bs.take i ++ bs.drop (i + 1)
def feF : Option Nat → Int
  | none => 13
  | some _ => 0

theorem rows_part {w : World} {bs : List (Nat × Nat)} {B : Nat} (h : RowsIn w 3 bL bs (some ⟨B, 0, none⟩)) (n m : Nat) : ∀ j u, (((bs.drop n).take m).flatMap bL)[j]? = some u → w.cell? ((⟨B, n * 3, none⟩ : Addr).add j) = some u := by
  by_cases e : ((bs.drop n).take m).length = 0
  · intro j u hj
    rw [List.length_eq_zero_iff.1 e] at hj
    simp at hj
  · have h1 : RowsIn w 3 bL ((bs.drop n).take m) (some ⟨B, n * 3, none⟩) := by
      intro i hi
      have hi2 : n + i < bs.length := by simp at hi; omega
      obtain ⟨b, o, e1, h2⟩ := h (n + i) hi2
      injection e1 with e1
      injection e1 with e1 e2
      subst e1 e2
      refine ⟨B, n * 3, rfl, ?_⟩
      rw [show ((bs.drop n).take m)[i] = bs[n + i] by simp, show n * 3 + i * 3 = 0 + (n + i) * 3 by omega]
      exact h2
    obtain ⟨b, o, e1, h2⟩ := rows_all bL_len h1 (by omega)
    injection e1 with e1
    rw [e1]
    exact h2

theorem rfr_take {rb base : Nat} {bs : List (Nat × Nat)} {B C : Nat} (W : World) (h : RIn W rb base bs (.slice (some ⟨B, 0, none⟩) bs.length C)) (i : Nat) : ∀ j u, ((bs.take i).flatMap bL)[j]? = some u → (W.drew.alloc (.cells #[] 59)).cell? ((⟨B, 0, none⟩ : Addr).add j) = some u := by
  have h1 : OwnB 59 3 bL base bs (.slice (some ⟨B, 0, none⟩) bs.length C) (W.drew.alloc (.cells #[] 59)) := (h.2.below (below_drew _)).below (below_alloc _ _)
  have := rows_part (OwnB.rows bL_len h1) 0 i
  simpa using this

theorem rfr_one {rb base : Nat} {bs : List (Nat × Nat)} {B C : Nat} (W : World) (h : RIn W rb base bs (.slice (some ⟨B, 0, none⟩) bs.length C)) (i : Nat) (q : Addr) (hq : i + 1 < bs.length → q = ⟨B, (i + 1) * 3, none⟩) (v5 : Value) (w5 : World) (h5 : OwnB 59 3 bL W.heap.size ([] ++ bs.take i) v5 w5) (k5 : Below W.heap.size (W.drew.alloc (.cells #[] 59)) w5) :
    RIn w5 rb base bs (.slice (some ⟨B, 0, none⟩) bs.length C) ∧ Below W.heap.size W w5 ∧ OwnB 59 3 bL W.heap.size (bs.take i) v5 w5 ∧ (∀ j u, ((bs.drop (i + 1)).flatMap bL)[j]? = some u → w5.cell? (q.add j) = some u) := by
  have hb : Below W.heap.size W w5 := (below_next (below_drew W) (below_alloc _ _)).trans k5
  have hR := h.below hb
  refine ⟨hR, hb, by simpa using h5, ?_⟩
  by_cases e : i + 1 < bs.length
  · rw [hq e]
    have := rows_part (OwnB.rows bL_len hR.2) (i + 1) (bs.length - (i + 1))
    rw [List.take_of_length_le (by simp)] at this
    exact this
  · intro j u hj
    rw [List.drop_of_length_le (by omega)] at hj
    simp at hj

theorem rfr_two {rb base : Nat} {bs ns : List (Nat × Nat)} {lv : Value} (W : World) (h : RIn W rb base bs lv) (hrb : rb < base) (v6 : Value) (w5 w6 : World) (h1 : RIn w5 rb base bs lv) (h2 : Below W.heap.size W w5) (h3 : OwnB 59 3 bL W.heap.size ns v6 w6) (h4 : Below W.heap.size w5 w6) :
    RIn (w6.setCell ⟨rb, 0, none⟩ v6) rb base ns v6 ∧ Kp (Rs rb lv) W (w6.setCell ⟨rb, 0, none⟩ v6) ∧ At w6 rb #[lv] 28 := by
  have a2 : At w6 rb #[lv] 28 := h1.1.below h4 h.1.lt
  have h6 : OwnB 59 3 bL base ns v6 w6 := by
    refine ⟨Nat.le_trans h.2.1 h3.1, h3.2.1, ?_⟩
    rcases h3.2.2 with h5 | ⟨g, cap, cur, e1, e2, e3⟩
    · exact Or.inl h5
    · exact Or.inr ⟨g, cap, cur, e1, Nat.le_trans h.2.1 e2, e3⟩
  refine ⟨⟨?_, h6.set hrb _⟩, ?_, a2⟩
  · have := a2.set (j := 0) v6
    simpa using this
  · exact (Kp.of_below (h2.trans h4)).trans (Kp.set w6 0 v6 (Or.inl rfl))

set_option maxHeartbeats 4000000 in
theorem rfree0 {w : World} {rb base : Nat} {bs : List (Nat × Nat)} {B C : Nat} (h : RIn w rb base bs (.slice (some ⟨B, 0, none⟩) bs.length C)) (hl : bs.length ≤ 1000) (hrb : rb < base) (x : Int) (i : Nat) (hi : i < bs.length) (hcap : bs.length ≤ C) (hq : fx bs x = some i) (hC : C = i + 1) :
    Calls Tryd.prog 13 #[.pointer (some ⟨rb, 0, none⟩), .int .i64 x] w fun e w' => e = .returned (.int .i64 0) ∧ (∃ lv', RIn w' rb base (bs.take i ++ bs.drop (i + 1)) lv') ∧ Kp (Rs rb (.slice (some ⟨B, 0, none⟩) bs.length C)) w w' := by
  have HH : Hid (RIn w rb base bs (.slice (some ⟨B, 0, none⟩) bs.length C)) := h
  have FF : Hid (Calls Tryd.prog 22 #[.pointer (some ⟨rb, 0, none⟩), .int .i64 x] w fun e w' => e = .returned (.int .i64 (i : Int)) ∧ Below w.heap.size w w') := by
    have := rfind_c h hl x
    rw [hq] at this
    exact this
  have HCd : Hid (C = i + 1) := hC
  clear hC
  clear h hq
  have hiz : ¬ (i : Int) < 0 := by omega
  have hil : (i : Int) < (bs.length : Int) := by omega
  have hil1 : (i : Int) + 1 ≤ (bs.length : Int) := by omega
  have hic : (i : Int) ≤ (C : Int) := by omega
  have hic1 : ¬ C < i := by omega
  have hic2 : ¬ C = 0 := by omega
  have hin : ((i : Int) + 1).toNat = i + 1 := by omega
  go_enter Tryd.func13, Tryd.ntmps13
  go_wp2_with (go_at_call 22; refine FF.out.mono ?_; rintro e W ⟨rfl, hb⟩; have RW : Hid (RIn W rb base bs (.slice (some ⟨B, 0, none⟩) bs.length C)) := HH.out.below hb; have NW : Hid (Below w.heap.size w W) := hb; clear hb)
  have TL : Hid ((bs.take i).length = i) := (by simp; omega : (bs.take i).length = i)
  have DL : Hid ((bs.drop (i + 1)).length = bs.length - (i + 1)) := (by simp : (bs.drop (i + 1)).length = bs.length - (i + 1))
  have HC1 : Hid (([] : List (Nat × Nat)).length + (bs.take i).length ≤ 100000) := (by rw [TL.out]; simp; omega : ([] : List (Nat × Nat)).length + (bs.take i).length ≤ 100000)
  have HC2 : Hid ((bs.take i).length + (bs.drop (i + 1)).length ≤ 100000) := (by rw [TL.out, DL.out]; omega : (bs.take i).length + (bs.drop (i + 1)).length ≤ 100000)
  have T1 : Hid (∀ j u, ((bs.take i).flatMap bL)[j]? = some u → (W.drew.alloc (.cells #[] 59)).cell? ((⟨B, 0, none⟩ : Addr).add j) = some u) := rfr_take W RW.out i
  have F5F : Hid (∀ v5 w5, OwnB 59 3 bL W.heap.size ([] ++ bs.take i) v5 w5 → Below W.heap.size (W.drew.alloc (.cells #[] 59)) w5 → RIn w5 rb base bs (.slice (some ⟨B, 0, none⟩) bs.length C) ∧ Below W.heap.size W w5 ∧ OwnB 59 3 bL W.heap.size (bs.take i) v5 w5 ∧ (∀ j u, ((bs.drop (i + 1)).flatMap bL)[j]? = some u → w5.cell? ((⟨B, 0, none⟩ : Addr).add j) = some u)) := fun v5 w5 h5 k5 => rfr_one W RW.out i (⟨B, 0, none⟩ : Addr) (fun h => by have := HCd.out; omega) v5 w5 h5 k5
  have F6F : Hid (∀ v6 w5 w6, RIn w5 rb base bs (.slice (some ⟨B, 0, none⟩) bs.length C) → Below W.heap.size W w5 → OwnB 59 3 bL W.heap.size (bs.take i ++ bs.drop (i + 1)) v6 w6 → Below W.heap.size w5 w6 → RIn (w6.setCell ⟨rb, 0, none⟩ v6) rb base (bs.take i ++ bs.drop (i + 1)) v6 ∧ Kp (Rs rb (.slice (some ⟨B, 0, none⟩) bs.length C)) W (w6.setCell ⟨rb, 0, none⟩ v6) ∧ At w6 rb #[.slice (some ⟨B, 0, none⟩) bs.length C] 28) := fun v6 w5 w6 h1 h2 h3 h4 => rfr_two W RW.out hrb v6 w5 w6 h1 h2 h3 h4
  have c0 := RW.out.1.cell 0
  have c3 := RW.out.1.lt
  simp at c0
  refine wp_region_any (by kernel_rfl) ?_
  change wpAny _ _ _ _ _ _ _ (World.drew _)
  refine wpAny_take (i := 0) (v := .pointer (some ⟨rb, 0, none⟩)) rfl (by kernel_rfl) (by kernel_rfl) (by kernel_rfl) (fun _ _ _ h => h) (Or.inl ⟨by rfl, ?_⟩) ?_
  · intro w'; go_simp
  (try simp only [Act.put, List.getElem_toArray, List.getElem_cons_zero, List.setIfInBounds_toArray, List.set_cons_zero, List.set_cons_succ])
  refine wpAny_take (i := 2) (v := .pointer (some ⟨rb, 0, none⟩)) rfl (by kernel_rfl) (by kernel_rfl) (by kernel_rfl) (fun _ _ _ h => h) (Or.inl ⟨by rfl, ?_⟩) ?_
  · intro w'; go_simp
  (try simp only [Act.put, List.getElem_toArray, List.getElem_cons_succ, List.getElem_cons_zero, List.setIfInBounds_toArray, List.set_cons_zero, List.set_cons_succ])
  refine wpAny_take (i := 3) (v := .pointer (some ⟨rb, 0, none⟩)) rfl (by kernel_rfl) (by kernel_rfl) (by kernel_rfl) (fun _ _ _ h => h) (Or.inl ⟨by rfl, ?_⟩) ?_
  · intro w'; go_simp
  (try simp only [Act.put, List.getElem_toArray, List.getElem_cons_succ, List.getElem_cons_zero, List.setIfInBounds_toArray, List.set_cons_zero, List.set_cons_succ])
  refine wpAny_take (i := 4) (v := .pointer (some ⟨rb, 0, none⟩)) rfl (by kernel_rfl) (by kernel_rfl) (by kernel_rfl) (fun _ _ _ h => h) (Or.inl ⟨by rfl, ?_⟩) ?_
  · intro w'; go_simp
  (try simp only [Act.put, List.getElem_toArray, List.getElem_cons_succ, List.getElem_cons_zero, List.setIfInBounds_toArray, List.set_cons_zero, List.set_cons_succ])
  refine wpAny_take (i := 6) (v := .int .i64 (i : Int)) rfl (by kernel_rfl) (by kernel_rfl) (by kernel_rfl) (fun _ _ _ h => h) (Or.inl ⟨by rfl, ?_⟩) ?_
  · intro w'; go_simp
  (try simp only [Act.put, List.getElem_toArray, List.getElem_cons_succ, List.getElem_cons_zero, List.setIfInBounds_toArray, List.set_cons_zero, List.set_cons_succ])
  refine wpAny_take (i := 9) (v := .pointer (some ⟨rb, 0, none⟩)) rfl (by kernel_rfl) (by kernel_rfl) (by kernel_rfl) (fun _ _ _ h => h) (Or.inl ⟨by rfl, ?_⟩) ?_
  · intro w'; go_simp
  (try simp only [Act.put, List.getElem_toArray, List.getElem_cons_succ, List.getElem_cons_zero, List.setIfInBounds_toArray, List.set_cons_zero, List.set_cons_succ])
  refine wpAny_take (i := 10) (v := .pointer (some ⟨rb, 0, none⟩)) rfl (by kernel_rfl) (by kernel_rfl) (by kernel_rfl) (fun _ _ _ h => h) (Or.inl ⟨by rfl, ?_⟩) ?_
  · intro w'; go_simp
  (try simp only [Act.put, List.getElem_toArray, List.getElem_cons_succ, List.getElem_cons_zero, List.setIfInBounds_toArray, List.set_cons_zero, List.set_cons_succ])
  refine wpAny_take (i := 11) (v := .pointer (some ⟨rb, 0, none⟩)) rfl (by kernel_rfl) (by kernel_rfl) (by kernel_rfl) (fun _ _ _ h => h) (Or.inl ⟨by rfl, ?_⟩) ?_
  · intro w'; go_simp
  (try simp only [Act.put, List.getElem_toArray, List.getElem_cons_succ, List.getElem_cons_zero, List.setIfInBounds_toArray, List.set_cons_zero, List.set_cons_succ])
  refine wpAny_take (i := 13) (v := .int .i64 (i : Int)) rfl (by kernel_rfl) (by kernel_rfl) (by kernel_rfl) (fun _ _ _ h => h) (Or.inl ⟨by rfl, ?_⟩) ?_
  · intro w'; go_simp
  (try simp only [Act.put, List.getElem_toArray, List.getElem_cons_succ, List.getElem_cons_zero, List.setIfInBounds_toArray, List.set_cons_zero, List.set_cons_succ])
  refine wpAny_take (i := 14) (v := .int .i64 ((i : Int) + 1)) rfl (by kernel_rfl) (by kernel_rfl) (by kernel_rfl) (fun _ _ _ h => h) (Or.inl ⟨by rfl, ?_⟩) ?_
  · intro w'; go_simp; exact wrap_in _ ⟨by omega, by omega⟩
  (try simp only [Act.put, List.getElem_toArray, List.getElem_cons_succ, List.getElem_cons_zero, List.setIfInBounds_toArray, List.set_cons_zero, List.set_cons_succ])
  refine wpAny_ready (rs := [1, 5, 12]) (by kernel_rfl) (by simp) ?_
  refine AllReady.cons rfl (fun K hK => ?_) (AllReady.cons rfl (fun K hK => ?_) (AllReady.cons rfl (fun K hK => ?_) AllReady.nil))
  · go_simp
    refine hK _ _ ?_; clear hK K
    (try simp only [Act.put, List.getElem_toArray, List.getElem_cons_succ, List.getElem_cons_zero, List.setIfInBounds_toArray, List.set_cons_zero, List.set_cons_succ])
    have EA : Hid (OwnB 59 3 bL W.heap.size [] (.slice (some ⟨W.heap.size, 0, none⟩) 0 0) (W.drew.alloc (.cells #[] 59))) := OwnB.fresh (At.newS _ _ _ rfl) (Nat.le_refl _)
    refine wpAny_ready (rs := [5, 12]) (by kernel_rfl) (by simp) ?_
    refine AllReady.cons rfl (fun K hK => ?_) (AllReady.cons rfl (fun K hK => ?_) AllReady.nil)
    · go_simp
      refine hK _ _ ?_; clear hK K
      (try simp only [Act.put, List.getElem_toArray, List.getElem_cons_succ, List.getElem_cons_zero, List.setIfInBounds_toArray, List.set_cons_zero, List.set_cons_succ])
      refine wpAny_take (i := 7) (v := .slice (some ⟨B, 0, none⟩) i C) rfl (by kernel_rfl) (by kernel_rfl) (by kernel_rfl) (fun _ _ _ h => h) (Or.inl ⟨by rfl, ?_⟩) ?_
      · intro w'; go_simp
      (try simp only [Act.put, List.getElem_toArray, List.getElem_cons_succ, List.getElem_cons_zero, List.setIfInBounds_toArray, List.set_cons_zero, List.set_cons_succ])
      refine wpAny_ready (rs := [8, 12]) (by kernel_rfl) (by simp) ?_
      refine AllReady.cons rfl (fun K hK => ?_) (AllReady.cons rfl (fun K hK => ?_) AllReady.nil)
      · rw [if_pos (by rfl)]
        refine OwnB.append 26 59 bL _ 3 24 info59 Tryd.underlying26 rfl (by decide) (by decide) bL_len bL_one _ _ _ rfl _ rfl W.heap.size [] (bs.take i) EA.out ⟨B, 0, none⟩ C (by rw [TL.out]; rfl) T1.out HC1.out ?_
        intro v5 w5 h5 k5
        obtain ⟨A5, C5, rfl, _⟩ := h5.done bL_len
        have F5 : Hid (RIn w5 rb base bs (.slice (some ⟨B, 0, none⟩) bs.length C) ∧ Below W.heap.size W w5 ∧ OwnB 59 3 bL W.heap.size (bs.take i) (.slice A5 ([] ++ bs.take i).length C5) w5 ∧ (∀ j u, ((bs.drop (i + 1)).flatMap bL)[j]? = some u → w5.cell? ((⟨B, 0, none⟩ : Addr).add j) = some u)) := F5F.out _ _ h5 k5
        have z0 := F5.out.1.1.cell 0
        have z3 := F5.out.1.1.lt
        simp at z0
        clear h5 k5
        generalize ([] ++ bs.take i).length = LN at F5 ⊢
        refine hK _ _ ?_; clear hK K
        (try simp only [Act.put, List.getElem_toArray, List.getElem_cons_succ, List.getElem_cons_zero, List.setIfInBounds_toArray, List.set_cons_zero, List.set_cons_succ])
        refine wpAny_ready (rs := [12]) (by kernel_rfl) (by simp) ?_
        refine AllReady.cons rfl (fun K hK => ?_) AllReady.nil
        go_simp
        refine hK _ _ ?_; clear hK K
        (try simp only [Act.put, List.getElem_toArray, List.getElem_cons_succ, List.getElem_cons_zero, List.setIfInBounds_toArray, List.set_cons_zero, List.set_cons_succ])
        refine wpAny_take (i := 15) (v := .slice (some ⟨B, 0, none⟩) (bs.length - (i + 1)) (C - (i + 1))) rfl (by kernel_rfl) (by kernel_rfl) (by kernel_rfl) (fun _ _ _ h => h) (Or.inl ⟨by rfl, ?_⟩) ?_
        · intro w'; go_simp; rw [if_pos (by omega), if_pos HCd.out]
        (try simp only [Act.put, List.getElem_toArray, List.getElem_cons_succ, List.getElem_cons_zero, List.setIfInBounds_toArray, List.set_cons_zero, List.set_cons_succ])
        refine wpAny_ready (rs := [16]) (by kernel_rfl) (by simp) ?_
        refine AllReady.cons rfl (fun K hK => ?_) AllReady.nil
        rw [if_pos (by rfl)]
        refine OwnB.append 26 59 bL _ 3 24 info59 Tryd.underlying26 rfl (by decide) (by decide) bL_len bL_one _ _ _ rfl _ rfl W.heap.size (bs.take i) (bs.drop (i + 1)) F5.out.2.2.1 (⟨B, 0, none⟩ : Addr) (C - (i + 1)) (by rw [DL.out]; rfl) F5.out.2.2.2 HC2.out ?_
        intro v6 w6 h6 k6
        obtain ⟨A6, C6, rfl, _⟩ := h6.done bL_len
        have F6 : Hid (RIn (w6.setCell ⟨rb, 0, none⟩ (.slice A6 (bs.take i ++ bs.drop (i + 1)).length C6)) rb base (bs.take i ++ bs.drop (i + 1)) (.slice A6 (bs.take i ++ bs.drop (i + 1)).length C6) ∧ Kp (Rs rb (.slice (some ⟨B, 0, none⟩) bs.length C)) W (w6.setCell ⟨rb, 0, none⟩ (.slice A6 (bs.take i ++ bs.drop (i + 1)).length C6)) ∧ At w6 rb #[.slice (some ⟨B, 0, none⟩) bs.length C] 28) := F6F.out _ _ _ F5.out.1 F5.out.2.1 h6 k6
        have y0 := F6.out.2.2.cell 0
        have y1 := F6.out.2.2.frozen 0
        have y3 := F6.out.2.2.lt
        clear h6 k6
        generalize (bs.take i ++ bs.drop (i + 1)).length = LM at F6 ⊢
        refine hK _ _ ?_; clear hK K
        (try simp only [Act.put, List.getElem_toArray, List.getElem_cons_succ, List.getElem_cons_zero, List.setIfInBounds_toArray, List.set_cons_zero, List.set_cons_succ])
        refine wpAny_take (i := 17) (v := .pointer (some ⟨rb, 0, none⟩)) rfl (by kernel_rfl) (by kernel_rfl) (by kernel_rfl) (fun _ _ _ h => h) (Or.inl ⟨by rfl, ?_⟩) ?_
        · intro w'; go_simp
        (try simp only [Act.put, List.getElem_toArray, List.getElem_cons_succ, List.getElem_cons_zero, List.setIfInBounds_toArray, List.set_cons_zero, List.set_cons_succ])
        refine wpAny_take (i := 18) (v := .pointer (some ⟨rb, 0, none⟩)) rfl (by kernel_rfl) (by kernel_rfl) (by kernel_rfl) (fun _ _ _ h => h) (Or.inl ⟨by rfl, ?_⟩) ?_
        · intro w'; go_simp
        (try simp only [Act.put, List.getElem_toArray, List.getElem_cons_succ, List.getElem_cons_zero, List.setIfInBounds_toArray, List.set_cons_zero, List.set_cons_succ])
        refine wpAny_ready (rs := [19]) (by kernel_rfl) (by simp) ?_
        refine AllReady.cons rfl (fun K hK => ?_) AllReady.nil
        go_simp
        refine hK _ _ ?_; clear hK K
        (try simp only [Act.put, List.getElem_toArray, List.getElem_cons_succ, List.getElem_cons_zero, List.setIfInBounds_toArray, List.set_cons_zero, List.set_cons_succ])
        refine wpAny_done (by kernel_rfl) ?_ _
        generalize w6.setCell ⟨rb, 0, none⟩ (.slice A6 LM C6) = w7 at *
        go_wp2
        go_ret
        exact ⟨rfl, ⟨_, F6.out.1⟩, (Kp.of_below NW.out).trans F6.out.2.1⟩
      · go_simp
        refine hK _ _ ?_; clear hK K
        (try simp only [Act.put, List.getElem_toArray, List.getElem_cons_succ, List.getElem_cons_zero, List.setIfInBounds_toArray, List.set_cons_zero, List.set_cons_succ])
        refine wpAny_take (i := 15) (v := .slice (some ⟨B, 0, none⟩) (bs.length - (i + 1)) (C - (i + 1))) rfl (by kernel_rfl) (by kernel_rfl) (by kernel_rfl) (fun _ _ _ h => h) (Or.inl ⟨by rfl, ?_⟩) ?_
        · intro w'; go_simp; rw [if_pos (by omega), if_pos HCd.out]
        (try simp only [Act.put, List.getElem_toArray, List.getElem_cons_succ, List.getElem_cons_zero, List.setIfInBounds_toArray, List.set_cons_zero, List.set_cons_succ])
        refine wpAny_ready (rs := [8]) (by kernel_rfl) (by simp) ?_
        refine AllReady.cons rfl (fun K hK => ?_) AllReady.nil
        rw [if_pos (by rfl)]
        refine OwnB.append 26 59 bL _ 3 24 info59 Tryd.underlying26 rfl (by decide) (by decide) bL_len bL_one _ _ _ rfl _ rfl W.heap.size [] (bs.take i) EA.out ⟨B, 0, none⟩ C (by rw [TL.out]; rfl) T1.out HC1.out ?_
        intro v5 w5 h5 k5
        obtain ⟨A5, C5, rfl, _⟩ := h5.done bL_len
        have F5 : Hid (RIn w5 rb base bs (.slice (some ⟨B, 0, none⟩) bs.length C) ∧ Below W.heap.size W w5 ∧ OwnB 59 3 bL W.heap.size (bs.take i) (.slice A5 ([] ++ bs.take i).length C5) w5 ∧ (∀ j u, ((bs.drop (i + 1)).flatMap bL)[j]? = some u → w5.cell? ((⟨B, 0, none⟩ : Addr).add j) = some u)) := F5F.out _ _ h5 k5
        have z0 := F5.out.1.1.cell 0
        have z3 := F5.out.1.1.lt
        simp at z0
        clear h5 k5
        generalize ([] ++ bs.take i).length = LN at F5 ⊢
        refine hK _ _ ?_; clear hK K
        (try simp only [Act.put, List.getElem_toArray, List.getElem_cons_succ, List.getElem_cons_zero, List.setIfInBounds_toArray, List.set_cons_zero, List.set_cons_succ])
        refine wpAny_ready (rs := [16]) (by kernel_rfl) (by simp) ?_
        refine AllReady.cons rfl (fun K hK => ?_) AllReady.nil
        rw [if_pos (by rfl)]
        refine OwnB.append 26 59 bL _ 3 24 info59 Tryd.underlying26 rfl (by decide) (by decide) bL_len bL_one _ _ _ rfl _ rfl W.heap.size (bs.take i) (bs.drop (i + 1)) F5.out.2.2.1 (⟨B, 0, none⟩ : Addr) (C - (i + 1)) (by rw [DL.out]; rfl) F5.out.2.2.2 HC2.out ?_
        intro v6 w6 h6 k6
        obtain ⟨A6, C6, rfl, _⟩ := h6.done bL_len
        have F6 : Hid (RIn (w6.setCell ⟨rb, 0, none⟩ (.slice A6 (bs.take i ++ bs.drop (i + 1)).length C6)) rb base (bs.take i ++ bs.drop (i + 1)) (.slice A6 (bs.take i ++ bs.drop (i + 1)).length C6) ∧ Kp (Rs rb (.slice (some ⟨B, 0, none⟩) bs.length C)) W (w6.setCell ⟨rb, 0, none⟩ (.slice A6 (bs.take i ++ bs.drop (i + 1)).length C6)) ∧ At w6 rb #[.slice (some ⟨B, 0, none⟩) bs.length C] 28) := F6F.out _ _ _ F5.out.1 F5.out.2.1 h6 k6
        have y0 := F6.out.2.2.cell 0
        have y1 := F6.out.2.2.frozen 0
        have y3 := F6.out.2.2.lt
        clear h6 k6
        generalize (bs.take i ++ bs.drop (i + 1)).length = LM at F6 ⊢
        refine hK _ _ ?_; clear hK K
        (try simp only [Act.put, List.getElem_toArray, List.getElem_cons_succ, List.getElem_cons_zero, List.setIfInBounds_toArray, List.set_cons_zero, List.set_cons_succ])
        refine wpAny_take (i := 17) (v := .pointer (some ⟨rb, 0, none⟩)) rfl (by kernel_rfl) (by kernel_rfl) (by kernel_rfl) (fun _ _ _ h => h) (Or.inl ⟨by rfl, ?_⟩) ?_
        · intro w'; go_simp
        (try simp only [Act.put, List.getElem_toArray, List.getElem_cons_succ, List.getElem_cons_zero, List.setIfInBounds_toArray, List.set_cons_zero, List.set_cons_succ])
        refine wpAny_take (i := 18) (v := .pointer (some ⟨rb, 0, none⟩)) rfl (by kernel_rfl) (by kernel_rfl) (by kernel_rfl) (fun _ _ _ h => h) (Or.inl ⟨by rfl, ?_⟩) ?_
        · intro w'; go_simp
        (try simp only [Act.put, List.getElem_toArray, List.getElem_cons_succ, List.getElem_cons_zero, List.setIfInBounds_toArray, List.set_cons_zero, List.set_cons_succ])
        refine wpAny_ready (rs := [19]) (by kernel_rfl) (by simp) ?_
        refine AllReady.cons rfl (fun K hK => ?_) AllReady.nil
        go_simp
        refine hK _ _ ?_; clear hK K
        (try simp only [Act.put, List.getElem_toArray, List.getElem_cons_succ, List.getElem_cons_zero, List.setIfInBounds_toArray, List.set_cons_zero, List.set_cons_succ])
        refine wpAny_done (by kernel_rfl) ?_ _
        generalize w6.setCell ⟨rb, 0, none⟩ (.slice A6 LM C6) = w7 at *
        go_wp2
        go_ret
        exact ⟨rfl, ⟨_, F6.out.1⟩, (Kp.of_below NW.out).trans F6.out.2.1⟩
    · go_simp
      refine hK _ _ ?_; clear hK K
      (try simp only [Act.put, List.getElem_toArray, List.getElem_cons_succ, List.getElem_cons_zero, List.setIfInBounds_toArray, List.set_cons_zero, List.set_cons_succ])
      refine wpAny_take (i := 15) (v := .slice (some ⟨B, 0, none⟩) (bs.length - (i + 1)) (C - (i + 1))) rfl (by kernel_rfl) (by kernel_rfl) (by kernel_rfl) (fun _ _ _ h => h) (Or.inl ⟨by rfl, ?_⟩) ?_
      · intro w'; go_simp; rw [if_pos (by omega), if_pos HCd.out]
      (try simp only [Act.put, List.getElem_toArray, List.getElem_cons_succ, List.getElem_cons_zero, List.setIfInBounds_toArray, List.set_cons_zero, List.set_cons_succ])
      refine wpAny_ready (rs := [5]) (by kernel_rfl) (by simp) ?_
      refine AllReady.cons rfl (fun K hK => ?_) AllReady.nil
      go_simp
      refine hK _ _ ?_; clear hK K
      (try simp only [Act.put, List.getElem_toArray, List.getElem_cons_succ, List.getElem_cons_zero, List.setIfInBounds_toArray, List.set_cons_zero, List.set_cons_succ])
      refine wpAny_take (i := 7) (v := .slice (some ⟨B, 0, none⟩) i C) rfl (by kernel_rfl) (by kernel_rfl) (by kernel_rfl) (fun _ _ _ h => h) (Or.inl ⟨by rfl, ?_⟩) ?_
      · intro w'; go_simp
      (try simp only [Act.put, List.getElem_toArray, List.getElem_cons_succ, List.getElem_cons_zero, List.setIfInBounds_toArray, List.set_cons_zero, List.set_cons_succ])
      refine wpAny_ready (rs := [8]) (by kernel_rfl) (by simp) ?_
      refine AllReady.cons rfl (fun K hK => ?_) AllReady.nil
      rw [if_pos (by rfl)]
      refine OwnB.append 26 59 bL _ 3 24 info59 Tryd.underlying26 rfl (by decide) (by decide) bL_len bL_one _ _ _ rfl _ rfl W.heap.size [] (bs.take i) EA.out ⟨B, 0, none⟩ C (by rw [TL.out]; rfl) T1.out HC1.out ?_
      intro v5 w5 h5 k5
      obtain ⟨A5, C5, rfl, _⟩ := h5.done bL_len
      have F5 : Hid (RIn w5 rb base bs (.slice (some ⟨B, 0, none⟩) bs.length C) ∧ Below W.heap.size W w5 ∧ OwnB 59 3 bL W.heap.size (bs.take i) (.slice A5 ([] ++ bs.take i).length C5) w5 ∧ (∀ j u, ((bs.drop (i + 1)).flatMap bL)[j]? = some u → w5.cell? ((⟨B, 0, none⟩ : Addr).add j) = some u)) := F5F.out _ _ h5 k5
      have z0 := F5.out.1.1.cell 0
      have z3 := F5.out.1.1.lt
      simp at z0
      clear h5 k5
      generalize ([] ++ bs.take i).length = LN at F5 ⊢
      refine hK _ _ ?_; clear hK K
      (try simp only [Act.put, List.getElem_toArray, List.getElem_cons_succ, List.getElem_cons_zero, List.setIfInBounds_toArray, List.set_cons_zero, List.set_cons_succ])
      refine wpAny_ready (rs := [16]) (by kernel_rfl) (by simp) ?_
      refine AllReady.cons rfl (fun K hK => ?_) AllReady.nil
      rw [if_pos (by rfl)]
      refine OwnB.append 26 59 bL _ 3 24 info59 Tryd.underlying26 rfl (by decide) (by decide) bL_len bL_one _ _ _ rfl _ rfl W.heap.size (bs.take i) (bs.drop (i + 1)) F5.out.2.2.1 (⟨B, 0, none⟩ : Addr) (C - (i + 1)) (by rw [DL.out]; rfl) F5.out.2.2.2 HC2.out ?_
      intro v6 w6 h6 k6
      obtain ⟨A6, C6, rfl, _⟩ := h6.done bL_len
      have F6 : Hid (RIn (w6.setCell ⟨rb, 0, none⟩ (.slice A6 (bs.take i ++ bs.drop (i + 1)).length C6)) rb base (bs.take i ++ bs.drop (i + 1)) (.slice A6 (bs.take i ++ bs.drop (i + 1)).length C6) ∧ Kp (Rs rb (.slice (some ⟨B, 0, none⟩) bs.length C)) W (w6.setCell ⟨rb, 0, none⟩ (.slice A6 (bs.take i ++ bs.drop (i + 1)).length C6)) ∧ At w6 rb #[.slice (some ⟨B, 0, none⟩) bs.length C] 28) := F6F.out _ _ _ F5.out.1 F5.out.2.1 h6 k6
      have y0 := F6.out.2.2.cell 0
      have y1 := F6.out.2.2.frozen 0
      have y3 := F6.out.2.2.lt
      clear h6 k6
      generalize (bs.take i ++ bs.drop (i + 1)).length = LM at F6 ⊢
      refine hK _ _ ?_; clear hK K
      (try simp only [Act.put, List.getElem_toArray, List.getElem_cons_succ, List.getElem_cons_zero, List.setIfInBounds_toArray, List.set_cons_zero, List.set_cons_succ])
      refine wpAny_take (i := 17) (v := .pointer (some ⟨rb, 0, none⟩)) rfl (by kernel_rfl) (by kernel_rfl) (by kernel_rfl) (fun _ _ _ h => h) (Or.inl ⟨by rfl, ?_⟩) ?_
      · intro w'; go_simp
      (try simp only [Act.put, List.getElem_toArray, List.getElem_cons_succ, List.getElem_cons_zero, List.setIfInBounds_toArray, List.set_cons_zero, List.set_cons_succ])
      refine wpAny_take (i := 18) (v := .pointer (some ⟨rb, 0, none⟩)) rfl (by kernel_rfl) (by kernel_rfl) (by kernel_rfl) (fun _ _ _ h => h) (Or.inl ⟨by rfl, ?_⟩) ?_
      · intro w'; go_simp
      (try simp only [Act.put, List.getElem_toArray, List.getElem_cons_succ, List.getElem_cons_zero, List.setIfInBounds_toArray, List.set_cons_zero, List.set_cons_succ])
      refine wpAny_ready (rs := [19]) (by kernel_rfl) (by simp) ?_
      refine AllReady.cons rfl (fun K hK => ?_) AllReady.nil
      go_simp
      refine hK _ _ ?_; clear hK K
      (try simp only [Act.put, List.getElem_toArray, List.getElem_cons_succ, List.getElem_cons_zero, List.setIfInBounds_toArray, List.set_cons_zero, List.set_cons_succ])
      refine wpAny_done (by kernel_rfl) ?_ _
      generalize w6.setCell ⟨rb, 0, none⟩ (.slice A6 LM C6) = w7 at *
      go_wp2
      go_ret
      exact ⟨rfl, ⟨_, F6.out.1⟩, (Kp.of_below NW.out).trans F6.out.2.1⟩
  · go_simp
    refine hK _ _ ?_; clear hK K
    (try simp only [Act.put, List.getElem_toArray, List.getElem_cons_succ, List.getElem_cons_zero, List.setIfInBounds_toArray, List.set_cons_zero, List.set_cons_succ])
    refine wpAny_take (i := 7) (v := .slice (some ⟨B, 0, none⟩) i C) rfl (by kernel_rfl) (by kernel_rfl) (by kernel_rfl) (fun _ _ _ h => h) (Or.inl ⟨by rfl, ?_⟩) ?_
    · intro w'; go_simp
    (try simp only [Act.put, List.getElem_toArray, List.getElem_cons_succ, List.getElem_cons_zero, List.setIfInBounds_toArray, List.set_cons_zero, List.set_cons_succ])
    refine wpAny_ready (rs := [1, 12]) (by kernel_rfl) (by simp) ?_
    refine AllReady.cons rfl (fun K hK => ?_) (AllReady.cons rfl (fun K hK => ?_) AllReady.nil)
    · go_simp
      refine hK _ _ ?_; clear hK K
      (try simp only [Act.put, List.getElem_toArray, List.getElem_cons_succ, List.getElem_cons_zero, List.setIfInBounds_toArray, List.set_cons_zero, List.set_cons_succ])
      have EA : Hid (OwnB 59 3 bL W.heap.size [] (.slice (some ⟨W.heap.size, 0, none⟩) 0 0) (W.drew.alloc (.cells #[] 59))) := OwnB.fresh (At.newS _ _ _ rfl) (Nat.le_refl _)
      refine wpAny_ready (rs := [8, 12]) (by kernel_rfl) (by simp) ?_
      refine AllReady.cons rfl (fun K hK => ?_) (AllReady.cons rfl (fun K hK => ?_) AllReady.nil)
      · rw [if_pos (by rfl)]
        refine OwnB.append 26 59 bL _ 3 24 info59 Tryd.underlying26 rfl (by decide) (by decide) bL_len bL_one _ _ _ rfl _ rfl W.heap.size [] (bs.take i) EA.out ⟨B, 0, none⟩ C (by rw [TL.out]; rfl) T1.out HC1.out ?_
        intro v5 w5 h5 k5
        obtain ⟨A5, C5, rfl, _⟩ := h5.done bL_len
        have F5 : Hid (RIn w5 rb base bs (.slice (some ⟨B, 0, none⟩) bs.length C) ∧ Below W.heap.size W w5 ∧ OwnB 59 3 bL W.heap.size (bs.take i) (.slice A5 ([] ++ bs.take i).length C5) w5 ∧ (∀ j u, ((bs.drop (i + 1)).flatMap bL)[j]? = some u → w5.cell? ((⟨B, 0, none⟩ : Addr).add j) = some u)) := F5F.out _ _ h5 k5
        have z0 := F5.out.1.1.cell 0
        have z3 := F5.out.1.1.lt
        simp at z0
        clear h5 k5
        generalize ([] ++ bs.take i).length = LN at F5 ⊢
        refine hK _ _ ?_; clear hK K
        (try simp only [Act.put, List.getElem_toArray, List.getElem_cons_succ, List.getElem_cons_zero, List.setIfInBounds_toArray, List.set_cons_zero, List.set_cons_succ])
        refine wpAny_ready (rs := [12]) (by kernel_rfl) (by simp) ?_
        refine AllReady.cons rfl (fun K hK => ?_) AllReady.nil
        go_simp
        refine hK _ _ ?_; clear hK K
        (try simp only [Act.put, List.getElem_toArray, List.getElem_cons_succ, List.getElem_cons_zero, List.setIfInBounds_toArray, List.set_cons_zero, List.set_cons_succ])
        refine wpAny_take (i := 15) (v := .slice (some ⟨B, 0, none⟩) (bs.length - (i + 1)) (C - (i + 1))) rfl (by kernel_rfl) (by kernel_rfl) (by kernel_rfl) (fun _ _ _ h => h) (Or.inl ⟨by rfl, ?_⟩) ?_
        · intro w'; go_simp; rw [if_pos (by omega), if_pos HCd.out]
        (try simp only [Act.put, List.getElem_toArray, List.getElem_cons_succ, List.getElem_cons_zero, List.setIfInBounds_toArray, List.set_cons_zero, List.set_cons_succ])
        refine wpAny_ready (rs := [16]) (by kernel_rfl) (by simp) ?_
        refine AllReady.cons rfl (fun K hK => ?_) AllReady.nil
        rw [if_pos (by rfl)]
        refine OwnB.append 26 59 bL _ 3 24 info59 Tryd.underlying26 rfl (by decide) (by decide) bL_len bL_one _ _ _ rfl _ rfl W.heap.size (bs.take i) (bs.drop (i + 1)) F5.out.2.2.1 (⟨B, 0, none⟩ : Addr) (C - (i + 1)) (by rw [DL.out]; rfl) F5.out.2.2.2 HC2.out ?_
        intro v6 w6 h6 k6
        obtain ⟨A6, C6, rfl, _⟩ := h6.done bL_len
        have F6 : Hid (RIn (w6.setCell ⟨rb, 0, none⟩ (.slice A6 (bs.take i ++ bs.drop (i + 1)).length C6)) rb base (bs.take i ++ bs.drop (i + 1)) (.slice A6 (bs.take i ++ bs.drop (i + 1)).length C6) ∧ Kp (Rs rb (.slice (some ⟨B, 0, none⟩) bs.length C)) W (w6.setCell ⟨rb, 0, none⟩ (.slice A6 (bs.take i ++ bs.drop (i + 1)).length C6)) ∧ At w6 rb #[.slice (some ⟨B, 0, none⟩) bs.length C] 28) := F6F.out _ _ _ F5.out.1 F5.out.2.1 h6 k6
        have y0 := F6.out.2.2.cell 0
        have y1 := F6.out.2.2.frozen 0
        have y3 := F6.out.2.2.lt
        clear h6 k6
        generalize (bs.take i ++ bs.drop (i + 1)).length = LM at F6 ⊢
        refine hK _ _ ?_; clear hK K
        (try simp only [Act.put, List.getElem_toArray, List.getElem_cons_succ, List.getElem_cons_zero, List.setIfInBounds_toArray, List.set_cons_zero, List.set_cons_succ])
        refine wpAny_take (i := 17) (v := .pointer (some ⟨rb, 0, none⟩)) rfl (by kernel_rfl) (by kernel_rfl) (by kernel_rfl) (fun _ _ _ h => h) (Or.inl ⟨by rfl, ?_⟩) ?_
        · intro w'; go_simp
        (try simp only [Act.put, List.getElem_toArray, List.getElem_cons_succ, List.getElem_cons_zero, List.setIfInBounds_toArray, List.set_cons_zero, List.set_cons_succ])
        refine wpAny_take (i := 18) (v := .pointer (some ⟨rb, 0, none⟩)) rfl (by kernel_rfl) (by kernel_rfl) (by kernel_rfl) (fun _ _ _ h => h) (Or.inl ⟨by rfl, ?_⟩) ?_
        · intro w'; go_simp
        (try simp only [Act.put, List.getElem_toArray, List.getElem_cons_succ, List.getElem_cons_zero, List.setIfInBounds_toArray, List.set_cons_zero, List.set_cons_succ])
        refine wpAny_ready (rs := [19]) (by kernel_rfl) (by simp) ?_
        refine AllReady.cons rfl (fun K hK => ?_) AllReady.nil
        go_simp
        refine hK _ _ ?_; clear hK K
        (try simp only [Act.put, List.getElem_toArray, List.getElem_cons_succ, List.getElem_cons_zero, List.setIfInBounds_toArray, List.set_cons_zero, List.set_cons_succ])
        refine wpAny_done (by kernel_rfl) ?_ _
        generalize w6.setCell ⟨rb, 0, none⟩ (.slice A6 LM C6) = w7 at *
        go_wp2
        go_ret
        exact ⟨rfl, ⟨_, F6.out.1⟩, (Kp.of_below NW.out).trans F6.out.2.1⟩
      · go_simp
        refine hK _ _ ?_; clear hK K
        (try simp only [Act.put, List.getElem_toArray, List.getElem_cons_succ, List.getElem_cons_zero, List.setIfInBounds_toArray, List.set_cons_zero, List.set_cons_succ])
        refine wpAny_take (i := 15) (v := .slice (some ⟨B, 0, none⟩) (bs.length - (i + 1)) (C - (i + 1))) rfl (by kernel_rfl) (by kernel_rfl) (by kernel_rfl) (fun _ _ _ h => h) (Or.inl ⟨by rfl, ?_⟩) ?_
        · intro w'; go_simp; rw [if_pos (by omega), if_pos HCd.out]
        (try simp only [Act.put, List.getElem_toArray, List.getElem_cons_succ, List.getElem_cons_zero, List.setIfInBounds_toArray, List.set_cons_zero, List.set_cons_succ])
        refine wpAny_ready (rs := [8]) (by kernel_rfl) (by simp) ?_
        refine AllReady.cons rfl (fun K hK => ?_) AllReady.nil
        rw [if_pos (by rfl)]
        refine OwnB.append 26 59 bL _ 3 24 info59 Tryd.underlying26 rfl (by decide) (by decide) bL_len bL_one _ _ _ rfl _ rfl W.heap.size [] (bs.take i) EA.out ⟨B, 0, none⟩ C (by rw [TL.out]; rfl) T1.out HC1.out ?_
        intro v5 w5 h5 k5
        obtain ⟨A5, C5, rfl, _⟩ := h5.done bL_len
        have F5 : Hid (RIn w5 rb base bs (.slice (some ⟨B, 0, none⟩) bs.length C) ∧ Below W.heap.size W w5 ∧ OwnB 59 3 bL W.heap.size (bs.take i) (.slice A5 ([] ++ bs.take i).length C5) w5 ∧ (∀ j u, ((bs.drop (i + 1)).flatMap bL)[j]? = some u → w5.cell? ((⟨B, 0, none⟩ : Addr).add j) = some u)) := F5F.out _ _ h5 k5
        have z0 := F5.out.1.1.cell 0
        have z3 := F5.out.1.1.lt
        simp at z0
        clear h5 k5
        generalize ([] ++ bs.take i).length = LN at F5 ⊢
        refine hK _ _ ?_; clear hK K
        (try simp only [Act.put, List.getElem_toArray, List.getElem_cons_succ, List.getElem_cons_zero, List.setIfInBounds_toArray, List.set_cons_zero, List.set_cons_succ])
        refine wpAny_ready (rs := [16]) (by kernel_rfl) (by simp) ?_
        refine AllReady.cons rfl (fun K hK => ?_) AllReady.nil
        rw [if_pos (by rfl)]
        refine OwnB.append 26 59 bL _ 3 24 info59 Tryd.underlying26 rfl (by decide) (by decide) bL_len bL_one _ _ _ rfl _ rfl W.heap.size (bs.take i) (bs.drop (i + 1)) F5.out.2.2.1 (⟨B, 0, none⟩ : Addr) (C - (i + 1)) (by rw [DL.out]; rfl) F5.out.2.2.2 HC2.out ?_
        intro v6 w6 h6 k6
        obtain ⟨A6, C6, rfl, _⟩ := h6.done bL_len
        have F6 : Hid (RIn (w6.setCell ⟨rb, 0, none⟩ (.slice A6 (bs.take i ++ bs.drop (i + 1)).length C6)) rb base (bs.take i ++ bs.drop (i + 1)) (.slice A6 (bs.take i ++ bs.drop (i + 1)).length C6) ∧ Kp (Rs rb (.slice (some ⟨B, 0, none⟩) bs.length C)) W (w6.setCell ⟨rb, 0, none⟩ (.slice A6 (bs.take i ++ bs.drop (i + 1)).length C6)) ∧ At w6 rb #[.slice (some ⟨B, 0, none⟩) bs.length C] 28) := F6F.out _ _ _ F5.out.1 F5.out.2.1 h6 k6
        have y0 := F6.out.2.2.cell 0
        have y1 := F6.out.2.2.frozen 0
        have y3 := F6.out.2.2.lt
        clear h6 k6
        generalize (bs.take i ++ bs.drop (i + 1)).length = LM at F6 ⊢
        refine hK _ _ ?_; clear hK K
        (try simp only [Act.put, List.getElem_toArray, List.getElem_cons_succ, List.getElem_cons_zero, List.setIfInBounds_toArray, List.set_cons_zero, List.set_cons_succ])
        refine wpAny_take (i := 17) (v := .pointer (some ⟨rb, 0, none⟩)) rfl (by kernel_rfl) (by kernel_rfl) (by kernel_rfl) (fun _ _ _ h => h) (Or.inl ⟨by rfl, ?_⟩) ?_
        · intro w'; go_simp
        (try simp only [Act.put, List.getElem_toArray, List.getElem_cons_succ, List.getElem_cons_zero, List.setIfInBounds_toArray, List.set_cons_zero, List.set_cons_succ])
        refine wpAny_take (i := 18) (v := .pointer (some ⟨rb, 0, none⟩)) rfl (by kernel_rfl) (by kernel_rfl) (by kernel_rfl) (fun _ _ _ h => h) (Or.inl ⟨by rfl, ?_⟩) ?_
        · intro w'; go_simp
        (try simp only [Act.put, List.getElem_toArray, List.getElem_cons_succ, List.getElem_cons_zero, List.setIfInBounds_toArray, List.set_cons_zero, List.set_cons_succ])
        refine wpAny_ready (rs := [19]) (by kernel_rfl) (by simp) ?_
        refine AllReady.cons rfl (fun K hK => ?_) AllReady.nil
        go_simp
        refine hK _ _ ?_; clear hK K
        (try simp only [Act.put, List.getElem_toArray, List.getElem_cons_succ, List.getElem_cons_zero, List.setIfInBounds_toArray, List.set_cons_zero, List.set_cons_succ])
        refine wpAny_done (by kernel_rfl) ?_ _
        generalize w6.setCell ⟨rb, 0, none⟩ (.slice A6 LM C6) = w7 at *
        go_wp2
        go_ret
        exact ⟨rfl, ⟨_, F6.out.1⟩, (Kp.of_below NW.out).trans F6.out.2.1⟩
    · go_simp
      refine hK _ _ ?_; clear hK K
      (try simp only [Act.put, List.getElem_toArray, List.getElem_cons_succ, List.getElem_cons_zero, List.setIfInBounds_toArray, List.set_cons_zero, List.set_cons_succ])
      refine wpAny_take (i := 15) (v := .slice (some ⟨B, 0, none⟩) (bs.length - (i + 1)) (C - (i + 1))) rfl (by kernel_rfl) (by kernel_rfl) (by kernel_rfl) (fun _ _ _ h => h) (Or.inl ⟨by rfl, ?_⟩) ?_
      · intro w'; go_simp; rw [if_pos (by omega), if_pos HCd.out]
      (try simp only [Act.put, List.getElem_toArray, List.getElem_cons_succ, List.getElem_cons_zero, List.setIfInBounds_toArray, List.set_cons_zero, List.set_cons_succ])
      refine wpAny_ready (rs := [1]) (by kernel_rfl) (by simp) ?_
      refine AllReady.cons rfl (fun K hK => ?_) AllReady.nil
      go_simp
      refine hK _ _ ?_; clear hK K
      (try simp only [Act.put, List.getElem_toArray, List.getElem_cons_succ, List.getElem_cons_zero, List.setIfInBounds_toArray, List.set_cons_zero, List.set_cons_succ])
      have EA : Hid (OwnB 59 3 bL W.heap.size [] (.slice (some ⟨W.heap.size, 0, none⟩) 0 0) (W.drew.alloc (.cells #[] 59))) := OwnB.fresh (At.newS _ _ _ rfl) (Nat.le_refl _)
      refine wpAny_ready (rs := [8]) (by kernel_rfl) (by simp) ?_
      refine AllReady.cons rfl (fun K hK => ?_) AllReady.nil
      rw [if_pos (by rfl)]
      refine OwnB.append 26 59 bL _ 3 24 info59 Tryd.underlying26 rfl (by decide) (by decide) bL_len bL_one _ _ _ rfl _ rfl W.heap.size [] (bs.take i) EA.out ⟨B, 0, none⟩ C (by rw [TL.out]; rfl) T1.out HC1.out ?_
      intro v5 w5 h5 k5
      obtain ⟨A5, C5, rfl, _⟩ := h5.done bL_len
      have F5 : Hid (RIn w5 rb base bs (.slice (some ⟨B, 0, none⟩) bs.length C) ∧ Below W.heap.size W w5 ∧ OwnB 59 3 bL W.heap.size (bs.take i) (.slice A5 ([] ++ bs.take i).length C5) w5 ∧ (∀ j u, ((bs.drop (i + 1)).flatMap bL)[j]? = some u → w5.cell? ((⟨B, 0, none⟩ : Addr).add j) = some u)) := F5F.out _ _ h5 k5
      have z0 := F5.out.1.1.cell 0
      have z3 := F5.out.1.1.lt
      simp at z0
      clear h5 k5
      generalize ([] ++ bs.take i).length = LN at F5 ⊢
      refine hK _ _ ?_; clear hK K
      (try simp only [Act.put, List.getElem_toArray, List.getElem_cons_succ, List.getElem_cons_zero, List.setIfInBounds_toArray, List.set_cons_zero, List.set_cons_succ])
      refine wpAny_ready (rs := [16]) (by kernel_rfl) (by simp) ?_
      refine AllReady.cons rfl (fun K hK => ?_) AllReady.nil
      rw [if_pos (by rfl)]
      refine OwnB.append 26 59 bL _ 3 24 info59 Tryd.underlying26 rfl (by decide) (by decide) bL_len bL_one _ _ _ rfl _ rfl W.heap.size (bs.take i) (bs.drop (i + 1)) F5.out.2.2.1 (⟨B, 0, none⟩ : Addr) (C - (i + 1)) (by rw [DL.out]; rfl) F5.out.2.2.2 HC2.out ?_
      intro v6 w6 h6 k6
      obtain ⟨A6, C6, rfl, _⟩ := h6.done bL_len
      have F6 : Hid (RIn (w6.setCell ⟨rb, 0, none⟩ (.slice A6 (bs.take i ++ bs.drop (i + 1)).length C6)) rb base (bs.take i ++ bs.drop (i + 1)) (.slice A6 (bs.take i ++ bs.drop (i + 1)).length C6) ∧ Kp (Rs rb (.slice (some ⟨B, 0, none⟩) bs.length C)) W (w6.setCell ⟨rb, 0, none⟩ (.slice A6 (bs.take i ++ bs.drop (i + 1)).length C6)) ∧ At w6 rb #[.slice (some ⟨B, 0, none⟩) bs.length C] 28) := F6F.out _ _ _ F5.out.1 F5.out.2.1 h6 k6
      have y0 := F6.out.2.2.cell 0
      have y1 := F6.out.2.2.frozen 0
      have y3 := F6.out.2.2.lt
      clear h6 k6
      generalize (bs.take i ++ bs.drop (i + 1)).length = LM at F6 ⊢
      refine hK _ _ ?_; clear hK K
      (try simp only [Act.put, List.getElem_toArray, List.getElem_cons_succ, List.getElem_cons_zero, List.setIfInBounds_toArray, List.set_cons_zero, List.set_cons_succ])
      refine wpAny_take (i := 17) (v := .pointer (some ⟨rb, 0, none⟩)) rfl (by kernel_rfl) (by kernel_rfl) (by kernel_rfl) (fun _ _ _ h => h) (Or.inl ⟨by rfl, ?_⟩) ?_
      · intro w'; go_simp
      (try simp only [Act.put, List.getElem_toArray, List.getElem_cons_succ, List.getElem_cons_zero, List.setIfInBounds_toArray, List.set_cons_zero, List.set_cons_succ])
      refine wpAny_take (i := 18) (v := .pointer (some ⟨rb, 0, none⟩)) rfl (by kernel_rfl) (by kernel_rfl) (by kernel_rfl) (fun _ _ _ h => h) (Or.inl ⟨by rfl, ?_⟩) ?_
      · intro w'; go_simp
      (try simp only [Act.put, List.getElem_toArray, List.getElem_cons_succ, List.getElem_cons_zero, List.setIfInBounds_toArray, List.set_cons_zero, List.set_cons_succ])
      refine wpAny_ready (rs := [19]) (by kernel_rfl) (by simp) ?_
      refine AllReady.cons rfl (fun K hK => ?_) AllReady.nil
      go_simp
      refine hK _ _ ?_; clear hK K
      (try simp only [Act.put, List.getElem_toArray, List.getElem_cons_succ, List.getElem_cons_zero, List.setIfInBounds_toArray, List.set_cons_zero, List.set_cons_succ])
      refine wpAny_done (by kernel_rfl) ?_ _
      generalize w6.setCell ⟨rb, 0, none⟩ (.slice A6 LM C6) = w7 at *
      go_wp2
      go_ret
      exact ⟨rfl, ⟨_, F6.out.1⟩, (Kp.of_below NW.out).trans F6.out.2.1⟩
  · go_simp
    refine hK _ _ ?_; clear hK K
    (try simp only [Act.put, List.getElem_toArray, List.getElem_cons_succ, List.getElem_cons_zero, List.setIfInBounds_toArray, List.set_cons_zero, List.set_cons_succ])
    refine wpAny_take (i := 15) (v := .slice (some ⟨B, 0, none⟩) (bs.length - (i + 1)) (C - (i + 1))) rfl (by kernel_rfl) (by kernel_rfl) (by kernel_rfl) (fun _ _ _ h => h) (Or.inl ⟨by rfl, ?_⟩) ?_
    · intro w'; go_simp; rw [if_pos (by omega), if_pos HCd.out]
    (try simp only [Act.put, List.getElem_toArray, List.getElem_cons_succ, List.getElem_cons_zero, List.setIfInBounds_toArray, List.set_cons_zero, List.set_cons_succ])
    refine wpAny_ready (rs := [1, 5]) (by kernel_rfl) (by simp) ?_
    refine AllReady.cons rfl (fun K hK => ?_) (AllReady.cons rfl (fun K hK => ?_) AllReady.nil)
    · go_simp
      refine hK _ _ ?_; clear hK K
      (try simp only [Act.put, List.getElem_toArray, List.getElem_cons_succ, List.getElem_cons_zero, List.setIfInBounds_toArray, List.set_cons_zero, List.set_cons_succ])
      have EA : Hid (OwnB 59 3 bL W.heap.size [] (.slice (some ⟨W.heap.size, 0, none⟩) 0 0) (W.drew.alloc (.cells #[] 59))) := OwnB.fresh (At.newS _ _ _ rfl) (Nat.le_refl _)
      refine wpAny_ready (rs := [5]) (by kernel_rfl) (by simp) ?_
      refine AllReady.cons rfl (fun K hK => ?_) AllReady.nil
      go_simp
      refine hK _ _ ?_; clear hK K
      (try simp only [Act.put, List.getElem_toArray, List.getElem_cons_succ, List.getElem_cons_zero, List.setIfInBounds_toArray, List.set_cons_zero, List.set_cons_succ])
      refine wpAny_take (i := 7) (v := .slice (some ⟨B, 0, none⟩) i C) rfl (by kernel_rfl) (by kernel_rfl) (by kernel_rfl) (fun _ _ _ h => h) (Or.inl ⟨by rfl, ?_⟩) ?_
      · intro w'; go_simp
      (try simp only [Act.put, List.getElem_toArray, List.getElem_cons_succ, List.getElem_cons_zero, List.setIfInBounds_toArray, List.set_cons_zero, List.set_cons_succ])
      refine wpAny_ready (rs := [8]) (by kernel_rfl) (by simp) ?_
      refine AllReady.cons rfl (fun K hK => ?_) AllReady.nil
      rw [if_pos (by rfl)]
      refine OwnB.append 26 59 bL _ 3 24 info59 Tryd.underlying26 rfl (by decide) (by decide) bL_len bL_one _ _ _ rfl _ rfl W.heap.size [] (bs.take i) EA.out ⟨B, 0, none⟩ C (by rw [TL.out]; rfl) T1.out HC1.out ?_
      intro v5 w5 h5 k5
      obtain ⟨A5, C5, rfl, _⟩ := h5.done bL_len
      have F5 : Hid (RIn w5 rb base bs (.slice (some ⟨B, 0, none⟩) bs.length C) ∧ Below W.heap.size W w5 ∧ OwnB 59 3 bL W.heap.size (bs.take i) (.slice A5 ([] ++ bs.take i).length C5) w5 ∧ (∀ j u, ((bs.drop (i + 1)).flatMap bL)[j]? = some u → w5.cell? ((⟨B, 0, none⟩ : Addr).add j) = some u)) := F5F.out _ _ h5 k5
      have z0 := F5.out.1.1.cell 0
      have z3 := F5.out.1.1.lt
      simp at z0
      clear h5 k5
      generalize ([] ++ bs.take i).length = LN at F5 ⊢
      refine hK _ _ ?_; clear hK K
      (try simp only [Act.put, List.getElem_toArray, List.getElem_cons_succ, List.getElem_cons_zero, List.setIfInBounds_toArray, List.set_cons_zero, List.set_cons_succ])
      refine wpAny_ready (rs := [16]) (by kernel_rfl) (by simp) ?_
      refine AllReady.cons rfl (fun K hK => ?_) AllReady.nil
      rw [if_pos (by rfl)]
      refine OwnB.append 26 59 bL _ 3 24 info59 Tryd.underlying26 rfl (by decide) (by decide) bL_len bL_one _ _ _ rfl _ rfl W.heap.size (bs.take i) (bs.drop (i + 1)) F5.out.2.2.1 (⟨B, 0, none⟩ : Addr) (C - (i + 1)) (by rw [DL.out]; rfl) F5.out.2.2.2 HC2.out ?_
      intro v6 w6 h6 k6
      obtain ⟨A6, C6, rfl, _⟩ := h6.done bL_len
      have F6 : Hid (RIn (w6.setCell ⟨rb, 0, none⟩ (.slice A6 (bs.take i ++ bs.drop (i + 1)).length C6)) rb base (bs.take i ++ bs.drop (i + 1)) (.slice A6 (bs.take i ++ bs.drop (i + 1)).length C6) ∧ Kp (Rs rb (.slice (some ⟨B, 0, none⟩) bs.length C)) W (w6.setCell ⟨rb, 0, none⟩ (.slice A6 (bs.take i ++ bs.drop (i + 1)).length C6)) ∧ At w6 rb #[.slice (some ⟨B, 0, none⟩) bs.length C] 28) := F6F.out _ _ _ F5.out.1 F5.out.2.1 h6 k6
      have y0 := F6.out.2.2.cell 0
      have y1 := F6.out.2.2.frozen 0
      have y3 := F6.out.2.2.lt
      clear h6 k6
      generalize (bs.take i ++ bs.drop (i + 1)).length = LM at F6 ⊢
      refine hK _ _ ?_; clear hK K
      (try simp only [Act.put, List.getElem_toArray, List.getElem_cons_succ, List.getElem_cons_zero, List.setIfInBounds_toArray, List.set_cons_zero, List.set_cons_succ])
      refine wpAny_take (i := 17) (v := .pointer (some ⟨rb, 0, none⟩)) rfl (by kernel_rfl) (by kernel_rfl) (by kernel_rfl) (fun _ _ _ h => h) (Or.inl ⟨by rfl, ?_⟩) ?_
      · intro w'; go_simp
      (try simp only [Act.put, List.getElem_toArray, List.getElem_cons_succ, List.getElem_cons_zero, List.setIfInBounds_toArray, List.set_cons_zero, List.set_cons_succ])
      refine wpAny_take (i := 18) (v := .pointer (some ⟨rb, 0, none⟩)) rfl (by kernel_rfl) (by kernel_rfl) (by kernel_rfl) (fun _ _ _ h => h) (Or.inl ⟨by rfl, ?_⟩) ?_
      · intro w'; go_simp
      (try simp only [Act.put, List.getElem_toArray, List.getElem_cons_succ, List.getElem_cons_zero, List.setIfInBounds_toArray, List.set_cons_zero, List.set_cons_succ])
      refine wpAny_ready (rs := [19]) (by kernel_rfl) (by simp) ?_
      refine AllReady.cons rfl (fun K hK => ?_) AllReady.nil
      go_simp
      refine hK _ _ ?_; clear hK K
      (try simp only [Act.put, List.getElem_toArray, List.getElem_cons_succ, List.getElem_cons_zero, List.setIfInBounds_toArray, List.set_cons_zero, List.set_cons_succ])
      refine wpAny_done (by kernel_rfl) ?_ _
      generalize w6.setCell ⟨rb, 0, none⟩ (.slice A6 LM C6) = w7 at *
      go_wp2
      go_ret
      exact ⟨rfl, ⟨_, F6.out.1⟩, (Kp.of_below NW.out).trans F6.out.2.1⟩
    · go_simp
      refine hK _ _ ?_; clear hK K
      (try simp only [Act.put, List.getElem_toArray, List.getElem_cons_succ, List.getElem_cons_zero, List.setIfInBounds_toArray, List.set_cons_zero, List.set_cons_succ])
      refine wpAny_take (i := 7) (v := .slice (some ⟨B, 0, none⟩) i C) rfl (by kernel_rfl) (by kernel_rfl) (by kernel_rfl) (fun _ _ _ h => h) (Or.inl ⟨by rfl, ?_⟩) ?_
      · intro w'; go_simp
      (try simp only [Act.put, List.getElem_toArray, List.getElem_cons_succ, List.getElem_cons_zero, List.setIfInBounds_toArray, List.set_cons_zero, List.set_cons_succ])
      refine wpAny_ready (rs := [1]) (by kernel_rfl) (by simp) ?_
      refine AllReady.cons rfl (fun K hK => ?_) AllReady.nil
      go_simp
      refine hK _ _ ?_; clear hK K
      (try simp only [Act.put, List.getElem_toArray, List.getElem_cons_succ, List.getElem_cons_zero, List.setIfInBounds_toArray, List.set_cons_zero, List.set_cons_succ])
      have EA : Hid (OwnB 59 3 bL W.heap.size [] (.slice (some ⟨W.heap.size, 0, none⟩) 0 0) (W.drew.alloc (.cells #[] 59))) := OwnB.fresh (At.newS _ _ _ rfl) (Nat.le_refl _)
      refine wpAny_ready (rs := [8]) (by kernel_rfl) (by simp) ?_
      refine AllReady.cons rfl (fun K hK => ?_) AllReady.nil
      rw [if_pos (by rfl)]
      refine OwnB.append 26 59 bL _ 3 24 info59 Tryd.underlying26 rfl (by decide) (by decide) bL_len bL_one _ _ _ rfl _ rfl W.heap.size [] (bs.take i) EA.out ⟨B, 0, none⟩ C (by rw [TL.out]; rfl) T1.out HC1.out ?_
      intro v5 w5 h5 k5
      obtain ⟨A5, C5, rfl, _⟩ := h5.done bL_len
      have F5 : Hid (RIn w5 rb base bs (.slice (some ⟨B, 0, none⟩) bs.length C) ∧ Below W.heap.size W w5 ∧ OwnB 59 3 bL W.heap.size (bs.take i) (.slice A5 ([] ++ bs.take i).length C5) w5 ∧ (∀ j u, ((bs.drop (i + 1)).flatMap bL)[j]? = some u → w5.cell? ((⟨B, 0, none⟩ : Addr).add j) = some u)) := F5F.out _ _ h5 k5
      have z0 := F5.out.1.1.cell 0
      have z3 := F5.out.1.1.lt
      simp at z0
      clear h5 k5
      generalize ([] ++ bs.take i).length = LN at F5 ⊢
      refine hK _ _ ?_; clear hK K
      (try simp only [Act.put, List.getElem_toArray, List.getElem_cons_succ, List.getElem_cons_zero, List.setIfInBounds_toArray, List.set_cons_zero, List.set_cons_succ])
      refine wpAny_ready (rs := [16]) (by kernel_rfl) (by simp) ?_
      refine AllReady.cons rfl (fun K hK => ?_) AllReady.nil
      rw [if_pos (by rfl)]
      refine OwnB.append 26 59 bL _ 3 24 info59 Tryd.underlying26 rfl (by decide) (by decide) bL_len bL_one _ _ _ rfl _ rfl W.heap.size (bs.take i) (bs.drop (i + 1)) F5.out.2.2.1 (⟨B, 0, none⟩ : Addr) (C - (i + 1)) (by rw [DL.out]; rfl) F5.out.2.2.2 HC2.out ?_
      intro v6 w6 h6 k6
      obtain ⟨A6, C6, rfl, _⟩ := h6.done bL_len
      have F6 : Hid (RIn (w6.setCell ⟨rb, 0, none⟩ (.slice A6 (bs.take i ++ bs.drop (i + 1)).length C6)) rb base (bs.take i ++ bs.drop (i + 1)) (.slice A6 (bs.take i ++ bs.drop (i + 1)).length C6) ∧ Kp (Rs rb (.slice (some ⟨B, 0, none⟩) bs.length C)) W (w6.setCell ⟨rb, 0, none⟩ (.slice A6 (bs.take i ++ bs.drop (i + 1)).length C6)) ∧ At w6 rb #[.slice (some ⟨B, 0, none⟩) bs.length C] 28) := F6F.out _ _ _ F5.out.1 F5.out.2.1 h6 k6
      have y0 := F6.out.2.2.cell 0
      have y1 := F6.out.2.2.frozen 0
      have y3 := F6.out.2.2.lt
      clear h6 k6
      generalize (bs.take i ++ bs.drop (i + 1)).length = LM at F6 ⊢
      refine hK _ _ ?_; clear hK K
      (try simp only [Act.put, List.getElem_toArray, List.getElem_cons_succ, List.getElem_cons_zero, List.setIfInBounds_toArray, List.set_cons_zero, List.set_cons_succ])
      refine wpAny_take (i := 17) (v := .pointer (some ⟨rb, 0, none⟩)) rfl (by kernel_rfl) (by kernel_rfl) (by kernel_rfl) (fun _ _ _ h => h) (Or.inl ⟨by rfl, ?_⟩) ?_
      · intro w'; go_simp
      (try simp only [Act.put, List.getElem_toArray, List.getElem_cons_succ, List.getElem_cons_zero, List.setIfInBounds_toArray, List.set_cons_zero, List.set_cons_succ])
      refine wpAny_take (i := 18) (v := .pointer (some ⟨rb, 0, none⟩)) rfl (by kernel_rfl) (by kernel_rfl) (by kernel_rfl) (fun _ _ _ h => h) (Or.inl ⟨by rfl, ?_⟩) ?_
      · intro w'; go_simp
      (try simp only [Act.put, List.getElem_toArray, List.getElem_cons_succ, List.getElem_cons_zero, List.setIfInBounds_toArray, List.set_cons_zero, List.set_cons_succ])
      refine wpAny_ready (rs := [19]) (by kernel_rfl) (by simp) ?_
      refine AllReady.cons rfl (fun K hK => ?_) AllReady.nil
      go_simp
      refine hK _ _ ?_; clear hK K
      (try simp only [Act.put, List.getElem_toArray, List.getElem_cons_succ, List.getElem_cons_zero, List.setIfInBounds_toArray, List.set_cons_zero, List.set_cons_succ])
      refine wpAny_done (by kernel_rfl) ?_ _
      generalize w6.setCell ⟨rb, 0, none⟩ (.slice A6 LM C6) = w7 at *
      go_wp2
      go_ret
      exact ⟨rfl, ⟨_, F6.out.1⟩, (Kp.of_below NW.out).trans F6.out.2.1⟩

set_option maxHeartbeats 4000000 in
theorem rfree1 {w : World} {rb base : Nat} {bs : List (Nat × Nat)} {B C : Nat} (h : RIn w rb base bs (.slice (some ⟨B, 0, none⟩) bs.length C)) (hl : bs.length ≤ 1000) (hrb : rb < base) (x : Int) (i : Nat) (hi : i < bs.length) (hcap : bs.length ≤ C) (hq : fx bs x = some i) (hC : C ≠ i + 1) :
    Calls Tryd.prog 13 #[.pointer (some ⟨rb, 0, none⟩), .int .i64 x] w fun e w' => e = .returned (.int .i64 0) ∧ (∃ lv', RIn w' rb base (bs.take i ++ bs.drop (i + 1)) lv') ∧ Kp (Rs rb (.slice (some ⟨B, 0, none⟩) bs.length C)) w w' := by
  have HH : Hid (RIn w rb base bs (.slice (some ⟨B, 0, none⟩) bs.length C)) := h
  have FF : Hid (Calls Tryd.prog 22 #[.pointer (some ⟨rb, 0, none⟩), .int .i64 x] w fun e w' => e = .returned (.int .i64 (i : Int)) ∧ Below w.heap.size w w') := by
    have := rfind_c h hl x
    rw [hq] at this
    exact this
  clear h hq
  have hiz : ¬ (i : Int) < 0 := by omega
  have hil : (i : Int) < (bs.length : Int) := by omega
  have hil1 : (i : Int) + 1 ≤ (bs.length : Int) := by omega
  have hic : (i : Int) ≤ (C : Int) := by omega
  have hic1 : ¬ C < i := by omega
  have hic2 : ¬ C = 0 := by omega
  have hin : ((i : Int) + 1).toNat = i + 1 := by omega
  go_enter Tryd.func13, Tryd.ntmps13
  go_wp2_with (go_at_call 22; refine FF.out.mono ?_; rintro e W ⟨rfl, hb⟩; have RW : Hid (RIn W rb base bs (.slice (some ⟨B, 0, none⟩) bs.length C)) := HH.out.below hb; have NW : Hid (Below w.heap.size w W) := hb; clear hb)
  have TL : Hid ((bs.take i).length = i) := (by simp; omega : (bs.take i).length = i)
  have DL : Hid ((bs.drop (i + 1)).length = bs.length - (i + 1)) := (by simp : (bs.drop (i + 1)).length = bs.length - (i + 1))
  have HC1 : Hid (([] : List (Nat × Nat)).length + (bs.take i).length ≤ 100000) := (by rw [TL.out]; simp; omega : ([] : List (Nat × Nat)).length + (bs.take i).length ≤ 100000)
  have HC2 : Hid ((bs.take i).length + (bs.drop (i + 1)).length ≤ 100000) := (by rw [TL.out, DL.out]; omega : (bs.take i).length + (bs.drop (i + 1)).length ≤ 100000)
  have T1 : Hid (∀ j u, ((bs.take i).flatMap bL)[j]? = some u → (W.drew.alloc (.cells #[] 59)).cell? ((⟨B, 0, none⟩ : Addr).add j) = some u) := rfr_take W RW.out i
  have F5F : Hid (∀ v5 w5, OwnB 59 3 bL W.heap.size ([] ++ bs.take i) v5 w5 → Below W.heap.size (W.drew.alloc (.cells #[] 59)) w5 → RIn w5 rb base bs (.slice (some ⟨B, 0, none⟩) bs.length C) ∧ Below W.heap.size W w5 ∧ OwnB 59 3 bL W.heap.size (bs.take i) v5 w5 ∧ (∀ j u, ((bs.drop (i + 1)).flatMap bL)[j]? = some u → w5.cell? ((⟨B, (i + 1) * 3, none⟩ : Addr).add j) = some u)) := fun v5 w5 h5 k5 => rfr_one W RW.out i (⟨B, (i + 1) * 3, none⟩ : Addr) (fun _ => rfl) v5 w5 h5 k5
  have F6F : Hid (∀ v6 w5 w6, RIn w5 rb base bs (.slice (some ⟨B, 0, none⟩) bs.length C) → Below W.heap.size W w5 → OwnB 59 3 bL W.heap.size (bs.take i ++ bs.drop (i + 1)) v6 w6 → Below W.heap.size w5 w6 → RIn (w6.setCell ⟨rb, 0, none⟩ v6) rb base (bs.take i ++ bs.drop (i + 1)) v6 ∧ Kp (Rs rb (.slice (some ⟨B, 0, none⟩) bs.length C)) W (w6.setCell ⟨rb, 0, none⟩ v6) ∧ At w6 rb #[.slice (some ⟨B, 0, none⟩) bs.length C] 28) := fun v6 w5 w6 h1 h2 h3 h4 => rfr_two W RW.out hrb v6 w5 w6 h1 h2 h3 h4
  have c0 := RW.out.1.cell 0
  have c3 := RW.out.1.lt
  simp at c0
  refine wp_region_any (by kernel_rfl) ?_
  change wpAny _ _ _ _ _ _ _ (World.drew _)
  refine wpAny_take (i := 0) (v := .pointer (some ⟨rb, 0, none⟩)) rfl (by kernel_rfl) (by kernel_rfl) (by kernel_rfl) (fun _ _ _ h => h) (Or.inl ⟨by rfl, ?_⟩) ?_
  · intro w'; go_simp
  (try simp only [Act.put, List.getElem_toArray, List.getElem_cons_zero, List.setIfInBounds_toArray, List.set_cons_zero, List.set_cons_succ])
  refine wpAny_take (i := 2) (v := .pointer (some ⟨rb, 0, none⟩)) rfl (by kernel_rfl) (by kernel_rfl) (by kernel_rfl) (fun _ _ _ h => h) (Or.inl ⟨by rfl, ?_⟩) ?_
  · intro w'; go_simp
  (try simp only [Act.put, List.getElem_toArray, List.getElem_cons_succ, List.getElem_cons_zero, List.setIfInBounds_toArray, List.set_cons_zero, List.set_cons_succ])
  refine wpAny_take (i := 3) (v := .pointer (some ⟨rb, 0, none⟩)) rfl (by kernel_rfl) (by kernel_rfl) (by kernel_rfl) (fun _ _ _ h => h) (Or.inl ⟨by rfl, ?_⟩) ?_
  · intro w'; go_simp
  (try simp only [Act.put, List.getElem_toArray, List.getElem_cons_succ, List.getElem_cons_zero, List.setIfInBounds_toArray, List.set_cons_zero, List.set_cons_succ])
  refine wpAny_take (i := 4) (v := .pointer (some ⟨rb, 0, none⟩)) rfl (by kernel_rfl) (by kernel_rfl) (by kernel_rfl) (fun _ _ _ h => h) (Or.inl ⟨by rfl, ?_⟩) ?_
  · intro w'; go_simp
  (try simp only [Act.put, List.getElem_toArray, List.getElem_cons_succ, List.getElem_cons_zero, List.setIfInBounds_toArray, List.set_cons_zero, List.set_cons_succ])
  refine wpAny_take (i := 6) (v := .int .i64 (i : Int)) rfl (by kernel_rfl) (by kernel_rfl) (by kernel_rfl) (fun _ _ _ h => h) (Or.inl ⟨by rfl, ?_⟩) ?_
  · intro w'; go_simp
  (try simp only [Act.put, List.getElem_toArray, List.getElem_cons_succ, List.getElem_cons_zero, List.setIfInBounds_toArray, List.set_cons_zero, List.set_cons_succ])
  refine wpAny_take (i := 9) (v := .pointer (some ⟨rb, 0, none⟩)) rfl (by kernel_rfl) (by kernel_rfl) (by kernel_rfl) (fun _ _ _ h => h) (Or.inl ⟨by rfl, ?_⟩) ?_
  · intro w'; go_simp
  (try simp only [Act.put, List.getElem_toArray, List.getElem_cons_succ, List.getElem_cons_zero, List.setIfInBounds_toArray, List.set_cons_zero, List.set_cons_succ])
  refine wpAny_take (i := 10) (v := .pointer (some ⟨rb, 0, none⟩)) rfl (by kernel_rfl) (by kernel_rfl) (by kernel_rfl) (fun _ _ _ h => h) (Or.inl ⟨by rfl, ?_⟩) ?_
  · intro w'; go_simp
  (try simp only [Act.put, List.getElem_toArray, List.getElem_cons_succ, List.getElem_cons_zero, List.setIfInBounds_toArray, List.set_cons_zero, List.set_cons_succ])
  refine wpAny_take (i := 11) (v := .pointer (some ⟨rb, 0, none⟩)) rfl (by kernel_rfl) (by kernel_rfl) (by kernel_rfl) (fun _ _ _ h => h) (Or.inl ⟨by rfl, ?_⟩) ?_
  · intro w'; go_simp
  (try simp only [Act.put, List.getElem_toArray, List.getElem_cons_succ, List.getElem_cons_zero, List.setIfInBounds_toArray, List.set_cons_zero, List.set_cons_succ])
  refine wpAny_take (i := 13) (v := .int .i64 (i : Int)) rfl (by kernel_rfl) (by kernel_rfl) (by kernel_rfl) (fun _ _ _ h => h) (Or.inl ⟨by rfl, ?_⟩) ?_
  · intro w'; go_simp
  (try simp only [Act.put, List.getElem_toArray, List.getElem_cons_succ, List.getElem_cons_zero, List.setIfInBounds_toArray, List.set_cons_zero, List.set_cons_succ])
  refine wpAny_take (i := 14) (v := .int .i64 ((i : Int) + 1)) rfl (by kernel_rfl) (by kernel_rfl) (by kernel_rfl) (fun _ _ _ h => h) (Or.inl ⟨by rfl, ?_⟩) ?_
  · intro w'; go_simp; exact wrap_in _ ⟨by omega, by omega⟩
  (try simp only [Act.put, List.getElem_toArray, List.getElem_cons_succ, List.getElem_cons_zero, List.setIfInBounds_toArray, List.set_cons_zero, List.set_cons_succ])
  refine wpAny_ready (rs := [1, 5, 12]) (by kernel_rfl) (by simp) ?_
  refine AllReady.cons rfl (fun K hK => ?_) (AllReady.cons rfl (fun K hK => ?_) (AllReady.cons rfl (fun K hK => ?_) AllReady.nil))
  · go_simp
    refine hK _ _ ?_; clear hK K
    (try simp only [Act.put, List.getElem_toArray, List.getElem_cons_succ, List.getElem_cons_zero, List.setIfInBounds_toArray, List.set_cons_zero, List.set_cons_succ])
    have EA : Hid (OwnB 59 3 bL W.heap.size [] (.slice (some ⟨W.heap.size, 0, none⟩) 0 0) (W.drew.alloc (.cells #[] 59))) := OwnB.fresh (At.newS _ _ _ rfl) (Nat.le_refl _)
    refine wpAny_ready (rs := [5, 12]) (by kernel_rfl) (by simp) ?_
    refine AllReady.cons rfl (fun K hK => ?_) (AllReady.cons rfl (fun K hK => ?_) AllReady.nil)
    · go_simp
      refine hK _ _ ?_; clear hK K
      (try simp only [Act.put, List.getElem_toArray, List.getElem_cons_succ, List.getElem_cons_zero, List.setIfInBounds_toArray, List.set_cons_zero, List.set_cons_succ])
      refine wpAny_take (i := 7) (v := .slice (some ⟨B, 0, none⟩) i C) rfl (by kernel_rfl) (by kernel_rfl) (by kernel_rfl) (fun _ _ _ h => h) (Or.inl ⟨by rfl, ?_⟩) ?_
      · intro w'; go_simp
      (try simp only [Act.put, List.getElem_toArray, List.getElem_cons_succ, List.getElem_cons_zero, List.setIfInBounds_toArray, List.set_cons_zero, List.set_cons_succ])
      refine wpAny_ready (rs := [8, 12]) (by kernel_rfl) (by simp) ?_
      refine AllReady.cons rfl (fun K hK => ?_) (AllReady.cons rfl (fun K hK => ?_) AllReady.nil)
      · rw [if_pos (by rfl)]
        refine OwnB.append 26 59 bL _ 3 24 info59 Tryd.underlying26 rfl (by decide) (by decide) bL_len bL_one _ _ _ rfl _ rfl W.heap.size [] (bs.take i) EA.out ⟨B, 0, none⟩ C (by rw [TL.out]; rfl) T1.out HC1.out ?_
        intro v5 w5 h5 k5
        obtain ⟨A5, C5, rfl, _⟩ := h5.done bL_len
        have F5 : Hid (RIn w5 rb base bs (.slice (some ⟨B, 0, none⟩) bs.length C) ∧ Below W.heap.size W w5 ∧ OwnB 59 3 bL W.heap.size (bs.take i) (.slice A5 ([] ++ bs.take i).length C5) w5 ∧ (∀ j u, ((bs.drop (i + 1)).flatMap bL)[j]? = some u → w5.cell? ((⟨B, (i + 1) * 3, none⟩ : Addr).add j) = some u)) := F5F.out _ _ h5 k5
        have z0 := F5.out.1.1.cell 0
        have z3 := F5.out.1.1.lt
        simp at z0
        clear h5 k5
        generalize ([] ++ bs.take i).length = LN at F5 ⊢
        refine hK _ _ ?_; clear hK K
        (try simp only [Act.put, List.getElem_toArray, List.getElem_cons_succ, List.getElem_cons_zero, List.setIfInBounds_toArray, List.set_cons_zero, List.set_cons_succ])
        refine wpAny_ready (rs := [12]) (by kernel_rfl) (by simp) ?_
        refine AllReady.cons rfl (fun K hK => ?_) AllReady.nil
        go_simp
        refine hK _ _ ?_; clear hK K
        (try simp only [Act.put, List.getElem_toArray, List.getElem_cons_succ, List.getElem_cons_zero, List.setIfInBounds_toArray, List.set_cons_zero, List.set_cons_succ])
        refine wpAny_take (i := 15) (v := .slice (some ⟨B, (i + 1) * 3, none⟩) (bs.length - (i + 1)) (C - (i + 1))) rfl (by kernel_rfl) (by kernel_rfl) (by kernel_rfl) (fun _ _ _ h => h) (Or.inl ⟨by rfl, ?_⟩) ?_
        · intro w'; go_simp; intro h; exfalso; omega
        (try simp only [Act.put, List.getElem_toArray, List.getElem_cons_succ, List.getElem_cons_zero, List.setIfInBounds_toArray, List.set_cons_zero, List.set_cons_succ])
        refine wpAny_ready (rs := [16]) (by kernel_rfl) (by simp) ?_
        refine AllReady.cons rfl (fun K hK => ?_) AllReady.nil
        rw [if_pos (by rfl)]
        refine OwnB.append 26 59 bL _ 3 24 info59 Tryd.underlying26 rfl (by decide) (by decide) bL_len bL_one _ _ _ rfl _ rfl W.heap.size (bs.take i) (bs.drop (i + 1)) F5.out.2.2.1 (⟨B, (i + 1) * 3, none⟩ : Addr) (C - (i + 1)) (by rw [DL.out]; rfl) F5.out.2.2.2 HC2.out ?_
        intro v6 w6 h6 k6
        obtain ⟨A6, C6, rfl, _⟩ := h6.done bL_len
        have F6 : Hid (RIn (w6.setCell ⟨rb, 0, none⟩ (.slice A6 (bs.take i ++ bs.drop (i + 1)).length C6)) rb base (bs.take i ++ bs.drop (i + 1)) (.slice A6 (bs.take i ++ bs.drop (i + 1)).length C6) ∧ Kp (Rs rb (.slice (some ⟨B, 0, none⟩) bs.length C)) W (w6.setCell ⟨rb, 0, none⟩ (.slice A6 (bs.take i ++ bs.drop (i + 1)).length C6)) ∧ At w6 rb #[.slice (some ⟨B, 0, none⟩) bs.length C] 28) := F6F.out _ _ _ F5.out.1 F5.out.2.1 h6 k6
        have y0 := F6.out.2.2.cell 0
        have y1 := F6.out.2.2.frozen 0
        have y3 := F6.out.2.2.lt
        clear h6 k6
        generalize (bs.take i ++ bs.drop (i + 1)).length = LM at F6 ⊢
        refine hK _ _ ?_; clear hK K
        (try simp only [Act.put, List.getElem_toArray, List.getElem_cons_succ, List.getElem_cons_zero, List.setIfInBounds_toArray, List.set_cons_zero, List.set_cons_succ])
        refine wpAny_take (i := 17) (v := .pointer (some ⟨rb, 0, none⟩)) rfl (by kernel_rfl) (by kernel_rfl) (by kernel_rfl) (fun _ _ _ h => h) (Or.inl ⟨by rfl, ?_⟩) ?_
        · intro w'; go_simp
        (try simp only [Act.put, List.getElem_toArray, List.getElem_cons_succ, List.getElem_cons_zero, List.setIfInBounds_toArray, List.set_cons_zero, List.set_cons_succ])
        refine wpAny_take (i := 18) (v := .pointer (some ⟨rb, 0, none⟩)) rfl (by kernel_rfl) (by kernel_rfl) (by kernel_rfl) (fun _ _ _ h => h) (Or.inl ⟨by rfl, ?_⟩) ?_
        · intro w'; go_simp
        (try simp only [Act.put, List.getElem_toArray, List.getElem_cons_succ, List.getElem_cons_zero, List.setIfInBounds_toArray, List.set_cons_zero, List.set_cons_succ])
        refine wpAny_ready (rs := [19]) (by kernel_rfl) (by simp) ?_
        refine AllReady.cons rfl (fun K hK => ?_) AllReady.nil
        go_simp
        refine hK _ _ ?_; clear hK K
        (try simp only [Act.put, List.getElem_toArray, List.getElem_cons_succ, List.getElem_cons_zero, List.setIfInBounds_toArray, List.set_cons_zero, List.set_cons_succ])
        refine wpAny_done (by kernel_rfl) ?_ _
        generalize w6.setCell ⟨rb, 0, none⟩ (.slice A6 LM C6) = w7 at *
        go_wp2
        go_ret
        exact ⟨rfl, ⟨_, F6.out.1⟩, (Kp.of_below NW.out).trans F6.out.2.1⟩
      · go_simp
        refine hK _ _ ?_; clear hK K
        (try simp only [Act.put, List.getElem_toArray, List.getElem_cons_succ, List.getElem_cons_zero, List.setIfInBounds_toArray, List.set_cons_zero, List.set_cons_succ])
        refine wpAny_take (i := 15) (v := .slice (some ⟨B, (i + 1) * 3, none⟩) (bs.length - (i + 1)) (C - (i + 1))) rfl (by kernel_rfl) (by kernel_rfl) (by kernel_rfl) (fun _ _ _ h => h) (Or.inl ⟨by rfl, ?_⟩) ?_
        · intro w'; go_simp; intro h; exfalso; omega
        (try simp only [Act.put, List.getElem_toArray, List.getElem_cons_succ, List.getElem_cons_zero, List.setIfInBounds_toArray, List.set_cons_zero, List.set_cons_succ])
        refine wpAny_ready (rs := [8]) (by kernel_rfl) (by simp) ?_
        refine AllReady.cons rfl (fun K hK => ?_) AllReady.nil
        rw [if_pos (by rfl)]
        refine OwnB.append 26 59 bL _ 3 24 info59 Tryd.underlying26 rfl (by decide) (by decide) bL_len bL_one _ _ _ rfl _ rfl W.heap.size [] (bs.take i) EA.out ⟨B, 0, none⟩ C (by rw [TL.out]; rfl) T1.out HC1.out ?_
        intro v5 w5 h5 k5
        obtain ⟨A5, C5, rfl, _⟩ := h5.done bL_len
        have F5 : Hid (RIn w5 rb base bs (.slice (some ⟨B, 0, none⟩) bs.length C) ∧ Below W.heap.size W w5 ∧ OwnB 59 3 bL W.heap.size (bs.take i) (.slice A5 ([] ++ bs.take i).length C5) w5 ∧ (∀ j u, ((bs.drop (i + 1)).flatMap bL)[j]? = some u → w5.cell? ((⟨B, (i + 1) * 3, none⟩ : Addr).add j) = some u)) := F5F.out _ _ h5 k5
        have z0 := F5.out.1.1.cell 0
        have z3 := F5.out.1.1.lt
        simp at z0
        clear h5 k5
        generalize ([] ++ bs.take i).length = LN at F5 ⊢
        refine hK _ _ ?_; clear hK K
        (try simp only [Act.put, List.getElem_toArray, List.getElem_cons_succ, List.getElem_cons_zero, List.setIfInBounds_toArray, List.set_cons_zero, List.set_cons_succ])
        refine wpAny_ready (rs := [16]) (by kernel_rfl) (by simp) ?_
        refine AllReady.cons rfl (fun K hK => ?_) AllReady.nil
        rw [if_pos (by rfl)]
        refine OwnB.append 26 59 bL _ 3 24 info59 Tryd.underlying26 rfl (by decide) (by decide) bL_len bL_one _ _ _ rfl _ rfl W.heap.size (bs.take i) (bs.drop (i + 1)) F5.out.2.2.1 (⟨B, (i + 1) * 3, none⟩ : Addr) (C - (i + 1)) (by rw [DL.out]; rfl) F5.out.2.2.2 HC2.out ?_
        intro v6 w6 h6 k6
        obtain ⟨A6, C6, rfl, _⟩ := h6.done bL_len
        have F6 : Hid (RIn (w6.setCell ⟨rb, 0, none⟩ (.slice A6 (bs.take i ++ bs.drop (i + 1)).length C6)) rb base (bs.take i ++ bs.drop (i + 1)) (.slice A6 (bs.take i ++ bs.drop (i + 1)).length C6) ∧ Kp (Rs rb (.slice (some ⟨B, 0, none⟩) bs.length C)) W (w6.setCell ⟨rb, 0, none⟩ (.slice A6 (bs.take i ++ bs.drop (i + 1)).length C6)) ∧ At w6 rb #[.slice (some ⟨B, 0, none⟩) bs.length C] 28) := F6F.out _ _ _ F5.out.1 F5.out.2.1 h6 k6
        have y0 := F6.out.2.2.cell 0
        have y1 := F6.out.2.2.frozen 0
        have y3 := F6.out.2.2.lt
        clear h6 k6
        generalize (bs.take i ++ bs.drop (i + 1)).length = LM at F6 ⊢
        refine hK _ _ ?_; clear hK K
        (try simp only [Act.put, List.getElem_toArray, List.getElem_cons_succ, List.getElem_cons_zero, List.setIfInBounds_toArray, List.set_cons_zero, List.set_cons_succ])
        refine wpAny_take (i := 17) (v := .pointer (some ⟨rb, 0, none⟩)) rfl (by kernel_rfl) (by kernel_rfl) (by kernel_rfl) (fun _ _ _ h => h) (Or.inl ⟨by rfl, ?_⟩) ?_
        · intro w'; go_simp
        (try simp only [Act.put, List.getElem_toArray, List.getElem_cons_succ, List.getElem_cons_zero, List.setIfInBounds_toArray, List.set_cons_zero, List.set_cons_succ])
        refine wpAny_take (i := 18) (v := .pointer (some ⟨rb, 0, none⟩)) rfl (by kernel_rfl) (by kernel_rfl) (by kernel_rfl) (fun _ _ _ h => h) (Or.inl ⟨by rfl, ?_⟩) ?_
        · intro w'; go_simp
        (try simp only [Act.put, List.getElem_toArray, List.getElem_cons_succ, List.getElem_cons_zero, List.setIfInBounds_toArray, List.set_cons_zero, List.set_cons_succ])
        refine wpAny_ready (rs := [19]) (by kernel_rfl) (by simp) ?_
        refine AllReady.cons rfl (fun K hK => ?_) AllReady.nil
        go_simp
        refine hK _ _ ?_; clear hK K
        (try simp only [Act.put, List.getElem_toArray, List.getElem_cons_succ, List.getElem_cons_zero, List.setIfInBounds_toArray, List.set_cons_zero, List.set_cons_succ])
        refine wpAny_done (by kernel_rfl) ?_ _
        generalize w6.setCell ⟨rb, 0, none⟩ (.slice A6 LM C6) = w7 at *
        go_wp2
        go_ret
        exact ⟨rfl, ⟨_, F6.out.1⟩, (Kp.of_below NW.out).trans F6.out.2.1⟩
    · go_simp
      refine hK _ _ ?_; clear hK K
      (try simp only [Act.put, List.getElem_toArray, List.getElem_cons_succ, List.getElem_cons_zero, List.setIfInBounds_toArray, List.set_cons_zero, List.set_cons_succ])
      refine wpAny_take (i := 15) (v := .slice (some ⟨B, (i + 1) * 3, none⟩) (bs.length - (i + 1)) (C - (i + 1))) rfl (by kernel_rfl) (by kernel_rfl) (by kernel_rfl) (fun _ _ _ h => h) (Or.inl ⟨by rfl, ?_⟩) ?_
      · intro w'; go_simp; intro h; exfalso; omega
      (try simp only [Act.put, List.getElem_toArray, List.getElem_cons_succ, List.getElem_cons_zero, List.setIfInBounds_toArray, List.set_cons_zero, List.set_cons_succ])
      refine wpAny_ready (rs := [5]) (by kernel_rfl) (by simp) ?_
      refine AllReady.cons rfl (fun K hK => ?_) AllReady.nil
      go_simp
      refine hK _ _ ?_; clear hK K
      (try simp only [Act.put, List.getElem_toArray, List.getElem_cons_succ, List.getElem_cons_zero, List.setIfInBounds_toArray, List.set_cons_zero, List.set_cons_succ])
      refine wpAny_take (i := 7) (v := .slice (some ⟨B, 0, none⟩) i C) rfl (by kernel_rfl) (by kernel_rfl) (by kernel_rfl) (fun _ _ _ h => h) (Or.inl ⟨by rfl, ?_⟩) ?_
      · intro w'; go_simp
      (try simp only [Act.put, List.getElem_toArray, List.getElem_cons_succ, List.getElem_cons_zero, List.setIfInBounds_toArray, List.set_cons_zero, List.set_cons_succ])
      refine wpAny_ready (rs := [8]) (by kernel_rfl) (by simp) ?_
      refine AllReady.cons rfl (fun K hK => ?_) AllReady.nil
      rw [if_pos (by rfl)]
      refine OwnB.append 26 59 bL _ 3 24 info59 Tryd.underlying26 rfl (by decide) (by decide) bL_len bL_one _ _ _ rfl _ rfl W.heap.size [] (bs.take i) EA.out ⟨B, 0, none⟩ C (by rw [TL.out]; rfl) T1.out HC1.out ?_
      intro v5 w5 h5 k5
      obtain ⟨A5, C5, rfl, _⟩ := h5.done bL_len
      have F5 : Hid (RIn w5 rb base bs (.slice (some ⟨B, 0, none⟩) bs.length C) ∧ Below W.heap.size W w5 ∧ OwnB 59 3 bL W.heap.size (bs.take i) (.slice A5 ([] ++ bs.take i).length C5) w5 ∧ (∀ j u, ((bs.drop (i + 1)).flatMap bL)[j]? = some u → w5.cell? ((⟨B, (i + 1) * 3, none⟩ : Addr).add j) = some u)) := F5F.out _ _ h5 k5
      have z0 := F5.out.1.1.cell 0
      have z3 := F5.out.1.1.lt
      simp at z0
      clear h5 k5
      generalize ([] ++ bs.take i).length = LN at F5 ⊢
      refine hK _ _ ?_; clear hK K
      (try simp only [Act.put, List.getElem_toArray, List.getElem_cons_succ, List.getElem_cons_zero, List.setIfInBounds_toArray, List.set_cons_zero, List.set_cons_succ])
      refine wpAny_ready (rs := [16]) (by kernel_rfl) (by simp) ?_
      refine AllReady.cons rfl (fun K hK => ?_) AllReady.nil
      rw [if_pos (by rfl)]
      refine OwnB.append 26 59 bL _ 3 24 info59 Tryd.underlying26 rfl (by decide) (by decide) bL_len bL_one _ _ _ rfl _ rfl W.heap.size (bs.take i) (bs.drop (i + 1)) F5.out.2.2.1 (⟨B, (i + 1) * 3, none⟩ : Addr) (C - (i + 1)) (by rw [DL.out]; rfl) F5.out.2.2.2 HC2.out ?_
      intro v6 w6 h6 k6
      obtain ⟨A6, C6, rfl, _⟩ := h6.done bL_len
      have F6 : Hid (RIn (w6.setCell ⟨rb, 0, none⟩ (.slice A6 (bs.take i ++ bs.drop (i + 1)).length C6)) rb base (bs.take i ++ bs.drop (i + 1)) (.slice A6 (bs.take i ++ bs.drop (i + 1)).length C6) ∧ Kp (Rs rb (.slice (some ⟨B, 0, none⟩) bs.length C)) W (w6.setCell ⟨rb, 0, none⟩ (.slice A6 (bs.take i ++ bs.drop (i + 1)).length C6)) ∧ At w6 rb #[.slice (some ⟨B, 0, none⟩) bs.length C] 28) := F6F.out _ _ _ F5.out.1 F5.out.2.1 h6 k6
      have y0 := F6.out.2.2.cell 0
      have y1 := F6.out.2.2.frozen 0
      have y3 := F6.out.2.2.lt
      clear h6 k6
      generalize (bs.take i ++ bs.drop (i + 1)).length = LM at F6 ⊢
      refine hK _ _ ?_; clear hK K
      (try simp only [Act.put, List.getElem_toArray, List.getElem_cons_succ, List.getElem_cons_zero, List.setIfInBounds_toArray, List.set_cons_zero, List.set_cons_succ])
      refine wpAny_take (i := 17) (v := .pointer (some ⟨rb, 0, none⟩)) rfl (by kernel_rfl) (by kernel_rfl) (by kernel_rfl) (fun _ _ _ h => h) (Or.inl ⟨by rfl, ?_⟩) ?_
      · intro w'; go_simp
      (try simp only [Act.put, List.getElem_toArray, List.getElem_cons_succ, List.getElem_cons_zero, List.setIfInBounds_toArray, List.set_cons_zero, List.set_cons_succ])
      refine wpAny_take (i := 18) (v := .pointer (some ⟨rb, 0, none⟩)) rfl (by kernel_rfl) (by kernel_rfl) (by kernel_rfl) (fun _ _ _ h => h) (Or.inl ⟨by rfl, ?_⟩) ?_
      · intro w'; go_simp
      (try simp only [Act.put, List.getElem_toArray, List.getElem_cons_succ, List.getElem_cons_zero, List.setIfInBounds_toArray, List.set_cons_zero, List.set_cons_succ])
      refine wpAny_ready (rs := [19]) (by kernel_rfl) (by simp) ?_
      refine AllReady.cons rfl (fun K hK => ?_) AllReady.nil
      go_simp
      refine hK _ _ ?_; clear hK K
      (try simp only [Act.put, List.getElem_toArray, List.getElem_cons_succ, List.getElem_cons_zero, List.setIfInBounds_toArray, List.set_cons_zero, List.set_cons_succ])
      refine wpAny_done (by kernel_rfl) ?_ _
      generalize w6.setCell ⟨rb, 0, none⟩ (.slice A6 LM C6) = w7 at *
      go_wp2
      go_ret
      exact ⟨rfl, ⟨_, F6.out.1⟩, (Kp.of_below NW.out).trans F6.out.2.1⟩
  · go_simp
    refine hK _ _ ?_; clear hK K
    (try simp only [Act.put, List.getElem_toArray, List.getElem_cons_succ, List.getElem_cons_zero, List.setIfInBounds_toArray, List.set_cons_zero, List.set_cons_succ])
    refine wpAny_take (i := 7) (v := .slice (some ⟨B, 0, none⟩) i C) rfl (by kernel_rfl) (by kernel_rfl) (by kernel_rfl) (fun _ _ _ h => h) (Or.inl ⟨by rfl, ?_⟩) ?_
    · intro w'; go_simp
    (try simp only [Act.put, List.getElem_toArray, List.getElem_cons_succ, List.getElem_cons_zero, List.setIfInBounds_toArray, List.set_cons_zero, List.set_cons_succ])
    refine wpAny_ready (rs := [1, 12]) (by kernel_rfl) (by simp) ?_
    refine AllReady.cons rfl (fun K hK => ?_) (AllReady.cons rfl (fun K hK => ?_) AllReady.nil)
    · go_simp
      refine hK _ _ ?_; clear hK K
      (try simp only [Act.put, List.getElem_toArray, List.getElem_cons_succ, List.getElem_cons_zero, List.setIfInBounds_toArray, List.set_cons_zero, List.set_cons_succ])
      have EA : Hid (OwnB 59 3 bL W.heap.size [] (.slice (some ⟨W.heap.size, 0, none⟩) 0 0) (W.drew.alloc (.cells #[] 59))) := OwnB.fresh (At.newS _ _ _ rfl) (Nat.le_refl _)
      refine wpAny_ready (rs := [8, 12]) (by kernel_rfl) (by simp) ?_
      refine AllReady.cons rfl (fun K hK => ?_) (AllReady.cons rfl (fun K hK => ?_) AllReady.nil)
      · rw [if_pos (by rfl)]
        refine OwnB.append 26 59 bL _ 3 24 info59 Tryd.underlying26 rfl (by decide) (by decide) bL_len bL_one _ _ _ rfl _ rfl W.heap.size [] (bs.take i) EA.out ⟨B, 0, none⟩ C (by rw [TL.out]; rfl) T1.out HC1.out ?_
        intro v5 w5 h5 k5
        obtain ⟨A5, C5, rfl, _⟩ := h5.done bL_len
        have F5 : Hid (RIn w5 rb base bs (.slice (some ⟨B, 0, none⟩) bs.length C) ∧ Below W.heap.size W w5 ∧ OwnB 59 3 bL W.heap.size (bs.take i) (.slice A5 ([] ++ bs.take i).length C5) w5 ∧ (∀ j u, ((bs.drop (i + 1)).flatMap bL)[j]? = some u → w5.cell? ((⟨B, (i + 1) * 3, none⟩ : Addr).add j) = some u)) := F5F.out _ _ h5 k5
        have z0 := F5.out.1.1.cell 0
        have z3 := F5.out.1.1.lt
        simp at z0
        clear h5 k5
        generalize ([] ++ bs.take i).length = LN at F5 ⊢
        refine hK _ _ ?_; clear hK K
        (try simp only [Act.put, List.getElem_toArray, List.getElem_cons_succ, List.getElem_cons_zero, List.setIfInBounds_toArray, List.set_cons_zero, List.set_cons_succ])
        refine wpAny_ready (rs := [12]) (by kernel_rfl) (by simp) ?_
        refine AllReady.cons rfl (fun K hK => ?_) AllReady.nil
        go_simp
        refine hK _ _ ?_; clear hK K
        (try simp only [Act.put, List.getElem_toArray, List.getElem_cons_succ, List.getElem_cons_zero, List.setIfInBounds_toArray, List.set_cons_zero, List.set_cons_succ])
        refine wpAny_take (i := 15) (v := .slice (some ⟨B, (i + 1) * 3, none⟩) (bs.length - (i + 1)) (C - (i + 1))) rfl (by kernel_rfl) (by kernel_rfl) (by kernel_rfl) (fun _ _ _ h => h) (Or.inl ⟨by rfl, ?_⟩) ?_
        · intro w'; go_simp; intro h; exfalso; omega
        (try simp only [Act.put, List.getElem_toArray, List.getElem_cons_succ, List.getElem_cons_zero, List.setIfInBounds_toArray, List.set_cons_zero, List.set_cons_succ])
        refine wpAny_ready (rs := [16]) (by kernel_rfl) (by simp) ?_
        refine AllReady.cons rfl (fun K hK => ?_) AllReady.nil
        rw [if_pos (by rfl)]
        refine OwnB.append 26 59 bL _ 3 24 info59 Tryd.underlying26 rfl (by decide) (by decide) bL_len bL_one _ _ _ rfl _ rfl W.heap.size (bs.take i) (bs.drop (i + 1)) F5.out.2.2.1 (⟨B, (i + 1) * 3, none⟩ : Addr) (C - (i + 1)) (by rw [DL.out]; rfl) F5.out.2.2.2 HC2.out ?_
        intro v6 w6 h6 k6
        obtain ⟨A6, C6, rfl, _⟩ := h6.done bL_len
        have F6 : Hid (RIn (w6.setCell ⟨rb, 0, none⟩ (.slice A6 (bs.take i ++ bs.drop (i + 1)).length C6)) rb base (bs.take i ++ bs.drop (i + 1)) (.slice A6 (bs.take i ++ bs.drop (i + 1)).length C6) ∧ Kp (Rs rb (.slice (some ⟨B, 0, none⟩) bs.length C)) W (w6.setCell ⟨rb, 0, none⟩ (.slice A6 (bs.take i ++ bs.drop (i + 1)).length C6)) ∧ At w6 rb #[.slice (some ⟨B, 0, none⟩) bs.length C] 28) := F6F.out _ _ _ F5.out.1 F5.out.2.1 h6 k6
        have y0 := F6.out.2.2.cell 0
        have y1 := F6.out.2.2.frozen 0
        have y3 := F6.out.2.2.lt
        clear h6 k6
        generalize (bs.take i ++ bs.drop (i + 1)).length = LM at F6 ⊢
        refine hK _ _ ?_; clear hK K
        (try simp only [Act.put, List.getElem_toArray, List.getElem_cons_succ, List.getElem_cons_zero, List.setIfInBounds_toArray, List.set_cons_zero, List.set_cons_succ])
        refine wpAny_take (i := 17) (v := .pointer (some ⟨rb, 0, none⟩)) rfl (by kernel_rfl) (by kernel_rfl) (by kernel_rfl) (fun _ _ _ h => h) (Or.inl ⟨by rfl, ?_⟩) ?_
        · intro w'; go_simp
        (try simp only [Act.put, List.getElem_toArray, List.getElem_cons_succ, List.getElem_cons_zero, List.setIfInBounds_toArray, List.set_cons_zero, List.set_cons_succ])
        refine wpAny_take (i := 18) (v := .pointer (some ⟨rb, 0, none⟩)) rfl (by kernel_rfl) (by kernel_rfl) (by kernel_rfl) (fun _ _ _ h => h) (Or.inl ⟨by rfl, ?_⟩) ?_
        · intro w'; go_simp
        (try simp only [Act.put, List.getElem_toArray, List.getElem_cons_succ, List.getElem_cons_zero, List.setIfInBounds_toArray, List.set_cons_zero, List.set_cons_succ])
        refine wpAny_ready (rs := [19]) (by kernel_rfl) (by simp) ?_
        refine AllReady.cons rfl (fun K hK => ?_) AllReady.nil
        go_simp
        refine hK _ _ ?_; clear hK K
        (try simp only [Act.put, List.getElem_toArray, List.getElem_cons_succ, List.getElem_cons_zero, List.setIfInBounds_toArray, List.set_cons_zero, List.set_cons_succ])
        refine wpAny_done (by kernel_rfl) ?_ _
        generalize w6.setCell ⟨rb, 0, none⟩ (.slice A6 LM C6) = w7 at *
        go_wp2
        go_ret
        exact ⟨rfl, ⟨_, F6.out.1⟩, (Kp.of_below NW.out).trans F6.out.2.1⟩
      · go_simp
        refine hK _ _ ?_; clear hK K
        (try simp only [Act.put, List.getElem_toArray, List.getElem_cons_succ, List.getElem_cons_zero, List.setIfInBounds_toArray, List.set_cons_zero, List.set_cons_succ])
        refine wpAny_take (i := 15) (v := .slice (some ⟨B, (i + 1) * 3, none⟩) (bs.length - (i + 1)) (C - (i + 1))) rfl (by kernel_rfl) (by kernel_rfl) (by kernel_rfl) (fun _ _ _ h => h) (Or.inl ⟨by rfl, ?_⟩) ?_
        · intro w'; go_simp; intro h; exfalso; omega
        (try simp only [Act.put, List.getElem_toArray, List.getElem_cons_succ, List.getElem_cons_zero, List.setIfInBounds_toArray, List.set_cons_zero, List.set_cons_succ])
        refine wpAny_ready (rs := [8]) (by kernel_rfl) (by simp) ?_
        refine AllReady.cons rfl (fun K hK => ?_) AllReady.nil
        rw [if_pos (by rfl)]
        refine OwnB.append 26 59 bL _ 3 24 info59 Tryd.underlying26 rfl (by decide) (by decide) bL_len bL_one _ _ _ rfl _ rfl W.heap.size [] (bs.take i) EA.out ⟨B, 0, none⟩ C (by rw [TL.out]; rfl) T1.out HC1.out ?_
        intro v5 w5 h5 k5
        obtain ⟨A5, C5, rfl, _⟩ := h5.done bL_len
        have F5 : Hid (RIn w5 rb base bs (.slice (some ⟨B, 0, none⟩) bs.length C) ∧ Below W.heap.size W w5 ∧ OwnB 59 3 bL W.heap.size (bs.take i) (.slice A5 ([] ++ bs.take i).length C5) w5 ∧ (∀ j u, ((bs.drop (i + 1)).flatMap bL)[j]? = some u → w5.cell? ((⟨B, (i + 1) * 3, none⟩ : Addr).add j) = some u)) := F5F.out _ _ h5 k5
        have z0 := F5.out.1.1.cell 0
        have z3 := F5.out.1.1.lt
        simp at z0
        clear h5 k5
        generalize ([] ++ bs.take i).length = LN at F5 ⊢
        refine hK _ _ ?_; clear hK K
        (try simp only [Act.put, List.getElem_toArray, List.getElem_cons_succ, List.getElem_cons_zero, List.setIfInBounds_toArray, List.set_cons_zero, List.set_cons_succ])
        refine wpAny_ready (rs := [16]) (by kernel_rfl) (by simp) ?_
        refine AllReady.cons rfl (fun K hK => ?_) AllReady.nil
        rw [if_pos (by rfl)]
        refine OwnB.append 26 59 bL _ 3 24 info59 Tryd.underlying26 rfl (by decide) (by decide) bL_len bL_one _ _ _ rfl _ rfl W.heap.size (bs.take i) (bs.drop (i + 1)) F5.out.2.2.1 (⟨B, (i + 1) * 3, none⟩ : Addr) (C - (i + 1)) (by rw [DL.out]; rfl) F5.out.2.2.2 HC2.out ?_
        intro v6 w6 h6 k6
        obtain ⟨A6, C6, rfl, _⟩ := h6.done bL_len
        have F6 : Hid (RIn (w6.setCell ⟨rb, 0, none⟩ (.slice A6 (bs.take i ++ bs.drop (i + 1)).length C6)) rb base (bs.take i ++ bs.drop (i + 1)) (.slice A6 (bs.take i ++ bs.drop (i + 1)).length C6) ∧ Kp (Rs rb (.slice (some ⟨B, 0, none⟩) bs.length C)) W (w6.setCell ⟨rb, 0, none⟩ (.slice A6 (bs.take i ++ bs.drop (i + 1)).length C6)) ∧ At w6 rb #[.slice (some ⟨B, 0, none⟩) bs.length C] 28) := F6F.out _ _ _ F5.out.1 F5.out.2.1 h6 k6
        have y0 := F6.out.2.2.cell 0
        have y1 := F6.out.2.2.frozen 0
        have y3 := F6.out.2.2.lt
        clear h6 k6
        generalize (bs.take i ++ bs.drop (i + 1)).length = LM at F6 ⊢
        refine hK _ _ ?_; clear hK K
        (try simp only [Act.put, List.getElem_toArray, List.getElem_cons_succ, List.getElem_cons_zero, List.setIfInBounds_toArray, List.set_cons_zero, List.set_cons_succ])
        refine wpAny_take (i := 17) (v := .pointer (some ⟨rb, 0, none⟩)) rfl (by kernel_rfl) (by kernel_rfl) (by kernel_rfl) (fun _ _ _ h => h) (Or.inl ⟨by rfl, ?_⟩) ?_
        · intro w'; go_simp
        (try simp only [Act.put, List.getElem_toArray, List.getElem_cons_succ, List.getElem_cons_zero, List.setIfInBounds_toArray, List.set_cons_zero, List.set_cons_succ])
        refine wpAny_take (i := 18) (v := .pointer (some ⟨rb, 0, none⟩)) rfl (by kernel_rfl) (by kernel_rfl) (by kernel_rfl) (fun _ _ _ h => h) (Or.inl ⟨by rfl, ?_⟩) ?_
        · intro w'; go_simp
        (try simp only [Act.put, List.getElem_toArray, List.getElem_cons_succ, List.getElem_cons_zero, List.setIfInBounds_toArray, List.set_cons_zero, List.set_cons_succ])
        refine wpAny_ready (rs := [19]) (by kernel_rfl) (by simp) ?_
        refine AllReady.cons rfl (fun K hK => ?_) AllReady.nil
        go_simp
        refine hK _ _ ?_; clear hK K
        (try simp only [Act.put, List.getElem_toArray, List.getElem_cons_succ, List.getElem_cons_zero, List.setIfInBounds_toArray, List.set_cons_zero, List.set_cons_succ])
        refine wpAny_done (by kernel_rfl) ?_ _
        generalize w6.setCell ⟨rb, 0, none⟩ (.slice A6 LM C6) = w7 at *
        go_wp2
        go_ret
        exact ⟨rfl, ⟨_, F6.out.1⟩, (Kp.of_below NW.out).trans F6.out.2.1⟩
    · go_simp
      refine hK _ _ ?_; clear hK K
      (try simp only [Act.put, List.getElem_toArray, List.getElem_cons_succ, List.getElem_cons_zero, List.setIfInBounds_toArray, List.set_cons_zero, List.set_cons_succ])
      refine wpAny_take (i := 15) (v := .slice (some ⟨B, (i + 1) * 3, none⟩) (bs.length - (i + 1)) (C - (i + 1))) rfl (by kernel_rfl) (by kernel_rfl) (by kernel_rfl) (fun _ _ _ h => h) (Or.inl ⟨by rfl, ?_⟩) ?_
      · intro w'; go_simp; intro h; exfalso; omega
      (try simp only [Act.put, List.getElem_toArray, List.getElem_cons_succ, List.getElem_cons_zero, List.setIfInBounds_toArray, List.set_cons_zero, List.set_cons_succ])
      refine wpAny_ready (rs := [1]) (by kernel_rfl) (by simp) ?_
      refine AllReady.cons rfl (fun K hK => ?_) AllReady.nil
      go_simp
      refine hK _ _ ?_; clear hK K
      (try simp only [Act.put, List.getElem_toArray, List.getElem_cons_succ, List.getElem_cons_zero, List.setIfInBounds_toArray, List.set_cons_zero, List.set_cons_succ])
      have EA : Hid (OwnB 59 3 bL W.heap.size [] (.slice (some ⟨W.heap.size, 0, none⟩) 0 0) (W.drew.alloc (.cells #[] 59))) := OwnB.fresh (At.newS _ _ _ rfl) (Nat.le_refl _)
      refine wpAny_ready (rs := [8]) (by kernel_rfl) (by simp) ?_
      refine AllReady.cons rfl (fun K hK => ?_) AllReady.nil
      rw [if_pos (by rfl)]
      refine OwnB.append 26 59 bL _ 3 24 info59 Tryd.underlying26 rfl (by decide) (by decide) bL_len bL_one _ _ _ rfl _ rfl W.heap.size [] (bs.take i) EA.out ⟨B, 0, none⟩ C (by rw [TL.out]; rfl) T1.out HC1.out ?_
      intro v5 w5 h5 k5
      obtain ⟨A5, C5, rfl, _⟩ := h5.done bL_len
      have F5 : Hid (RIn w5 rb base bs (.slice (some ⟨B, 0, none⟩) bs.length C) ∧ Below W.heap.size W w5 ∧ OwnB 59 3 bL W.heap.size (bs.take i) (.slice A5 ([] ++ bs.take i).length C5) w5 ∧ (∀ j u, ((bs.drop (i + 1)).flatMap bL)[j]? = some u → w5.cell? ((⟨B, (i + 1) * 3, none⟩ : Addr).add j) = some u)) := F5F.out _ _ h5 k5
      have z0 := F5.out.1.1.cell 0
      have z3 := F5.out.1.1.lt
      simp at z0
      clear h5 k5
      generalize ([] ++ bs.take i).length = LN at F5 ⊢
      refine hK _ _ ?_; clear hK K
      (try simp only [Act.put, List.getElem_toArray, List.getElem_cons_succ, List.getElem_cons_zero, List.setIfInBounds_toArray, List.set_cons_zero, List.set_cons_succ])
      refine wpAny_ready (rs := [16]) (by kernel_rfl) (by simp) ?_
      refine AllReady.cons rfl (fun K hK => ?_) AllReady.nil
      rw [if_pos (by rfl)]
      refine OwnB.append 26 59 bL _ 3 24 info59 Tryd.underlying26 rfl (by decide) (by decide) bL_len bL_one _ _ _ rfl _ rfl W.heap.size (bs.take i) (bs.drop (i + 1)) F5.out.2.2.1 (⟨B, (i + 1) * 3, none⟩ : Addr) (C - (i + 1)) (by rw [DL.out]; rfl) F5.out.2.2.2 HC2.out ?_
      intro v6 w6 h6 k6
      obtain ⟨A6, C6, rfl, _⟩ := h6.done bL_len
      have F6 : Hid (RIn (w6.setCell ⟨rb, 0, none⟩ (.slice A6 (bs.take i ++ bs.drop (i + 1)).length C6)) rb base (bs.take i ++ bs.drop (i + 1)) (.slice A6 (bs.take i ++ bs.drop (i + 1)).length C6) ∧ Kp (Rs rb (.slice (some ⟨B, 0, none⟩) bs.length C)) W (w6.setCell ⟨rb, 0, none⟩ (.slice A6 (bs.take i ++ bs.drop (i + 1)).length C6)) ∧ At w6 rb #[.slice (some ⟨B, 0, none⟩) bs.length C] 28) := F6F.out _ _ _ F5.out.1 F5.out.2.1 h6 k6
      have y0 := F6.out.2.2.cell 0
      have y1 := F6.out.2.2.frozen 0
      have y3 := F6.out.2.2.lt
      clear h6 k6
      generalize (bs.take i ++ bs.drop (i + 1)).length = LM at F6 ⊢
      refine hK _ _ ?_; clear hK K
      (try simp only [Act.put, List.getElem_toArray, List.getElem_cons_succ, List.getElem_cons_zero, List.setIfInBounds_toArray, List.set_cons_zero, List.set_cons_succ])
      refine wpAny_take (i := 17) (v := .pointer (some ⟨rb, 0, none⟩)) rfl (by kernel_rfl) (by kernel_rfl) (by kernel_rfl) (fun _ _ _ h => h) (Or.inl ⟨by rfl, ?_⟩) ?_
      · intro w'; go_simp
      (try simp only [Act.put, List.getElem_toArray, List.getElem_cons_succ, List.getElem_cons_zero, List.setIfInBounds_toArray, List.set_cons_zero, List.set_cons_succ])
      refine wpAny_take (i := 18) (v := .pointer (some ⟨rb, 0, none⟩)) rfl (by kernel_rfl) (by kernel_rfl) (by kernel_rfl) (fun _ _ _ h => h) (Or.inl ⟨by rfl, ?_⟩) ?_
      · intro w'; go_simp
      (try simp only [Act.put, List.getElem_toArray, List.getElem_cons_succ, List.getElem_cons_zero, List.setIfInBounds_toArray, List.set_cons_zero, List.set_cons_succ])
      refine wpAny_ready (rs := [19]) (by kernel_rfl) (by simp) ?_
      refine AllReady.cons rfl (fun K hK => ?_) AllReady.nil
      go_simp
      refine hK _ _ ?_; clear hK K
      (try simp only [Act.put, List.getElem_toArray, List.getElem_cons_succ, List.getElem_cons_zero, List.setIfInBounds_toArray, List.set_cons_zero, List.set_cons_succ])
      refine wpAny_done (by kernel_rfl) ?_ _
      generalize w6.setCell ⟨rb, 0, none⟩ (.slice A6 LM C6) = w7 at *
      go_wp2
      go_ret
      exact ⟨rfl, ⟨_, F6.out.1⟩, (Kp.of_below NW.out).trans F6.out.2.1⟩
  · go_simp
    refine hK _ _ ?_; clear hK K
    (try simp only [Act.put, List.getElem_toArray, List.getElem_cons_succ, List.getElem_cons_zero, List.setIfInBounds_toArray, List.set_cons_zero, List.set_cons_succ])
    refine wpAny_take (i := 15) (v := .slice (some ⟨B, (i + 1) * 3, none⟩) (bs.length - (i + 1)) (C - (i + 1))) rfl (by kernel_rfl) (by kernel_rfl) (by kernel_rfl) (fun _ _ _ h => h) (Or.inl ⟨by rfl, ?_⟩) ?_
    · intro w'; go_simp; intro h; exfalso; omega
    (try simp only [Act.put, List.getElem_toArray, List.getElem_cons_succ, List.getElem_cons_zero, List.setIfInBounds_toArray, List.set_cons_zero, List.set_cons_succ])
    refine wpAny_ready (rs := [1, 5]) (by kernel_rfl) (by simp) ?_
    refine AllReady.cons rfl (fun K hK => ?_) (AllReady.cons rfl (fun K hK => ?_) AllReady.nil)
    · go_simp
      refine hK _ _ ?_; clear hK K
      (try simp only [Act.put, List.getElem_toArray, List.getElem_cons_succ, List.getElem_cons_zero, List.setIfInBounds_toArray, List.set_cons_zero, List.set_cons_succ])
      have EA : Hid (OwnB 59 3 bL W.heap.size [] (.slice (some ⟨W.heap.size, 0, none⟩) 0 0) (W.drew.alloc (.cells #[] 59))) := OwnB.fresh (At.newS _ _ _ rfl) (Nat.le_refl _)
      refine wpAny_ready (rs := [5]) (by kernel_rfl) (by simp) ?_
      refine AllReady.cons rfl (fun K hK => ?_) AllReady.nil
      go_simp
      refine hK _ _ ?_; clear hK K
      (try simp only [Act.put, List.getElem_toArray, List.getElem_cons_succ, List.getElem_cons_zero, List.setIfInBounds_toArray, List.set_cons_zero, List.set_cons_succ])
      refine wpAny_take (i := 7) (v := .slice (some ⟨B, 0, none⟩) i C) rfl (by kernel_rfl) (by kernel_rfl) (by kernel_rfl) (fun _ _ _ h => h) (Or.inl ⟨by rfl, ?_⟩) ?_
      · intro w'; go_simp
      (try simp only [Act.put, List.getElem_toArray, List.getElem_cons_succ, List.getElem_cons_zero, List.setIfInBounds_toArray, List.set_cons_zero, List.set_cons_succ])
      refine wpAny_ready (rs := [8]) (by kernel_rfl) (by simp) ?_
      refine AllReady.cons rfl (fun K hK => ?_) AllReady.nil
      rw [if_pos (by rfl)]
      refine OwnB.append 26 59 bL _ 3 24 info59 Tryd.underlying26 rfl (by decide) (by decide) bL_len bL_one _ _ _ rfl _ rfl W.heap.size [] (bs.take i) EA.out ⟨B, 0, none⟩ C (by rw [TL.out]; rfl) T1.out HC1.out ?_
      intro v5 w5 h5 k5
      obtain ⟨A5, C5, rfl, _⟩ := h5.done bL_len
      have F5 : Hid (RIn w5 rb base bs (.slice (some ⟨B, 0, none⟩) bs.length C) ∧ Below W.heap.size W w5 ∧ OwnB 59 3 bL W.heap.size (bs.take i) (.slice A5 ([] ++ bs.take i).length C5) w5 ∧ (∀ j u, ((bs.drop (i + 1)).flatMap bL)[j]? = some u → w5.cell? ((⟨B, (i + 1) * 3, none⟩ : Addr).add j) = some u)) := F5F.out _ _ h5 k5
      have z0 := F5.out.1.1.cell 0
      have z3 := F5.out.1.1.lt
      simp at z0
      clear h5 k5
      generalize ([] ++ bs.take i).length = LN at F5 ⊢
      refine hK _ _ ?_; clear hK K
      (try simp only [Act.put, List.getElem_toArray, List.getElem_cons_succ, List.getElem_cons_zero, List.setIfInBounds_toArray, List.set_cons_zero, List.set_cons_succ])
      refine wpAny_ready (rs := [16]) (by kernel_rfl) (by simp) ?_
      refine AllReady.cons rfl (fun K hK => ?_) AllReady.nil
      rw [if_pos (by rfl)]
      refine OwnB.append 26 59 bL _ 3 24 info59 Tryd.underlying26 rfl (by decide) (by decide) bL_len bL_one _ _ _ rfl _ rfl W.heap.size (bs.take i) (bs.drop (i + 1)) F5.out.2.2.1 (⟨B, (i + 1) * 3, none⟩ : Addr) (C - (i + 1)) (by rw [DL.out]; rfl) F5.out.2.2.2 HC2.out ?_
      intro v6 w6 h6 k6
      obtain ⟨A6, C6, rfl, _⟩ := h6.done bL_len
      have F6 : Hid (RIn (w6.setCell ⟨rb, 0, none⟩ (.slice A6 (bs.take i ++ bs.drop (i + 1)).length C6)) rb base (bs.take i ++ bs.drop (i + 1)) (.slice A6 (bs.take i ++ bs.drop (i + 1)).length C6) ∧ Kp (Rs rb (.slice (some ⟨B, 0, none⟩) bs.length C)) W (w6.setCell ⟨rb, 0, none⟩ (.slice A6 (bs.take i ++ bs.drop (i + 1)).length C6)) ∧ At w6 rb #[.slice (some ⟨B, 0, none⟩) bs.length C] 28) := F6F.out _ _ _ F5.out.1 F5.out.2.1 h6 k6
      have y0 := F6.out.2.2.cell 0
      have y1 := F6.out.2.2.frozen 0
      have y3 := F6.out.2.2.lt
      clear h6 k6
      generalize (bs.take i ++ bs.drop (i + 1)).length = LM at F6 ⊢
      refine hK _ _ ?_; clear hK K
      (try simp only [Act.put, List.getElem_toArray, List.getElem_cons_succ, List.getElem_cons_zero, List.setIfInBounds_toArray, List.set_cons_zero, List.set_cons_succ])
      refine wpAny_take (i := 17) (v := .pointer (some ⟨rb, 0, none⟩)) rfl (by kernel_rfl) (by kernel_rfl) (by kernel_rfl) (fun _ _ _ h => h) (Or.inl ⟨by rfl, ?_⟩) ?_
      · intro w'; go_simp
      (try simp only [Act.put, List.getElem_toArray, List.getElem_cons_succ, List.getElem_cons_zero, List.setIfInBounds_toArray, List.set_cons_zero, List.set_cons_succ])
      refine wpAny_take (i := 18) (v := .pointer (some ⟨rb, 0, none⟩)) rfl (by kernel_rfl) (by kernel_rfl) (by kernel_rfl) (fun _ _ _ h => h) (Or.inl ⟨by rfl, ?_⟩) ?_
      · intro w'; go_simp
      (try simp only [Act.put, List.getElem_toArray, List.getElem_cons_succ, List.getElem_cons_zero, List.setIfInBounds_toArray, List.set_cons_zero, List.set_cons_succ])
      refine wpAny_ready (rs := [19]) (by kernel_rfl) (by simp) ?_
      refine AllReady.cons rfl (fun K hK => ?_) AllReady.nil
      go_simp
      refine hK _ _ ?_; clear hK K
      (try simp only [Act.put, List.getElem_toArray, List.getElem_cons_succ, List.getElem_cons_zero, List.setIfInBounds_toArray, List.set_cons_zero, List.set_cons_succ])
      refine wpAny_done (by kernel_rfl) ?_ _
      generalize w6.setCell ⟨rb, 0, none⟩ (.slice A6 LM C6) = w7 at *
      go_wp2
      go_ret
      exact ⟨rfl, ⟨_, F6.out.1⟩, (Kp.of_below NW.out).trans F6.out.2.1⟩
    · go_simp
      refine hK _ _ ?_; clear hK K
      (try simp only [Act.put, List.getElem_toArray, List.getElem_cons_succ, List.getElem_cons_zero, List.setIfInBounds_toArray, List.set_cons_zero, List.set_cons_succ])
      refine wpAny_take (i := 7) (v := .slice (some ⟨B, 0, none⟩) i C) rfl (by kernel_rfl) (by kernel_rfl) (by kernel_rfl) (fun _ _ _ h => h) (Or.inl ⟨by rfl, ?_⟩) ?_
      · intro w'; go_simp
      (try simp only [Act.put, List.getElem_toArray, List.getElem_cons_succ, List.getElem_cons_zero, List.setIfInBounds_toArray, List.set_cons_zero, List.set_cons_succ])
      refine wpAny_ready (rs := [1]) (by kernel_rfl) (by simp) ?_
      refine AllReady.cons rfl (fun K hK => ?_) AllReady.nil
      go_simp
      refine hK _ _ ?_; clear hK K
      (try simp only [Act.put, List.getElem_toArray, List.getElem_cons_succ, List.getElem_cons_zero, List.setIfInBounds_toArray, List.set_cons_zero, List.set_cons_succ])
      have EA : Hid (OwnB 59 3 bL W.heap.size [] (.slice (some ⟨W.heap.size, 0, none⟩) 0 0) (W.drew.alloc (.cells #[] 59))) := OwnB.fresh (At.newS _ _ _ rfl) (Nat.le_refl _)
      refine wpAny_ready (rs := [8]) (by kernel_rfl) (by simp) ?_
      refine AllReady.cons rfl (fun K hK => ?_) AllReady.nil
      rw [if_pos (by rfl)]
      refine OwnB.append 26 59 bL _ 3 24 info59 Tryd.underlying26 rfl (by decide) (by decide) bL_len bL_one _ _ _ rfl _ rfl W.heap.size [] (bs.take i) EA.out ⟨B, 0, none⟩ C (by rw [TL.out]; rfl) T1.out HC1.out ?_
      intro v5 w5 h5 k5
      obtain ⟨A5, C5, rfl, _⟩ := h5.done bL_len
      have F5 : Hid (RIn w5 rb base bs (.slice (some ⟨B, 0, none⟩) bs.length C) ∧ Below W.heap.size W w5 ∧ OwnB 59 3 bL W.heap.size (bs.take i) (.slice A5 ([] ++ bs.take i).length C5) w5 ∧ (∀ j u, ((bs.drop (i + 1)).flatMap bL)[j]? = some u → w5.cell? ((⟨B, (i + 1) * 3, none⟩ : Addr).add j) = some u)) := F5F.out _ _ h5 k5
      have z0 := F5.out.1.1.cell 0
      have z3 := F5.out.1.1.lt
      simp at z0
      clear h5 k5
      generalize ([] ++ bs.take i).length = LN at F5 ⊢
      refine hK _ _ ?_; clear hK K
      (try simp only [Act.put, List.getElem_toArray, List.getElem_cons_succ, List.getElem_cons_zero, List.setIfInBounds_toArray, List.set_cons_zero, List.set_cons_succ])
      refine wpAny_ready (rs := [16]) (by kernel_rfl) (by simp) ?_
      refine AllReady.cons rfl (fun K hK => ?_) AllReady.nil
      rw [if_pos (by rfl)]
      refine OwnB.append 26 59 bL _ 3 24 info59 Tryd.underlying26 rfl (by decide) (by decide) bL_len bL_one _ _ _ rfl _ rfl W.heap.size (bs.take i) (bs.drop (i + 1)) F5.out.2.2.1 (⟨B, (i + 1) * 3, none⟩ : Addr) (C - (i + 1)) (by rw [DL.out]; rfl) F5.out.2.2.2 HC2.out ?_
      intro v6 w6 h6 k6
      obtain ⟨A6, C6, rfl, _⟩ := h6.done bL_len
      have F6 : Hid (RIn (w6.setCell ⟨rb, 0, none⟩ (.slice A6 (bs.take i ++ bs.drop (i + 1)).length C6)) rb base (bs.take i ++ bs.drop (i + 1)) (.slice A6 (bs.take i ++ bs.drop (i + 1)).length C6) ∧ Kp (Rs rb (.slice (some ⟨B, 0, none⟩) bs.length C)) W (w6.setCell ⟨rb, 0, none⟩ (.slice A6 (bs.take i ++ bs.drop (i + 1)).length C6)) ∧ At w6 rb #[.slice (some ⟨B, 0, none⟩) bs.length C] 28) := F6F.out _ _ _ F5.out.1 F5.out.2.1 h6 k6
      have y0 := F6.out.2.2.cell 0
      have y1 := F6.out.2.2.frozen 0
      have y3 := F6.out.2.2.lt
      clear h6 k6
      generalize (bs.take i ++ bs.drop (i + 1)).length = LM at F6 ⊢
      refine hK _ _ ?_; clear hK K
      (try simp only [Act.put, List.getElem_toArray, List.getElem_cons_succ, List.getElem_cons_zero, List.setIfInBounds_toArray, List.set_cons_zero, List.set_cons_succ])
      refine wpAny_take (i := 17) (v := .pointer (some ⟨rb, 0, none⟩)) rfl (by kernel_rfl) (by kernel_rfl) (by kernel_rfl) (fun _ _ _ h => h) (Or.inl ⟨by rfl, ?_⟩) ?_
      · intro w'; go_simp
      (try simp only [Act.put, List.getElem_toArray, List.getElem_cons_succ, List.getElem_cons_zero, List.setIfInBounds_toArray, List.set_cons_zero, List.set_cons_succ])
      refine wpAny_take (i := 18) (v := .pointer (some ⟨rb, 0, none⟩)) rfl (by kernel_rfl) (by kernel_rfl) (by kernel_rfl) (fun _ _ _ h => h) (Or.inl ⟨by rfl, ?_⟩) ?_
      · intro w'; go_simp
      (try simp only [Act.put, List.getElem_toArray, List.getElem_cons_succ, List.getElem_cons_zero, List.setIfInBounds_toArray, List.set_cons_zero, List.set_cons_succ])
      refine wpAny_ready (rs := [19]) (by kernel_rfl) (by simp) ?_
      refine AllReady.cons rfl (fun K hK => ?_) AllReady.nil
      go_simp
      refine hK _ _ ?_; clear hK K
      (try simp only [Act.put, List.getElem_toArray, List.getElem_cons_succ, List.getElem_cons_zero, List.setIfInBounds_toArray, List.set_cons_zero, List.set_cons_succ])
      refine wpAny_done (by kernel_rfl) ?_ _
      generalize w6.setCell ⟨rb, 0, none⟩ (.slice A6 LM C6) = w7 at *
      go_wp2
      go_ret
      exact ⟨rfl, ⟨_, F6.out.1⟩, (Kp.of_below NW.out).trans F6.out.2.1⟩

theorem rfree_c {w : World} {rb base : Nat} {bs : List (Nat × Nat)} {lv : Value} (h : RIn w rb base bs lv) (hl : bs.length ≤ 1000) (hrb : rb < base) (x : Int) :
    Calls Tryd.prog 13 #[.pointer (some ⟨rb, 0, none⟩), .int .i64 x] w fun e w' => e = .returned (.int .i64 (feF (fx bs x))) ∧ (∃ lv', RIn w' rb base (bsF bs (fx bs x)) lv') ∧ Kp (Rs rb lv) w w' := by
  have L := ff_lt (fun i => decide (adA bs i = x)) bs.length 0
  change ∀ i, fx bs x = some i → _ at L
  cases hq : fx bs x with
  | none =>
    have HH : Hid (RIn w rb base bs lv) := h
    have FF : Hid (Calls Tryd.prog 22 #[.pointer (some ⟨rb, 0, none⟩), .int .i64 x] w fun e w' => e = .returned (.int .i64 (-1)) ∧ Below w.heap.size w w') := by
      have := rfind_c h hl x
      rw [hq] at this
      exact this
    clear h
    show Calls Tryd.prog 13 #[.pointer (some ⟨rb, 0, none⟩), .int .i64 x] w fun e w' => e = .returned (.int .i64 13) ∧ (∃ lv', RIn w' rb base bs lv') ∧ Kp (Rs rb lv) w w'
    go_enter Tryd.func13, Tryd.ntmps13
    go_wp2_with (go_at_call 22; refine FF.out.mono ?_; rintro e w1 ⟨rfl, hb⟩; have R1 : Hid (RIn w1 rb base bs lv) := HH.out.below hb; have N1 : Hid (Below w.heap.size w w1) := hb; clear hb)
    go_ret
    exact ⟨rfl, ⟨lv, R1.out⟩, Kp.of_below N1.out⟩
  | some i =>
    have hi : i < bs.length := by have := (L i hq).2.1; omega
    obtain ⟨A, C, rfl, hsh⟩ := h.2.bshape
    obtain ⟨B, rfl, _, _, hcap, _⟩ := hsh (by omega)
    by_cases hC : C = i + 1
    · exact rfree0 h hl hrb x i hi hcap hq hC
    · exact rfree1 h hl hrb x i hi hcap hq hC
end Go.Proofs.YtffcfohbnbldhaaDoor
