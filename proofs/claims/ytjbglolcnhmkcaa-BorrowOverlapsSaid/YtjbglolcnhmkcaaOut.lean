/-
  Proved: outwards tells a place's trees, its root first.
-/
import Derived.Test.YtjbglolcnhmkcaaOwn
import Derived.Test.YtjbglolcnhmkcaaRev
namespace Go.Proofs.Ytjbglolcnhmkcaa
open Go.RowKit

def encL (a : Addr) : List Value := [encP a]
theorem encL_len (a : Addr) : (encL a).length = 1 := rfl
theorem encL_one (a : Addr) : ∀ u ∈ encL a, u.oneCell' = true := by intro u hu; simp [encL, encP] at hu; subst hu; rfl

theorem outX_pos (k n : Int) (s : ByteArray) (ks : List X) (ts : List T) (h : 0 < ks.length) (hk : isSt k = true) : outX (.mk k n s ks ts) = .mk k n s ks ts :: outX (ks[0]'h) ∧ rootX (.mk k n s ks ts) = rootX (ks[0]'h) := by
  match ks, h with
  | e :: es, _ => exact ⟨by simp [outX, hk], by simp [rootX, hk]⟩

theorem outX_end (k n : Int) (s : ByteArray) (ks : List X) (ts : List T) (h : ¬ 0 < ks.length ∨ isSt k = false) : outX (.mk k n s ks ts) = [] ∧ rootX (.mk k n s ks ts) = .mk k n s ks ts := by
  match ks, h with
  | [], _ => exact ⟨rfl, rfl⟩
  | e :: es, h =>
    rcases h with h | h
    · simp at h
    · exact ⟨by simp [outX, h], by simp [rootX, h]⟩

/-- Trees with where they lie. -/
def Lie (w : World) (l : List (X × Addr)) : Prop := ∀ p ∈ l, PtIn w p.1 (encP p.2)

theorem Lie.below {w w' : World} {l : List (X × Addr)} (h : Lie w l) (k : Below w.heap.size w w') : Lie w' l := fun p hp => (h p hp).below k

/-- A slice's length. -/
def lnV : Value → Nat
  | .slice _ n _ => n
  | _ => 0

/-- What outwards has told. -/
def Outs (w0 w : World) (x : X) (e : Ending) (w' : World) : Prop := ∃ (l : List (X × Addr)) (g C : Nat), l.map (·.1) = rootX x :: (outX x).reverse ∧ Lie w0 l ∧ e = .returned (.slice (some ⟨g, 0, none⟩) l.length C) ∧
  w.heap.size ≤ g ∧ l.length ≤ C ∧ RowsIn w' 1 encL (l.map (·.2)) (some ⟨g, 0, none⟩) ∧ Below w.heap.size w w'

theorem Own.holds {w wr : World} {l : List Addr} {v : Value} (h : Own 30 1 encL w l v wr) (hne : l ≠ []) : ∃ g C, v = .slice (some ⟨g, 0, none⟩) l.length C ∧ w.heap.size ≤ g ∧ l.length ≤ C ∧ g < wr.heap.size ∧ Sort.Holds encP wr g 0 l.toArray := by
  rcases h.2.2 with ⟨_, e0⟩ | ⟨g, cap, cur, rfl, hg0, hg, hcap, _, hcur, e7⟩
  · exact absurd (List.eq_nil_of_length_eq_zero e0) hne
  · refine ⟨g, cap, rfl, hg0, hcap, (Array.getElem?_eq_some_iff.1 hg).1, fun j hj => ?_⟩
    have hA : At wr g cur 30 := hg
    refine ⟨?_, hA.frozen _⟩
    have hj' : j < l.length := by simpa using hj
    have h2 := flat_get (enc := encL) encL_len l j hj' 0 (encP l[j]) rfl
    rw [hA.cell, Nat.zero_add]
    rw [← e7] at h2
    have hlt := (List.getElem?_eq_some_iff.1 h2).1
    rw [List.getElem?_take_of_lt (by simp at hlt; omega), Array.getElem?_toList, Nat.mul_one, Nat.add_zero] at h2
    rw [h2]
    simp [getElem!_pos, hj']

theorem below_putRow {n : Nat} {w W : World} (h : Below n w W) {g : Nat} (hg : n ≤ g) (d : Array Addr) (m : Nat) : Below n w (Sort.putRow encP (Sort.ahead W m) g 0 d) := by
  refine h.trans ⟨rfl, rfl, rfl, by simp, fun k hk => ?_⟩
  simp only [Sort.putRow, Sort.mapBlock, Array.getElem?_modify]
  rw [if_neg (by omega)]
  rfl

theorem rev_c {w wr : World} {l : List Addr} {v : Value} (h : Own 30 1 encL w l v wr) (hne : l ≠ []) (hl : l.length ≤ 100000) : ∃ g C, v = .slice (some ⟨g, 0, none⟩) l.length C ∧ w.heap.size ≤ g ∧ l.length ≤ C ∧
    Calls Try.prog 14 #[.slice (some ⟨g, 0, none⟩) l.length C] wr fun e w' => e = .returned (.tuple #[]) ∧ RowsIn w' 1 encL l.reverse (some ⟨g, 0, none⟩) ∧ Below w.heap.size w w' := by
  obtain ⟨g, C, rfl, hg, hcc, hgw, hH⟩ := h.holds hne
  refine ⟨g, C, rfl, hg, hcc, ?_⟩
  have key := rev_arr g 0 C l.toArray wr hH (by simp; omega)
  simp only [List.size_toArray] at key
  refine key.mono ?_
  rintro e w' ⟨rfl, n, rfl⟩
  refine ⟨rfl, fun i hi => ⟨g, 0, rfl, by simp; exact hgw, fun j v hj => ?_⟩, below_putRow h.1 hg _ _⟩
  have hj0 : j = 0 := by
    have := (List.getElem?_eq_some_iff.1 hj).1
    rw [encL_len] at this
    omega
  subst hj0
  have h2 := (Sort.holds_putRow encP (Sort.ahead wr n) g 0 l.toArray l.toArray.reverse (Sort.holds_ahead encP wr n g 0 l.toArray hH) (by simp) i (by simpa using hi)).1
  have hv : encP (l.reverse[i]'hi) = v := by simpa [encL] using hj
  rw [← hv, show 0 + i * 1 + 0 = 0 + i by omega, h2]
  simp only [List.reverse_toArray]
  rw [getElem!_pos _ i (by simpa using hi)]
  simp

set_option maxRecDepth 100000 in
set_option maxHeartbeats 4000000 in
theorem outwards_c (x : X) (v : Value) (w0 w : World) (h : PtIn w0 x v) (hb0 : Below w0.heap.size w0 w) (hd : dpt x ≤ 1000) : Calls Try.prog 10 #[v] w fun e w' => Outs w0 w x e w' := by
  obtain ⟨b, o, cs, rfl, hr, hx⟩ := h
  have HB0 : Hid (Below w0.heap.size w0 w) := hb0
  have HP : Hid (PtIn w0 x (encP ⟨b, o, none⟩)) := ⟨b, o, cs, rfl, hr, hx⟩
  have HDX : Hid (dpt x ≤ 1000) := hd
  clear hr hx hd hb0
  go_enter Try.func10, Try.ntmps10
  go_wp2
  go_loopw [0, 3] (fun pv tv wr => ∃ (y : X) (ya : Addr) (l : List (X × Addr)), pv = .pointer (some ya) ∧ Hid (PtIn w0 y (encP ya)) ∧ Hid (Lie w0 l) ∧ Hid (l.map (·.1) ++ outX y ++ [rootX y] = outX x ++ [rootX x]) ∧ Hid (l.length + dpt y ≤ 1000) ∧ Hid (Own 30 1 encL w (l.map (·.2) ++ [ya]) tv wr)) (fun _ tv _ => 1001 - lnV tv)
  case atStart => exact ⟨x, ⟨b, o, none⟩, [], rfl, HP.out, (fun p hp => by cases hp), by show [] ++ outX x ++ [rootX x] = _; simp, by show 0 + dpt x ≤ 1000; have := HDX.out; omega, ⟨below_alloc _ _, by simp [encL], Or.inr ⟨w.heap.size, 1, #[encP ⟨b, o, none⟩], rfl, Nat.le_refl _, alloc_at _ _, by simp, by simp [maxLen], by simp, by simp [encL]⟩⟩⟩
  case round =>
    obtain ⟨y, ya, l, rfl, HY, HL, HE, HM, HO⟩ := hrel
    have HB : Hid (Below w.heap.size w wr) := HO.out.1
    obtain ⟨b1, o1, cs1, e1, hr1, hx1⟩ := HY.out
    obtain rfl : ya = ⟨b1, o1, none⟩ := by simpa [encP] using e1
    obtain ⟨k1, n1, s1, ks1, ts1⟩ := y
    obtain ⟨at1, A1, C1, B1, D1, p1, q1, r1, Z1, zl1, zc1, rfl, hks, _⟩ := hx1.inv
    have hl := hks.1
    have hrw := hr1.below (below_next HB0.out HB.out)
    have c0 := hrw.2 0 _ rfl
    have c4 := hrw.2 4 _ rfl
    have hb1 := hrw.1
    simp only [Nat.add_zero] at c0
    clear hr1 hrw hx1 e1
    have HLEN : Hid ((l.map (·.2) ++ [(⟨b1, o1, none⟩ : Addr)]).length ≤ 1001) := by have := HM.out; show (l.map (·.2) ++ [(⟨b1, o1, none⟩ : Addr)]).length ≤ 1001; simp; omega
    have IS : Hid (∀ W, Calls Try.prog 13 #[.int .i64 k1] W fun e w' => e = .returned (.bool (isSt k1)) ∧ w' = W) := fun W => isStep_c k1 W
    by_cases hgo : isSt k1 = true ∧ 0 < ks1.length
    · obtain ⟨hst, hz⟩ := hgo
      have hpos : (0 : Int) < (ks1.length : Int) := by omega
      rw [hst] at IS
      obtain ⟨b2, o2, cs2, rfl, hr2, hx2⟩ := hks.2 0 hz
      obtain ⟨ox1, ox2⟩ := outX_pos k1 n1 s1 ks1 ts1 hz hst
      have ox3 := dpt_pos k1 n1 s1 ks1 ts1 hz
      rw [Nat.zero_mul, Nat.add_zero] at hr2
      generalize ks1[0]'hz = e at hx2 ox1 ox2 ox3
      have HP2 : Hid (PtIn w0 e (encP ⟨b2, o2, none⟩)) := ⟨b2, o2, cs2, rfl, hr2, hx2⟩
      have HE2 : Hid ((l ++ [(X.mk k1 n1 s1 ks1 ts1, (⟨b1, o1, none⟩ : Addr))]).map (·.1) ++ outX e ++ [rootX e] = outX x ++ [rootX x]) := by have h := HE.out; rw [ox1, ox2] at h; show _ = outX x ++ [rootX x]; rw [← h]; simp
      have HL2 : Hid (Lie w0 (l ++ [(X.mk k1 n1 s1 ks1 ts1, (⟨b1, o1, none⟩ : Addr))])) := fun p hp => by
        rcases List.mem_append.1 hp with h | h
        · exact HL.out p h
        · simp at h; subst h; exact HY.out
      have HM2 : Hid ((l ++ [(X.mk k1 n1 s1 ks1 ts1, (⟨b1, o1, none⟩ : Addr))]).length + dpt e ≤ 1000) := by have h := HM.out; rw [ox3] at h; show (l ++ [_]).length + dpt e ≤ 1000; simp; omega
      have HC : Hid ((l.map (·.2) ++ [(⟨b1, o1, none⟩ : Addr)]).length + [(⟨b2, o2, none⟩ : Addr)].length ≤ 100000) := by have := HLEN.out; show (l.map (·.2) ++ [(⟨b1, o1, none⟩ : Addr)]).length + 1 ≤ 100000; omega
      have HT : Hid (lnV u3 = l.length + 1) := by
        obtain ⟨tA, tC, htv, _⟩ := HO.out.done encL_len
        show lnV u3 = l.length + 1
        rw [htv]
        simp [lnV]
      clear hr2 hx2 hks ox1 ox2 ox3
      go_wp2_with (first
        | (go_at_call 13; refine (IS.out _).mono ?_; rintro e w1 ⟨rfl, rfl⟩)
        | (at_builtin; refine Own.append 42 30 encL _ 1 8 info30 Try.underlying42 rfl (by decide) (by decide) encL_len encL_one _ rfl _ _ rfl _ rfl w _ [⟨b2, o2, none⟩] (HO.out.below (below_alloc _ _)) ⟨_, 0, none⟩ 1 rfl (fun j u hj => cells_new _ [encP ⟨b2, o2, none⟩] 30 j u hj) HC.out ?_; intro v5 w5 h5; have S5 : Hid (Own 30 1 encL w (l.map (·.2) ++ [(⟨b1, o1, none⟩ : Addr)] ++ [⟨b2, o2, none⟩]) v5 w5) := h5; clear h5))
      go_roundw
      case rel => exact ⟨e, ⟨b2, o2, none⟩, _, rfl, HP2.out, HL2.out, HE2.out, HM2.out, by have h := S5.out; rw [List.map_append]; exact h⟩
      case measure =>
        obtain ⟨tA, tC, htv, _⟩ := S5.out.done encL_len
        have h1 : lnV v5 = l.length + 2 := by rw [htv]; simp [lnV]
        have h2 := HT.out
        have h3 := HM2.out
        simp at h3
        omega
    · have hend := outX_end k1 n1 s1 ks1 ts1 (by
        by_cases hst : isSt k1 = true
        · exact Or.inl fun h => hgo ⟨hst, h⟩
        · exact Or.inr (by simpa using hst))
      obtain ⟨g, C, rfl, hg, hcc, hrev⟩ := rev_c HO.out (by simp) (by have := HLEN.out; omega)
      have RV : Hid (Calls Try.prog 14 #[.slice (some ⟨g, 0, none⟩) (l.map (·.2) ++ [(⟨b1, o1, none⟩ : Addr)]).length C] wr fun e w' => e = .returned (.tuple #[]) ∧ RowsIn w' 1 encL (l.map (·.2) ++ [(⟨b1, o1, none⟩ : Addr)]).reverse (some ⟨g, 0, none⟩) ∧ Below w.heap.size w w') := hrev
      have HG : Hid (w.heap.size ≤ g) := hg
      have hcc1 : l.length + 1 ≤ C := by simpa using hcc
      have HCC : Hid (l.length + 1 ≤ C) := hcc1
      have HF : Hid (∀ w', RowsIn w' 1 encL (l.map (·.2) ++ [(⟨b1, o1, none⟩ : Addr)]).reverse (some ⟨g, 0, none⟩) → Below w.heap.size w w' → Outs w0 w x (.returned (.slice (some ⟨g, 0, none⟩) (l.map (·.2) ++ [(⟨b1, o1, none⟩ : Addr)]).length C)) w') := fun w' h1 h2 => by
        refine ⟨(l ++ [(X.mk k1 n1 s1 ks1 ts1, (⟨b1, o1, none⟩ : Addr))]).reverse, g, C, ?_, fun p hp => ?_, by simp, HG.out, by simpa using HCC.out, ?_, h2⟩
        · have h := HE.out
          rw [hend.1, hend.2] at h
          have h3 := congrArg List.reverse h
          simpa using h3
        · rcases List.mem_append.1 (List.mem_reverse.1 hp) with h | h
          · exact HL.out p h
          · simp at h; subst h; exact HY.out
        · rw [List.map_reverse, List.map_append]; exact h1
      clear hrev hg hcc hcc1 hend hks
      generalize (l.map (·.2) ++ [(⟨b1, o1, none⟩ : Addr)]).reverse = rr at RV HF
      generalize hLL : (l.map (·.2) ++ [(⟨b1, o1, none⟩ : Addr)]).length = LL at RV HF
      by_cases hst : isSt k1 = true
      · have hpos : ¬ (0 : Int) < (ks1.length : Int) := fun h => hgo ⟨hst, by omega⟩
        rw [hst] at IS
        go_wp2_with (first
          | (go_at_call 13; refine (IS.out _).mono ?_; rintro e w1 ⟨rfl, rfl⟩)
          | (go_at_call 14; refine RV.out.mono ?_; rintro e w1 ⟨rfl, hw1, hw2⟩))
        go_ret
        exact HF.out _ hw1 hw2
      · have hst' : isSt k1 = false := by simpa using hst
        rw [hst'] at IS
        go_wp2_with (first
          | (go_at_call 13; refine (IS.out _).mono ?_; rintro e w1 ⟨rfl, rfl⟩)
          | (go_at_call 14; refine RV.out.mono ?_; rintro e w1 ⟨rfl, hw1, hw2⟩))
        go_ret
        exact HF.out _ hw1 hw2

end Go.Proofs.Ytjbglolcnhmkcaa
