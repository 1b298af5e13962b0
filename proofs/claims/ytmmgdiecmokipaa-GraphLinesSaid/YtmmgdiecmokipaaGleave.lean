/-
  Proved: the reference's walk leaves the blocks as the plain one does; its Order.
-/
import Derived.Test.YtmmgdiecmokipaaGwalk
namespace Go.Proofs.Ytmmgdiecmokipaa
open Go.RowKit

/-- The walk from a block: what was entered, and in which order blocks were left; f: so deep at most. -/
def lv (g : Nat → List Nat) : Nat → Nat → (Nat → Bool) × List Nat → (Nat → Bool) × List Nat
  | 0, _, s => s
  | f + 1, i, s => (((g i).foldl (fun s k => if s.1 k then s else lv g f k s) (up s.1 i, s.2)).1, ((g i).foldl (fun s k => if s.1 k then s else lv g f k s) (up s.1 i, s.2)).2 ++ [i])

/-- .. the first k of its ways. -/
def lf (g : Nat → List Nat) (f : Nat) (l : List Nat) (s : (Nat → Bool) × List Nat) : (Nat → Bool) × List Nat := l.foldl (fun s k => if s.1 k then s else lv g f k s) s

theorem lf_step (g : Nat → List Nat) (f : Nat) (l : List Nat) (s : (Nat → Bool) × List Nat) (k : Nat) (h : k < l.length) : lf g f (l.take (k + 1)) s = if (lf g f (l.take k) s).1 l[k] then lf g f (l.take k) s else lv g f l[k] (lf g f (l.take k) s) := by
  unfold lf
  rw [List.take_succ_eq_append_getElem h, List.foldl_append]
  rfl

theorem lf_mono_of {g : Nat → List Nat} {f : Nat} (ih : ∀ i s j, s.1 j = true → (lv g f i s).1 j = true) (l : List Nat) (s : (Nat → Bool) × List Nat) (j : Nat) (h : s.1 j = true) : (lf g f l s).1 j = true := by
  unfold lf
  induction l generalizing s with
  | nil => exact h
  | cons a l ihl =>
    rw [List.foldl_cons]
    apply ihl
    split
    · exact h
    · exact ih a s j h

theorem lv_mono (g : Nat → List Nat) (f i : Nat) (s : (Nat → Bool) × List Nat) (j : Nat) (h : s.1 j = true) : (lv g f i s).1 j = true := by
  induction f generalizing i s j with
  | zero => exact h
  | succ f ih => exact lf_mono_of (fun i s j h => ih i s j h) (g i) _ j (up_of _ _ _ h)

theorem lf_mono (g : Nat → List Nat) (f : Nat) (l : List Nat) (s : (Nat → Bool) × List Nat) (j : Nat) (h : s.1 j = true) : (lf g f l s).1 j = true := lf_mono_of (fun i s j h => lv_mono g f i s j h) l s j h

/-- How many were not entered. -/
def un (n : Nat) (p : Nat → Bool) : Nat := ((List.range n).filter fun j => !p j).length

theorem un_le (n : Nat) (p q : Nat → Bool) (h : ∀ j, p j = true → q j = true) : un n q ≤ un n p := by
  unfold un
  induction List.range n with
  | nil => simp
  | cons a l ih =>
    simp only [List.filter_cons]
    cases hp : p a with
    | true => rw [h a hp]; simpa using ih
    | false => cases q a <;> simp <;> omega

theorem filter_lt (l : List Nat) (p q : Nat → Bool) (h : ∀ j, p j = true → q j = true) (i : Nat) (hi : i ∈ l) (hp : p i = false) (hq : q i = true) : (l.filter fun j => !q j).length < (l.filter fun j => !p j).length := by
  have hle : ∀ l : List Nat, (l.filter fun j => !q j).length ≤ (l.filter fun j => !p j).length := fun l => by
    induction l with
    | nil => simp
    | cons a l ih =>
      simp only [List.filter_cons]
      cases hp : p a with
      | true => rw [h a hp]; simpa using ih
      | false => cases q a <;> simp <;> omega
  induction l with
  | nil => cases hi
  | cons a l ih =>
    simp only [List.filter_cons]
    rcases List.mem_cons.1 hi with e | e
    · subst e
      rw [hp, hq]
      simp
      have := hle l
      omega
    · have := ih e
      cases hp : p a with
      | true => rw [h a hp]; simpa using this
      | false => cases q a <;> simp <;> omega

theorem un_up (n : Nat) (p : Nat → Bool) (i : Nat) (hi : i < n) (hp : p i = false) : un n (up p i) < un n p :=
  filter_lt _ p (up p i) (fun j h => up_of p i j h) i (by simpa using hi) hp (up_self p i)

/-- How long the list of those that were left is. -/
theorem lf_len_of {g : Nat → List Nat} {n f : Nat} (ih : ∀ i s, i < n → s.1 i = false → un n s.1 ≤ f → (lv g f i s).2.length + un n (lv g f i s).1 ≤ s.2.length + un n s.1) (l : List Nat) (hl : ∀ b ∈ l, b < n) (s : (Nat → Bool) × List Nat) (hs : un n s.1 ≤ f) : (lf g f l s).2.length + un n (lf g f l s).1 ≤ s.2.length + un n s.1 := by
  unfold lf
  induction l generalizing s with
  | nil => exact Nat.le_refl _
  | cons a l ihl =>
    rw [List.foldl_cons]
    by_cases e : s.1 a = true
    · rw [if_pos e]
      exact ihl (fun b hb => hl b (List.mem_cons_of_mem _ hb)) s hs
    · rw [if_neg e]
      have h1 := ih a s (hl a (by simp)) (by simpa using e) hs
      have h2 : un n (lv g f a s).1 ≤ un n s.1 := un_le n _ _ fun j h => lv_mono g f a s j h
      have h3 := ihl (fun b hb => hl b (List.mem_cons_of_mem _ hb)) (lv g f a s) (by omega)
      omega

theorem lv_len {g : Nat → List Nat} {n : Nat} (hg : ∀ a, ∀ b ∈ g a, b < n) (f i : Nat) (s : (Nat → Bool) × List Nat) (hi : i < n) (hp : s.1 i = false) (hu : un n s.1 ≤ f) : (lv g f i s).2.length + un n (lv g f i s).1 ≤ s.2.length + un n s.1 := by
  induction f generalizing i s with
  | zero => exact Nat.le_refl _
  | succ f ih =>
    have h1 := un_up n s.1 i hi hp
    have h2 := lf_len_of (f := f) (fun i s h1 h2 h3 => ih i s h1 h2 h3) (g i) (hg i) (up s.1 i, s.2) (by show un n (up s.1 i) ≤ f; omega)
    show ((lf g f (g i) (up s.1 i, s.2)).2 ++ [i]).length + un n (lf g f (g i) (up s.1 i, s.2)).1 ≤ _
    rw [List.length_append]
    simp only [List.length_cons, List.length_nil]
    have h3 : (up s.1 i, s.2).2.length + un n (up s.1 i, s.2).1 = s.2.length + un n (up s.1 i) := rfl
    omega

/-- What a walk's call turns: the row of truths, and the row of numbers that it was given. -/
def LR (sb : Nat) (v : Value) (w : World) (v' : Value) (w' : World) : Prop := Kp (fun b => b = sb ∨ v.ownBlock = some b) w w' ∧ ∀ b, v'.ownBlock = some b → v.ownBlock = some b ∨ w.heap.size ≤ b

theorem LR.below {sb : Nat} {v : Value} {w w' : World} (k : Below w.heap.size w w') : LR sb v w v w' := ⟨⟨k.mono (Nat.zero_le _), fun b hb _ => k.block b hb⟩, fun _ h => Or.inl h⟩
theorem LR.trans {sb : Nat} {v v1 v2 : Value} {w w1 w2 : World} (h : LR sb v w v1 w1) (k : LR sb v1 w1 v2 w2) : LR sb v w v2 w2 := by
  refine ⟨⟨h.1.1.trans (k.1.1.mono (Nat.zero_le _)), fun b hb hf => ?_⟩, fun b hb => ?_⟩
  · have hb1 : b < w1.heap.size := Nat.lt_of_lt_of_le hb h.1.1.size
    refine (k.1.2 b hb1 fun hf1 => ?_).trans (h.1.2 b hb hf)
    rcases hf1 with e | e
    · exact hf (Or.inl e)
    · rcases h.2 b e with e | e
      · exact hf (Or.inr e)
      · omega
  · rcases k.2 b hb with e | e
    · exact h.2 b e
    · have := h.1.1.size
      right; omega
theorem LR.set {sb : Nat} {v : Value} (w : World) (j : Nat) (u : Value) : LR sb v w v (w.setCell ⟨sb, j, none⟩ u) := ⟨Kp.set w j u (Or.inl rfl), fun _ h => Or.inl h⟩
theorem LR.app {sb base : Nat} {v v' : Value} {w w' : World} (h2 : Below base w w') (h3 : ∀ k, k < w.heap.size → v.ownBlock ≠ some k → w'.heap[k]? = w.heap[k]?) (h4 : ∀ b, v'.ownBlock = some b → v.ownBlock = some b ∨ w.heap.size ≤ b) : LR sb v w v' w' :=
  ⟨⟨h2.mono (Nat.zero_le _), fun b hb hf => h3 b hb fun e => hf (Or.inr e)⟩, h4⟩

/-- Older memory stays. -/
theorem LR.old {sb base n0 : Nat} {v v' : Value} {l : List Nat} {w w' : World} (h : LR sb v w v' w') (hO : ON base l v w) (h1 : n0 ≤ sb) (h2 : sb < base) (hs : n0 ≤ w.heap.size) : Below n0 w w' :=
  ⟨h.1.1.os, h.1.1.tape, h.1.1.output, h.1.1.size, fun b hb => h.1.2 b (by omega) fun hf => by
    rcases hf with e | e
    · omega
    · have := (hO.blk e).1
      omega⟩

/-- A row that lies apart stays. -/
theorem LR.row {sb base : Nat} {v v' u : Value} {l : List Nat} {w w' : World} (h : LR sb v w v' w') (hO : ON base l u w) (hsb : sb < base) (ha : Apt u v) : ON base l u w' :=
  hO.move h.1.1.size fun b hb => h.1.2 b (hO.blk hb).2.1 fun hf => by
    rcases hf with e | e
    · have := (hO.blk hb).1
      omega
    · exact ha b hb e

/-- The walk's memory. -/
def LK (n sb base : Nat) (s : (Nat → Bool) × List Nat) (v : Value) (w : World) : Prop := BR w sb n s.1 ∧ ON base s.2 v w

set_option maxRecDepth 20000 in
set_option maxHeartbeats 2000000 in
theorem leave_c (n : Nat) (to : List (List Int)) (tv : Value) (w0 : World) (h : RwsIn w0 to tv) (hf : Fw to) (hn : n ≤ 1000) (sb base : Nat) (h1 : w0.heap.size ≤ sb) (h2 : sb < base) (f : Nat) : ∀ (i : Nat) (p : Nat → Bool) (out : List Nat) (v : Value) (w : World), i < n → p i = false → un n p ≤ f → out.length + un n p ≤ n → Below w0.heap.size w0 w → BR w sb n p → ON base out v w →
    Calls Try.prog 28 #[.int .i64 (n : Int), tv, .int .i64 (i : Int), .slice (some ⟨sb, 0, none⟩) n n, v] w fun e w' => ∃ v', e = .returned v' ∧ LK n sb base (lv (wy n to) f i (p, out)) v' w' ∧ LR sb v w v' w' := by
  have TI : Hid (RwsIn w0 to tv) := h
  obtain ⟨A, C, rfl, -⟩ := h
  have FW : Hid (Fw to) := hf
  clear hf
  induction f with
  | zero =>
    intro i p out v w hi hp hu
    have := un_up n p i hi hp
    omega
  | succ f ih =>
    intro i p out v w hi hp hu hlen hB hR hO
    have IH : Hid (∀ (i : Nat) (p : Nat → Bool) (out : List Nat) (v : Value) (w : World), i < n → p i = false → un n p ≤ f → out.length + un n p ≤ n → Below w0.heap.size w0 w → BR w sb n p → ON base out v w → Calls Try.prog 28 #[.int .i64 (n : Int), .slice A to.length C, .int .i64 (i : Int), .slice (some ⟨sb, 0, none⟩) n n, v] w fun e w' => ∃ v', e = .returned v' ∧ LK n sb base (lv (wy n to) f i (p, out)) v' w' ∧ LR sb v w v' w') := ih
    clear ih
    have U : Hid (un n (up p i) ≤ f ∧ out.length + un n (up p i) + 1 ≤ n) := (by have := un_up n p i hi hp; omega : un n (up p i) ≤ f ∧ out.length + un n (up p i) + 1 ≤ n)
    have B0 : Hid (Below w0.heap.size w0 w) := hB
    have R0 : Hid (BR w sb n p) := hR
    have O0 : Hid (ON base out v w) := hO
    have hfz := hR.frozen i
    have c0 := hR.cell i hi
    have hiz : (i : Int) < n := by omega
    obtain ⟨Av, Cv, ev, -⟩ := hO.shape
    subst ev
    have WC : Hid (Calls Try.prog 24 #[.int .i64 (n : Int), .slice A to.length C, .int .i64 (i : Int)] (w.setCell ⟨sb, i, none⟩ (.bool true)) fun e w' => ∃ u, e = .returned u ∧ ON w.heap.size (wy n to i) u w' ∧ Below w.heap.size (w.setCell ⟨sb, i, none⟩ (.bool true)) w') := by
      have := ways_c n i to _ (w.setCell ⟨sb, i, none⟩ (.bool true)) (TI.out.below (below_set hB h1 _)) FW.out
      rw [set_size] at this
      exact this
    have HE : Hid (lv (wy n to) (f + 1) i (p, out) = ((lf (wy n to) f (wy n to i) (up p i, out)).1, (lf (wy n to) f (wy n to i) (up p i, out)).2 ++ [i])) := rfl
    have LB : Hid ((wy n to i).length ≤ 200) := wy_len n to i FW.out
    have LT : Hid (∀ y ∈ wy n to i, y < n) := fun y hy => wy_lt n to i y hy
    have ST : Hid (∀ k (h : k < (wy n to i).length), lf (wy n to) f ((wy n to i).take (k + 1)) (up p i, out) = if (lf (wy n to) f ((wy n to i).take k) (up p i, out)).1 (wy n to i)[k] then lf (wy n to) f ((wy n to i).take k) (up p i, out) else lv (wy n to) f (wy n to i)[k] (lf (wy n to) f ((wy n to i).take k) (up p i, out))) := fun k h => lf_step _ _ _ _ k h
    have SU : Hid (∀ k, un n (lf (wy n to) f ((wy n to i).take k) (up p i, out)).1 ≤ f ∧ (lf (wy n to) f ((wy n to i).take k) (up p i, out)).2.length + un n (lf (wy n to) f ((wy n to i).take k) (up p i, out)).1 + 1 ≤ n) := fun k => by
      have e1 : un n (lf (wy n to) f ((wy n to i).take k) (up p i, out)).1 ≤ un n (up p i) := un_le n _ _ fun j h => lf_mono _ f _ (up p i, out) j h
      have e2 := lf_len_of (n := n) (f := f) (fun i s h1 h2 h3 => lv_len (fun a b hb => wy_lt n to a b hb) f i s h1 h2 h3) ((wy n to i).take k) (fun b hb => wy_lt n to i b (List.mem_of_mem_take hb)) (up p i, out) U.out.1
      have e3 : (up p i, out).2.length + un n (up p i, out).1 = out.length + un n (up p i) := rfl
      have := U.out
      omega
    clear hB hR hO
    go_enter Try.func28, Try.ntmps28
    go_wp2_with (go_at_call 24; refine WC.out.mono ?_; rintro e w1 ⟨lv1, rfl, hO1, hB1⟩; obtain ⟨Al, Cl, rfl, -⟩ := hO1.shape; have O1 : Hid (ON w.heap.size (wy n to i) (.slice Al (wy n to i).length Cl) w1) := hO1; have N1 : Hid (Below w.heap.size (w.setCell ⟨sb, i, none⟩ (.bool true)) w1) := hB1; clear hO1 hB1)
    have hsw : sb < w.heap.size := R0.out.lt
    have hN : Below (w.setCell ⟨sb, i, none⟩ (.bool true)).heap.size (w.setCell ⟨sb, i, none⟩ (.bool true)) w1 := by rw [set_size]; exact N1.out
    have K1 : Hid (LK n sb base (up p i, out) (.slice Av out.length Cv) w1) := ⟨At.below (R0.out.set i hi) N1.out hsw, (O0.out.setB R0.out _ _).below hN⟩
    have L1 : Hid (LR sb (.slice Av out.length Cv) w (.slice Av out.length Cv) w1) := (LR.set w i _).trans (LR.below hN)
    have A1 : Hid (Apt (.slice Al (wy n to i).length Cl) (.slice Av out.length Cv)) := fun b hb hb' => by
      have h1 := (O1.out.blk hb).1
      have h2 := (O0.out.blk hb').2.1
      omega
    have WB : Hid (∀ ov wz, LR sb (.slice Av out.length Cv) w1 ov wz → Below w0.heap.size w0 wz) := fun ov wz h => B0.out.trans ((L1.out.trans h).old O0.out h1 h2 B0.out.size)
    clear N1 hN c0 hfz
    have hlb := LB.out
    go_loopw [4, 12] (fun ov kv wz => ∃ k : Nat, k ≤ (wy n to i).length ∧ kv = .int .i64 (k : Int) ∧ LK n sb base (lf (wy n to) f ((wy n to i).take k) (up p i, out)) ov wz ∧ LR sb (.slice Av out.length Cv) w1 ov wz) (fun _ kv _ => (wy n to i).length - (intOf kv).toNat)
    case atStart => exact ⟨0, by omega, rfl, K1.out, LR.below (Below.refl _ _)⟩
    case round =>
      rename World => wz
      obtain ⟨k, hk, rfl, hK, hL⟩ := hrel
      have K2 : Hid (LK n sb base (lf (wy n to) f ((wy n to i).take k) (up p i, out)) _ wz) := hK
      have L2 : Hid (LR sb (.slice Av out.length Cv) w1 _ wz) := hL
      have O2 : ON w.heap.size (wy n to i) (.slice Al (wy n to i).length Cl) wz := hL.row O1.out hsw A1.out
      obtain ⟨Ao, Co, eo, -⟩ := hK.2.shape
      subst eo
      obtain ⟨Am, Cm, em, hsm⟩ := O2.shape
      obtain ⟨rfl, rfl⟩ : Al = Am ∧ Cl = Cm := by simpa using em
      clear hK hL em O2
      rcases Nat.lt_or_ge k (wy n to i).length with hk' | hk'
      · have hkz : (k : Int) < (wy n to i).length := by omega
        obtain ⟨D, rfl, -, -, -, hce⟩ := hsm (by omega)
        have c1 := hce k hk'
        have hyn : (wy n to i)[k] < n := LT.out _ (List.getElem_mem hk')
        have S2 : Hid (lf (wy n to) f ((wy n to i).take (k + 1)) (up p i, out) = if (lf (wy n to) f ((wy n to i).take k) (up p i, out)).1 (wy n to i)[k] then lf (wy n to) f ((wy n to i).take k) (up p i, out) else lv (wy n to) f (wy n to i)[k] (lf (wy n to) f ((wy n to i).take k) (up p i, out))) := ST.out k hk'
        have SK := SU.out k
        clear hce hsm
        generalize (wy n to i)[k] = y at *
        generalize hS : lf (wy n to) f ((wy n to i).take k) (up p i, out) = S at *
        have hyz : (y : Int) < n := by omega
        have c2 := K2.out.1.cell y hyn
        rcases Bool.eq_false_or_eq_true (S.1 y) with hp1 | hp1
        · have S3 : Hid (lf (wy n to) f ((wy n to i).take (k + 1)) (up p i, out) = S) := (by rw [S2.out, if_pos hp1] : lf (wy n to) f ((wy n to i).take (k + 1)) (up p i, out) = S)
          rw [hp1] at c2
          clear hp1 hS
          go_wp2
          go_roundw
          case rel => exact ⟨k + 1, by omega, by go_num, by rw [S3.out]; exact K2.out, L2.out⟩
          case measure => simp [intOf]; omega
        · have S3 : Hid (lf (wy n to) f ((wy n to i).take (k + 1)) (up p i, out) = lv (wy n to) f y S) := (by rw [S2.out, if_neg (by rw [hp1]; simp)] : lf (wy n to) f ((wy n to i).take (k + 1)) (up p i, out) = lv (wy n to) f y S)
          have IC : Hid (Calls Try.prog 28 #[.int .i64 (n : Int), .slice A to.length C, .int .i64 (y : Int), .slice (some ⟨sb, 0, none⟩) n n, .slice Ao S.2.length Co] wz fun e w' => ∃ v', e = .returned v' ∧ LK n sb base (lv (wy n to) f y S) v' w' ∧ LR sb (.slice Ao S.2.length Co) wz v' w') := IH.out y S.1 S.2 _ wz hyn hp1 SK.1 (by omega) (WB.out _ _ L2.out) K2.out.1 K2.out.2
          rw [hp1] at c2
          clear hp1 hS
          go_wp2_with (go_at_call 28; refine IC.out.mono ?_; rintro e w5 ⟨v5, rfl, hK5, hL5⟩; obtain ⟨A5, C5, rfl, -⟩ := hK5.2.shape; have K5 : Hid (LK n sb base (lv (wy n to) f y S) (.slice A5 (lv (wy n to) f y S).2.length C5) w5) := hK5; have L5 : Hid (LR sb (.slice Av out.length Cv) w1 (.slice A5 (lv (wy n to) f y S).2.length C5) w5) := L2.out.trans hL5; clear hK5 hL5)
          go_roundw
          case rel => exact ⟨k + 1, by omega, by go_num, by rw [S3.out]; exact K5.out, L5.out⟩
          case measure => simp [intOf]; omega
      · have hkz : ¬ (k : Int) < (wy n to i).length := by omega
        have SK := SU.out k
        have ET : Hid (lf (wy n to) f (wy n to i) (up p i, out) = lf (wy n to) f ((wy n to i).take k) (up p i, out)) := (by rw [List.take_of_length_le (by omega)] : lf (wy n to) f (wy n to i) (up p i, out) = lf (wy n to) f ((wy n to i).take k) (up p i, out))
        generalize hS : lf (wy n to) f ((wy n to i).take k) (up p i, out) = S at *
        clear hS hsm
        have LL : Hid (S.2.length ≤ 10000) := (by omega : S.2.length ≤ 10000)
        have K6 : Hid (LK n sb base S (.slice Ao S.2.length Co) (wz.alloc (.cells (iN i).toArray 3))) := ⟨At.below K2.out.1 (below_alloc _ _) K2.out.1.lt, K2.out.2.below (below_alloc _ _)⟩
        go_wp2_with (at_builtin; refine ON.app _ rfl _ _ rfl _ rfl i K6.out.2 ⟨wz.heap.size, 0, none⟩ 1 rfl (fun j u hj => cells_new _ (iN i) 3 j u hj) LL.out ?_; intro v7 w7 ho hb hkk hvv; have O7 : Hid (ON base (S.2 ++ [i]) v7 w7) := ho; have R7 : Hid (BR w7 sb n S.1) := At.below K6.out.1 hb h2; have L7 : Hid (LR sb (.slice Av out.length Cv) w v7 w7) := (L1.out.trans L2.out).trans ((LR.below (below_alloc _ _)).trans (LR.app hb hkk hvv)); clear ho hb hkk hvv)
        go_ret
        exact ⟨_, rfl, by rw [HE.out, ET.out]; exact ⟨R7.out, O7.out⟩, L7.out⟩
end Go.Proofs.Ytmmgdiecmokipaa
