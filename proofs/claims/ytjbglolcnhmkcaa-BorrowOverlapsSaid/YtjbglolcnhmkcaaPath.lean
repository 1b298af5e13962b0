/-
  Proved: pathOf tells a place's root and its steps.
-/
import Derived.Test.YtjbglolcnhmkcaaOut
import Derived.Deep.RegionWith
namespace Go.Proofs.Ytjbglolcnhmkcaa
open Go.RowKit

def cstL (s : Int × Int × Bool) : List Value := [.int .i64 s.1, .int .i64 s.2.1, .bool s.2.2]
theorem cstL_len (s : Int × Int × Bool) : (cstL s).length = 3 := rfl
theorem cstL_one (s : Int × Int × Bool) : ∀ u ∈ cstL s, u.oneCell' = true := by intro u hu; simp [cstL] at hu; rcases hu with rfl | rfl | rfl <;> rfl

/-- What pathOf has told. -/
def Paths (w : World) (x : X) (e : Ending) (w' : World) : Prop := ∃ (rt : Value) (A : Option Addr) (C : Nat), e = .returned (.tuple #[.agg #[rt, .slice A (stps x).length C], .bool (isPl x)]) ∧ PtIn w (rootX x) rt ∧ RowsIn w' 3 cstL (stps x) A ∧ Below w.heap.size w w'

/-- A row of one's own from a block on. -/
def OwnB {α : Type} (e : TypeId) (size : Nat) (enc : α → List Value) (base : Nat) (l : List α) (v : Value) (w : World) : Prop := base ≤ w.heap.size ∧ w.ownsRow base e size v l.length (l.flatMap enc)

theorem OwnB.below {α : Type} {e : TypeId} {size : Nat} {enc : α → List Value} {base : Nat} {l : List α} {v : Value} {w w' : World} (h : OwnB e size enc base l v w) (k : Below w.heap.size w w') : OwnB e size enc base l v w' := by
  refine ⟨Nat.le_trans h.1 k.size, h.2.1, ?_⟩
  rcases h.2.2 with h4 | ⟨g, cap, cur, e1, e2, e3, e4⟩
  · exact Or.inl h4
  · exact Or.inr ⟨g, cap, cur, e1, e2, (k.block g (Array.getElem?_eq_some_iff.1 e3).1).trans e3, e4⟩

/-- A store in an older block. -/
theorem OwnB.set {α : Type} {e : TypeId} {size : Nat} {enc : α → List Value} {base : Nat} {l : List α} {v : Value} {w : World} (h : OwnB e size enc base l v w) {b j : Nat} (hb : b < base) (u : Value) : OwnB e size enc base l v (w.setCell ⟨b, j, none⟩ u) := by
  refine ⟨by simp [World.setCell]; exact h.1, h.2.1, ?_⟩
  rcases h.2.2 with h4 | ⟨g, cap, cur, e1, e2, e3, e4⟩
  · exact Or.inl h4
  · exact Or.inr ⟨g, cap, cur, e1, e2, (Below.heap_setCell w ⟨b, j, none⟩ u g (by show g ≠ b; omega)).trans e3, e4⟩

theorem OwnB.done {α : Type} {e : TypeId} {size : Nat} {enc : α → List Value} {base : Nat} {l : List α} {v : Value} {w : World} (he : ∀ a, (enc a).length = size) (h : OwnB e size enc base l v w) : ∃ A C, v = .slice A l.length C ∧ RowsIn w size enc l A := by
  obtain ⟨h1, h3⟩ := h
  rcases h3.2 with ⟨rfl, e0⟩ | ⟨g, cap, cur, rfl, _, hg, _, _, _, e7⟩
  · exact ⟨none, 0, by rw [e0], fun i hi => absurd hi (by omega)⟩
  · refine ⟨_, _, rfl, fun i hi => ⟨g, 0, rfl, (Array.getElem?_eq_some_iff.1 hg).1, fun j v hj => ?_⟩⟩
    have hA : At w g cur e := hg
    have := flat_get he l i hi j v hj
    rw [hA.cell, show 0 + i * size + j = i * size + j by omega]
    rw [← e7] at this
    have hlt := (List.getElem?_eq_some_iff.1 this).1
    rw [List.getElem?_take_of_lt (by simp at hlt; omega), Array.getElem?_toList] at this
    exact this

theorem OwnB.rows {α : Type} {e : TypeId} {size : Nat} {enc : α → List Value} {base : Nat} {l : List α} {w : World} (he : ∀ a, (enc a).length = size) {A : Option Addr} {n C : Nat} (h : OwnB e size enc base l (.slice A n C) w) : RowsIn w size enc l A := by
  obtain ⟨A', C', e1, h2⟩ := h.done he
  injection e1 with e2 _ _
  subst e2
  exact h2

theorem OwnB.append {α : Type} (t e : TypeId) (enc : α → List Value) (z : Value) (size bytes : Nat) (hinfo : (Try.prog.info? e).map (fun i => (i.zero, i.size, i.bytes)) = some (some z, size, bytes)) (ht : Try.prog.underlying t = some (.slice e)) (hzs : z.cells.size = size) (hsz : 0 < size) (hb : bytes ≤ 1000)
    (he : ∀ a, (enc a).length = size) (hone : ∀ a, ∀ u ∈ enc a, u.oneCell' = true)
    (w : World) {o : Oper} {a : Act} {K : Act → World → Prop} {Q : Exit → Act → World → Prop} (s x : Operand)
    (ho : o.op = .call { callee := .builtin .append, args := #[s, x], argTypes := #[t, t] })
    (v : Value) (hs : a.eval s = v) (base : Nat) (l m : List α) (hown : OwnB e size enc base l v w) (ad : Addr) (C : Nat) (hx : a.eval x = .slice (some ad) m.length C)
    (hc : ∀ j u, (m.flatMap enc)[j]? = some u → w.cell? (ad.add j) = some u) (hl : l.length + m.length ≤ 100000)
    (h : ∀ v' w', OwnB e size enc base (l ++ m) v' w' → Below base w w' → K (a.put o.dst v') w') : o.wp Try.prog a w K Q := by
  obtain ⟨i25, a1, a2, a3, a4⟩ := info_parts' hinfo
  obtain ⟨h1, h3⟩ := hown
  have hbytes : (l.length + m.length) * bytes ≤ 140737488355328 := Nat.le_trans (Nat.mul_le_mul hl hb) (by decide)
  refine wp_append_own w s x t ho base e i25 z size bytes ht a1 a2 a3 a4 hzs hsz v l.length (l.flatMap enc) hs h3 ad m.length C (m.flatMap enc) hx (flat_len he m) hc (fun u hu => ?_) (by unfold maxLen; omega) hbytes h1 fun v' w' k1 k2 _ => h v' w' ⟨Nat.le_trans h1 k2.size, ?_⟩ ((Below.refl _ _).grown k2 h1 (fun g e => own_block h3 e))
  · obtain ⟨a, _, ha⟩ := List.mem_flatMap.1 hu
    exact hone a u ha
  · rw [List.length_append, List.flatMap_append]
    exact k1

/-- pathOf's own memory: the block of p, behind all that was there; its steps' row behind it. -/
def Pth (w1 : World) (rt v : Value) (ss : List (Int × Int × Bool)) (W : World) : Prop :=
  Below w1.heap.size w1 W ∧ At W w1.heap.size #[rt, v] 33 ∧ OwnB 45 3 cstL (w1.heap.size + 1) ss v W

theorem Pth.below {w1 W W' : World} {rt v : Value} {ss : List (Int × Int × Bool)} (h : Pth w1 rt v ss W) (k : Below W.heap.size W W') : Pth w1 rt v ss W' :=
  ⟨below_next h.1 k, h.2.1.below k h.2.1.lt, h.2.2.below k⟩

theorem Pth.cells {w1 W : World} {rt v : Value} {ss : List (Int × Int × Bool)} (h : Pth w1 rt v ss W) : W.cell? ⟨w1.heap.size, 0, none⟩ = some rt ∧ W.cell? ⟨w1.heap.size, 1, none⟩ = some v ∧ W.frozen? ⟨w1.heap.size, 1, none⟩ = false ∧ w1.heap.size < W.heap.size := ⟨h.2.1.cell 0, h.2.1.cell 1, h.2.1.frozen 1, h.2.1.lt⟩

/-- The steps' new row, written to p. -/
theorem Pth.put {w1 W W' : World} {rt v v' : Value} {ss ss' : List (Int × Int × Bool)} (h : Pth w1 rt v ss W) (k : Below (w1.heap.size + 1) W W') (o : OwnB 45 3 cstL (w1.heap.size + 1) ss' v' W') : Pth w1 rt v' ss' (W'.setCell ⟨w1.heap.size, 1, none⟩ v') :=
  ⟨(h.1.trans (k.mono (by omega))).setCell (Nat.le_refl _) _, (h.2.1.below k (by omega)).set (j := 1) v', o.set (by omega) v'⟩

/-- What of it is read, whatever else is made. -/
def PthA (w1 : World) (rt v : Value) (W : World) : Prop := Below w1.heap.size w1 W ∧ At W w1.heap.size #[rt, v] 33

theorem Pth.a {w1 W : World} {rt v : Value} {ss : List (Int × Int × Bool)} (h : Pth w1 rt v ss W) : W.cell? ⟨w1.heap.size, 1, none⟩ = some v ∧ W.frozen? ⟨w1.heap.size, 1, none⟩ = false ∧ Hid (PthA w1 rt v W) := ⟨h.cells.2.1, h.cells.2.2.1, ⟨h.1, h.2.1⟩⟩

theorem Pth.up {w1 W W' : World} {rt v : Value} {ss : List (Int × Int × Bool)} (h : Pth w1 rt v ss W) (k : Below (w1.heap.size + 1) W W') : W'.cell? ⟨w1.heap.size, 1, none⟩ = some v ∧ W'.frozen? ⟨w1.heap.size, 1, none⟩ = false ∧ Hid (PthA w1 rt v W') :=
  ⟨(h.2.1.below k (by omega)).cell 1, (h.2.1.below k (by omega)).frozen 1, ⟨h.1.trans (k.mono (by omega)), h.2.1.below k (by omega)⟩⟩

set_option maxRecDepth 100000 in
set_option maxHeartbeats 4000000 in
theorem pathOf_c (x : X) (v : Value) (w : World) (h : PtIn w x v) (hd : dpt x ≤ 1000) : Calls Try.prog 7 #[v] w fun e w' => Paths w x e w' := by
  have OC : Hid (∀ w', Below w.heap.size w w' → Calls Try.prog 10 #[v] w' fun e w'' => Outs w w' x e w'') := fun w' hw => outwards_c x v w w' h hw hd
  have HD : Hid ((outX x).length ≤ 1000) := Nat.le_trans (outX_len x) hd
  clear h hd
  go_enter Try.func7, Try.ntmps7
  go_wp2_with (go_at_call 10; refine (OC.out _ (below_alloc _ _)).mono ?_; rintro e w1 ⟨l, g, C, hl, hlie, rfl, hg, hcc, hrows, hb⟩; obtain ⟨p0, lt, rfl⟩ : ∃ p0 lt, l = p0 :: lt := (by cases l with | nil => simp at hl | cons a b => exact ⟨a, b, rfl⟩); obtain ⟨gb, go, eg, hrow0⟩ := hrows 0 (by simp); obtain ⟨rfl, rfl⟩ : g = gb ∧ 0 = go := (by simpa using eg); have c0 : w1.cell? ⟨g, 0, none⟩ = some (encP p0.2) := hrow0.2 0 _ rfl; simp only [encP] at c0; have hgl := hrow0.1; have HL : Hid ((p0 :: lt).map (·.1) = rootX x :: (outX x).reverse) := hl; have HLI : Hid (Lie w (p0 :: lt)) := hlie; have HRW : Hid (RowsIn w1 1 encL ((p0 :: lt).map (·.2)) (some ⟨g, 0, none⟩)) := hrows; have HB : Hid (Below (w.alloc (.cells #[.pointer none, .slice none 0 0] 33)).heap.size (w.alloc (.cells #[.pointer none, .slice none 0 0] 33)) w1) := hb; have hcc' : lt.length + 1 ≤ C := hcc; clear hl hlie hrows hb hrow0 hg eg hcc)
  · have hbnd : lt.length ≤ 1000 := by have h1 := congrArg List.length HL.out; have h2 := HD.out; simp at h1; omega
    go_loopw [17] (fun kv wr => ∃ (k : Nat) (vS : Value), k ≤ lt.length ∧ kv = .int .i64 (k : Int) ∧ Hid (Pth w1 (.pointer (some p0.2)) vS ((lt.take k).map (fun p => stp p.1)) wr)) (fun kv _ => lt.length - (intOf kv).toNat)
    case atStart => exact ⟨0, _, Nat.zero_le _, rfl, ⟨below_alloc _ _, At.new _ _ _, by simp, by simp, Or.inl ⟨rfl, by simp⟩⟩⟩
    case round =>
      obtain ⟨k, vS, hk, rfl, PP⟩ := hrel
      obtain ⟨d0, d1, d2, d3⟩ := PP.out.cells
      by_cases hlt : k < lt.length
      · omega
      · have hke : k = lt.length := by omega
        subst hke
        have hlt' : ¬ (lt.length : Int) < (lt.length : Int) := by omega
        obtain ⟨AS, CS, rfl, hrowsS⟩ := PP.out.2.2.done cstL_len
        have hss : (lt.take lt.length).map (fun p => stp p.1) = stps x := by
          have h1 := congrArg List.tail HL.out
          simp only [List.map_cons, List.tail_cons] at h1
          rw [List.take_length, stps, ← h1, List.map_map]
          rfl
        rw [hss] at hrowsS d1 PP
        have hp0 : PtIn w (rootX x) (encP p0.2) := by
          have h1 := congrArg List.head? HL.out
          simp at h1
          rw [← h1]
          exact HLI.out p0 (by simp)
        have HR0 : Hid (PtIn w (rootX x) (encP p0.2)) := hp0
        have hlw := Nat.lt_of_lt_of_le (At.new w #[.pointer none, .slice none 0 0] 33).lt HB.out.size
        have HBW : Hid (Below w.heap.size w wr) := below_next (below_next (below_alloc _ _) HB.out) PP.out.1
        obtain ⟨rb, ro, rcs, re, rrow, rx⟩ := hp0
        obtain ⟨px, pa⟩ := p0
        obtain rfl : pa = ⟨rb, ro, none⟩ := by simpa [encP] using re
        have HFIN : Hid (∀ (bv : Bool) (W : World), bv = isPl x → Below w.heap.size w W → RowsIn W 3 cstL (stps x) AS → Paths w x (.returned (.tuple #[.agg #[.pointer (some ⟨rb, ro, none⟩), .slice AS (stps x).length CS], .bool bv])) W) := fun bv W h1 h2 h3 => ⟨_, AS, CS, by rw [h1]; rfl, HR0.out, h3, h2⟩
        have hob : OwnB 45 3 cstL (w1.heap.size + 1) (stps x) (.slice AS (stps x).length CS) wr := by have h := PP.out.2.2; simpa using h
        have HOB : Hid (OwnB 45 3 cstL (w1.heap.size + 1) (stps x) (.slice AS (stps x).length CS) wr) := hob
        have HRW2 : Hid (∀ u1 u2, RowsIn ((wr.drew.setCell ⟨w.heap.size, 0, none⟩ u1).setCell ⟨w.heap.size, 1, none⟩ u2) 3 cstL (stps x) AS) := fun u1 u2 => OwnB.rows cstL_len (((HOB.out.below (below_drew _)).set (by omega) u1).set (by omega) u2)
        have HBW2 : Hid (∀ u1 u2, Below w.heap.size w ((wr.drew.setCell ⟨w.heap.size, 0, none⟩ u1).setCell ⟨w.heap.size, 1, none⟩ u2)) := fun u1 u2 => ((HBW.out.drew).setCell (Nat.le_refl _) u1).setCell (Nat.le_refl _) u2
        have hpl : isPl x = decide ((rootX x).k = 4) := rfl
        have HPL : Hid (isPl x = decide ((rootX x).k = 4)) := hpl
        have hrr := rrow.below HBW.out
        have hRA : At wr w.heap.size #[.pointer none, .slice none 0 0] 33 := ((At.new w _ _).below HB.out (At.new w _ _).lt).below PP.out.1 (Nat.lt_of_lt_of_le (At.new w #[.pointer none, .slice none 0 0] 33).lt HB.out.size)
        have g0 := hRA.cell 0
        have g1 := hRA.cell 1
        have g2 := hRA.frozen 0
        have g3 := hRA.frozen 1
        have g4 := hRA.lt
        simp at g0 g1
        have rlt := rrow.1
        generalize rootX x = rx0 at rx HPL HR0
        obtain ⟨rk, rn, rs, rks, rts⟩ := rx0
        obtain ⟨rat, rA, rC, rB, rD, rp, rq, rr, rZ, rzl, rzc, rfl, _, _⟩ := rx.inv
        have t0 := hrr.2 0 _ rfl
        simp only [Nat.add_zero] at t0
        clear hrr rrow rx re hss hrowsS hpl hRA hob
        have SF : Hid (∀ (W : World) (u1 u2 : Value), (W.cell? ⟨w1.heap.size, 0, none⟩ = some (.pointer (some ⟨rb, ro, none⟩)) ∧ W.cell? ⟨w1.heap.size, 1, none⟩ = some (.slice AS (stps x).length CS) ∧ W.cell? ⟨rb, ro, none⟩ = some (.int .i64 rk)) → (((W.setCell ⟨w.heap.size, 0, none⟩ u1).setCell ⟨w.heap.size, 1, none⟩ u2).cell? ⟨w1.heap.size, 0, none⟩ = some (.pointer (some ⟨rb, ro, none⟩)) ∧ ((W.setCell ⟨w.heap.size, 0, none⟩ u1).setCell ⟨w.heap.size, 1, none⟩ u2).cell? ⟨w1.heap.size, 1, none⟩ = some (.slice AS (stps x).length CS) ∧ ((W.setCell ⟨w.heap.size, 0, none⟩ u1).setCell ⟨w.heap.size, 1, none⟩ u2).cell? ⟨rb, ro, none⟩ = some (.int .i64 rk))) := fun W u1 u2 ⟨h1, h2, h3⟩ => by
          have n1 : w.heap.size ≠ w1.heap.size := by omega
          have n2 : w.heap.size ≠ rb := by omega
          exact ⟨by rw [World.cell?_setCell_far _ _ _ _ n1, World.cell?_setCell_far _ _ _ _ n1]; exact h1, by rw [World.cell?_setCell_far _ _ _ _ n1, World.cell?_setCell_far _ _ _ _ n1]; exact h2, by rw [World.cell?_setCell_far _ _ _ _ n2, World.cell?_setCell_far _ _ _ _ n2]; exact h3⟩
        have ST : Hid (wr.drew.cell? ⟨w1.heap.size, 0, none⟩ = some (.pointer (some ⟨rb, ro, none⟩)) ∧ wr.drew.cell? ⟨w1.heap.size, 1, none⟩ = some (.slice AS (stps x).length CS) ∧ wr.drew.cell? ⟨rb, ro, none⟩ = some (.int .i64 rk)) := ⟨d0, d1, t0⟩
        generalize (stps x).length = NN at ST SF HFIN HOB d1 PP
        by_cases h4 : rk = 4
        · subst h4
          go_wp2
          go_region_held3 (fun w' => w'.cell? ⟨w1.heap.size, 0, none⟩ = some (.pointer (some ⟨rb, ro, none⟩)) ∧ w'.cell? ⟨w1.heap.size, 1, none⟩ = some (.slice AS NN CS) ∧ w'.cell? ⟨rb, ro, none⟩ = some (.int .i64 4))
            (first
              | exact ST.out
              | exact SF.out _ _ _ (by assumption))
            (fail)
          all_goals go_wp2
          all_goals refine bodyPost_ret (v := .tuple #[.agg #[.pointer (some ⟨rb, ro, none⟩), .slice AS NN CS], .bool true]) (by simp [results, Try.results7, go_sem, g0, g1]) rfl (HFIN.out true _ (by rw [HPL.out]; rfl) (HBW2.out _ _) (HRW2.out _ _))
        · have g4 : (rk == 4) = false := by simpa using h4
          go_wp2
          go_region_held3 (fun w' => w'.cell? ⟨w1.heap.size, 0, none⟩ = some (.pointer (some ⟨rb, ro, none⟩)) ∧ w'.cell? ⟨w1.heap.size, 1, none⟩ = some (.slice AS NN CS) ∧ w'.cell? ⟨rb, ro, none⟩ = some (.int .i64 rk))
            (first
              | exact ST.out
              | exact SF.out _ _ _ (by assumption))
            (fail)
          all_goals go_wp2
          all_goals refine bodyPost_ret (v := .tuple #[.agg #[.pointer (some ⟨rb, ro, none⟩), .slice AS NN CS], .bool false]) (by simp [results, Try.results7, go_sem, g0, g1]) rfl (HFIN.out false _ (by rw [HPL.out]; simp [h4]) (HBW2.out _ _) (HRW2.out _ _))
  · have hbnd : lt.length ≤ 1000 := by have h1 := congrArg List.length HL.out; have h2 := HD.out; simp at h1; omega
    go_loopw [17] (fun kv wr => ∃ (k : Nat) (vS : Value), k ≤ lt.length ∧ kv = .int .i64 (k : Int) ∧ Hid (Pth w1 (.pointer (some p0.2)) vS ((lt.take k).map (fun p => stp p.1)) wr)) (fun kv _ => lt.length - (intOf kv).toNat)
    case atStart => exact ⟨0, _, Nat.zero_le _, rfl, ⟨below_alloc _ _, At.new _ _ _, by simp, by simp, Or.inl ⟨rfl, by simp⟩⟩⟩
    case round =>
      obtain ⟨k, vS, hk, rfl, PP⟩ := hrel
      obtain ⟨d0, d1, d2, d3⟩ := PP.out.cells
      by_cases hlt : k < lt.length
      · have hlt' : (k : Int) < (lt.length : Int) := by omega
        obtain ⟨gb, go, eg, hrow⟩ := HRW.out (k + 1) (by simpa using hlt)
        injection eg with eg
        injection eg with e1 e2
        subst e1 e2
        have ck := (hrow.below PP.out.1).2 0 _ rfl
        rw [show 0 + (k + 1) * 1 + 0 = 1 + k by omega] at ck
        have hpt := HLI.out (lt[k]'hlt) (by simp)
        have htk : (lt.take (k + 1)).map (fun p => stp p.1) = (lt.take k).map (fun p => stp p.1) ++ [stp (lt[k]'hlt).1] := by rw [List.take_add_one, List.getElem?_eq_getElem hlt, Option.toList_some, List.map_append]; rfl
        simp only [List.map_cons, List.getElem_cons_succ, List.getElem_map] at ck
        generalize lt[k]'hlt = e at ck hpt htk
        obtain ⟨ex, ea⟩ := e
        simp only [encP] at ck hpt htk
        have SC : Hid (∀ W, Below w1.heap.size w1 W → Calls Try.prog 11 #[.pointer (some ea)] W fun e w' => e = .returned (.agg (cst (stp ex))) ∧ Below W.heap.size W w') := fun W hW => stepOf_c ex _ W (hpt.below (below_next (below_next (below_alloc _ _) HB.out) hW))
        have HTK : Hid ((lt.take (k + 1)).map (fun p => stp p.1) = (lt.take k).map (fun p => stp p.1) ++ [stp ex]) := htk
        have HC : Hid (((lt.take k).map (fun p => stp p.1)).length + [stp ex].length ≤ 100000) := by
          have h1 := congrArg List.length HL.out
          have h2 := HD.out
          show ((lt.take k).map (fun p => stp p.1)).length + 1 ≤ 100000
          simp at h1 ⊢
          omega
        generalize stp ex = st at SC HTK HC
        obtain ⟨sk, sw, sb⟩ := st
        simp only [cst] at SC
        clear hrow hpt htk
        go_wp2
        refine wp_region_any (by kernel_rfl) ?_
        change wpAny _ _ _ _ _ _ _ (World.drew _)
        refine wpAny_take (i := 0) (v := .pointer (some ⟨w1.heap.size, 1, none⟩)) rfl (by kernel_rfl) (by kernel_rfl) (by kernel_rfl) (fun _ _ _ h => h) (Or.inl ⟨by rfl, ?_⟩) ?_
        · intro w'; go_simp
        (try simp only [Act.put, List.getElem_toArray, List.getElem_cons_zero, List.setIfInBounds_toArray, List.set_cons_zero, List.set_cons_succ])
        refine wpAny_take (i := 2) (v := .pointer (some ea)) rfl (by kernel_rfl) (by kernel_rfl) (by kernel_rfl) (fun _ _ _ h => h) (Or.inl ⟨by rfl, ?_⟩) ?_
        · intro w'; go_simp
        (try simp only [Act.put, List.getElem_toArray, List.getElem_cons_succ, List.getElem_cons_zero, List.setIfInBounds_toArray, List.set_cons_zero, List.set_cons_succ])
        refine wpAny_ready (rs := [1, 3]) (by kernel_rfl) (by simp) ?_
        refine AllReady.cons rfl (fun K hK => ?_) (AllReady.cons rfl (fun K hK => ?_) AllReady.nil)
        · go_simp
          refine hK _ _ ?_; clear hK K
          (try simp only [Act.put, List.getElem_toArray, List.getElem_cons_succ, List.getElem_cons_zero, List.setIfInBounds_toArray, List.set_cons_zero, List.set_cons_succ])
          refine wpAny_ready (rs := [3]) (by kernel_rfl) (by simp) ?_
          refine AllReady.cons rfl (fun K hK => ?_) AllReady.nil
          go_simp
          (go_at_call 11; refine (SC.out _ (Below.drew PP.out.1)).mono ?_; rintro e w2 ⟨rfl, hb2⟩; have OO : Hid (Pth w1 (.pointer (some p0.2)) vS ((lt.take k).map (fun p => stp p.1)) w2) := ((PP.out.below (below_drew _)).below hb2); obtain ⟨y1, y2, _⟩ := OO.out.a; have y3 := OO.out.2.1.lt; clear hb2)
          go_wp2_with fail
          (try simp only [Act.put, List.getElem_toArray, List.getElem_cons_succ, List.getElem_cons_zero, List.setIfInBounds_toArray, List.set_cons_zero, List.set_cons_succ])
          refine wpAny_ready (rs := [4]) (by kernel_rfl) (by simp) ?_
          refine AllReady.cons rfl (fun K hK => ?_) AllReady.nil
          go_simp
          refine hK _ _ ?_; clear hK K
          (try simp only [Act.put, List.getElem_toArray, List.getElem_cons_succ, List.getElem_cons_zero, List.setIfInBounds_toArray, List.set_cons_zero, List.set_cons_succ])
          refine wpAny_ready (rs := [5]) (by kernel_rfl) (by simp) ?_
          refine AllReady.cons rfl (fun K hK => ?_) AllReady.nil
          rw [if_pos (by rfl)]
          refine OwnB.append 31 45 cstL _ 3 24 info45 Try.underlying31 rfl (by decide) (by decide) cstL_len cstL_one _ _ _ rfl vS rfl _ _ [(sk, sw, sb)] (OO.out.2.2.below (below_alloc _ _)) ⟨_, 0, none⟩ 1 rfl (fun j u hj => cells_new _ (cstL (sk, sw, sb)) 45 j u hj) HC.out ?_
          intro v5 w5 h5 k5
          obtain ⟨A5, C5, rfl, _⟩ := h5.done cstL_len
          have S5 : Hid (OwnB 45 3 cstL (w1.heap.size + 1) ((lt.take k).map (fun p => stp p.1) ++ [(sk, sw, sb)]) (.slice A5 ((lt.take k).map (fun p => stp p.1) ++ [(sk, sw, sb)]).length C5) w5) := h5
          have FIN : Hid (Pth w1 (.pointer (some p0.2)) (.slice A5 ((lt.take k).map (fun p => stp p.1) ++ [(sk, sw, sb)]).length C5) ((lt.take (k + 1)).map (fun p => stp p.1)) (w5.setCell ⟨w1.heap.size, 1, none⟩ (.slice A5 ((lt.take k).map (fun p => stp p.1) ++ [(sk, sw, sb)]).length C5))) := (by rw [HTK.out]; exact (OO.out.below (below_alloc _ _)).put k5 S5.out)
          obtain ⟨z1, z2, _⟩ := (OO.out.below (below_alloc _ _)).up k5
          clear h5 k5
          generalize ((lt.take k).map (fun p => stp p.1) ++ [(sk, sw, sb)]).length = NN at FIN S5 ⊢
          refine hK _ _ ?_; clear hK K
          (try simp only [Act.put, List.getElem_toArray, List.getElem_cons_succ, List.getElem_cons_zero, List.setIfInBounds_toArray, List.set_cons_zero, List.set_cons_succ])
          refine wpAny_take (i := 6) (v := .pointer (some ⟨w1.heap.size, 1, none⟩)) rfl (by kernel_rfl) (by kernel_rfl) (by kernel_rfl) (fun _ _ _ h => h) (Or.inl ⟨by rfl, ?_⟩) ?_
          · intro w'; go_simp
          (try simp only [Act.put, List.getElem_toArray, List.getElem_cons_succ, List.getElem_cons_zero, List.setIfInBounds_toArray, List.set_cons_zero, List.set_cons_succ])
          refine wpAny_ready (rs := [7]) (by kernel_rfl) (by simp) ?_
          refine AllReady.cons rfl (fun K hK => ?_) AllReady.nil
          go_simp
          refine hK _ _ ?_; clear hK K
          (try simp only [Act.put, List.getElem_toArray, List.getElem_cons_succ, List.getElem_cons_zero, List.setIfInBounds_toArray, List.set_cons_zero, List.set_cons_succ])
          refine wpAny_done (by kernel_rfl) ?_ _
          go_wp2
          go_roundw
          case rel => exact ⟨k + 1, _, by omega, by go_num, FIN.out⟩
          case measure => simp [intOf]; omega
        · go_simp
          (go_at_call 11; refine (SC.out _ (Below.drew PP.out.1)).mono ?_; rintro e w2 ⟨rfl, hb2⟩; have OO : Hid (Pth w1 (.pointer (some p0.2)) vS ((lt.take k).map (fun p => stp p.1)) w2) := ((PP.out.below (below_drew _)).below hb2); obtain ⟨y1, y2, _⟩ := OO.out.a; have y3 := OO.out.2.1.lt; clear hb2)
          go_wp2_with fail
          (try simp only [Act.put, List.getElem_toArray, List.getElem_cons_succ, List.getElem_cons_zero, List.setIfInBounds_toArray, List.set_cons_zero, List.set_cons_succ])
          refine wpAny_ready (rs := [1, 4]) (by kernel_rfl) (by simp) ?_
          refine AllReady.cons rfl (fun K hK => ?_) (AllReady.cons rfl (fun K hK => ?_) AllReady.nil)
          · go_simp
            refine hK _ _ ?_; clear hK K
            (try simp only [Act.put, List.getElem_toArray, List.getElem_cons_succ, List.getElem_cons_zero, List.setIfInBounds_toArray, List.set_cons_zero, List.set_cons_succ])
            refine wpAny_ready (rs := [4]) (by kernel_rfl) (by simp) ?_
            refine AllReady.cons rfl (fun K hK => ?_) AllReady.nil
            go_simp
            refine hK _ _ ?_; clear hK K
            (try simp only [Act.put, List.getElem_toArray, List.getElem_cons_succ, List.getElem_cons_zero, List.setIfInBounds_toArray, List.set_cons_zero, List.set_cons_succ])
            refine wpAny_ready (rs := [5]) (by kernel_rfl) (by simp) ?_
            refine AllReady.cons rfl (fun K hK => ?_) AllReady.nil
            rw [if_pos (by rfl)]
            refine OwnB.append 31 45 cstL _ 3 24 info45 Try.underlying31 rfl (by decide) (by decide) cstL_len cstL_one _ _ _ rfl vS rfl _ _ [(sk, sw, sb)] (OO.out.2.2.below (below_alloc _ _)) ⟨_, 0, none⟩ 1 rfl (fun j u hj => cells_new _ (cstL (sk, sw, sb)) 45 j u hj) HC.out ?_
            intro v5 w5 h5 k5
            obtain ⟨A5, C5, rfl, _⟩ := h5.done cstL_len
            have S5 : Hid (OwnB 45 3 cstL (w1.heap.size + 1) ((lt.take k).map (fun p => stp p.1) ++ [(sk, sw, sb)]) (.slice A5 ((lt.take k).map (fun p => stp p.1) ++ [(sk, sw, sb)]).length C5) w5) := h5
            have FIN : Hid (Pth w1 (.pointer (some p0.2)) (.slice A5 ((lt.take k).map (fun p => stp p.1) ++ [(sk, sw, sb)]).length C5) ((lt.take (k + 1)).map (fun p => stp p.1)) (w5.setCell ⟨w1.heap.size, 1, none⟩ (.slice A5 ((lt.take k).map (fun p => stp p.1) ++ [(sk, sw, sb)]).length C5))) := (by rw [HTK.out]; exact (OO.out.below (below_alloc _ _)).put k5 S5.out)
            obtain ⟨z1, z2, _⟩ := (OO.out.below (below_alloc _ _)).up k5
            clear h5 k5
            generalize ((lt.take k).map (fun p => stp p.1) ++ [(sk, sw, sb)]).length = NN at FIN S5 ⊢
            refine hK _ _ ?_; clear hK K
            (try simp only [Act.put, List.getElem_toArray, List.getElem_cons_succ, List.getElem_cons_zero, List.setIfInBounds_toArray, List.set_cons_zero, List.set_cons_succ])
            refine wpAny_take (i := 6) (v := .pointer (some ⟨w1.heap.size, 1, none⟩)) rfl (by kernel_rfl) (by kernel_rfl) (by kernel_rfl) (fun _ _ _ h => h) (Or.inl ⟨by rfl, ?_⟩) ?_
            · intro w'; go_simp
            (try simp only [Act.put, List.getElem_toArray, List.getElem_cons_succ, List.getElem_cons_zero, List.setIfInBounds_toArray, List.set_cons_zero, List.set_cons_succ])
            refine wpAny_ready (rs := [7]) (by kernel_rfl) (by simp) ?_
            refine AllReady.cons rfl (fun K hK => ?_) AllReady.nil
            go_simp
            refine hK _ _ ?_; clear hK K
            (try simp only [Act.put, List.getElem_toArray, List.getElem_cons_succ, List.getElem_cons_zero, List.setIfInBounds_toArray, List.set_cons_zero, List.set_cons_succ])
            refine wpAny_done (by kernel_rfl) ?_ _
            go_wp2
            go_roundw
            case rel => exact ⟨k + 1, _, by omega, by go_num, FIN.out⟩
            case measure => simp [intOf]; omega
          · go_simp
            refine hK _ _ ?_; clear hK K
            (try simp only [Act.put, List.getElem_toArray, List.getElem_cons_succ, List.getElem_cons_zero, List.setIfInBounds_toArray, List.set_cons_zero, List.set_cons_succ])
            refine wpAny_ready (rs := [1]) (by kernel_rfl) (by simp) ?_
            refine AllReady.cons rfl (fun K hK => ?_) AllReady.nil
            go_simp
            refine hK _ _ ?_; clear hK K
            (try simp only [Act.put, List.getElem_toArray, List.getElem_cons_succ, List.getElem_cons_zero, List.setIfInBounds_toArray, List.set_cons_zero, List.set_cons_succ])
            refine wpAny_ready (rs := [5]) (by kernel_rfl) (by simp) ?_
            refine AllReady.cons rfl (fun K hK => ?_) AllReady.nil
            rw [if_pos (by rfl)]
            refine OwnB.append 31 45 cstL _ 3 24 info45 Try.underlying31 rfl (by decide) (by decide) cstL_len cstL_one _ _ _ rfl vS rfl _ _ [(sk, sw, sb)] (OO.out.2.2.below (below_alloc _ _)) ⟨_, 0, none⟩ 1 rfl (fun j u hj => cells_new _ (cstL (sk, sw, sb)) 45 j u hj) HC.out ?_
            intro v5 w5 h5 k5
            obtain ⟨A5, C5, rfl, _⟩ := h5.done cstL_len
            have S5 : Hid (OwnB 45 3 cstL (w1.heap.size + 1) ((lt.take k).map (fun p => stp p.1) ++ [(sk, sw, sb)]) (.slice A5 ((lt.take k).map (fun p => stp p.1) ++ [(sk, sw, sb)]).length C5) w5) := h5
            have FIN : Hid (Pth w1 (.pointer (some p0.2)) (.slice A5 ((lt.take k).map (fun p => stp p.1) ++ [(sk, sw, sb)]).length C5) ((lt.take (k + 1)).map (fun p => stp p.1)) (w5.setCell ⟨w1.heap.size, 1, none⟩ (.slice A5 ((lt.take k).map (fun p => stp p.1) ++ [(sk, sw, sb)]).length C5))) := (by rw [HTK.out]; exact (OO.out.below (below_alloc _ _)).put k5 S5.out)
            obtain ⟨z1, z2, _⟩ := (OO.out.below (below_alloc _ _)).up k5
            clear h5 k5
            generalize ((lt.take k).map (fun p => stp p.1) ++ [(sk, sw, sb)]).length = NN at FIN S5 ⊢
            refine hK _ _ ?_; clear hK K
            (try simp only [Act.put, List.getElem_toArray, List.getElem_cons_succ, List.getElem_cons_zero, List.setIfInBounds_toArray, List.set_cons_zero, List.set_cons_succ])
            refine wpAny_take (i := 6) (v := .pointer (some ⟨w1.heap.size, 1, none⟩)) rfl (by kernel_rfl) (by kernel_rfl) (by kernel_rfl) (fun _ _ _ h => h) (Or.inl ⟨by rfl, ?_⟩) ?_
            · intro w'; go_simp
            (try simp only [Act.put, List.getElem_toArray, List.getElem_cons_succ, List.getElem_cons_zero, List.setIfInBounds_toArray, List.set_cons_zero, List.set_cons_succ])
            refine wpAny_ready (rs := [7]) (by kernel_rfl) (by simp) ?_
            refine AllReady.cons rfl (fun K hK => ?_) AllReady.nil
            go_simp
            refine hK _ _ ?_; clear hK K
            (try simp only [Act.put, List.getElem_toArray, List.getElem_cons_succ, List.getElem_cons_zero, List.setIfInBounds_toArray, List.set_cons_zero, List.set_cons_succ])
            refine wpAny_done (by kernel_rfl) ?_ _
            go_wp2
            go_roundw
            case rel => exact ⟨k + 1, _, by omega, by go_num, FIN.out⟩
            case measure => simp [intOf]; omega
      · have hke : k = lt.length := by omega
        subst hke
        have hlt' : ¬ (lt.length : Int) < (lt.length : Int) := by omega
        obtain ⟨AS, CS, rfl, hrowsS⟩ := PP.out.2.2.done cstL_len
        have hss : (lt.take lt.length).map (fun p => stp p.1) = stps x := by
          have h1 := congrArg List.tail HL.out
          simp only [List.map_cons, List.tail_cons] at h1
          rw [List.take_length, stps, ← h1, List.map_map]
          rfl
        rw [hss] at hrowsS d1 PP
        have hp0 : PtIn w (rootX x) (encP p0.2) := by
          have h1 := congrArg List.head? HL.out
          simp at h1
          rw [← h1]
          exact HLI.out p0 (by simp)
        have HR0 : Hid (PtIn w (rootX x) (encP p0.2)) := hp0
        have hlw := Nat.lt_of_lt_of_le (At.new w #[.pointer none, .slice none 0 0] 33).lt HB.out.size
        have HBW : Hid (Below w.heap.size w wr) := below_next (below_next (below_alloc _ _) HB.out) PP.out.1
        obtain ⟨rb, ro, rcs, re, rrow, rx⟩ := hp0
        obtain ⟨px, pa⟩ := p0
        obtain rfl : pa = ⟨rb, ro, none⟩ := by simpa [encP] using re
        have HFIN : Hid (∀ (bv : Bool) (W : World), bv = isPl x → Below w.heap.size w W → RowsIn W 3 cstL (stps x) AS → Paths w x (.returned (.tuple #[.agg #[.pointer (some ⟨rb, ro, none⟩), .slice AS (stps x).length CS], .bool bv])) W) := fun bv W h1 h2 h3 => ⟨_, AS, CS, by rw [h1]; rfl, HR0.out, h3, h2⟩
        have hob : OwnB 45 3 cstL (w1.heap.size + 1) (stps x) (.slice AS (stps x).length CS) wr := by have h := PP.out.2.2; simpa using h
        have HOB : Hid (OwnB 45 3 cstL (w1.heap.size + 1) (stps x) (.slice AS (stps x).length CS) wr) := hob
        have HRW2 : Hid (∀ u1 u2, RowsIn ((wr.drew.setCell ⟨w.heap.size, 0, none⟩ u1).setCell ⟨w.heap.size, 1, none⟩ u2) 3 cstL (stps x) AS) := fun u1 u2 => OwnB.rows cstL_len (((HOB.out.below (below_drew _)).set (by omega) u1).set (by omega) u2)
        have HBW2 : Hid (∀ u1 u2, Below w.heap.size w ((wr.drew.setCell ⟨w.heap.size, 0, none⟩ u1).setCell ⟨w.heap.size, 1, none⟩ u2)) := fun u1 u2 => ((HBW.out.drew).setCell (Nat.le_refl _) u1).setCell (Nat.le_refl _) u2
        have hpl : isPl x = decide ((rootX x).k = 4) := rfl
        have HPL : Hid (isPl x = decide ((rootX x).k = 4)) := hpl
        have hrr := rrow.below HBW.out
        have hRA : At wr w.heap.size #[.pointer none, .slice none 0 0] 33 := ((At.new w _ _).below HB.out (At.new w _ _).lt).below PP.out.1 (Nat.lt_of_lt_of_le (At.new w #[.pointer none, .slice none 0 0] 33).lt HB.out.size)
        have g0 := hRA.cell 0
        have g1 := hRA.cell 1
        have g2 := hRA.frozen 0
        have g3 := hRA.frozen 1
        have g4 := hRA.lt
        simp at g0 g1
        have rlt := rrow.1
        generalize rootX x = rx0 at rx HPL HR0
        obtain ⟨rk, rn, rs, rks, rts⟩ := rx0
        obtain ⟨rat, rA, rC, rB, rD, rp, rq, rr, rZ, rzl, rzc, rfl, _, _⟩ := rx.inv
        have t0 := hrr.2 0 _ rfl
        simp only [Nat.add_zero] at t0
        clear hrr rrow rx re hss hrowsS hpl hRA hob
        have SF : Hid (∀ (W : World) (u1 u2 : Value), (W.cell? ⟨w1.heap.size, 0, none⟩ = some (.pointer (some ⟨rb, ro, none⟩)) ∧ W.cell? ⟨w1.heap.size, 1, none⟩ = some (.slice AS (stps x).length CS) ∧ W.cell? ⟨rb, ro, none⟩ = some (.int .i64 rk)) → (((W.setCell ⟨w.heap.size, 0, none⟩ u1).setCell ⟨w.heap.size, 1, none⟩ u2).cell? ⟨w1.heap.size, 0, none⟩ = some (.pointer (some ⟨rb, ro, none⟩)) ∧ ((W.setCell ⟨w.heap.size, 0, none⟩ u1).setCell ⟨w.heap.size, 1, none⟩ u2).cell? ⟨w1.heap.size, 1, none⟩ = some (.slice AS (stps x).length CS) ∧ ((W.setCell ⟨w.heap.size, 0, none⟩ u1).setCell ⟨w.heap.size, 1, none⟩ u2).cell? ⟨rb, ro, none⟩ = some (.int .i64 rk))) := fun W u1 u2 ⟨h1, h2, h3⟩ => by
          have n1 : w.heap.size ≠ w1.heap.size := by omega
          have n2 : w.heap.size ≠ rb := by omega
          exact ⟨by rw [World.cell?_setCell_far _ _ _ _ n1, World.cell?_setCell_far _ _ _ _ n1]; exact h1, by rw [World.cell?_setCell_far _ _ _ _ n1, World.cell?_setCell_far _ _ _ _ n1]; exact h2, by rw [World.cell?_setCell_far _ _ _ _ n2, World.cell?_setCell_far _ _ _ _ n2]; exact h3⟩
        have ST : Hid (wr.drew.cell? ⟨w1.heap.size, 0, none⟩ = some (.pointer (some ⟨rb, ro, none⟩)) ∧ wr.drew.cell? ⟨w1.heap.size, 1, none⟩ = some (.slice AS (stps x).length CS) ∧ wr.drew.cell? ⟨rb, ro, none⟩ = some (.int .i64 rk)) := ⟨d0, d1, t0⟩
        generalize (stps x).length = NN at ST SF HFIN HOB d1 PP
        by_cases h4 : rk = 4
        · subst h4
          go_wp2
          go_region_held3 (fun w' => w'.cell? ⟨w1.heap.size, 0, none⟩ = some (.pointer (some ⟨rb, ro, none⟩)) ∧ w'.cell? ⟨w1.heap.size, 1, none⟩ = some (.slice AS NN CS) ∧ w'.cell? ⟨rb, ro, none⟩ = some (.int .i64 4))
            (first
              | exact ST.out
              | exact SF.out _ _ _ (by assumption))
            (fail)
          all_goals go_wp2
          all_goals refine bodyPost_ret (v := .tuple #[.agg #[.pointer (some ⟨rb, ro, none⟩), .slice AS NN CS], .bool true]) (by simp [results, Try.results7, go_sem, g0, g1]) rfl (HFIN.out true _ (by rw [HPL.out]; rfl) (HBW2.out _ _) (HRW2.out _ _))
        · have g4 : (rk == 4) = false := by simpa using h4
          go_wp2
          go_region_held3 (fun w' => w'.cell? ⟨w1.heap.size, 0, none⟩ = some (.pointer (some ⟨rb, ro, none⟩)) ∧ w'.cell? ⟨w1.heap.size, 1, none⟩ = some (.slice AS NN CS) ∧ w'.cell? ⟨rb, ro, none⟩ = some (.int .i64 rk))
            (first
              | exact ST.out
              | exact SF.out _ _ _ (by assumption))
            (fail)
          all_goals go_wp2
          all_goals refine bodyPost_ret (v := .tuple #[.agg #[.pointer (some ⟨rb, ro, none⟩), .slice AS NN CS], .bool false]) (by simp [results, Try.results7, go_sem, g0, g1]) rfl (HFIN.out false _ (by rw [HPL.out]; simp [h4]) (HBW2.out _ _) (HRW2.out _ _))
end Go.Proofs.Ytjbglolcnhmkcaa
