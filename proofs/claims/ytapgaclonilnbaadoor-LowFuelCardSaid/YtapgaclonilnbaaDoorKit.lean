/-
  Proved: what every walk wants: cells and blocks that stay, rows of one's own in the making, what other rows and blocks do meanwhile, regions of which Go leaves the order open.
-/
import Derived.Test.YtapgaclonilnbaaDoorRows
import Derived.WalkKit
import Derived.ProofKit
import Derived.BigQuiet
import Derived.Deep.QuietTactic
import Derived.Deep.RegionHeld3
import Derived.Laws.AppendOwn
namespace Go.Proofs.YtapgaclonilnbaaDoor
open Go.RowKit

/-- Cells lie in a row. -/
def RowAt (w : World) (b o : Nat) (cs : List Value) : Prop := b < w.heap.size ∧ ∀ j v, cs[j]? = some v → w.cell? ⟨b, o + j, none⟩ = some v

theorem RowAt.below {w w' : World} {b o : Nat} {cs : List Value} (h : RowAt w b o cs) (k : Below w.heap.size w w') : RowAt w' b o cs :=
  ⟨Nat.lt_of_lt_of_le h.1 k.size, fun j v hj => (k.cell (p := ⟨b, o + j, none⟩) h.1).trans (h.2 j v hj)⟩

theorem str_ne {a b : ByteArray} (h : ¬ a = b) : (¬ a.toList = b.toList) ∧ (a.toList == b.toList) = false := by
  have e : ¬ a.toList = b.toList := fun e => h (WideShapes.bytes_inj (by rw [← ByteArray.toList_eq, ← ByteArray.toList_eq]; exact e))
  exact ⟨e, by simpa using e⟩

theorem below_next {a b c : World} (h : Below a.heap.size a b) (k : Below b.heap.size b c) : Below a.heap.size a c := h.trans (k.mono h.size)

theorem bcell {W w1 : World} (hb : Below W.heap.size W w1) : (∀ b o, b < W.heap.size → w1.cell? ⟨b, o, none⟩ = W.cell? ⟨b, o, none⟩) ∧ (∀ b o, b < W.heap.size → w1.frozen? ⟨b, o, none⟩ = W.frozen? ⟨b, o, none⟩) :=
  ⟨fun b o h => hb.cell (p := ⟨b, o, none⟩) h, fun b o h => hb.frozen (p := ⟨b, o, none⟩) h⟩

theorem below_alloc (w : World) (o : Obj) : Below w.heap.size w (w.alloc o) := (Below.refl _ _).alloc (Nat.le_refl _) o

theorem alloc_at (w : World) (o : Obj) : (w.alloc o).heap[w.heap.size]? = some o := by
  show (w.heap.push o)[w.heap.size]? = _
  simp

theorem below_drew (w : World) : Below w.heap.size w w.drew := (Below.refl _ _).drew

theorem cell_new {W : World} {a : Addr} {v : Value} (o : Obj) (h : W.cell? a = some v) : (W.alloc o).cell? a = some v := ((below_alloc W o).cell (World.block_lt_of_cell? _ _ h)).trans h

theorem drew_below {n : Nat} {w wr : World} (h : Below n w wr) (m : Nat) : Below n w (wr.drewN m) := ⟨h.os, h.tape, h.output, h.size, h.block⟩

theorem below_two (w : World) (a b : Obj) : Below w.heap.size w ((w.alloc a).alloc b) := below_next (below_alloc _ _) (below_alloc _ _)

/-- The cells of a block. -/
def At (W : World) (B : Nat) (cs : Array Value) (t : TypeId) : Prop := W.heap[B]? = some (.cells cs t (0, 0))

theorem At.lt {W : World} {B : Nat} {cs : Array Value} {t : TypeId} (h : At W B cs t) : B < W.heap.size := (Array.getElem?_eq_some_iff.1 h).1
theorem At.cell {W : World} {B : Nat} {cs : Array Value} {t : TypeId} (h : At W B cs t) (j : Nat) : W.cell? ⟨B, j, none⟩ = cs[j]? := by simp [World.cell?, show W.heap[B]? = _ from h]
theorem At.frozen {W : World} {B : Nat} {cs : Array Value} {t : TypeId} (h : At W B cs t) (j : Nat) : W.frozen? ⟨B, j, none⟩ = false := by simp [World.frozen?, show W.heap[B]? = _ from h]
theorem At.new (W : World) (cs : Array Value) (t : TypeId) : At (W.alloc (.cells cs t)) W.heap.size cs t := alloc_at W _
theorem At.below {W W' : World} {B n : Nat} {cs : Array Value} {t : TypeId} (h : At W B cs t) (hb : Below n W W') (hn : B < n) : At W' B cs t := (hb.block B hn).trans h
theorem At.set {W : World} {B j : Nat} {cs : Array Value} {t : TypeId} (h : At W B cs t) (v : Value) : At (W.setCell ⟨B, j, none⟩ v) B (cs.setIfInBounds j v) t := by
  have hv : W.heap[B]'h.lt = .cells cs t (0, 0) := (Array.getElem?_eq_some_iff.1 h).2
  unfold At World.setCell
  rw [Array.getElem?_eq_getElem (by simpa using h.lt), Array.getElem_modify]
  simp [hv]

theorem add_none' (b o m : Nat) : (⟨b, o, none⟩ : Addr).add m = ⟨b, o + m, none⟩ := by unfold Addr.add; split <;> simp_all

theorem At.newS (W : World) (cs : Array Value) (t : TypeId) {g : Nat} (hg : W.heap.size = g) : At (W.alloc (.cells cs t)) g cs t := by
  subst hg
  exact At.new W cs t

theorem At.add {W : World} {B : Nat} {t : TypeId} (cs : List Value) (h : At W B cs.toArray t) : ∀ j u, cs[j]? = some u → W.cell? ((⟨B, 0, none⟩ : Addr).add j) = some u := by
  intro j u hj
  rw [add_none', Nat.zero_add]
  exact (h.cell j).trans (by simpa using hj)

theorem info_parts' {P : Program} {e : TypeId} {z : Value} {a b : Nat} (h : (P.info? e).map (fun i => (i.zero, i.size, i.bytes)) = some (some z, a, b)) : ∃ i, P.info? e = some i ∧ i.zero = some z ∧ i.size = a ∧ i.bytes = b := by
  obtain ⟨i, hi, hzz⟩ := Option.map_eq_some_iff.1 h
  simp only [Prod.mk.injEq] at hzz
  exact ⟨i, hi, hzz.1, hzz.2.1, hzz.2.2⟩

theorem own_block {w : World} {base : Nat} {e : TypeId} {size : Nat} {v : Value} {n : Nat} {xs : List Value} (h : w.ownsRow base e size v n xs) {k : Nat} (hk : v.ownBlock = some k) : base ≤ k := by
  rcases h.2 with ⟨rfl, _⟩ | ⟨g, cap, cur, rfl, hg, _⟩
  · cases hk
  · cases hk; exact hg

theorem owns_below {w wr wz : World} {k : Nat} {v : Value} {xs : List Value} {e : TypeId} {size : Nat} (h2 : wr.ownsRow w.heap.size e size v k xs) (hz : Below wr.heap.size wr wz) : wz.ownsRow w.heap.size e size v k xs := by
  refine ⟨h2.1, ?_⟩
  rcases h2.2 with h4 | ⟨g, cap, cur, e1, e2, e3, e4⟩
  · exact Or.inl h4
  · exact Or.inr ⟨g, cap, cur, e1, e2, (hz.block g (Array.getElem?_eq_some_iff.1 e3).1).trans e3, e4⟩


theorem cells_new (w : World) (cs : List Value) (t : TypeId) : ∀ j u, cs[j]? = some u → (w.alloc (.cells cs.toArray t)).cell? ((⟨w.heap.size, 0, none⟩ : Addr).add j) = some u := by
  intro j u hj
  rw [add_none', Nat.zero_add]
  exact ((At.new w cs.toArray t).cell j).trans (by simpa using hj)

section
variable {α : Type}

theorem flat_len {enc : α → List Value} {size : Nat} (he : ∀ a, (enc a).length = size) : ∀ l : List α, (l.flatMap enc).length = l.length * size
  | [] => by simp
  | a :: l => by rw [List.flatMap_cons, List.length_append, flat_len he l, he, List.length_cons, Nat.succ_mul]; omega

theorem flat_get {enc : α → List Value} {size : Nat} (he : ∀ a, (enc a).length = size) : ∀ (l : List α) (i : Nat) (h : i < l.length) (j : Nat) (v : Value), (enc (l[i]'h))[j]? = some v → (l.flatMap enc)[i * size + j]? = some v
  | a :: l, 0, _, j, v, hv => by
    have hv : (enc a)[j]? = some v := hv
    have := (List.getElem?_eq_some_iff.1 hv).1
    rw [List.flatMap_cons, Nat.zero_mul, Nat.zero_add, List.getElem?_append_left this]
    exact hv
  | a :: l, i + 1, h, j, v, hv => by
    rw [List.flatMap_cons, List.getElem?_append_right (by rw [he, Nat.succ_mul]; omega), he, show (i + 1) * size + j - size = i * size + j by rw [Nat.succ_mul]; omega]
    exact flat_get he l i (by simpa using h) j v (by simpa using hv)

/-- Elements in a row. -/
def RowsIn (w : World) (size : Nat) (enc : α → List Value) (l : List α) (A : Option Addr) : Prop := ∀ i (h : i < l.length), ∃ b o, A = some ⟨b, o, none⟩ ∧ RowAt w b (o + i * size) (enc (l[i]'h))

theorem RowsIn.below {w w' : World} {size : Nat} {enc : α → List Value} {l : List α} {A : Option Addr} (h : RowsIn w size enc l A) (k : Below w.heap.size w w') : RowsIn w' size enc l A := fun i hi => by
  obtain ⟨b, o, e, h1⟩ := h i hi
  exact ⟨b, o, e, h1.below k⟩

/-- A row in the making. -/
def Own (e : TypeId) (size : Nat) (enc : α → List Value) (w0 : World) (l : List α) (v : Value) (wr : World) : Prop :=
  Below w0.heap.size w0 wr ∧ wr.ownsRow w0.heap.size e size v l.length (l.flatMap enc)

theorem Own.start {e : TypeId} {size : Nat} {enc : α → List Value} {w0 wr : World} (h : Below w0.heap.size w0 wr) : Own e size enc w0 [] (.slice none 0 0) wr := ⟨h, by simp, Or.inl ⟨rfl, rfl⟩⟩

theorem Own.below {e : TypeId} {size : Nat} {enc : α → List Value} {w0 wr wz : World} {l : List α} {v : Value} (h : Own e size enc w0 l v wr) (hz : Below wr.heap.size wr wz) : Own e size enc w0 l v wz :=
  ⟨h.1.trans (hz.mono h.1.size), owns_below h.2 hz⟩

theorem Own.done {e : TypeId} {size : Nat} {enc : α → List Value} {w0 wr : World} {l : List α} {v : Value} (he : ∀ a, (enc a).length = size) (h : Own e size enc w0 l v wr) : ∃ A C, v = .slice A l.length C ∧ RowsIn wr size enc l A := by
  obtain ⟨h1, h3⟩ := h
  rcases h3.2 with ⟨rfl, e0⟩ | ⟨g, cap, cur, rfl, _, hg, _, _, _, e7⟩
  · exact ⟨none, 0, by rw [e0], fun i hi => absurd hi (by omega)⟩
  · refine ⟨_, _, rfl, fun i hi => ⟨g, 0, rfl, (Array.getElem?_eq_some_iff.1 hg).1, fun j v hj => ?_⟩⟩
    have hA : At wr g cur e := hg
    have := flat_get he l i hi j v hj
    rw [hA.cell, show 0 + i * size + j = i * size + j by omega]
    rw [← e7] at this
    have hlt := (List.getElem?_eq_some_iff.1 this).1
    rw [List.getElem?_take_of_lt (by simp at hlt; omega), Array.getElem?_toList] at this
    exact this

/-- One more, at the end. -/
theorem Own.append (t e : TypeId) (enc : α → List Value) (z : Value) (size bytes : Nat) (hinfo : (Tryd.prog.info? e).map (fun i => (i.zero, i.size, i.bytes)) = some (some z, size, bytes)) (ht : Tryd.prog.underlying t = some (.slice e)) (hzs : z.cells.size = size) (hsz : 0 < size) (hb : bytes ≤ 1000)
    (he : ∀ a, (enc a).length = size) (hone : ∀ a, ∀ u ∈ enc a, u.oneCell' = true)
    (w : World) {ops : Array Oper} {rest : List Oper} {o : Oper} {a : Act} {Q : Exit → Act → World → Prop} (hgd : o.guard = none) (s x : Operand)
    (ho : o.op = .call { callee := .builtin .append, args := #[s, x], argTypes := #[t, t] })
    (v : Value) (hs : a.eval s = v) (w0 : World) (l m : List α) (hown : Own e size enc w0 l v w) (ad : Addr) (C : Nat) (hx : a.eval x = .slice (some ad) m.length C)
    (hc : ∀ j u, (m.flatMap enc)[j]? = some u → w.cell? (ad.add j) = some u) (hl : l.length + m.length ≤ 100000000)
    (h : ∀ v' w', Own e size enc w0 (l ++ m) v' w' → wpList Tryd.prog ops Q rest (a.put o.dst v') w') : wpList Tryd.prog ops Q (o :: rest) a w := by
  obtain ⟨i25, a1, a2, a3, a4⟩ := info_parts' hinfo
  obtain ⟨h1, h3⟩ := hown
  have hbytes : (l.length + m.length) * bytes ≤ 140737488355328 := Nat.le_trans (Nat.mul_le_mul hl hb) (by decide)
  refine wpList_append_own w hgd s x t ho w0.heap.size e i25 z size bytes ht a1 a2 a3 a4 hzs hsz v l.length (l.flatMap enc) hs h3 ad m.length C (m.flatMap enc) hx (flat_len he m) hc (fun u hu => ?_) (by unfold maxLen; omega) hbytes h1.size fun v' w' k1 k2 _ => h v' w' ?_
  · obtain ⟨a, _, ha⟩ := List.mem_flatMap.1 hu
    exact hone a u ha
  · refine ⟨h1.grown k2 h1.size (fun g e => own_block h3 e), ?_⟩
    rw [List.length_append, List.flatMap_append]
    exact k1

/-- Nothing more, at the end. -/
theorem Own.append_nil (t e : TypeId) (enc : α → List Value) (z : Value) (size bytes : Nat) (hinfo : (Tryd.prog.info? e).map (fun i => (i.zero, i.size, i.bytes)) = some (some z, size, bytes)) (ht : Tryd.prog.underlying t = some (.slice e))
    (w : World) {ops : Array Oper} {rest : List Oper} {o : Oper} {a : Act} {Q : Exit → Act → World → Prop} (hgd : o.guard = none) (s x : Operand)
    (ho : o.op = .call { callee := .builtin .append, args := #[s, x], argTypes := #[t, t] })
    (v : Value) (hs : a.eval s = v) (w0 : World) (l : List α) (hown : Own e size enc w0 l v w) (C : Nat) (hx : a.eval x = .slice none 0 C)
    (h : wpList Tryd.prog ops Q rest (a.put o.dst v) w) : wpList Tryd.prog ops Q (o :: rest) a w := by
  obtain ⟨i, hi, a2, a3, a4⟩ := info_parts' hinfo
  obtain ⟨h1, h3⟩ := hown
  have hrun : (Builtin.append_ #[t, t] o.type #[v, .slice none 0 C]).run Tryd.prog w = .ok v w := by
    rcases h3.2 with ⟨rfl, _⟩ | ⟨g, cap, cur, rfl, _, _, hnc, _⟩
    · simp [Builtin.append_, run_underlying ht, sizeOf, typeInfo, hi, Builtin.lenOf, Builtin.firstCells]
    · simp [Builtin.append_, run_underlying ht, sizeOf, typeInfo, hi, Builtin.lenOf, Builtin.firstCells, hnc, storeCells]
  refine wpList_plain hgd fun K hK => ?_
  unfold Oper.wp
  simp [execOp, ho, resolve, invoke, builtin, hs, hx, hrun, Result.andThen]
  exact hK _ _ h
end

/-- A row of one's own from a block on. -/
def OwnB {α : Type} (e : TypeId) (size : Nat) (enc : α → List Value) (base : Nat) (l : List α) (v : Value) (w : World) : Prop := base ≤ w.heap.size ∧ w.ownsRow base e size v l.length (l.flatMap enc)

theorem OwnB.below {α : Type} {e : TypeId} {size : Nat} {enc : α → List Value} {base : Nat} {l : List α} {v : Value} {w w' : World} (h : OwnB e size enc base l v w) (k : Below w.heap.size w w') : OwnB e size enc base l v w' := by
  refine ⟨Nat.le_trans h.1 k.size, h.2.1, ?_⟩
  rcases h.2.2 with h4 | ⟨g, cap, cur, e1, e2, e3, e4⟩
  · exact Or.inl h4
  · exact Or.inr ⟨g, cap, cur, e1, e2, (k.block g (Array.getElem?_eq_some_iff.1 e3).1).trans e3, e4⟩

/-- A store in an older block. -/
theorem OwnB.set {α : Type} {e : TypeId} {size : Nat} {enc : α → List Value} {base : Nat} {l : List α} {v : Value} {w : World} (h : OwnB e size enc base l v w) {b j : Nat} (hb : b < base) (u : Value) : OwnB e size enc base l v (w.setCell ⟨b, j, none⟩ u) := by
  refine ⟨by simp [World.setCell]; exact h.1, h.2.1, ?_⟩
  rcases h.2.2 with h4 | ⟨g, cap, cur, e1, e2, e3, e4⟩
  · exact Or.inl h4
  · exact Or.inr ⟨g, cap, cur, e1, e2, (Below.heap_setCell w ⟨b, j, none⟩ u g (by show g ≠ b; omega)).trans e3, e4⟩

theorem OwnB.done {α : Type} {e : TypeId} {size : Nat} {enc : α → List Value} {base : Nat} {l : List α} {v : Value} {w : World} (he : ∀ a, (enc a).length = size) (h : OwnB e size enc base l v w) : ∃ A C, v = .slice A l.length C ∧ RowsIn w size enc l A := by
  obtain ⟨h1, h3⟩ := h
  rcases h3.2 with ⟨rfl, e0⟩ | ⟨g, cap, cur, rfl, _, hg, _, _, _, e7⟩
  · exact ⟨none, 0, by rw [e0], fun i hi => absurd hi (by omega)⟩
  · refine ⟨_, _, rfl, fun i hi => ⟨g, 0, rfl, (Array.getElem?_eq_some_iff.1 hg).1, fun j v hj => ?_⟩⟩
    have hA : At w g cur e := hg
    have := flat_get he l i hi j v hj
    rw [hA.cell, show 0 + i * size + j = i * size + j by omega]
    rw [← e7] at this
    have hlt := (List.getElem?_eq_some_iff.1 this).1
    rw [List.getElem?_take_of_lt (by simp at hlt; omega), Array.getElem?_toList] at this
    exact this

theorem OwnB.rows {α : Type} {e : TypeId} {size : Nat} {enc : α → List Value} {base : Nat} {l : List α} {w : World} (he : ∀ a, (enc a).length = size) {A : Option Addr} {n C : Nat} (h : OwnB e size enc base l (.slice A n C) w) : RowsIn w size enc l A := by
  obtain ⟨A', C', e1, h2⟩ := h.done he
  injection e1 with e2 _ _
  subst e2
  exact h2

theorem OwnB.append {α : Type} (t e : TypeId) (enc : α → List Value) (z : Value) (size bytes : Nat) (hinfo : (Tryd.prog.info? e).map (fun i => (i.zero, i.size, i.bytes)) = some (some z, size, bytes)) (ht : Tryd.prog.underlying t = some (.slice e)) (hzs : z.cells.size = size) (hsz : 0 < size) (hb : bytes ≤ 1000)
    (he : ∀ a, (enc a).length = size) (hone : ∀ a, ∀ u ∈ enc a, u.oneCell' = true)
    (w : World) {o : Oper} {a : Act} {K : Act → World → Prop} {Q : Exit → Act → World → Prop} (s x : Operand)
    (ho : o.op = .call { callee := .builtin .append, args := #[s, x], argTypes := #[t, t] })
    (v : Value) (hs : a.eval s = v) (base : Nat) (l m : List α) (hown : OwnB e size enc base l v w) (ad : Addr) (C : Nat) (hx : a.eval x = .slice (some ad) m.length C)
    (hc : ∀ j u, (m.flatMap enc)[j]? = some u → w.cell? (ad.add j) = some u) (hl : l.length + m.length ≤ 100000000)
    (h : ∀ v' w', OwnB e size enc base (l ++ m) v' w' → Below base w w' → K (a.put o.dst v') w') : o.wp Tryd.prog a w K Q := by
  obtain ⟨i25, a1, a2, a3, a4⟩ := info_parts' hinfo
  obtain ⟨h1, h3⟩ := hown
  have hbytes : (l.length + m.length) * bytes ≤ 140737488355328 := Nat.le_trans (Nat.mul_le_mul hl hb) (by decide)
  refine wp_append_own w s x t ho base e i25 z size bytes ht a1 a2 a3 a4 hzs hsz v l.length (l.flatMap enc) hs h3 ad m.length C (m.flatMap enc) hx (flat_len he m) hc (fun u hu => ?_) (by unfold maxLen; omega) hbytes h1 fun v' w' k1 k2 _ => h v' w' ⟨Nat.le_trans h1 k2.size, ?_⟩ ((Below.refl _ _).grown k2 h1 (fun g e => own_block h3 e))
  · obtain ⟨a, _, ha⟩ := List.mem_flatMap.1 hu
    exact hone a u ha
  · rw [List.length_append, List.flatMap_append]
    exact k1

theorem OwnB.fresh {α : Type} {e : TypeId} {size : Nat} {enc : α → List Value} {base g : Nat} {w : World} (h : At w g #[] e) (hg : base ≤ g) : OwnB e size enc base ([] : List α) (.slice (some ⟨g, 0, none⟩) 0 0) w :=
  ⟨Nat.le_of_lt (Nat.lt_of_le_of_lt hg h.lt), by simp, Or.inr ⟨g, 0, #[], rfl, hg, h, Nat.le_refl _, by simp, by simp, by simp⟩⟩

theorem OwnB.appendK {α : Type} (t e : TypeId) (enc : α → List Value) (z : Value) (size bytes : Nat) (hinfo : (Tryd.prog.info? e).map (fun i => (i.zero, i.size, i.bytes)) = some (some z, size, bytes)) (ht : Tryd.prog.underlying t = some (.slice e)) (hzs : z.cells.size = size) (hsz : 0 < size) (hb : bytes ≤ 1000)
    (he : ∀ a, (enc a).length = size) (hone : ∀ a, ∀ u ∈ enc a, u.oneCell' = true)
    (w : World) {o : Oper} {a : Act} {K : Act → World → Prop} {Q : Exit → Act → World → Prop} (s x : Operand)
    (ho : o.op = .call { callee := .builtin .append, args := #[s, x], argTypes := #[t, t] })
    (v : Value) (hs : a.eval s = v) (base : Nat) (l m : List α) (hown : OwnB e size enc base l v w) (ad : Addr) (C : Nat) (hx : a.eval x = .slice (some ad) m.length C)
    (hc : ∀ j u, (m.flatMap enc)[j]? = some u → w.cell? (ad.add j) = some u) (hl : l.length + m.length ≤ 100000000)
    (h : ∀ v' w', OwnB e size enc base (l ++ m) v' w' → Below base w w' → (∀ k, k < w.heap.size → v.ownBlock ≠ some k → w'.heap[k]? = w.heap[k]?) → K (a.put o.dst v') w') : o.wp Tryd.prog a w K Q := by
  obtain ⟨i25, a1, a2, a3, a4⟩ := info_parts' hinfo
  obtain ⟨h1, h3⟩ := hown
  have hbytes : (l.length + m.length) * bytes ≤ 140737488355328 := Nat.le_trans (Nat.mul_le_mul hl hb) (by decide)
  refine wp_append_own w s x t ho base e i25 z size bytes ht a1 a2 a3 a4 hzs hsz v l.length (l.flatMap enc) hs h3 ad m.length C (m.flatMap enc) hx (flat_len he m) hc (fun u hu => ?_) (by unfold maxLen; omega) hbytes h1 fun v' w' k1 k2 _ => h v' w' ⟨Nat.le_trans h1 k2.size, ?_⟩ ((Below.refl _ _).grown k2 h1 (fun g e => own_block h3 e)) (fun k hk hne => k2.block k hk (fun e => hne e.symm))
  · obtain ⟨a, _, ha⟩ := List.mem_flatMap.1 hu
    exact hone a u ha
  · rw [List.length_append, List.flatMap_append]
    exact k1

theorem OwnB.append_nil {α : Type} (t e : TypeId) (enc : α → List Value) (z : Value) (size bytes : Nat) (hinfo : (Tryd.prog.info? e).map (fun i => (i.zero, i.size, i.bytes)) = some (some z, size, bytes)) (ht : Tryd.prog.underlying t = some (.slice e))
    (w : World) {o : Oper} {a : Act} {K : Act → World → Prop} {Q : Exit → Act → World → Prop} (s x : Operand)
    (ho : o.op = .call { callee := .builtin .append, args := #[s, x], argTypes := #[t, t] })
    (v : Value) (hs : a.eval s = v) (base : Nat) (l : List α) (hown : OwnB e size enc base l v w) (C : Nat) (hx : a.eval x = .slice none 0 C)
    (h : K (a.put o.dst v) w) : o.wp Tryd.prog a w K Q := by
  obtain ⟨i, hi, a2, a3, a4⟩ := info_parts' hinfo
  obtain ⟨h1, h3⟩ := hown
  have hrun : (Builtin.append_ #[t, t] o.type #[v, .slice none 0 C]).run Tryd.prog w = .ok v w := by
    rcases h3.2 with ⟨rfl, _⟩ | ⟨g, cap, cur, rfl, _, _, hnc, _⟩
    · simp [Builtin.append_, run_underlying ht, sizeOf, typeInfo, hi, Builtin.lenOf, Builtin.firstCells]
    · simp [Builtin.append_, run_underlying ht, sizeOf, typeInfo, hi, Builtin.lenOf, Builtin.firstCells, hnc, storeCells]
  unfold Oper.wp
  simp [execOp, ho, resolve, invoke, builtin, hs, hx, hrun, Result.andThen]
  exact h

theorem rows_all {α : Type} {w : World} {size : Nat} {enc : α → List Value} (he : ∀ a, (enc a).length = size) {l : List α} {A : Option Addr} (h : RowsIn w size enc l A) (hl : 0 < l.length) : ∃ b o, A = some ⟨b, o, none⟩ ∧ ∀ j u, (l.flatMap enc)[j]? = some u → w.cell? ((⟨b, o, none⟩ : Addr).add j) = some u := by
  obtain ⟨b, o, rfl, _⟩ := h 0 hl
  refine ⟨b, o, rfl, ?_⟩
  have key : ∀ (m : List α) (off : Nat), (∀ i (hi : i < m.length), ∀ j v, (enc (m[i]'hi))[j]? = some v → w.cell? ⟨b, off + i * size + j, none⟩ = some v) → ∀ j u, (m.flatMap enc)[j]? = some u → w.cell? ⟨b, off + j, none⟩ = some u := by
    intro m
    induction m with
    | nil => intro off _ j u hu; simp at hu
    | cons a m ih =>
      intro off hm j u hu
      rw [List.flatMap_cons] at hu
      by_cases hj : j < size
      · rw [List.getElem?_append_left (by rw [he]; exact hj)] at hu
        have := hm 0 (by simp) j u hu
        simpa using this
      · rw [List.getElem?_append_right (by rw [he]; omega), he] at hu
        have := ih (off + size) (fun i hi j v hv => by
          have h2 := hm (i + 1) (by simpa using hi) j v (by simpa using hv)
          rw [show off + (i + 1) * size + j = off + size + i * size + j by rw [Nat.succ_mul]; omega] at h2
          exact h2) (j - size) u hu
        rw [show off + size + (j - size) = off + j by omega] at this
        exact this
  intro j u hu
  rw [add_none']
  refine key l o (fun i hi j v hv => ?_) j u hu
  obtain ⟨b', o', e', h2⟩ := h i hi
  injection e' with e'
  injection e' with e1 e2
  subst e1 e2
  exact h2.2 j v hv

/-- The worlds in which nothing old has turned. -/
def After (w : World) : Type := { w' : World // Below w.heap.size w w' }

def After.w {w : World} (x : After w) : World := x.1
theorem After.has (w : World) : Nonempty (After w) := ⟨⟨w, Below.refl _ w⟩⟩
theorem After.below {w : World} (x : After w) : Below w.heap.size w x.w := x.2

theorem wp_region_after {P : Program} {id : Nat} {Q : Exit → Act → World → Prop} {a : Act} {w : World} {l : List Oper} (hm : P.follows .mixedOrders = true) (hB : Region.lexB .any l.toArray = true)
    (h : wpQuiet P l.toArray (fun w' => ∃ x : After w, w' = x.w) (fun a' => ∀ w', (∃ x : After w, w' = x.w) → Q .normal a' w') l a) : (Code.region id l.toArray true).wp P Q a w :=
  wp_region_quiet (C := fun w' => ∃ x : After w, w' = x.w) hm hB ⟨⟨w.drew, (Below.refl _ w).drew⟩, rfl⟩ (by simpa using h)

/-- A callee's contract, met in such a world. -/
theorem Calls.after {P : Program} {f : FuncId} {args : Array Value} {w : World} {x : After w} {v : Value} (h : Calls P f args x.w fun e w' => e = .returned v ∧ Below x.w.heap.size x.w w') : Calls P f args x.w fun e w'' => e = .returned v ∧ ∃ y : After w, w'' = y.w :=
  h.mono fun _ w'' ⟨he, hb⟩ => ⟨he, ⟨w'', below_next x.below hb⟩, rfl⟩

theorem After.cell {w : World} {a : Addr} {v : Value} (h : w.cell? a = some v) (x : After w) : x.w.cell? a = some v := by
  rw [← h]
  refine x.below.cell ?_
  unfold World.cell? at h
  split at h
  · rename_i hh; exact (Array.getElem?_eq_some_iff.1 hh).1
  · cases h

theorem below_drewN (w : World) (n : Nat) : Below w.heap.size w (w.drewN n) := drew_below (Below.refl _ _) n

theorem wrap_in (n : Int) (h : -9223372036854775808 ≤ n ∧ n ≤ 9223372036854775807) : IntKind.i64.wrap n = n := by rw [IntKind.wrap_i64]; omega

/-- Nothing has turned but the blocks of F. -/
def Kp (F : Nat → Prop) (w w' : World) : Prop := Below 0 w w' ∧ ∀ b, b < w.heap.size → ¬ F b → w'.heap[b]? = w.heap[b]?

theorem Kp.refl (F : Nat → Prop) (w : World) : Kp F w w := ⟨Below.refl _ _, fun _ _ _ => rfl⟩
theorem Kp.trans {F : Nat → Prop} {a b c : World} (h : Kp F a b) (k : Kp F b c) : Kp F a c :=
  ⟨h.1.trans k.1, fun x hx hf => (k.2 x (Nat.lt_of_lt_of_le hx h.1.size) hf).trans (h.2 x hx hf)⟩
theorem Kp.of_below {F : Nat → Prop} {w w' : World} (h : Below w.heap.size w w') : Kp F w w' := ⟨h.mono (Nat.zero_le _), fun b hb _ => h.block b hb⟩
theorem Kp.set {F : Nat → Prop} (w : World) {b : Nat} (j : Nat) (v : Value) (hf : F b) : Kp F w (w.setCell ⟨b, j, none⟩ v) :=
  ⟨(Below.refl 0 w).setCell (Nat.zero_le _) v, fun x _ hn => Below.heap_setCell w ⟨b, j, none⟩ v x (fun e => hn (by rw [e]; exact hf))⟩
theorem Kp.mono {F G : Nat → Prop} {w w' : World} (h : Kp F w w') (hFG : ∀ b, F b → G b) : Kp G w w' := ⟨h.1, fun b hb hn => h.2 b hb (fun hf => hn (hFG b hf))⟩
theorem Kp.drew {F : Nat → Prop} {w w' : World} (h : Kp F w w') : Kp F w w'.drew := ⟨h.1.drew, h.2⟩
theorem Kp.drewN {F : Nat → Prop} {w w' : World} (h : Kp F w w') (n : Nat) : Kp F w (w'.drewN n) := ⟨drew_below h.1 n, h.2⟩
theorem Kp.below {F : Nat → Prop} {n : Nat} {w w' : World} (h : Kp F w w') (hn : n ≤ w.heap.size) (hF : ∀ b, F b → n ≤ b) : Below n w w' :=
  ⟨h.1.os, h.1.tape, h.1.output, h.1.size, fun b hb => h.2 b (Nat.lt_of_lt_of_le hb hn) (fun hf => absurd (hF b hf) (by omega))⟩
theorem Kp.at {F : Nat → Prop} {w w' : World} (h : Kp F w w') {B : Nat} {cs : Array Value} {t : TypeId} (ha : At w B cs t) (hf : ¬ F B) : At w' B cs t := (h.2 B ha.lt hf).trans ha

/-- Blocks of two types are two. -/
theorem At.type {w : World} {b d : Nat} {cs ds : Array Value} {t u : TypeId} (h : At w b cs t) (k : At w d ds u) (hn : t ≠ u) : b ≠ d := by
  intro e
  subst e
  have := Option.some.inj (h.symm.trans k)
  injection this with _ e2 _
  exact hn e2

section
variable {α : Type} {e : TypeId} {size : Nat} {enc : α → List Value} {base : Nat} {l : List α} {v : Value} {w w' : World}

theorem OwnB.at (h : OwnB e size enc base l v w) {b : Nat} (hb : v.ownBlock = some b) : base ≤ b ∧ ∃ cs, At w b cs e := by
  rcases h.2.2 with ⟨rfl, _⟩ | ⟨g, cap, cur, rfl, hg, ha, _⟩
  · cases hb
  · cases hb
    exact ⟨hg, cur, ha⟩

/-- A row lies on where other blocks turn. -/
theorem OwnB.but {F : Nat → Prop} (h : OwnB e size enc base l v w) (k : Kp F w w') (hF : ∀ b, v.ownBlock = some b → ¬ F b) : OwnB e size enc base l v w' := by
  refine ⟨Nat.le_trans h.1 k.1.size, h.2.1, ?_⟩
  rcases h.2.2 with h4 | ⟨g, cap, cur, rfl, e2, e3, e4⟩
  · exact Or.inl h4
  · exact Or.inr ⟨g, cap, cur, rfl, e2, (k.2 g (Array.getElem?_eq_some_iff.1 e3).1 (hF g rfl)).trans e3, e4⟩

theorem OwnB.kp {F : Nat → Prop} (h : OwnB e size enc base l v w) (k : Kp F w w') (hF : ∀ b, F b → b < base) : OwnB e size enc base l v w' :=
  h.but k fun b hb hf => by have := (h.at hb).1; have := hF b hf; omega

theorem OwnB.lower {base' : Nat} (h : OwnB e size enc base l v w) (hb : base' ≤ base) : OwnB e size enc base' l v w := by
  refine ⟨Nat.le_trans hb h.1, h.2.1, ?_⟩
  rcases h.2.2 with h4 | ⟨g, cap, cur, e1, e2, e3⟩
  · exact Or.inl h4
  · exact Or.inr ⟨g, cap, cur, e1, Nat.le_trans hb e2, e3⟩

/-- The shape of a row. -/
theorem OwnB.shape (he : ∀ a, (enc a).length = size) (h : OwnB e size enc base l v w) : ∃ A C, v = .slice A l.length C ∧ (0 < l.length → ∃ B, A = some ⟨B, 0, none⟩ ∧ base ≤ B ∧ B < w.heap.size ∧ l.length ≤ C ∧ RowsIn w size enc l (some ⟨B, 0, none⟩)) := by
  have h0 := h
  rcases h.2.2 with ⟨rfl, e0⟩ | ⟨g, cap, cur, rfl, hg, hb, hc, _⟩
  · exact ⟨none, 0, by rw [e0], fun h => by omega⟩
  · exact ⟨_, cap, rfl, fun _ => ⟨g, rfl, hg, (Array.getElem?_eq_some_iff.1 hb).1, hc, OwnB.rows he h0⟩⟩

/-- The cells of an element. -/
theorem RowsIn.cell {B j : Nat} {u : Value} (h : RowsIn w size enc l (some ⟨B, 0, none⟩)) (i : Nat) (hi : i < l.length) (hu : (enc (l[i]'hi))[j]? = some u) : w.cell? ⟨B, i * size + j, none⟩ = some u := by
  obtain ⟨b, o, e1, h2⟩ := h i hi
  injection e1 with e1
  injection e1 with e1 e2
  subst e1 e2
  have := h2.2 j u hu
  rwa [Nat.zero_add] at this

/-- A part of a row. -/
theorem RowsIn.part {B : Nat} (he : ∀ a, (enc a).length = size) (h : RowsIn w size enc l (some ⟨B, 0, none⟩)) (n m : Nat) : ∀ j u, (((l.drop n).take m).flatMap enc)[j]? = some u → w.cell? ((⟨B, n * size, none⟩ : Addr).add j) = some u := by
  by_cases e : ((l.drop n).take m).length = 0
  · intro j u hj
    rw [List.length_eq_zero_iff.1 e] at hj
    simp at hj
  · have h1 : RowsIn w size enc ((l.drop n).take m) (some ⟨B, n * size, none⟩) := by
      intro i hi
      have hi2 : n + i < l.length := by simp at hi; omega
      obtain ⟨b, o, e1, h2⟩ := h (n + i) hi2
      injection e1 with e1
      injection e1 with e1 e2
      subst e1 e2
      refine ⟨B, n * size, rfl, ?_⟩
      rw [show ((l.drop n).take m)[i] = l[n + i] by simp, ← Nat.add_mul]
      rw [Nat.zero_add] at h2
      exact h2
    obtain ⟨b, o, e1, h2⟩ := rows_all he h1 (by omega)
    injection e1 with e1
    rw [e1]
    exact h2

/-- 'append(append([]T{}, x[:t]...), x[t+1:]...)', the first cells. -/
theorem cut_take {B C : Nat} (he : ∀ a, (enc a).length = size) (W : World) (h : OwnB e size enc base l (.slice (some ⟨B, 0, none⟩) l.length C) W) (t : Nat) : ∀ j u, ((l.take t).flatMap enc)[j]? = some u → (W.drew.alloc (.cells #[] e)).cell? ((⟨B, 0, none⟩ : Addr).add j) = some u := by
  have h1 : OwnB e size enc base l (.slice (some ⟨B, 0, none⟩) l.length C) (W.drew.alloc (.cells #[] e)) := (h.below (below_drew _)).below (below_alloc _ _)
  have := RowsIn.part he (OwnB.rows he h1) 0 t
  simpa using this

/-- .. and behind the first append. -/
theorem cut_one {B C : Nat} (he : ∀ a, (enc a).length = size) (W : World) (h : OwnB e size enc base l (.slice (some ⟨B, 0, none⟩) l.length C) W) (t : Nat) (q : Addr) (hq : (if C = t + 1 then some (⟨B, 0, none⟩ : Addr) else some ⟨B, (t + 1) * size, none⟩) = some q) (hC : l.length ≤ C) (v5 : Value) (w5 : World) (h5 : OwnB e size enc W.heap.size ([] ++ l.take t) v5 w5) (k5 : Below W.heap.size (W.drew.alloc (.cells #[] e)) w5) :
    Below W.heap.size W w5 ∧ OwnB e size enc W.heap.size (l.take t) v5 w5 ∧ (∀ j u, ((l.drop (t + 1)).flatMap enc)[j]? = some u → w5.cell? (q.add j) = some u) := by
  have hb : Below W.heap.size W w5 := (below_next (below_drew W) (below_alloc _ _)).trans k5
  have hR := h.below hb
  refine ⟨hb, by simpa using h5, ?_⟩
  by_cases e : C = t + 1
  · intro j u hj
    rw [List.drop_of_length_le (by omega)] at hj
    simp at hj
  · rw [if_neg e] at hq
    cases hq
    have := RowsIn.part he (OwnB.rows he hR) (t + 1) (l.length - (t + 1))
    rw [List.take_of_length_le (by simp)] at this
    exact this
end

section
variable {α : Type}

/-- Where a row lies behind an append: where it lay, or in new memory. -/
theorem append_blk (t e : TypeId) (enc : α → List Value) (z : Value) (size bytes : Nat) (hinfo : (Tryd.prog.info? e).map (fun i => (i.zero, i.size, i.bytes)) = some (some z, size, bytes)) (ht : Tryd.prog.underlying t = some (.slice e)) (hb : bytes ≤ 1000)
    (he : ∀ a, (enc a).length = size) (hone : ∀ a, ∀ u ∈ enc a, u.oneCell' = true)
    (w : World) (base : Nat) (l m : List α) (v : Value) (h : OwnB e size enc base l v w) (ad : Addr) (C : Nat) (ty : TypeId) (hc : ∀ j u, (m.flatMap enc)[j]? = some u → w.cell? (ad.add j) = some u) (hl : l.length + m.length ≤ 100000000) (v' : Value) (w' : World)
    (hr : (Builtin.append_ #[t, t] ty #[v, .slice (some ad) m.length C]).run Tryd.prog w = .ok v' w') : ∀ b, v'.ownBlock = some b → v.ownBlock = some b ∨ w.heap.size ≤ b := by
  obtain ⟨i, a1, a2, a3, a4⟩ := info_parts' hinfo
  have hm : (m.flatMap enc).length = m.length * i.size := by rw [a3]; exact flat_len he m
  have hlm : (l.flatMap enc).length = l.length * i.size := by rw [a3]; exact flat_len he l
  have hby : (l.length + m.length) * i.bytes ≤ 140737488355328 := by rw [a4]; exact Nat.le_trans (Nat.mul_le_mul hl hb) (by decide)
  have h1 : ∀ u ∈ m.flatMap enc, u.oneCell' = true := fun u hu => by
    obtain ⟨a, _, ha⟩ := List.mem_flatMap.1 hu
    exact hone a u ha
  rcases h.2.2 with ⟨rfl, e0⟩ | ⟨g, cap, cur, rfl, hg, hb', hcap, hcm, hsz, htk⟩
  · intro b hb2
    right
    by_cases hm0 : m.length = 0
    · have hm1 : m = [] := List.length_eq_zero_iff.1 hm0
      subst hm1
      have hq : (Builtin.append_ #[t, t] ty #[.slice none 0 0, .slice (some ad) ([] : List α).length C]).run Tryd.prog w = .ok (.slice none 0 0) w := by
        simp [Builtin.append_, run_underlying ht, sizeOf, typeInfo, a1, Builtin.lenOf, Builtin.firstCells, loadCells, loadCellsFrom]
      rw [hq] at hr
      injection hr with e1 _
      subst e1
      cases hb2
    · have hq := run_append_nil (P := Tryd.prog) w t ty e i _ ht a1 a2 ad m.length C (m.flatMap enc) hm hc (by omega) (by omega) (by
        have : m.length * i.bytes ≤ (l.length + m.length) * i.bytes := Nat.mul_le_mul_right _ (by omega)
        omega)
      rw [hq] at hr
      injection hr with e1 _
      subst e1
      cases hb2
      exact Nat.le_refl _
  · intro b hb2
    by_cases hroom : l.length + m.length ≤ cap
    · have hq := run_append_room (P := Tryd.prog) w t ty e i ht a1 g l.length cap cur hb' ad m.length C (m.flatMap enc) hm hc h1 hroom (by rw [hm, hsz, a3, ← Nat.add_mul]; exact Nat.mul_le_mul_right _ hroom)
      rw [hq] at hr
      injection hr with e1 _
      subst e1
      cases hb2
      exact Or.inl rfl
    · have holds : ∀ j u, (l.flatMap enc)[j]? = some u → w.cell? ((⟨g, 0, none⟩ : Addr).add j) = some u := h.2.cells (g := g) rfl
      have hq := run_append_grow (P := Tryd.prog) w t ty e i _ ht a1 a2 ⟨g, 0, none⟩ l.length cap (l.flatMap enc) hlm holds ad m.length C (m.flatMap enc) hm hc (by omega) (by omega) (growslice_fits (by omega) hby)
      rw [hq] at hr
      injection hr with e1 _
      subst e1
      cases hb2
      exact Or.inr (Nat.le_refl _)

/-- An append, with all that can be said of it. -/
theorem OwnB.appendN (t e : TypeId) (enc : α → List Value) (z : Value) (size bytes : Nat) (hinfo : (Tryd.prog.info? e).map (fun i => (i.zero, i.size, i.bytes)) = some (some z, size, bytes)) (ht : Tryd.prog.underlying t = some (.slice e)) (hzs : z.cells.size = size) (hsz : 0 < size) (hb : bytes ≤ 1000)
    (he : ∀ a, (enc a).length = size) (hone : ∀ a, ∀ u ∈ enc a, u.oneCell' = true)
    (w : World) {o : Oper} {a : Act} {K : Act → World → Prop} {Q : Exit → Act → World → Prop} (s x : Operand)
    (ho : o.op = .call { callee := .builtin .append, args := #[s, x], argTypes := #[t, t] })
    (v : Value) (hs : a.eval s = v) (base : Nat) (l m : List α) (hown : OwnB e size enc base l v w) (ad : Addr) (C : Nat) (hx : a.eval x = .slice (some ad) m.length C)
    (hc : ∀ j u, (m.flatMap enc)[j]? = some u → w.cell? (ad.add j) = some u) (hl : l.length + m.length ≤ 100000000)
    (h : ∀ v' w', OwnB e size enc base (l ++ m) v' w' → Below base w w' → (∀ k, k < w.heap.size → v.ownBlock ≠ some k → w'.heap[k]? = w.heap[k]?) → (∀ b, v'.ownBlock = some b → v.ownBlock = some b ∨ w.heap.size ≤ b) → K (a.put o.dst v') w') : o.wp Tryd.prog a w K Q := by
  obtain ⟨i25, a1, a2, a3, a4⟩ := info_parts' hinfo
  have hbytes : (l.length + m.length) * bytes ≤ 140737488355328 := Nat.le_trans (Nat.mul_le_mul hl hb) (by decide)
  obtain ⟨v', w', hr, k1, k2, _⟩ := run_append_own (P := Tryd.prog) w base t o.type e i25 _ size bytes ht a1 a2 a3 a4 hzs hsz v l.length (l.flatMap enc) hown.2 ad m.length C (m.flatMap enc) (flat_len he m) hc (fun u hu => by
    obtain ⟨a, _, ha⟩ := List.mem_flatMap.1 hu
    exact hone a u ha) (by unfold maxLen; omega) hbytes hown.1
  have hbk := append_blk t e enc z size bytes hinfo ht hb he hone w base l m v hown ad C o.type hc hl v' w' hr
  unfold Oper.wp execOp
  simp only [ho, resolve, invoke, builtin, Sem.run_bind, Sem.run_pure, Result.andThen_ok, List.map_toArray, List.map_cons, List.map_nil, hs, hx, hr]
  refine h v' w' ⟨Nat.le_trans hown.1 k2.size, ?_⟩ ((Below.refl _ _).grown k2 hown.1 (fun g e => own_block hown.2 e)) (fun k hk hne => k2.block k hk (fun e => hne e.symm)) hbk
  rw [List.length_append, List.flatMap_append]
  exact k1

/-- .. of one element, in a plain region: an arm of the walk. -/
theorem OwnB.appendNL (t e : TypeId) (enc : α → List Value) (z : Value) (size bytes : Nat) (hinfo : (Tryd.prog.info? e).map (fun i => (i.zero, i.size, i.bytes)) = some (some z, size, bytes)) (ht : Tryd.prog.underlying t = some (.slice e)) (hzs : z.cells.size = size) (hsz : 0 < size) (hb : bytes ≤ 1000)
    (he : ∀ a, (enc a).length = size) (hone : ∀ a, ∀ u ∈ enc a, u.oneCell' = true)
    {base : Nat} {l : List α} (w : World) {ops : Array Oper} {rest : List Oper} {o : Oper} {a : Act} {Q : Exit → Act → World → Prop} (hgd : o.guard = none) (s x : Operand)
    (ho : o.op = .call { callee := .builtin .append, args := #[s, x], argTypes := #[t, t] })
    (v : Value) (hs : a.eval s = v) (y : α) (hown : OwnB e size enc base l v w) (ad : Addr) (C : Nat) (hx : a.eval x = .slice (some ad) 1 C)
    (hc : ∀ j u, (enc y)[j]? = some u → w.cell? (ad.add j) = some u) (hl : l.length ≤ 10000000)
    (h : ∀ v' w', OwnB e size enc base (l ++ [y]) v' w' → Below base w w' → (∀ k, k < w.heap.size → v.ownBlock ≠ some k → w'.heap[k]? = w.heap[k]?) → (∀ b, v'.ownBlock = some b → v.ownBlock = some b ∨ w.heap.size ≤ b) → wpList Tryd.prog ops Q rest (a.put o.dst v') w') : wpList Tryd.prog ops Q (o :: rest) a w :=
  wpList_plain hgd fun _ hK => OwnB.appendN t e enc z size bytes hinfo ht hzs hsz hb he hone w s x ho v hs base l [y] hown ad C hx (by simpa using hc) (by simp; omega) fun v' w' h1 h2 h3 h4 => hK _ _ (h v' w' h1 h2 h3 h4)
end

/-- Two rows lie apart. -/
def Apt (v u : Value) : Prop := ∀ b, v.ownBlock = some b → u.ownBlock ≠ some b
theorem Apt.symm {v u : Value} (h : Apt v u) : Apt u v := fun b hb hv => h b hv hb

/-- The least of n, from k on, of which something holds. -/
def ff (p : Nat → Bool) : Nat → Nat → Option Nat
  | 0, _ => none
  | n + 1, k => if p k then some k else ff p n (k + 1)

theorem ff_lt (p : Nat → Bool) (n k i : Nat) (h : ff p n k = some i) : k ≤ i ∧ i < k + n ∧ p i = true := by
  induction n generalizing k with
  | zero => simp [ff] at h
  | succ n ih =>
    unfold ff at h
    split at h
    · cases h; exact ⟨by omega, by omega, by assumption⟩
    · have := ih _ h; exact ⟨by omega, by omega, this.2.2⟩

theorem ff_step (p : Nat → Bool) (n k : Nat) (h : k < n) : ff p (n - k) k = if p k then some k else ff p (n - (k + 1)) (k + 1) := by
  rw [show n - k = (n - (k + 1)) + 1 by omega, ff]

theorem ff_first (p : Nat → Bool) (n k i : Nat) (h : ∀ j, k ≤ j → j < i → p j = false) (hi : p i = true) (hk : k ≤ i) (hn : i < k + n) : ff p n k = some i := by
  induction n generalizing k with
  | zero => omega
  | succ n ih =>
    unfold ff
    by_cases e : k = i
    · subst e; rw [if_pos hi]
    · rw [h k (Nat.le_refl _) (by omega)]
      simp only [Bool.false_eq_true, if_false]
      exact ih (k + 1) (fun j h1 h2 => h j (by omega) h2) (by omega) (by omega)

theorem ff_none (p : Nat → Bool) (n k : Nat) : ff p n k = none ↔ ∀ j, k ≤ j → j < k + n → p j = false := by
  constructor
  · intro h
    induction n generalizing k with
    | zero => intro j _ _; omega
    | succ n ih =>
      intro j h1 h2
      unfold ff at h
      cases e : p k with
      | true => rw [if_pos e] at h; cases h
      | false =>
        rw [if_neg (by rw [e]; simp)] at h
        by_cases e2 : j = k
        · subst e2; exact e
        · exact ih (k + 1) h j (by omega) (by omega)
  · intro h
    induction n generalizing k with
    | zero => rfl
    | succ n ih =>
      unfold ff
      rw [h k (Nat.le_refl _) (by omega)]
      simp only [Bool.false_eq_true, if_false]
      exact ih (k + 1) (fun j h1 h2 => h j (by omega) (by omega))

theorem nodup_inj {α : Type} {l : List α} (h : l.Nodup) {i j : Nat} (hi : i < l.length) (hj : j < l.length) (e : l[i] = l[j]) : i = j := by
  have key := List.pairwise_iff_getElem.1 h
  rcases Nat.lt_trichotomy i j with h1 | h1 | h1
  · exact absurd e (key i j hi hj h1)
  · exact h1
  · exact absurd e.symm (key j i hj hi h1)

end Go.Proofs.YtapgaclonilnbaaDoor
