/-
  Proved: what every walk wants: cells and blocks that stay, rows of one's own in the making, what other rows and blocks do meanwhile, regions of which Go leaves the order open.
-/
import Derived.Test.YtapgaclonilnbaaDoorRows
import Derived.WalkKit
import Derived.ProofKit
import Derived.BigQuiet
import Derived.Deep.QuietTactic
import Derived.Deep.RegionHeld3
import Derived.Laws.AppendOwn
import Derived.Maps.OwnSet
import Derived.OrdersHeld
namespace Go.Proofs.YtapgaclonilnbaaDoor
open Go.RowKit

theorem qA {α : Type} {xs : List α} {i : Nat} (h : i < xs.toArray.size) : xs.toArray[i] = xs[i] := rfl
theorem qB {α : Type} (a : α) (t : List α) (i : Nat) (h : i + 1 < (a :: t).length) : (a :: t)[i + 1] = t[i]'(Nat.lt_of_succ_lt_succ h) := rfl
theorem qC {α : Type} (a : α) (t : List α) (h : 0 < (a :: t).length) : (a :: t)[0] = a := rfl
theorem qD {α : Type} (l : List α) (i : Nat) (a : α) : l.toArray.setIfInBounds i a = (l.set i a).toArray := List.setIfInBounds_toArray l i a
theorem qE {α : Type} {x : α} {xs : List α} {a : α} : (x :: xs).set 0 a = a :: xs := rfl
theorem qF {α : Type} {x : α} {xs : List α} {i : Nat} {a : α} : (x :: xs).set (i + 1) a = x :: xs.set i a := rfl

/-- Cells lie in a row. -/
def RowAt (w : World) (b o : Nat) (cs : List Value) : Prop := b < w.heap.size ∧ ∀ j v, cs[j]? = some v → w.cell? ⟨b, o + j, none⟩ = some v

theorem RowAt.below {w w' : World} {b o : Nat} {cs : List Value} (h : RowAt w b o cs) (k : Below w.heap.size w w') : RowAt w' b o cs :=
  ⟨Nat.lt_of_lt_of_le h.1 k.size, fun j v hj => (k.cell (p := ⟨b, o + j, none⟩) h.1).trans (h.2 j v hj)⟩

theorem str_ne {a b : ByteArray} (h : ¬ a = b) : (¬ a.toList = b.toList) ∧ (a.toList == b.toList) = false := by
  have e : ¬ a.toList = b.toList := fun e => h (WideShapes.bytes_inj (by rw [← ByteArray.toList_eq, ← ByteArray.toList_eq]; exact e))
  exact ⟨e, by simpa using e⟩

theorem below_next {a b c : World} (h : Below a.heap.size a b) (k : Below b.heap.size b c) : Below a.heap.size a c := h.trans (k.mono h.size)

theorem bcell {W w1 : World} (hb : Below W.heap.size W w1) : (∀ b o, b < W.heap.size → w1.cell? ⟨b, o, none⟩ = W.cell? ⟨b, o, none⟩) ∧ (∀ b o, b < W.heap.size → w1.frozen? ⟨b, o, none⟩ = W.frozen? ⟨b, o, none⟩) :=
  ⟨fun b o h => hb.cell (p := ⟨b, o, none⟩) h, fun b o h => hb.frozen (p := ⟨b, o, none⟩) h⟩

theorem below_alloc (w : World) (o : Obj) : Below w.heap.size w (w.alloc o) := (Below.refl _ _).alloc (Nat.le_refl _) o

theorem alloc_at (w : World) (o : Obj) : (w.alloc o).heap[w.heap.size]? = some o := by
  show (w.heap.push o)[w.heap.size]? = _
  simp

theorem below_drew (w : World) : Below w.heap.size w w.drew := (Below.refl _ _).drew

theorem cell_new {W : World} {a : Addr} {v : Value} (o : Obj) (h : W.cell? a = some v) : (W.alloc o).cell? a = some v := ((below_alloc W o).cell (World.block_lt_of_cell? _ _ h)).trans h

theorem drew_below {n : Nat} {w wr : World} (h : Below n w wr) (m : Nat) : Below n w (wr.drewN m) := ⟨h.os, h.tape, h.output, h.size, h.block⟩

theorem below_two (w : World) (a b : Obj) : Below w.heap.size w ((w.alloc a).alloc b) := below_next (below_alloc _ _) (below_alloc _ _)

/-- The cells of a block. -/
def At (W : World) (B : Nat) (cs : Array Value) (t : TypeId) : Prop := W.heap[B]? = some (.cells cs t (0, 0))

theorem At.lt {W : World} {B : Nat} {cs : Array Value} {t : TypeId} (h : At W B cs t) : B < W.heap.size := (Array.getElem?_eq_some_iff.1 h).1
theorem At.cell {W : World} {B : Nat} {cs : Array Value} {t : TypeId} (h : At W B cs t) (j : Nat) : W.cell? ⟨B, j, none⟩ = cs[j]? := by simp [World.cell?, show W.heap[B]? = _ from h]
theorem At.frozen {W : World} {B : Nat} {cs : Array Value} {t : TypeId} (h : At W B cs t) (j : Nat) : W.frozen? ⟨B, j, none⟩ = false := by simp [World.frozen?, show W.heap[B]? = _ from h]
theorem At.new (W : World) (cs : Array Value) (t : TypeId) : At (W.alloc (.cells cs t)) W.heap.size cs t := alloc_at W _
theorem At.below {W W' : World} {B n : Nat} {cs : Array Value} {t : TypeId} (h : At W B cs t) (hb : Below n W W') (hn : B < n) : At W' B cs t := (hb.block B hn).trans h
theorem At.set {W : World} {B j : Nat} {cs : Array Value} {t : TypeId} (h : At W B cs t) (v : Value) : At (W.setCell ⟨B, j, none⟩ v) B (cs.setIfInBounds j v) t := by
  have hv : W.heap[B]'h.lt = .cells cs t (0, 0) := (Array.getElem?_eq_some_iff.1 h).2
  unfold At World.setCell
  rw [Array.getElem?_eq_getElem (by simpa using h.lt), Array.getElem_modify]
  simp [hv]

theorem add_none' (b o m : Nat) : (⟨b, o, none⟩ : Addr).add m = ⟨b, o + m, none⟩ := by unfold Addr.add; split <;> simp_all

theorem At.newS (W : World) (cs : Array Value) (t : TypeId) {g : Nat} (hg : W.heap.size = g) : At (W.alloc (.cells cs t)) g cs t := by
  subst hg
  exact At.new W cs t

theorem At.add {W : World} {B : Nat} {t : TypeId} (cs : List Value) (h : At W B cs.toArray t) : ∀ j u, cs[j]? = some u → W.cell? ((⟨B, 0, none⟩ : Addr).add j) = some u := by
  intro j u hj
  rw [add_none', Nat.zero_add]
  exact (h.cell j).trans (by simpa using hj)

theorem info_parts' {P : Program} {e : TypeId} {z : Value} {a b : Nat} (h : (P.info? e).map (fun i => (i.zero, i.size, i.bytes)) = some (some z, a, b)) : ∃ i, P.info? e = some i ∧ i.zero = some z ∧ i.size = a ∧ i.bytes = b := by
  obtain ⟨i, hi, hzz⟩ := Option.map_eq_some_iff.1 h
  simp only [Prod.mk.injEq] at hzz
  exact ⟨i, hi, hzz.1, hzz.2.1, hzz.2.2⟩

theorem own_block {w : World} {base : Nat} {e : TypeId} {size : Nat} {v : Value} {n : Nat} {xs : List Value} (h : w.ownsRow base e size v n xs) {k : Nat} (hk : v.ownBlock = some k) : base ≤ k := by
  rcases h.2 with ⟨rfl, _⟩ | ⟨g, cap, cur, rfl, hg, _⟩
  · cases hk
  · cases hk; exact hg

theorem owns_below {w wr wz : World} {k : Nat} {v : Value} {xs : List Value} {e : TypeId} {size : Nat} (h2 : wr.ownsRow w.heap.size e size v k xs) (hz : Below wr.heap.size wr wz) : wz.ownsRow w.heap.size e size v k xs := by
  refine ⟨h2.1, ?_⟩
  rcases h2.2 with h4 | ⟨g, cap, cur, e1, e2, e3, e4⟩
  · exact Or.inl h4
  · exact Or.inr ⟨g, cap, cur, e1, e2, (hz.block g (Array.getElem?_eq_some_iff.1 e3).1).trans e3, e4⟩

theorem cells_new (w : World) (cs : List Value) (t : TypeId) : ∀ j u, cs[j]? = some u → (w.alloc (.cells cs.toArray t)).cell? ((⟨w.heap.size, 0, none⟩ : Addr).add j) = some u := by
  intro j u hj
  rw [add_none', Nat.zero_add]
  exact ((At.new w cs.toArray t).cell j).trans (by simpa using hj)

section
variable {α : Type}

theorem flat_len {enc : α → List Value} {size : Nat} (he : ∀ a, (enc a).length = size) : ∀ l : List α, (l.flatMap enc).length = l.length * size
  | [] => by simp
  | a :: l => by rw [List.flatMap_cons, List.length_append, flat_len he l, he, List.length_cons, Nat.succ_mul]; omega

theorem flat_get {enc : α → List Value} {size : Nat} (he : ∀ a, (enc a).length = size) : ∀ (l : List α) (i : Nat) (h : i < l.length) (j : Nat) (v : Value), (enc (l[i]'h))[j]? = some v → (l.flatMap enc)[i * size + j]? = some v
  | a :: l, 0, _, j, v, hv => by
    have hv : (enc a)[j]? = some v := hv
    have := (List.getElem?_eq_some_iff.1 hv).1
    rw [List.flatMap_cons, Nat.zero_mul, Nat.zero_add, List.getElem?_append_left this]
    exact hv
  | a :: l, i + 1, h, j, v, hv => by
    rw [List.flatMap_cons, List.getElem?_append_right (by rw [he, Nat.succ_mul]; omega), he, show (i + 1) * size + j - size = i * size + j by rw [Nat.succ_mul]; omega]
    exact flat_get he l i (by simpa using h) j v (by simpa using hv)

/-- Elements in a row. -/
def RowsIn (w : World) (size : Nat) (enc : α → List Value) (l : List α) (A : Option Addr) : Prop := ∀ i (h : i < l.length), ∃ b o, A = some ⟨b, o, none⟩ ∧ RowAt w b (o + i * size) (enc (l[i]'h))

theorem RowsIn.below {w w' : World} {size : Nat} {enc : α → List Value} {l : List α} {A : Option Addr} (h : RowsIn w size enc l A) (k : Below w.heap.size w w') : RowsIn w' size enc l A := fun i hi => by
  obtain ⟨b, o, e, h1⟩ := h i hi
  exact ⟨b, o, e, h1.below k⟩

/-- A row in the making. -/
def Own (e : TypeId) (size : Nat) (enc : α → List Value) (w0 : World) (l : List α) (v : Value) (wr : World) : Prop :=
  Below w0.heap.size w0 wr ∧ wr.ownsRow w0.heap.size e size v l.length (l.flatMap enc)

theorem Own.start {e : TypeId} {size : Nat} {enc : α → List Value} {w0 wr : World} (h : Below w0.heap.size w0 wr) : Own e size enc w0 [] (.slice none 0 0) wr := ⟨h, by simp, Or.inl ⟨rfl, rfl⟩⟩

theorem Own.below {e : TypeId} {size : Nat} {enc : α → List Value} {w0 wr wz : World} {l : List α} {v : Value} (h : Own e size enc w0 l v wr) (hz : Below wr.heap.size wr wz) : Own e size enc w0 l v wz :=
  ⟨h.1.trans (hz.mono h.1.size), owns_below h.2 hz⟩

theorem Own.done {e : TypeId} {size : Nat} {enc : α → List Value} {w0 wr : World} {l : List α} {v : Value} (he : ∀ a, (enc a).length = size) (h : Own e size enc w0 l v wr) : ∃ A C, v = .slice A l.length C ∧ RowsIn wr size enc l A := by
  obtain ⟨h1, h3⟩ := h
  rcases h3.2 with ⟨rfl, e0⟩ | ⟨g, cap, cur, rfl, _, hg, _, _, _, e7⟩
  · exact ⟨none, 0, by rw [e0], fun i hi => absurd hi (by omega)⟩
  · refine ⟨_, _, rfl, fun i hi => ⟨g, 0, rfl, (Array.getElem?_eq_some_iff.1 hg).1, fun j v hj => ?_⟩⟩
    have hA : At wr g cur e := hg
    have := flat_get he l i hi j v hj
    rw [hA.cell, show 0 + i * size + j = i * size + j by omega]
    rw [← e7] at this
    have hlt := (List.getElem?_eq_some_iff.1 this).1
    rw [List.getElem?_take_of_lt (by simp at hlt; omega), Array.getElem?_toList] at this
    exact this

/-- One more, at the end. -/
theorem Own.append (t e : TypeId) (enc : α → List Value) (z : Value) (size bytes : Nat) (hinfo : (Tryd.prog.info? e).map (fun i => (i.zero, i.size, i.bytes)) = some (some z, size, bytes)) (ht : Tryd.prog.underlying t = some (.slice e)) (hzs : z.cells.size = size) (hsz : 0 < size) (hb : bytes ≤ 1000)
    (he : ∀ a, (enc a).length = size) (hone : ∀ a, ∀ u ∈ enc a, u.oneCell' = true)
    (w : World) {ops : Array Oper} {rest : List Oper} {o : Oper} {a : Act} {Q : Exit → Act → World → Prop} (hgd : o.guard = none) (s x : Operand)
    (ho : o.op = .call { callee := .builtin .append, args := #[s, x], argTypes := #[t, t] })
    (v : Value) (hs : a.eval s = v) (w0 : World) (l m : List α) (hown : Own e size enc w0 l v w) (ad : Addr) (C : Nat) (hx : a.eval x = .slice (some ad) m.length C)
    (hc : ∀ j u, (m.flatMap enc)[j]? = some u → w.cell? (ad.add j) = some u) (hl : l.length + m.length ≤ 100000000)
    (h : ∀ v' w', Own e size enc w0 (l ++ m) v' w' → wpList Tryd.prog ops Q rest (a.put o.dst v') w') : wpList Tryd.prog ops Q (o :: rest) a w := by
  obtain ⟨i25, a1, a2, a3, a4⟩ := info_parts' hinfo
  obtain ⟨h1, h3⟩ := hown
  have hbytes : (l.length + m.length) * bytes ≤ 140737488355328 := Nat.le_trans (Nat.mul_le_mul hl hb) (by decide)
  refine wpList_append_own w hgd s x t ho w0.heap.size e i25 z size bytes ht a1 a2 a3 a4 hzs hsz v l.length (l.flatMap enc) hs h3 ad m.length C (m.flatMap enc) hx (flat_len he m) hc (fun u hu => ?_) (by unfold maxLen; omega) hbytes h1.size fun v' w' k1 k2 _ => h v' w' ?_
  · obtain ⟨a, _, ha⟩ := List.mem_flatMap.1 hu
    exact hone a u ha
  · refine ⟨h1.grown k2 h1.size (fun g e => own_block h3 e), ?_⟩
    rw [List.length_append, List.flatMap_append]
    exact k1

/-- Nothing more, at the end. -/
theorem Own.append_nil (t e : TypeId) (enc : α → List Value) (z : Value) (size bytes : Nat) (hinfo : (Tryd.prog.info? e).map (fun i => (i.zero, i.size, i.bytes)) = some (some z, size, bytes)) (ht : Tryd.prog.underlying t = some (.slice e))
    (w : World) {ops : Array Oper} {rest : List Oper} {o : Oper} {a : Act} {Q : Exit → Act → World → Prop} (hgd : o.guard = none) (s x : Operand)
    (ho : o.op = .call { callee := .builtin .append, args := #[s, x], argTypes := #[t, t] })
    (v : Value) (hs : a.eval s = v) (w0 : World) (l : List α) (hown : Own e size enc w0 l v w) (C : Nat) (hx : a.eval x = .slice none 0 C)
    (h : wpList Tryd.prog ops Q rest (a.put o.dst v) w) : wpList Tryd.prog ops Q (o :: rest) a w := by
  obtain ⟨i, hi, a2, a3, a4⟩ := info_parts' hinfo
  obtain ⟨h1, h3⟩ := hown
  have hrun : (Builtin.append_ #[t, t] o.type #[v, .slice none 0 C]).run Tryd.prog w = .ok v w := by
    rcases h3.2 with ⟨rfl, _⟩ | ⟨g, cap, cur, rfl, _, _, hnc, _⟩
    · simp [Builtin.append_, run_underlying ht, sizeOf, typeInfo, hi, Builtin.lenOf, Builtin.firstCells]
    · simp [Builtin.append_, run_underlying ht, sizeOf, typeInfo, hi, Builtin.lenOf, Builtin.firstCells, hnc, storeCells]
  refine wpList_plain hgd fun K hK => ?_
  unfold Oper.wp
  simp [execOp, ho, resolve, invoke, builtin, hs, hx, hrun, Result.andThen]
  exact hK _ _ h
end

/-- A row of one's own from a block on. -/
def OwnB {α : Type} (e : TypeId) (size : Nat) (enc : α → List Value) (base : Nat) (l : List α) (v : Value) (w : World) : Prop := base ≤ w.heap.size ∧ w.ownsRow base e size v l.length (l.flatMap enc)

theorem OwnB.below {α : Type} {e : TypeId} {size : Nat} {enc : α → List Value} {base : Nat} {l : List α} {v : Value} {w w' : World} (h : OwnB e size enc base l v w) (k : Below w.heap.size w w') : OwnB e size enc base l v w' := by
  refine ⟨Nat.le_trans h.1 k.size, h.2.1, ?_⟩
  rcases h.2.2 with h4 | ⟨g, cap, cur, e1, e2, e3, e4⟩
  · exact Or.inl h4
  · exact Or.inr ⟨g, cap, cur, e1, e2, (k.block g (Array.getElem?_eq_some_iff.1 e3).1).trans e3, e4⟩

/-- A store in an older block. -/
theorem OwnB.set {α : Type} {e : TypeId} {size : Nat} {enc : α → List Value} {base : Nat} {l : List α} {v : Value} {w : World} (h : OwnB e size enc base l v w) {b j : Nat} (hb : b < base) (u : Value) : OwnB e size enc base l v (w.setCell ⟨b, j, none⟩ u) := by
  refine ⟨by simp [World.setCell]; exact h.1, h.2.1, ?_⟩
  rcases h.2.2 with h4 | ⟨g, cap, cur, e1, e2, e3, e4⟩
  · exact Or.inl h4
  · exact Or.inr ⟨g, cap, cur, e1, e2, (Below.heap_setCell w ⟨b, j, none⟩ u g (by show g ≠ b; omega)).trans e3, e4⟩

theorem OwnB.done {α : Type} {e : TypeId} {size : Nat} {enc : α → List Value} {base : Nat} {l : List α} {v : Value} {w : World} (he : ∀ a, (enc a).length = size) (h : OwnB e size enc base l v w) : ∃ A C, v = .slice A l.length C ∧ RowsIn w size enc l A := by
  obtain ⟨h1, h3⟩ := h
  rcases h3.2 with ⟨rfl, e0⟩ | ⟨g, cap, cur, rfl, _, hg, _, _, _, e7⟩
  · exact ⟨none, 0, by rw [e0], fun i hi => absurd hi (by omega)⟩
  · refine ⟨_, _, rfl, fun i hi => ⟨g, 0, rfl, (Array.getElem?_eq_some_iff.1 hg).1, fun j v hj => ?_⟩⟩
    have hA : At w g cur e := hg
    have := flat_get he l i hi j v hj
    rw [hA.cell, show 0 + i * size + j = i * size + j by omega]
    rw [← e7] at this
    have hlt := (List.getElem?_eq_some_iff.1 this).1
    rw [List.getElem?_take_of_lt (by simp at hlt; omega), Array.getElem?_toList] at this
    exact this

theorem OwnB.rows {α : Type} {e : TypeId} {size : Nat} {enc : α → List Value} {base : Nat} {l : List α} {w : World} (he : ∀ a, (enc a).length = size) {A : Option Addr} {n C : Nat} (h : OwnB e size enc base l (.slice A n C) w) : RowsIn w size enc l A := by
  obtain ⟨A', C', e1, h2⟩ := h.done he
  injection e1 with e2 _ _
  subst e2
  exact h2

theorem OwnB.append {α : Type} (t e : TypeId) (enc : α → List Value) (z : Value) (size bytes : Nat) (hinfo : (Tryd.prog.info? e).map (fun i => (i.zero, i.size, i.bytes)) = some (some z, size, bytes)) (ht : Tryd.prog.underlying t = some (.slice e)) (hzs : z.cells.size = size) (hsz : 0 < size) (hb : bytes ≤ 1000)
    (he : ∀ a, (enc a).length = size) (hone : ∀ a, ∀ u ∈ enc a, u.oneCell' = true)
    (w : World) {o : Oper} {a : Act} {K : Act → World → Prop} {Q : Exit → Act → World → Prop} (s x : Operand)
    (ho : o.op = .call { callee := .builtin .append, args := #[s, x], argTypes := #[t, t] })
    (v : Value) (hs : a.eval s = v) (base : Nat) (l m : List α) (hown : OwnB e size enc base l v w) (ad : Addr) (C : Nat) (hx : a.eval x = .slice (some ad) m.length C)
    (hc : ∀ j u, (m.flatMap enc)[j]? = some u → w.cell? (ad.add j) = some u) (hl : l.length + m.length ≤ 100000000)
    (h : ∀ v' w', OwnB e size enc base (l ++ m) v' w' → Below base w w' → K (a.put o.dst v') w') : o.wp Tryd.prog a w K Q := by
  obtain ⟨i25, a1, a2, a3, a4⟩ := info_parts' hinfo
  obtain ⟨h1, h3⟩ := hown
  have hbytes : (l.length + m.length) * bytes ≤ 140737488355328 := Nat.le_trans (Nat.mul_le_mul hl hb) (by decide)
  refine wp_append_own w s x t ho base e i25 z size bytes ht a1 a2 a3 a4 hzs hsz v l.length (l.flatMap enc) hs h3 ad m.length C (m.flatMap enc) hx (flat_len he m) hc (fun u hu => ?_) (by unfold maxLen; omega) hbytes h1 fun v' w' k1 k2 _ => h v' w' ⟨Nat.le_trans h1 k2.size, ?_⟩ ((Below.refl _ _).grown k2 h1 (fun g e => own_block h3 e))
  · obtain ⟨a, _, ha⟩ := List.mem_flatMap.1 hu
    exact hone a u ha
  · rw [List.length_append, List.flatMap_append]
    exact k1

theorem OwnB.fresh {α : Type} {e : TypeId} {size : Nat} {enc : α → List Value} {base g : Nat} {w : World} (h : At w g #[] e) (hg : base ≤ g) : OwnB e size enc base ([] : List α) (.slice (some ⟨g, 0, none⟩) 0 0) w :=
  ⟨Nat.le_of_lt (Nat.lt_of_le_of_lt hg h.lt), by simp, Or.inr ⟨g, 0, #[], rfl, hg, h, Nat.le_refl _, by simp, by simp, by simp⟩⟩

theorem OwnB.appendK {α : Type} (t e : TypeId) (enc : α → List Value) (z : Value) (size bytes : Nat) (hinfo : (Tryd.prog.info? e).map (fun i => (i.zero, i.size, i.bytes)) = some (some z, size, bytes)) (ht : Tryd.prog.underlying t = some (.slice e)) (hzs : z.cells.size = size) (hsz : 0 < size) (hb : bytes ≤ 1000)
    (he : ∀ a, (enc a).length = size) (hone : ∀ a, ∀ u ∈ enc a, u.oneCell' = true)
    (w : World) {o : Oper} {a : Act} {K : Act → World → Prop} {Q : Exit → Act → World → Prop} (s x : Operand)
    (ho : o.op = .call { callee := .builtin .append, args := #[s, x], argTypes := #[t, t] })
    (v : Value) (hs : a.eval s = v) (base : Nat) (l m : List α) (hown : OwnB e size enc base l v w) (ad : Addr) (C : Nat) (hx : a.eval x = .slice (some ad) m.length C)
    (hc : ∀ j u, (m.flatMap enc)[j]? = some u → w.cell? (ad.add j) = some u) (hl : l.length + m.length ≤ 100000000)
    (h : ∀ v' w', OwnB e size enc base (l ++ m) v' w' → Below base w w' → (∀ k, k < w.heap.size → v.ownBlock ≠ some k → w'.heap[k]? = w.heap[k]?) → K (a.put o.dst v') w') : o.wp Tryd.prog a w K Q := by
  obtain ⟨i25, a1, a2, a3, a4⟩ := info_parts' hinfo
  obtain ⟨h1, h3⟩ := hown
  have hbytes : (l.length + m.length) * bytes ≤ 140737488355328 := Nat.le_trans (Nat.mul_le_mul hl hb) (by decide)
  refine wp_append_own w s x t ho base e i25 z size bytes ht a1 a2 a3 a4 hzs hsz v l.length (l.flatMap enc) hs h3 ad m.length C (m.flatMap enc) hx (flat_len he m) hc (fun u hu => ?_) (by unfold maxLen; omega) hbytes h1 fun v' w' k1 k2 _ => h v' w' ⟨Nat.le_trans h1 k2.size, ?_⟩ ((Below.refl _ _).grown k2 h1 (fun g e => own_block h3 e)) (fun k hk hne => k2.block k hk (fun e => hne e.symm))
  · obtain ⟨a, _, ha⟩ := List.mem_flatMap.1 hu
    exact hone a u ha
  · rw [List.length_append, List.flatMap_append]
    exact k1

theorem OwnB.append_nil {α : Type} (t e : TypeId) (enc : α → List Value) (z : Value) (size bytes : Nat) (hinfo : (Tryd.prog.info? e).map (fun i => (i.zero, i.size, i.bytes)) = some (some z, size, bytes)) (ht : Tryd.prog.underlying t = some (.slice e))
    (w : World) {o : Oper} {a : Act} {K : Act → World → Prop} {Q : Exit → Act → World → Prop} (s x : Operand)
    (ho : o.op = .call { callee := .builtin .append, args := #[s, x], argTypes := #[t, t] })
    (v : Value) (hs : a.eval s = v) (base : Nat) (l : List α) (hown : OwnB e size enc base l v w) (C : Nat) (hx : a.eval x = .slice none 0 C)
    (h : K (a.put o.dst v) w) : o.wp Tryd.prog a w K Q := by
  obtain ⟨i, hi, a2, a3, a4⟩ := info_parts' hinfo
  obtain ⟨h1, h3⟩ := hown
  have hrun : (Builtin.append_ #[t, t] o.type #[v, .slice none 0 C]).run Tryd.prog w = .ok v w := by
    rcases h3.2 with ⟨rfl, _⟩ | ⟨g, cap, cur, rfl, _, _, hnc, _⟩
    · simp [Builtin.append_, run_underlying ht, sizeOf, typeInfo, hi, Builtin.lenOf, Builtin.firstCells]
    · simp [Builtin.append_, run_underlying ht, sizeOf, typeInfo, hi, Builtin.lenOf, Builtin.firstCells, hnc, storeCells]
  unfold Oper.wp
  simp [execOp, ho, resolve, invoke, builtin, hs, hx, hrun, Result.andThen]
  exact h

theorem rows_all {α : Type} {w : World} {size : Nat} {enc : α → List Value} (he : ∀ a, (enc a).length = size) {l : List α} {A : Option Addr} (h : RowsIn w size enc l A) (hl : 0 < l.length) : ∃ b o, A = some ⟨b, o, none⟩ ∧ ∀ j u, (l.flatMap enc)[j]? = some u → w.cell? ((⟨b, o, none⟩ : Addr).add j) = some u := by
  obtain ⟨b, o, rfl, _⟩ := h 0 hl
  refine ⟨b, o, rfl, ?_⟩
  have key : ∀ (m : List α) (off : Nat), (∀ i (hi : i < m.length), ∀ j v, (enc (m[i]'hi))[j]? = some v → w.cell? ⟨b, off + i * size + j, none⟩ = some v) → ∀ j u, (m.flatMap enc)[j]? = some u → w.cell? ⟨b, off + j, none⟩ = some u := by
    intro m
    induction m with
    | nil => intro off _ j u hu; simp at hu
    | cons a m ih =>
      intro off hm j u hu
      rw [List.flatMap_cons] at hu
      by_cases hj : j < size
      · rw [List.getElem?_append_left (by rw [he]; exact hj)] at hu
        have := hm 0 (by simp) j u hu
        simpa using this
      · rw [List.getElem?_append_right (by rw [he]; omega), he] at hu
        have := ih (off + size) (fun i hi j v hv => by
          have h2 := hm (i + 1) (by simpa using hi) j v (by simpa using hv)
          rw [show off + (i + 1) * size + j = off + size + i * size + j by rw [Nat.succ_mul]; omega] at h2
          exact h2) (j - size) u hu
        rw [show off + size + (j - size) = off + j by omega] at this
        exact this
  intro j u hu
  rw [add_none']
  refine key l o (fun i hi j v hv => ?_) j u hu
  obtain ⟨b', o', e', h2⟩ := h i hi
  injection e' with e'
  injection e' with e1 e2
  subst e1 e2
  exact h2.2 j v hv

/-- The worlds in which nothing old has turned. -/
def After (w : World) : Type := { w' : World // Below w.heap.size w w' }

def After.w {w : World} (x : After w) : World := x.1
theorem After.has (w : World) : Nonempty (After w) := ⟨⟨w, Below.refl _ w⟩⟩
theorem After.below {w : World} (x : After w) : Below w.heap.size w x.w := x.2

theorem wp_region_after {P : Program} {id : Nat} {Q : Exit → Act → World → Prop} {a : Act} {w : World} {l : List Oper} (hm : P.follows .mixedOrders = true) (hB : Region.lexB .any l.toArray = true)
    (h : wpQuiet P l.toArray (fun w' => ∃ x : After w, w' = x.w) (fun a' => ∀ w', (∃ x : After w, w' = x.w) → Q .normal a' w') l a) : (Code.region id l.toArray true).wp P Q a w :=
  wp_region_quiet (C := fun w' => ∃ x : After w, w' = x.w) hm hB ⟨⟨w.drew, (Below.refl _ w).drew⟩, rfl⟩ (by simpa using h)

/-- A callee's contract, met in such a world. -/
theorem Calls.after {P : Program} {f : FuncId} {args : Array Value} {w : World} {x : After w} {v : Value} (h : Calls P f args x.w fun e w' => e = .returned v ∧ Below x.w.heap.size x.w w') : Calls P f args x.w fun e w'' => e = .returned v ∧ ∃ y : After w, w'' = y.w :=
  h.mono fun _ w'' ⟨he, hb⟩ => ⟨he, ⟨w'', below_next x.below hb⟩, rfl⟩

theorem After.cell {w : World} {a : Addr} {v : Value} (h : w.cell? a = some v) (x : After w) : x.w.cell? a = some v := by
  rw [← h]
  refine x.below.cell ?_
  unfold World.cell? at h
  split at h
  · rename_i hh; exact (Array.getElem?_eq_some_iff.1 hh).1
  · cases h

theorem below_drewN (w : World) (n : Nat) : Below w.heap.size w (w.drewN n) := drew_below (Below.refl _ _) n

theorem wrap_in (n : Int) (h : -9223372036854775808 ≤ n ∧ n ≤ 9223372036854775807) : IntKind.i64.wrap n = n := by rw [IntKind.wrap_i64]; omega

/-- Nothing has turned but the blocks of F. -/
def Kp (F : Nat → Prop) (w w' : World) : Prop := Below 0 w w' ∧ ∀ b, b < w.heap.size → ¬ F b → w'.heap[b]? = w.heap[b]?

theorem Kp.refl (F : Nat → Prop) (w : World) : Kp F w w := ⟨Below.refl _ _, fun _ _ _ => rfl⟩
theorem Kp.trans {F : Nat → Prop} {a b c : World} (h : Kp F a b) (k : Kp F b c) : Kp F a c :=
  ⟨h.1.trans k.1, fun x hx hf => (k.2 x (Nat.lt_of_lt_of_le hx h.1.size) hf).trans (h.2 x hx hf)⟩
theorem Kp.of_below {F : Nat → Prop} {w w' : World} (h : Below w.heap.size w w') : Kp F w w' := ⟨h.mono (Nat.zero_le _), fun b hb _ => h.block b hb⟩
theorem Kp.set {F : Nat → Prop} (w : World) {b : Nat} (j : Nat) (v : Value) (hf : F b) : Kp F w (w.setCell ⟨b, j, none⟩ v) :=
  ⟨(Below.refl 0 w).setCell (Nat.zero_le _) v, fun x _ hn => Below.heap_setCell w ⟨b, j, none⟩ v x (fun e => hn (by rw [e]; exact hf))⟩
theorem Kp.mono {F G : Nat → Prop} {w w' : World} (h : Kp F w w') (hFG : ∀ b, F b → G b) : Kp G w w' := ⟨h.1, fun b hb hn => h.2 b hb (fun hf => hn (hFG b hf))⟩
theorem Kp.drew {F : Nat → Prop} {w w' : World} (h : Kp F w w') : Kp F w w'.drew := ⟨h.1.drew, h.2⟩
theorem Kp.drewN {F : Nat → Prop} {w w' : World} (h : Kp F w w') (n : Nat) : Kp F w (w'.drewN n) := ⟨drew_below h.1 n, h.2⟩
theorem Kp.below {F : Nat → Prop} {n : Nat} {w w' : World} (h : Kp F w w') (hn : n ≤ w.heap.size) (hF : ∀ b, F b → n ≤ b) : Below n w w' :=
  ⟨h.1.os, h.1.tape, h.1.output, h.1.size, fun b hb => h.2 b (Nat.lt_of_lt_of_le hb hn) (fun hf => absurd (hF b hf) (by omega))⟩
theorem Kp.at {F : Nat → Prop} {w w' : World} (h : Kp F w w') {B : Nat} {cs : Array Value} {t : TypeId} (ha : At w B cs t) (hf : ¬ F B) : At w' B cs t := (h.2 B ha.lt hf).trans ha

/-- Blocks of two types are two. -/
theorem At.type {w : World} {b d : Nat} {cs ds : Array Value} {t u : TypeId} (h : At w b cs t) (k : At w d ds u) (hn : t ≠ u) : b ≠ d := by
  intro e
  subst e
  have := Option.some.inj (h.symm.trans k)
  injection this with _ e2 _
  exact hn e2

section
variable {α : Type} {e : TypeId} {size : Nat} {enc : α → List Value} {base : Nat} {l : List α} {v : Value} {w w' : World}

theorem OwnB.at (h : OwnB e size enc base l v w) {b : Nat} (hb : v.ownBlock = some b) : base ≤ b ∧ ∃ cs, At w b cs e := by
  rcases h.2.2 with ⟨rfl, _⟩ | ⟨g, cap, cur, rfl, hg, ha, _⟩
  · cases hb
  · cases hb
    exact ⟨hg, cur, ha⟩

/-- A row lies on where other blocks turn. -/
theorem OwnB.but {F : Nat → Prop} (h : OwnB e size enc base l v w) (k : Kp F w w') (hF : ∀ b, v.ownBlock = some b → ¬ F b) : OwnB e size enc base l v w' := by
  refine ⟨Nat.le_trans h.1 k.1.size, h.2.1, ?_⟩
  rcases h.2.2 with h4 | ⟨g, cap, cur, rfl, e2, e3, e4⟩
  · exact Or.inl h4
  · exact Or.inr ⟨g, cap, cur, rfl, e2, (k.2 g (Array.getElem?_eq_some_iff.1 e3).1 (hF g rfl)).trans e3, e4⟩

theorem OwnB.kp {F : Nat → Prop} (h : OwnB e size enc base l v w) (k : Kp F w w') (hF : ∀ b, F b → b < base) : OwnB e size enc base l v w' :=
  h.but k fun b hb hf => by have := (h.at hb).1; have := hF b hf; omega

theorem OwnB.lower {base' : Nat} (h : OwnB e size enc base l v w) (hb : base' ≤ base) : OwnB e size enc base' l v w := by
  refine ⟨Nat.le_trans hb h.1, h.2.1, ?_⟩
  rcases h.2.2 with h4 | ⟨g, cap, cur, e1, e2, e3⟩
  · exact Or.inl h4
  · exact Or.inr ⟨g, cap, cur, e1, Nat.le_trans hb e2, e3⟩

/-- The shape of a row. -/
theorem OwnB.shape (he : ∀ a, (enc a).length = size) (h : OwnB e size enc base l v w) : ∃ A C, v = .slice A l.length C ∧ (0 < l.length → ∃ B, A = some ⟨B, 0, none⟩ ∧ base ≤ B ∧ B < w.heap.size ∧ l.length ≤ C ∧ RowsIn w size enc l (some ⟨B, 0, none⟩)) := by
  have h0 := h
  rcases h.2.2 with ⟨rfl, e0⟩ | ⟨g, cap, cur, rfl, hg, hb, hc, _⟩
  · exact ⟨none, 0, by rw [e0], fun h => by omega⟩
  · exact ⟨_, cap, rfl, fun _ => ⟨g, rfl, hg, (Array.getElem?_eq_some_iff.1 hb).1, hc, OwnB.rows he h0⟩⟩

/-- The cells of an element. -/
theorem RowsIn.cell {B j : Nat} {u : Value} (h : RowsIn w size enc l (some ⟨B, 0, none⟩)) (i : Nat) (hi : i < l.length) (hu : (enc (l[i]'hi))[j]? = some u) : w.cell? ⟨B, i * size + j, none⟩ = some u := by
  obtain ⟨b, o, e1, h2⟩ := h i hi
  injection e1 with e1
  injection e1 with e1 e2
  subst e1 e2
  have := h2.2 j u hu
  rwa [Nat.zero_add] at this

/-- A part of a row. -/
theorem RowsIn.part {B : Nat} (he : ∀ a, (enc a).length = size) (h : RowsIn w size enc l (some ⟨B, 0, none⟩)) (n m : Nat) : ∀ j u, (((l.drop n).take m).flatMap enc)[j]? = some u → w.cell? ((⟨B, n * size, none⟩ : Addr).add j) = some u := by
  by_cases e : ((l.drop n).take m).length = 0
  · intro j u hj
    rw [List.length_eq_zero_iff.1 e] at hj
    simp at hj
  · have h1 : RowsIn w size enc ((l.drop n).take m) (some ⟨B, n * size, none⟩) := by
      intro i hi
      have hi2 : n + i < l.length := by simp at hi; omega
      obtain ⟨b, o, e1, h2⟩ := h (n + i) hi2
      injection e1 with e1
      injection e1 with e1 e2
      subst e1 e2
      refine ⟨B, n * size, rfl, ?_⟩
      rw [show ((l.drop n).take m)[i] = l[n + i] by simp, ← Nat.add_mul]
      rw [Nat.zero_add] at h2
      exact h2
    obtain ⟨b, o, e1, h2⟩ := rows_all he h1 (by omega)
    injection e1 with e1
    rw [e1]
    exact h2

/-- 'append(append([]T{}, x[:t]...), x[t+1:]...)', the first cells. -/
theorem cut_take {B C : Nat} (he : ∀ a, (enc a).length = size) (W : World) (h : OwnB e size enc base l (.slice (some ⟨B, 0, none⟩) l.length C) W) (t : Nat) : ∀ j u, ((l.take t).flatMap enc)[j]? = some u → (W.drew.alloc (.cells #[] e)).cell? ((⟨B, 0, none⟩ : Addr).add j) = some u := by
  have h1 : OwnB e size enc base l (.slice (some ⟨B, 0, none⟩) l.length C) (W.drew.alloc (.cells #[] e)) := (h.below (below_drew _)).below (below_alloc _ _)
  have := RowsIn.part he (OwnB.rows he h1) 0 t
  simpa using this

/-- .. and behind the first append. -/
theorem cut_one {B C : Nat} (he : ∀ a, (enc a).length = size) (W : World) (h : OwnB e size enc base l (.slice (some ⟨B, 0, none⟩) l.length C) W) (t : Nat) (q : Addr) (hq : (if C = t + 1 then some (⟨B, 0, none⟩ : Addr) else some ⟨B, (t + 1) * size, none⟩) = some q) (hC : l.length ≤ C) (v5 : Value) (w5 : World) (h5 : OwnB e size enc W.heap.size ([] ++ l.take t) v5 w5) (k5 : Below W.heap.size (W.drew.alloc (.cells #[] e)) w5) :
    Below W.heap.size W w5 ∧ OwnB e size enc W.heap.size (l.take t) v5 w5 ∧ (∀ j u, ((l.drop (t + 1)).flatMap enc)[j]? = some u → w5.cell? (q.add j) = some u) := by
  have hb : Below W.heap.size W w5 := (below_next (below_drew W) (below_alloc _ _)).trans k5
  have hR := h.below hb
  refine ⟨hb, by simpa using h5, ?_⟩
  by_cases e : C = t + 1
  · intro j u hj
    rw [List.drop_of_length_le (by omega)] at hj
    simp at hj
  · rw [if_neg e] at hq
    cases hq
    have := RowsIn.part he (OwnB.rows he hR) (t + 1) (l.length - (t + 1))
    rw [List.take_of_length_le (by simp)] at this
    exact this
end

section
variable {α : Type}

/-- Where a row lies behind an append: where it lay, or in new memory. -/
theorem append_blk (t e : TypeId) (enc : α → List Value) (z : Value) (size bytes : Nat) (hinfo : (Tryd.prog.info? e).map (fun i => (i.zero, i.size, i.bytes)) = some (some z, size, bytes)) (ht : Tryd.prog.underlying t = some (.slice e)) (hb : bytes ≤ 1000)
    (he : ∀ a, (enc a).length = size) (hone : ∀ a, ∀ u ∈ enc a, u.oneCell' = true)
    (w : World) (base : Nat) (l m : List α) (v : Value) (h : OwnB e size enc base l v w) (ad : Addr) (C : Nat) (ty : TypeId) (hc : ∀ j u, (m.flatMap enc)[j]? = some u → w.cell? (ad.add j) = some u) (hl : l.length + m.length ≤ 100000000) (v' : Value) (w' : World)
    (hr : (Builtin.append_ #[t, t] ty #[v, .slice (some ad) m.length C]).run Tryd.prog w = .ok v' w') : ∀ b, v'.ownBlock = some b → v.ownBlock = some b ∨ w.heap.size ≤ b := by
  obtain ⟨i, a1, a2, a3, a4⟩ := info_parts' hinfo
  have hm : (m.flatMap enc).length = m.length * i.size := by rw [a3]; exact flat_len he m
  have hlm : (l.flatMap enc).length = l.length * i.size := by rw [a3]; exact flat_len he l
  have hby : (l.length + m.length) * i.bytes ≤ 140737488355328 := by rw [a4]; exact Nat.le_trans (Nat.mul_le_mul hl hb) (by decide)
  have h1 : ∀ u ∈ m.flatMap enc, u.oneCell' = true := fun u hu => by
    obtain ⟨a, _, ha⟩ := List.mem_flatMap.1 hu
    exact hone a u ha
  rcases h.2.2 with ⟨rfl, e0⟩ | ⟨g, cap, cur, rfl, hg, hb', hcap, hcm, hsz, htk⟩
  · intro b hb2
    right
    by_cases hm0 : m.length = 0
    · have hm1 : m = [] := List.length_eq_zero_iff.1 hm0
      subst hm1
      have hq : (Builtin.append_ #[t, t] ty #[.slice none 0 0, .slice (some ad) ([] : List α).length C]).run Tryd.prog w = .ok (.slice none 0 0) w := by
        simp [Builtin.append_, run_underlying ht, sizeOf, typeInfo, a1, Builtin.lenOf, Builtin.firstCells, loadCells, loadCellsFrom]
      rw [hq] at hr
      injection hr with e1 _
      subst e1
      cases hb2
    · have hq := run_append_nil (P := Tryd.prog) w t ty e i _ ht a1 a2 ad m.length C (m.flatMap enc) hm hc (by omega) (by omega) (by
        have : m.length * i.bytes ≤ (l.length + m.length) * i.bytes := Nat.mul_le_mul_right _ (by omega)
        omega)
      rw [hq] at hr
      injection hr with e1 _
      subst e1
      cases hb2
      exact Nat.le_refl _
  · intro b hb2
    by_cases hroom : l.length + m.length ≤ cap
    · have hq := run_append_room (P := Tryd.prog) w t ty e i ht a1 g l.length cap cur hb' ad m.length C (m.flatMap enc) hm hc h1 hroom (by rw [hm, hsz, a3, ← Nat.add_mul]; exact Nat.mul_le_mul_right _ hroom)
      rw [hq] at hr
      injection hr with e1 _
      subst e1
      cases hb2
      exact Or.inl rfl
    · have holds : ∀ j u, (l.flatMap enc)[j]? = some u → w.cell? ((⟨g, 0, none⟩ : Addr).add j) = some u := h.2.cells (g := g) rfl
      have hq := run_append_grow (P := Tryd.prog) w t ty e i _ ht a1 a2 ⟨g, 0, none⟩ l.length cap (l.flatMap enc) hlm holds ad m.length C (m.flatMap enc) hm hc (by omega) (by omega) (growslice_fits (by omega) hby)
      rw [hq] at hr
      injection hr with e1 _
      subst e1
      cases hb2
      exact Or.inr (Nat.le_refl _)

/-- An append, with all that can be said of it. -/
theorem OwnB.appendN (t e : TypeId) (enc : α → List Value) (z : Value) (size bytes : Nat) (hinfo : (Tryd.prog.info? e).map (fun i => (i.zero, i.size, i.bytes)) = some (some z, size, bytes)) (ht : Tryd.prog.underlying t = some (.slice e)) (hzs : z.cells.size = size) (hsz : 0 < size) (hb : bytes ≤ 1000)
    (he : ∀ a, (enc a).length = size) (hone : ∀ a, ∀ u ∈ enc a, u.oneCell' = true)
    (w : World) {o : Oper} {a : Act} {K : Act → World → Prop} {Q : Exit → Act → World → Prop} (s x : Operand)
    (ho : o.op = .call { callee := .builtin .append, args := #[s, x], argTypes := #[t, t] })
    (v : Value) (hs : a.eval s = v) (base : Nat) (l m : List α) (hown : OwnB e size enc base l v w) (ad : Addr) (C : Nat) (hx : a.eval x = .slice (some ad) m.length C)
    (hc : ∀ j u, (m.flatMap enc)[j]? = some u → w.cell? (ad.add j) = some u) (hl : l.length + m.length ≤ 100000000)
    (h : ∀ v' w', OwnB e size enc base (l ++ m) v' w' → Below base w w' → (∀ k, k < w.heap.size → v.ownBlock ≠ some k → w'.heap[k]? = w.heap[k]?) → (∀ b, v'.ownBlock = some b → v.ownBlock = some b ∨ w.heap.size ≤ b) → K (a.put o.dst v') w') : o.wp Tryd.prog a w K Q := by
  obtain ⟨i25, a1, a2, a3, a4⟩ := info_parts' hinfo
  have hbytes : (l.length + m.length) * bytes ≤ 140737488355328 := Nat.le_trans (Nat.mul_le_mul hl hb) (by decide)
  obtain ⟨v', w', hr, k1, k2, _⟩ := run_append_own (P := Tryd.prog) w base t o.type e i25 _ size bytes ht a1 a2 a3 a4 hzs hsz v l.length (l.flatMap enc) hown.2 ad m.length C (m.flatMap enc) (flat_len he m) hc (fun u hu => by
    obtain ⟨a, _, ha⟩ := List.mem_flatMap.1 hu
    exact hone a u ha) (by unfold maxLen; omega) hbytes hown.1
  have hbk := append_blk t e enc z size bytes hinfo ht hb he hone w base l m v hown ad C o.type hc hl v' w' hr
  unfold Oper.wp execOp
  simp only [ho, resolve, invoke, builtin, Sem.run_bind, Sem.run_pure, Result.andThen_ok, List.map_toArray, List.map_cons, List.map_nil, hs, hx, hr]
  refine h v' w' ⟨Nat.le_trans hown.1 k2.size, ?_⟩ ((Below.refl _ _).grown k2 hown.1 (fun g e => own_block hown.2 e)) (fun k hk hne => k2.block k hk (fun e => hne e.symm)) hbk
  rw [List.length_append, List.flatMap_append]
  exact k1

/-- .. of one element, in a plain region: an arm of the walk. -/
theorem OwnB.appendNL (t e : TypeId) (enc : α → List Value) (z : Value) (size bytes : Nat) (hinfo : (Tryd.prog.info? e).map (fun i => (i.zero, i.size, i.bytes)) = some (some z, size, bytes)) (ht : Tryd.prog.underlying t = some (.slice e)) (hzs : z.cells.size = size) (hsz : 0 < size) (hb : bytes ≤ 1000)
    (he : ∀ a, (enc a).length = size) (hone : ∀ a, ∀ u ∈ enc a, u.oneCell' = true)
    {base : Nat} {l : List α} (w : World) {ops : Array Oper} {rest : List Oper} {o : Oper} {a : Act} {Q : Exit → Act → World → Prop} (hgd : o.guard = none) (s x : Operand)
    (ho : o.op = .call { callee := .builtin .append, args := #[s, x], argTypes := #[t, t] })
    (v : Value) (hs : a.eval s = v) (y : α) (hown : OwnB e size enc base l v w) (ad : Addr) (C : Nat) (hx : a.eval x = .slice (some ad) 1 C)
    (hc : ∀ j u, (enc y)[j]? = some u → w.cell? (ad.add j) = some u) (hl : l.length ≤ 10000000)
    (h : ∀ v' w', OwnB e size enc base (l ++ [y]) v' w' → Below base w w' → (∀ k, k < w.heap.size → v.ownBlock ≠ some k → w'.heap[k]? = w.heap[k]?) → (∀ b, v'.ownBlock = some b → v.ownBlock = some b ∨ w.heap.size ≤ b) → wpList Tryd.prog ops Q rest (a.put o.dst v') w') : wpList Tryd.prog ops Q (o :: rest) a w :=
  wpList_plain hgd fun _ hK => OwnB.appendN t e enc z size bytes hinfo ht hzs hsz hb he hone w s x ho v hs base l [y] hown ad C hx (by simpa using hc) (by simp; omega) fun v' w' h1 h2 h3 h4 => hK _ _ (h v' w' h1 h2 h3 h4)
end

/-- Two rows lie apart. -/
def Apt (v u : Value) : Prop := ∀ b, v.ownBlock = some b → u.ownBlock ≠ some b
theorem Apt.symm {v u : Value} (h : Apt v u) : Apt u v := fun b hb hv => h b hv hb

/-- The least of n, from k on, of which something holds. -/
def ff (p : Nat → Bool) : Nat → Nat → Option Nat
  | 0, _ => none
  | n + 1, k => if p k then some k else ff p n (k + 1)

theorem ff_lt (p : Nat → Bool) (n k i : Nat) (h : ff p n k = some i) : k ≤ i ∧ i < k + n ∧ p i = true := by
  induction n generalizing k with
  | zero => simp [ff] at h
  | succ n ih =>
    unfold ff at h
    split at h
    · cases h; exact ⟨by omega, by omega, by assumption⟩
    · have := ih _ h; exact ⟨by omega, by omega, this.2.2⟩

theorem ff_step (p : Nat → Bool) (n k : Nat) (h : k < n) : ff p (n - k) k = if p k then some k else ff p (n - (k + 1)) (k + 1) := by
  rw [show n - k = (n - (k + 1)) + 1 by omega, ff]

theorem ff_first (p : Nat → Bool) (n k i : Nat) (h : ∀ j, k ≤ j → j < i → p j = false) (hi : p i = true) (hk : k ≤ i) (hn : i < k + n) : ff p n k = some i := by
  induction n generalizing k with
  | zero => omega
  | succ n ih =>
    unfold ff
    by_cases e : k = i
    · subst e; rw [if_pos hi]
    · rw [h k (Nat.le_refl _) (by omega)]
      simp only [Bool.false_eq_true, if_false]
      exact ih (k + 1) (fun j h1 h2 => h j (by omega) h2) (by omega) (by omega)

theorem ff_none (p : Nat → Bool) (n k : Nat) : ff p n k = none ↔ ∀ j, k ≤ j → j < k + n → p j = false := by
  constructor
  · intro h
    induction n generalizing k with
    | zero => intro j _ _; omega
    | succ n ih =>
      intro j h1 h2
      unfold ff at h
      cases e : p k with
      | true => rw [if_pos e] at h; cases h
      | false =>
        rw [if_neg (by rw [e]; simp)] at h
        by_cases e2 : j = k
        · subst e2; exact e
        · exact ih (k + 1) h j (by omega) (by omega)
  · intro h
    induction n generalizing k with
    | zero => rfl
    | succ n ih =>
      unfold ff
      rw [h k (Nat.le_refl _) (by omega)]
      simp only [Bool.false_eq_true, if_false]
      exact ih (k + 1) (fun j h1 h2 => h j (by omega) (by omega))

theorem nodup_inj {α : Type} {l : List α} (h : l.Nodup) {i j : Nat} (hi : i < l.length) (hj : j < l.length) (e : l[i] = l[j]) : i = j := by
  have key := List.pairwise_iff_getElem.1 h
  rcases Nat.lt_trichotomy i j with h1 | h1 | h1
  · exact absurd e (key i j hi hj h1)
  · exact h1
  · exact absurd e.symm (key j i hj hi h1)

end Go.Proofs.YtapgaclonilnbaaDoor

/-
  Proved: how the cells of functions in the low form lie in memory, as plain data; that they stay while nothing old is written.
-/
namespace Go.Proofs.YtapgaclonilnbaaDoor
open Go.RowKit

/-- The elements of a slice, each by itself, by a relation. -/
def Rel {α : Type} (w : World) (size : Nat) (good : World → α → List Value → Prop) (l : List α) (A : Option Addr) : Prop :=
  ∀ i (h : i < l.length), ∃ b o cs, A = some ⟨b, o, none⟩ ∧ RowAt w b (o + i * size) cs ∧ good w (l[i]'h) cs

/-- A slice that came in. -/
def SlIn {α : Type} (w : World) (size : Nat) (good : World → α → List Value → Prop) (l : List α) (v : Value) : Prop :=
  l.length ≤ 281474976710656 ∧ ∃ A C, v = .slice A l.length C ∧ Rel w size good l A

theorem Rel.below {α : Type} {w w' : World} {size : Nat} {good : World → α → List Value → Prop} {l : List α} {A : Option Addr} (h : Rel w size good l A) (k : Below w.heap.size w w') (hg : ∀ x cs, good w x cs → good w' x cs) : Rel w' size good l A := fun i hi => by
  obtain ⟨b, o, cs, e1, e2, e3⟩ := h i hi
  exact ⟨b, o, cs, e1, e2.below k, hg _ _ e3⟩

theorem SlIn.below {α : Type} {w w' : World} {size : Nat} {good : World → α → List Value → Prop} {l : List α} {v : Value} (h : SlIn w size good l v) (k : Below w.heap.size w w') (hg : ∀ x cs, good w x cs → good w' x cs) : SlIn w' size good l v := by
  obtain ⟨h0, A, C, e, h1⟩ := h
  exact ⟨h0, A, C, e, h1.below k hg⟩

/-- An instruction. -/
structure Lo where
  mk ::
  op : Int
  d : Int
  a : Int
  b : Int
  n : Int
  tx : ByteArray
  args : List Int
  dsts : List Int
/-- A block's end. -/
structure Le where
  mk ::
  k : Int
  a : Int
  b : Int
  to : Int
  el : Int
  tx : ByteArray
  args : List Int
/-- A block. -/
structure Lb where
  mk ::
  li : List Lo
  tm : Le
/-- A function. -/
structure Lf where
  mk ::
  nm : ByteArray
  rg : Int
  pa : List Int
  an : Int
  fr : Int
  qu : Bool
  bs : List Lb

def GI (_ : World) (x : Int) (cs : List Value) : Prop := cs = [.int .i64 x]
def NosIn (w : World) (l : List Int) (v : Value) : Prop := SlIn w 1 GI l v
theorem NosIn.below {w w' : World} {l : List Int} {v : Value} (h : NosIn w l v) (k : Below w.heap.size w w') : NosIn w' l v := SlIn.below h k fun _ _ => id

/-- Numbers in memory, cell by cell. -/
theorem NosIn.cells {w : World} {l : List Int} {v : Value} (h : NosIn w l v) : l.length ≤ 281474976710656 ∧ ∃ A C, v = .slice A l.length C ∧ ∀ i (h : i < l.length), ∃ b o, A = some ⟨b, o, none⟩ ∧ b < w.heap.size ∧ w.cell? ⟨b, o + i, none⟩ = some (.int .i64 (l[i]'h)) := by
  obtain ⟨h0, A, C, e, h1⟩ := h
  refine ⟨h0, A, C, e, fun i hi => ?_⟩
  obtain ⟨b, o, cs, e1, e2, e3⟩ := h1 i hi
  cases e3
  refine ⟨b, o, e1, e2.1, ?_⟩
  have := e2.2 0 _ rfl
  simpa using this

/-- The cells of an instruction, given its slices. -/
def loC (x : Lo) (av dv : Value) : List Value := [.int .i64 x.op, .int .i64 x.d, .int .i64 x.a, .int .i64 x.b, .int .i64 x.n, .string x.tx, av, dv]
def LoIn (w : World) (x : Lo) (cs : List Value) : Prop := ∃ av dv, cs = loC x av dv ∧ x.tx.size ≤ maxLen ∧ NosIn w x.args av ∧ NosIn w x.dsts dv
theorem LoIn.below {w w' : World} {x : Lo} {cs : List Value} (h : LoIn w x cs) (k : Below w.heap.size w w') : LoIn w' x cs := by
  obtain ⟨av, dv, e, h0, h1, h2⟩ := h
  exact ⟨av, dv, e, h0, h1.below k, h2.below k⟩

/-- The cells of a block's end, given its slice. -/
def leC (x : Le) (av : Value) : List Value := [.int .i64 x.k, .int .i64 x.a, .int .i64 x.b, .int .i64 x.to, .int .i64 x.el, .string x.tx, av]
def LeIn (w : World) (x : Le) (cs : List Value) : Prop := ∃ av, cs = leC x av ∧ NosIn w x.args av
theorem LeIn.below {w w' : World} {x : Le} {cs : List Value} (h : LeIn w x cs) (k : Below w.heap.size w w') : LeIn w' x cs := by
  obtain ⟨av, e, h1⟩ := h
  exact ⟨av, e, h1.below k⟩

/-- The instructions of a block, as a slice. -/
def LiIn (w : World) (l : List Lo) (v : Value) : Prop := SlIn w 8 LoIn l v
theorem LiIn.below {w w' : World} {l : List Lo} {v : Value} (h : LiIn w l v) (k : Below w.heap.size w w') : LiIn w' l v := SlIn.below h k fun _ _ h => LoIn.below h k

/-- The cells of a block. -/
def LbIn (w : World) (x : Lb) (cs : List Value) : Prop := ∃ lv av, cs = lv :: leC x.tm av ∧ LiIn w x.li lv ∧ NosIn w x.tm.args av
theorem LbIn.below {w w' : World} {x : Lb} {cs : List Value} (h : LbIn w x cs) (k : Below w.heap.size w w') : LbIn w' x cs := by
  obtain ⟨lv, av, e, h1, h2⟩ := h
  exact ⟨lv, av, e, h1.below k, h2.below k⟩

def LbsIn (w : World) (l : List Lb) (v : Value) : Prop := SlIn w 8 LbIn l v
theorem LbsIn.below {w w' : World} {l : List Lb} {v : Value} (h : LbsIn w l v) (k : Below w.heap.size w w') : LbsIn w' l v := SlIn.below h k fun _ _ h => LbIn.below h k

/-- The cells of a function, given its slices. -/
def lfC (x : Lf) (pv bv : Value) : List Value := [.string x.nm, .int .i64 x.rg, pv, .int .i64 x.an, .int .i64 x.fr, .bool x.qu, bv]
def LfIn (w : World) (x : Lf) (cs : List Value) : Prop := ∃ pv bv, cs = lfC x pv bv ∧ x.nm.size ≤ maxLen ∧ NosIn w x.pa pv ∧ LbsIn w x.bs bv
theorem LfIn.below {w w' : World} {x : Lf} {cs : List Value} (h : LfIn w x cs) (k : Below w.heap.size w w') : LfIn w' x cs := by
  obtain ⟨pv, bv, e, h0, h1, h2⟩ := h
  exact ⟨pv, bv, e, h0, h1.below k, h2.below k⟩

theorem RowAt.at {w : World} {b o : Nat} {cs : List Value} (h : RowAt w b o cs) (j : Nat) {v : Value} (e : cs[j]? = some v) : w.cell? ⟨b, o + j, none⟩ = some v := h.2 j v e

def LfsIn (w : World) (l : List Lf) (v : Value) : Prop := SlIn w 7 LfIn l v
theorem LfsIn.below {w w' : World} {l : List Lf} {v : Value} (h : LfsIn w l v) (k : Below w.heap.size w w') : LfsIn w' l v := SlIn.below h k fun _ _ h => LfIn.below h k

end Go.Proofs.YtapgaclonilnbaaDoor

/-
  Proved: when functions in the low form are formed, as plain mathematics; one of several that are formed is so by itself, without its calls of others.
-/
namespace Go.Proofs.YtapgaclonilnbaaDoor

abbrev Tx := List UInt8
def updS (f : Tx → Option Int) (x : Tx) (v : Option Int) : Tx → Option Int := fun y => if y = x then v else f y

/-- A register; one that is read; where an address begins. -/
def rgB (rg r : Int) : Bool := decide (0 ≤ r) && decide (r < rg)
def setsB (rg : Int) (l : List Int) : Bool := l.all (rgB rg)
def rdB (rg r : Int) : Bool := decide (r = -1) || rgB rg r
def readsB (rg : Int) (l : List Int) : Bool := l.all (rdB rg)
def bgB (rg r : Int) : Bool := decide (r = -2) || rdB rg r
def upB (n m : Int) : Bool := decide (0 ≤ n) && decide (n ≤ m)
def fitB (n : Int) (s : Bool) : Bool := if s then decide (0 ≤ n ∧ n ≤ 31) else decide (-2048 ≤ n ∧ n ≤ 2047)

/-- The names of operations, of those with a number, of shifts, of comparisons. -/
def doN : List Tx := [[97,100,100],[115,117,98],[109,117,108],[109,117,108,104],[109,117,108,104,117],[100,105,118],[100,105,118,117],[114,101,109],[114,101,109,117],[97,110,100],[111,114],[120,111,114],[115,108,108],[115,114,108],[115,114,97],[115,108,116],[115,108,116,117]]
def imN : List Tx := [[97,100,100],[97,110,100],[111,114],[120,111,114],[115,108,116],[115,108,116,117]]
def shN : List Tx := [[115,108,108],[115,114,108],[115,114,97]]
def cmN : List Tx := [[101,113],[110,101],[108,116],[103,101],[108,116,117],[103,101,117]]
def doB (s : ByteArray) : Bool := decide (s.toList ∈ doN)
def immB (s : ByteArray) (n : Int) : Bool := if s.toList ∈ imN then fitB n false else if s.toList ∈ shN then fitB n true else false
def cmpB (s : ByteArray) : Bool := decide (s.toList ∈ cmN)

def nmOf (f : Lf) : Tx := f.nm.data.toList
def noF : Lf := ⟨⟨#[]⟩, 0, [], 0, 0, false, []⟩

/-- Where the last function of a name stands. -/
def byN (l : List Lf) (s : Tx) : Option Int := l.zipIdx.foldl (fun o p => if nmOf p.1 = s then some (p.2 : Int) else o) none

theorem byN_snoc (l : List Lf) (f : Lf) : byN (l ++ [f]) = updS (byN l) (nmOf f) (some (l.length : Int)) := by
  funext s
  unfold byN updS
  rw [List.zipIdx_append, List.foldl_append]
  simp
  by_cases h : nmOf f = s
  · simp [h]
  · have h2 : ¬ s = nmOf f := fun e => h e.symm
    simp [h, h2]

theorem byN_take (l : List Lf) (k : Nat) (h : k < l.length) : byN (l.take (k + 1)) = updS (byN (l.take k)) (nmOf l[k]) (some (k : Int)) := by
  rw [List.take_succ_eq_append_getElem h, byN_snoc]
  simp [Nat.min_eq_left (Nat.le_of_lt h)]

theorem byN_some {l : List Lf} {s : Tx} {z : Int} (h : byN l s = some z) : ∃ k : Nat, z = k ∧ ∃ hk : k < l.length, nmOf l[k] = s := by
  have key : ∀ n, n ≤ l.length → ∀ z, byN (l.take n) s = some z → ∃ k : Nat, z = k ∧ ∃ hk : k < n, nmOf (l.getD k noF) = s := by
    intro n
    induction n with
    | zero => intro _ z h; simp [byN] at h
    | succ n ih =>
      intro hn z h
      rw [byN_take l n (by omega)] at h
      unfold updS at h
      split at h
      · cases h
        rename_i e
        exact ⟨n, rfl, by omega, by rw [List.getD_eq_getElem?_getD, List.getElem?_eq_getElem (by omega)]; exact e.symm⟩
      · obtain ⟨k, e, hk, h2⟩ := ih (by omega) z h
        exact ⟨k, e, by omega, h2⟩
  obtain ⟨k, e, hk, h2⟩ := key l.length (Nat.le_refl _) z (by rw [List.take_length]; exact h)
  exact ⟨k, e, hk, by rw [List.getD_eq_getElem?_getD, List.getElem?_eq_getElem hk] at h2; exact h2⟩

/-- How many names the first k have. -/
def cnN (l : List Lf) : Nat → Nat
  | 0 => 0
  | k + 1 => if (byN (l.take k) (nmOf (l.getD k noF))).isSome then cnN l k else cnN l k + 1

theorem cnN_le (l : List Lf) : ∀ k, cnN l k ≤ k
  | 0 => Nat.le_refl _
  | k + 1 => by
    have := cnN_le l k
    unfold cnN
    split <;> omega

theorem cnN_all {l : List Lf} {n : Nat} (h : cnN l n = n) : ∀ k, k < n → byN (l.take k) (nmOf (l.getD k noF)) = none := by
  induction n with
  | zero => intro k hk; omega
  | succ n ih =>
    unfold cnN at h
    have := cnN_le l n
    split at h
    · omega
    · rename_i e
      intro k hk
      by_cases e2 : k = n
      · subst e2; simpa using e
      · exact ih (by omega) k (by omega)

/-- Of unlike names each function is the last of its own. -/
theorem byN_own {l : List Lf} (h : cnN l l.length = l.length) {k : Nat} (hk : k < l.length) : byN l (nmOf l[k]) = some (k : Int) := by
  have key : ∀ n, k < n → n ≤ l.length → byN (l.take n) (nmOf l[k]) = some (k : Int) := by
    intro n
    induction n with
    | zero => intro h; omega
    | succ n ih =>
      intro h1 h2
      rw [byN_take l n (by omega)]
      unfold updS
      by_cases e : k = n
      · subst e; simp
      · have hi := ih (by omega) (by omega)
        have hne : nmOf l[k] ≠ nmOf l[n] := fun e2 => by
          have := cnN_all h n (by omega)
          rw [List.getD_eq_getElem?_getD, List.getElem?_eq_getElem (by omega)] at this
          simp only [Option.getD_some] at this
          rw [← e2, hi] at this
          cases this
        rw [if_neg hne, hi]
  have := key l.length hk (Nat.le_refl _)
  rwa [List.take_length] at this

def callB (l : List Lf) (rg : Int) (x : Lo) : Bool :=
  match byN l x.tx.data.toList with
  | none => false
  | some z => decide (x.args.length = (l.getD z.toNat noF).pa.length) && decide ((x.dsts.length : Int) = (l.getD z.toNat noF).an) && readsB rg x.args && setsB rg x.dsts

def instrB (l : List Lf) (rg : Int) (x : Lo) : Bool :=
  if x.op = 1 ∨ x.op = 9 then rgB rg x.d
  else if x.op = 2 then rgB rg x.d && rdB rg x.a
  else if x.op = 3 then doB x.tx && rgB rg x.d && rdB rg x.a && rdB rg x.b
  else if x.op = 4 then immB x.tx x.n && rgB rg x.d && bgB rg x.a
  else if x.op = 5 then fitB x.n false && rgB rg x.d && bgB rg x.a
  else if x.op = 6 then fitB x.n false && bgB rg x.a && rdB rg x.b
  else if x.op = 7 then callB l rg x
  else if x.op = 8 ∨ x.op = 11 then rdB rg x.a
  else if x.op = 10 then upB x.n 128 && rgB rg x.d
  else false

def toB (nb : Nat) (n : Int) : Bool := decide (0 ≤ n) && decide (n < nb)
def termB (rg an : Int) (nb : Nat) (t : Le) : Bool :=
  if t.k = 1 then toB nb t.to
  else if t.k = 2 then cmpB t.tx && rdB rg t.a && rdB rg t.b && toB nb t.to && toB nb t.el
  else if t.k = 3 then decide ((t.args.length : Int) = an) && readsB rg t.args
  else decide (t.k = 4)

def blockB (l : List Lf) (rg an : Int) (nb : Nat) (b : Lb) : Bool := b.li.all (instrB l rg) && termB rg an nb b.tm
def blocksB (l : List Lf) (f : Lf) : Bool := setsB f.rg f.pa && f.bs.all (blockB l f.rg f.an f.bs.length)
def formB (f : Lf) : Bool := decide (0 < f.bs.length) && upB f.rg 65536 && upB f.fr 65536 && upB f.an 8 && decide (f.pa.length ≤ 8)
/-- Functions are formed. -/
def chk (l : List Lf) : Bool := decide (cnN l l.length = l.length) && l.all formB && l.all (blocksB l)

/-- A call of another one. -/
def othB (f : Lf) (x : Lo) : Bool := decide (x.op = 7) && !decide (x.tx.toList = f.nm.toList)
def strip (f : Lf) (b : Lb) : Lb := ⟨b.li.filter fun x => !othB f x, b.tm⟩
def alone (f : Lf) : Lf := { f with bs := f.bs.map (strip f) }
/-- A call of another one whose registers are none. -/
def wrongB (f : Lf) (x : Lo) : Bool := othB f x && !(readsB f.rg x.args && setsB f.rg x.dsts)

theorem chk_parts {l : List Lf} (h : chk l = true) : cnN l l.length = l.length ∧ (∀ f ∈ l, formB f = true) ∧ ∀ f ∈ l, blocksB l f = true := by
  unfold chk at h
  simp only [Bool.and_eq_true, decide_eq_true_eq, List.all_eq_true] at h
  exact ⟨h.1.1, h.1.2, h.2⟩

theorem all_filter {α : Type} {p q : α → Bool} {l : List α} (h : l.all p = true) : (l.filter q).all p = true := by
  rw [List.all_eq_true] at h ⊢
  intro x hx
  exact h x (List.mem_filter.1 hx).1

theorem bytes_ne {a b : ByteArray} (h : ¬ a.toList = b.toList) : ¬ a.data.toList = b.data.toList := by
  rw [← ByteArray.toList_eq, ← ByteArray.toList_eq]
  exact h
theorem bytes_same {a b : ByteArray} (h : a.toList = b.toList) : a.data.toList = b.data.toList := by
  rw [← ByteArray.toList_eq, ← ByteArray.toList_eq]
  exact h

/-- A call that is formed reads and sets registers. -/
theorem callB_regs {l : List Lf} {rg : Int} {x : Lo} (h : callB l rg x = true) : readsB rg x.args = true ∧ setsB rg x.dsts = true := by
  unfold callB at h
  split at h
  · cases h
  · simp only [Bool.and_eq_true] at h
    exact ⟨h.1.2, h.2⟩

theorem byN_single (f : Lf) (s : Tx) : byN [f] s = if s = nmOf f then some 0 else none := by
  have := congrFun (byN_snoc [] f) s
  simpa [updS, byN] using this

theorem alone_call {l : List Lf} (h1 : cnN l l.length = l.length) {k : Nat} (hk : k < l.length) {x : Lo} (h7 : x.op = 7) (ho : othB l[k] x = false) (hx : callB l l[k].rg x = true) : callB [alone l[k]] l[k].rg x = true := by
  have e : x.tx.toList = l[k].nm.toList := by
    unfold othB at ho
    simpa [h7] using ho
  have e1 : x.tx.data.toList = nmOf l[k] := bytes_same e
  unfold callB at hx ⊢
  rw [e1, byN_own h1 hk] at hx
  rw [e1, byN_single, if_pos (by rfl)]
  simp only [Int.toNat_natCast, List.getD_eq_getElem?_getD, List.getElem?_eq_getElem hk, Option.getD_some] at hx
  simpa [alone] using hx

theorem alone_ok {l : List Lf} (h : chk l = true) {f : Lf} (hf : f ∈ l) : chk [alone f] = true ∧ ∀ b ∈ f.bs, ∀ x ∈ b.li, wrongB f x = false := by
  obtain ⟨h1, h2, h3⟩ := chk_parts h
  have hF := h2 f hf
  have hB := h3 f hf
  obtain ⟨k, hk, rfl⟩ := List.getElem_of_mem hf
  unfold blocksB at hB
  simp only [Bool.and_eq_true, List.all_eq_true] at hB
  constructor
  · unfold chk
    simp only [Bool.and_eq_true, decide_eq_true_eq, List.all_eq_true, List.mem_singleton, forall_eq]
    refine ⟨⟨rfl, ?_⟩, ?_⟩
    · unfold formB at hF ⊢
      simp only [Bool.and_eq_true, decide_eq_true_eq, alone, List.length_map] at hF ⊢
      exact ⟨hF.1, decide_eq_true hF.2⟩
    · unfold blocksB
      simp only [Bool.and_eq_true, List.all_eq_true]
      refine ⟨hB.1, fun b hb => ?_⟩
      obtain ⟨b0, hb0, rfl⟩ := List.mem_map.1 hb
      have := hB.2 b0 hb0
      unfold blockB at this ⊢
      simp only [Bool.and_eq_true, List.all_eq_true] at this ⊢
      refine ⟨fun x hx => ?_, by simpa [strip, alone] using this.2⟩
      have hx2 := List.mem_filter.1 hx
      have hx3 := this.1 x hx2.1
      by_cases h7 : x.op = 7
      · unfold instrB at hx3 ⊢
        simp only [h7] at hx3 ⊢
        simp at hx3 ⊢
        exact alone_call h1 hk h7 (by simpa using hx2.2) hx3
      · unfold instrB at hx3 ⊢
        simp only [h7, if_false] at hx3 ⊢
        exact hx3
  · intro b hb x hx
    have := hB.2 b hb
    unfold blockB at this
    simp only [Bool.and_eq_true, List.all_eq_true] at this
    have hx3 := this.1 x hx
    unfold wrongB
    cases ho : othB l[k] x with
    | false => rfl
    | true =>
      have h7 : x.op = 7 := by
        unfold othB at ho
        simp at ho
        exact ho.1
      unfold instrB at hx3
      simp only [h7] at hx3
      simp at hx3
      have := callB_regs hx3
      simp [this.1, this.2]

end Go.Proofs.YtapgaclonilnbaaDoor

/-
  Proved: a map of numbers by texts, as a function: what is read of it, set in it, and how many it has.
-/
namespace Go.Proofs.YtapgaclonilnbaaDoor
open Go.RowKit Go.Maps Go.WideShapes Go.WideMaps

theorem lawS : Keyed Tryd.prog 9 := string_keyed Tryd.underlying9
theorem zeroSI (w : World) : (zeroValue 3).run Tryd.prog w = .ok (.int .i64 0) w := by kernel_rfl

/-- Block b is a map that reads as f, of n numbers. -/
def MapS (w : World) (b n : Nat) (f : Tx → Option Int) : Prop :=
  ∃ D : DataW Unit, w.ownsMap Tryd.prog 9 (plainElem Tryd.prog 3) b n D ∧ Maps.size D = n ∧ ∀ x, Maps.has D (.string x) = (f x).isSome ∧ D.atKey (.string x) (.lit (.int .i64 0)) = .lit (.int .i64 ((f x).getD 0))

theorem MapS.lt {w : World} {b n : Nat} {f : Tx → Option Int} (h : MapS w b n f) : b < w.heap.size := by
  obtain ⟨D, ⟨es, c, hb, _⟩, _⟩ := h
  exact (Array.getElem?_eq_some_iff.1 hb).1

theorem MapS.stay {w w' : World} {b n : Nat} {f : Tx → Option Int} (h : MapS w b n f) (e : w'.heap[b]? = w.heap[b]?) : MapS w' b n f := by
  obtain ⟨D, ⟨es, c, hb, h1, h2, h3⟩, h4⟩ := h
  exact ⟨D, ⟨es, c, e.trans hb, h1, h2, h3⟩, h4⟩

theorem MapS.below {w w' : World} {b n : Nat} {f : Tx → Option Int} (h : MapS w b n f) (k : Below w.heap.size w w') : MapS w' b n f := h.stay (k.block b h.lt)

theorem MapS.made (w : World) : MapS (w.alloc (.map #[] 0)) w.heap.size 0 (fun _ => none) :=
  ⟨.map [], World.ownsMap_made _ _ _ _, rfl, fun _ => ⟨rfl, rfl⟩⟩

theorem MapS.look2 {w : World} {b n : Nat} {f : Tx → Option Int} (h : MapS w b n f) {x : ByteArray} (hx : x.size ≤ maxLen) : (Instr.lookup 50 (.map (some b)) (.string x) true).run Tryd.prog w = .ok (.tuple #[.int .i64 ((f x.data.toList).getD 0), .bool (f x.data.toList).isSome]) w := by
  obtain ⟨D, h1, _, h2⟩ := h
  obtain ⟨v, ps, hr, hv⟩ := h1.look_ok lawS Tryd.underlying50 (zeroSI w) (plainElem_int Tryd.underlying3 (by decide)) (keyOf_string_mk Tryd.underlying9 hx)
  obtain ⟨c, rfl, hc, _⟩ := plainElem_int_inv Tryd.underlying3 hv
  rw [(h2 x.data.toList).2] at hc
  simp only [Prod.mk.injEq, DataW.lit.injEq, Lit.int.injEq, true_and] at hc
  rw [hr, (h2 x.data.toList).1, hc.1]

theorem MapS.len {w : World} {b n : Nat} {f : Tx → Option Int} (h : MapS w b n f) (ty : TypeId) : (Builtin.len_ #[50] ty #[.map (some b)]).run Tryd.prog w = .ok (.int .i64 (n : Int)) w := by
  obtain ⟨D, h1, h3, h2⟩ := h
  rw [h1.len Tryd.underlying50 ty, h3]

theorem turned_kp {w w' : World} {b : Nat} (h : w.mapTurned w' b) : Kp (fun k => k = b) w w' ∧ w'.heap.size = w.heap.size := by
  obtain ⟨es, c, es', c', hb, rfl⟩ := h
  exact ⟨⟨⟨rfl, rfl, rfl, by simp [ChangeMaps.setBlock], fun k hk => by omega⟩, fun k hk hne => by
    simp only [ChangeMaps.setBlock]
    rw [Array.getElem?_setIfInBounds_ne (fun e => hne e.symm)]⟩, by simp [ChangeMaps.setBlock]⟩

theorem MapS.put {w : World} {b n : Nat} {f : Tx → Option Int} (h : MapS w b n f) {x : ByteArray} {v : Int} (hx : x.size ≤ maxLen) (hv : -9223372036854775808 ≤ v ∧ v ≤ 9223372036854775807) (hn : n ≤ 281474976710656) :
    ∃ w', (Instr.mapUpdate 50 (.map (some b)) (.string x) (.int .i64 v)).run Tryd.prog w = .ok () w' ∧ MapS w' b (if (f x.data.toList).isSome then n else n + 1) (updS f x.data.toList (some v)) ∧ Kp (fun k => k = b) w w' ∧ w'.heap.size = w.heap.size := by
  obtain ⟨D, h1, h3, h2⟩ := h
  obtain ⟨w', hr, ho, ht⟩ := h1.store lawS Tryd.underlying50 (by unfold maxLen; omega) (keyOf_string_mk Tryd.underlying9 hx) (plainElem_int Tryd.underlying3 (WalkArith.wf_i64 hv))
  have hsz := Maps.size_put (k := .string x.data.toList) (h1.tidy lawS) (.lit (.int .i64 v))
  rw [(h2 _).1, h3] at hsz
  obtain ⟨es, c, hb, g1, g2, g3⟩ := ho
  have hle : es.size = Maps.size (D.put (.string x.data.toList) (.lit (.int .i64 v))) := by
    rw [g3]
    simp [Maps.size, length_sorted]
  refine ⟨w', hr, ⟨_, ⟨es, c, hb, g1, ?_, g3⟩, hsz, fun y => ?_⟩, turned_kp ht⟩
  · rw [hle, hsz]
    exact Nat.le_refl _
  · by_cases e : y = x.data.toList
    · subst e
      rw [Maps.has_put_same h1.isMap (show WideAt.IsKeyLit (.string _) from trivial), Maps.atKey_put_same h1.isMap (show WideAt.IsKeyLit (.string _) from trivial)]
      simp [updS]
    · have hne : (Lit.string y) ≠ .string x.data.toList := fun h => e (by injection h)
      rw [Maps.has_put_other hne, Maps.atKey_put_other hne, (h2 y).1, (h2 y).2]
      simp [updS, e]
end Go.Proofs.YtapgaclonilnbaaDoor

/-
  Proved: in a region of which Go leaves the order open a load may be taken first, if all that could come ahead of it leave its cell as it is: what waits for it may turn it.
-/
namespace Go.Proofs.YtapgaclonilnbaaDoor

section
variable {P : Program} {ops : Array Oper} {Q : Exit → Act → World → Prop} {md : Region.Mode}

/-- Whichever comes next: behind operation i stands R i. -/
def anyR (P : Program) (md : Region.Mode) (ops : Array Oper) (Q : Exit → Act → World → Prop) (R : Nat → World → Prop) : Nat → Array Bool → Act → World → Prop
  | 0, l, a, w => Region.ready md ops l = [] ∧ Q .normal a w
  | f + 1, l, a, w => (Region.ready md ops l = [] → Q .normal a w) ∧ ∀ i, i ∈ Region.ready md ops l → wpOp P ops Q i (fun a' w' => R i w' ∧ anyR P md ops Q R f (l.setIfInBounds i true) a' w') a w

variable {R : Nat → World → Prop}

theorem anyR.any {f : Nat} : ∀ {l : Array Bool} {a : Act} {w : World}, anyR P md ops Q R f l a w → wpAny P md ops Q f l a w := by
  induction f with
  | zero => exact fun h => h
  | succ f ih => exact fun h => ⟨h.1, fun i hi => wpOp_mono (fun _ _ k => ih k.2) (h.2 i hi)⟩

/-- One that may come next does so. -/
theorem anyR.next {f : Nat} {l : Array Bool} {a : Act} {w : World} (h : anyR P md ops Q R f l a w) {j : Nat} (hj : j ∈ Region.ready md ops l) : ∃ g, f = g + 1 ∧ wpOp P ops Q j (fun a' w' => R j w' ∧ anyR P md ops Q R g (l.setIfInBounds j true) a' w') a w := by
  cases f with
  | zero =>
    have := h.1
    rw [this] at hj
    cases hj
  | succ g => exact ⟨g, rfl, h.2 j hj⟩

/-- Of two that may come next none waits for the other. -/
theorem not_on {l : Array Bool} {i j : Nat} {oj : Oper} (hi : i ∈ Region.ready md ops l) (hj : j ∈ Region.ready md ops l) (ho : ops[j]? = some oj) : ∀ e ∈ oj.after, Region.binds md e = true → e.on ≠ i := by
  rintro e he hb rfl
  obtain ⟨_, o, h1, h2⟩ := mem_ready.1 hj
  rw [ho] at h1
  cases h1
  have h3 := h2 e he hb
  have h4 := (mem_ready.1 hi).1
  by_cases h : e.on < l.size
  · simp [h] at h3 h4
    rw [h4] at h3
    cases h3
  · simp [Array.getElem?_eq_none (Nat.le_of_not_lt h)] at h3

/-- Who was not listed and does not wait for i has nothing to do with it. -/
def Away (md : Region.Mode) (ops : Array Oper) (i : Nat) (oi : Oper) (l : Array Bool) : Prop :=
  ∀ j oj, ops[j]? = some oj → j ≠ i → l.getD j true = false → (∀ e ∈ oj.after, Region.binds md e = true → e.on ≠ i) → oi.apart ops oj = true

theorem Away.more {i j : Nat} {oi : Oper} {l : Array Bool} (h : Away md ops i oi l) : Away md ops i oi (l.setIfInBounds j true) := by
  intro k ok hk hki hun hno
  by_cases e : j = k
  · subst e
    by_cases hs : j < l.size
    · simp [hs] at hun
    · refine h j ok hk hki ?_ hno
      simp at hun
  · exact h k ok hk hki (by rwa [getD_set_ne true e] at hun) hno

theorem anyR.first {S : World → Prop} {i : Nat} {oi : Oper} {v : Value} (hi : ops[i]? = some oi) (hsel : ∀ (j : Nat) (o : Oper) cs b, ops[j]? = some o → o.op ≠ .select cs b)
    (hQ : ∀ c a w, Q (.panic c) (a.put oi.dst v) w → Q (.panic c) a w) (hRi : ∀ w, S w → R i w) (hR : ∀ j oj, ops[j]? = some oj → (∀ e ∈ oj.after, Region.binds md e = true → e.on ≠ i) → ∀ w, R j w → S w) (f : Nat) :
    ∀ (l : Array Bool) (a : Act) (w : World), Away md ops i oi l → i ∈ Region.ready md ops l → YieldsIf P ops S oi v a → S w → anyR P md ops Q R f (l.setIfInBounds i true) (a.put oi.dst v) w → anyR P md ops Q R (f + 1) l a w := by
  induction f using Nat.strongRecOn with
  | _ f ih =>
    intro l a w hA hr hy hS H
    refine ⟨fun h => (by rw [h] at hr; cases hr), fun j hj => ?_⟩
    by_cases e : j = i
    · subst e
      exact hy.wpOp hi hS ⟨hRi w hS, H⟩
    · obtain ⟨g, rfl, h1⟩ := H.next (ready_mono hj e)
      obtain ⟨hun, oj, ho, _⟩ := mem_ready.1 hj
      have hno := not_on hr hj ho
      have h2 := wpOp_putIf ho (hA j oj ho e hun hno) (fun cs b => hsel i oi cs b hi) (fun cs b => hsel j oj cs b ho) hQ hy h1
      refine wpOp_mono (fun a' w' k => ⟨k.2.1, ?_⟩) h2
      refine ih g (Nat.lt_succ_self g) _ a' w' hA.more (ready_mono hr fun h => e h.symm) k.1 (hR j oj ho hno w' k.2.1) ?_
      have hc : (l.setIfInBounds j true).setIfInBounds i true = (l.setIfInBounds i true).setIfInBounds j true := Array.setIfInBounds_comm _ _ e
      rw [hc]
      exact k.2.2

/-- S is asked behind those that 'need' names. -/
def wpAnyN (P : Program) (md : Region.Mode) (ops : Array Oper) (Q : Exit → Act → World → Prop) (S : World → Prop) (need : Nat → Bool) : Nat → Array Bool → Act → World → Prop := anyR P md ops Q fun i w => need i = true → S w

variable {S : World → Prop} {need : Nat → Bool}

/-- Who does not need it waits. -/
def waits (md : Region.Mode) (ops : Array Oper) (need : Nat → Bool) (i : Nat) : Bool := (List.range ops.size).all fun j => need j || ((ops[j]?).map (·.after.any fun e => Region.binds md e && e.on == i)).getD true

theorem waits_spec {i : Nat} (h : waits md ops need i = true) : ∀ j oj, ops[j]? = some oj → need j = false → ∃ e ∈ oj.after, Region.binds md e = true ∧ e.on = i := by
  intro j oj hj hn
  have hlt : j < ops.size := (Array.getElem?_eq_some_iff.1 hj).1
  have h1 := List.all_eq_true.1 h j (by simpa using hlt)
  rw [hn, hj] at h1
  simp only [Bool.false_or, Option.map_some, Option.getD_some] at h1
  obtain ⟨e, he, h2⟩ := Array.any_eq_true'.1 h1
  simp only [Bool.and_eq_true, beq_iff_eq] at h2
  exact ⟨e, he, h2.1, h2.2⟩

theorem wpAnyN_take {i : Nat} {oi : Oper} {v : Value} {fuel : Nat} {listed : Array Bool} {a : Act} {w : World} (hi : ops[i]? = some oi)
    (hs : Region.noSelect ops = true) (hf : Region.free md ops listed i = true) (hr : (Region.ready md ops listed).contains i = true) (hn : waits md ops need i = true)
    (hQ : ∀ c a w, Q (.panic c) (a.put oi.dst v) w → Q (.panic c) a w) (hy : YieldsIf P ops S oi v a) (hS : S w)
    (h : wpAnyN P md ops Q S need fuel (listed.setIfInBounds i true) (a.put oi.dst v) w) : wpAnyN P md ops Q S need (fuel + 1) listed a w :=
  anyR.first hi (Region.noSelect_spec hs) hQ (fun _ hS _ => hS) (fun j oj ho hno w' hR => hR (by
    cases e : need j with
    | true => rfl
    | false =>
      obtain ⟨x, hx1, hx2, hx3⟩ := waits_spec hn j oj ho e
      exact absurd hx3 (hno x hx1 hx2))) fuel listed a w (Region.free_spec hi hf) (by simpa using hr) hy hS h

theorem tkO {i : Nat} {oi : Oper} {v : Value} {fuel : Nat} {listed : Array Bool} {a : Act} {w : World} (hi : ops[i]? = some oi)
    (hy : YieldsIf P ops S oi v a) (hS : S w) (h : wpAnyN P md ops Q S need fuel (listed.setIfInBounds i true) (a.put oi.dst v) w)
    (hs : Region.noSelect ops = true := by kernel_rfl) (hf : Region.free md ops listed i = true := by kernel_rfl) (hr : (Region.ready md ops listed).contains i = true := by kernel_rfl) (hn : waits md ops need i = true := by kernel_rfl)
    (hQ : ∀ c a w, Q (.panic c) (a.put oi.dst v) w → Q (.panic c) a w := by exact fun _ _ _ h => h) : wpAnyN P md ops Q S need (fuel + 1) listed a w :=
  wpAnyN_take hi hs hf hr hn hQ hy hS h

/-- The one that comes up. -/
theorem wpAnyN_one {i : Nat} {o : Oper} {fuel : Nat} {listed : Array Bool} {a : Act} {w : World} (hr : Region.ready md ops listed = [i]) (ho : ops[i]? = some o)
    (h : ∀ K' : Act → World → Prop, (∀ a w, (need i = true → S w) → wpAnyN P md ops Q S need fuel (listed.setIfInBounds i true) a w → K' a w) → if Region.wanted o (yielded ops a.tmps) = true then Oper.wp P o a w K' Q else K' (a.put o.dst undef) w) : wpAnyN P md ops Q S need (fuel + 1) listed a w := by
  refine ⟨fun h0 => (by rw [hr] at h0; cases h0), fun j hj => ?_⟩
  rw [hr] at hj
  obtain rfl := List.mem_singleton.1 hj
  exact wpOp_step ho (fun K' hK => h K' (fun a w h1 h2 => hK a w ⟨h1, h2⟩))

theorem wpAnyN_done {listed : Array Bool} {a : Act} {w : World} (hr : Region.ready md ops listed = []) (h : Q .normal a w) (fuel : Nat) : wpAnyN P md ops Q S need fuel listed a w := by
  cases fuel with
  | zero => exact ⟨hr, h⟩
  | succ f => exact ⟨fun _ => h, fun i hi => by rw [hr] at hi; cases hi⟩

theorem wp_region_N {id : Nat} {a : Act} {w : World} (S : World → Prop) (need : Nat → Bool) (hm : P.follows .mixedOrders = true) (hS : S w.drew)
    (h : S w.drew → wpAnyN P .any ops Q S need ops.size (Array.replicate ops.size false) a w.drew) : (Code.region id ops true).wp P Q a w :=
  wp_region_any hm (anyR.any (h hS))
end
end Go.Proofs.YtapgaclonilnbaaDoor
