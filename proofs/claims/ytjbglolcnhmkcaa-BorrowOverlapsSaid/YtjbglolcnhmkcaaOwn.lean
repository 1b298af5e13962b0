/-
  Proved: a row of one's own in the making: what is appended stands behind what stood there; rows of elements in memory.
-/
import Derived.Test.YtjbglolcnhmkcaaFar
import Derived.Laws.AppendOwn
namespace Go.Proofs.Ytjbglolcnhmkcaa
open Go.RowKit

theorem info_parts' {P : Program} {e : TypeId} {z : Value} {a b : Nat} (h : (P.info? e).map (fun i => (i.zero, i.size, i.bytes)) = some (some z, a, b)) : ∃ i, P.info? e = some i ∧ i.zero = some z ∧ i.size = a ∧ i.bytes = b := by
  obtain ⟨i, hi, hzz⟩ := Option.map_eq_some_iff.1 h
  simp only [Prod.mk.injEq] at hzz
  exact ⟨i, hi, hzz.1, hzz.2.1, hzz.2.2⟩

theorem own_block {w : World} {base : Nat} {e : TypeId} {size : Nat} {v : Value} {n : Nat} {xs : List Value} (h : w.ownsRow base e size v n xs) {k : Nat} (hk : v.ownBlock = some k) : base ≤ k := by
  rcases h.2 with ⟨rfl, _⟩ | ⟨g, cap, cur, rfl, hg, _⟩
  · cases hk
  · cases hk; exact hg

theorem owns_below {w wr wz : World} {k : Nat} {v : Value} {xs : List Value} {e : TypeId} {size : Nat} (h2 : wr.ownsRow w.heap.size e size v k xs) (hz : Below wr.heap.size wr wz) : wz.ownsRow w.heap.size e size v k xs := by
  refine ⟨h2.1, ?_⟩
  rcases h2.2 with h4 | ⟨g, cap, cur, e1, e2, e3, e4⟩
  · exact Or.inl h4
  · exact Or.inr ⟨g, cap, cur, e1, e2, (hz.block g (Array.getElem?_eq_some_iff.1 e3).1).trans e3, e4⟩

theorem add_none' (b o m : Nat) : (⟨b, o, none⟩ : Addr).add m = ⟨b, o + m, none⟩ := by unfold Addr.add; split <;> simp_all

theorem cells_new (w : World) (cs : List Value) (t : TypeId) : ∀ j u, cs[j]? = some u → (w.alloc (.cells cs.toArray t)).cell? ((⟨w.heap.size, 0, none⟩ : Addr).add j) = some u := by
  intro j u hj
  rw [add_none', Nat.zero_add]
  exact ((At.new w cs.toArray t).cell j).trans (by simpa using hj)

section
variable {α : Type}

theorem flat_len {enc : α → List Value} {size : Nat} (he : ∀ a, (enc a).length = size) : ∀ l : List α, (l.flatMap enc).length = l.length * size
  | [] => by simp
  | a :: l => by rw [List.flatMap_cons, List.length_append, flat_len he l, he, List.length_cons, Nat.succ_mul]; omega

theorem flat_get {enc : α → List Value} {size : Nat} (he : ∀ a, (enc a).length = size) : ∀ (l : List α) (i : Nat) (h : i < l.length) (j : Nat) (v : Value), (enc (l[i]'h))[j]? = some v → (l.flatMap enc)[i * size + j]? = some v
  | a :: l, 0, _, j, v, hv => by
    have hv : (enc a)[j]? = some v := hv
    have := (List.getElem?_eq_some_iff.1 hv).1
    rw [List.flatMap_cons, Nat.zero_mul, Nat.zero_add, List.getElem?_append_left this]
    exact hv
  | a :: l, i + 1, h, j, v, hv => by
    rw [List.flatMap_cons, List.getElem?_append_right (by rw [he, Nat.succ_mul]; omega), he, show (i + 1) * size + j - size = i * size + j by rw [Nat.succ_mul]; omega]
    exact flat_get he l i (by simpa using h) j v (by simpa using hv)

/-- Elements in a row. -/
def RowsIn (w : World) (size : Nat) (enc : α → List Value) (l : List α) (A : Option Addr) : Prop := ∀ i (h : i < l.length), ∃ b o, A = some ⟨b, o, none⟩ ∧ RowAt w b (o + i * size) (enc (l[i]'h))

theorem RowsIn.below {w w' : World} {size : Nat} {enc : α → List Value} {l : List α} {A : Option Addr} (h : RowsIn w size enc l A) (k : Below w.heap.size w w') : RowsIn w' size enc l A := fun i hi => by
  obtain ⟨b, o, e, h1⟩ := h i hi
  exact ⟨b, o, e, h1.below k⟩

/-- A row in the making. -/
def Own (e : TypeId) (size : Nat) (enc : α → List Value) (w0 : World) (l : List α) (v : Value) (wr : World) : Prop :=
  Below w0.heap.size w0 wr ∧ wr.ownsRow w0.heap.size e size v l.length (l.flatMap enc)

theorem Own.start {e : TypeId} {size : Nat} {enc : α → List Value} {w0 wr : World} (h : Below w0.heap.size w0 wr) : Own e size enc w0 [] (.slice none 0 0) wr := ⟨h, by simp, Or.inl ⟨rfl, rfl⟩⟩

theorem Own.below {e : TypeId} {size : Nat} {enc : α → List Value} {w0 wr wz : World} {l : List α} {v : Value} (h : Own e size enc w0 l v wr) (hz : Below wr.heap.size wr wz) : Own e size enc w0 l v wz :=
  ⟨h.1.trans (hz.mono h.1.size), owns_below h.2 hz⟩

theorem Own.done {e : TypeId} {size : Nat} {enc : α → List Value} {w0 wr : World} {l : List α} {v : Value} (he : ∀ a, (enc a).length = size) (h : Own e size enc w0 l v wr) : ∃ A C, v = .slice A l.length C ∧ RowsIn wr size enc l A := by
  obtain ⟨h1, h3⟩ := h
  rcases h3.2 with ⟨rfl, e0⟩ | ⟨g, cap, cur, rfl, _, hg, _, _, _, e7⟩
  · exact ⟨none, 0, by rw [e0], fun i hi => absurd hi (by omega)⟩
  · refine ⟨_, _, rfl, fun i hi => ⟨g, 0, rfl, (Array.getElem?_eq_some_iff.1 hg).1, fun j v hj => ?_⟩⟩
    have hA : At wr g cur e := hg
    have := flat_get he l i hi j v hj
    rw [hA.cell, show 0 + i * size + j = i * size + j by omega]
    rw [← e7] at this
    have hlt := (List.getElem?_eq_some_iff.1 this).1
    rw [List.getElem?_take_of_lt (by simp at hlt; omega), Array.getElem?_toList] at this
    exact this

/-- One more, at the end. -/
theorem Own.append (t e : TypeId) (enc : α → List Value) (z : Value) (size bytes : Nat) (hinfo : (Try.prog.info? e).map (fun i => (i.zero, i.size, i.bytes)) = some (some z, size, bytes)) (ht : Try.prog.underlying t = some (.slice e)) (hzs : z.cells.size = size) (hsz : 0 < size) (hb : bytes ≤ 1000)
    (he : ∀ a, (enc a).length = size) (hone : ∀ a, ∀ u ∈ enc a, u.oneCell' = true)
    (w : World) {ops : Array Oper} {rest : List Oper} {o : Oper} {a : Act} {Q : Exit → Act → World → Prop} (hgd : o.guard = none) (s x : Operand)
    (ho : o.op = .call { callee := .builtin .append, args := #[s, x], argTypes := #[t, t] })
    (v : Value) (hs : a.eval s = v) (w0 : World) (l m : List α) (hown : Own e size enc w0 l v w) (ad : Addr) (C : Nat) (hx : a.eval x = .slice (some ad) m.length C)
    (hc : ∀ j u, (m.flatMap enc)[j]? = some u → w.cell? (ad.add j) = some u) (hl : l.length + m.length ≤ 100000)
    (h : ∀ v' w', Own e size enc w0 (l ++ m) v' w' → wpList Try.prog ops Q rest (a.put o.dst v') w') : wpList Try.prog ops Q (o :: rest) a w := by
  obtain ⟨i25, a1, a2, a3, a4⟩ := info_parts' hinfo
  obtain ⟨h1, h3⟩ := hown
  have hbytes : (l.length + m.length) * bytes ≤ 140737488355328 := Nat.le_trans (Nat.mul_le_mul hl hb) (by decide)
  refine wpList_append_own w hgd s x t ho w0.heap.size e i25 z size bytes ht a1 a2 a3 a4 hzs hsz v l.length (l.flatMap enc) hs h3 ad m.length C (m.flatMap enc) hx (flat_len he m) hc (fun u hu => ?_) (by unfold maxLen; omega) hbytes h1.size fun v' w' k1 k2 _ => h v' w' ?_
  · obtain ⟨a, _, ha⟩ := List.mem_flatMap.1 hu
    exact hone a u ha
  · refine ⟨h1.grown k2 h1.size (fun g e => own_block h3 e), ?_⟩
    rw [List.length_append, List.flatMap_append]
    exact k1

/-- Nothing more, at the end. -/
theorem Own.append_nil (t e : TypeId) (enc : α → List Value) (z : Value) (size bytes : Nat) (hinfo : (Try.prog.info? e).map (fun i => (i.zero, i.size, i.bytes)) = some (some z, size, bytes)) (ht : Try.prog.underlying t = some (.slice e))
    (w : World) {ops : Array Oper} {rest : List Oper} {o : Oper} {a : Act} {Q : Exit → Act → World → Prop} (hgd : o.guard = none) (s x : Operand)
    (ho : o.op = .call { callee := .builtin .append, args := #[s, x], argTypes := #[t, t] })
    (v : Value) (hs : a.eval s = v) (w0 : World) (l : List α) (hown : Own e size enc w0 l v w) (C : Nat) (hx : a.eval x = .slice none 0 C)
    (h : wpList Try.prog ops Q rest (a.put o.dst v) w) : wpList Try.prog ops Q (o :: rest) a w := by
  obtain ⟨i, hi, a2, a3, a4⟩ := info_parts' hinfo
  obtain ⟨h1, h3⟩ := hown
  have hrun : (Builtin.append_ #[t, t] o.type #[v, .slice none 0 C]).run Try.prog w = .ok v w := by
    rcases h3.2 with ⟨rfl, _⟩ | ⟨g, cap, cur, rfl, _, _, hnc, _⟩
    · simp [Builtin.append_, run_underlying ht, sizeOf, typeInfo, hi, Builtin.lenOf, Builtin.firstCells]
    · simp [Builtin.append_, run_underlying ht, sizeOf, typeInfo, hi, Builtin.lenOf, Builtin.firstCells, hnc, storeCells]
  refine wpList_plain hgd fun K hK => ?_
  unfold Oper.wp
  simp [execOp, ho, resolve, invoke, builtin, hs, hx, hrun, Result.andThen]
  exact hK _ _ h
end

theorem info30 : (Try.prog.info? 30).map (fun i => (i.zero, i.size, i.bytes)) = some (some (.pointer none), 1, 8) := by kernel_rfl
theorem info45 : (Try.prog.info? 45).map (fun i => (i.zero, i.size, i.bytes)) = some (some (.agg #[.int .i64 0, .int .i64 0, .bool false]), 3, 24) := by kernel_rfl
theorem info41 : (Try.prog.info? 41).map (fun i => (i.zero, i.size, i.bytes)) = some (some (.agg #[.int .i64 0, .int .i64 0]), 2, 16) := by kernel_rfl

end Go.Proofs.Ytjbglolcnhmkcaa
