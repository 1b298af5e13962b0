/-
  Proved: an append to a row of types of one's own: the types stand in it, whatever they lead to lying in older memory.
-/
import Derived.Test.YtjdkoahbahecoaaGreatDoorLookP
namespace Go.Proofs.YtjdkoahbahecoaaGreatDoor
open Go.RowKit

theorem info25 : (Tryz.prog.info? 25).map (fun i => (i.zero, i.size, i.bytes)) = some (some (.agg #[.int .i64 0, .string ⟨#[]⟩, .int .i64 0, .slice none 0 0]), 4, 56) := by kernel_rfl

theorem info_parts' {P : Program} {e : TypeId} {z : Value} {a b : Nat} (h : (P.info? e).map (fun i => (i.zero, i.size, i.bytes)) = some (some z, a, b)) : ∃ i, P.info? e = some i ∧ i.zero = some z ∧ i.size = a ∧ i.bytes = b := by
  obtain ⟨i, hi, hzz⟩ := Option.map_eq_some_iff.1 h
  simp only [Prod.mk.injEq] at hzz
  exact ⟨i, hi, hzz.1, hzz.2.1, hzz.2.2⟩

theorem own_block {w : World} {base : Nat} {e : TypeId} {size : Nat} {v : Value} {n : Nat} {xs : List Value} (h : w.ownsRow base e size v n xs) {k : Nat} (hk : v.ownBlock = some k) : base ≤ k := by
  rcases h.2 with ⟨rfl, _⟩ | ⟨g, cap, cur, rfl, hg, _⟩
  · cases hk
  · cases hk; exact hg

theorem owns_below {w wr wz : World} {k : Nat} {v : Value} {xs : List Value} {e : TypeId} {size : Nat} (h2 : wr.ownsRow w.heap.size e size v k xs) (hz : Below wr.heap.size wr wz) : wz.ownsRow w.heap.size e size v k xs := by
  refine ⟨h2.1, ?_⟩
  rcases h2.2 with h4 | ⟨g, cap, cur, e1, e2, e3, e4⟩
  · exact Or.inl h4
  · exact Or.inr ⟨g, cap, cur, e1, e2, (hz.block g (Array.getElem?_eq_some_iff.1 e3).1).trans e3, e4⟩


/-- Types' cells in a row. -/
def C4 (w : World) : List T → List Value → Prop
  | [], xs => xs = []
  | t :: ts, xs => ∃ cs ys, xs = cs ++ ys ∧ TIn w t cs ∧ C4 w ts ys

theorem TIn.len {w : World} {t : T} {cs : List Value} (h : TIn w t cs) : cs.length = 4 := by
  obtain ⟨k, s, n, es⟩ := t
  obtain ⟨A, C, rfl, _⟩ := h.inv
  rfl

theorem TIn.one {w : World} {t : T} {cs : List Value} (h : TIn w t cs) : ∀ u ∈ cs, u.oneCell' = true := by
  obtain ⟨k, s, n, es⟩ := t
  obtain ⟨A, C, rfl, _⟩ := h.inv
  intro u hu
  simp at hu
  rcases hu with rfl | rfl | rfl | rfl <;> rfl

theorem C4.len {w : World} : ∀ {ts : List T} {xs : List Value}, C4 w ts xs → xs.length = ts.length * 4
  | [], xs, h => by rw [show xs = [] from h]; rfl
  | t :: ts, xs, h => by
    obtain ⟨cs, ys, rfl, h1, h2⟩ := h
    rw [List.length_append, h1.len, C4.len h2, List.length_cons]
    omega

theorem C4.one {w : World} : ∀ {ts : List T} {xs : List Value}, C4 w ts xs → ∀ u ∈ xs, u.oneCell' = true
  | [], xs, h => by rw [show xs = [] from h]; intro u hu; cases hu
  | t :: ts, xs, h => by
    obtain ⟨cs, ys, rfl, h1, h2⟩ := h
    intro u hu
    rcases List.mem_append.1 hu with h | h
    · exact h1.one u h
    · exact C4.one h2 u h

theorem C4.append {w : World} {us : List T} {ys : List Value} (hu : C4 w us ys) : ∀ {ts : List T} {xs : List Value}, C4 w ts xs → C4 w (ts ++ us) (xs ++ ys)
  | [], xs, h => by rw [show xs = [] from h]; exact hu
  | t :: ts, xs, h => by
    obtain ⟨cs, zs, rfl, h1, h2⟩ := h
    exact ⟨cs, zs ++ ys, List.append_assoc _ _ _, h1, C4.append hu h2⟩

theorem C4.get {w : World} : ∀ {ts : List T} {xs : List Value}, C4 w ts xs → ∀ i (hi : i < ts.length), ∃ cs, TIn w (ts[i]'hi) cs ∧ ∀ j v, cs[j]? = some v → xs[i * 4 + j]? = some v
  | [], xs, _ => fun i hi => absurd hi (Nat.not_lt_zero _)
  | t :: ts, xs, h => by
    obtain ⟨cs, ys, rfl, h1, h2⟩ := h
    intro i hi
    cases i with
    | zero =>
      refine ⟨cs, h1, fun j v hj => ?_⟩
      have := (List.getElem?_eq_some_iff.1 hj).1
      rw [Nat.zero_mul, Nat.zero_add, List.getElem?_append_left this]
      exact hj
    | succ i =>
      obtain ⟨cs', h3, h4⟩ := C4.get h2 i (by simpa using hi)
      refine ⟨cs', by simpa using h3, fun j v hj => ?_⟩
      rw [List.getElem?_append_right (by rw [h1.len]; omega), h1.len, show (i + 1) * 4 + j - 4 = i * 4 + j by omega]
      exact h4 j v hj

theorem C4.of {w : World} {b : Nat} : ∀ {us : List T} {o : Nat}, (∀ i (hi : i < us.length), ∃ cs, RowAt w b (o + i * 4) cs ∧ TIn w (us[i]'hi) cs) → ∃ ys, C4 w us ys ∧ ∀ j u, ys[j]? = some u → w.cell? ⟨b, o + j, none⟩ = some u
  | [], o, _ => ⟨[], rfl, fun j u h => by simp at h⟩
  | t :: us, o, h => by
    obtain ⟨cs, h1, h2⟩ := h 0 (by simp)
    obtain ⟨ys, h3, h4⟩ := C4.of (us := us) (o := o + 4) (fun i hi => by
      obtain ⟨cs', k1, k2⟩ := h (i + 1) (by simpa using hi)
      refine ⟨cs', ?_, by simpa using k2⟩
      rw [show o + 4 + i * 4 = o + (i + 1) * 4 by omega]
      exact k1)
    refine ⟨cs ++ ys, ⟨cs, ys, rfl, by simpa using h2, h3⟩, fun j u hj => ?_⟩
    by_cases hlt : j < cs.length
    · rw [List.getElem?_append_left hlt] at hj
      have := h1.2 j u hj
      simpa using this
    · rw [List.getElem?_append_right (by omega), h2.len] at hj
      have := h4 _ u hj
      rw [h2.len] at hlt
      rw [show o + 4 + (j - 4) = o + j by omega] at this
      exact this

theorem cells_new (w : World) (cs : List Value) (t : TypeId) : ∀ j u, cs[j]? = some u → (w.alloc (.cells cs.toArray t)).cell? ((⟨w.heap.size, 0, none⟩ : Addr).add j) = some u := by
  intro j u hj
  have e : (⟨w.heap.size, 0, none⟩ : Addr).add j = ⟨w.heap.size, j, none⟩ := by unfold Addr.add; split <;> simp_all
  rw [e]
  exact ((At.new w cs.toArray t).cell j).trans (by simpa using hj)

/-- A row of types, in the making. -/
def LP (w0 : World) (ts : List T) (v : Value) (wr : World) : Prop :=
  Below w0.heap.size w0 wr ∧ ∃ xs, C4 w0 ts xs ∧ wr.ownsRow w0.heap.size 25 4 v ts.length xs

theorem LP.start {w0 wr : World} (h : Below w0.heap.size w0 wr) : LP w0 [] (.slice none 0 0) wr := ⟨h, [], rfl, rfl, Or.inl ⟨rfl, rfl⟩⟩

theorem LP.below {w0 wr wz : World} {ts : List T} {v : Value} (h : LP w0 ts v wr) (hz : Below wr.heap.size wr wz) : LP w0 ts v wz := by
  obtain ⟨h1, xs, h2, h3⟩ := h
  exact ⟨h1.trans (hz.mono h1.size), xs, h2, owns_below h3 hz⟩

theorem LP.done {w0 wr : World} {ts : List T} {v : Value} (h : LP w0 ts v wr) (hl : ts.length ≤ 9223372036854775807) : ∃ A C, v = .slice A ts.length C ∧ TsIn wr ts A := by
  obtain ⟨h1, xs, h2, h3⟩ := h
  rcases h3.2 with ⟨rfl, e⟩ | ⟨g, cap, cur, rfl, _, hg, _, _, _, e7⟩
  · exact ⟨none, 0, by rw [e], hl, fun i hi => absurd hi (by omega)⟩
  · refine ⟨_, _, rfl, hl, fun i hi => ?_⟩
    obtain ⟨cs, k1, k2⟩ := h2.get i hi
    refine ⟨g, 0, cs, rfl, ⟨(Array.getElem?_eq_some_iff.1 hg).1, fun j v hj => ?_⟩, k1.stays h1⟩
    have := k2 j v hj
    have hA : At wr g cur 25 := hg
    rw [hA.cell, show 0 + i * 4 + j = i * 4 + j by omega]
    rw [← e7] at this
    have hlt := (List.getElem?_eq_some_iff.1 this).1
    rw [List.getElem?_take_of_lt (by simp at hlt; omega), Array.getElem?_toList] at this
    exact this

theorem append_none_run (w : World) (base : Nat) (ty : TypeId) (i : TypeInfo) (hi : Tryz.prog.info? 25 = some i)
    (v : Value) (n : Nat) (xs : List Value) (C : Nat) (hown : w.ownsRow base 25 4 v n xs) :
    (Builtin.append_ #[23, 23] ty #[v, .slice none 0 C]).run Tryz.prog w = .ok v w := by
  rcases hown.2 with ⟨rfl, rfl⟩ | ⟨g, cap, cur, rfl, _, _, hnc, _⟩
  · simp [Builtin.append_, run_underlying Tryz.underlying23, sizeOf, typeInfo, hi, Builtin.lenOf, Builtin.firstCells]
  · simp [Builtin.append_, run_underlying Tryz.underlying23, sizeOf, typeInfo, hi, Builtin.lenOf, Builtin.firstCells, hnc, storeCells]

theorem append_ts (w : World) {ops : Array Oper} {rest : List Oper} {o : Oper} {a : Act} {Q : Exit → Act → World → Prop} (hgd : o.guard = none) (s x : Operand)
    (ho : o.op = .call { callee := .builtin .append, args := #[s, x], argTypes := #[23, 23] })
    (v : Value) (hs : a.eval s = v) (w0 : World) (ts us : List T) (hown : LP w0 ts v w) (B : Option Addr) (C : Nat) (ys : List Value) (hu : C4 w0 us ys) (hx : a.eval x = .slice B us.length C)
    (hB : (us.length = 0 ∧ B = none) ∨ ∃ ad, B = some ad ∧ ∀ j u, ys[j]? = some u → w.cell? (ad.add j) = some u) (hl : ts.length + us.length ≤ 1000)
    (h : ∀ v' w', LP w0 (ts ++ us) v' w' → wpList Tryz.prog ops Q rest (a.put o.dst v') w') : wpList Tryz.prog ops Q (o :: rest) a w := by
  obtain ⟨i25, a1, a2, a3, a4⟩ := info_parts' info25
  obtain ⟨h1, xs, h2, h3⟩ := hown
  rcases hB with ⟨e, rfl⟩ | ⟨ad, rfl, hc⟩
  · obtain rfl : us = [] := List.eq_nil_of_length_eq_zero e
    rw [List.append_nil] at h
    refine wpList_plain hgd fun K hK => ?_
    have hrun := append_none_run w w0.heap.size o.type i25 a1 v ts.length xs C h3
    unfold Oper.wp
    simp [execOp, ho, resolve, invoke, builtin, hs, hx, hrun, Result.andThen]
    exact hK _ _ (h _ _ ⟨h1, xs, h2, h3⟩)
  · refine wpList_append_own w hgd s x 23 ho w0.heap.size 25 i25 _ 4 56 Tryz.underlying23 a1 a2 a3 a4 rfl (by decide) v ts.length xs hs h3 ad us.length C ys hx hu.len hc hu.one (by unfold maxLen; omega) (by omega) h1.size fun v' w' k1 k2 _ => h v' w' ?_
    refine ⟨h1.grown k2 h1.size (fun g e => own_block h3 e), xs ++ ys, C4.append hu h2, ?_⟩
    rw [List.length_append]
    exact k1

end Go.Proofs.YtjdkoahbahecoaaGreatDoor
