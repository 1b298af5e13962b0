/-
  Proved: what is wanted for Steps: rows that grow, with what stands beside them; the document's step of each kind of tree.
-/
import Derived.Test.YtjbglolcnhmkcaaSteps
namespace Go.Proofs.Ytjbglolcnhmkcaa
open Go.RowKit

theorem At.newS (W : World) (cs : Array Value) (t : TypeId) {g : Nat} (hg : W.heap.size = g) : At (W.alloc (.cells cs t)) g cs t := by
  subst hg
  exact At.new W cs t

theorem At.add {W : World} {B : Nat} {t : TypeId} (cs : List Value) (h : At W B cs.toArray t) : ∀ j u, cs[j]? = some u → W.cell? ((⟨B, 0, none⟩ : Addr).add j) = some u := by
  intro j u hj
  rw [add_none', Nat.zero_add]
  exact (h.cell j).trans (by simpa using hj)

theorem OwnB.fresh {α : Type} {e : TypeId} {size : Nat} {enc : α → List Value} {base g : Nat} {w : World} (h : At w g #[] e) (hg : base ≤ g) : OwnB e size enc base ([] : List α) (.slice (some ⟨g, 0, none⟩) 0 0) w :=
  ⟨Nat.le_of_lt (Nat.lt_of_le_of_lt hg h.lt), by simp, Or.inr ⟨g, 0, #[], rfl, hg, h, Nat.le_refl _, by simp, by simp, by simp⟩⟩

theorem OwnB.appendK {α : Type} (t e : TypeId) (enc : α → List Value) (z : Value) (size bytes : Nat) (hinfo : (Try.prog.info? e).map (fun i => (i.zero, i.size, i.bytes)) = some (some z, size, bytes)) (ht : Try.prog.underlying t = some (.slice e)) (hzs : z.cells.size = size) (hsz : 0 < size) (hb : bytes ≤ 1000)
    (he : ∀ a, (enc a).length = size) (hone : ∀ a, ∀ u ∈ enc a, u.oneCell' = true)
    (w : World) {o : Oper} {a : Act} {K : Act → World → Prop} {Q : Exit → Act → World → Prop} (s x : Operand)
    (ho : o.op = .call { callee := .builtin .append, args := #[s, x], argTypes := #[t, t] })
    (v : Value) (hs : a.eval s = v) (base : Nat) (l m : List α) (hown : OwnB e size enc base l v w) (ad : Addr) (C : Nat) (hx : a.eval x = .slice (some ad) m.length C)
    (hc : ∀ j u, (m.flatMap enc)[j]? = some u → w.cell? (ad.add j) = some u) (hl : l.length + m.length ≤ 100000)
    (h : ∀ v' w', OwnB e size enc base (l ++ m) v' w' → Below base w w' → (∀ k, k < w.heap.size → v.ownBlock ≠ some k → w'.heap[k]? = w.heap[k]?) → K (a.put o.dst v') w') : o.wp Try.prog a w K Q := by
  obtain ⟨i25, a1, a2, a3, a4⟩ := info_parts' hinfo
  obtain ⟨h1, h3⟩ := hown
  have hbytes : (l.length + m.length) * bytes ≤ 140737488355328 := Nat.le_trans (Nat.mul_le_mul hl hb) (by decide)
  refine wp_append_own w s x t ho base e i25 z size bytes ht a1 a2 a3 a4 hzs hsz v l.length (l.flatMap enc) hs h3 ad m.length C (m.flatMap enc) hx (flat_len he m) hc (fun u hu => ?_) (by unfold maxLen; omega) hbytes h1 fun v' w' k1 k2 _ => h v' w' ⟨Nat.le_trans h1 k2.size, ?_⟩ ((Below.refl _ _).grown k2 h1 (fun g e => own_block h3 e)) (fun k hk hne => k2.block k hk (fun e => hne e.symm))
  · obtain ⟨a, _, ha⟩ := List.mem_flatMap.1 hu
    exact hone a u ha
  · rw [List.length_append, List.flatMap_append]
    exact k1

theorem OwnB.append_nil {α : Type} (t e : TypeId) (enc : α → List Value) (z : Value) (size bytes : Nat) (hinfo : (Try.prog.info? e).map (fun i => (i.zero, i.size, i.bytes)) = some (some z, size, bytes)) (ht : Try.prog.underlying t = some (.slice e))
    (w : World) {o : Oper} {a : Act} {K : Act → World → Prop} {Q : Exit → Act → World → Prop} (s x : Operand)
    (ho : o.op = .call { callee := .builtin .append, args := #[s, x], argTypes := #[t, t] })
    (v : Value) (hs : a.eval s = v) (base : Nat) (l : List α) (hown : OwnB e size enc base l v w) (C : Nat) (hx : a.eval x = .slice none 0 C)
    (h : K (a.put o.dst v) w) : o.wp Try.prog a w K Q := by
  obtain ⟨i, hi, a2, a3, a4⟩ := info_parts' hinfo
  obtain ⟨h1, h3⟩ := hown
  have hrun : (Builtin.append_ #[t, t] o.type #[v, .slice none 0 C]).run Try.prog w = .ok v w := by
    rcases h3.2 with ⟨rfl, _⟩ | ⟨g, cap, cur, rfl, _, _, hnc, _⟩
    · simp [Builtin.append_, run_underlying ht, sizeOf, typeInfo, hi, Builtin.lenOf, Builtin.firstCells]
    · simp [Builtin.append_, run_underlying ht, sizeOf, typeInfo, hi, Builtin.lenOf, Builtin.firstCells, hnc, storeCells]
  unfold Oper.wp
  simp [execOp, ho, resolve, invoke, builtin, hs, hx, hrun, Result.andThen]
  exact h

theorem rows_all {α : Type} {w : World} {size : Nat} {enc : α → List Value} (he : ∀ a, (enc a).length = size) {l : List α} {A : Option Addr} (h : RowsIn w size enc l A) (hl : 0 < l.length) : ∃ b o, A = some ⟨b, o, none⟩ ∧ ∀ j u, (l.flatMap enc)[j]? = some u → w.cell? ((⟨b, o, none⟩ : Addr).add j) = some u := by
  obtain ⟨b, o, rfl, _⟩ := h 0 hl
  refine ⟨b, o, rfl, ?_⟩
  have key : ∀ (m : List α) (off : Nat), (∀ i (hi : i < m.length), ∀ j v, (enc (m[i]'hi))[j]? = some v → w.cell? ⟨b, off + i * size + j, none⟩ = some v) → ∀ j u, (m.flatMap enc)[j]? = some u → w.cell? ⟨b, off + j, none⟩ = some u := by
    intro m
    induction m with
    | nil => intro off _ j u hu; simp at hu
    | cons a m ih =>
      intro off hm j u hu
      rw [List.flatMap_cons] at hu
      by_cases hj : j < size
      · rw [List.getElem?_append_left (by rw [he]; exact hj)] at hu
        have := hm 0 (by simp) j u hu
        simpa using this
      · rw [List.getElem?_append_right (by rw [he]; omega), he] at hu
        have := ih (off + size) (fun i hi j v hv => by
          have h2 := hm (i + 1) (by simpa using hi) j v (by simpa using hv)
          rw [show off + (i + 1) * size + j = off + size + i * size + j by rw [Nat.succ_mul]; omega] at h2
          exact h2) (j - size) u hu
        rw [show off + size + (j - size) = off + j by omega] at this
        exact this
  intro j u hu
  rw [add_none']
  refine key l o (fun i hi j v hv => ?_) j u hu
  obtain ⟨b', o', e', h2⟩ := h i hi
  injection e' with e'
  injection e' with e1 e2
  subst e1 e2
  exact h2.2 j v hv

theorem rst_7 (n : Int) (s : ByteArray) (ks : List X) (ts : List T) : rst (.mk 7 n s ks ts) = (4, 0) := by simp [rst]
theorem rst_12 (n : Int) (s : ByteArray) (ks : List X) (ts : List T) : rst (.mk 12 n s ks ts) = (1, n) := by simp [rst]
theorem rst_13a (n : Int) (s : ByteArray) (ks : List X) (ts : List T) (h : ¬ 1 < ks.length) : rst (.mk 13 n s ks ts) = (3, 0) := by
  match ks, h with
  | [], _ => rfl
  | [_], _ => rfl
  | _ :: _ :: _, h => simp at h
theorem rst_13b (n : Int) (s : ByteArray) (ks : List X) (ts : List T) (h : 1 < ks.length) (h2 : ¬ (ks[1]'h).k = 1) : rst (.mk 13 n s ks ts) = (3, 0) := by
  match ks, h, h2 with
  | _ :: e :: _, _, h2 => simp at h2; simp [rst, h2]
theorem rst_13c (n : Int) (s : ByteArray) (ks : List X) (ts : List T) (h : 1 < ks.length) (h2 : (ks[1]'h).k = 1) : rst (.mk 13 n s ks ts) = ((2 : Int), (ks[1]'h).n) := by
  match ks, h, h2 with
  | _ :: e :: _, _, h2 => simp at h2; simp [rst, h2]

end Go.Proofs.Ytjbglolcnhmkcaa
