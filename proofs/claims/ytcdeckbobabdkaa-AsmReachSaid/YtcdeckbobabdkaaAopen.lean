/-
  Proved: lines that can be read as data, and that fit memory, lie in memory as plain data do.
-/
import Derived.Test.YtcdeckbobabdkaaAasm
import Derived.Test.YtcdeckbobabdkaaIopen
import Derived.Deep.Slices
import Derived.SizedLaws
import Derived.ProofKit
import Derived.OpenShut
namespace Go.Proofs.Ytcdeckbobabdkaa
open Go.RowKit Go.ChangeShapes Go.WideShapes Go.Deep
set_option linter.unusedVariables false
set_option maxRecDepth 20000

theorem cellsAsm : Try.prog.cellsOf 30 = 8 := by kernel_rfl


theorem addr_add (b o m : Nat) : (⟨b, o, none⟩ : Addr).add m = ⟨b, o + m, none⟩ := by unfold Addr.add; split <;> simp_all

theorem cell_at {w : World} {a : Addr} {v : Value} (h : w.cell? a = some v) : a.spot = none ∧ a.block < w.heap.size := by
  unfold World.cell? at h
  split at h
  · rename_i hh
    refine ⟨?_, (Array.getElem?_eq_some_iff.1 hh).1⟩
    cases hs : a.spot with
    | none => rfl
    | some _ => simp [hs] at h
  · cases h

theorem mem_all {H : Type} {P : Program} {e : TypeId} : ∀ {l : List (DataW H)} {d : DataW H}, d ∈ l → ∀ n ∈ d.weights P e, n ∈ DataW.weightsAll P e l
  | d0 :: l, d, hd, n, hn => by
    simp only [DataW.weightsAll, List.mem_append]
    rcases List.mem_cons.1 hd with rfl | h
    · exact Or.inl hn
    · exact Or.inr (mem_all h n hn)

theorem Wgt.field {H : Type} {t : TypeId} {fs : Array Field} (ht : Try.prog.underlying t = some (.struct fs)) {l : List (DataW H)} (h : Wgt t (.agg l)) {i : Nat} {f : Field} {d : DataW H} (hf : fs[i]? = some f) (hd : l[i]? = some d) : Wgt f.type d := fun n hn => h n (by
  have : (DataW.agg l).weights Try.prog t = DataW.weightsEach Try.prog (fs.toList.map (·.type)) l := by simp [DataW.weights, ht]
  rw [this]
  exact DataW.weights_mem_each (by simp [hf]) hd n hn)

theorem Wgt.elem {H : Type} {t e : TypeId} (ht : Try.prog.underlying t = some (.slice e)) {l sp : List (DataW H)} (h : Wgt t (.slice l sp)) : (l.length + sp.length) * Try.prog.bytesOf e ≤ reachBytes ∧ ∀ d ∈ l, Wgt e d := by
  have : (DataW.slice l sp).weights Try.prog t = (l.length + sp.length) * Try.prog.bytesOf e :: (DataW.weightsAll Try.prog e l ++ DataW.weightsAll Try.prog e sp) := by simp [DataW.weights, ht]
  refine ⟨h _ (by rw [this]; exact List.mem_cons_self), fun d hd n hn => h n ?_⟩
  rw [this]
  exact List.mem_cons_of_mem _ (List.mem_append_left _ (mem_all hd n hn))

section
variable {H : Type} {enc : TypeId × Value → H} {w : World} {spare : Nat → Bool} {held : Bool}

/-- The elements of a slice, each by itself: of whatever kind. -/
theorem open_rows {α : Type} (hα : Nonempty α) (good : α → List Value → Prop) {t e : TypeId} {size : Nat} (ht : Try.prog.underlying t = some (.slice e)) (hc : Try.prog.cellsOf e = size) (hs : 0 < size) {fuel : Nat}
    (ih : ∀ m, m < fuel → ∀ cs x, DataW.trod enc Try.prog w 0 spare held m e cs = some x → Wgt e x.1 → ∃ y, good y cs) {cs : List Value} {x : DataW H × List MemPlace} (h : DataW.trod enc Try.prog w 0 spare held fuel t cs = some x) (hR : Wgt t x.1) :
    ∃ (A : Option Addr) (C : Nat) (es : List α), cs = [.slice A es.length C] ∧ es.length ≤ 9223372036854775807 ∧ es.length * Try.prog.bytesOf e ≤ reachBytes ∧
      (∀ i (h : i < es.length), ∃ b o cs', A = some ⟨b, o, none⟩ ∧ RowAt w b (o + i * size) cs' ∧ good (es[i]'h) cs') := by
  rcases DataW.trod_slice ht h with ⟨rfl, rfl⟩ | ⟨a, len, cap, elems, rest, n, rfl, rfl, rfl, hb, hl, hm, hlen, hel, _, _⟩
  · exact ⟨none, 0, [], rfl, by simp, by simp, fun i hi => absurd hi (Nat.not_lt_zero _)⟩
  · obtain ⟨hw, hR⟩ := Wgt.elem ht hR
    have each : ∀ i, i < len → ∃ z : List Value × α, w.cells? 0 (a.add (i * size)) size = some z.1 ∧ good z.2 z.1 := fun i hi => by
      have h1 := hel i hi
      rw [List.getElem?_eq_getElem (by omega), hc] at h1
      obtain ⟨cs', h2, h3⟩ := Option.bind_eq_some_iff.1 h1
      obtain ⟨y, hy⟩ := ih n (by omega) cs' _ h3 (hR _ (List.mem_map.2 ⟨_, List.getElem_mem (by omega), rfl⟩))
      exact ⟨(cs', y), h2, hy⟩
    haveI : Inhabited α := ⟨Classical.choice hα⟩
    obtain ⟨f, hf⟩ := choose_lt each
    refine ⟨some a, cap, (List.range len).map fun i => (f i).2, by simp, ?_, ?_, fun i hi => ?_⟩
    · simp only [maxLen] at hm
      simp
      omega
    · simp only [List.length_map, List.length_range] at hw ⊢
      rw [hlen, Nat.add_mul] at hw
      omega
    · have hi' : i < len := by simpa using hi
      have sp : a.spot = none := by
        obtain ⟨_, h2, h3⟩ := World.cells?_some (hf 0 (by omega)).1
        have h4 := h3 0 hs
        rw [List.getElem?_eq_getElem (by omega)] at h4
        have h5 := (cell_at h4).1
        rw [Nat.zero_mul] at h5
        simpa [Addr.add] using h5
      obtain ⟨b, o, sp'⟩ := a
      cases sp
      obtain ⟨h1, h2⟩ := hf i hi'
      obtain ⟨_, h3, h4⟩ := World.cells?_some h1
      refine ⟨b, o, (f i).1, rfl, ⟨?_, fun j v hj => ?_⟩, by simpa using h2⟩
      · have h5 := h4 0 hs
        rw [List.getElem?_eq_getElem (by omega), addr_add, addr_add] at h5
        exact (cell_at h5).2
      · have hj' : j < size := by
          have := (List.getElem?_eq_some_iff.1 hj).1
          omega
        have h5 := h4 j hj'
        rw [hj, addr_add, addr_add] at h5
        exact h5

theorem reach_len {n b : Nat} (h : n * b ≤ reachBytes) (hb : 8 ≤ b) : n ≤ 281474976710656 := by
  have h1 : n * 8 ≤ n * b := Nat.mul_le_mul_left _ hb
  have h2 : reachBytes ≤ 2251799813685248 := by decide
  omega

/-- Lines as an argument. -/
def LsA (w : World) (es : List Ln) (v : Value) : Prop := LsIn w es v ∧ ∀ y ∈ es, LOk y

theorem open_Ln {fuel : Nat} {cs : List Value} {x : DataW H × List MemPlace} (h : DataW.trod enc Try.prog w 0 spare held fuel 30 cs = some x) (hR : Wgt 30 x.1) : ∃ y : Ln, cs = lnC y ∧ LOk y := by
  obtain ⟨xs, n, rfl, rfl, hl, hlen, hf⟩ := DataW.trod_struct Try.underlying30 h
  rw [cellsAsm] at hl
  have hlen : xs.length = 4 := hlen
  match cs, hl with
  | [c0, c1, c2, c3, c4, c5, c6, c7], _ =>
  match xs, hlen with
  | [y0, y1, y2, y3], _ =>
  have f0 : DataW.trod enc Try.prog w 0 spare held n 3 (([c0, c1, c2, c3, c4, c5, c6, c7].drop 0).take (Try.prog.cellsOf 3)) = some y0 := hf 0 _ rfl
  rw [cellsInt] at f0
  have f1 : DataW.trod enc Try.prog w 0 spare held n 28 (([c0, c1, c2, c3, c4, c5, c6, c7].drop 1).take (Try.prog.cellsOf 28)) = some y1 := hf 1 _ rfl
  rw [cellsIns] at f1
  have f2 : DataW.trod enc Try.prog w 0 spare held n 9 (([c0, c1, c2, c3, c4, c5, c6, c7].drop 6).take (Try.prog.cellsOf 9)) = some y2 := hf 2 _ rfl
  rw [cellsStr] at f2
  have f3 : DataW.trod enc Try.prog w 0 spare held n 3 (([c0, c1, c2, c3, c4, c5, c6, c7].drop 7).take (Try.prog.cellsOf 3)) = some y3 := hf 3 _ rfl
  rw [cellsInt] at f3
  obtain ⟨a0, e0, _, _⟩ := DataW.trod_int Try.underlying3 f0
  have R1 : Wgt 28 y1.1 := Wgt.field Try.underlying30 hR (i := 1) rfl rfl
  obtain ⟨q, e1, hq⟩ := open_In f1 R1
  obtain ⟨a2, e2, z2⟩ := DataW.trod_string Try.underlying9 f2
  obtain ⟨a3, e3, _, _⟩ := DataW.trod_int Try.underlying3 f3
  simp [insC] at e0 e1 e2 e3
  obtain ⟨e10, e11, e12, e13, e14⟩ := e1
  subst e0 e2 e3 e10 e11 e12 e13 e14
  exact ⟨⟨a0, q.s, q.i, a2, a3⟩, rfl, hq, z2.2⟩

theorem open_Ls {fuel : Nat} {cs : List Value} {x : DataW H × List MemPlace} (h : DataW.trod enc Try.prog w 0 spare held fuel 22 cs = some x) (hR : Wgt 22 x.1) : ∃ (v : Value) (es : List Ln), cs = [v] ∧ LsA w es v := by
  obtain ⟨A, C, es, e1, _, e2, e3⟩ := open_rows ⟨(⟨0, ⟨#[]⟩, ⟨0, 0, 0, 0⟩, ⟨#[]⟩, 0⟩ : Ln)⟩ (fun (y : Ln) cs => cs = lnC y ∧ LOk y) Try.underlying22 cellsAsm (by decide) (fun m _ cs x hx hw => open_Ln hx hw) h hR
  refine ⟨_, es, e1, ⟨A, C, rfl, fun i hi => ?_⟩, fun m hm => ?_⟩
  · obtain ⟨b, o, cs', k1, k2, k3, _⟩ := e3 i hi
    rw [k3] at k2
    exact ⟨b, o, k1, k2⟩
  · obtain ⟨i, hi, rfl⟩ := List.getElem_of_mem hm
    obtain ⟨b, o, cs', k1, k2, k3, k4⟩ := e3 i hi
    exact k4
end
end Go.Proofs.Ytcdeckbobabdkaa
