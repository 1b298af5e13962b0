/-
  Proved: lines that can be read as data lie in memory as plain data do, with no less room than they are.
-/
import Derived.Test.YtcdeckbobabdkaaAopen
namespace Go.Proofs.Ytcdeckbobabdkaa
open Go.RowKit Go.ChangeShapes Go.WideShapes Go.Deep
set_option linter.unusedVariables false
set_option maxRecDepth 20000

section
variable {H : Type} {enc : TypeId × Value → H} {w : World} {spare : Nat → Bool} {held : Bool}

/-- The elements of a slice, each by itself: of whatever kind. -/
theorem open_rows2 {α : Type} (hα : Nonempty α) (good : α → List Value → Prop) {t e : TypeId} {size : Nat} (ht : Try.prog.underlying t = some (.slice e)) (hc : Try.prog.cellsOf e = size) (hs : 0 < size) {fuel : Nat}
    (ih : ∀ m, m < fuel → ∀ cs x, DataW.trod enc Try.prog w 0 spare held m e cs = some x → Wgt e x.1 → ∃ y, good y cs) {cs : List Value} {x : DataW H × List MemPlace} (h : DataW.trod enc Try.prog w 0 spare held fuel t cs = some x) (hR : Wgt t x.1) :
    ∃ (A : Option Addr) (C : Nat) (es : List α), cs = [.slice A es.length C] ∧ (es.length ≤ C ∧ (A = none → C = 0)) ∧ es.length ≤ 9223372036854775807 ∧ es.length * Try.prog.bytesOf e ≤ reachBytes ∧
      (∀ i (h : i < es.length), ∃ b o cs', A = some ⟨b, o, none⟩ ∧ RowAt w b (o + i * size) cs' ∧ good (es[i]'h) cs') := by
  rcases DataW.trod_slice ht h with ⟨rfl, rfl⟩ | ⟨a, len, cap, elems, rest, n, rfl, rfl, rfl, hb, hl, hm, hlen, hel, _, _⟩
  · exact ⟨none, 0, [], rfl, ⟨by simp, fun _ => rfl⟩, by simp, by simp, fun i hi => absurd hi (Nat.not_lt_zero _)⟩
  · obtain ⟨hw, hR⟩ := Wgt.elem ht hR
    have each : ∀ i, i < len → ∃ z : List Value × α, w.cells? 0 (a.add (i * size)) size = some z.1 ∧ good z.2 z.1 := fun i hi => by
      have h1 := hel i hi
      rw [List.getElem?_eq_getElem (by omega), hc] at h1
      obtain ⟨cs', h2, h3⟩ := Option.bind_eq_some_iff.1 h1
      obtain ⟨y, hy⟩ := ih n (by omega) cs' _ h3 (hR _ (List.mem_map.2 ⟨_, List.getElem_mem (by omega), rfl⟩))
      exact ⟨(cs', y), h2, hy⟩
    haveI : Inhabited α := ⟨Classical.choice hα⟩
    obtain ⟨f, hf⟩ := choose_lt each
    refine ⟨some a, cap, (List.range len).map fun i => (f i).2, by simp, ⟨by simp; omega, fun h => by cases h⟩, ?_, ?_, fun i hi => ?_⟩
    · simp only [maxLen] at hm
      simp
      omega
    · simp only [List.length_map, List.length_range] at hw ⊢
      rw [hlen, Nat.add_mul] at hw
      omega
    · have hi' : i < len := by simpa using hi
      have sp : a.spot = none := by
        obtain ⟨_, h2, h3⟩ := World.cells?_some (hf 0 (by omega)).1
        have h4 := h3 0 hs
        rw [List.getElem?_eq_getElem (by omega)] at h4
        have h5 := (cell_at h4).1
        rw [Nat.zero_mul] at h5
        simpa [Addr.add] using h5
      obtain ⟨b, o, sp'⟩ := a
      cases sp
      obtain ⟨h1, h2⟩ := hf i hi'
      obtain ⟨_, h3, h4⟩ := World.cells?_some h1
      refine ⟨b, o, (f i).1, rfl, ⟨?_, fun j v hj => ?_⟩, by simpa using h2⟩
      · have h5 := h4 0 hs
        rw [List.getElem?_eq_getElem (by omega), addr_add, addr_add] at h5
        exact (cell_at h5).2
      · have hj' : j < size := by
          have := (List.getElem?_eq_some_iff.1 hj).1
          omega
        have h5 := h4 j hj'
        rw [hj, addr_add, addr_add] at h5
        exact h5

/-- Lines as an argument, with room. -/
def LsC (w : World) (es : List Ln) (v : Value) : Prop := ∃ A C, v = .slice A es.length C ∧ es.length ≤ C ∧ (A = none → C = 0) ∧ RowsIn w 8 lnC es A ∧ ∀ y ∈ es, LOk y

theorem open_Lc {fuel : Nat} {cs : List Value} {x : DataW H × List MemPlace} (h : DataW.trod enc Try.prog w 0 spare held fuel 22 cs = some x) (hR : Wgt 22 x.1) : ∃ (v : Value) (es : List Ln), cs = [v] ∧ LsC w es v := by
  obtain ⟨A, C, es, e1, e0, _, e2, e3⟩ := open_rows2 ⟨(⟨0, ⟨#[]⟩, ⟨0, 0, 0, 0⟩, ⟨#[]⟩, 0⟩ : Ln)⟩ (fun (y : Ln) cs => cs = lnC y ∧ LOk y) Try.underlying22 cellsAsm (by decide) (fun m _ cs x hx hw => open_Ln hx hw) h hR
  refine ⟨_, es, e1, A, C, rfl, e0.1, e0.2, fun i hi => ?_, fun m hm => ?_⟩
  · obtain ⟨b, o, cs', k1, k2, k3, _⟩ := e3 i hi
    rw [k3] at k2
    exact ⟨b, o, k1, k2⟩
  · obtain ⟨i, hi, rfl⟩ := List.getElem_of_mem hm
    obtain ⟨b, o, cs', k1, k2, k3, k4⟩ := e3 i hi
    exact k4
end

/-- A beginning of them. -/
theorem rows_take {α : Type} {w : World} {size : Nat} {enc : α → List Value} {l : List α} {A : Option Addr} (h : RowsIn w size enc l A) (n : Nat) : RowsIn w size enc (l.take n) A := fun i hi => by
  have hi2 : i < l.length := by rw [List.length_take] at hi; omega
  obtain ⟨b, o, e, h1⟩ := h i hi2
  exact ⟨b, o, e, by rw [List.getElem_take]; exact h1⟩
/-- What is behind it. -/
theorem rows_drop {α : Type} {w : World} {size b o : Nat} {enc : α → List Value} {l : List α} (h : RowsIn w size enc l (some ⟨b, o, none⟩)) (n : Nat) : RowsIn w size enc (l.drop n) (some ⟨b, o + n * size, none⟩) := fun i hi => by
  have hi2 : n + i < l.length := by rw [List.length_drop] at hi; omega
  obtain ⟨b', o', e, h1⟩ := h (n + i) hi2
  cases e
  refine ⟨b, o + n * size, rfl, ?_⟩
  rw [List.getElem_drop, show o + n * size + i * size = o + (n + i) * size by rw [Nat.add_mul]; omega]
  exact h1
end Go.Proofs.Ytcdeckbobabdkaa
