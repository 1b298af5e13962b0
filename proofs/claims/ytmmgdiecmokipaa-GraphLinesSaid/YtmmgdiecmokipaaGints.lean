/-
  Proved: two rows of numbers are held against each other.
-/
import Derived.Test.YtmmgdiecmokipaaGdoms
import Derived.Test.YtmmgdiecmokipaaGopen
namespace Go.Proofs.Ytmmgdiecmokipaa
open Go.RowKit

theorem ON.nums {base : Nat} {l : List Nat} {v : Value} {w : World} (h : ON base l v w) : NumsIn w (l.map fun x : Nat => (x : Int)) v := by
  obtain ⟨A, C, e, h1⟩ := h.shape
  refine ⟨A, C, by rw [List.length_map]; exact e, fun i hi => ?_⟩
  have hi' : i < l.length := by simpa using hi
  obtain ⟨B, e1, e2, e3, e4, e5⟩ := h1 (by omega)
  exact ⟨B, 0, e1, e3, by simpa using e5 i hi'⟩

theorem OZ.nums {base : Nat} {l : List Int} {v : Value} {w : World} (h : OZ base l v w) : NumsIn w l v := by
  obtain ⟨A, C, e, h1⟩ := h.shape
  refine ⟨A, C, e, fun i hi => ?_⟩
  obtain ⟨B, e1, e2, e3, e4, e5⟩ := h1 (by omega)
  exact ⟨B, 0, e1, e3, by simpa using e5 i hi⟩

theorem below_drN (w : World) (n : Nat) : Below w.heap.size w (w.drewN n) := drew_below (Below.refl _ _) n

/-- Alike from k on. -/
theorem drop_eq_step {a b : List Int} {k : Nat} (ha : k < a.length) (hb : k < b.length) : (a.drop k = b.drop k) ↔ a[k] = b[k] ∧ a.drop (k + 1) = b.drop (k + 1) := by
  rw [List.drop_eq_getElem_cons ha, List.drop_eq_getElem_cons hb, List.cons.injEq]

set_option maxHeartbeats 1000000 in
theorem ints_c (a b : List Int) (va vb : Value) (w : World) (ha : NumsIn w a va) (hb : NumsIn w b vb) (hl : a.length ≤ 1000000) :
    Calls Try.prog 12 #[va, vb] w fun e w' => e = .returned (.bool (decide (a = b))) ∧ Below w.heap.size w w' := by
  obtain ⟨A, C, rfl, h1⟩ := ha
  obtain ⟨B, D, rfl, h2⟩ := hb
  have H1 : Hid (∀ i (h : i < a.length), ∃ b o, A = some ⟨b, o, none⟩ ∧ b < w.heap.size ∧ w.cell? ⟨b, o + i, none⟩ = some (.int .i64 (a[i]'h))) := h1
  have H2 : Hid (∀ i (h : i < b.length), ∃ c o, B = some ⟨c, o, none⟩ ∧ c < w.heap.size ∧ w.cell? ⟨c, o + i, none⟩ = some (.int .i64 (b[i]'h))) := h2
  clear h1 h2
  by_cases hlen : a.length = b.length
  · have hlz : ((a.length : Int) != (b.length : Int)) = false := by simp [hlen]
    have HLE : Hid (a.length = b.length) := hlen
    have hbl : b.length ≤ 1000000 := by omega
    clear hlen
    generalize hR : decide (a = b) = R
    go_enter Try.func12, Try.ntmps12
    go_wp2
    go_loopw [5] (fun iv wr => ∃ k : Nat, k ≤ a.length ∧ iv = .int .i64 (k : Int) ∧ decide (a.drop k = b.drop k) = R ∧ Below w.heap.size w wr) (fun iv _ => a.length - (intOf iv).toNat)
    case atStart => exact ⟨0, by omega, rfl, by simpa using hR, Below.refl _ _⟩
    case round =>
      obtain ⟨k, hk, rfl, hr, hB⟩ := hrel
      have RK : Hid (decide (a.drop k = b.drop k) = R) := hr
      have NN : Hid (Below w.heap.size w wr) := hB
      clear hr hR hB
      rcases Nat.lt_or_ge k a.length with hk' | hk'
      · have hkz : (k : Int) < a.length := by omega
        have hkb : k < b.length := by have := HLE.out; omega
        have hkbz : (k : Int) < b.length := by omega
        obtain ⟨b1, o1, rfl, hb1, hc1⟩ := H1.out k hk'
        obtain ⟨b2, o2, rfl, hb2, hc2⟩ := H2.out k hkb
        have c1 := (NN.out.cell (p := ⟨b1, o1 + k, none⟩) hb1).trans hc1
        have c2 := (NN.out.cell (p := ⟨b2, o2 + k, none⟩) hb2).trans hc2
        have S := drop_eq_step hk' hkb
        have SH : Hid ((a.drop k = b.drop k) ↔ a[k] = b[k] ∧ a.drop (k + 1) = b.drop (k + 1)) := S
        clear hc1 hc2 S
        generalize a[k] = x at *
        generalize b[k] = y at *
        by_cases hxy : x = y
        · have R2 : Hid (decide (a.drop (k + 1) = b.drop (k + 1)) = R) := (by rw [← RK.out]; exact decide_eq_decide.2 ⟨fun h => SH.out.2 ⟨hxy, h⟩, fun h => (SH.out.1 h).2⟩ : decide (a.drop (k + 1) = b.drop (k + 1)) = R)
          have hq : (x != y) = false := by simp [hxy]
          clear hxy
          go_wp2
          go_quiet (fail)
          go_wp2
          go_roundw
          case rel => exact ⟨k + 1, by omega, by go_num, R2.out, drew_below NN.out _⟩
          case measure => simp [intOf]; omega
        · have R2 : R = false := by rw [← RK.out]; exact decide_eq_false fun h => hxy (SH.out.1 h).1
          have hq : (x != y) = true := by simp [hxy]
          subst R2
          go_wp2
          go_quiet (fail)
          go_wp2
          go_ret
          exact ⟨rfl, drew_below NN.out _⟩
      · have hkz : ¬ (k : Int) < a.length := by omega
        have R2 : R = true := by rw [← RK.out, List.drop_of_length_le hk', List.drop_of_length_le (by have := HLE.out; omega)]; simp
        subst R2
        go_wp2
        go_ret
        exact ⟨rfl, NN.out⟩
  · have hlz : ((a.length : Int) != (b.length : Int)) = true := by simp; omega
    have R2 : decide (a = b) = false := decide_eq_false fun h => hlen (by rw [h])
    rw [R2]
    go_enter Try.func12, Try.ntmps12
    go_wp2
    go_ret
    exact ⟨rfl, Below.refl _ _⟩
end Go.Proofs.Ytmmgdiecmokipaa
