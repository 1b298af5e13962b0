/-
  Proved: rows of numbers that can be read as data, and that fit memory, lie in memory as plain data do.
-/
import Derived.Test.YtmmgdiecmokipaaGdata
import Derived.Deep.Slices
import Derived.SizedLaws
import Derived.ProofKit
import Derived.OpenShut
namespace Go.Proofs.Ytmmgdiecmokipaa
open Go.RowKit Go.ChangeShapes Go.WideShapes Go.Deep

theorem cellsInt : Try.prog.cellsOf 3 = 1 := by kernel_rfl
theorem cellsInts : Try.prog.cellsOf 28 = 1 := by kernel_rfl
theorem bytesInt : Try.prog.bytesOf 3 = 8 := by kernel_rfl
theorem bytesInts : Try.prog.bytesOf 28 = 24 := by kernel_rfl

theorem addr_add (b o m : Nat) : (⟨b, o, none⟩ : Addr).add m = ⟨b, o + m, none⟩ := by unfold Addr.add; split <;> simp_all

theorem cell_at {w : World} {a : Addr} {v : Value} (h : w.cell? a = some v) : a.spot = none ∧ a.block < w.heap.size := by
  unfold World.cell? at h
  split at h
  · rename_i hh
    refine ⟨?_, (Array.getElem?_eq_some_iff.1 hh).1⟩
    cases hs : a.spot with
    | none => rfl
    | some _ => simp [hs] at h
  · cases h

/-- All that a datum weighs fits. -/
def Wgt {H : Type} (t : TypeId) (d : DataW H) : Prop := ∀ n ∈ d.weights Try.prog t, n ≤ reachBytes

theorem mem_all {H : Type} {P : Program} {e : TypeId} : ∀ {l : List (DataW H)} {d : DataW H}, d ∈ l → ∀ n ∈ d.weights P e, n ∈ DataW.weightsAll P e l
  | d0 :: l, d, hd, n, hn => by
    simp only [DataW.weightsAll, List.mem_append]
    rcases List.mem_cons.1 hd with rfl | h
    · exact Or.inl hn
    · exact Or.inr (mem_all h n hn)

theorem Wgt.field {H : Type} {t : TypeId} {fs : Array Field} (ht : Try.prog.underlying t = some (.struct fs)) {l : List (DataW H)} (h : Wgt t (.agg l)) {i : Nat} {f : Field} {d : DataW H} (hf : fs[i]? = some f) (hd : l[i]? = some d) : Wgt f.type d := fun n hn => h n (by
  have : (DataW.agg l).weights Try.prog t = DataW.weightsEach Try.prog (fs.toList.map (·.type)) l := by simp [DataW.weights, ht]
  rw [this]
  exact DataW.weights_mem_each (by simp [hf]) hd n hn)

theorem Wgt.elem {H : Type} {t e : TypeId} (ht : Try.prog.underlying t = some (.slice e)) {l sp : List (DataW H)} (h : Wgt t (.slice l sp)) : (l.length + sp.length) * Try.prog.bytesOf e ≤ reachBytes ∧ ∀ d ∈ l, Wgt e d := by
  have : (DataW.slice l sp).weights Try.prog t = (l.length + sp.length) * Try.prog.bytesOf e :: (DataW.weightsAll Try.prog e l ++ DataW.weightsAll Try.prog e sp) := by simp [DataW.weights, ht]
  refine ⟨h _ (by rw [this]; exact List.mem_cons_self), fun d hd n hn => h n ?_⟩
  rw [this]
  exact List.mem_cons_of_mem _ (List.mem_append_left _ (mem_all hd n hn))

section
variable {H : Type} {enc : TypeId × Value → H} {w : World} {spare : Nat → Bool} {held : Bool}

/-- The elements of a slice, each by itself: of whatever kind. -/
theorem open_rows {α : Type} (hα : Nonempty α) (good : α → List Value → Prop) {t e : TypeId} {size : Nat} (ht : Try.prog.underlying t = some (.slice e)) (hc : Try.prog.cellsOf e = size) (hs : 0 < size) {fuel : Nat}
    (ih : ∀ m, m < fuel → ∀ cs x, DataW.trod enc Try.prog w 0 spare held m e cs = some x → Wgt e x.1 → ∃ y, good y cs) {cs : List Value} {x : DataW H × List MemPlace} (h : DataW.trod enc Try.prog w 0 spare held fuel t cs = some x) (hR : Wgt t x.1) :
    ∃ (A : Option Addr) (C : Nat) (es : List α), cs = [.slice A es.length C] ∧ es.length ≤ 9223372036854775807 ∧ es.length * Try.prog.bytesOf e ≤ reachBytes ∧
      (∀ i (h : i < es.length), ∃ b o cs', A = some ⟨b, o, none⟩ ∧ RowAt w b (o + i * size) cs' ∧ good (es[i]'h) cs') := by
  rcases DataW.trod_slice ht h with ⟨rfl, rfl⟩ | ⟨a, len, cap, elems, rest, n, rfl, rfl, rfl, hb, hl, hm, hlen, hel, _, _⟩
  · exact ⟨none, 0, [], rfl, by simp, by simp, fun i hi => absurd hi (Nat.not_lt_zero _)⟩
  · obtain ⟨hw, hR⟩ := Wgt.elem ht hR
    have each : ∀ i, i < len → ∃ z : List Value × α, w.cells? 0 (a.add (i * size)) size = some z.1 ∧ good z.2 z.1 := fun i hi => by
      have h1 := hel i hi
      rw [List.getElem?_eq_getElem (by omega), hc] at h1
      obtain ⟨cs', h2, h3⟩ := Option.bind_eq_some_iff.1 h1
      obtain ⟨y, hy⟩ := ih n (by omega) cs' _ h3 (hR _ (List.mem_map.2 ⟨_, List.getElem_mem (by omega), rfl⟩))
      exact ⟨(cs', y), h2, hy⟩
    haveI : Inhabited α := ⟨Classical.choice hα⟩
    obtain ⟨f, hf⟩ := choose_lt each
    refine ⟨some a, cap, (List.range len).map fun i => (f i).2, by simp, ?_, ?_, fun i hi => ?_⟩
    · simp only [maxLen] at hm
      simp
      omega
    · simp only [List.length_map, List.length_range] at hw ⊢
      rw [hlen, Nat.add_mul] at hw
      omega
    · have hi' : i < len := by simpa using hi
      have sp : a.spot = none := by
        obtain ⟨_, h2, h3⟩ := World.cells?_some (hf 0 (by omega)).1
        have h4 := h3 0 hs
        rw [List.getElem?_eq_getElem (by omega)] at h4
        have h5 := (cell_at h4).1
        rw [Nat.zero_mul] at h5
        simpa [Addr.add] using h5
      obtain ⟨b, o, sp'⟩ := a
      cases sp
      obtain ⟨h1, h2⟩ := hf i hi'
      obtain ⟨_, h3, h4⟩ := World.cells?_some h1
      refine ⟨b, o, (f i).1, rfl, ⟨?_, fun j v hj => ?_⟩, by simpa using h2⟩
      · have h5 := h4 0 hs
        rw [List.getElem?_eq_getElem (by omega), addr_add, addr_add] at h5
        exact (cell_at h5).2
      · have hj' : j < size := by
          have := (List.getElem?_eq_some_iff.1 hj).1
          omega
        have h5 := h4 j hj'
        rw [hj, addr_add, addr_add] at h5
        exact h5

theorem reach_len {n b : Nat} (h : n * b ≤ reachBytes) (hb : 8 ≤ b) : n ≤ 281474976710656 := by
  have h1 : n * 8 ≤ n * b := Nat.mul_le_mul_left _ hb
  have h2 : reachBytes ≤ 2251799813685248 := by decide
  omega

theorem open_nums {fuel : Nat} {cs : List Value} {x : DataW H × List MemPlace} (h : DataW.trod enc Try.prog w 0 spare held fuel 28 cs = some x) (hR : Wgt 28 x.1) :
    ∃ (v : Value) (es : List Int), cs = [v] ∧ es.length ≤ 281474976710656 ∧ NumsIn w es v := by
  obtain ⟨A, C, es, e1, _, e2, e3⟩ := open_rows ⟨0⟩ (fun (y : Int) cs => cs = [.int .i64 y]) Try.underlying28 cellsInt (by decide) (fun m _ cs x hx _ => by
    obtain ⟨a, q1, _, _⟩ := DataW.trod_int Try.underlying3 hx
    exact ⟨a, q1⟩) h hR
  rw [bytesInt] at e2
  refine ⟨_, es, e1, reach_len e2 (by decide), A, C, rfl, fun i hi => ?_⟩
  obtain ⟨b, o, cs', q1, q2, q3⟩ := e3 i hi
  subst q3
  have := q2.2 0 _ rfl
  exact ⟨b, o, q1, q2.1, by simpa using this⟩

theorem open_rws {fuel : Nat} {cs : List Value} {x : DataW H × List MemPlace} (h : DataW.trod enc Try.prog w 0 spare held fuel 22 cs = some x) (hR : Wgt 22 x.1) :
    ∃ (v : Value) (to : List (List Int)), cs = [v] ∧ to.length ≤ 281474976710656 ∧ (∀ i (h : i < to.length), (to[i]'h).length ≤ 281474976710656) ∧ RwsIn w to v := by
  obtain ⟨A, C, es, e1, _, e2, e3⟩ := open_rows ⟨([] : List Int)⟩ (fun (y : List Int) cs => ∃ v, cs = [v] ∧ y.length ≤ 281474976710656 ∧ NumsIn w y v) Try.underlying22 cellsInts (by decide) (fun m _ cs x hx hR => by
    obtain ⟨v, es, q1, q2, q3⟩ := open_nums hx hR
    exact ⟨es, v, q1, q2, q3⟩) h hR
  rw [bytesInts] at e2
  refine ⟨_, es, e1, reach_len e2 (by decide), fun i hi => ?_, A, C, rfl, fun i hi => ?_⟩
  · obtain ⟨b, o, cs', q1, q2, v, q3, q4, q5⟩ := e3 i hi
    exact q4
  · obtain ⟨b, o, cs', q1, q2, v, q3, q4, q5⟩ := e3 i hi
    subst q3
    have := q2.2 0 _ rfl
    exact ⟨b, o, v, q1, q2.1, by simpa using this, q5⟩
end

/-- few's sum. -/
def fsum (to : List (List Int)) : Nat → Nat
  | 0 => to.length
  | k + 1 => fsum to k + (to.getD k []).length

theorem fsum_le (to : List (List Int)) (k : Nat) : to.length ≤ fsum to k := by
  induction k with
  | zero => exact Nat.le_refl _
  | succ k ih => simp only [fsum]; omega

theorem fsum_get (to : List (List Int)) (k i : Nat) (hi : i < k) : (to.getD i []).length ≤ fsum to k := by
  induction k with
  | zero => omega
  | succ k ih =>
    simp only [fsum]
    by_cases e : i = k
    · subst e; omega
    · have := ih (by omega)
      omega

set_option maxHeartbeats 1000000 in
theorem few_c (to : List (List Int)) (tv : Value) (w : World) (h : RwsIn w to tv) (hl : to.length ≤ 281474976710656) (hl2 : ∀ i (h : i < to.length), (to[i]'h).length ≤ 281474976710656) :
    Calls Try.prog 7 #[tv] w fun e w' => (e = .returned (.bool true) ∧ Fw to ∨ e = .returned (.bool false)) ∧ w' = w := by
  obtain ⟨A, C, rfl, hr⟩ := h
  have HR : Hid (∀ i (h : i < to.length), ∃ b o u, A = some ⟨b, o, none⟩ ∧ b < w.heap.size ∧ w.cell? ⟨b, o + i, none⟩ = some u ∧ NumsIn w (to[i]'h) u) := hr
  have HL : Hid (∀ i (h : i < to.length), (to[i]'h).length ≤ 281474976710656) := hl2
  clear hr hl2
  go_enter Try.func7, Try.ntmps7
  go_wp2
  go_loopw [3, 4] (fun nv iv wr => ∃ k : Nat, k ≤ to.length ∧ iv = .int .i64 (k : Int) ∧ nv = .int .i64 (fsum to k : Int) ∧ fsum to k ≤ 281474976710856 ∧ wr = w) (fun _ iv _ => to.length - (intOf iv).toNat)
  case atStart => exact ⟨0, by omega, rfl, rfl, by simp only [fsum]; omega, rfl⟩
  case round =>
    obtain ⟨k, hk, rfl, rfl, hb, hwr⟩ := hrel
    rw [hwr]
    clear hwr wr
    have S : Hid (fsum to (k + 1) = fsum to k + (to.getD k []).length) := rfl
    have FL : Hid (fsum to k < 200 → k = to.length → Fw to) := fun h e => ⟨by have := fsum_le to k; omega, fun i hi => by
      have := fsum_get to k i (by omega)
      rw [List.getD_eq_getElem?_getD, List.getElem?_eq_getElem hi] at this
      exact Nat.le_trans this (by omega)⟩
    generalize hF : fsum to k = F at *
    clear hF
    rcases Nat.lt_or_ge k to.length with hk' | hk'
    · have hkz : (k : Int) < to.length := by omega
      by_cases hlt : F < 200
      · have hltz : (F : Int) < 200 := by omega
        obtain ⟨b, o, u, rfl, hb1, hc, A1, C1, rfl, -⟩ := HR.out k hk'
        have hlk := HL.out k hk'
        have S2 : Hid (fsum to (k + 1) = F + to[k].length) := (by rw [S.out, List.getD_eq_getElem?_getD, List.getElem?_eq_getElem hk']; rfl : fsum to (k + 1) = F + to[k].length)
        generalize to[k].length = m at *
        go_wp2
        go_roundw
        case rel => exact ⟨k + 1, by omega, by go_num, by rw [S2.out]; go_num, by rw [S2.out]; omega, trivial⟩
        case measure => simp [intOf]; omega
      · have hltz : ¬ (F : Int) < 200 := by omega
        go_wp2
        go_ret
        exact ⟨Or.inr rfl, rfl⟩
    · have hkz : ¬ (k : Int) < to.length := by omega
      by_cases hlt : F < 200
      · have hltz : (F : Int) < 200 := by omega
        go_wp2
        go_ret
        exact ⟨Or.inl ⟨rfl, FL.out hlt (by omega)⟩, rfl⟩
      · have hltz : ¬ (F : Int) < 200 := by omega
        go_wp2
        go_ret
        exact ⟨Or.inr rfl, rfl⟩
end Go.Proofs.Ytmmgdiecmokipaa
