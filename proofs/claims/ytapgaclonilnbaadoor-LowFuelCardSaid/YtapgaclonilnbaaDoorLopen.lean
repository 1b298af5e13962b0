/-
  Proved: functions in the low form that can be read as data, and that fit memory, lie in memory as plain data do.
-/
import Derived.Test.YtapgaclonilnbaaDoorLms
import Derived.Deep.Slices
import Derived.SizedLaws
import Derived.ProofKit
import Derived.OpenShut
set_option linter.unusedVariables false
set_option maxRecDepth 20000
namespace Go.Proofs.YtapgaclonilnbaaDoor
open Go.RowKit Go.ChangeShapes Go.WideShapes Go.Deep

theorem cellsInt : Tryd.prog.cellsOf 3 = 1 := by kernel_rfl
theorem cellsBool : Tryd.prog.cellsOf 4 = 1 := by kernel_rfl
theorem cellsStr : Tryd.prog.cellsOf 9 = 1 := by kernel_rfl
theorem cellsInts : Tryd.prog.cellsOf 23 = 1 := by kernel_rfl
theorem cellsLo : Tryd.prog.cellsOf 30 = 8 := by kernel_rfl
theorem cellsLos : Tryd.prog.cellsOf 31 = 1 := by kernel_rfl
theorem cellsLe : Tryd.prog.cellsOf 33 = 7 := by kernel_rfl
theorem cellsLb : Tryd.prog.cellsOf 35 = 8 := by kernel_rfl
theorem cellsLbs : Tryd.prog.cellsOf 36 = 1 := by kernel_rfl
theorem cellsLf : Tryd.prog.cellsOf 38 = 7 := by kernel_rfl
theorem cellsLfs : Tryd.prog.cellsOf 22 = 1 := by kernel_rfl
theorem bytesInt : Tryd.prog.bytesOf 3 = 8 := by kernel_rfl
theorem bytesLo : Tryd.prog.bytesOf 30 = 104 := by kernel_rfl
theorem bytesLb : Tryd.prog.bytesOf 35 = 104 := by kernel_rfl
theorem bytesLf : Tryd.prog.bytesOf 38 = 96 := by kernel_rfl

theorem addr_add (b o m : Nat) : (⟨b, o, none⟩ : Addr).add m = ⟨b, o + m, none⟩ := by unfold Addr.add; split <;> simp_all

theorem cell_at {w : World} {a : Addr} {v : Value} (h : w.cell? a = some v) : a.spot = none ∧ a.block < w.heap.size := by
  unfold World.cell? at h
  split at h
  · rename_i hh
    refine ⟨?_, (Array.getElem?_eq_some_iff.1 hh).1⟩
    cases hs : a.spot with
    | none => rfl
    | some _ => simp [hs] at h
  · cases h

/-- All that a datum weighs fits. -/
def Wgt {H : Type} (t : TypeId) (d : DataW H) : Prop := ∀ n ∈ d.weights Tryd.prog t, n ≤ reachBytes

theorem mem_all {H : Type} {P : Program} {e : TypeId} : ∀ {l : List (DataW H)} {d : DataW H}, d ∈ l → ∀ n ∈ d.weights P e, n ∈ DataW.weightsAll P e l
  | d0 :: l, d, hd, n, hn => by
    simp only [DataW.weightsAll, List.mem_append]
    rcases List.mem_cons.1 hd with rfl | h
    · exact Or.inl hn
    · exact Or.inr (mem_all h n hn)

theorem Wgt.field {H : Type} {t : TypeId} {fs : Array Field} (ht : Tryd.prog.underlying t = some (.struct fs)) {l : List (DataW H)} (h : Wgt t (.agg l)) {i : Nat} {f : Field} {d : DataW H} (hf : fs[i]? = some f) (hd : l[i]? = some d) : Wgt f.type d := fun n hn => h n (by
  have : (DataW.agg l).weights Tryd.prog t = DataW.weightsEach Tryd.prog (fs.toList.map (·.type)) l := by simp [DataW.weights, ht]
  rw [this]
  exact DataW.weights_mem_each (by simp [hf]) hd n hn)

theorem Wgt.elem {H : Type} {t e : TypeId} (ht : Tryd.prog.underlying t = some (.slice e)) {l sp : List (DataW H)} (h : Wgt t (.slice l sp)) : (l.length + sp.length) * Tryd.prog.bytesOf e ≤ reachBytes ∧ ∀ d ∈ l, Wgt e d := by
  have : (DataW.slice l sp).weights Tryd.prog t = (l.length + sp.length) * Tryd.prog.bytesOf e :: (DataW.weightsAll Tryd.prog e l ++ DataW.weightsAll Tryd.prog e sp) := by simp [DataW.weights, ht]
  refine ⟨h _ (by rw [this]; exact List.mem_cons_self), fun d hd n hn => h n ?_⟩
  rw [this]
  exact List.mem_cons_of_mem _ (List.mem_append_left _ (mem_all hd n hn))

section
variable {H : Type} {enc : TypeId × Value → H} {w : World} {spare : Nat → Bool} {held : Bool}

/-- The elements of a slice, each by itself: of whatever kind. -/
theorem open_rows {α : Type} (hα : Nonempty α) (good : α → List Value → Prop) {t e : TypeId} {size : Nat} (ht : Tryd.prog.underlying t = some (.slice e)) (hc : Tryd.prog.cellsOf e = size) (hs : 0 < size) {fuel : Nat}
    (ih : ∀ m, m < fuel → ∀ cs x, DataW.trod enc Tryd.prog w 0 spare held m e cs = some x → Wgt e x.1 → ∃ y, good y cs) {cs : List Value} {x : DataW H × List MemPlace} (h : DataW.trod enc Tryd.prog w 0 spare held fuel t cs = some x) (hR : Wgt t x.1) :
    ∃ (A : Option Addr) (C : Nat) (es : List α), cs = [.slice A es.length C] ∧ es.length ≤ 9223372036854775807 ∧ es.length * Tryd.prog.bytesOf e ≤ reachBytes ∧
      (∀ i (h : i < es.length), ∃ b o cs', A = some ⟨b, o, none⟩ ∧ RowAt w b (o + i * size) cs' ∧ good (es[i]'h) cs') := by
  rcases DataW.trod_slice ht h with ⟨rfl, rfl⟩ | ⟨a, len, cap, elems, rest, n, rfl, rfl, rfl, hb, hl, hm, hlen, hel, _, _⟩
  · exact ⟨none, 0, [], rfl, by simp, by simp, fun i hi => absurd hi (Nat.not_lt_zero _)⟩
  · obtain ⟨hw, hR⟩ := Wgt.elem ht hR
    have each : ∀ i, i < len → ∃ z : List Value × α, w.cells? 0 (a.add (i * size)) size = some z.1 ∧ good z.2 z.1 := fun i hi => by
      have h1 := hel i hi
      rw [List.getElem?_eq_getElem (by omega), hc] at h1
      obtain ⟨cs', h2, h3⟩ := Option.bind_eq_some_iff.1 h1
      obtain ⟨y, hy⟩ := ih n (by omega) cs' _ h3 (hR _ (List.mem_map.2 ⟨_, List.getElem_mem (by omega), rfl⟩))
      exact ⟨(cs', y), h2, hy⟩
    haveI : Inhabited α := ⟨Classical.choice hα⟩
    obtain ⟨f, hf⟩ := choose_lt each
    refine ⟨some a, cap, (List.range len).map fun i => (f i).2, by simp, ?_, ?_, fun i hi => ?_⟩
    · simp only [maxLen] at hm
      simp
      omega
    · simp only [List.length_map, List.length_range] at hw ⊢
      rw [hlen, Nat.add_mul] at hw
      omega
    · have hi' : i < len := by simpa using hi
      have sp : a.spot = none := by
        obtain ⟨_, h2, h3⟩ := World.cells?_some (hf 0 (by omega)).1
        have h4 := h3 0 hs
        rw [List.getElem?_eq_getElem (by omega)] at h4
        have h5 := (cell_at h4).1
        rw [Nat.zero_mul] at h5
        simpa [Addr.add] using h5
      obtain ⟨b, o, sp'⟩ := a
      cases sp
      obtain ⟨h1, h2⟩ := hf i hi'
      obtain ⟨_, h3, h4⟩ := World.cells?_some h1
      refine ⟨b, o, (f i).1, rfl, ⟨?_, fun j v hj => ?_⟩, by simpa using h2⟩
      · have h5 := h4 0 hs
        rw [List.getElem?_eq_getElem (by omega), addr_add, addr_add] at h5
        exact (cell_at h5).2
      · have hj' : j < size := by
          have := (List.getElem?_eq_some_iff.1 hj).1
          omega
        have h5 := h4 j hj'
        rw [hj, addr_add, addr_add] at h5
        exact h5

theorem reach_len {n b : Nat} (h : n * b ≤ reachBytes) (hb : 8 ≤ b) : n ≤ 281474976710656 := by
  have h1 : n * 8 ≤ n * b := Nat.mul_le_mul_left _ hb
  have h2 : reachBytes ≤ 2251799813685248 := by decide
  omega

theorem open_Nos {fuel : Nat} {cs : List Value} {x : DataW H × List MemPlace} (h : DataW.trod enc Tryd.prog w 0 spare held fuel 23 cs = some x) (hR : Wgt 23 x.1) :
    ∃ (v : Value) (es : List Int), cs = [v] ∧ NosIn w es v := by
  obtain ⟨A, C, es, e1, _, e2, e3⟩ := open_rows ⟨(0 : Int)⟩ (GI w) Tryd.underlying23 cellsInt (by decide) (fun m _ cs x hx hR => by
    obtain ⟨a, q1, _, _⟩ := DataW.trod_int Tryd.underlying3 hx
    exact ⟨a, q1⟩) h hR
  rw [bytesInt] at e2
  exact ⟨_, es, e1, reach_len e2 (by decide), A, C, rfl, e3⟩

theorem open_Lo {fuel : Nat} {cs : List Value} {x : DataW H × List MemPlace} (h : DataW.trod enc Tryd.prog w 0 spare held fuel 30 cs = some x) (hR : Wgt 30 x.1) :
    ∃ y, LoIn w y cs := by
  obtain ⟨xs, n, rfl, hx, hl, hlen, hf⟩ := DataW.trod_struct Tryd.underlying30 h
  rw [cellsLo] at hl
  have hlen : xs.length = 8 := hlen
  match cs, hl with
  | [c0, c1, c2, c3, c4, c5, c6, c7], _ =>
  match xs, hlen with
  | [y0, y1, y2, y3, y4, y5, y6, y7], _ =>
  rw [hx] at hR
  have f0 : DataW.trod enc Tryd.prog w 0 spare held n 3 (([c0, c1, c2, c3, c4, c5, c6, c7].drop 0).take (Tryd.prog.cellsOf 3)) = some y0 := hf 0 _ rfl
  rw [cellsInt] at f0
  have f1 : DataW.trod enc Tryd.prog w 0 spare held n 3 (([c0, c1, c2, c3, c4, c5, c6, c7].drop 1).take (Tryd.prog.cellsOf 3)) = some y1 := hf 1 _ rfl
  rw [cellsInt] at f1
  have f2 : DataW.trod enc Tryd.prog w 0 spare held n 3 (([c0, c1, c2, c3, c4, c5, c6, c7].drop 2).take (Tryd.prog.cellsOf 3)) = some y2 := hf 2 _ rfl
  rw [cellsInt] at f2
  have f3 : DataW.trod enc Tryd.prog w 0 spare held n 3 (([c0, c1, c2, c3, c4, c5, c6, c7].drop 3).take (Tryd.prog.cellsOf 3)) = some y3 := hf 3 _ rfl
  rw [cellsInt] at f3
  have f4 : DataW.trod enc Tryd.prog w 0 spare held n 3 (([c0, c1, c2, c3, c4, c5, c6, c7].drop 4).take (Tryd.prog.cellsOf 3)) = some y4 := hf 4 _ rfl
  rw [cellsInt] at f4
  have f5 : DataW.trod enc Tryd.prog w 0 spare held n 9 (([c0, c1, c2, c3, c4, c5, c6, c7].drop 5).take (Tryd.prog.cellsOf 9)) = some y5 := hf 5 _ rfl
  rw [cellsStr] at f5
  have f6 : DataW.trod enc Tryd.prog w 0 spare held n 23 (([c0, c1, c2, c3, c4, c5, c6, c7].drop 6).take (Tryd.prog.cellsOf 23)) = some y6 := hf 6 _ rfl
  rw [cellsInts] at f6
  have g6 : Wgt 23 y6.1 := Wgt.field Tryd.underlying30 hR (i := 6) rfl rfl
  have f7 : DataW.trod enc Tryd.prog w 0 spare held n 23 (([c0, c1, c2, c3, c4, c5, c6, c7].drop 7).take (Tryd.prog.cellsOf 23)) = some y7 := hf 7 _ rfl
  rw [cellsInts] at f7
  have g7 : Wgt 23 y7.1 := Wgt.field Tryd.underlying30 hR (i := 7) rfl rfl
  obtain ⟨a0, e0, _, _⟩ := DataW.trod_int Tryd.underlying3 f0
  obtain ⟨a1, e1, _, _⟩ := DataW.trod_int Tryd.underlying3 f1
  obtain ⟨a2, e2, _, _⟩ := DataW.trod_int Tryd.underlying3 f2
  obtain ⟨a3, e3, _, _⟩ := DataW.trod_int Tryd.underlying3 f3
  obtain ⟨a4, e4, _, _⟩ := DataW.trod_int Tryd.underlying3 f4
  obtain ⟨a5, e5, k5, _⟩ := DataW.trod_string Tryd.underlying9 f5
  obtain ⟨v6, l6, e6, h6⟩ := open_Nos f6 g6
  obtain ⟨v7, l7, e7, h7⟩ := open_Nos f7 g7
  simp at e0 e1 e2 e3 e4 e5 e6 e7
  subst e0 e1 e2 e3 e4 e5 e6 e7
  exact ⟨⟨a0, a1, a2, a3, a4, a5, l6, l7⟩, _, _, rfl, (by assumption), h6, h7⟩

theorem open_Los {fuel : Nat} {cs : List Value} {x : DataW H × List MemPlace} (h : DataW.trod enc Tryd.prog w 0 spare held fuel 31 cs = some x) (hR : Wgt 31 x.1) :
    ∃ (v : Value) (es : List Lo), cs = [v] ∧ LiIn w es v := by
  obtain ⟨A, C, es, e1, _, e2, e3⟩ := open_rows ⟨(⟨0, 0, 0, 0, 0, ⟨#[]⟩, [], []⟩ : Lo)⟩ (LoIn w) Tryd.underlying31 cellsLo (by decide) (fun m _ cs x hx hR => open_Lo hx hR) h hR
  rw [bytesLo] at e2
  exact ⟨_, es, e1, reach_len e2 (by decide), A, C, rfl, e3⟩

theorem open_Le {fuel : Nat} {cs : List Value} {x : DataW H × List MemPlace} (h : DataW.trod enc Tryd.prog w 0 spare held fuel 33 cs = some x) (hR : Wgt 33 x.1) :
    ∃ (y : Le) (v : Value), cs = leC y v ∧ NosIn w y.args v := by
  obtain ⟨xs, n, rfl, hx, hl, hlen, hf⟩ := DataW.trod_struct Tryd.underlying33 h
  rw [cellsLe] at hl
  have hlen : xs.length = 7 := hlen
  match cs, hl with
  | [c0, c1, c2, c3, c4, c5, c6], _ =>
  match xs, hlen with
  | [y0, y1, y2, y3, y4, y5, y6], _ =>
  rw [hx] at hR
  have f0 : DataW.trod enc Tryd.prog w 0 spare held n 3 (([c0, c1, c2, c3, c4, c5, c6].drop 0).take (Tryd.prog.cellsOf 3)) = some y0 := hf 0 _ rfl
  rw [cellsInt] at f0
  have f1 : DataW.trod enc Tryd.prog w 0 spare held n 3 (([c0, c1, c2, c3, c4, c5, c6].drop 1).take (Tryd.prog.cellsOf 3)) = some y1 := hf 1 _ rfl
  rw [cellsInt] at f1
  have f2 : DataW.trod enc Tryd.prog w 0 spare held n 3 (([c0, c1, c2, c3, c4, c5, c6].drop 2).take (Tryd.prog.cellsOf 3)) = some y2 := hf 2 _ rfl
  rw [cellsInt] at f2
  have f3 : DataW.trod enc Tryd.prog w 0 spare held n 3 (([c0, c1, c2, c3, c4, c5, c6].drop 3).take (Tryd.prog.cellsOf 3)) = some y3 := hf 3 _ rfl
  rw [cellsInt] at f3
  have f4 : DataW.trod enc Tryd.prog w 0 spare held n 3 (([c0, c1, c2, c3, c4, c5, c6].drop 4).take (Tryd.prog.cellsOf 3)) = some y4 := hf 4 _ rfl
  rw [cellsInt] at f4
  have f5 : DataW.trod enc Tryd.prog w 0 spare held n 9 (([c0, c1, c2, c3, c4, c5, c6].drop 5).take (Tryd.prog.cellsOf 9)) = some y5 := hf 5 _ rfl
  rw [cellsStr] at f5
  have f6 : DataW.trod enc Tryd.prog w 0 spare held n 23 (([c0, c1, c2, c3, c4, c5, c6].drop 6).take (Tryd.prog.cellsOf 23)) = some y6 := hf 6 _ rfl
  rw [cellsInts] at f6
  have g6 : Wgt 23 y6.1 := Wgt.field Tryd.underlying33 hR (i := 6) rfl rfl
  obtain ⟨a0, e0, _, _⟩ := DataW.trod_int Tryd.underlying3 f0
  obtain ⟨a1, e1, _, _⟩ := DataW.trod_int Tryd.underlying3 f1
  obtain ⟨a2, e2, _, _⟩ := DataW.trod_int Tryd.underlying3 f2
  obtain ⟨a3, e3, _, _⟩ := DataW.trod_int Tryd.underlying3 f3
  obtain ⟨a4, e4, _, _⟩ := DataW.trod_int Tryd.underlying3 f4
  obtain ⟨a5, e5, k5, _⟩ := DataW.trod_string Tryd.underlying9 f5
  obtain ⟨v6, l6, e6, h6⟩ := open_Nos f6 g6
  simp at e0 e1 e2 e3 e4 e5 e6
  subst e0 e1 e2 e3 e4 e5 e6
  exact ⟨⟨a0, a1, a2, a3, a4, a5, l6⟩, _, rfl, h6⟩

theorem open_Lb {fuel : Nat} {cs : List Value} {x : DataW H × List MemPlace} (h : DataW.trod enc Tryd.prog w 0 spare held fuel 35 cs = some x) (hR : Wgt 35 x.1) :
    ∃ y, LbIn w y cs := by
  obtain ⟨xs, n, rfl, hx, hl, hlen, hf⟩ := DataW.trod_struct Tryd.underlying35 h
  rw [cellsLb] at hl
  have hlen : xs.length = 2 := hlen
  match cs, hl with
  | [c0, c1, c2, c3, c4, c5, c6, c7], _ =>
  match xs, hlen with
  | [y0, y1], _ =>
  rw [hx] at hR
  have f0 : DataW.trod enc Tryd.prog w 0 spare held n 31 (([c0, c1, c2, c3, c4, c5, c6, c7].drop 0).take (Tryd.prog.cellsOf 31)) = some y0 := hf 0 _ rfl
  rw [cellsLos] at f0
  have g0 : Wgt 31 y0.1 := Wgt.field Tryd.underlying35 hR (i := 0) rfl rfl
  have f1 : DataW.trod enc Tryd.prog w 0 spare held n 33 (([c0, c1, c2, c3, c4, c5, c6, c7].drop 1).take (Tryd.prog.cellsOf 33)) = some y1 := hf 1 _ rfl
  rw [cellsLe] at f1
  have g1 : Wgt 33 y1.1 := Wgt.field Tryd.underlying35 hR (i := 1) rfl rfl
  obtain ⟨v0, l0, e0, h0⟩ := open_Los f0 g0
  obtain ⟨a1, v1, e1, h1⟩ := open_Le f1 g1
  simp [leC] at e0 e1
  obtain ⟨q1, q2, q3, q4, q5, q6, q7⟩ := e1
  subst e0 q1 q2 q3 q4 q5 q6 q7
  exact ⟨⟨l0, a1⟩, _, _, rfl, h0, h1⟩

theorem open_Lbs {fuel : Nat} {cs : List Value} {x : DataW H × List MemPlace} (h : DataW.trod enc Tryd.prog w 0 spare held fuel 36 cs = some x) (hR : Wgt 36 x.1) :
    ∃ (v : Value) (es : List Lb), cs = [v] ∧ LbsIn w es v := by
  obtain ⟨A, C, es, e1, _, e2, e3⟩ := open_rows ⟨(⟨[], ⟨0, 0, 0, 0, 0, ⟨#[]⟩, []⟩⟩ : Lb)⟩ (LbIn w) Tryd.underlying36 cellsLb (by decide) (fun m _ cs x hx hR => open_Lb hx hR) h hR
  rw [bytesLb] at e2
  exact ⟨_, es, e1, reach_len e2 (by decide), A, C, rfl, e3⟩

theorem open_Lf {fuel : Nat} {cs : List Value} {x : DataW H × List MemPlace} (h : DataW.trod enc Tryd.prog w 0 spare held fuel 38 cs = some x) (hR : Wgt 38 x.1) :
    ∃ y, LfIn w y cs := by
  obtain ⟨xs, n, rfl, hx, hl, hlen, hf⟩ := DataW.trod_struct Tryd.underlying38 h
  rw [cellsLf] at hl
  have hlen : xs.length = 7 := hlen
  match cs, hl with
  | [c0, c1, c2, c3, c4, c5, c6], _ =>
  match xs, hlen with
  | [y0, y1, y2, y3, y4, y5, y6], _ =>
  rw [hx] at hR
  have f0 : DataW.trod enc Tryd.prog w 0 spare held n 9 (([c0, c1, c2, c3, c4, c5, c6].drop 0).take (Tryd.prog.cellsOf 9)) = some y0 := hf 0 _ rfl
  rw [cellsStr] at f0
  have f1 : DataW.trod enc Tryd.prog w 0 spare held n 3 (([c0, c1, c2, c3, c4, c5, c6].drop 1).take (Tryd.prog.cellsOf 3)) = some y1 := hf 1 _ rfl
  rw [cellsInt] at f1
  have f2 : DataW.trod enc Tryd.prog w 0 spare held n 23 (([c0, c1, c2, c3, c4, c5, c6].drop 2).take (Tryd.prog.cellsOf 23)) = some y2 := hf 2 _ rfl
  rw [cellsInts] at f2
  have g2 : Wgt 23 y2.1 := Wgt.field Tryd.underlying38 hR (i := 2) rfl rfl
  have f3 : DataW.trod enc Tryd.prog w 0 spare held n 3 (([c0, c1, c2, c3, c4, c5, c6].drop 3).take (Tryd.prog.cellsOf 3)) = some y3 := hf 3 _ rfl
  rw [cellsInt] at f3
  have f4 : DataW.trod enc Tryd.prog w 0 spare held n 3 (([c0, c1, c2, c3, c4, c5, c6].drop 4).take (Tryd.prog.cellsOf 3)) = some y4 := hf 4 _ rfl
  rw [cellsInt] at f4
  have f5 : DataW.trod enc Tryd.prog w 0 spare held n 4 (([c0, c1, c2, c3, c4, c5, c6].drop 5).take (Tryd.prog.cellsOf 4)) = some y5 := hf 5 _ rfl
  rw [cellsBool] at f5
  have f6 : DataW.trod enc Tryd.prog w 0 spare held n 36 (([c0, c1, c2, c3, c4, c5, c6].drop 6).take (Tryd.prog.cellsOf 36)) = some y6 := hf 6 _ rfl
  rw [cellsLbs] at f6
  have g6 : Wgt 36 y6.1 := Wgt.field Tryd.underlying38 hR (i := 6) rfl rfl
  obtain ⟨a0, e0, k0, _⟩ := DataW.trod_string Tryd.underlying9 f0
  obtain ⟨a1, e1, _, _⟩ := DataW.trod_int Tryd.underlying3 f1
  obtain ⟨v2, l2, e2, h2⟩ := open_Nos f2 g2
  obtain ⟨a3, e3, _, _⟩ := DataW.trod_int Tryd.underlying3 f3
  obtain ⟨a4, e4, _, _⟩ := DataW.trod_int Tryd.underlying3 f4
  obtain ⟨a5, e5, _, _⟩ := DataW.trod_bool Tryd.underlying4 f5
  obtain ⟨v6, l6, e6, h6⟩ := open_Lbs f6 g6
  simp at e0 e1 e2 e3 e4 e5 e6
  subst e0 e1 e2 e3 e4 e5 e6
  exact ⟨⟨a0, a1, l2, a3, a4, a5, l6⟩, _, _, rfl, (by assumption), h2, h6⟩

theorem open_Lfs {fuel : Nat} {cs : List Value} {x : DataW H × List MemPlace} (h : DataW.trod enc Tryd.prog w 0 spare held fuel 22 cs = some x) (hR : Wgt 22 x.1) :
    ∃ (v : Value) (es : List Lf), cs = [v] ∧ LfsIn w es v := by
  obtain ⟨A, C, es, e1, _, e2, e3⟩ := open_rows ⟨(⟨⟨#[]⟩, 0, [], 0, 0, false, []⟩ : Lf)⟩ (LfIn w) Tryd.underlying22 cellsLf (by decide) (fun m _ cs x hx hR => open_Lf hx hR) h hR
  rw [bytesLf] at e2
  exact ⟨_, es, e1, reach_len e2 (by decide), A, C, rfl, e3⟩

end

/-- Numbers as an input, with the room behind them. -/
theorem open_Inp {H : Type} {enc : TypeId × Value → H} {w : World} {held : Bool} {fuel : Nat} {cs : List Value} {x : DataW H × List MemPlace} (h : DataW.trod enc Tryd.prog w 0 (fun _ => true) held fuel 23 cs = some x) (hR : Wgt 23 x.1) :
    ∃ (v : Value) (es : List Int), cs = [v] ∧ InpIn w es v := by
  obtain ⟨A, C, es, e1, _, e2, e3⟩ := open_rows ⟨(0 : Int)⟩ (GI w) Tryd.underlying23 cellsInt (by decide) (fun m _ cs x hx hR => by
    obtain ⟨a, q1, _, _⟩ := DataW.trod_int Tryd.underlying3 hx
    exact ⟨a, q1⟩) h hR
  rw [bytesInt] at e2
  subst e1
  refine ⟨_, es, rfl, A, C, rfl, ?_, ?_, e3⟩
  all_goals
    rcases DataW.trod_slice Tryd.underlying23 h with ⟨q1, q2⟩ | ⟨a, len, cap, elems, rest, n, rfl, q1, rfl, hb, hl, hm, hlen, hel, hsp, _⟩
    · simp at q1
      obtain ⟨-, q1, rfl⟩ := q1
      simp [q1]
    · obtain ⟨hw, -⟩ := Wgt.elem Tryd.underlying23 hR
      simp at q1
      obtain ⟨-, rfl, rfl⟩ := q1
      have h2 := (hsp rfl).1
      simp only [List.length_map, bytesInt] at hw
      have h3 := reach_len hw (by decide)
      omega
end Go.Proofs.YtapgaclonilnbaaDoor
