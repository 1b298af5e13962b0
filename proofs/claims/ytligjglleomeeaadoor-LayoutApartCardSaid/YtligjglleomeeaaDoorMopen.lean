/-
  Proved: functions in the middle form that can be read as data, and that fit memory, lie in memory as plain data do.
-/
import Derived.Test.YtligjglleomeeaaDoorMdata
import Derived.Deep.Slices
import Derived.SizedLaws
import Derived.ProofKit
import Derived.OpenShut
set_option linter.unusedVariables false
namespace Go.Proofs.YtligjglleomeeaaDoor
open Go.RowKit Go.ChangeShapes Go.WideShapes Go.Deep

theorem cellsInt : Tryd.prog.cellsOf 3 = 1 := by kernel_rfl
theorem cellsBool : Tryd.prog.cellsOf 4 = 1 := by kernel_rfl
theorem cellsStr : Tryd.prog.cellsOf 9 = 1 := by kernel_rfl
theorem cellsInts : Tryd.prog.cellsOf 22 = 1 := by kernel_rfl
theorem cellsOd : Tryd.prog.cellsOf 40 = 2 := by kernel_rfl
theorem cellsOds : Tryd.prog.cellsOf 41 = 1 := by kernel_rfl
theorem cellsSp : Tryd.prog.cellsOf 63 = 3 := by kernel_rfl
theorem cellsSps : Tryd.prog.cellsOf 48 = 1 := by kernel_rfl
theorem cellsPl : Tryd.prog.cellsOf 50 = 2 := by kernel_rfl
theorem cellsTy : Tryd.prog.cellsOf 53 = 4 := by kernel_rfl
theorem cellsTys : Tryd.prog.cellsOf 51 = 1 := by kernel_rfl
theorem cellsTm : Tryd.prog.cellsOf 43 = 6 := by kernel_rfl
theorem cellsIns : Tryd.prog.cellsOf 55 = 18 := by kernel_rfl
theorem cellsInss : Tryd.prog.cellsOf 38 = 1 := by kernel_rfl
theorem cellsBk : Tryd.prog.cellsOf 45 = 7 := by kernel_rfl
theorem cellsBks : Tryd.prog.cellsOf 23 = 1 := by kernel_rfl
theorem cellsFm : Tryd.prog.cellsOf 25 = 6 := by kernel_rfl
theorem bytesInt : Tryd.prog.bytesOf 3 = 8 := by kernel_rfl
theorem bytesOd : Tryd.prog.bytesOf 40 = 16 := by kernel_rfl
theorem bytesSp : Tryd.prog.bytesOf 63 = 24 := by kernel_rfl
theorem bytesTy : Tryd.prog.bytesOf 53 = 56 := by kernel_rfl
theorem bytesIns : Tryd.prog.bytesOf 55 = 240 := by kernel_rfl
theorem bytesBk : Tryd.prog.bytesOf 45 = 88 := by kernel_rfl
theorem bytesFm : Tryd.prog.bytesOf 25 = 88 := by kernel_rfl

theorem addr_add (b o m : Nat) : (⟨b, o, none⟩ : Addr).add m = ⟨b, o + m, none⟩ := by unfold Addr.add; split <;> simp_all

theorem cell_at {w : World} {a : Addr} {v : Value} (h : w.cell? a = some v) : a.spot = none ∧ a.block < w.heap.size := by
  unfold World.cell? at h
  split at h
  · rename_i hh
    refine ⟨?_, (Array.getElem?_eq_some_iff.1 hh).1⟩
    cases hs : a.spot with
    | none => rfl
    | some _ => simp [hs] at h
  · cases h

/-- All that a datum weighs fits. -/
def Wgt {H : Type} (t : TypeId) (d : DataW H) : Prop := ∀ n ∈ d.weights Tryd.prog t, n ≤ reachBytes

theorem mem_all {H : Type} {P : Program} {e : TypeId} : ∀ {l : List (DataW H)} {d : DataW H}, d ∈ l → ∀ n ∈ d.weights P e, n ∈ DataW.weightsAll P e l
  | d0 :: l, d, hd, n, hn => by
    simp only [DataW.weightsAll, List.mem_append]
    rcases List.mem_cons.1 hd with rfl | h
    · exact Or.inl hn
    · exact Or.inr (mem_all h n hn)

theorem Wgt.field {H : Type} {t : TypeId} {fs : Array Field} (ht : Tryd.prog.underlying t = some (.struct fs)) {l : List (DataW H)} (h : Wgt t (.agg l)) {i : Nat} {f : Field} {d : DataW H} (hf : fs[i]? = some f) (hd : l[i]? = some d) : Wgt f.type d := fun n hn => h n (by
  have : (DataW.agg l).weights Tryd.prog t = DataW.weightsEach Tryd.prog (fs.toList.map (·.type)) l := by simp [DataW.weights, ht]
  rw [this]
  exact DataW.weights_mem_each (by simp [hf]) hd n hn)

theorem Wgt.elem {H : Type} {t e : TypeId} (ht : Tryd.prog.underlying t = some (.slice e)) {l sp : List (DataW H)} (h : Wgt t (.slice l sp)) : (l.length + sp.length) * Tryd.prog.bytesOf e ≤ reachBytes ∧ ∀ d ∈ l, Wgt e d := by
  have : (DataW.slice l sp).weights Tryd.prog t = (l.length + sp.length) * Tryd.prog.bytesOf e :: (DataW.weightsAll Tryd.prog e l ++ DataW.weightsAll Tryd.prog e sp) := by simp [DataW.weights, ht]
  refine ⟨h _ (by rw [this]; exact List.mem_cons_self), fun d hd n hn => h n ?_⟩
  rw [this]
  exact List.mem_cons_of_mem _ (List.mem_append_left _ (mem_all hd n hn))

section
variable {H : Type} {enc : TypeId × Value → H} {w : World} {spare : Nat → Bool} {held : Bool}

/-- The elements of a slice, each by itself: of whatever kind. -/
theorem open_rows {α : Type} (hα : Nonempty α) (good : α → List Value → Prop) {t e : TypeId} {size : Nat} (ht : Tryd.prog.underlying t = some (.slice e)) (hc : Tryd.prog.cellsOf e = size) (hs : 0 < size) {fuel : Nat}
    (ih : ∀ m, m < fuel → ∀ cs x, DataW.trod enc Tryd.prog w 0 spare held m e cs = some x → Wgt e x.1 → ∃ y, good y cs) {cs : List Value} {x : DataW H × List MemPlace} (h : DataW.trod enc Tryd.prog w 0 spare held fuel t cs = some x) (hR : Wgt t x.1) :
    ∃ (A : Option Addr) (C : Nat) (es : List α), cs = [.slice A es.length C] ∧ es.length ≤ 9223372036854775807 ∧ es.length * Tryd.prog.bytesOf e ≤ reachBytes ∧
      (∀ i (h : i < es.length), ∃ b o cs', A = some ⟨b, o, none⟩ ∧ RowAt w b (o + i * size) cs' ∧ good (es[i]'h) cs') := by
  rcases DataW.trod_slice ht h with ⟨rfl, rfl⟩ | ⟨a, len, cap, elems, rest, n, rfl, rfl, rfl, hb, hl, hm, hlen, hel, _, _⟩
  · exact ⟨none, 0, [], rfl, by simp, by simp, fun i hi => absurd hi (Nat.not_lt_zero _)⟩
  · obtain ⟨hw, hR⟩ := Wgt.elem ht hR
    have each : ∀ i, i < len → ∃ z : List Value × α, w.cells? 0 (a.add (i * size)) size = some z.1 ∧ good z.2 z.1 := fun i hi => by
      have h1 := hel i hi
      rw [List.getElem?_eq_getElem (by omega), hc] at h1
      obtain ⟨cs', h2, h3⟩ := Option.bind_eq_some_iff.1 h1
      obtain ⟨y, hy⟩ := ih n (by omega) cs' _ h3 (hR _ (List.mem_map.2 ⟨_, List.getElem_mem (by omega), rfl⟩))
      exact ⟨(cs', y), h2, hy⟩
    haveI : Inhabited α := ⟨Classical.choice hα⟩
    obtain ⟨f, hf⟩ := choose_lt each
    refine ⟨some a, cap, (List.range len).map fun i => (f i).2, by simp, ?_, ?_, fun i hi => ?_⟩
    · simp only [maxLen] at hm
      simp
      omega
    · simp only [List.length_map, List.length_range] at hw ⊢
      rw [hlen, Nat.add_mul] at hw
      omega
    · have hi' : i < len := by simpa using hi
      have sp : a.spot = none := by
        obtain ⟨_, h2, h3⟩ := World.cells?_some (hf 0 (by omega)).1
        have h4 := h3 0 hs
        rw [List.getElem?_eq_getElem (by omega)] at h4
        have h5 := (cell_at h4).1
        rw [Nat.zero_mul] at h5
        simpa [Addr.add] using h5
      obtain ⟨b, o, sp'⟩ := a
      cases sp
      obtain ⟨h1, h2⟩ := hf i hi'
      obtain ⟨_, h3, h4⟩ := World.cells?_some h1
      refine ⟨b, o, (f i).1, rfl, ⟨?_, fun j v hj => ?_⟩, by simpa using h2⟩
      · have h5 := h4 0 hs
        rw [List.getElem?_eq_getElem (by omega), addr_add, addr_add] at h5
        exact (cell_at h5).2
      · have hj' : j < size := by
          have := (List.getElem?_eq_some_iff.1 hj).1
          omega
        have h5 := h4 j hj'
        rw [hj, addr_add, addr_add] at h5
        exact h5

theorem reach_len {n b : Nat} (h : n * b ≤ reachBytes) (hb : 8 ≤ b) : n ≤ 281474976710656 := by
  have h1 : n * 8 ≤ n * b := Nat.mul_le_mul_left _ hb
  have h2 : reachBytes ≤ 2251799813685248 := by decide
  omega

theorem open_Nos {fuel : Nat} {cs : List Value} {x : DataW H × List MemPlace} (h : DataW.trod enc Tryd.prog w 0 spare held fuel 22 cs = some x) (hR : Wgt 22 x.1) :
    ∃ (v : Value) (es : List Int), cs = [v] ∧ NosIn w es v := by
  obtain ⟨A, C, es, e1, _, e2, e3⟩ := open_rows ⟨(0 : Int)⟩ (GI w) Tryd.underlying22 cellsInt (by decide) (fun m _ cs x hx hR => by
    obtain ⟨a, q1, _, _⟩ := DataW.trod_int Tryd.underlying3 hx
    exact ⟨a, q1⟩) h hR
  rw [bytesInt] at e2
  exact ⟨_, es, e1, reach_len e2 (by decide), A, C, rfl, e3⟩

theorem open_Od {fuel : Nat} {cs : List Value} {x : DataW H × List MemPlace} (h : DataW.trod enc Tryd.prog w 0 spare held fuel 40 cs = some x) (hR : Wgt 40 x.1) :
    ∃ y, GO w y cs := by
  obtain ⟨xs, n, rfl, hx, hl, hlen, hf⟩ := DataW.trod_struct Tryd.underlying40 h
  rw [cellsOd] at hl
  have hlen : xs.length = 2 := hlen
  match cs, hl with
  | [c0, c1], _ =>
  match xs, hlen with
  | [y0, y1], _ =>
  rw [hx] at hR
  have f0 : DataW.trod enc Tryd.prog w 0 spare held n 4 (([c0, c1].drop 0).take (Tryd.prog.cellsOf 4)) = some y0 := hf 0 _ rfl
  rw [cellsBool] at f0
  have f1 : DataW.trod enc Tryd.prog w 0 spare held n 3 (([c0, c1].drop 1).take (Tryd.prog.cellsOf 3)) = some y1 := hf 1 _ rfl
  rw [cellsInt] at f1
  obtain ⟨a0, e0, _, _⟩ := DataW.trod_bool Tryd.underlying4 f0
  obtain ⟨a1, e1, _, _⟩ := DataW.trod_int Tryd.underlying3 f1
  simp at e0 e1
  subst e0 e1
  exact ⟨⟨a0, a1⟩, rfl⟩

theorem open_Ods {fuel : Nat} {cs : List Value} {x : DataW H × List MemPlace} (h : DataW.trod enc Tryd.prog w 0 spare held fuel 41 cs = some x) (hR : Wgt 41 x.1) :
    ∃ (v : Value) (es : List Od), cs = [v] ∧ OdsIn w es v := by
  obtain ⟨A, C, es, e1, _, e2, e3⟩ := open_rows ⟨(⟨false, 0⟩ : Od)⟩ (GO w) Tryd.underlying41 cellsOd (by decide) (fun m _ cs x hx hR => open_Od hx hR) h hR
  rw [bytesOd] at e2
  exact ⟨_, es, e1, reach_len e2 (by decide), A, C, rfl, e3⟩

theorem open_Sp {fuel : Nat} {cs : List Value} {x : DataW H × List MemPlace} (h : DataW.trod enc Tryd.prog w 0 spare held fuel 63 cs = some x) (hR : Wgt 63 x.1) :
    ∃ y, GS w y cs := by
  obtain ⟨xs, n, rfl, hx, hl, hlen, hf⟩ := DataW.trod_struct Tryd.underlying63 h
  rw [cellsSp] at hl
  have hlen : xs.length = 3 := hlen
  match cs, hl with
  | [c0, c1, c2], _ =>
  match xs, hlen with
  | [y0, y1, y2], _ =>
  rw [hx] at hR
  have f0 : DataW.trod enc Tryd.prog w 0 spare held n 3 (([c0, c1, c2].drop 0).take (Tryd.prog.cellsOf 3)) = some y0 := hf 0 _ rfl
  rw [cellsInt] at f0
  have f1 : DataW.trod enc Tryd.prog w 0 spare held n 3 (([c0, c1, c2].drop 1).take (Tryd.prog.cellsOf 3)) = some y1 := hf 1 _ rfl
  rw [cellsInt] at f1
  have f2 : DataW.trod enc Tryd.prog w 0 spare held n 3 (([c0, c1, c2].drop 2).take (Tryd.prog.cellsOf 3)) = some y2 := hf 2 _ rfl
  rw [cellsInt] at f2
  obtain ⟨a0, e0, _, _⟩ := DataW.trod_int Tryd.underlying3 f0
  obtain ⟨a1, e1, _, _⟩ := DataW.trod_int Tryd.underlying3 f1
  obtain ⟨a2, e2, _, _⟩ := DataW.trod_int Tryd.underlying3 f2
  simp at e0 e1 e2
  subst e0 e1 e2
  exact ⟨⟨a0, a1, a2⟩, rfl⟩

theorem open_Sps {fuel : Nat} {cs : List Value} {x : DataW H × List MemPlace} (h : DataW.trod enc Tryd.prog w 0 spare held fuel 48 cs = some x) (hR : Wgt 48 x.1) :
    ∃ (v : Value) (es : List Sp), cs = [v] ∧ StsIn w es v := by
  obtain ⟨A, C, es, e1, _, e2, e3⟩ := open_rows ⟨(⟨0, 0, 0⟩ : Sp)⟩ (GS w) Tryd.underlying48 cellsSp (by decide) (fun m _ cs x hx hR => open_Sp hx hR) h hR
  rw [bytesSp] at e2
  exact ⟨_, es, e1, reach_len e2 (by decide), A, C, rfl, e3⟩

theorem open_Pl {fuel : Nat} {cs : List Value} {x : DataW H × List MemPlace} (h : DataW.trod enc Tryd.prog w 0 spare held fuel 50 cs = some x) (hR : Wgt 50 x.1) :
    ∃ (y : Pl) (v : Value), cs = [.int .i64 y.l, v] ∧ StsIn w y.st v := by
  obtain ⟨xs, n, rfl, hx, hl, hlen, hf⟩ := DataW.trod_struct Tryd.underlying50 h
  rw [cellsPl] at hl
  have hlen : xs.length = 2 := hlen
  match cs, hl with
  | [c0, c1], _ =>
  match xs, hlen with
  | [y0, y1], _ =>
  rw [hx] at hR
  have f0 : DataW.trod enc Tryd.prog w 0 spare held n 3 (([c0, c1].drop 0).take (Tryd.prog.cellsOf 3)) = some y0 := hf 0 _ rfl
  rw [cellsInt] at f0
  have f1 : DataW.trod enc Tryd.prog w 0 spare held n 48 (([c0, c1].drop 1).take (Tryd.prog.cellsOf 48)) = some y1 := hf 1 _ rfl
  rw [cellsSps] at f1
  have g1 : Wgt 48 y1.1 := Wgt.field Tryd.underlying50 hR (i := 1) rfl rfl
  obtain ⟨a0, e0, _, _⟩ := DataW.trod_int Tryd.underlying3 f0
  obtain ⟨v1, s1, e1, h1⟩ := open_Sps f1 g1
  simp at e0 e1
  subst e0 e1
  exact ⟨⟨a0, s1⟩, _, rfl, h1⟩

theorem open_Ty : ∀ (fuel : Nat) (cs : List Value) (x : DataW H × List MemPlace), DataW.trod enc Tryd.prog w 0 spare held fuel 53 cs = some x → Wgt 53 x.1 → ∃ t, TIn w t cs := by
  intro fuel
  induction fuel using Nat.strongRecOn with
  | _ fuel ih =>
    intro cs x h hR
    obtain ⟨xs, n, rfl, hx, hl, hlen, hf⟩ := DataW.trod_struct Tryd.underlying53 h
    rw [cellsTy] at hl
    have hlen : xs.length = 4 := hlen
    match cs, hl with
    | [c0, c1, c2, c3], _ =>
    match xs, hlen with
    | [y0, y1, y2, y3], _ =>
    rw [hx] at hR
    have f0 : DataW.trod enc Tryd.prog w 0 spare held n 3 (([c0, c1, c2, c3].drop 0).take (Tryd.prog.cellsOf 3)) = some y0 := hf 0 _ rfl
    have f1 : DataW.trod enc Tryd.prog w 0 spare held n 9 (([c0, c1, c2, c3].drop 1).take (Tryd.prog.cellsOf 9)) = some y1 := hf 1 _ rfl
    have f2 : DataW.trod enc Tryd.prog w 0 spare held n 3 (([c0, c1, c2, c3].drop 2).take (Tryd.prog.cellsOf 3)) = some y2 := hf 2 _ rfl
    have f3 : DataW.trod enc Tryd.prog w 0 spare held n 51 (([c0, c1, c2, c3].drop 3).take (Tryd.prog.cellsOf 51)) = some y3 := hf 3 _ rfl
    have g3 : Wgt 51 y3.1 := Wgt.field Tryd.underlying53 hR (i := 3) rfl rfl
    rw [cellsInt] at f0 f2
    rw [cellsStr] at f1
    rw [cellsTys] at f3
    obtain ⟨k, e0, _, _⟩ := DataW.trod_int Tryd.underlying3 f0
    obtain ⟨s, e1, _, _⟩ := DataW.trod_string Tryd.underlying9 f1
    obtain ⟨m, e2, _, _⟩ := DataW.trod_int Tryd.underlying3 f2
    obtain ⟨A, C, es, e3, h1, _, h3⟩ := open_rows ⟨.mk 0 ⟨#[]⟩ 0 []⟩ (TIn w) Tryd.underlying51 cellsTy (by decide) (fun m hm cs x hx hR => ih m (by omega) cs x hx hR) f3 g3
    simp at e0 e1 e2 e3
    subst e0 e1 e2 e3
    exact ⟨.mk k s m es, TIn.of ⟨h1, h3⟩⟩

theorem open_Ins {fuel : Nat} {cs : List Value} {x : DataW H × List MemPlace} (h : DataW.trod enc Tryd.prog w 0 spare held fuel 55 cs = some x) (hR : Wgt 55 x.1) :
    ∃ y, InsIn w y cs := by
  obtain ⟨xs, n, rfl, hx, hl, hlen, hf⟩ := DataW.trod_struct Tryd.underlying55 h
  rw [cellsIns] at hl
  have hlen : xs.length = 11 := hlen
  match cs, hl with
  | [c0, c1, c2, c3, c4, c5, c6, c7, c8, c9, c10, c11, c12, c13, c14, c15, c16, c17], _ =>
  match xs, hlen with
  | [y0, y1, y2, y3, y4, y5, y6, y7, y8, y9, y10], _ =>
  rw [hx] at hR
  have f0 : DataW.trod enc Tryd.prog w 0 spare held n 3 (([c0, c1, c2, c3, c4, c5, c6, c7, c8, c9, c10, c11, c12, c13, c14, c15, c16, c17].drop 0).take (Tryd.prog.cellsOf 3)) = some y0 := hf 0 _ rfl
  rw [cellsInt] at f0
  have f1 : DataW.trod enc Tryd.prog w 0 spare held n 3 (([c0, c1, c2, c3, c4, c5, c6, c7, c8, c9, c10, c11, c12, c13, c14, c15, c16, c17].drop 1).take (Tryd.prog.cellsOf 3)) = some y1 := hf 1 _ rfl
  rw [cellsInt] at f1
  have f2 : DataW.trod enc Tryd.prog w 0 spare held n 40 (([c0, c1, c2, c3, c4, c5, c6, c7, c8, c9, c10, c11, c12, c13, c14, c15, c16, c17].drop 2).take (Tryd.prog.cellsOf 40)) = some y2 := hf 2 _ rfl
  rw [cellsOd] at f2
  have g2 : Wgt 40 y2.1 := Wgt.field Tryd.underlying55 hR (i := 2) rfl rfl
  have f3 : DataW.trod enc Tryd.prog w 0 spare held n 40 (([c0, c1, c2, c3, c4, c5, c6, c7, c8, c9, c10, c11, c12, c13, c14, c15, c16, c17].drop 4).take (Tryd.prog.cellsOf 40)) = some y3 := hf 3 _ rfl
  rw [cellsOd] at f3
  have g3 : Wgt 40 y3.1 := Wgt.field Tryd.underlying55 hR (i := 3) rfl rfl
  have f4 : DataW.trod enc Tryd.prog w 0 spare held n 50 (([c0, c1, c2, c3, c4, c5, c6, c7, c8, c9, c10, c11, c12, c13, c14, c15, c16, c17].drop 6).take (Tryd.prog.cellsOf 50)) = some y4 := hf 4 _ rfl
  rw [cellsPl] at f4
  have g4 : Wgt 50 y4.1 := Wgt.field Tryd.underlying55 hR (i := 4) rfl rfl
  have f5 : DataW.trod enc Tryd.prog w 0 spare held n 50 (([c0, c1, c2, c3, c4, c5, c6, c7, c8, c9, c10, c11, c12, c13, c14, c15, c16, c17].drop 8).take (Tryd.prog.cellsOf 50)) = some y5 := hf 5 _ rfl
  rw [cellsPl] at f5
  have g5 : Wgt 50 y5.1 := Wgt.field Tryd.underlying55 hR (i := 5) rfl rfl
  have f6 : DataW.trod enc Tryd.prog w 0 spare held n 3 (([c0, c1, c2, c3, c4, c5, c6, c7, c8, c9, c10, c11, c12, c13, c14, c15, c16, c17].drop 10).take (Tryd.prog.cellsOf 3)) = some y6 := hf 6 _ rfl
  rw [cellsInt] at f6
  have f7 : DataW.trod enc Tryd.prog w 0 spare held n 9 (([c0, c1, c2, c3, c4, c5, c6, c7, c8, c9, c10, c11, c12, c13, c14, c15, c16, c17].drop 11).take (Tryd.prog.cellsOf 9)) = some y7 := hf 7 _ rfl
  rw [cellsStr] at f7
  have f8 : DataW.trod enc Tryd.prog w 0 spare held n 53 (([c0, c1, c2, c3, c4, c5, c6, c7, c8, c9, c10, c11, c12, c13, c14, c15, c16, c17].drop 12).take (Tryd.prog.cellsOf 53)) = some y8 := hf 8 _ rfl
  rw [cellsTy] at f8
  have g8 : Wgt 53 y8.1 := Wgt.field Tryd.underlying55 hR (i := 8) rfl rfl
  have f9 : DataW.trod enc Tryd.prog w 0 spare held n 41 (([c0, c1, c2, c3, c4, c5, c6, c7, c8, c9, c10, c11, c12, c13, c14, c15, c16, c17].drop 16).take (Tryd.prog.cellsOf 41)) = some y9 := hf 9 _ rfl
  rw [cellsOds] at f9
  have g9 : Wgt 41 y9.1 := Wgt.field Tryd.underlying55 hR (i := 9) rfl rfl
  have f10 : DataW.trod enc Tryd.prog w 0 spare held n 22 (([c0, c1, c2, c3, c4, c5, c6, c7, c8, c9, c10, c11, c12, c13, c14, c15, c16, c17].drop 17).take (Tryd.prog.cellsOf 22)) = some y10 := hf 10 _ rfl
  rw [cellsInts] at f10
  have g10 : Wgt 22 y10.1 := Wgt.field Tryd.underlying55 hR (i := 10) rfl rfl
  obtain ⟨a0, e0, _, _⟩ := DataW.trod_int Tryd.underlying3 f0
  obtain ⟨a1, e1, _, _⟩ := DataW.trod_int Tryd.underlying3 f1
  obtain ⟨a2, e2⟩ := open_Od f2 g2
  obtain ⟨a3, e3⟩ := open_Od f3 g3
  obtain ⟨a4, v4, e4, h4⟩ := open_Pl f4 g4
  obtain ⟨a5, v5, e5, h5⟩ := open_Pl f5 g5
  obtain ⟨a6, e6, _, _⟩ := DataW.trod_int Tryd.underlying3 f6
  obtain ⟨a7, e7, _, _⟩ := DataW.trod_string Tryd.underlying9 f7
  obtain ⟨⟨k8, s8, n8, es8⟩, h8⟩ := open_Ty _ _ _ f8 g8
  obtain ⟨A8, C8, e8, z8⟩ := h8.inv
  obtain ⟨v9, l9, e9, h9⟩ := open_Ods f9 g9
  obtain ⟨v10, l10, e10, h10⟩ := open_Nos f10 g10
  simp [GO] at e0 e1 e2 e3 e4 e5 e6 e7 e8 e9 e10
  obtain ⟨p2, q2⟩ := e2
  obtain ⟨p3, q3⟩ := e3
  obtain ⟨p4, q4⟩ := e4
  obtain ⟨p5, q5⟩ := e5
  obtain ⟨p8, q8, r8, s8'⟩ := e8
  subst e0 e1 p2 q2 p3 q3 p4 q4 p5 q5 e6 e7 p8 q8 r8 s8' e9 e10
  exact ⟨⟨a0, a1, a2, a3, a4, a5, a6, a7, ⟨k8, s8, n8, es8⟩, l9, l10⟩, _, _, _, _, _, rfl, h4, h5, ⟨A8, C8, rfl, z8⟩, h9, h10⟩

theorem open_Inss {fuel : Nat} {cs : List Value} {x : DataW H × List MemPlace} (h : DataW.trod enc Tryd.prog w 0 spare held fuel 38 cs = some x) (hR : Wgt 38 x.1) :
    ∃ (v : Value) (es : List Ins), cs = [v] ∧ LiIn w es v := by
  obtain ⟨A, C, es, e1, _, e2, e3⟩ := open_rows ⟨(⟨0, 0, ⟨false, 0⟩, ⟨false, 0⟩, ⟨0, []⟩, ⟨0, []⟩, 0, ⟨#[]⟩, ⟨0, ⟨#[]⟩, 0, []⟩, [], []⟩ : Ins)⟩ (InsIn w) Tryd.underlying38 cellsIns (by decide) (fun m _ cs x hx hR => open_Ins hx hR) h hR
  rw [bytesIns] at e2
  exact ⟨_, es, e1, reach_len e2 (by decide), A, C, rfl, e3⟩

theorem open_Tm {fuel : Nat} {cs : List Value} {x : DataW H × List MemPlace} (h : DataW.trod enc Tryd.prog w 0 spare held fuel 43 cs = some x) (hR : Wgt 43 x.1) :
    ∃ y, TmIn w y cs := by
  obtain ⟨xs, n, rfl, hx, hl, hlen, hf⟩ := DataW.trod_struct Tryd.underlying43 h
  rw [cellsTm] at hl
  have hlen : xs.length = 5 := hlen
  match cs, hl with
  | [c0, c1, c2, c3, c4, c5], _ =>
  match xs, hlen with
  | [y0, y1, y2, y3, y4], _ =>
  rw [hx] at hR
  have f0 : DataW.trod enc Tryd.prog w 0 spare held n 3 (([c0, c1, c2, c3, c4, c5].drop 0).take (Tryd.prog.cellsOf 3)) = some y0 := hf 0 _ rfl
  rw [cellsInt] at f0
  have f1 : DataW.trod enc Tryd.prog w 0 spare held n 40 (([c0, c1, c2, c3, c4, c5].drop 1).take (Tryd.prog.cellsOf 40)) = some y1 := hf 1 _ rfl
  rw [cellsOd] at f1
  have g1 : Wgt 40 y1.1 := Wgt.field Tryd.underlying43 hR (i := 1) rfl rfl
  have f2 : DataW.trod enc Tryd.prog w 0 spare held n 3 (([c0, c1, c2, c3, c4, c5].drop 3).take (Tryd.prog.cellsOf 3)) = some y2 := hf 2 _ rfl
  rw [cellsInt] at f2
  have f3 : DataW.trod enc Tryd.prog w 0 spare held n 3 (([c0, c1, c2, c3, c4, c5].drop 4).take (Tryd.prog.cellsOf 3)) = some y3 := hf 3 _ rfl
  rw [cellsInt] at f3
  have f4 : DataW.trod enc Tryd.prog w 0 spare held n 41 (([c0, c1, c2, c3, c4, c5].drop 5).take (Tryd.prog.cellsOf 41)) = some y4 := hf 4 _ rfl
  rw [cellsOds] at f4
  have g4 : Wgt 41 y4.1 := Wgt.field Tryd.underlying43 hR (i := 4) rfl rfl
  obtain ⟨a0, e0, _, _⟩ := DataW.trod_int Tryd.underlying3 f0
  obtain ⟨a1, e1⟩ := open_Od f1 g1
  obtain ⟨a2, e2, _, _⟩ := DataW.trod_int Tryd.underlying3 f2
  obtain ⟨a3, e3, _, _⟩ := DataW.trod_int Tryd.underlying3 f3
  obtain ⟨v4, l4, e4, h4⟩ := open_Ods f4 g4
  simp [GO] at e0 e1 e2 e3 e4
  obtain ⟨p1, q1⟩ := e1
  subst e0 p1 q1 e2 e3 e4
  exact ⟨⟨a0, a1, a2, a3, l4⟩, _, rfl, h4⟩

theorem open_Bk {fuel : Nat} {cs : List Value} {x : DataW H × List MemPlace} (h : DataW.trod enc Tryd.prog w 0 spare held fuel 45 cs = some x) (hR : Wgt 45 x.1) :
    ∃ y, BkIn w y cs := by
  obtain ⟨xs, n, rfl, hx, hl, hlen, hf⟩ := DataW.trod_struct Tryd.underlying45 h
  rw [cellsBk] at hl
  have hlen : xs.length = 2 := hlen
  match cs, hl with
  | [c0, c1, c2, c3, c4, c5, c6], _ =>
  match xs, hlen with
  | [y0, y1], _ =>
  rw [hx] at hR
  have f0 : DataW.trod enc Tryd.prog w 0 spare held n 38 (([c0, c1, c2, c3, c4, c5, c6].drop 0).take (Tryd.prog.cellsOf 38)) = some y0 := hf 0 _ rfl
  rw [cellsInss] at f0
  have g0 : Wgt 38 y0.1 := Wgt.field Tryd.underlying45 hR (i := 0) rfl rfl
  have f1 : DataW.trod enc Tryd.prog w 0 spare held n 43 (([c0, c1, c2, c3, c4, c5, c6].drop 1).take (Tryd.prog.cellsOf 43)) = some y1 := hf 1 _ rfl
  rw [cellsTm] at f1
  have g1 : Wgt 43 y1.1 := Wgt.field Tryd.underlying45 hR (i := 1) rfl rfl
  obtain ⟨v0, l0, e0, h0⟩ := open_Inss f0 g0
  obtain ⟨a1, v1, e1, h1⟩ := open_Tm f1 g1
  simp [tmC] at e0 e1
  obtain ⟨q1, q2, q3, q4, q5, q6⟩ := e1
  subst e0 q1 q2 q3 q4 q5 q6
  exact ⟨⟨l0, a1⟩, _, _, rfl, h0, h1⟩

theorem open_Bks {fuel : Nat} {cs : List Value} {x : DataW H × List MemPlace} (h : DataW.trod enc Tryd.prog w 0 spare held fuel 23 cs = some x) (hR : Wgt 23 x.1) :
    ∃ (v : Value) (es : List Bk), cs = [v] ∧ BksIn w es v := by
  obtain ⟨A, C, es, e1, _, e2, e3⟩ := open_rows ⟨(⟨[], ⟨0, ⟨false, 0⟩, 0, 0, []⟩⟩ : Bk)⟩ (BkIn w) Tryd.underlying23 cellsBk (by decide) (fun m _ cs x hx hR => open_Bk hx hR) h hR
  rw [bytesBk] at e2
  exact ⟨_, es, e1, reach_len e2 (by decide), A, C, rfl, e3⟩

theorem open_Fm {fuel : Nat} {cs : List Value} {x : DataW H × List MemPlace} (h : DataW.trod enc Tryd.prog w 0 spare held fuel 25 cs = some x) (hR : Wgt 25 x.1) :
    ∃ y, FmIn w y cs := by
  obtain ⟨xs, n, rfl, hx, hl, hlen, hf⟩ := DataW.trod_struct Tryd.underlying25 h
  rw [cellsFm] at hl
  have hlen : xs.length = 6 := hlen
  match cs, hl with
  | [c0, c1, c2, c3, c4, c5], _ =>
  match xs, hlen with
  | [y0, y1, y2, y3, y4, y5], _ =>
  rw [hx] at hR
  have f0 : DataW.trod enc Tryd.prog w 0 spare held n 9 (([c0, c1, c2, c3, c4, c5].drop 0).take (Tryd.prog.cellsOf 9)) = some y0 := hf 0 _ rfl
  rw [cellsStr] at f0
  have f1 : DataW.trod enc Tryd.prog w 0 spare held n 22 (([c0, c1, c2, c3, c4, c5].drop 1).take (Tryd.prog.cellsOf 22)) = some y1 := hf 1 _ rfl
  rw [cellsInts] at f1
  have g1 : Wgt 22 y1.1 := Wgt.field Tryd.underlying25 hR (i := 1) rfl rfl
  have f2 : DataW.trod enc Tryd.prog w 0 spare held n 3 (([c0, c1, c2, c3, c4, c5].drop 2).take (Tryd.prog.cellsOf 3)) = some y2 := hf 2 _ rfl
  rw [cellsInt] at f2
  have f3 : DataW.trod enc Tryd.prog w 0 spare held n 3 (([c0, c1, c2, c3, c4, c5].drop 3).take (Tryd.prog.cellsOf 3)) = some y3 := hf 3 _ rfl
  rw [cellsInt] at f3
  have f4 : DataW.trod enc Tryd.prog w 0 spare held n 4 (([c0, c1, c2, c3, c4, c5].drop 4).take (Tryd.prog.cellsOf 4)) = some y4 := hf 4 _ rfl
  rw [cellsBool] at f4
  have f5 : DataW.trod enc Tryd.prog w 0 spare held n 23 (([c0, c1, c2, c3, c4, c5].drop 5).take (Tryd.prog.cellsOf 23)) = some y5 := hf 5 _ rfl
  rw [cellsBks] at f5
  have g5 : Wgt 23 y5.1 := Wgt.field Tryd.underlying25 hR (i := 5) rfl rfl
  obtain ⟨a0, e0, _, _⟩ := DataW.trod_string Tryd.underlying9 f0
  obtain ⟨v1, l1, e1, h1⟩ := open_Nos f1 g1
  obtain ⟨a2, e2, _, _⟩ := DataW.trod_int Tryd.underlying3 f2
  obtain ⟨a3, e3, _, _⟩ := DataW.trod_int Tryd.underlying3 f3
  obtain ⟨a4, e4, _, _⟩ := DataW.trod_bool Tryd.underlying4 f4
  obtain ⟨v5, l5, e5, h5⟩ := open_Bks f5 g5
  simp at e0 e1 e2 e3 e4 e5
  subst e0 e1 e2 e3 e4 e5
  exact ⟨⟨a0, l1, a2, a3, a4, l5⟩, _, _, rfl, h1, h5⟩


end
end Go.Proofs.YtligjglleomeeaaDoor
