/-
  Proved: a program's items and a type that can be read as data, and that fit memory, lie in memory as plain data do.
-/
import Derived.Test.YtdekgebpbopfpaaDoorFew
import Derived.Test.YtdekgebpbopfpaaDoorAlike
import Derived.Deep.Slices
import Derived.SizedLaws
namespace Go.Proofs.YtdekgebpbopfpaaDoor
open Go.RowKit Go.ChangeShapes Go.WideShapes Go.Deep

theorem cells25 : Tryd.prog.cellsOf 25 = 4 := by kernel_rfl
theorem cells36 : Tryd.prog.cellsOf 36 = 10 := by kernel_rfl
theorem cells38 : Tryd.prog.cellsOf 38 = 20 := by kernel_rfl
theorem cells40 : Tryd.prog.cellsOf 40 = 7 := by kernel_rfl
theorem cells47 : Tryd.prog.cellsOf 47 = 3 := by kernel_rfl
theorem cellsN3 : Tryd.prog.cellsOf 3 = 1 := by kernel_rfl
theorem cells4 : Tryd.prog.cellsOf 4 = 1 := by kernel_rfl
theorem cells9 : Tryd.prog.cellsOf 9 = 1 := by kernel_rfl
theorem cells23 : Tryd.prog.cellsOf 23 = 1 := by kernel_rfl
theorem cells32 : Tryd.prog.cellsOf 32 = 1 := by kernel_rfl
theorem cells33 : Tryd.prog.cellsOf 33 = 1 := by kernel_rfl
theorem cells34 : Tryd.prog.cellsOf 34 = 1 := by kernel_rfl
theorem bytes25 : Tryd.prog.bytesOf 25 = 56 := by kernel_rfl
theorem bytes38 : Tryd.prog.bytesOf 38 = 288 := by kernel_rfl
theorem bytes40 : Tryd.prog.bytesOf 40 = 88 := by kernel_rfl
theorem bytes47 : Tryd.prog.bytesOf 47 = 48 := by kernel_rfl

theorem addr_add (b o m : Nat) : (⟨b, o, none⟩ : Addr).add m = ⟨b, o + m, none⟩ := by unfold Addr.add; split <;> simp_all

theorem cell_at {w : World} {a : Addr} {v : Value} (h : w.cell? a = some v) : a.spot = none ∧ a.block < w.heap.size := by
  unfold World.cell? at h
  split at h
  · rename_i hh
    refine ⟨?_, (Array.getElem?_eq_some_iff.1 hh).1⟩
    cases hs : a.spot with
    | none => rfl
    | some _ => simp [hs] at h
  · cases h

/-- All that a datum weighs fits. -/
def Rch {H : Type} (t : TypeId) (d : DataW H) : Prop := ∀ n ∈ d.weights Tryd.prog t, n ≤ reachBytes

theorem mem_all {H : Type} {P : Program} {e : TypeId} : ∀ {l : List (DataW H)} {d : DataW H}, d ∈ l → ∀ n ∈ d.weights P e, n ∈ DataW.weightsAll P e l
  | d0 :: l, d, hd, n, hn => by
    simp only [DataW.weightsAll, List.mem_append]
    rcases List.mem_cons.1 hd with rfl | h
    · exact Or.inl hn
    · exact Or.inr (mem_all h n hn)

theorem Rch.field {H : Type} {t : TypeId} {fs : Array Field} (ht : Tryd.prog.underlying t = some (.struct fs)) {l : List (DataW H)} (h : Rch t (.agg l)) {i : Nat} {f : Field} {d : DataW H} (hf : fs[i]? = some f) (hd : l[i]? = some d) : Rch f.type d := fun n hn => h n (by
  have : (DataW.agg l).weights Tryd.prog t = DataW.weightsEach Tryd.prog (fs.toList.map (·.type)) l := by simp [DataW.weights, ht]
  rw [this]
  exact DataW.weights_mem_each (by simp [hf]) hd n hn)

theorem Rch.elem {H : Type} {t e : TypeId} (ht : Tryd.prog.underlying t = some (.slice e)) {l sp : List (DataW H)} (h : Rch t (.slice l sp)) : (l.length + sp.length) * Tryd.prog.bytesOf e ≤ reachBytes ∧ ∀ d ∈ l, Rch e d := by
  have : (DataW.slice l sp).weights Tryd.prog t = (l.length + sp.length) * Tryd.prog.bytesOf e :: (DataW.weightsAll Tryd.prog e l ++ DataW.weightsAll Tryd.prog e sp) := by simp [DataW.weights, ht]
  refine ⟨h _ (by rw [this]; exact List.mem_cons_self), fun d hd n hn => h n ?_⟩
  rw [this]
  exact List.mem_cons_of_mem _ (List.mem_append_left _ (mem_all hd n hn))

theorem FitF.more : ∀ {N M : Nat} {t : T}, N ≤ M → FitF N t → FitF M t
  | 0, _, _, _, h => absurd h id
  | _ + 1, 0, _, hm, _ => absurd hm (Nat.not_succ_le_zero _)
  | _ + 1, _ + 1, .mk _ _ _ _, hm, h => ⟨h.1, fun i hi => FitF.more (Nat.le_of_succ_le_succ hm) (h.2 i hi)⟩

section
variable {H : Type} {enc : TypeId × Value → H} {w : World} {spare : Nat → Bool} {held : Bool}

/-- The elements of a slice, each by itself: of whatever kind. -/
theorem open_rows {α : Type} (hα : Nonempty α) (good : α → List Value → Prop) {t e : TypeId} {size : Nat} (ht : Tryd.prog.underlying t = some (.slice e)) (hc : Tryd.prog.cellsOf e = size) (hs : 0 < size) {fuel : Nat}
    (ih : ∀ m, m < fuel → ∀ cs x, DataW.trod enc Tryd.prog w 0 spare held m e cs = some x → Rch e x.1 → ∃ y, good y cs) {cs : List Value} {x : DataW H × List MemPlace} (h : DataW.trod enc Tryd.prog w 0 spare held fuel t cs = some x) (hR : Rch t x.1) :
    ∃ (A : Option Addr) (C : Nat) (es : List α), cs = [.slice A es.length C] ∧ es.length ≤ 9223372036854775807 ∧ es.length * Tryd.prog.bytesOf e ≤ reachBytes ∧
      (∀ i (h : i < es.length), ∃ b o cs', A = some ⟨b, o, none⟩ ∧ RowAt w b (o + i * size) cs' ∧ good (es[i]'h) cs') := by
  rcases DataW.trod_slice ht h with ⟨rfl, rfl⟩ | ⟨a, len, cap, elems, rest, n, rfl, rfl, rfl, hb, hl, hm, hlen, hel, _, _⟩
  · exact ⟨none, 0, [], rfl, by simp, by simp, fun i hi => absurd hi (Nat.not_lt_zero _)⟩
  · obtain ⟨hw, hR⟩ := Rch.elem ht hR
    have each : ∀ i, i < len → ∃ z : List Value × α, w.cells? 0 (a.add (i * size)) size = some z.1 ∧ good z.2 z.1 := fun i hi => by
      have h1 := hel i hi
      rw [List.getElem?_eq_getElem (by omega), hc] at h1
      obtain ⟨cs', h2, h3⟩ := Option.bind_eq_some_iff.1 h1
      obtain ⟨y, hy⟩ := ih n (by omega) cs' _ h3 (hR _ (List.mem_map.2 ⟨_, List.getElem_mem (by omega), rfl⟩))
      exact ⟨(cs', y), h2, hy⟩
    haveI : Inhabited α := ⟨Classical.choice hα⟩
    obtain ⟨f, hf⟩ := choose_lt each
    refine ⟨some a, cap, (List.range len).map fun i => (f i).2, by simp, ?_, ?_, fun i hi => ?_⟩
    · simp only [maxLen] at hm
      simp
      omega
    · simp only [List.length_map, List.length_range] at hw ⊢
      rw [hlen, Nat.add_mul] at hw
      omega
    · have hi' : i < len := by simpa using hi
      have sp : a.spot = none := by
        obtain ⟨_, h2, h3⟩ := World.cells?_some (hf 0 (by omega)).1
        have h4 := h3 0 hs
        rw [List.getElem?_eq_getElem (by omega)] at h4
        have h5 := (cell_at h4).1
        rw [Nat.zero_mul] at h5
        simpa [Addr.add] using h5
      obtain ⟨b, o, sp'⟩ := a
      cases sp
      obtain ⟨h1, h2⟩ := hf i hi'
      obtain ⟨_, h3, h4⟩ := World.cells?_some h1
      refine ⟨b, o, (f i).1, rfl, ⟨?_, fun j v hj => ?_⟩, by simpa using h2⟩
      · have h5 := h4 0 hs
        rw [List.getElem?_eq_getElem (by omega), addr_add, addr_add] at h5
        exact (cell_at h5).2
      · have hj' : j < size := by
          have := (List.getElem?_eq_some_iff.1 hj).1
          omega
        have h5 := h4 j hj'
        rw [hj, addr_add, addr_add] at h5
        exact h5

theorem open_T : ∀ (fuel : Nat) (cs : List Value) (x : DataW H × List MemPlace), DataW.trod enc Tryd.prog w 0 spare held fuel 25 cs = some x → Rch 25 x.1 → ∃ t, TIn w t cs ∧ FitF fuel t := by
  intro fuel
  induction fuel using Nat.strongRecOn with
  | _ fuel ih =>
    intro cs x h hR
    obtain ⟨xs, n, rfl, hx, hl, hlen, hf⟩ := DataW.trod_struct Tryd.underlying25 h
    rw [hx] at hR
    rw [cells25] at hl
    have hlen : xs.length = 4 := hlen
    match cs, hl with
    | [c0, c1, c2, c3], _ =>
    match xs, hlen with
    | [y0, y1, y2, y3], _ =>
    have f0 : DataW.trod enc Tryd.prog w 0 spare held n 3 (([c0, c1, c2, c3].drop 0).take (Tryd.prog.cellsOf 3)) = some y0 := hf 0 _ rfl
    have f1 : DataW.trod enc Tryd.prog w 0 spare held n 9 (([c0, c1, c2, c3].drop 1).take (Tryd.prog.cellsOf 9)) = some y1 := hf 1 _ rfl
    have f2 : DataW.trod enc Tryd.prog w 0 spare held n 3 (([c0, c1, c2, c3].drop 2).take (Tryd.prog.cellsOf 3)) = some y2 := hf 2 _ rfl
    have f3 : DataW.trod enc Tryd.prog w 0 spare held n 23 (([c0, c1, c2, c3].drop 3).take (Tryd.prog.cellsOf 23)) = some y3 := hf 3 _ rfl
    have r3 : Rch 23 y3.1 := Rch.field Tryd.underlying25 hR (i := 3) rfl rfl
    rw [cellsN3] at f0 f2
    rw [cells9] at f1
    rw [cells23] at f3
    obtain ⟨k, e0, _, _⟩ := DataW.trod_int Tryd.underlying3 f0
    obtain ⟨s, e1, _, _⟩ := DataW.trod_string Tryd.underlying9 f1
    obtain ⟨m, e2, _, _⟩ := DataW.trod_int Tryd.underlying3 f2
    obtain ⟨A, C, es, e3, h1, h2, h3⟩ := open_rows ⟨.mk 0 ⟨#[]⟩ 0 []⟩ (fun t cs => TIn w t cs ∧ FitF n t) Tryd.underlying23 cells25 (by decide) (fun m hm cs x hx hr => by
      obtain ⟨t, a1, a2⟩ := ih m (by omega) cs x hx hr
      exact ⟨t, a1, a2.more (by omega)⟩) f3 r3
    simp at e0 e1 e2 e3
    subst e0 e1 e2 e3
    rw [bytes25] at h2
    unfold reachBytes at h2
    refine ⟨.mk k s m es, TIn.of ⟨h1, fun i hi => ?_⟩, ⟨by omega, fun i hi => ?_⟩⟩
    · obtain ⟨b, o, cs', a1, a2, a3, _⟩ := h3 i hi
      exact ⟨b, o, cs', a1, a2, a3⟩
    · obtain ⟨b, o, cs', a1, a2, _, a3⟩ := h3 i hi
      exact a3

theorem open_Ts {fuel : Nat} {cs : List Value} {x : DataW H × List MemPlace} (h : DataW.trod enc Tryd.prog w 0 spare held fuel 23 cs = some x) (hR : Rch 23 x.1) : ∃ A C es, cs = [.slice A es.length C] ∧ TsIn w es A ∧ es.length ≤ 140737488355328 := by
  obtain ⟨A, C, es, h1, h2, h4, h3⟩ := open_rows ⟨.mk 0 ⟨#[]⟩ 0 []⟩ (TIn w) Tryd.underlying23 cells25 (by decide) (fun m _ cs x hx hr => by
    obtain ⟨t, a1, _⟩ := open_T m cs x hx hr
    exact ⟨t, a1⟩) h hR
  rw [bytes25] at h4
  unfold reachBytes at h4
  exact ⟨A, C, es, h1, ⟨h2, h3⟩, by omega⟩

/-- A field. -/
def goodP (w : World) (p : ByteArray × T) (cs : List Value) : Prop := ∃ mu at' cs', cs = [.string p.1, .bool mu] ++ cs' ++ [.int .i64 at'] ∧ TIn w p.2 cs' ∧ Fit p.2

theorem open_P (fuel : Nat) (cs : List Value) (x : DataW H × List MemPlace) (h : DataW.trod enc Tryd.prog w 0 spare held fuel 40 cs = some x) (hR : Rch 40 x.1) : ∃ p, goodP w p cs := by
  obtain ⟨xs, n, rfl, hx, hl, hlen, hf⟩ := DataW.trod_struct Tryd.underlying40 h
  rw [hx] at hR
  rw [cells40] at hl
  have hlen : xs.length = 4 := hlen
  match cs, hl with
  | [c0, c1, c2, c3, c4, c5, c6], _ =>
  match xs, hlen with
  | [y0, y1, y2, y3], _ =>
  have f0 : DataW.trod enc Tryd.prog w 0 spare held n 9 (([c0, c1, c2, c3, c4, c5, c6].drop 0).take (Tryd.prog.cellsOf 9)) = some y0 := hf 0 _ rfl
  have f1 : DataW.trod enc Tryd.prog w 0 spare held n 4 (([c0, c1, c2, c3, c4, c5, c6].drop 1).take (Tryd.prog.cellsOf 4)) = some y1 := hf 1 _ rfl
  have f2 : DataW.trod enc Tryd.prog w 0 spare held n 25 (([c0, c1, c2, c3, c4, c5, c6].drop 2).take (Tryd.prog.cellsOf 25)) = some y2 := hf 2 _ rfl
  have f3 : DataW.trod enc Tryd.prog w 0 spare held n 3 (([c0, c1, c2, c3, c4, c5, c6].drop 6).take (Tryd.prog.cellsOf 3)) = some y3 := hf 3 _ rfl
  have r2 : Rch 25 y2.1 := Rch.field Tryd.underlying40 hR (i := 2) rfl rfl
  rw [cells9] at f0
  rw [cells4] at f1
  rw [cells25] at f2
  rw [cellsN3] at f3
  obtain ⟨s, e0, _, _⟩ := DataW.trod_string Tryd.underlying9 f0
  obtain ⟨mu, e1, _⟩ := DataW.trod_bool Tryd.underlying4 f1
  obtain ⟨t, h2, h3⟩ := open_T n _ _ f2 r2
  obtain ⟨m, e3, _, _⟩ := DataW.trod_int Tryd.underlying3 f3
  simp at e0 e1 e3 h2
  subst e0 e1 e3
  exact ⟨(s, t), mu, m, _, rfl, h2, ⟨_, h3⟩⟩

/-- A variant. -/
def goodV (w : World) (v : ByteArray × List T) (cs : List Value) : Prop := ∃ B C at', cs = [.string v.1, .slice B v.2.length C, .int .i64 at'] ∧ TsIn w v.2 B ∧ v.2.length ≤ 140737488355328

theorem open_V (fuel : Nat) (cs : List Value) (x : DataW H × List MemPlace) (h : DataW.trod enc Tryd.prog w 0 spare held fuel 47 cs = some x) (hR : Rch 47 x.1) : ∃ v, goodV w v cs := by
  obtain ⟨xs, n, rfl, hx, hl, hlen, hf⟩ := DataW.trod_struct Tryd.underlying47 h
  rw [hx] at hR
  rw [cells47] at hl
  have hlen : xs.length = 3 := hlen
  match cs, hl with
  | [c0, c1, c2], _ =>
  match xs, hlen with
  | [y0, y1, y2], _ =>
  have f0 : DataW.trod enc Tryd.prog w 0 spare held n 9 (([c0, c1, c2].drop 0).take (Tryd.prog.cellsOf 9)) = some y0 := hf 0 _ rfl
  have f1 : DataW.trod enc Tryd.prog w 0 spare held n 23 (([c0, c1, c2].drop 1).take (Tryd.prog.cellsOf 23)) = some y1 := hf 1 _ rfl
  have f2 : DataW.trod enc Tryd.prog w 0 spare held n 3 (([c0, c1, c2].drop 2).take (Tryd.prog.cellsOf 3)) = some y2 := hf 2 _ rfl
  have r1 : Rch 23 y1.1 := Rch.field Tryd.underlying47 hR (i := 1) rfl rfl
  rw [cells9] at f0
  rw [cells23] at f1
  rw [cellsN3] at f2
  obtain ⟨s, e0, _, _⟩ := DataW.trod_string Tryd.underlying9 f0
  obtain ⟨B, C, es, e1, h1, h2⟩ := open_Ts f1 r1
  obtain ⟨m, e2, _, _⟩ := DataW.trod_int Tryd.underlying3 f2
  simp at e0 e1 e2
  subst e0 e1 e2
  exact ⟨(s, es), B, C, m, rfl, h1, h2⟩

/-- The cells of a slice, of whatever kind. -/
theorem open_S {t e : TypeId} (ht : Tryd.prog.underlying t = some (.slice e)) {fuel : Nat} {cs : List Value} {x : DataW H × List MemPlace} (h : DataW.trod enc Tryd.prog w 0 spare held fuel t cs = some x) : ∃ A l C, cs = [.slice A l C] := by
  rcases DataW.trod_slice ht h with ⟨rfl, _⟩ | ⟨a, len, cap, _, _, _, _, rfl, _⟩
  · exact ⟨_, _, _, rfl⟩
  · exact ⟨_, _, _, rfl⟩

/-- The cells of a type, as such. -/
theorem open_T4 {fuel : Nat} {cs : List Value} {x : DataW H × List MemPlace} (h : DataW.trod enc Tryd.prog w 0 spare held fuel 25 cs = some x) : ∃ (k : Int) (s : ByteArray) (m : Int) (A : Option Addr) (l C : Nat), cs = [.int .i64 k, .string s, .int .i64 m, .slice A l C] := by
  obtain ⟨xs, n, rfl, _, hl, hlen, hf⟩ := DataW.trod_struct Tryd.underlying25 h
  rw [cells25] at hl
  have hlen : xs.length = 4 := hlen
  match cs, hl with
  | [c0, c1, c2, c3], _ =>
  match xs, hlen with
  | [y0, y1, y2, y3], _ =>
  have f0 : DataW.trod enc Tryd.prog w 0 spare held n 3 (([c0, c1, c2, c3].drop 0).take (Tryd.prog.cellsOf 3)) = some y0 := hf 0 _ rfl
  have f1 : DataW.trod enc Tryd.prog w 0 spare held n 9 (([c0, c1, c2, c3].drop 1).take (Tryd.prog.cellsOf 9)) = some y1 := hf 1 _ rfl
  have f2 : DataW.trod enc Tryd.prog w 0 spare held n 3 (([c0, c1, c2, c3].drop 2).take (Tryd.prog.cellsOf 3)) = some y2 := hf 2 _ rfl
  have f3 : DataW.trod enc Tryd.prog w 0 spare held n 23 (([c0, c1, c2, c3].drop 3).take (Tryd.prog.cellsOf 23)) = some y3 := hf 3 _ rfl
  rw [cellsN3] at f0 f2
  rw [cells9] at f1
  rw [cells23] at f3
  obtain ⟨k, e0, _, _⟩ := DataW.trod_int Tryd.underlying3 f0
  obtain ⟨s, e1, _, _⟩ := DataW.trod_string Tryd.underlying9 f1
  obtain ⟨m, e2, _, _⟩ := DataW.trod_int Tryd.underlying3 f2
  obtain ⟨A, l, C, e3⟩ := open_S Tryd.underlying23 f3
  simp at e0 e1 e2 e3
  subst e0 e1 e2 e3
  exact ⟨k, s, m, A, l, C, rfl⟩

/-- The cells of a tree, as such. -/
theorem open_X10 {fuel : Nat} {cs : List Value} {x : DataW H × List MemPlace} (h : DataW.trod enc Tryd.prog w 0 spare held fuel 36 cs = some x) :
    ∃ (e0 e1 e2 : Int) (e3 : ByteArray) (Y : Option Addr) (yl yc : Nat) (X : Option Addr) (xl xc : Nat) (e6 : Int) (e7 : ByteArray) (e8 : Int) (V : Option Addr) (vl vc : Nat),
      cs = [.int .i64 e0, .int .i64 e1, .int .i64 e2, .string e3, .slice Y yl yc, .slice X xl xc, .int .i64 e6, .string e7, .int .i64 e8, .slice V vl vc] := by
  obtain ⟨xs, n, rfl, _, hl, hlen, hf⟩ := DataW.trod_struct Tryd.underlying36 h
  rw [cells36] at hl
  have hlen : xs.length = 7 := hlen
  match cs, hl with
  | [c0, c1, c2, c3, c4, c5, c6, c7, c8, c9], _ =>
  match xs, hlen with
  | [y0, y1, y2, y3, y4, y5, y6], _ =>
  have f0 : DataW.trod enc Tryd.prog w 0 spare held n 3 (([c0, c1, c2, c3, c4, c5, c6, c7, c8, c9].drop 0).take (Tryd.prog.cellsOf 3)) = some y0 := hf 0 _ rfl
  have f1 : DataW.trod enc Tryd.prog w 0 spare held n 3 (([c0, c1, c2, c3, c4, c5, c6, c7, c8, c9].drop 1).take (Tryd.prog.cellsOf 3)) = some y1 := hf 1 _ rfl
  have f2 : DataW.trod enc Tryd.prog w 0 spare held n 3 (([c0, c1, c2, c3, c4, c5, c6, c7, c8, c9].drop 2).take (Tryd.prog.cellsOf 3)) = some y2 := hf 2 _ rfl
  have f3 : DataW.trod enc Tryd.prog w 0 spare held n 9 (([c0, c1, c2, c3, c4, c5, c6, c7, c8, c9].drop 3).take (Tryd.prog.cellsOf 9)) = some y3 := hf 3 _ rfl
  have f4 : DataW.trod enc Tryd.prog w 0 spare held n 34 (([c0, c1, c2, c3, c4, c5, c6, c7, c8, c9].drop 4).take (Tryd.prog.cellsOf 34)) = some y4 := hf 4 _ rfl
  have f5 : DataW.trod enc Tryd.prog w 0 spare held n 23 (([c0, c1, c2, c3, c4, c5, c6, c7, c8, c9].drop 5).take (Tryd.prog.cellsOf 23)) = some y5 := hf 5 _ rfl
  have f6 : DataW.trod enc Tryd.prog w 0 spare held n 25 (([c0, c1, c2, c3, c4, c5, c6, c7, c8, c9].drop 6).take (Tryd.prog.cellsOf 25)) = some y6 := hf 6 _ rfl
  rw [cellsN3] at f0 f1 f2
  rw [cells9] at f3
  rw [cells34] at f4
  rw [cells23] at f5
  rw [cells25] at f6
  obtain ⟨k, e0, _, _⟩ := DataW.trod_int Tryd.underlying3 f0
  obtain ⟨at', e1, _, _⟩ := DataW.trod_int Tryd.underlying3 f1
  obtain ⟨m, e2, _, _⟩ := DataW.trod_int Tryd.underlying3 f2
  obtain ⟨s, e3, _, _⟩ := DataW.trod_string Tryd.underlying9 f3
  obtain ⟨A, l, C, e4⟩ := open_S Tryd.underlying34 f4
  obtain ⟨B, l2, D, e5⟩ := open_S Tryd.underlying23 f5
  obtain ⟨p, q, r, Z, zl, zc, e6⟩ := open_T4 f6
  simp at e0 e1 e2 e3 e4 e5 e6
  obtain ⟨e6, e7, e8, e9⟩ := e6
  subst e0 e1 e2 e3 e4 e5 e6 e7 e8 e9
  exact ⟨_, _, _, _, _, _, _, _, _, _, _, _, _, _, _, _, rfl⟩

/-- An item. -/
def goodI (w : World) (it : It) (cs : List Value) : Prop := ∃ P C V D r, cs = icells it.k it.s P it.ps.length C V it.vs.length D r ∧ PsIn w it.ps P ∧ VsIn w it.vs V ∧ (∀ i (h : i < it.ps.length), Fit (it.ps[i]'h).2) ∧
  it.ps.length ≤ 140737488355328 ∧ it.vs.length ≤ 140737488355328 ∧ ∀ j (h' : j < it.vs.length), (it.vs[j]'h').2.length ≤ 140737488355328

theorem open_I (fuel : Nat) (cs : List Value) (x : DataW H × List MemPlace) (h : DataW.trod enc Tryd.prog w 0 spare held fuel 38 cs = some x) (hR : Rch 38 x.1) : ∃ it, goodI w it cs := by
  obtain ⟨xs, n, rfl, hx, hl, hlen, hf⟩ := DataW.trod_struct Tryd.underlying38 h
  rw [hx] at hR
  rw [cells38] at hl
  have hlen : xs.length = 8 := hlen
  match cs, hl with
  | [c0, c1, c2, c3, c4, c5, c6, c7, c8, c9, c10, c11, c12, c13, c14, c15, c16, c17, c18, c19], _ =>
  match xs, hlen with
  | [y0, y1, y2, y3, y4, y5, y6, y7], _ =>
  have f0 : DataW.trod enc Tryd.prog w 0 spare held n 3 (([c0, c1, c2, c3, c4, c5, c6, c7, c8, c9, c10, c11, c12, c13, c14, c15, c16, c17, c18, c19].drop 0).take (Tryd.prog.cellsOf 3)) = some y0 := hf 0 _ rfl
  have f1 : DataW.trod enc Tryd.prog w 0 spare held n 9 (([c0, c1, c2, c3, c4, c5, c6, c7, c8, c9, c10, c11, c12, c13, c14, c15, c16, c17, c18, c19].drop 1).take (Tryd.prog.cellsOf 9)) = some y1 := hf 1 _ rfl
  have f2 : DataW.trod enc Tryd.prog w 0 spare held n 3 (([c0, c1, c2, c3, c4, c5, c6, c7, c8, c9, c10, c11, c12, c13, c14, c15, c16, c17, c18, c19].drop 2).take (Tryd.prog.cellsOf 3)) = some y2 := hf 2 _ rfl
  have f3 : DataW.trod enc Tryd.prog w 0 spare held n 32 (([c0, c1, c2, c3, c4, c5, c6, c7, c8, c9, c10, c11, c12, c13, c14, c15, c16, c17, c18, c19].drop 3).take (Tryd.prog.cellsOf 32)) = some y3 := hf 3 _ rfl
  have f4 : DataW.trod enc Tryd.prog w 0 spare held n 33 (([c0, c1, c2, c3, c4, c5, c6, c7, c8, c9, c10, c11, c12, c13, c14, c15, c16, c17, c18, c19].drop 4).take (Tryd.prog.cellsOf 33)) = some y4 := hf 4 _ rfl
  have f5 : DataW.trod enc Tryd.prog w 0 spare held n 25 (([c0, c1, c2, c3, c4, c5, c6, c7, c8, c9, c10, c11, c12, c13, c14, c15, c16, c17, c18, c19].drop 5).take (Tryd.prog.cellsOf 25)) = some y5 := hf 5 _ rfl
  have f6 : DataW.trod enc Tryd.prog w 0 spare held n 3 (([c0, c1, c2, c3, c4, c5, c6, c7, c8, c9, c10, c11, c12, c13, c14, c15, c16, c17, c18, c19].drop 9).take (Tryd.prog.cellsOf 3)) = some y6 := hf 6 _ rfl
  have f7 : DataW.trod enc Tryd.prog w 0 spare held n 36 (([c0, c1, c2, c3, c4, c5, c6, c7, c8, c9, c10, c11, c12, c13, c14, c15, c16, c17, c18, c19].drop 10).take (Tryd.prog.cellsOf 36)) = some y7 := hf 7 _ rfl
  have r3 : Rch 32 y3.1 := Rch.field Tryd.underlying38 hR (i := 3) rfl rfl
  have r4 : Rch 33 y4.1 := Rch.field Tryd.underlying38 hR (i := 4) rfl rfl
  rw [cellsN3] at f0 f2 f6
  rw [cells9] at f1
  rw [cells32] at f3
  rw [cells33] at f4
  rw [cells25] at f5
  rw [cells36] at f7
  obtain ⟨k, e0, _, _⟩ := DataW.trod_int Tryd.underlying3 f0
  obtain ⟨s, e1, _, _⟩ := DataW.trod_string Tryd.underlying9 f1
  obtain ⟨m, e2, _, _⟩ := DataW.trod_int Tryd.underlying3 f2
  obtain ⟨P, C, ps, e3, p1, p2, p3⟩ := open_rows ⟨(⟨#[]⟩, .mk 0 ⟨#[]⟩ 0 [])⟩ (goodP w) Tryd.underlying32 cells40 (by decide) (fun m _ cs x hx hr => open_P m cs x hx hr) f3 r3
  obtain ⟨V, D, vs, e4, v1, v2, v3⟩ := open_rows ⟨(⟨#[]⟩, [])⟩ (goodV w) Tryd.underlying33 cells47 (by decide) (fun m _ cs x hx hr => open_V m cs x hx hr) f4 r4
  obtain ⟨q0, q1, q2, Z, zl, zc, e5⟩ := open_T4 f5
  obtain ⟨num, e6, _, _⟩ := DataW.trod_int Tryd.underlying3 f6
  obtain ⟨g0, g1, g2, g3, Y, yl, yc, X, xl, xc, g6, g7, g8, U, ul, uc, e7⟩ := open_X10 f7
  simp at e0 e1 e2 e3 e4 e5 e6 e7
  obtain ⟨e5, e5b, e5c, e5d⟩ := e5
  obtain ⟨e7, e7b, e7c, e7d, e7e, e7f, e7g, e7h, e7i, e7j⟩ := e7
  subst e0 e1 e2 e3 e4 e5 e5b e5c e5d e6 e7 e7b e7c e7d e7e e7f e7g e7h e7i e7j
  rw [bytes40] at p2
  rw [bytes47] at v2
  unfold reachBytes at p2 v2
  refine ⟨.mk k s ps vs, P, C, V, D, ⟨m, q0, q1, q2, Z, zl, zc, num, g0, g1, g2, g3, Y, yl, yc, X, xl, xc, g6, g7, g8, U, ul, uc⟩, rfl, ⟨p1, fun i hi => ?_⟩, ⟨v1, fun i hi => ?_⟩, fun i hi => ?_, by show ps.length ≤ _; omega, by show vs.length ≤ _; omega, fun i hi => ?_⟩
  · obtain ⟨b, o, cs', a1, a2, mu, at', cs2, rfl, a3, _⟩ := p3 i hi
    exact ⟨b, o, mu, at', cs2, a1, a2, a3⟩
  · obtain ⟨b, o, cs', a1, a2, B, C', at', rfl, a3, _⟩ := v3 i hi
    exact ⟨b, o, B, C', at', a1, a2, a3⟩
  · obtain ⟨b, o, cs', _, _, mu, at', cs2, _, _, a3⟩ := p3 i hi
    exact a3
  · obtain ⟨b, o, cs', _, _, B, C', at', _, _, a3⟩ := v3 i hi
    exact a3

theorem open_Is {fuel : Nat} {cs : List Value} {x : DataW H × List MemPlace} (h : DataW.trod enc Tryd.prog w 0 spare held fuel 22 cs = some x) (hR : Rch 22 x.1) :
    ∃ A C is, cs = [.slice A is.length C] ∧ IsIn w is A ∧ Siz is ∧ ∀ i (h : i < is.length) j (h' : j < (is[i]'h).ps.length), Fit ((is[i]'h).ps[j]'h').2 := by
  obtain ⟨A, C, is, e, h1, h2, h3⟩ := open_rows ⟨.mk 0 ⟨#[]⟩ [] []⟩ (goodI w) Tryd.underlying22 cells38 (by decide) (fun m _ cs x hx hr => open_I m cs x hx hr) h hR
  rw [bytes38] at h2
  unfold reachBytes at h2
  refine ⟨A, C, is, e, ⟨h1, fun i hi => ?_⟩, ⟨by omega, fun i hi => ?_⟩, fun i hi => ?_⟩
  · obtain ⟨b, o, cs', a1, a2, P, C', V, D, r, rfl, a3, a4, _⟩ := h3 i hi
    exact ⟨b, o, P, C', V, D, r, a1, a2, a3, a4⟩
  · obtain ⟨b, o, cs', _, _, P, C', V, D, r, _, _, _, _, a5, a6, a7⟩ := h3 i hi
    exact ⟨a5, a6, a7⟩
  · obtain ⟨b, o, cs', _, _, P, C', V, D, r, _, _, _, a4, _⟩ := h3 i hi
    exact a4
end
end Go.Proofs.YtdekgebpbopfpaaDoor
