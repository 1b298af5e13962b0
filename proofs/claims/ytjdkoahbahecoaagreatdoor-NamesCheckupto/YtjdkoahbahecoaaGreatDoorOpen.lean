/-
  Proved: a program's items and a type that can be read as data, and that fit memory, lie in memory as plain data do.
-/
import Derived.Test.YtjdkoahbahecoaaGreatDoorAddP
import Derived.Deep.Slices
import Derived.SizedLaws
namespace Go.Proofs.YtjdkoahbahecoaaGreatDoor
open Go.RowKit Go.ChangeShapes Go.WideShapes Go.Deep

theorem nT : Tryz.prog.cellsOf 25 = 4 := by kernel_rfl
theorem nX : Tryz.prog.cellsOf 41 = 10 := by kernel_rfl
theorem nI : Tryz.prog.cellsOf 43 = 20 := by kernel_rfl
theorem nP : Tryz.prog.cellsOf 88 = 7 := by kernel_rfl
theorem nV : Tryz.prog.cellsOf 45 = 3 := by kernel_rfl
theorem nInt : Tryz.prog.cellsOf 3 = 1 := by kernel_rfl
theorem nB : Tryz.prog.cellsOf 4 = 1 := by kernel_rfl
theorem nS : Tryz.prog.cellsOf 9 = 1 := by kernel_rfl
theorem nsT : Tryz.prog.cellsOf 23 = 1 := by kernel_rfl
theorem nsP : Tryz.prog.cellsOf 37 = 1 := by kernel_rfl
theorem nsV : Tryz.prog.cellsOf 38 = 1 := by kernel_rfl
theorem nsX : Tryz.prog.cellsOf 39 = 1 := by kernel_rfl
theorem yT : Tryz.prog.bytesOf 25 = 56 := by kernel_rfl
theorem yI : Tryz.prog.bytesOf 43 = 288 := by kernel_rfl
theorem yP : Tryz.prog.bytesOf 88 = 88 := by kernel_rfl
theorem yV : Tryz.prog.bytesOf 45 = 48 := by kernel_rfl

theorem addr_add (b o m : Nat) : (⟨b, o, none⟩ : Addr).add m = ⟨b, o + m, none⟩ := by unfold Addr.add; split <;> simp_all

theorem cell_at {w : World} {a : Addr} {v : Value} (h : w.cell? a = some v) : a.spot = none ∧ a.block < w.heap.size := by
  unfold World.cell? at h
  split at h
  · rename_i hh
    refine ⟨?_, (Array.getElem?_eq_some_iff.1 hh).1⟩
    cases hs : a.spot with
    | none => rfl
    | some _ => simp [hs] at h
  · cases h

/-- All that a datum weighs fits. -/
def Rch {H : Type} (t : TypeId) (d : DataW H) : Prop := ∀ n ∈ d.weights Tryz.prog t, n ≤ reachBytes

theorem mem_all {H : Type} {P : Program} {e : TypeId} : ∀ {l : List (DataW H)} {d : DataW H}, d ∈ l → ∀ n ∈ d.weights P e, n ∈ DataW.weightsAll P e l
  | d0 :: l, d, hd, n, hn => by
    simp only [DataW.weightsAll, List.mem_append]
    rcases List.mem_cons.1 hd with rfl | h
    · exact Or.inl hn
    · exact Or.inr (mem_all h n hn)

theorem Rch.field {H : Type} {t : TypeId} {fs : Array Field} (ht : Tryz.prog.underlying t = some (.struct fs)) {l : List (DataW H)} (h : Rch t (.agg l)) {i : Nat} {f : Field} {d : DataW H} (hf : fs[i]? = some f) (hd : l[i]? = some d) : Rch f.type d := fun n hn => h n (by
  have : (DataW.agg l).weights Tryz.prog t = DataW.weightsEach Tryz.prog (fs.toList.map (·.type)) l := by simp [DataW.weights, ht]
  rw [this]
  exact DataW.weights_mem_each (by simp [hf]) hd n hn)

theorem Rch.elem {H : Type} {t e : TypeId} (ht : Tryz.prog.underlying t = some (.slice e)) {l sp : List (DataW H)} (h : Rch t (.slice l sp)) : (l.length + sp.length) * Tryz.prog.bytesOf e ≤ reachBytes ∧ ∀ d ∈ l, Rch e d := by
  have : (DataW.slice l sp).weights Tryz.prog t = (l.length + sp.length) * Tryz.prog.bytesOf e :: (DataW.weightsAll Tryz.prog e l ++ DataW.weightsAll Tryz.prog e sp) := by simp [DataW.weights, ht]
  refine ⟨h _ (by rw [this]; exact List.mem_cons_self), fun d hd n hn => h n ?_⟩
  rw [this]
  exact List.mem_cons_of_mem _ (List.mem_append_left _ (mem_all hd n hn))

section
variable {H : Type} {enc : TypeId × Value → H} {w : World} {spare : Nat → Bool} {held : Bool}

/-- The elements of a slice, each by itself: of whatever kind. -/
theorem open_rows {α : Type} (hα : Nonempty α) (good : α → List Value → Prop) {t e : TypeId} {size : Nat} (ht : Tryz.prog.underlying t = some (.slice e)) (hc : Tryz.prog.cellsOf e = size) (hs : 0 < size) {fuel : Nat}
    (ih : ∀ m, m < fuel → ∀ cs x, DataW.trod enc Tryz.prog w 0 spare held m e cs = some x → Rch e x.1 → ∃ y, good y cs) {cs : List Value} {x : DataW H × List MemPlace} (h : DataW.trod enc Tryz.prog w 0 spare held fuel t cs = some x) (hR : Rch t x.1) :
    ∃ (A : Option Addr) (C : Nat) (es : List α), cs = [.slice A es.length C] ∧ es.length ≤ 9223372036854775807 ∧ es.length * Tryz.prog.bytesOf e ≤ reachBytes ∧
      (∀ i (h : i < es.length), ∃ b o cs', A = some ⟨b, o, none⟩ ∧ RowAt w b (o + i * size) cs' ∧ good (es[i]'h) cs') := by
  rcases DataW.trod_slice ht h with ⟨rfl, rfl⟩ | ⟨a, len, cap, elems, rest, n, rfl, rfl, rfl, hb, hl, hm, hlen, hel, _, _⟩
  · exact ⟨none, 0, [], rfl, by simp, by simp, fun i hi => absurd hi (Nat.not_lt_zero _)⟩
  · obtain ⟨hw, hR⟩ := Rch.elem ht hR
    have each : ∀ i, i < len → ∃ z : List Value × α, w.cells? 0 (a.add (i * size)) size = some z.1 ∧ good z.2 z.1 := fun i hi => by
      have h1 := hel i hi
      rw [List.getElem?_eq_getElem (by omega), hc] at h1
      obtain ⟨cs', h2, h3⟩ := Option.bind_eq_some_iff.1 h1
      obtain ⟨y, hy⟩ := ih n (by omega) cs' _ h3 (hR _ (List.mem_map.2 ⟨_, List.getElem_mem (by omega), rfl⟩))
      exact ⟨(cs', y), h2, hy⟩
    haveI : Inhabited α := ⟨Classical.choice hα⟩
    obtain ⟨f, hf⟩ := choose_lt each
    refine ⟨some a, cap, (List.range len).map fun i => (f i).2, by simp, ?_, ?_, fun i hi => ?_⟩
    · simp only [maxLen] at hm
      simp
      omega
    · simp only [List.length_map, List.length_range] at hw ⊢
      rw [hlen, Nat.add_mul] at hw
      omega
    · have hi' : i < len := by simpa using hi
      have sp : a.spot = none := by
        obtain ⟨_, h2, h3⟩ := World.cells?_some (hf 0 (by omega)).1
        have h4 := h3 0 hs
        rw [List.getElem?_eq_getElem (by omega)] at h4
        have h5 := (cell_at h4).1
        rw [Nat.zero_mul] at h5
        simpa [Addr.add] using h5
      obtain ⟨b, o, sp'⟩ := a
      cases sp
      obtain ⟨h1, h2⟩ := hf i hi'
      obtain ⟨_, h3, h4⟩ := World.cells?_some h1
      refine ⟨b, o, (f i).1, rfl, ⟨?_, fun j v hj => ?_⟩, by simpa using h2⟩
      · have h5 := h4 0 hs
        rw [List.getElem?_eq_getElem (by omega), addr_add, addr_add] at h5
        exact (cell_at h5).2
      · have hj' : j < size := by
          have := (List.getElem?_eq_some_iff.1 hj).1
          omega
        have h5 := h4 j hj'
        rw [hj, addr_add, addr_add] at h5
        exact h5

set_option maxRecDepth 100000 in
theorem open_T : ∀ (fuel : Nat) (cs : List Value) (x : DataW H × List MemPlace), DataW.trod enc Tryz.prog w 0 spare held fuel 25 cs = some x → Rch 25 x.1 → ∃ t, TIn w t cs := by
  intro fuel
  induction fuel using Nat.strongRecOn with
  | _ fuel ih =>
    intro cs x h hR
    obtain ⟨xs, n, rfl, hx, hl, hlen, hf⟩ := DataW.trod_struct Tryz.underlying25 h
    rw [hx] at hR
    rw [nT] at hl
    have hlen : xs.length = 4 := hlen
    match cs, hl with
    | [c0, c1, c2, c3], _ =>
    match xs, hlen with
    | [y0, y1, y2, y3], _ =>
    have f0 : DataW.trod enc Tryz.prog w 0 spare held n 3 (([c0, c1, c2, c3].drop 0).take (Tryz.prog.cellsOf 3)) = some y0 := hf 0 _ rfl
    have f1 : DataW.trod enc Tryz.prog w 0 spare held n 9 (([c0, c1, c2, c3].drop 1).take (Tryz.prog.cellsOf 9)) = some y1 := hf 1 _ rfl
    have f2 : DataW.trod enc Tryz.prog w 0 spare held n 3 (([c0, c1, c2, c3].drop 2).take (Tryz.prog.cellsOf 3)) = some y2 := hf 2 _ rfl
    have f3 : DataW.trod enc Tryz.prog w 0 spare held n 23 (([c0, c1, c2, c3].drop 3).take (Tryz.prog.cellsOf 23)) = some y3 := hf 3 _ rfl
    have r3 : Rch 23 y3.1 := Rch.field Tryz.underlying25 hR (i := 3) rfl rfl
    rw [nInt] at f0 f2
    rw [nS] at f1
    rw [nsT] at f3
    obtain ⟨k, e0, _, _⟩ := DataW.trod_int Tryz.underlying3 f0
    obtain ⟨s, e1, _, _⟩ := DataW.trod_string Tryz.underlying9 f1
    obtain ⟨m, e2, _, _⟩ := DataW.trod_int Tryz.underlying3 f2
    obtain ⟨A, C, es, e3, h1, h2, h3⟩ := open_rows ⟨.mk 0 ⟨#[]⟩ 0 []⟩ (TIn w) Tryz.underlying23 nT (by decide) (fun m hm cs x hx hr => ih m (by omega) cs x hx hr) f3 r3
    simp at e0 e1 e2 e3
    subst e0 e1 e2 e3
    exact ⟨.mk k s m es, TIn.of ⟨h1, h3⟩⟩

theorem open_Ts {fuel : Nat} {cs : List Value} {x : DataW H × List MemPlace} (h : DataW.trod enc Tryz.prog w 0 spare held fuel 23 cs = some x) (hR : Rch 23 x.1) : ∃ A C es, cs = [.slice A es.length C] ∧ TsIn w es A ∧ es.length ≤ 140737488355328 := by
  obtain ⟨A, C, es, h1, h2, h4, h3⟩ := open_rows ⟨.mk 0 ⟨#[]⟩ 0 []⟩ (TIn w) Tryz.underlying23 nT (by decide) (fun m _ cs x hx hr => open_T m cs x hx hr) h hR
  rw [yT] at h4
  unfold reachBytes at h4
  exact ⟨A, C, es, h1, ⟨h2, h3⟩, by omega⟩

set_option maxRecDepth 100000 in
theorem open_P (fuel : Nat) (cs : List Value) (x : DataW H × List MemPlace) (h : DataW.trod enc Tryz.prog w 0 spare held fuel 88 cs = some x) (hR : Rch 88 x.1) : ∃ p, PIn w p cs := by
  obtain ⟨xs, n, rfl, hx, hl, hlen, hf⟩ := DataW.trod_struct Tryz.underlying88 h
  rw [hx] at hR
  rw [nP] at hl
  have hlen : xs.length = 4 := hlen
  match cs, hl with
  | [c0, c1, c2, c3, c4, c5, c6], _ =>
  match xs, hlen with
  | [y0, y1, y2, y3], _ =>
  have f0 : DataW.trod enc Tryz.prog w 0 spare held n 9 (([c0, c1, c2, c3, c4, c5, c6].drop 0).take (Tryz.prog.cellsOf 9)) = some y0 := hf 0 _ rfl
  have f1 : DataW.trod enc Tryz.prog w 0 spare held n 4 (([c0, c1, c2, c3, c4, c5, c6].drop 1).take (Tryz.prog.cellsOf 4)) = some y1 := hf 1 _ rfl
  have f2 : DataW.trod enc Tryz.prog w 0 spare held n 25 (([c0, c1, c2, c3, c4, c5, c6].drop 2).take (Tryz.prog.cellsOf 25)) = some y2 := hf 2 _ rfl
  have f3 : DataW.trod enc Tryz.prog w 0 spare held n 3 (([c0, c1, c2, c3, c4, c5, c6].drop 6).take (Tryz.prog.cellsOf 3)) = some y3 := hf 3 _ rfl
  have r2 : Rch 25 y2.1 := Rch.field Tryz.underlying88 hR (i := 2) rfl rfl
  rw [nS] at f0
  rw [nB] at f1
  rw [nT] at f2
  rw [nInt] at f3
  obtain ⟨s, e0, _, _⟩ := DataW.trod_string Tryz.underlying9 f0
  obtain ⟨mu, e1, _⟩ := DataW.trod_bool Tryz.underlying4 f1
  obtain ⟨t, h2⟩ := open_T n _ _ f2 r2
  obtain ⟨m, e3, _, _⟩ := DataW.trod_int Tryz.underlying3 f3
  simp at e0 e1 e3 h2
  subst e0 e1 e3
  exact ⟨⟨s, t, m⟩, mu, _, rfl, h2⟩

/-- A variant. -/
def goodV (w : World) (v : Vj) (cs : List Value) : Prop := VIn w v cs ∧ v.ts.length ≤ 140737488355328

set_option maxRecDepth 100000 in
theorem open_V (fuel : Nat) (cs : List Value) (x : DataW H × List MemPlace) (h : DataW.trod enc Tryz.prog w 0 spare held fuel 45 cs = some x) (hR : Rch 45 x.1) : ∃ v, goodV w v cs := by
  obtain ⟨xs, n, rfl, hx, hl, hlen, hf⟩ := DataW.trod_struct Tryz.underlying45 h
  rw [hx] at hR
  rw [nV] at hl
  have hlen : xs.length = 3 := hlen
  match cs, hl with
  | [c0, c1, c2], _ =>
  match xs, hlen with
  | [y0, y1, y2], _ =>
  have f0 : DataW.trod enc Tryz.prog w 0 spare held n 9 (([c0, c1, c2].drop 0).take (Tryz.prog.cellsOf 9)) = some y0 := hf 0 _ rfl
  have f1 : DataW.trod enc Tryz.prog w 0 spare held n 23 (([c0, c1, c2].drop 1).take (Tryz.prog.cellsOf 23)) = some y1 := hf 1 _ rfl
  have f2 : DataW.trod enc Tryz.prog w 0 spare held n 3 (([c0, c1, c2].drop 2).take (Tryz.prog.cellsOf 3)) = some y2 := hf 2 _ rfl
  have r1 : Rch 23 y1.1 := Rch.field Tryz.underlying45 hR (i := 1) rfl rfl
  rw [nS] at f0
  rw [nsT] at f1
  rw [nInt] at f2
  obtain ⟨s, e0, _, _⟩ := DataW.trod_string Tryz.underlying9 f0
  obtain ⟨B, C, es, e1, h1, h2⟩ := open_Ts f1 r1
  obtain ⟨m, e2, _, _⟩ := DataW.trod_int Tryz.underlying3 f2
  simp at e0 e1 e2
  subst e0 e1 e2
  exact ⟨⟨s, es, m⟩, ⟨B, C, rfl, h1⟩, h2⟩

/-- The cells of a slice, of whatever kind. -/
theorem open_S {t e : TypeId} (ht : Tryz.prog.underlying t = some (.slice e)) {fuel : Nat} {cs : List Value} {x : DataW H × List MemPlace} (h : DataW.trod enc Tryz.prog w 0 spare held fuel t cs = some x) : ∃ A l C, cs = [.slice A l C] := by
  rcases DataW.trod_slice ht h with ⟨rfl, _⟩ | ⟨a, len, cap, _, _, _, _, rfl, _⟩
  · exact ⟨_, _, _, rfl⟩
  · exact ⟨_, _, _, rfl⟩

set_option maxRecDepth 100000 in
/-- The cells of a type, as such. -/
theorem open_T4 {fuel : Nat} {cs : List Value} {x : DataW H × List MemPlace} (h : DataW.trod enc Tryz.prog w 0 spare held fuel 25 cs = some x) : ∃ (k : Int) (s : ByteArray) (m : Int) (A : Option Addr) (l C : Nat), cs = [.int .i64 k, .string s, .int .i64 m, .slice A l C] := by
  obtain ⟨xs, n, rfl, _, hl, hlen, hf⟩ := DataW.trod_struct Tryz.underlying25 h
  rw [nT] at hl
  have hlen : xs.length = 4 := hlen
  match cs, hl with
  | [c0, c1, c2, c3], _ =>
  match xs, hlen with
  | [y0, y1, y2, y3], _ =>
  have f0 : DataW.trod enc Tryz.prog w 0 spare held n 3 (([c0, c1, c2, c3].drop 0).take (Tryz.prog.cellsOf 3)) = some y0 := hf 0 _ rfl
  have f1 : DataW.trod enc Tryz.prog w 0 spare held n 9 (([c0, c1, c2, c3].drop 1).take (Tryz.prog.cellsOf 9)) = some y1 := hf 1 _ rfl
  have f2 : DataW.trod enc Tryz.prog w 0 spare held n 3 (([c0, c1, c2, c3].drop 2).take (Tryz.prog.cellsOf 3)) = some y2 := hf 2 _ rfl
  have f3 : DataW.trod enc Tryz.prog w 0 spare held n 23 (([c0, c1, c2, c3].drop 3).take (Tryz.prog.cellsOf 23)) = some y3 := hf 3 _ rfl
  rw [nInt] at f0 f2
  rw [nS] at f1
  rw [nsT] at f3
  obtain ⟨k, e0, _, _⟩ := DataW.trod_int Tryz.underlying3 f0
  obtain ⟨s, e1, _, _⟩ := DataW.trod_string Tryz.underlying9 f1
  obtain ⟨m, e2, _, _⟩ := DataW.trod_int Tryz.underlying3 f2
  obtain ⟨A, l, C, e3⟩ := open_S Tryz.underlying23 f3
  simp at e0 e1 e2 e3
  subst e0 e1 e2 e3
  exact ⟨k, s, m, A, l, C, rfl⟩

set_option maxRecDepth 100000 in
/-- The cells of a tree, as such. -/
theorem open_X10 {fuel : Nat} {cs : List Value} {x : DataW H × List MemPlace} (h : DataW.trod enc Tryz.prog w 0 spare held fuel 41 cs = some x) :
    ∃ (e0 e1 e2 : Int) (e3 : ByteArray) (Y : Option Addr) (yl yc : Nat) (X : Option Addr) (xl xc : Nat) (e6 : Int) (e7 : ByteArray) (e8 : Int) (V : Option Addr) (vl vc : Nat),
      cs = [.int .i64 e0, .int .i64 e1, .int .i64 e2, .string e3, .slice Y yl yc, .slice X xl xc, .int .i64 e6, .string e7, .int .i64 e8, .slice V vl vc] := by
  obtain ⟨xs, n, rfl, _, hl, hlen, hf⟩ := DataW.trod_struct Tryz.underlying41 h
  rw [nX] at hl
  have hlen : xs.length = 7 := hlen
  match cs, hl with
  | [c0, c1, c2, c3, c4, c5, c6, c7, c8, c9], _ =>
  match xs, hlen with
  | [y0, y1, y2, y3, y4, y5, y6], _ =>
  have f0 : DataW.trod enc Tryz.prog w 0 spare held n 3 (([c0, c1, c2, c3, c4, c5, c6, c7, c8, c9].drop 0).take (Tryz.prog.cellsOf 3)) = some y0 := hf 0 _ rfl
  have f1 : DataW.trod enc Tryz.prog w 0 spare held n 3 (([c0, c1, c2, c3, c4, c5, c6, c7, c8, c9].drop 1).take (Tryz.prog.cellsOf 3)) = some y1 := hf 1 _ rfl
  have f2 : DataW.trod enc Tryz.prog w 0 spare held n 3 (([c0, c1, c2, c3, c4, c5, c6, c7, c8, c9].drop 2).take (Tryz.prog.cellsOf 3)) = some y2 := hf 2 _ rfl
  have f3 : DataW.trod enc Tryz.prog w 0 spare held n 9 (([c0, c1, c2, c3, c4, c5, c6, c7, c8, c9].drop 3).take (Tryz.prog.cellsOf 9)) = some y3 := hf 3 _ rfl
  have f4 : DataW.trod enc Tryz.prog w 0 spare held n 39 (([c0, c1, c2, c3, c4, c5, c6, c7, c8, c9].drop 4).take (Tryz.prog.cellsOf 39)) = some y4 := hf 4 _ rfl
  have f5 : DataW.trod enc Tryz.prog w 0 spare held n 23 (([c0, c1, c2, c3, c4, c5, c6, c7, c8, c9].drop 5).take (Tryz.prog.cellsOf 23)) = some y5 := hf 5 _ rfl
  have f6 : DataW.trod enc Tryz.prog w 0 spare held n 25 (([c0, c1, c2, c3, c4, c5, c6, c7, c8, c9].drop 6).take (Tryz.prog.cellsOf 25)) = some y6 := hf 6 _ rfl
  rw [nInt] at f0 f1 f2
  rw [nS] at f3
  rw [nsX] at f4
  rw [nsT] at f5
  rw [nT] at f6
  obtain ⟨k, e0, _, _⟩ := DataW.trod_int Tryz.underlying3 f0
  obtain ⟨at', e1, _, _⟩ := DataW.trod_int Tryz.underlying3 f1
  obtain ⟨m, e2, _, _⟩ := DataW.trod_int Tryz.underlying3 f2
  obtain ⟨s, e3, _, _⟩ := DataW.trod_string Tryz.underlying9 f3
  obtain ⟨A, l, C, e4⟩ := open_S Tryz.underlying39 f4
  obtain ⟨B, l2, D, e5⟩ := open_S Tryz.underlying23 f5
  obtain ⟨p, q, r, Z, zl, zc, e6⟩ := open_T4 f6
  simp at e0 e1 e2 e3 e4 e5 e6
  obtain ⟨e6, e7, e8, e9⟩ := e6
  subst e0 e1 e2 e3 e4 e5 e6 e7 e8 e9
  exact ⟨_, _, _, _, _, _, _, _, _, _, _, _, _, _, _, _, rfl⟩

/-- An item. -/
def goodI (w : World) (j : Jt) (cs : List Value) : Prop := JIn w j cs ∧ j.ps.length ≤ 140737488355328 ∧ j.vs.length ≤ 140737488355328 ∧ ∀ k (h' : k < j.vs.length), (j.vs[k]'h').ts.length ≤ 140737488355328

set_option maxRecDepth 100000 in
theorem open_I (fuel : Nat) (cs : List Value) (x : DataW H × List MemPlace) (h : DataW.trod enc Tryz.prog w 0 spare held fuel 43 cs = some x) (hR : Rch 43 x.1) : ∃ j, goodI w j cs := by
  obtain ⟨xs, n, rfl, hx, hl, hlen, hf⟩ := DataW.trod_struct Tryz.underlying43 h
  rw [hx] at hR
  rw [nI] at hl
  have hlen : xs.length = 8 := hlen
  match cs, hl with
  | [c0, c1, c2, c3, c4, c5, c6, c7, c8, c9, c10, c11, c12, c13, c14, c15, c16, c17, c18, c19], _ =>
  match xs, hlen with
  | [y0, y1, y2, y3, y4, y5, y6, y7], _ =>
  have f0 : DataW.trod enc Tryz.prog w 0 spare held n 3 (([c0, c1, c2, c3, c4, c5, c6, c7, c8, c9, c10, c11, c12, c13, c14, c15, c16, c17, c18, c19].drop 0).take (Tryz.prog.cellsOf 3)) = some y0 := hf 0 _ rfl
  have f1 : DataW.trod enc Tryz.prog w 0 spare held n 9 (([c0, c1, c2, c3, c4, c5, c6, c7, c8, c9, c10, c11, c12, c13, c14, c15, c16, c17, c18, c19].drop 1).take (Tryz.prog.cellsOf 9)) = some y1 := hf 1 _ rfl
  have f2 : DataW.trod enc Tryz.prog w 0 spare held n 3 (([c0, c1, c2, c3, c4, c5, c6, c7, c8, c9, c10, c11, c12, c13, c14, c15, c16, c17, c18, c19].drop 2).take (Tryz.prog.cellsOf 3)) = some y2 := hf 2 _ rfl
  have f3 : DataW.trod enc Tryz.prog w 0 spare held n 37 (([c0, c1, c2, c3, c4, c5, c6, c7, c8, c9, c10, c11, c12, c13, c14, c15, c16, c17, c18, c19].drop 3).take (Tryz.prog.cellsOf 37)) = some y3 := hf 3 _ rfl
  have f4 : DataW.trod enc Tryz.prog w 0 spare held n 38 (([c0, c1, c2, c3, c4, c5, c6, c7, c8, c9, c10, c11, c12, c13, c14, c15, c16, c17, c18, c19].drop 4).take (Tryz.prog.cellsOf 38)) = some y4 := hf 4 _ rfl
  have f5 : DataW.trod enc Tryz.prog w 0 spare held n 25 (([c0, c1, c2, c3, c4, c5, c6, c7, c8, c9, c10, c11, c12, c13, c14, c15, c16, c17, c18, c19].drop 5).take (Tryz.prog.cellsOf 25)) = some y5 := hf 5 _ rfl
  have f6 : DataW.trod enc Tryz.prog w 0 spare held n 3 (([c0, c1, c2, c3, c4, c5, c6, c7, c8, c9, c10, c11, c12, c13, c14, c15, c16, c17, c18, c19].drop 9).take (Tryz.prog.cellsOf 3)) = some y6 := hf 6 _ rfl
  have f7 : DataW.trod enc Tryz.prog w 0 spare held n 41 (([c0, c1, c2, c3, c4, c5, c6, c7, c8, c9, c10, c11, c12, c13, c14, c15, c16, c17, c18, c19].drop 10).take (Tryz.prog.cellsOf 41)) = some y7 := hf 7 _ rfl
  have r3 : Rch 37 y3.1 := Rch.field Tryz.underlying43 hR (i := 3) rfl rfl
  have r4 : Rch 38 y4.1 := Rch.field Tryz.underlying43 hR (i := 4) rfl rfl
  have r5 : Rch 25 y5.1 := Rch.field Tryz.underlying43 hR (i := 5) rfl rfl
  rw [nInt] at f0 f2 f6
  rw [nS] at f1
  rw [nsP] at f3
  rw [nsV] at f4
  rw [nT] at f5
  rw [nX] at f7
  obtain ⟨k, e0, _, _⟩ := DataW.trod_int Tryz.underlying3 f0
  obtain ⟨s, e1, _, _⟩ := DataW.trod_string Tryz.underlying9 f1
  obtain ⟨m, e2, _, _⟩ := DataW.trod_int Tryz.underlying3 f2
  obtain ⟨P, C, ps, e3, p1, p2, p3⟩ := open_rows ⟨⟨⟨#[]⟩, .mk 0 ⟨#[]⟩ 0 [], 0⟩⟩ (PIn w) Tryz.underlying37 nP (by decide) (fun m _ cs x hx hr => open_P m cs x hx hr) f3 r3
  obtain ⟨V, D, vs, e4, v1, v2, v3⟩ := open_rows ⟨⟨⟨#[]⟩, [], 0⟩⟩ (goodV w) Tryz.underlying38 nV (by decide) (fun m _ cs x hx hr => open_V m cs x hx hr) f4 r4
  obtain ⟨tt, ht5⟩ := open_T n _ _ f5 r5
  obtain ⟨q0, q1, q2, Z, zl, zc, e5⟩ := open_T4 f5
  rw [e5] at ht5
  obtain ⟨num, e6, _, _⟩ := DataW.trod_int Tryz.underlying3 f6
  obtain ⟨g0, g1, g2, g3, Y, yl, yc, X, xl, xc, g6, g7, g8, U, ul, uc, e7⟩ := open_X10 f7
  simp at e0 e1 e2 e3 e4 e5 e6 e7
  obtain ⟨e5, e5b, e5c, e5d⟩ := e5
  obtain ⟨e7, e7b, e7c, e7d, e7e, e7f, e7g, e7h, e7i, e7j⟩ := e7
  subst e0 e1 e2 e3 e4 e5 e5b e5c e5d e6 e7 e7b e7c e7d e7e e7f e7g e7h e7i e7j
  rw [yP] at p2
  rw [yV] at v2
  unfold reachBytes at p2 v2
  refine ⟨⟨k, s, m, ps, vs, tt, num⟩, ⟨P, C, V, D, ⟨m, q0, q1, q2, Z, zl, zc, num, g0, g1, g2, g3, Y, yl, yc, X, xl, xc, g6, g7, g8, U, ul, uc⟩, rfl, rfl, rfl, ht5, ⟨p1, p3⟩, ⟨v1, fun i hi => ?_⟩⟩, by show ps.length ≤ _; omega, by show vs.length ≤ _; omega, fun i hi => ?_⟩
  · obtain ⟨b, o, cs', a1, a2, a3, _⟩ := v3 i hi
    exact ⟨b, o, cs', a1, a2, a3⟩
  · obtain ⟨b, o, cs', _, _, _, a3⟩ := v3 i hi
    exact a3

/-- Lists are as long as memory lets them be. -/
def SizJ (js : List Jt) : Prop := js.length ≤ 140737488355328 ∧ ∀ i (h : i < js.length), (js[i]'h).ps.length ≤ 140737488355328 ∧ (js[i]'h).vs.length ≤ 140737488355328 ∧ ∀ k (h' : k < (js[i]'h).vs.length), ((js[i]'h).vs[k]'h').ts.length ≤ 140737488355328

theorem SizJ.siz {js : List Jt} (h : SizJ js) : Siz (its js) :=
  ⟨by rw [its_len]; exact h.1, fun i hi => by
    have hi' : i < js.length := by rw [its_len] at hi; exact hi
    have e : (its js)[i]'hi = (js[i]'hi').it := by simp [its]
    rw [e]
    obtain ⟨h1, h2, h3⟩ := h.2 i hi'
    refine ⟨by simpa [Jt.it] using h1, by simpa [Jt.it] using h2, fun j hj => ?_⟩
    have := h3 j (by simpa [Jt.it] using hj)
    simpa [Jt.it] using this⟩

theorem open_Js {fuel : Nat} {cs : List Value} {x : DataW H × List MemPlace} (h : DataW.trod enc Tryz.prog w 0 spare held fuel 22 cs = some x) (hR : Rch 22 x.1) :
    ∃ A C js, cs = [.slice A (js : List Jt).length C] ∧ JsIn w js A ∧ SizJ js := by
  obtain ⟨A, C, js, e, h1, h2, h3⟩ := open_rows ⟨⟨0, ⟨#[]⟩, 0, [], [], .mk 0 ⟨#[]⟩ 0 [], 0⟩⟩ (goodI w) Tryz.underlying22 nI (by decide) (fun m _ cs x hx hr => open_I m cs x hx hr) h hR
  rw [yI] at h2
  unfold reachBytes at h2
  refine ⟨A, C, js, e, ⟨h1, fun i hi => ?_⟩, ⟨by omega, fun i hi => ?_⟩⟩
  · obtain ⟨b, o, cs', a1, a2, a3, _⟩ := h3 i hi
    exact ⟨b, o, cs', a1, a2, a3⟩
  · obtain ⟨b, o, cs', _, _, _, a5, a6, a7⟩ := h3 i hi
    exact ⟨a5, a6, a7⟩
end
end Go.Proofs.YtjdkoahbahecoaaGreatDoor
