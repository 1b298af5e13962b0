/-
  Proved: a type that can be read as data, of a bulk within the bound, lies in memory with names no longer than that; the tables that are listed hold what is listed.
-/
import Derived.Test.YtdpmdonneoadbaaDoorTypesWalk
import Derived.Test.YtdpmdonneoadbaaDoorOpen
import Derived.Test.YtdpmdonneoadbaaDoorCards
import Derived.Test.YtdpmdonneoadbaaDoorTie
import Derived.ProofKit
import Derived.OpenShut
import Derived.LaidMore
import Derived.Stop.Joined
import Derived.Stop.LaidErr
import Derived.Deep.DeepHandedRow
import Derived.Lib.LaidTab
namespace Go.Proofs.YtdpmdonneoadbaaDoor
open Go.ChangeShapes Go.WideShapes Go.ChangeAt Go.RowKit Go.Deep

theorem part_le {H : Type} {d : DataW H} : ∀ {l : List (DataW H)} {i : Nat}, l[i]? = some d → Rows.uptoBulk d ≤ Rows.uptoBulkAll l
  | [], _, h => by simp at h
  | x :: l, 0, h => by
    simp at h
    subst h
    simp only [Rows.uptoBulkAll]
    omega
  | x :: l, i + 1, h => by
    have := part_le (l := l) (i := i) (by simpa using h)
    simp only [Rows.uptoBulkAll]
    omega

section
variable {H : Type} {enc : TypeId × Value → H} {w : World} {spare : Nat → Bool} {held : Bool}

theorem open_rows2 {α : Type} (hα : Nonempty α) (good : α → List Value → DataW H → Prop) {t e : TypeId} {size : Nat} (ht : Tryd.prog.underlying t = some (.slice e)) (hc : Tryd.prog.cellsOf e = size) (hs : 0 < size) {fuel : Nat}
    (ih : ∀ m, m < fuel → ∀ cs x, DataW.trod enc Tryd.prog w 0 spare held m e cs = some x → ∃ y, good y cs x.1) {cs : List Value} {x : DataW H × List MemPlace} (h : DataW.trod enc Tryd.prog w 0 spare held fuel t cs = some x) :
    ∃ (A : Option Addr) (C : Nat) (es : List α), cs = [.slice A es.length C] ∧ es.length ≤ 9223372036854775807 ∧
      (∀ i (h : i < es.length), ∃ b o cs' d, A = some ⟨b, o, none⟩ ∧ RowAt w b (o + i * size) cs' ∧ good (es[i]'h) cs' d ∧ Rows.uptoBulk d ≤ Rows.uptoBulk x.1) := by
  rcases DataW.trod_slice ht h with ⟨rfl, rfl⟩ | ⟨a, len, cap, elems, rest, n, rfl, rfl, rfl, hb, hl, hm, hlen, hel, _, _⟩
  · exact ⟨none, 0, [], rfl, by simp, fun i hi => absurd hi (Nat.not_lt_zero _)⟩
  · have each : ∀ i, i < len → ∃ z : List Value × α × DataW H, w.cells? 0 (a.add (i * size)) size = some z.1 ∧ good z.2.1 z.1 z.2.2 ∧ (elems.map (·.1))[i]? = some z.2.2 := fun i hi => by
      have h1 := hel i hi
      rw [List.getElem?_eq_getElem (by omega), hc] at h1
      obtain ⟨cs', h2, h3⟩ := Option.bind_eq_some_iff.1 h1
      obtain ⟨y, hy⟩ := ih n (by omega) cs' _ h3
      exact ⟨(cs', y, _), h2, hy, by simp [List.getElem?_eq_getElem (show i < elems.length by omega)]⟩
    haveI : Inhabited (DataW H) := ⟨.nil⟩
    haveI : Inhabited α := ⟨Classical.choice hα⟩
    obtain ⟨f, hf⟩ := choose_lt each
    refine ⟨some a, cap, (List.range len).map fun i => (f i).2.1, by simp, ?_, fun i hi => ?_⟩
    · simp only [maxLen] at hm
      simp
      omega
    · have hi' : i < len := by simpa using hi
      have sp : a.spot = none := by
        obtain ⟨_, h2, h3⟩ := World.cells?_some (hf 0 (by omega)).1
        have h4 := h3 0 hs
        rw [List.getElem?_eq_getElem (by omega)] at h4
        have h5 := (cell_spot h4).1
        rw [Nat.zero_mul] at h5
        simpa [Addr.add] using h5
      obtain ⟨b, o, sp'⟩ := a
      cases sp
      obtain ⟨h1, h2, h2'⟩ := hf i hi'
      obtain ⟨_, h3, h4⟩ := World.cells?_some h1
      refine ⟨b, o, (f i).1, (f i).2.2, rfl, ⟨?_, fun j v hj => ?_⟩, by simpa using h2, ?_⟩
      · have h5 := h4 0 hs
        rw [List.getElem?_eq_getElem (by omega), add_none, add_none] at h5
        exact (cell_spot h5).2
      · have hj' : j < size := by
          have := (List.getElem?_eq_some_iff.1 hj).1
          omega
        have h5 := h4 j hj'
        rw [hj, add_none, add_none] at h5
        exact h5
      · have := part_le h2'
        simp only [Rows.uptoBulk]
        omega

theorem open_T2 : ∀ (fuel : Nat) (cs : List Value) (x : DataW H × List MemPlace), DataW.trod enc Tryd.prog w 0 spare held fuel 24 cs = some x → ∃ t, TIn w t cs ∧ t.fits ∧ t.big ≤ Rows.uptoBulk x.1 := by
  intro fuel
  induction fuel using Nat.strongRecOn with
  | _ fuel ih =>
    intro cs x h
    obtain ⟨xs, n, rfl, rfl, hl, hlen, hf⟩ := DataW.trod_struct Tryd.underlying24 h
    rw [cells25] at hl
    have hlen : xs.length = 4 := hlen
    match cs, hl with
    | [c0, c1, c2, c3], _ =>
    match xs, hlen with
    | [y0, y1, y2, y3], _ =>
    have f0 : DataW.trod enc Tryd.prog w 0 spare held n 3 (([c0, c1, c2, c3].drop 0).take (Tryd.prog.cellsOf 3)) = some y0 := hf 0 _ rfl
    have f1 : DataW.trod enc Tryd.prog w 0 spare held n 9 (([c0, c1, c2, c3].drop 1).take (Tryd.prog.cellsOf 9)) = some y1 := hf 1 _ rfl
    have f2 : DataW.trod enc Tryd.prog w 0 spare held n 3 (([c0, c1, c2, c3].drop 2).take (Tryd.prog.cellsOf 3)) = some y2 := hf 2 _ rfl
    have f3 : DataW.trod enc Tryd.prog w 0 spare held n 22 (([c0, c1, c2, c3].drop 3).take (Tryd.prog.cellsOf 22)) = some y3 := hf 3 _ rfl
    rw [cells3] at f0 f2
    rw [cells9] at f1
    rw [cells23] at f3
    obtain ⟨k, e0, _, _⟩ := DataW.trod_int Tryd.underlying3 f0
    obtain ⟨s, e1, hs, _⟩ := DataW.trod_string Tryd.underlying9 f1
    obtain ⟨m, e2, _, hm⟩ := DataW.trod_int Tryd.underlying3 f2
    obtain ⟨A, C, es, e3, h1, h3⟩ := open_rows2 ⟨.mk 0 ⟨#[]⟩ 0 []⟩ (fun t cs d => TIn w t cs ∧ t.fits ∧ t.big ≤ Rows.uptoBulk d) Tryd.underlying22 cells25 (by decide) (fun m hm cs x hx => ih m (by omega) cs x hx) f3
    simp at e0 e1 e2 e3
    subst e0 e1 e2 e3
    have hm' : -9223372036854775808 ≤ m ∧ m ≤ 9223372036854775807 := by simpa [Lit.wf, IntKind.min, IntKind.max, IntKind.signed, IntKind.bits] using hm
    refine ⟨.mk k s m es, TIn.of ⟨h1, fun i hi => by
      obtain ⟨b, o, cs', d, a1, a2, a3, _⟩ := h3 i hi
      exact ⟨b, o, cs', a1, a2, a3.1⟩⟩, ?_, ?_⟩
    · cases es with
      | nil => exact hm'
      | cons e es =>
        obtain ⟨b, o, cs', d, a1, a2, a3, _⟩ := h3 0 (by simp)
        exact ⟨hm', a3.2.1⟩
    · have hsz : s.data.toList.length = s.size := Array.length_toList
      have hy1 : Rows.uptoBulk y1.1 = s.size + 1 := by rw [hs]; simp [Rows.uptoBulk, hsz]
      have hall : Rows.uptoBulk y1.1 + Rows.uptoBulk y3.1 ≤ Rows.uptoBulk (DataW.agg ([y0, y1, y2, y3].map (·.1))) := by
        simp only [Rows.uptoBulk, Rows.uptoBulkAll, List.map_cons, List.map_nil]
        omega
      cases es with
      | nil =>
        have : (T.mk k s m []).big = s.size := by simp [T.big]
        rw [this]
        show s.size ≤ Rows.uptoBulk (DataW.agg ([y0, y1, y2, y3].map (·.1)))
        omega
      | cons e es =>
        obtain ⟨b, o, cs', d, a1, a2, a3, a4⟩ := h3 0 (by simp)
        have h5 : e.big ≤ Rows.uptoBulk d := a3.2.2
        have : (T.mk k s m (e :: es)).big = s.size + e.big := by simp [T.big]
        rw [this]
        show s.size + e.big ≤ Rows.uptoBulk (DataW.agg ([y0, y1, y2, y3].map (·.1)))
        omega
end

theorem gWords : Tryd.prog.globalNamed "ferrule/show.typeWords" = some 0 := by kernel_rfl
theorem tWords : (Tryd.prog.globals[0]?).map (·.type) = some 52 := by kernel_rfl
theorem gPow : Tryd.prog.globalNamed "internal/strconv.uint64pow10" = some 1 := by kernel_rfl
theorem tPow : (Tryd.prog.globals[1]?).map (·.type) = some 66 := by kernel_rfl
theorem cells66 : Tryd.prog.cellsOf 66 = 20 := by kernel_rfl
theorem cells59 : Tryd.prog.cellsOf 59 = 1 := by kernel_rfl
theorem cells52 : Tryd.prog.cellsOf 52 = 9 := by kernel_rfl

def wordsL : List (List UInt8) := [[], [40, 41], [98, 111, 111, 108], [105, 56], [105, 49, 54], [105, 51, 50], [117, 56], [117, 49, 54], [117, 51, 50]]

theorem words_of {W : World} {rest : List (String × DataW Unit)} (h : laidMet Tryd.prog (("ferrule/show.typeWords", Rows.laid_ferrule_show_typeWords) :: rest) W) : ∀ i, i < 9 → W.cell? ⟨0, i, none⟩ = some (.string (ofL (wordsL.getD i []))) := by
  obtain ⟨ps, ⟨g0, t0, cs0, f0, p0, q0, hg0, ht0, hv0, hd0, _⟩, _⟩ := h
  obtain rfl := Option.some.inj (gWords.symm.trans hg0)
  obtain rfl := Option.some.inj (tWords.symm.trans ht0)
  obtain ⟨xs, m1, rfl, hx1, hlen, hn, hel⟩ := DataW.trod_array Tryd.underlying52 hd0
  simp only [Prod.mk.injEq] at hx1
  have hl : xs.map (fun x : DataW Unit × List MemPlace => x.1) = wordsL.map (fun s => (.lit (.string s) : DataW Unit)) := by
    have := hx1.1
    injection this with h1
    exact h1.symm
  intro i hi
  have h1 := hel i hi
  rw [cells9, Nat.mul_one] at h1
  have h2 : (xs[i]?).map (fun x : DataW Unit × List MemPlace => x.1) = some (.lit (.string (wordsL.getD i []))) := by
    rw [← List.getElem?_map, hl, List.getElem?_map, List.getElem?_eq_getElem (show i < wordsL.length from hi), List.getD_eq_getElem?_getD, List.getElem?_eq_getElem (show i < wordsL.length from hi)]
    rfl
  obtain ⟨⟨d, q⟩, e1, e2⟩ := Option.map_eq_some_iff.1 h2
  simp only at e2
  rw [e1] at h1
  obtain ⟨b, e3, e4, _⟩ := DataW.trod_string Tryd.underlying9 h1
  simp only [Prod.mk.injEq] at e4
  rw [e2] at e4
  have e5 : wordsL.getD i [] = b.data.toList := by
    have := e4.1
    injection this with h
    injection h
  have e6 : ofL (wordsL.getD i []) = b := by rw [e5]; exact ofL_data b
  rw [e6]
  have e7 : (List.take 1 (List.drop i cs0.toList))[0]? = some (.string b) := by rw [e3]; rfl
  have e8 : cs0[i]? = some (.string b) := by simpa using e7
  unfold World.var? at hv0
  rw [hg0] at hv0
  simp only [Option.bind_some] at hv0
  split at hv0
  · rename_i cs t fr hh
    cases hv0
    exact (cell_at hh i).trans e8
  · cases hv0

theorem of_laid {W : World} (h : laidMetH Tryd.prog Rows.showTypesUptoRow.laid W) : Tab W := by
  rw [MakeChecks.laidMetH_plain _ _ _ (by kernel_rfl)] at h
  have h3 : laidMet Tryd.prog (("internal/strconv.uint64pow10", Lib.tabData .u64 Lib.pow10Tab) :: [("ferrule/show.typeWords", Rows.laid_ferrule_show_typeWords)]) W := h.tail.tail
  have h4 : laidMet Tryd.prog (("ferrule/show.typeWords", Rows.laid_ferrule_show_typeWords) :: []) W := h3.tail
  have hp : Lib.TabIs Tryd.prog W "internal/strconv.uint64pow10" .u64 Lib.pow10Tab := Lib.tabIs_of_head gPow tPow Tryd.underlying66 Tryd.underlying59 cells59 cells66 h3
  have hw := words_of h4
  refine ⟨hp, fun k h1 h2 => ?_, ?_, fun g hg => ?_⟩
  · have hc : k = 1 ∨ k = 2 ∨ k = 3 ∨ k = 4 ∨ k = 5 ∨ k = 6 ∨ k = 7 ∨ k = 8 := by omega
    rcases hc with rfl | rfl | rfl | rfl | rfl | rfl | rfl | rfl
    · exact hw 1 (by decide)
    · exact hw 2 (by decide)
    · exact hw 3 (by decide)
    · exact hw 4 (by decide)
    · exact hw 5 (by decide)
    · exact hw 6 (by decide)
    · exact hw 7 (by decide)
    · exact hw 8 (by decide)
  · exact (cell_spot (hw 0 (by decide))).2
  · obtain rfl := Option.some.inj (gPow.symm.trans hg)
    unfold Lib.TabIs World.var? at hp
    rw [gPow] at hp
    simp only [Option.bind_some] at hp
    split at hp
    · rename_i cs t fr hh
      exact (Array.getElem?_eq_some_iff.1 hh).1
    · cases hp

end Go.Proofs.YtdpmdonneoadbaaDoor
