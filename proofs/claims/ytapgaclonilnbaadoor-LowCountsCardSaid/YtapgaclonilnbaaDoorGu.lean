/-
  Proved: what newRun answers: a machine without a call.
-/
import Derived.Test.YtapgaclonilnbaaDoorGd
import Derived.Test.YtapgaclonilnbaaDoorGt
import Derived.Test.YtapgaclonilnbaaDoorGm
import Derived.Test.YtapgaclonilnbaaDoorGh
import Derived.Tactics
import Derived.Tactics2
import Derived.Defers
import Derived.Recover
import Derived.Laws.Pointers
namespace Go.Proofs.YtapgaclonilnbaaDoor
open Go.RowKit
set_option linter.unusedVariables false
set_option linter.unusedSimpArgs false

theorem zero_words : Tryd.zeroCells56.toList.drop 10 = List.replicate 2816 (Value.int .i32 0) := by kernel_rfl
theorem zero_head : Tryd.zeroCells56.toList.take 10 = [.slice none 0 0, .map none, .slice none 0 0, .int .i64 0, .int .i64 0, .slice none 0 0, .slice none 0 0, .pointer none, .int .i64 0, .pointer none] := by kernel_rfl
theorem zero_at (i : Nat) (h : i < 2816) : Tryd.zeroCells56[i + 10]? = some (.int .i32 0) := by
  rw [← Array.getElem?_toList]
  have := congrArg (·[i]?) zero_words
  simp only [List.getElem?_drop, List.getElem?_replicate, h, if_true] at this
  rwa [show i + 10 = 10 + i by omega]
theorem zero_lo (i : Nat) (h : i < 10) : Tryd.zeroCells56[i]? = ([.slice none 0 0, .map none, .slice none 0 0, .int .i64 0, .int .i64 0, .slice none 0 0, .slice none 0 0, .pointer none, .int .i64 0, .pointer none] : List Value)[i]? := by
  rw [← Array.getElem?_toList, ← zero_head, List.getElem?_take_of_lt h]

set_option maxRecDepth 20000 in
set_option maxHeartbeats 2000000 in
theorem newRun_c (l : List Lf) (lA : Option Addr) (lC : Nat) (ip : List Int) (iv : Value) (fu : Int) (w : World) (ht : Tab w) (hl : LfsIn w l (.slice lA l.length lC)) (hi : InpIn w ip iv) :
    Calls Tryd.prog 10 #[.slice lA l.length lC, iv, .int .i64 fu] w fun e w' => ∃ (X : Cx) (L : Ly), X.l = l ∧ X.fu = fu ∧ X.wz = w ∧ e = .returned (.pointer (some ⟨X.R, 0, none⟩)) ∧ MX X ⟨[], fun _ _ => false, fun _ => 0, ip, [], 0⟩ (.pointer none) 0 L w' := by
  have HN : Hid (Calls Tryd.prog 12 #[.slice lA l.length lC] w fun e w' => e = .returned (.tuple #[.map (some w.heap.size), .bool (decide (cnN l l.length = l.length))]) ∧ Below w.heap.size w w' ∧ MapS w' w.heap.size (cnN l l.length) (byN l)) := byNames_c l lA lC w hl
  have HT : Hid (Tab w) := ht
  have HW : Hid (∀ w', Below w.heap.size w w' → Calls Tryd.prog 15 #[] w' fun e w2 => ∃ g, e = .returned (.pointer (some ⟨w'.heap.size, 0, none⟩)) ∧ Below w'.heap.size w' w2 ∧ HIn w2 w'.heap.size g (fun _ _ => false)) := fun w' hb => new_c w' (ht.below hb ht.lt)
  have HL : Hid (LfsIn w l (.slice lA l.length lC)) := hl
  have HI : Hid (InpIn w ip iv) := hi
  obtain ⟨IA, IC, rfl, -⟩ := hi
  clear ht hl
  generalize decide (cnN l l.length = l.length) = q at *
  go_enter Tryd.func10, Tryd.ntmps10
  go_wp2_with (first
    | (go_at_call 12; refine (HN.out).mono ?_; rintro e w1 ⟨rfl, hb1, hm1⟩; have B1 : Hid (Below w.heap.size w w1) := hb1; have M1 : Hid (MapS w1 w.heap.size (cnN l l.length) (byN l)) := hm1; clear hb1 hm1)
    | (go_at_call 15; refine (HW.out _ B1.out).mono ?_; rintro e w2 ⟨g, rfl, hb2, hh2⟩; have B2 : Hid (Below w1.heap.size w1 w2) := hb2; have H2 : Hid (HIn w2 w1.heap.size g (fun _ _ => false)) := hh2; clear hb2 hh2))
  go_ret
  have hm := M1.out.lt
  have hR : w1.heap.size < w2.heap.size := H2.out.head.lt
  have b2 : Below w.heap.size w w2 := below_next B1.out B2.out
  have sz := B1.out.size
  have HR := H2.out.below (below_alloc w2 (.cells (((((Tryd.zeroCells56.setIfInBounds 0 (.slice lA l.length lC)).setIfInBounds 1 (.map (some w.heap.size))).setIfInBounds 2 (.slice IA ip.length IC)).setIfInBounds 3 (.int .i64 fu)).setIfInBounds 9 (.pointer (some ⟨w1.heap.size, 0, none⟩))) 56))
  have gl : ∀ c, c < 4 → w1.heap.size < g c ∧ g c < w2.heap.size := fun c hc => ⟨H2.out.after c hc, (H2.out.rows c hc).lt⟩
  refine ⟨⟨l, lA, lC, w.heap.size, cnN l l.length, w2.heap.size, w1.heap.size, g, fu, w, w.heap.size, w1.heap[w.heap.size]?⟩, ⟨fun _ => 0, fun _ => 0, fun _ => 0, .slice none 0 0, .slice none 0 0, .slice IA ip.length IC, fun b => if b = w2.heap.size then 0 else if b = w1.heap.size then 1 else if b = w.heap.size then 8 else if b = g 0 then 2 else if b = g 1 then 3 else if b = g 2 then 4 else if b = g 3 then 5 else 9⟩, rfl, rfl, rfl, rfl, ?_⟩
  refine ⟨HT.out, below_next b2 (below_alloc _ _), HL.out, MpS.below (w := w2) (MpS.below (w := w1) ⟨M1.out, rfl, hm⟩ B2.out) (below_alloc _ _), ⟨_, At.new w2 _ _, fun i hi => ?_⟩, HR, ⟨Nat.le_trans b2.size (below_alloc _ _).size, by simp, Or.inl ⟨rfl, rfl⟩⟩, ⟨Nat.le_trans b2.size (below_alloc _ _).size, by simp, Or.inl ⟨rfl, rfl⟩⟩, HI.out, fun i hi => absurd hi (by simp), ?_, fun b hb => ?_⟩
  · rcases Nat.lt_or_ge i 10 with e | e
    · have hz := zero_lo i e
      rcases i with _ | _ | _ | _ | _ | _ | _ | _ | _ | _ | i
      all_goals first | omega | (simp [Array.getElem?_setIfInBounds, rnG, hz]; done) | (rw [Array.getElem?_setIfInBounds_ne (by omega), Array.getElem?_setIfInBounds_ne (by omega), Array.getElem?_setIfInBounds_ne (by omega), Array.getElem?_setIfInBounds_ne (by omega), Array.getElem?_setIfInBounds_ne (by omega)]; exact hz.trans rfl)
    · obtain ⟨k, rfl⟩ : ∃ k, i = k + 10 := ⟨i - 10, by omega⟩
      rw [Array.getElem?_setIfInBounds_ne (by omega), Array.getElem?_setIfInBounds_ne (by omega), Array.getElem?_setIfInBounds_ne (by omega), Array.getElem?_setIfInBounds_ne (by omega), Array.getElem?_setIfInBounds_ne (by omega), zero_at k (by omega)]
      rfl
  · have g0 := gl 0 (by omega); have g1 := gl 1 (by omega); have g2 := gl 2 (by omega); have g3 := gl 3 (by omega)
    have i01 := H2.out.inc 0 1 (by omega) (by omega); have i12 := H2.out.inc 1 2 (by omega) (by omega); have i23 := H2.out.inc 2 3 (by omega) (by omega)
    refine ⟨if_pos rfl, ?_, fun c hc => ?_, fun b hb => (by cases hb), fun b hb => (by cases hb), ?_, fun i hi => absurd hi (by simp)⟩
    · show (if w1.heap.size = w2.heap.size then 0 else if w1.heap.size = w1.heap.size then 1 else if w1.heap.size = w.heap.size then 8 else if w1.heap.size = g 0 then 2 else if w1.heap.size = g 1 then 3 else if w1.heap.size = g 2 then 4 else if w1.heap.size = g 3 then 5 else 9) = 1
      rw [if_neg (by omega), if_pos rfl]
    · show (if g c = w2.heap.size then 0 else if g c = w1.heap.size then 1 else if g c = w.heap.size then 8 else if g c = g 0 then 2 else if g c = g 1 then 3 else if g c = g 2 then 4 else if g c = g 3 then 5 else 9) = 2 + c
      rcases (by omega : c = 0 ∨ c = 1 ∨ c = 2 ∨ c = 3) with rfl | rfl | rfl | rfl
      · rw [if_neg (by omega), if_neg (by omega), if_neg (by omega), if_pos rfl]
      · rw [if_neg (by omega), if_neg (by omega), if_neg (by omega), if_neg (by omega), if_pos rfl]
      · rw [if_neg (by omega), if_neg (by omega), if_neg (by omega), if_neg (by omega), if_neg (by omega), if_pos rfl]
      · rw [if_neg (by omega), if_neg (by omega), if_neg (by omega), if_neg (by omega), if_neg (by omega), if_neg (by omega), if_pos rfl]
    · refine ⟨?_, ?_⟩ <;> (show (if w.heap.size = w2.heap.size then 0 else if w.heap.size = w1.heap.size then 1 else if w.heap.size = w.heap.size then 8 else if w.heap.size = g 0 then 2 else if w.heap.size = g 1 then 3 else if w.heap.size = g 2 then 4 else if w.heap.size = g 3 then 5 else 9) = 8; rw [if_neg (by omega), if_neg (by omega), if_pos rfl])
  · have hb : b < w.heap.size := hb
    show (if b = w2.heap.size then 0 else if b = w1.heap.size then 1 else if b = w.heap.size then 8 else if b = g 0 then 2 else if b = g 1 then 3 else if b = g 2 then 4 else if b = g 3 then 5 else 9) = 9
    have := gl 0 (by omega); have := gl 1 (by omega); have := gl 2 (by omega); have := gl 3 (by omega)
    rw [if_neg (by omega), if_neg (by omega), if_neg (by omega), if_neg (by omega), if_neg (by omega), if_neg (by omega), if_neg (by omega)]
end Go.Proofs.YtapgaclonilnbaaDoor

/-
  Proved: how a run begins; what is printed grows by one a step at most; the machine beside a box that lies behind it.
-/
namespace Go.Proofs.YtapgaclonilnbaaDoor
open Go.RowKit
set_option linter.unusedVariables false
set_option linter.unusedSimpArgs false

theorem stL_out (m : Mc) (v : Int) : ∀ p, (stL m v p).out = m.out
  | (none, _) => rfl
  | (some i, _) => by unfold stL; dsimp only; split <;> rfl

theorem enter_out {l : List Lf} {m m' : Mc} {k : Nat} {vs : List Int} (e : enterS l m k vs = .inl m') : m'.out = m.out := by
  unfold enterS at e
  split at e
  · cases e
  · have e := inl_inj e
    subst e
    rfl

theorem instr_out {l : List Lf} {m m' : Mc} {x : Lo} (e : instrS l m x = .inl m') : m'.out.length ≤ m.out.length + 1 := by
  unfold instrS at e
  by_cases h1 : x.op = 1
  · simp [h1] at e; subst e; simp [setN]
  by_cases h2 : x.op = 2
  · simp [h2] at e; subst e; simp [setN]
  by_cases h3 : x.op = 3
  · simp [h3] at e; subst e; simp [setN]
  by_cases h4 : x.op = 4
  · simp [h4] at e; subst e; simp [setN]
  by_cases h5 : x.op = 5
  · simp [h5] at e
    split at e
    · cases e
    · have e := inl_inj e; subst e; simp [setN]
  by_cases h6 : x.op = 6
  · simp [h6] at e
    split at e
    · cases e
    · have e := inl_inj e; subst e; rw [stL_out]; omega
  by_cases h7 : x.op = 7
  · simp [h7] at e
    rw [enter_out e]; omega
  by_cases h8 : x.op = 8
  · simp [h8] at e; subst e; simp
  by_cases h9 : x.op = 9
  · simp [h9] at e; subst e; simp [setN]
  by_cases h10 : x.op = 10
  · simp [h10] at e
    split at e
    · have e := inl_inj e; subst e; simp [setN]
    · cases e
  by_cases h11 : x.op = 11
  · simp [h11] at e
    split at e
    · have e := inl_inj e; subst e; simp
    · cases e
  simp [h1, h2, h3, h4, h5, h6, h7, h8, h9, h10, h11] at e
  subst e
  omega

theorem term_out {l : List Lf} {m m' : Mc} {t : Le} (e : termS l m t = .inl m') : m'.out = m.out := by
  unfold termS at e
  by_cases h1 : t.k = 1
  · simp [h1] at e; subst e; rfl
  by_cases h2 : t.k = 2
  · simp [h2] at e; subst e; rfl
  by_cases h3 : t.k = 3
  · simp [h3] at e
    split at e
    · cases e
    · rename_i m2 hm
      have e := inl_inj e
      subst e
      unfold leaveS at hm
      simp only at hm
      split at hm
      · cases hm
      · have hm := Option.some.inj hm
        subst hm
        rfl
  simp [h1, h2, h3] at e

theorem step_out {l : List Lf} {m m' : Mc} (e : stepS l m = .inl m') : m'.out.length ≤ m.out.length + 1 := by
  unfold stepS at e
  split at e
  · rw [term_out e]; omega
  · have := instr_out e
    exact this

theorem begin_ok {l : List Lf} (hc : chk l = true) (k : Nat) (hk : k < l.length) (ip : List Int) : WF l (beginM l k ip) := by
  have hw := new_cw hc k hk 1234567892 [] (by simp)
  have hf : (newC l k 1234567892 []).fn = k := (setsR_same _ _ _).1
  have hb : (newC l k 1234567892 []).ba = 1234567892 := (setsR_same _ _ _).2.2.1
  have e0 : ∀ i, callAt (beginM l k ip) i = newC l k 1234567892 [] := fun i => by unfold callAt beginM; simp
  refine ⟨fun i hi => by rw [e0]; exact hw, fun i hi => absurd hi (by show ¬ i < 0; omega), by rw [e0]; exact hb, fun i hi => absurd hi (by show ¬ i < 0; omega), by show 0 ≤ 391; omega, ?_, fun k => I32_0⟩
  show (if (fnO l k).qu then (0 : Int) else 1) = ldS l ([] ++ [newC l k 1234567892 []])
  simp only [List.nil_append, ldS, ldC, hf]
  omega

section
variable {X : Cx} {z : Mh} {nv : Value} {st : Int} {L : Ly} {w w' : World}

set_option maxHeartbeats 1000000 in
theorem room0_c (h : MX X z nv st L w) (hz : z.cs = []) : Calls Tryd.prog 24 #[.pointer (some ⟨X.R, 0, none⟩)] w fun e w' => e = .returned (.int .u32 1234567892) ∧ Below w.heap.size w w' := by
  have c6 : w.cell? ⟨X.R, 6, none⟩ = some L.cv := h.rr.cell 6 (by omega)
  obtain ⟨A, C, ev, -⟩ := OwnB.shape ptC_len h.cc
  rw [ev] at c6
  simp only [List.length_map, List.length_range, hz, List.length_nil] at c6
  clear h ev hz
  go_enter Tryd.func24, Tryd.ntmps24
  go_wp2
  go_ret
  exact ⟨rfl, Below.refl _ _⟩

/-- The machine without a call, beside a new box. -/
theorem MX.boxed (h : MX X z nv st L w) (hz : z.cs = []) (o : Obj) : MX { X with xb := w.heap.size, xo := (w.alloc o).heap[w.heap.size]? } z nv st { L with ro := fun b => if b = w.heap.size then 8 else L.ro b } (w.alloc o) := by
  obtain ⟨l1, l2, l3, l4, l5⟩ := h.lts
  have q := h.below (below_alloc w o)
  have old : ∀ b, b < w.heap.size → (if b = w.heap.size then 8 else L.ro b) = L.ro b := fun b hb => if_neg (by omega)
  refine ⟨q.tb, q.bz, q.hl, ⟨q.mp.1, rfl, by have := (below_alloc w o).size; simp⟩, q.rr, q.hh, q.cc, q.pp, q.ii, fun i hi => absurd hi (by rw [hz]; simp), ?_, fun b hb => (old b (by have := h.bz.size; have hb : b < X.wz.heap.size := hb; omega)).trans (h.zz b hb)⟩
  exact ⟨(old _ l1).trans h.ro.r, (old _ l3).trans h.ro.h, fun c hc => (old _ (l4 c hc)).trans (h.ro.g c hc), fun b hb => (old b (by obtain ⟨_, cs, ha⟩ := h.cc.at hb; exact ha.lt)).trans (h.ro.c b hb), fun b hb => (old b (by obtain ⟨_, cs, ha⟩ := h.pp.at hb; exact ha.lt)).trans (h.ro.p b hb), ⟨(old _ l2).trans h.ro.m.1, if_pos rfl⟩, fun i hi => absurd hi (by rw [hz]; simp)⟩

/-- What is left of a run. -/
def EndR (X : Cx) (out : List Int) (st : Int) (w' : World) : Prop :=
  ∃ pv, w'.cell? ⟨X.R, 4, none⟩ = some (.int .i64 st) ∧ w'.cell? ⟨X.R, 5, none⟩ = some pv ∧ OwnB 3 1 noC X.wz.heap.size out pv w' ∧ Below X.wz.heap.size X.wz w'

theorem MX.ended (h : MX X z nv st L w) : EndR X z.out st w := ⟨L.pv, h.rr.cell 4 (by omega), h.rr.cell 5 (by omega), h.pp, h.bz⟩
theorem MX.ended2 (h : MX X z nv st L w) (a b : Value) (i j : Nat) : EndR X z.out st ((w.setCell ⟨X.xb, i, none⟩ a).setCell ⟨X.xb, j, none⟩ b) := by
  have k : Kp (fun b => L.ro b = 8) w ((w.setCell ⟨X.xb, i, none⟩ a).setCell ⟨X.xb, j, none⟩ b) := (Kp.set (F := fun c => L.ro c = 8) w i _ h.ro.m.2).trans (Kp.set (F := fun c => L.ro c = 8) _ j _ h.ro.m.2)
  have q := h.stay (P := fun x => x = 8) k
  have r := q.rr (by show ¬ _ = _; omega)
  exact ⟨L.pv, r.cell 4 (by omega), r.cell 5 (by omega), q.pp (by show ¬ _ = _; omega), q.bz (by show ¬ _ = _; omega)⟩
end
end Go.Proofs.YtapgaclonilnbaaDoor

/-
  Proved: what the deferred function of toTheEnd does: it takes what the run was ended by.
-/
namespace Go.Proofs.YtapgaclonilnbaaDoor
open Go.RowKit
set_option linter.unusedVariables false
set_option linter.unusedSimpArgs false

set_option maxRecDepth 20000 in
set_option maxHeartbeats 2000000 in
theorem catch_on (pb : Nat) (k c x y : Int) (older : List PanicEntry) (w : World) (h0 : w.cell? ⟨pb, 0, none⟩ = some (.int .i64 x)) (h1 : w.cell? ⟨pb, 1, none⟩ = some (.int .i64 y)) (f0 : w.frozen? ⟨pb, 0, none⟩ = false) (f1 : w.frozen? ⟨pb, 1, none⟩ = false) :
    CallsD Tryd.prog 16 #[.pointer (some ⟨pb, 0, none⟩)] (.panicking ({ v := endV k c, recovered := false } :: older)) w fun e u' w' =>
      e = .returned (.tuple #[]) ∧ u' = .panicking ({ v := endV k c, recovered := true } :: older) ∧ w' = (w.setCell ⟨pb, 0, none⟩ (.int .i64 k)).setCell ⟨pb, 1, none⟩ (.int .i64 c) := by
  unfold endV
  have ha : ∀ w : World, (Instr.typeAssert (.iface 48 (.agg #[.int .i64 k, .int .i64 c])) 20 48 false).run Tryd.prog w = .ok (.agg #[.int .i64 k, .int .i64 c]) w := fun w => by kernel_rfl
  refine callsD_of_wpS Tryd.func16 rfl fun c₀ cs hu => ?_
  apply wpS_seq
  apply wpS_region
  simp [wpOpsS, go_sem, recoverD, hu, Tryd.ntmps16, Exit.thenS]
  refine wpS_of_wp ?_
  go_wp2
  simp [bodyPostS, results, Tryd.results16]

theorem catch_off (pb : Nat) (w : World) :
    CallsD Tryd.prog 16 #[.pointer (some ⟨pb, 0, none⟩)] .returning w fun e u' w' => e = .returned (.tuple #[]) ∧ u' = .returning ∧ w' = w := by
  refine callsD_of_wpS Tryd.func16 rfl fun c₀ cs hu => ?_
  apply wpS_seq
  apply wpS_region
  simp [wpOpsS, go_sem, recoverD, hu, Tryd.ntmps16, Exit.thenS]
  refine wpS_of_wp ?_
  go_wp2
  cases c₀
  simp_all [bodyPostS, results, Tryd.results16]
end Go.Proofs.YtapgaclonilnbaaDoor

/-
  Proved: what toTheEnd does where there is no main.
-/
namespace Go.Proofs.YtapgaclonilnbaaDoor
open Go.RowKit
set_option linter.unusedVariables false
set_option linter.unusedSimpArgs false

section
variable {X : Cx} {z : Mh} {nv : Value} {st : Int} {L : Ly} {w w' : World} {ip : List Int}

def mainT : ByteArray := { data := #[109, 97, 105, 110] }

/-- The box of the answer, beside the machine. -/
theorem MX.box (h : MX X z nv st L w) {w0 : World} (e2 : X.xo = (w0.alloc (.cells #[.int .i64 0, .int .i64 0] 48)).heap[w0.heap.size]?) : At w X.xb #[.int .i64 0, .int .i64 0] 48 := by
  exact (h.mp.2.1.trans e2).trans (At.new w0 #[.int .i64 0, .int .i64 0] 48)

theorem toe_caught (h : MX X z nv st L w) (hb : At w X.xb #[.int .i64 0, .int .i64 0] 48) (k c : Int) :
    CallsD Tryd.prog 16 #[.pointer (some ⟨X.xb, 0, none⟩)] (.panicking [{ v := endV k c, recovered := false }]) w fun e u' w' =>
      e = .returned (.tuple #[]) ∧ u' = .panicking [{ v := endV k c, recovered := true }] ∧ w'.cell? ⟨X.xb, 0, none⟩ = some (.int .i64 k) ∧ w'.cell? ⟨X.xb, 1, none⟩ = some (.int .i64 c) ∧ EndR X z.out st w' := by
  refine (catch_on X.xb k c 0 0 [] w (by rw [hb.cell]; rfl) (by rw [hb.cell]; rfl) (hb.frozen 0) (hb.frozen 1)).mono ?_
  rintro e u' w'' ⟨rfl, rfl, rfl⟩
  have b2 := (hb.set (j := 0) (.int .i64 k)).set (j := 1) (.int .i64 c)
  exact ⟨rfl, rfl, by rw [b2.cell]; rfl, by rw [b2.cell]; rfl, h.ended2 _ _ 0 1⟩

set_option maxRecDepth 20000 in
set_option maxHeartbeats 2000000 in
theorem toe_none (h : MX X ⟨[], fun _ _ => false, fun _ => 0, ip, [], 0⟩ (.pointer none) 0 L w) (hb : byN X.l [109, 97, 105, 110] = none) :
    Calls Tryd.prog 11 #[.pointer (some ⟨X.R, 0, none⟩)] w fun e w' => e = .returned (.agg #[.int .i64 5, .int .i64 0]) ∧ EndR X [] 0 w' := by
  have hmf : ∀ (fn : Fn) (first cap : Array Value) (w : World), (Instr.makeFunc fn first cap).run Tryd.prog w = .ok (.func fn first cap) w := fun _ _ _ _ => rfl
  have HX := h.boxed rfl (.cells #[.int .i64 0, .int .i64 0] 48)
  have AB := HX.box rfl
  have c1 : (w.alloc (.cells #[.int .i64 0, .int .i64 0] 48)).cell? ⟨X.R, 1, none⟩ = some (.map (some X.mb)) := HX.rr.cell 1 (by omega)
  have ML : ∀ {w' : World}, MapS w' X.mb X.mn (byN X.l) → (Instr.lookup 50 (.map (some X.mb)) (.string mainT) true).run Tryd.prog w' = .ok (.tuple #[.int .i64 0, .bool false]) w' := fun hm => by
    have := hm.look2 (x := mainT) (by decide)
    rw [this]
    have e : byN X.l mainT.data.toList = none := hb
    rw [e]
    rfl
  have HM := ML HX.mp.1
  unfold mainT at HM
  have HT := fun w => stop_c 5 0 w
  clear ML
  go_enter_defers Tryd.func11, Tryd.ntmps11
  go_wp2_with (go_at_call 17; refine (HT _).mono ?_; rintro e w3 ⟨rfl, hw⟩; rw [hw]; clear hw w3)
  refine leaves_cons (f := 16) (args := #[.pointer (some ⟨w.heap.size, 0, none⟩)]) (by simp) (by simp [go_sem]) ?_
  refine (toe_caught HX AB 5 0).mono ?_
  rintro e u' w'' ⟨rfl, rfl, d0, d1, EE⟩
  dsimp only at d0 d1
  simp [Leaves, settle, results, Tryd.results11, go_sem, d0, d1]
  exact EE
end
end Go.Proofs.YtapgaclonilnbaaDoor

/-
  Proved: what toTheEnd does where main takes or answers something.
-/
namespace Go.Proofs.YtapgaclonilnbaaDoor
open Go.RowKit
set_option linter.unusedVariables false
set_option linter.unusedSimpArgs false

section
variable {X : Cx} {z : Mh} {nv : Value} {st : Int} {L : Ly} {w w' : World} {ip : List Int}

set_option maxRecDepth 20000 in
set_option maxHeartbeats 4000000 in
theorem toe_wrong (h : MX X ⟨[], fun _ _ => false, fun _ => 0, ip, [], 0⟩ (.pointer none) 0 L w) (k : Nat) (hk : k < X.l.length) (hb : byN X.l [109, 97, 105, 110] = some (k : Int)) (hw : X.l[k].pa.length ≠ 0 ∨ X.l[k].an ≠ 0) :
    Calls Tryd.prog 11 #[.pointer (some ⟨X.R, 0, none⟩)] w fun e w' => e = .returned (.agg #[.int .i64 5, .int .i64 0]) ∧ EndR X [] 0 w' := by
  have hmf : ∀ (fn : Fn) (first cap : Array Value) (w : World), (Instr.makeFunc fn first cap).run Tryd.prog w = .ok (.func fn first cap) w := fun _ _ _ _ => rfl
  have HX := h.boxed rfl (.cells #[.int .i64 0, .int .i64 0] 48)
  have AB := HX.box rfl
  have c1 : (w.alloc (.cells #[.int .i64 0, .int .i64 0] 48)).cell? ⟨X.R, 1, none⟩ = some (.map (some X.mb)) := HX.rr.cell 1 (by omega)
  have c0 : (w.alloc (.cells #[.int .i64 0, .int .i64 0] 48)).cell? ⟨X.R, 0, none⟩ = some (.slice X.lA X.l.length X.lC) := HX.rr.cell 0 (by omega)
  obtain ⟨_, lAA, lCC, elA, hlr⟩ := h.hl
  obtain ⟨fb0, fo, csx, hlA, hrow, pv, bv, ecs, -, hpn, -⟩ := hlr k hk
  cases elA
  cases ecs
  obtain ⟨-, PA, PC, rfl, -⟩ := hpn
  rw [hlA] at c0
  have c2 : (w.alloc (.cells #[.int .i64 0, .int .i64 0] 48)).cell? ⟨fb0, fo + k * 7 + 2, none⟩ = some (.slice PA X.l[k].pa.length PC) := (HX.bz.cell (p := ⟨fb0, fo + k * 7 + 2, none⟩) hrow.1).trans (hrow.at 2 rfl)
  have c3 : (w.alloc (.cells #[.int .i64 0, .int .i64 0] 48)).cell? ⟨fb0, fo + k * 7 + 3, none⟩ = some (.int .i64 X.l[k].an) := (HX.bz.cell (p := ⟨fb0, fo + k * 7 + 3, none⟩) hrow.1).trans (hrow.at 3 rfl)
  have ML : ∀ {w' : World}, MapS w' X.mb X.mn (byN X.l) → (Instr.lookup 50 (.map (some X.mb)) (.string mainT) true).run Tryd.prog w' = .ok (.tuple #[.int .i64 (k : Int), .bool true]) w' := fun hm => by
    have := hm.look2 (x := mainT) (by decide)
    rw [this]
    have e : byN X.l mainT.data.toList = some (k : Int) := hb
    rw [e]
    rfl
  have HM := ML HX.mp.1
  unfold mainT at HM
  have hkz : (k : Int) < X.l.length := by omega
  have HT := fun w => stop_c 5 0 w
  have TC : Hid (CallsD Tryd.prog 16 #[.pointer (some ⟨w.heap.size, 0, none⟩)] (.panicking [{ v := endV 5 0, recovered := false }]) (w.alloc (.cells #[.int .i64 0, .int .i64 0] 48)) fun e u' w' =>
      e = .returned (.tuple #[]) ∧ u' = .panicking [{ v := endV 5 0, recovered := true }] ∧ w'.cell? ⟨w.heap.size, 0, none⟩ = some (.int .i64 5) ∧ w'.cell? ⟨w.heap.size, 1, none⟩ = some (.int .i64 0) ∧ EndR X [] 0 w') := toe_caught HX AB 5 0
  clear ML hlr hrow h HX AB hlA hb
  generalize X.l[k].pa.length = n at *
  generalize X.l[k].an = an at *
  by_cases hn : n = 0
  · subst hn
    have ha : ¬ an = 0 := by omega
    go_enter_defers Tryd.func11, Tryd.ntmps11
    go_wp2_with (go_at_call 17; refine (HT _).mono ?_; rintro e w3 ⟨rfl, hw⟩; rw [hw]; clear hw w3)
    refine leaves_cons (f := 16) (args := #[.pointer (some ⟨w.heap.size, 0, none⟩)]) (by simp) (by simp [go_sem]) ?_
    refine TC.out.mono ?_
    rintro e u' w'' ⟨rfl, rfl, d0, d1, EE⟩
    simp [Leaves, settle, results, Tryd.results11, go_sem, d0, d1]
    exact EE
  · have hnz : ¬ ((n : Int) = 0) := by omega
    go_enter_defers Tryd.func11, Tryd.ntmps11
    go_wp2_with (go_at_call 17; refine (HT _).mono ?_; rintro e w3 ⟨rfl, hw⟩; rw [hw]; clear hw w3)
    refine leaves_cons (f := 16) (args := #[.pointer (some ⟨w.heap.size, 0, none⟩)]) (by simp) (by simp [go_sem]) ?_
    refine TC.out.mono ?_
    rintro e u' w'' ⟨rfl, rfl, d0, d1, EE⟩
    simp [Leaves, settle, results, Tryd.results11, go_sem, d0, d1]
    exact EE
end
end Go.Proofs.YtapgaclonilnbaaDoor

/-
  Proved: main's beginning and a round of a run.
-/
namespace Go.Proofs.YtapgaclonilnbaaDoor
open Go.RowKit
set_option linter.unusedVariables false
set_option linter.unusedSimpArgs false

section
variable {X : Cx} {z : Mh} {nv : Value} {st : Int} {L : Ly} {m m0 : Mc} {w w' : World} {ip : List Int}

/-- A run that is under way, or at main's end. -/
def RS (X : Cx) (fu : Nat) (m0 : Mc) (w : World) (n : Nat) : Prop :=
  ∃ (z : Mh) (nv : Value) (d : Nat) (L : Ly), MX X z nv (d : Int) L w ∧
    ((∃ m, z = hOf m ∧ nv = .pointer (some ⟨L.pb m.bl.length, 0, none⟩) ∧ WF X.l m ∧ d ≤ fu ∧ n = fu - d + 1 ∧ m.out.length ≤ d ∧ goS X.l fu m0 = ((goS X.l (fu - d) m).1, (goS X.l (fu - d) m).2.1, (goS X.l (fu - d) m).2.2 + d))
     ∨ (z.cs = [] ∧ n = 0 ∧ goS X.l fu m0 = ((1, 0), z.out, d)))

theorem enter_main (hc : chk X.l = true) (h : MX X ⟨[], fun _ _ => false, fun _ => 0, ip, [], 0⟩ (.pointer none) 0 L w) (k : Nat) (hk : k < X.l.length) (hp : X.l[k].pa.length = 0) (fu : Nat) :
    Calls Tryd.prog 18 #[.pointer (some ⟨X.R, 0, none⟩), fpV X k, .slice none 0 0] w fun e w' => e = .returned (.tuple #[]) ∧ RS X fu (beginM X.l k ip) w' (fu + 1) := by
  obtain ⟨f1, f2⟩ := ck_fn hc hk
  obtain ⟨p1, p2, p3, p4, p5⟩ := form_parts f1
  have ef : fnO X.l k = X.l[k] := fnO_get X.l k hk
  have hwf := begin_ok hc k hk ip
  have hpa : X.l[k].pa = [] := List.eq_nil_of_length_eq_zero hp
  rw [ef] at p2 p3
  have ec : newC X.l k 1234567892 [] = setsR ⟨k, List.replicate X.l[k].rg.toNat 0, List.replicate X.l[k].fr.toNat 0, 1234567892, 0, 0⟩ X.l[k].pa [] := by unfold newC; rw [ef]
  have FIN : ∀ (L' : Ly) (w' : World), MX X (hOf (beginM X.l k ip)) (.pointer (some ⟨L'.pb 0, 0, none⟩)) 0 L' w' → RS X fu (beginM X.l k ip) w' (fu + 1) := fun L' w' hm =>
    ⟨_, _, 0, L', hm, Or.inl ⟨beginM X.l k ip, rfl, rfl, hwf, Nat.zero_le _, by omega, Nat.le_refl _, by simp⟩⟩
  have AI : AIn X w [] (.slice none 0 0) := ⟨none, 0, rfl, fun i hi => absurd hi (by simp)⟩
  cases hq : X.l[k].qu with
  | true =>
    refine (enter_true h k hk X.l[k].rg.toNat X.l[k].fr.toNat (by omega) (by omega) (by omega) (by omega) 1234567892 (fun w' hb => room0_c (h.below hb) rfl) [] (.slice none 0 0) AI (by rw [hpa]) (by simp) (by rw [hpa]; simp) hq (by simp) (by simp)).mono ?_
    rintro e w' ⟨rfl, L', p, hp2, hm⟩
    refine ⟨rfl, FIN L' w' ?_⟩
    have hp2 : L'.pb 0 = p := hp2
    rw [hp2]
    have e1 : hOf (beginM X.l k ip) = ⟨[] ++ [setsR ⟨k, List.replicate X.l[k].rg.toNat 0, List.replicate X.l[k].fr.toNat 0, 1234567892, 0, 0⟩ X.l[k].pa []], fun _ _ => false, fun _ => 0, ip, [], 0⟩ := by
      unfold hOf beginM
      rw [ec, ef, hq]
      rfl
    rw [e1]
    exact hm
  | false =>
    refine (enter_false h k hk X.l[k].rg.toNat X.l[k].fr.toNat (by omega) (by omega) (by omega) (by omega) 1234567892 (fun w' hb => room0_c (h.below hb) rfl) [] (.slice none 0 0) AI (by rw [hpa]) (by simp) (by rw [hpa]; simp) hq (by simp) (by simp) (by simp)).mono ?_
    rintro e w' ⟨rfl, L', p, hp2, hm⟩
    refine ⟨rfl, FIN L' w' ?_⟩
    have hp2 : L'.pb 0 = p := hp2
    rw [hp2]
    have e1 : hOf (beginM X.l k ip) = ⟨[] ++ [setsR ⟨k, List.replicate X.l[k].rg.toNat 0, List.replicate X.l[k].fr.toNat 0, 1234567892, 0, 0⟩ X.l[k].pa []], fun _ _ => false, fun _ => 0, ip, [], 0 + 1⟩ := by
      unfold hOf beginM
      rw [ec, ef, hq]
      rfl
    rw [e1]
    exact hm

theorem goS_inl {l : List Lf} {n : Nat} {m m' : Mc} (hr : stepS l m = .inl m') : goS l (n + 1) m = ((goS l n m').1, (goS l n m').2.1, (goS l n m').2.2 + 1) := by
  rw [goS]
  rw [hr]
theorem goS_inr {l : List Lf} {n : Nat} {m : Mc} {k : Int × Int} (hr : stepS l m = .inr k) : goS l (n + 1) m = (k, m.out, 1) := by
  rw [goS]
  rw [hr]
theorem goS_zero {l : List Lf} {m : Mc} : goS l 0 m = ((0, 0), m.out, 0) := by rw [goS]

/-- A round: the run goes on, or it ends by a panic. -/
theorem round_split (hc : chk X.l = true) (fu : Nat) (hfu : X.fu = fu) (hf6 : fu ≤ 1000000) {d : Nat} (hs : MX X (hOf m) (.pointer (some ⟨L.pb m.bl.length, 0, none⟩)) d L w) (hwf : WF X.l m) (hd : d ≤ fu) (ho : m.out.length ≤ d) (hg : goS X.l fu m0 = ((goS X.l (fu - d) m).1, (goS X.l (fu - d) m).2.1, (goS X.l (fu - d) m).2.2 + d)) :
    (Calls Tryd.prog 19 #[.pointer (some ⟨X.R, 0, none⟩)] w fun e w' => e = .returned (.tuple #[]) ∧ ∃ n, n < fu - d + 1 ∧ RS X fu m0 w' n)
    ∨ Calls Tryd.prog 19 #[.pointer (some ⟨X.R, 0, none⟩)] w fun e w' => e = .panicked [{ v := endV (goS X.l fu m0).1.1 (goS X.l fu m0).1.2, recovered := false }] ∧ ∃ z nv L, z.out = (goS X.l fu m0).2.1 ∧ MX X z nv ((goS X.l fu m0).2.2 : Int) L w' := by
  rcases Nat.lt_or_ge d fu with hlt | hge
  · have hG := go_c hc hwf hs.toS (by omega) (by omega) (by omega) (by omega)
    have e1 : fu - d = (fu - (d + 1)) + 1 := by omega
    rw [e1] at hg
    cases hr : stepS X.l m with
    | inl m' =>
      rw [hr] at hG
      refine Or.inl (hG.mono ?_)
      rintro e w' ⟨rfl, L', hm⟩
      refine ⟨rfl, fu - (d + 1) + 1, by omega, hOf m', _, d + 1, L', hm.toX, Or.inl ⟨m', rfl, rfl, step_ok hc hwf hr, by omega, rfl, by have := step_out hr; omega, ?_⟩⟩
      rw [hg, goS_inl hr]
      simp only [Nat.add_assoc, Nat.add_comm 1 d]
    | inr k =>
      rw [hr] at hG
      have eg : goS X.l fu m0 = (k, m.out, d + 1) := by
        rw [hg, goS_inr hr]
        simp only [Nat.add_comm 1 d]
      by_cases hk : k = (1, 0)
      · refine Or.inl (hG.mono ?_)
        rintro e w' (⟨-, rfl, z, nv, L', q1, q2, q3⟩ | ⟨q, -⟩)
        · exact ⟨rfl, 0, by omega, z, nv, d + 1, L', q3, Or.inr ⟨q1, rfl, by rw [eg, hk, q2]⟩⟩
        · exact absurd hk q
      · refine Or.inr (hG.mono ?_)
        rintro e w' (⟨q, -⟩ | ⟨-, rfl, z, nv, L', q2, q3⟩)
        · exact absurd q hk
        · rw [eg]
          exact ⟨rfl, z, nv, L', q2, q3⟩
  · obtain rfl : d = fu := by omega
    have eg : goS X.l d m0 = ((0, 0), m.out, d) := by
      rw [hg, Nat.sub_self, goS_zero]
      simp
    refine Or.inr ((goOn_fuel hs.toS (by omega)).mono ?_)
    rintro e w' ⟨rfl, hm⟩
    rw [eg]
    exact ⟨rfl, hOf m, _, L, rfl, hm.toX⟩
end
end Go.Proofs.YtapgaclonilnbaaDoor

/-
  Proved: what toTheEnd does: it runs main.
-/
namespace Go.Proofs.YtapgaclonilnbaaDoor
open Go.RowKit
set_option linter.unusedVariables false
set_option linter.unusedSimpArgs false

theorem least_ex (p : Nat → Prop) (h : ∃ m, p m) : ∃ m, p m ∧ ∀ k, p k → m ≤ k := by
  obtain ⟨m, hm⟩ := h
  induction m using Nat.strongRecOn with
  | _ m ih =>
    by_cases e : ∃ k, k < m ∧ p k
    · obtain ⟨k, h1, h2⟩ := e
      exact ih k h1 h2
    · exact ⟨m, hm, fun k hk => Nat.le_of_not_lt fun hl => e ⟨k, hl, hk⟩⟩
noncomputable def lst (p : Nat → Prop) : Nat := @dite _ (∃ m, p m) (Classical.propDecidable _) (fun h => Classical.choose (least_ex p h)) (fun _ => 0)
theorem lst_spec {p : Nat → Prop} (h : ∃ m, p m) : p (lst p) := by
  unfold lst
  rw [dif_pos h]
  exact (Classical.choose_spec (least_ex p h)).1
theorem lst_le {p : Nat → Prop} {m : Nat} (h : p m) : lst p ≤ m := by
  have h' : ∃ m, p m := ⟨m, h⟩
  unfold lst
  rw [dif_pos h']
  exact (Classical.choose_spec (least_ex p h')).2 m h

section
variable {X : Cx} {z : Mh} {nv : Value} {st : Int} {L : Ly} {w w' : World} {ip : List Int}

set_option maxRecDepth 20000 in
set_option maxHeartbeats 4000000 in
theorem toe_main (hc : chk X.l = true) (h : MX X ⟨[], fun _ _ => false, fun _ => 0, ip, [], 0⟩ (.pointer none) 0 L w) (k : Nat) (hk : k < X.l.length) (hb : byN X.l [109, 97, 105, 110] = some (k : Int)) (hw1 : X.l[k].pa.length = 0) (hw2 : X.l[k].an = 0) (fu : Nat) (hfu : X.fu = fu) (hf6 : fu ≤ 1000000) :
    Calls Tryd.prog 11 #[.pointer (some ⟨X.R, 0, none⟩)] w fun e w' => e = .returned (.agg #[.int .i64 (goS X.l fu (beginM X.l k ip)).1.1, .int .i64 (goS X.l fu (beginM X.l k ip)).1.2]) ∧ EndR X (goS X.l fu (beginM X.l k ip)).2.1 ((goS X.l fu (beginM X.l k ip)).2.2 : Int) w' := by
  have hmf : ∀ (fn : Fn) (first cap : Array Value) (w : World), (Instr.makeFunc fn first cap).run Tryd.prog w = .ok (.func fn first cap) w := fun _ _ _ _ => rfl
  have HX := h.boxed rfl (.cells #[.int .i64 0, .int .i64 0] 48)
  have c1 : (w.alloc (.cells #[.int .i64 0, .int .i64 0] 48)).cell? ⟨X.R, 1, none⟩ = some (.map (some X.mb)) := HX.rr.cell 1 (by omega)
  have c0 : (w.alloc (.cells #[.int .i64 0, .int .i64 0] 48)).cell? ⟨X.R, 0, none⟩ = some (.slice X.lA X.l.length X.lC) := HX.rr.cell 0 (by omega)
  obtain ⟨_, lAA, lCC, elA, hlr⟩ := h.hl
  obtain ⟨fb0, fo, csx, hlA, hrow, pv, bv, ecs, -, hpn, -⟩ := hlr k hk
  cases elA
  cases ecs
  obtain ⟨-, PA, PC, rfl, -⟩ := hpn
  rw [hlA] at c0
  have c2 : (w.alloc (.cells #[.int .i64 0, .int .i64 0] 48)).cell? ⟨fb0, fo + k * 7 + 2, none⟩ = some (.slice PA 0 PC) := by
    have := (HX.bz.cell (p := ⟨fb0, fo + k * 7 + 2, none⟩) hrow.1).trans (hrow.at 2 rfl)
    rwa [hw1] at this
  have c3 : (w.alloc (.cells #[.int .i64 0, .int .i64 0] 48)).cell? ⟨fb0, fo + k * 7 + 3, none⟩ = some (.int .i64 0) := by
    have := (HX.bz.cell (p := ⟨fb0, fo + k * 7 + 3, none⟩) hrow.1).trans (hrow.at 3 rfl)
    rwa [hw2] at this
  have ML : ∀ {w' : World}, MapS w' X.mb X.mn (byN X.l) → (Instr.lookup 50 (.map (some X.mb)) (.string mainT) true).run Tryd.prog w' = .ok (.tuple #[.int .i64 (k : Int), .bool true]) w' := fun hm => by
    have := hm.look2 (x := mainT) (by decide)
    rw [this]
    have e : byN X.l mainT.data.toList = some (k : Int) := hb
    rw [e]
    rfl
  have HM := ML HX.mp.1
  unfold mainT at HM
  have hkz : (k : Int) < X.l.length := by omega
  have hfp : fpV X k = .pointer (some ⟨fb0, fo + k * 7, none⟩) := by rw [fpV, hlA]; rfl
  have HC : Hid (chk X.l = true) := hc
  have HF : Hid (X.fu = fu) := hfu
  obtain ⟨X2, hX2⟩ : ∃ X2 : Cx, X2 = { X with xb := w.heap.size, xo := (w.alloc (.cells #[.int .i64 0, .int .i64 0] 48)).heap[w.heap.size]? } := ⟨_, rfl⟩
  have q1 : X2.l = X.l := by rw [hX2]
  have q2 : X2.R = X.R := by rw [hX2]
  have q3 : X2.fu = X.fu := by rw [hX2]
  have q4 : X2.xb = w.heap.size := by rw [hX2]
  have q5 : X2.xo = (w.alloc (.cells #[.int .i64 0, .int .i64 0] 48)).heap[w.heap.size]? := by rw [hX2]
  have q6 : ∀ out st w', EndR X2 out st w' → EndR X out st w' := fun out st w' q => by rw [hX2] at q; exact q
  have q7 : fpV X2 k = fpV X k := by rw [hX2]; rfl
  rw [← hX2] at HX
  obtain ⟨m0, hm0⟩ : ∃ m0, m0 = beginM X.l k ip := ⟨_, rfl⟩
  have EN : Hid (Calls Tryd.prog 18 #[.pointer (some ⟨X.R, 0, none⟩), .pointer (some ⟨fb0, fo + k * 7, none⟩), .slice none 0 0] (w.alloc (.cells #[.int .i64 0, .int .i64 0] 48)) fun e w' => e = .returned (.tuple #[]) ∧ RS X2 fu m0 w' (fu + 1)) := by
    have := enter_main (X := X2) (by rw [q1]; exact hc) HX k (by rw [q1]; exact hk) (by simp only [q1]; exact hw1) fu
    rw [q2, q7, hfp, q1, ← hm0] at this
    exact this
  rw [← hm0]
  obtain ⟨r, hr⟩ : ∃ r, r = goS X.l fu m0 := ⟨_, rfl⟩
  rw [← hr]
  have HR : Hid (goS X2.l fu m0 = r) := by rw [q1]; exact hr.symm
  clear hr
  have Q : Hid (X2.l = X.l ∧ X2.R = X.R ∧ X2.fu = X.fu ∧ X2.xb = w.heap.size ∧ X2.xo = (w.alloc (.cells #[.int .i64 0, .int .i64 0] 48)).heap[w.heap.size]? ∧ ∀ out st w', EndR X2 out st w' → EndR X out st w') := ⟨q1, q2, q3, q4, q5, q6⟩
  clear ML hlr hrow h HX hlA hb hX2 q1 q2 q3 q4 q5 q6 q7 hm0 hc hfu hw1 hw2 hfp
  go_enter_defers Tryd.func11, Tryd.ntmps11
  go_wp2_with (go_at_call 18; refine (EN.out).mono ?_; rintro e w3 ⟨rfl, hrs⟩; have RS3 : Hid (RS X2 fu m0 w3 (fu + 1)) := hrs; clear hrs)
  clear c0 c1 c2 c3 HM EN
  go_loopw [] (fun wr => ∃ n, RS X2 fu m0 wr n) (fun wr => lst (RS X2 fu m0 wr))
  case atStart => exact ⟨_, RS3.out⟩
  case round =>
    have hz := lst_spec hrel
    obtain ⟨g, hg⟩ : ∃ g, g = lst (RS X2 fu m0 wr) := ⟨_, rfl⟩
    rw [← hg] at hz
    have MM : Hid (g = lst (RS X2 fu m0 wr)) := hg
    clear hg hrel RS3
    obtain ⟨q1, q2, q3, q4, q5, q6⟩ := Q.out
    obtain ⟨z, nv, d, L2, hm, ⟨m, rfl, rfl, hwf, hd, hn, ho, hg⟩ | ⟨hz0, hn, hg⟩⟩ := hz
    · have c6 : wr.cell? ⟨X.R, 6, none⟩ = some L2.cv := by rw [← q2]; exact hm.rr.cell 6 (by omega)
      obtain ⟨A, C, ev, -⟩ := OwnB.shape ptC_len hm.cc
      rw [ev] at c6
      have el : (hOf m).cs.length = m.bl.length + 1 := by simp [hOf]
      simp only [List.length_map, List.length_range, el] at c6
      have hlz : (0 : Int) < ((m.bl.length + 1 : Nat) : Int) := by omega
      have hbx := hm.box q5
      rcases round_split (m0 := m0) (by rw [q1]; exact HC.out) fu (by rw [q3]; exact HF.out) hf6 hm hwf hd ho hg with GO | GO
      · rw [q2] at GO
        have G2 : Hid (Calls Tryd.prog 19 #[.pointer (some ⟨X.R, 0, none⟩)] wr fun e w' => e = .returned (.tuple #[]) ∧ ∃ n, n < fu - d + 1 ∧ RS X2 fu m0 w' n) := GO
        rw [hn] at MM
        have M2 : Hid (fu - d + 1 = lst (RS X2 fu m0 wr)) := MM.out
        clear GO hm hwf hg ev hbx ho el q1 q2 q3 q4 q5 q6 hn MM
        generalize m.bl.length + 1 = n at *
        go_wp2_with (go_at_call 19; refine (G2.out).mono ?_; rintro e w5 ⟨rfl, n5, hn5, hrs⟩; have R5 : Hid (n5 < fu - d + 1 ∧ RS X2 fu m0 w5 n5) := ⟨hn5, hrs⟩; clear hn5 hrs)
        go_roundw
        case rel => exact ⟨n5, R5.out.2⟩
        case measure =>
          have := lst_le R5.out.2
          have := R5.out.1
          have := M2.out
          omega
      · rw [q2] at GO
        rw [HR.out] at GO
        have G2 : Hid (Calls Tryd.prog 19 #[.pointer (some ⟨X.R, 0, none⟩)] wr fun e w' => e = .panicked [{ v := endV r.1.1 r.1.2, recovered := false }] ∧ ∃ z nv L, z.out = r.2.1 ∧ MX X2 z nv (r.2.2 : Int) L w') := GO
        clear GO hm hwf hg ev hbx ho el hn MM HR q1 q2 q3
        generalize m.bl.length + 1 = n at *
        go_wp2_with (go_at_call 19; refine (G2.out).mono ?_; rintro e w5 ⟨rfl, z5, nv5, L5, ho5, hm5⟩; have M5 : Hid (z5.out = r.2.1 ∧ MX X2 z5 nv5 (r.2.2 : Int) L5 w5) := ⟨ho5, hm5⟩; clear ho5 hm5)
        refine leaves_cons (f := 16) (args := #[.pointer (some ⟨w.heap.size, 0, none⟩)]) (by simp) (by simp [go_sem]) ?_
        rw [← q4]
        refine (toe_caught M5.out.2 (M5.out.2.box q5) r.1.1 r.1.2).mono ?_
        rintro e u' w'' ⟨rfl, rfl, d0, d1, EE⟩
        rw [M5.out.1] at EE
        simp [Leaves, settle, results, Tryd.results11, go_sem, d0, d1]
        exact q6 _ _ _ EE
    · have c6 : wr.cell? ⟨X.R, 6, none⟩ = some L2.cv := by rw [← q2]; exact hm.rr.cell 6 (by omega)
      obtain ⟨A, C, ev, -⟩ := OwnB.shape ptC_len hm.cc
      rw [ev] at c6
      simp only [List.length_map, List.length_range, hz0, List.length_nil] at c6
      have hbx := hm.box q5
      have EE := hm.ended2 (.int .i64 1) (.int .i64 0) 0 1
      have bx2 := (hbx.set (j := 0) (.int .i64 1)).set (j := 1) (.int .i64 0)
      have d0 := bx2.cell (j := 0)
      have d1 := bx2.cell (j := 1)
      rw [q4] at hbx EE d0 d1
      have b0 : wr.cell? ⟨w.heap.size, 0, none⟩ = some (.int .i64 0) := by rw [hbx.cell]; rfl
      have b1 : wr.cell? ⟨w.heap.size, 1, none⟩ = some (.int .i64 0) := by rw [hbx.cell]; rfl
      have f0 := hbx.frozen 0
      have f1 := hbx.frozen 1
      rw [HR.out] at hg
      have EE := q6 _ _ _ EE
      clear HR
      subst hg
      have E2 : Hid (EndR X z.out d ((wr.setCell ⟨w.heap.size, 0, none⟩ (.int .i64 1)).setCell ⟨w.heap.size, 1, none⟩ (.int .i64 0))) := EE
      clear EE hm ev hn MM q1 q2 q3 q5 q6 hbx bx2
      go_wp2
      refine leaves_cons (f := 16) (args := #[.pointer (some ⟨w.heap.size, 0, none⟩)]) (by simp) (by simp [go_sem]) ?_
      refine (catch_off w.heap.size _).mono ?_
      rintro e u' w'' ⟨rfl, rfl, rfl⟩
      have e0 : ((wr.setCell ⟨w.heap.size, 0, none⟩ (.int .i64 1)).setCell ⟨w.heap.size, 1, none⟩ (.int .i64 0)).cell? ⟨w.heap.size, 0, none⟩ = some (.int .i64 1) := by rw [d0]; rfl
      have e1 : ((wr.setCell ⟨w.heap.size, 0, none⟩ (.int .i64 1)).setCell ⟨w.heap.size, 1, none⟩ (.int .i64 0)).cell? ⟨w.heap.size, 1, none⟩ = some (.int .i64 0) := by rw [d1]; rfl
      have E3 := E2.out
      generalize (wr.setCell ⟨w.heap.size, 0, none⟩ (.int .i64 1)).setCell ⟨w.heap.size, 1, none⟩ (.int .i64 0) = w9 at *
      simp [Leaves, settle, results, Tryd.results11, go_sem, e0, e1]
      exact E3
end
end Go.Proofs.YtapgaclonilnbaaDoor

/-
  Proved: what low.Run answers.
-/
namespace Go.Proofs.YtapgaclonilnbaaDoor
open Go.RowKit
set_option linter.unusedVariables false
set_option linter.unusedSimpArgs false

section
variable {X : Cx} {z : Mh} {nv : Value} {st : Int} {L : Ly} {w w' : World} {ip : List Int}

theorem toTheEnd_c (hc : chk X.l = true) (h : MX X ⟨[], fun _ _ => false, fun _ => 0, ip, [], 0⟩ (.pointer none) 0 L w) (fu : Nat) (hfu : X.fu = fu) (hf6 : fu ≤ 1000000) :
    Calls Tryd.prog 11 #[.pointer (some ⟨X.R, 0, none⟩)] w fun e w' => e = .returned (.agg #[.int .i64 (runS X.l ip fu).1.1, .int .i64 (runS X.l ip fu).1.2]) ∧ EndR X (runS X.l ip fu).2.1 ((runS X.l ip fu).2.2 : Int) w' := by
  unfold runS
  cases hb : byN X.l [109, 97, 105, 110] with
  | none => exact toe_none h hb
  | some zk =>
    obtain ⟨k, rfl, hk, -⟩ := byN_some hb
    have ef : fnO X.l k = X.l[k] := fnO_get X.l k hk
    simp only [Int.toNat_natCast, ef]
    by_cases hw : X.l[k].pa.length ≠ 0 ∨ X.l[k].an ≠ 0
    · rw [if_pos hw]
      exact toe_wrong h k hk hb hw
    · rw [if_neg hw]
      exact toe_main hc h k hk hb (by omega) (by omega) fu hfu hf6
end
end Go.Proofs.YtapgaclonilnbaaDoor

/-
  Proved: what low.Run answers.
-/
namespace Go.Proofs.YtapgaclonilnbaaDoor
open Go.RowKit
set_option linter.unusedVariables false
set_option linter.unusedSimpArgs false

/-- A run: how it ended, what was printed, how many steps. -/
def runE (l : List Lf) (ip : List Int) (fuel : Nat) : (Int × Int) × List Int × Nat := if chk l = true then runS l ip fuel else ((5, 0), [], 0)

/-- What Run answers. -/
def RunR (w : World) (r : (Int × Int) × List Int × Nat) (e : Ending) (w' : World) : Prop :=
  ∃ pv, e = .returned (.tuple #[.agg #[.int .i64 r.1.1, .int .i64 r.1.2, pv], .int .i64 (r.2.2 : Int)]) ∧ Below w.heap.size w w' ∧ OwnB 3 1 noC w.heap.size r.2.1 pv w'

theorem OwnB.older {e : TypeId} {base base' : Nat} {l : List Int} {v : Value} {w : World} (h : OwnB e 1 noC base l v w) (hb : base' ≤ base) : OwnB e 1 noC base' l v w := by
  refine ⟨Nat.le_trans hb h.1, h.2.1, ?_⟩
  rcases h.2.2 with h4 | ⟨g, cap, cur, e1, e2, e3⟩
  · exact Or.inl h4
  · exact Or.inr ⟨g, cap, cur, e1, Nat.le_trans hb e2, e3⟩

set_option maxRecDepth 20000 in
set_option maxHeartbeats 4000000 in
theorem run_no (l : List Lf) (lA : Option Addr) (lC : Nat) (iv : Value) (fu : Int) (w : World) (hl : LfsIn w l (.slice lA l.length lC)) (hc : ¬ chk l = true) :
    Calls Tryd.prog 6 #[.slice lA l.length lC, iv, .int .i64 fu] w fun e w' => RunR w ((5, 0), [], 0) e w' := by
  have B0 := below_alloc w (.cells #[.int .i64 0, .int .i64 0, .slice none 0 0] 26)
  have A0 := At.new w #[.int .i64 0, .int .i64 0, .slice none 0 0] 26
  have HC : Hid (Calls Tryd.prog 8 #[.slice lA l.length lC] (w.alloc (.cells #[.int .i64 0, .int .i64 0, .slice none 0 0] 26)) fun e w' => e = .returned (.int .i64 10) ∧ Below (w.alloc (.cells #[.int .i64 0, .int .i64 0, .slice none 0 0] 26)).heap.size (w.alloc (.cells #[.int .i64 0, .int .i64 0, .slice none 0 0] 26)) w') := by
    have := check_c l lA lC _ (hl.below B0)
    unfold chkE at this
    rw [if_neg hc] at this
    exact this
  have HB : Hid (Below w.heap.size w (w.alloc (.cells #[.int .i64 0, .int .i64 0, .slice none 0 0] 26))) := B0
  have HA : Hid (At (w.alloc (.cells #[.int .i64 0, .int .i64 0, .slice none 0 0] 26)) w.heap.size #[.int .i64 0, .int .i64 0, .slice none 0 0] 26) := A0
  have KF : Hid (∀ w', Below (w.alloc (.cells #[.int .i64 0, .int .i64 0, .slice none 0 0] 26)).heap.size (w.alloc (.cells #[.int .i64 0, .int .i64 0, .slice none 0 0] 26)) w' → w'.cell? ⟨w.heap.size, 0, none⟩ = some (.int .i64 0) ∧ w'.cell? ⟨w.heap.size, 1, none⟩ = some (.int .i64 0) ∧ w'.cell? ⟨w.heap.size, 2, none⟩ = some (.slice none 0 0) ∧ w'.frozen? ⟨w.heap.size, 0, none⟩ = false ∧ w'.frozen? ⟨w.heap.size, 1, none⟩ = false ∧ w'.frozen? ⟨w.heap.size, 2, none⟩ = false) := fun w' hb => by
    have a1 := A0.below hb A0.lt
    exact ⟨by rw [a1.cell]; rfl, by rw [a1.cell]; rfl, by rw [a1.cell]; rfl, a1.frozen 0, a1.frozen 1, a1.frozen 2⟩
  have KB : Hid (∀ w', Below (w.alloc (.cells #[.int .i64 0, .int .i64 0, .slice none 0 0] 26)).heap.size (w.alloc (.cells #[.int .i64 0, .int .i64 0, .slice none 0 0] 26)) w' → At w' w.heap.size #[.int .i64 0, .int .i64 0, .slice none 0 0] 26) := fun w' hb => A0.below hb A0.lt
  clear hl hc A0 B0
  go_enter Tryd.func6, Tryd.ntmps6
  go_wp2_with (go_at_call 8; refine (HC.out).mono ?_; rintro e w1 ⟨rfl, hb1⟩; have B1 : Hid (Below (w.alloc (.cells #[.int .i64 0, .int .i64 0, .slice none 0 0] 26)).heap.size (w.alloc (.cells #[.int .i64 0, .int .i64 0, .slice none 0 0] 26)) w1) := hb1; obtain ⟨d0, d1, d2, f0, f1, f2⟩ := KF.out w1 hb1; clear hb1)
  have a3 := ((KB.out w1 B1.out).set (j := 0) (.int .i64 5)).set (j := 1) (.int .i64 0)
  have a4 := a3.set (j := 2) (.slice none 0 0)
  have e0 : (((w1.setCell ⟨w.heap.size, 0, none⟩ (.int .i64 5)).setCell ⟨w.heap.size, 1, none⟩ (.int .i64 0)).setCell ⟨w.heap.size, 2, none⟩ (.slice none 0 0)).cell? ⟨w.heap.size, 0, none⟩ = some (.int .i64 5) := by rw [a4.cell]; rfl
  have e1 : (((w1.setCell ⟨w.heap.size, 0, none⟩ (.int .i64 5)).setCell ⟨w.heap.size, 1, none⟩ (.int .i64 0)).setCell ⟨w.heap.size, 2, none⟩ (.slice none 0 0)).cell? ⟨w.heap.size, 1, none⟩ = some (.int .i64 0) := by rw [a4.cell]; rfl
  have e2 : (((w1.setCell ⟨w.heap.size, 0, none⟩ (.int .i64 5)).setCell ⟨w.heap.size, 1, none⟩ (.int .i64 0)).setCell ⟨w.heap.size, 2, none⟩ (.slice none 0 0)).cell? ⟨w.heap.size, 2, none⟩ = some (.slice none 0 0) := by rw [a4.cell]; rfl
  have hB : Below w.heap.size w (((w1.setCell ⟨w.heap.size, 0, none⟩ (.int .i64 5)).setCell ⟨w.heap.size, 1, none⟩ (.int .i64 0)).setCell ⟨w.heap.size, 2, none⟩ (.slice none 0 0)) := (((below_next HB.out B1.out).setCell (Nat.le_refl _) _).setCell (Nat.le_refl _) _).setCell (Nat.le_refl _) _
  generalize ((w1.setCell ⟨w.heap.size, 0, none⟩ (.int .i64 5)).setCell ⟨w.heap.size, 1, none⟩ (.int .i64 0)).setCell ⟨w.heap.size, 2, none⟩ (.slice none 0 0) = w9 at *
  refine ⟨rfl, .tuple #[.agg #[.int .i64 5, .int .i64 0, .slice none 0 0], .int .i64 0], ?_, ?_⟩
  · simp [results, Tryd.results6, go_sem, e0, e1, e2]
  · exact ⟨.slice none 0 0, rfl, hB, hB.size, by simp, Or.inl ⟨rfl, rfl⟩⟩
end Go.Proofs.YtapgaclonilnbaaDoor

/-
  Proved: what low.Run answers where Check is content.
-/
namespace Go.Proofs.YtapgaclonilnbaaDoor
open Go.RowKit
set_option linter.unusedVariables false
set_option linter.unusedSimpArgs false

/-- The machine was made. -/
def NR (l : List Lf) (ip : List Int) (fu : Int) (w : World) (e : Ending) (w' : World) : Prop :=
  ∃ R, e = .returned (.pointer (some ⟨R, 0, none⟩)) ∧ Below w.heap.size w w' ∧ ∃ (X : Cx) (L : Ly), X.l = l ∧ X.fu = fu ∧ X.wz = w ∧ X.R = R ∧ MX X ⟨[], fun _ _ => false, fun _ => 0, ip, [], 0⟩ (.pointer none) 0 L w'

/-- What is left of the run. -/
def ER (R : Nat) (base : World) (out : List Int) (st : Int) (w' : World) : Prop :=
  ∃ pv, w'.cell? ⟨R, 4, none⟩ = some (.int .i64 st) ∧ w'.cell? ⟨R, 5, none⟩ = some pv ∧ OwnB 3 1 noC base.heap.size out pv w' ∧ Below base.heap.size base w'

set_option maxRecDepth 20000 in
set_option maxHeartbeats 4000000 in
theorem run_yes (l : List Lf) (lA : Option Addr) (lC : Nat) (ip : List Int) (iv : Value) (fu : Nat) (hf6 : fu ≤ 1000000) (w : World) (ht : Tab w) (hl : LfsIn w l (.slice lA l.length lC)) (hi : InpIn w ip iv) (hc : chk l = true) :
    Calls Tryd.prog 6 #[.slice lA l.length lC, iv, .int .i64 (fu : Int)] w fun e w' => RunR w (runS l ip fu) e w' := by
  have B0 := below_alloc w (.cells #[.int .i64 0, .int .i64 0, .slice none 0 0] 26)
  have A0 := At.new w #[.int .i64 0, .int .i64 0, .slice none 0 0] 26
  generalize hW : w.alloc (.cells #[.int .i64 0, .int .i64 0, .slice none 0 0] 26) = W at *
  have HC : Hid (Calls Tryd.prog 8 #[.slice lA l.length lC] W fun e w' => e = .returned (.int .i64 0) ∧ Below W.heap.size W w') := by
    have := check_c l lA lC _ (hl.below B0)
    unfold chkE at this
    rw [if_pos hc] at this
    exact this
  obtain ⟨IA, IC, rfl, hi2⟩ := id hi
  have HN : Hid (∀ w', Below W.heap.size W w' → Calls Tryd.prog 10 #[.slice lA l.length lC, .slice IA ip.length IC, .int .i64 (fu : Int)] w' fun e w2 => NR l ip fu w' e w2) := fun w' hb => by
    have hb2 := below_next B0 hb
    refine (newRun_c l lA lC ip _ fu w' (ht.below hb2 ht.lt) (hl.below hb2) (by obtain ⟨A, C, e, h1, h2, h3⟩ := hi; exact ⟨A, C, e, h1, h2, h3.below hb2 fun _ _ => id⟩)).mono ?_
    rintro e w2 ⟨X, L, q1, q2, q3, q4, q5⟩
    exact ⟨X.R, q4, by have := q5.bz; rw [q3] at this; exact this, X, L, q1, q2, q3, rfl, q5⟩
  have HE : Hid (∀ w1 w2 R, NR l ip fu w1 (.returned (.pointer (some ⟨R, 0, none⟩))) w2 → Calls Tryd.prog 11 #[.pointer (some ⟨R, 0, none⟩)] w2 fun e w' => e = .returned (.agg #[.int .i64 (runS l ip fu).1.1, .int .i64 (runS l ip fu).1.2]) ∧ ER R w1 (runS l ip fu).2.1 ((runS l ip fu).2.2 : Int) w') := fun w1 w2 R h => by
    obtain ⟨R', e1, -, X, L, q1, q2, q3, q4, q5⟩ := h
    cases e1
    have := toTheEnd_c (by rw [q1]; exact hc) q5 fu q2 hf6
    rw [q1, q4] at this
    refine this.mono ?_
    rintro e w' ⟨rfl, hE⟩
    obtain ⟨pv, r1, r2, r3, r4⟩ := hE
    rw [q4] at r1 r2
    rw [q3] at r3 r4
    exact ⟨rfl, pv, r1, r2, r3, r4⟩
  have HB : Hid (Below w.heap.size w W) := B0
  have KB : Hid (∀ w', Below W.heap.size W w' → At w' w.heap.size #[.int .i64 0, .int .i64 0, .slice none 0 0] 26) := fun w' hb => A0.below hb A0.lt
  have HW : Hid (w.alloc (.cells #[.int .i64 0, .int .i64 0, .slice none 0 0] 26) = W) := hW
  clear hl hc A0 B0 hi hi2 ht
  obtain ⟨r, hr⟩ : ∃ r, r = runS l ip fu := ⟨_, rfl⟩
  rw [← hr] at HE ⊢
  clear hr
  go_enter Tryd.func6, Tryd.ntmps6
  go_wp2_with (first
    | (go_at_call 8; (try rw [hW]); refine (HC.out).mono ?_; rintro e w1 ⟨rfl, hb1⟩; have B1 : Hid (Below W.heap.size W w1) := hb1; clear hb1)
    | (go_at_call 10; refine (HN.out _ B1.out).mono ?_; rintro e w2 ⟨R, rfl, hb2, hn2⟩; have N2 : Hid (NR l ip fu w1 (.returned (.pointer (some ⟨R, 0, none⟩))) w2) := ⟨R, rfl, hb2, hn2⟩; clear hb2 hn2)
    | (go_at_call 11; refine (HE.out _ _ _ N2.out).mono ?_; rintro e w3 ⟨rfl, pv, hp⟩; have P3 : Hid (w3.cell? ⟨R, 4, none⟩ = some (.int .i64 r.2.2) ∧ w3.cell? ⟨R, 5, none⟩ = some pv ∧ OwnB 3 1 noC w1.heap.size r.2.1 pv w3 ∧ Below w1.heap.size w1 w3) := hp; clear hp))
  obtain ⟨c4, c5, ho, h3⟩ := P3.out
  obtain ⟨pA, pC, epv, -⟩ := OwnB.shape noC_len ho
  have hR : w1.heap.size ≤ R := by
    obtain ⟨R', e1, -, X, L, -, -, q3, q4, q5⟩ := N2.out
    cases e1
    rcases Nat.lt_or_ge R w1.heap.size with e | e
    · have h1 := q5.zz R (by rw [q3]; exact e)
      have h2 := q5.ro.r
      rw [q4] at h2
      omega
    · exact e
  have hR2 : R < w3.heap.size := World.block_lt_of_cell? _ _ c4
  have h13 := below_next B1.out h3
  have a6 := (KB.out w3 h13).below (below_alloc w3 (.cells #[.int .i64 r.1.1, .int .i64 r.1.2] 48)) (KB.out w3 h13).lt
  have ww : w.heap.size < W.heap.size := by have := (KB.out W (Below.refl _ _)).lt; exact this
  have s1 := B1.out.size
  have s3 := h3.size
  have b4 := below_alloc w3 (.cells #[.int .i64 r.1.1, .int .i64 r.1.2] 48)
  have k4 := (b4.cell (p := ⟨R, 4, none⟩) hR2).trans c4
  have k5 := (b4.cell (p := ⟨R, 5, none⟩) hR2).trans c5
  have k9 := At.new w3 #[.int .i64 r.1.1, .int .i64 r.1.2] 48
  have m0 : (w3.alloc (.cells #[.int .i64 r.1.1, .int .i64 r.1.2] 48)).cell? ⟨w3.heap.size, 0, none⟩ = some (.int .i64 r.1.1) := by rw [k9.cell]; rfl
  have m1 : (w3.alloc (.cells #[.int .i64 r.1.1, .int .i64 r.1.2] 48)).cell? ⟨w3.heap.size, 1, none⟩ = some (.int .i64 r.1.2) := by rw [k9.cell]; rfl
  have hB4 : Below w.heap.size w (w3.alloc (.cells #[.int .i64 r.1.1, .int .i64 r.1.2] 48)) := (below_next HB.out h13).trans (b4.mono (by have := HB.out.size; omega))
  have ho4 := (ho.below b4).older (base' := w.heap.size) (by omega)
  have hov : ∀ b, pv.ownBlock = some b → w1.heap.size ≤ b := fun b hb => (ho.at hb).1
  generalize w3.alloc (.cells #[.int .i64 r.1.1, .int .i64 r.1.2] 48) = w4 at *
  have n6 : ¬ R = w.heap.size := by omega
  have n7 : ¬ w.heap.size = R := by omega
  have d0 : w4.cell? ⟨w.heap.size, 0, none⟩ = some (.int .i64 0) := by rw [a6.cell]; rfl
  have d1 : w4.cell? ⟨w.heap.size, 1, none⟩ = some (.int .i64 0) := by rw [a6.cell]; rfl
  have d2 : w4.cell? ⟨w.heap.size, 2, none⟩ = some (.slice none 0 0) := by rw [a6.cell]; rfl
  have f0 := a6.frozen 0
  have f1 := a6.frozen 1
  have f2 := a6.frozen 2
  have FIN : Hid (RunR w r (.returned (.tuple #[.agg #[.int .i64 r.1.1, .int .i64 r.1.2, pv], .int .i64 (r.2.2 : Int)])) (((w4.setCell ⟨w.heap.size, 0, none⟩ (.int .i64 r.1.1)).setCell ⟨w.heap.size, 1, none⟩ (.int .i64 r.1.2)).setCell ⟨w.heap.size, 2, none⟩ pv)) := by
    have k : Kp (fun b => b = w.heap.size) w4 (((w4.setCell ⟨w.heap.size, 0, none⟩ (.int .i64 r.1.1)).setCell ⟨w.heap.size, 1, none⟩ (.int .i64 r.1.2)).setCell ⟨w.heap.size, 2, none⟩ pv) := ((Kp.set (F := fun b => b = w.heap.size) _ 0 _ rfl).trans (Kp.set (F := fun b => b = w.heap.size) _ 1 _ rfl)).trans (Kp.set (F := fun b => b = w.heap.size) _ 2 _ rfl)
    exact ⟨pv, rfl, ((hB4.setCell (Nat.le_refl _) _).setCell (Nat.le_refl _) _).setCell (Nat.le_refl _) _, ho4.but k fun b hb e => by have := hov b hb; omega⟩
  have a9 := ((a6.set (j := 0) (.int .i64 r.1.1)).set (j := 1) (.int .i64 r.1.2)).set (j := 2) pv
  have e0 : (((w4.setCell ⟨w.heap.size, 0, none⟩ (.int .i64 r.1.1)).setCell ⟨w.heap.size, 1, none⟩ (.int .i64 r.1.2)).setCell ⟨w.heap.size, 2, none⟩ pv).cell? ⟨w.heap.size, 0, none⟩ = some (.int .i64 r.1.1) := by rw [a9.cell]; rfl
  have e1 : (((w4.setCell ⟨w.heap.size, 0, none⟩ (.int .i64 r.1.1)).setCell ⟨w.heap.size, 1, none⟩ (.int .i64 r.1.2)).setCell ⟨w.heap.size, 2, none⟩ pv).cell? ⟨w.heap.size, 1, none⟩ = some (.int .i64 r.1.2) := by rw [a9.cell]; rfl
  have e2 : (((w4.setCell ⟨w.heap.size, 0, none⟩ (.int .i64 r.1.1)).setCell ⟨w.heap.size, 1, none⟩ (.int .i64 r.1.2)).setCell ⟨w.heap.size, 2, none⟩ pv).cell? ⟨w.heap.size, 2, none⟩ = some pv := by rw [a9.cell]; rfl
  have FF : Hid (∀ w9, w9 = ((w4.setCell ⟨w.heap.size, 0, none⟩ (.int .i64 r.1.1)).setCell ⟨w.heap.size, 1, none⟩ (.int .i64 r.1.2)).setCell ⟨w.heap.size, 2, none⟩ pv → w9.cell? ⟨w.heap.size, 0, none⟩ = some (.int .i64 r.1.1) ∧ w9.cell? ⟨w.heap.size, 1, none⟩ = some (.int .i64 r.1.2) ∧ w9.cell? ⟨w.heap.size, 2, none⟩ = some pv ∧ RunR w r (.returned (.tuple #[.agg #[.int .i64 r.1.1, .int .i64 r.1.2, pv], .int .i64 (r.2.2 : Int)])) w9) := fun w9 e => by rw [e]; exact ⟨e0, e1, e2, FIN.out⟩
  clear e0 e1 e2 a9 FIN a6 k9 ho4 hov hB4 b4 ho h3 h13 c4 c5 P3 N2 HC HN HE KB HW hW B1 HB s1 s3 ww hR hR2
  generalize w3.heap.size = b9 at *
  subst epv
  generalize w.heap.size = b6 at *
  go_region
  go_wp2
  obtain ⟨e0, e1, e2, e3⟩ := FF.out _ rfl
  generalize ((w4.setCell ⟨b6, 0, none⟩ (.int .i64 r.1.1)).setCell ⟨b6, 1, none⟩ (.int .i64 r.1.2)).setCell ⟨b6, 2, none⟩ (.slice pA r.2.1.length pC) = w9 at *
  refine ⟨rfl, .tuple #[.agg #[.int .i64 r.1.1, .int .i64 r.1.2, .slice pA r.2.1.length pC], .int .i64 (r.2.2 : Int)], ?_, ?_⟩
  · simp [results, Tryd.results6, go_sem, e0, e1, e2]
  · obtain ⟨pv, q1, q2, q3⟩ := e3
    exact ⟨pv, q1, q2.drew, q3.below (below_drew _)⟩

theorem prun_c (l : List Lf) (lA : Option Addr) (lC : Nat) (ip : List Int) (iv : Value) (fu : Nat) (hf6 : fu ≤ 1000000) (w : World) (ht : Tab w) (hl : LfsIn w l (.slice lA l.length lC)) (hi : InpIn w ip iv) :
    Calls Tryd.prog 6 #[.slice lA l.length lC, iv, .int .i64 (fu : Int)] w fun e w' => RunR w (runE l ip fu) e w' := by
  unfold runE
  by_cases hc : chk l = true
  · rw [if_pos hc]
    exact run_yes l lA lC ip iv fu hf6 w ht hl hi hc
  · rw [if_neg hc]
    exact run_no l lA lC iv fu w hl hc
end Go.Proofs.YtapgaclonilnbaaDoor
