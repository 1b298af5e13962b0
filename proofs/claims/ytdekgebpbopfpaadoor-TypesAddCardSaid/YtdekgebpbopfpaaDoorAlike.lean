/-
  Proved: types.copied and types.copies hand out the same types, in new memory.
-/
import Derived.Test.YtdekgebpbopfpaaDoorCopies
namespace Go.Proofs.YtdekgebpbopfpaaDoor
open Go.RowKit

/-- The cells of a type, so many levels deep, what it leads to in blocks from m on. -/
def TGF (m : Nat) (w : World) : Nat → T → List Value → Prop
  | 0, _, _ => False
  | N + 1, .mk k s n es, cs => ∃ (A : Option Addr) (C : Nat), cs = [.int .i64 k, .string s, .int .i64 n, .slice A es.length C] ∧ es.length ≤ 9223372036854775807 ∧
      ∀ i (h : i < es.length), ∃ b o cs', A = some ⟨b, o, none⟩ ∧ m ≤ b ∧ RowAt w b (o + i * 4) cs' ∧ TGF m w N (es[i]'h) cs'

def TG (m : Nat) (w : World) (t : T) (cs : List Value) : Prop := ∃ N, TGF m w N t cs

def TsG (m : Nat) (w : World) (es : List T) (A : Option Addr) : Prop :=
  es.length ≤ 9223372036854775807 ∧ ∃ N, ∀ i (h : i < es.length), ∃ b o cs', A = some ⟨b, o, none⟩ ∧ m ≤ b ∧ RowAt w b (o + i * 4) cs' ∧ TGF m w N (es[i]'h) cs'

theorem TGF.tin {m : Nat} {w : World} : ∀ {N : Nat} {t : T} {cs : List Value}, TGF m w N t cs → TIn w t cs := by
  intro N
  induction N with
  | zero => intro t cs h; exact absurd h (by cases t; exact id)
  | succ N ih =>
    intro t cs h
    obtain ⟨k, s, n, es⟩ := t
    obtain ⟨A, C, rfl, h1, h2⟩ := h
    refine TIn.of ⟨h1, fun i hi => ?_⟩
    obtain ⟨b, o, cs', e, _, hr, hx⟩ := h2 i hi
    exact ⟨b, o, cs', e, hr, ih hx⟩

theorem TsG.tin {m : Nat} {w : World} {es : List T} {A : Option Addr} (h : TsG m w es A) : TsIn w es A := by
  obtain ⟨h1, N, h2⟩ := h
  refine ⟨h1, fun i hi => ?_⟩
  obtain ⟨b, o, cs', e, _, hr, hx⟩ := h2 i hi
  exact ⟨b, o, cs', e, hr, hx.tin⟩

/-- Blocks from m on stand. -/
def From (m : Nat) (w w' : World) : Prop := ∀ b, m ≤ b → b < w.heap.size → w'.heap[b]? = w.heap[b]?

theorem from_cell {m : Nat} {w w' : World} (h : From m w w') {b o : Nat} (hb : m ≤ b) (hl : b < w.heap.size) : w'.cell? ⟨b, o, none⟩ = w.cell? ⟨b, o, none⟩ := by
  unfold World.cell?
  simp only [h b hb hl]

theorem row_from {m : Nat} {w w' : World} (h : From m w w') (hs : w.heap.size ≤ w'.heap.size) {b o : Nat} {cs : List Value} (hb : m ≤ b) (hr : RowAt w b o cs) : RowAt w' b o cs :=
  ⟨Nat.lt_of_lt_of_le hr.1 hs, fun j v hj => (from_cell h hb hr.1).trans (hr.2 j v hj)⟩

theorem TGF.from {m m' : Nat} {w w' : World} (hm : m' ≤ m) (h : From m w w') (hs : w.heap.size ≤ w'.heap.size) : ∀ {N : Nat} {t : T} {cs : List Value}, TGF m w N t cs → TGF m' w' N t cs := by
  intro N
  induction N with
  | zero => intro t cs h; exact absurd h (by cases t; exact id)
  | succ N ih =>
    intro t cs ht
    obtain ⟨k, s, n, es⟩ := t
    obtain ⟨A, C, e, h1, h2⟩ := ht
    refine ⟨A, C, e, h1, fun i hi => ?_⟩
    obtain ⟨b, o, cs', e', hb, hr, hx⟩ := h2 i hi
    exact ⟨b, o, cs', e', Nat.le_trans hm hb, row_from h hs hb hr, ih hx⟩

theorem TGF.more {m : Nat} {w : World} : ∀ {N M : Nat} {t : T} {cs : List Value}, N ≤ M → TGF m w N t cs → TGF m w M t cs := by
  intro N
  induction N with
  | zero => intro M t cs _ h; exact absurd h (by cases t; exact id)
  | succ N ih =>
    intro M t cs hNM ht
    cases M with
    | zero => omega
    | succ M =>
      obtain ⟨k, s, n, es⟩ := t
      obtain ⟨A, C, e, h1, h2⟩ := ht
      refine ⟨A, C, e, h1, fun i hi => ?_⟩
      obtain ⟨b, o, cs', e', hb, hr, hx⟩ := h2 i hi
      exact ⟨b, o, cs', e', hb, hr, ih (by omega) hx⟩

theorem from_below {w w' : World} (h : Below w.heap.size w w') (m : Nat) : From m w w' := fun b _ hl => h.block b hl

/-- Lists are as long as memory lets them be. -/
def FitF : Nat → T → Prop
  | 0, _ => False
  | N + 1, .mk _ _ _ es => es.length * 56 ≤ 140737488355328 ∧ ∀ i (h : i < es.length), FitF N (es[i]'h)

def Fit (t : T) : Prop := ∃ N, FitF N t
def Fits (es : List T) : Prop := es.length * 56 ≤ 140737488355328 ∧ ∀ i (h : i < es.length), Fit (es[i]'h)

theorem Fit.elems {k : Int} {s : ByteArray} {n : Int} {es : List T} (h : Fit (.mk k s n es)) : Fits es := by
  obtain ⟨N, h⟩ := h
  cases N with
  | zero => exact absurd h id
  | succ N => exact ⟨h.1, fun i hi => ⟨N, h.2 i hi⟩⟩

theorem make25' (n : Nat) (hn : n * 56 ≤ 140737488355328) : ∃ cur : Array Value, cur.size = n * 4 ∧ ∀ w, (Instr.makeSlice 23 (.int .i64 (n : Int)) (.int .i64 (n : Int))).run Tryd.prog w = .ok (.slice (some ⟨w.heap.size, 0, none⟩) n n) (w.alloc (.cells cur 25)) := by
  obtain ⟨i, hi, hzz⟩ := Option.map_eq_some_iff.1 info25
  simp only [Prod.mk.injEq] at hzz
  obtain ⟨hz, hs, hb⟩ := hzz
  refine ⟨madeCells (Value.agg #[.int .i64 0, .string ⟨#[]⟩, .int .i64 0, .slice none 0 0]).cells (n * 4), size_madeCells _ _, fun w => ?_⟩
  have hr := run_make (P := Tryd.prog) w 23 25 i _ Tryd.underlying23 hi hz .i64 .i64 n n (by omega) (Int.le_refl _) (by rw [hb]; omega) (by omega)
  simp only [Int.toNat_natCast, hs] at hr
  exact hr

/-- What a call that copies a type answers: it. -/
def CopiedS (t : T) : Prop := ∀ (w : World) (cs : List Value), TIn w t cs →
  Calls Tryd.prog 17 #[.agg cs.toArray] w fun e w' => (∃ cs', e = .returned (.agg cs'.toArray) ∧ TG w.heap.size w' t cs') ∧ Below w.heap.size w w'

def CopiesS (ts : List T) : Prop := ∀ (w : World) (A : Option Addr) (C : Nat), TsIn w ts A →
  Calls Tryd.prog 18 #[.slice A ts.length C] w fun e w' => (∃ A' C', e = .returned (.slice A' ts.length C') ∧ TsG w.heap.size w' ts A') ∧ Below w.heap.size w w'

/-- So many have been copied into the row. -/
def CR (w : World) (ts : List T) (k : Nat) (wr : World) : Prop :=
  Below w.heap.size w wr ∧ w.heap.size < wr.heap.size ∧ ∃ (cur : Array Value) (N : Nat), cur.size = ts.length * 4 ∧ At wr w.heap.size cur 25 ∧
    ∀ i (h : i < ts.length), i < k → ∃ cs', (∀ j v, cs'[j]? = some v → cur[i * 4 + j]? = some v) ∧ TGF (w.heap.size + 1) wr N (ts[i]'h) cs'

theorem CR.done {w wr : World} {ts : List T} (hl : ts.length ≤ 9223372036854775807) (h : CR w ts ts.length wr) : TsG w.heap.size wr ts (some ⟨w.heap.size, 0, none⟩) := by
  obtain ⟨_, _, cur, N, hc, ha, hx⟩ := h
  refine ⟨hl, N, fun i hi => ?_⟩
  obtain ⟨cs', h1, h2⟩ := hx i hi hi
  refine ⟨w.heap.size, 0, cs', rfl, Nat.le_refl _, ⟨ha.lt, fun j v hj => ?_⟩, h2.from (Nat.le_succ _) (fun _ _ _ => rfl) (Nat.le_refl _)⟩
  rw [ha.cell, show 0 + i * 4 + j = i * 4 + j by omega]
  exact h1 j v hj

/-- One more. -/
theorem CR.step {w wr w1 : World} {ts : List T} {k : Nat} (h : CR w ts k wr) (hk : k < ts.length) (hb : Below wr.heap.size wr w1) {k' : Int} {s' : ByteArray} {n' : Int} {A' : Option Addr} {l' C' : Nat} (hx : TG (w.heap.size + 1) w1 (ts[k]'hk) [.int .i64 k', .string s', .int .i64 n', .slice A' l' C']) :
    CR w ts (k + 1) ((((w1.setCell ⟨w.heap.size, k * 4, none⟩ (.int .i64 k')).setCell ⟨w.heap.size, k * 4 + 1, none⟩ (.string s')).setCell ⟨w.heap.size, k * 4 + 2, none⟩ (.int .i64 n')).setCell ⟨w.heap.size, k * 4 + 3, none⟩ (.slice A' l' C')) := by
  obtain ⟨h1, h2, cur, N, hc, ha, hh⟩ := h
  obtain ⟨M, hM⟩ := hx
  have hB := (((((h1.trans (hb.mono h1.size)).setCell (p := ⟨w.heap.size, k * 4, none⟩) (Nat.le_refl _) (.int .i64 k')).setCell (p := ⟨w.heap.size, k * 4 + 1, none⟩) (Nat.le_refl _) (.string s')).setCell (p := ⟨w.heap.size, k * 4 + 2, none⟩) (Nat.le_refl _) (.int .i64 n')).setCell (p := ⟨w.heap.size, k * 4 + 3, none⟩) (Nat.le_refl _) (.slice A' l' C'))
  have hF : From (w.heap.size + 1) w1 ((((w1.setCell ⟨w.heap.size, k * 4, none⟩ (.int .i64 k')).setCell ⟨w.heap.size, k * 4 + 1, none⟩ (.string s')).setCell ⟨w.heap.size, k * 4 + 2, none⟩ (.int .i64 n')).setCell ⟨w.heap.size, k * 4 + 3, none⟩ (.slice A' l' C')) := fun b hb1 _ => by
    have ne : ∀ o, b ≠ (⟨w.heap.size, o, none⟩ : Addr).block := fun o e => by simp at e; omega
    rw [Below.heap_setCell _ _ _ b (ne _), Below.heap_setCell _ _ _ b (ne _), Below.heap_setCell _ _ _ b (ne _), Below.heap_setCell _ _ _ b (ne _)]
  have hS : w1.heap.size ≤ ((((w1.setCell ⟨w.heap.size, k * 4, none⟩ (.int .i64 k')).setCell ⟨w.heap.size, k * 4 + 1, none⟩ (.string s')).setCell ⟨w.heap.size, k * 4 + 2, none⟩ (.int .i64 n')).setCell ⟨w.heap.size, k * 4 + 3, none⟩ (.slice A' l' C')).heap.size := by simp [World.setCell]
  have ha1 := ha.below hb ha.lt
  refine ⟨hB, Nat.lt_of_lt_of_le (Nat.lt_of_lt_of_le h2 hb.size) hS, _, max N M, by simp [hc], (((ha1.set (j := k * 4) _).set (j := k * 4 + 1) _).set (j := k * 4 + 2) _).set (j := k * 4 + 3) _, fun i hi hik => ?_⟩
  by_cases hie : i = k
  · subst hie
    refine ⟨_, fun j v hj => ?_, (hM.more (Nat.le_max_right _ _)).from (Nat.le_refl _) hF hS⟩
    have hj4 : j < 4 := (List.getElem?_eq_some_iff.1 hj).1
    have hsz : i * 4 + 3 < cur.size := by omega
    have : j = 0 ∨ j = 1 ∨ j = 2 ∨ j = 3 := by omega
    rcases this with rfl | rfl | rfl | rfl <;> simp [Array.getElem?_setIfInBounds, hc] <;> simp at hj <;> first | (subst hj; simp; omega) | (subst hj; simp) | skip
  · obtain ⟨cs', k1, k2⟩ := hh i hi (by omega)
    refine ⟨cs', fun j v hj => ?_, ((k2.more (Nat.le_max_left _ _)).from (Nat.le_refl _) (from_below hb _) hb.size).from (Nat.le_refl _) hF hS⟩
    have hj4 : j < 4 := by
      have hlen : cs'.length = 4 := by
        clear hM
        generalize ts[i] = tt at k2
        obtain ⟨kk, ss, nn, ees⟩ := tt
        cases N with
        | zero => exact absurd k2 id
        | succ N => obtain ⟨A, C, e, _⟩ := k2; rw [e]; rfl
      have := (List.getElem?_eq_some_iff.1 hj).1
      omega
    have := k1 j v hj
    simp only [Array.getElem?_setIfInBounds]
    rw [if_neg (by omega), if_neg (by omega), if_neg (by omega), if_neg (by omega)]
    exact this

set_option maxRecDepth 100000 in
set_option maxHeartbeats 2000000 in
theorem copiesS_c (ts : List T) (hl : ts.length * 56 ≤ 140737488355328) (h0 : 0 < ts.length) (ih : ∀ i (h : i < ts.length), CopiedS (ts[i]'h)) (A : Option Addr) (C : Nat) (w : World) (ht : TsIn w ts A) :
    Calls Tryd.prog 18 #[.slice A ts.length C] w fun e w' => (∃ A' C', e = .returned (.slice A' ts.length C') ∧ TsG w.heap.size w' ts A') ∧ Below w.heap.size w w' := by
  have IH : Hid (∀ i (h : i < ts.length), CopiedS (ts[i]'h)) := ih
  have HT : Hid (TsIn w ts A) := ht
  have hne : ¬ (ts.length : Int) = 0 := by omega
  have hneb : ((ts.length : Int) == 0) = false := by simpa using hne
  have hnn : ¬ ts.length = 0 := by omega
  obtain ⟨cur0, hc0, hmk⟩ := make25' ts.length hl
  clear ih ht
  go_enter Tryd.func18, Tryd.ntmps18
  go_wp2
  have A0 : Hid (CR w ts 0 (w.alloc (.cells cur0 25))) := ⟨below_alloc _ _, by simp, cur0, 0, hc0, At.new _ _ _, fun i _ hi => absurd hi (Nat.not_lt_zero _)⟩
  clear hmk hc0
  go_loopw [14] (fun i wr => ∃ k : Nat, k ≤ ts.length ∧ i = .int .i64 (k : Int) ∧ Hid (CR w ts k wr)) (fun i _ => ts.length - (intOf i).toNat)
  case atStart => exact ⟨0, Nat.zero_le _, rfl, A0⟩
  case round =>
    obtain ⟨k, hk, rfl, HC⟩ := hrel
    by_cases hlt : k < ts.length
    · have hlt' : (k : Int) < (ts.length : Int) := by omega
      obtain ⟨b1, o1, cs1, rfl, hr1, ht1⟩ := (HT.out.below HC.out.1).2 k hlt
      have key := IH.out k hlt
      have STEP : Hid (∀ w1, Below wr.heap.size wr w1 → ∀ {k' : Int} {s' : ByteArray} {n' : Int} {A' : Option Addr} {l' C' : Nat}, TG (w.heap.size + 1) w1 (ts[k]'hlt) [.int .i64 k', .string s', .int .i64 n', .slice A' l' C'] → CR w ts (k + 1) ((((w1.setCell ⟨w.heap.size, k * 4, none⟩ (.int .i64 k')).setCell ⟨w.heap.size, k * 4 + 1, none⟩ (.string s')).setCell ⟨w.heap.size, k * 4 + 2, none⟩ (.int .i64 n')).setCell ⟨w.heap.size, k * 4 + 3, none⟩ (.slice A' l' C'))) := fun w1 hb {_ _ _ _ _ _} hx => HC.out.step hlt hb hx
      generalize ts[k] = e1 at ht1 key STEP
      obtain ⟨k1, s1, n1, es1⟩ := e1
      have key' : Hid (∀ w', Below wr.heap.size wr w' → Calls Tryd.prog 17 #[.agg cs1.toArray] w' fun e w'' => (∃ cs', e = .returned (.agg cs'.toArray) ∧ TG w'.heap.size w'' (.mk k1 s1 n1 es1) cs') ∧ Below w'.heap.size w' w'') := fun w' hw' => key w' cs1 (ht1.stays hw')
      obtain ⟨A1, C1, rfl, _⟩ := ht1.inv
      have c0 := hr1.2 0 _ rfl
      have c1 := hr1.2 1 _ rfl
      have c2 := hr1.2 2 _ rfl
      have c3 := hr1.2 3 _ rfl
      simp only [Nat.add_zero] at c0
      have HB1 : Hid (∀ o, Below wr.heap.size wr (wr.alloc o)) := below_alloc wr
      have SZ : Hid (∀ o, w.heap.size + 1 ≤ (wr.alloc o).heap.size) := fun o => Nat.le_trans HC.out.2.1 (below_alloc wr o).size
      clear key hr1 ht1
      go_wp2_with (go_at_call 17; refine (key'.out _ (HB1.out _)).mono ?_; rintro e w1 ⟨⟨cs', rfl, htg⟩, hb1⟩; have M : Hid (Below wr.heap.size wr w1) := below_next (HB1.out _) hb1; obtain ⟨N, hN⟩ := htg; have hN' := hN.from (SZ.out _) (fun _ _ _ => rfl) (Nat.le_refl _); obtain ⟨rA, rC, hcs, hx1, hx2⟩ : ∃ A C, cs' = [.int .i64 k1, .string s1, .int .i64 n1, .slice A es1.length C] ∧ TG (w.heap.size + 1) w1 (.mk k1 s1 n1 es1) cs' ∧ True := (by cases N with | zero => exact absurd hN id | succ N => exact (by obtain ⟨A, C, e, h⟩ := hN; exact ⟨A, C, e, ⟨_, hN'⟩, trivial⟩)); subst hcs; have TGH : Hid (TG (w.heap.size + 1) w1 (.mk k1 s1 n1 es1) [.int .i64 k1, .string s1, .int .i64 n1, .slice rA es1.length rC]) := hx1; obtain ⟨_, _, cur, NN, hcs, hcur, _⟩ := HC.out; have hcur1 := hcur.below M.out hcur.lt; obtain ⟨x0, hx0⟩ := some_at hcs hlt (show 0 < 4 by decide); obtain ⟨x1, hxx1⟩ := some_at hcs hlt (show 1 < 4 by decide); obtain ⟨x2, hxx2⟩ := some_at hcs hlt (show 2 < 4 by decide); obtain ⟨x3, hxx3⟩ := some_at hcs hlt (show 3 < 4 by decide); have d0 : w1.cell? ⟨w.heap.size, k * 4, none⟩ = some x0 := (hcur1.cell _).trans hx0; have d1 : w1.cell? ⟨w.heap.size, k * 4 + 1, none⟩ = some x1 := (hcur1.cell _).trans hxx1; have d2 : w1.cell? ⟨w.heap.size, k * 4 + 2, none⟩ = some x2 := (hcur1.cell _).trans hxx2; have d3 : w1.cell? ⟨w.heap.size, k * 4 + 3, none⟩ = some x3 := (hcur1.cell _).trans hxx3; have f0 := hcur1.frozen (k * 4); have f1 := hcur1.frozen (k * 4 + 1); have f2 := hcur1.frozen (k * 4 + 2); have f3 := hcur1.frozen (k * 4 + 3); clear hb1 hcur hcur1 hcs hx0 hxx1 hxx2 hxx3 hN hN' hx1 hx2)
      go_roundw
      case rel => exact ⟨k + 1, by omega, by go_num, STEP.out _ M.out TGH.out⟩
      case measure => simp [intOf]; omega
    · have hkl : k = ts.length := by omega
      subst hkl
      go_wp2
      go_ret
      exact ⟨⟨_, _, rfl, HC.out.done (by omega)⟩, HC.out.1⟩

theorem copiesS_all (ts : List T) (hl : ts.length * 56 ≤ 140737488355328) (ih : ∀ i (h : i < ts.length), CopiedS (ts[i]'h)) : CopiesS ts := by
  intro w A C ht
  by_cases h0 : 0 < ts.length
  · exact copiesS_c ts hl h0 ih A C w ht
  · have e : ts.length = 0 := by omega
    rw [e]
    exact (copies_nil A C w).mono fun e' w' ⟨h1, h2⟩ => ⟨⟨_, _, h1, by omega, 0, fun i hi => by omega⟩, h2⟩

set_option maxRecDepth 100000 in
set_option maxHeartbeats 2000000 in
theorem copiedS_of (k : Int) (s : ByteArray) (n : Int) (es : List T) (h : CopiesS es) : CopiedS (.mk k s n es) := by
  intro w cs hx
  obtain ⟨A, C, rfl, hes⟩ := hx.inv
  have CP : Hid (∀ w', Below w.heap.size w w' → Calls Tryd.prog 18 #[.slice A es.length C] w' fun e w'' => (∃ A' C', e = .returned (.slice A' es.length C') ∧ TsG w'.heap.size w'' es A') ∧ Below w'.heap.size w' w'') := fun w' hw => h w' A C (hes.below hw)
  have HW2 : Hid (∀ a b, Below w.heap.size w ((w.alloc a).alloc b)) := two_alloc w
  have AT2 : Hid (∀ c1 c2 w1, Below ((w.alloc (.cells c1 25)).alloc (.cells c2 25)).heap.size ((w.alloc (.cells c1 25)).alloc (.cells c2 25)) w1 → At w1 w.heap.size c1 25 ∧ At w1 (w.heap.size + 1) c2 25) := fun c1 c2 w1 hb => by
    have h1 := (At.new w c1 25).alloc (.cells c2 25)
    have h2 := At.new (w.alloc (.cells c1 25)) c2 25
    refine ⟨h1.below hb h1.lt, ?_⟩
    have h3 := h2.below hb h2.lt
    simpa using h3
  have SZ2 : Hid (∀ a b, ((w.alloc a).alloc b).heap.size = w.heap.size + 2) := fun a b => by simp
  clear hes hx
  go_enter Tryd.func17, Tryd.ntmps17
  go_wp2_with (go_at_call 18; refine (CP.out _ (HW2.out _ _)).mono ?_; rintro e w1 ⟨⟨A', C', rfl, htg⟩, hb1⟩; rw [SZ2.out] at htg; have TS : Hid (TsG (w.heap.size + 2) w1 es A') := htg; have B1 : Hid (Below w.heap.size w w1) := below_next (HW2.out _ _) hb1; obtain ⟨a1, a2⟩ := AT2.out _ _ _ hb1; have HA1 : Hid (At w1 w.heap.size #[.int .i64 k, .string s, .int .i64 n, .slice A es.length C] 25) := a1; have HA2 : Hid (At w1 (w.heap.size + 1) #[.int .i64 0, .string ⟨#[]⟩, .int .i64 0, .slice none 0 0] 25) := a2; have c0 : w1.cell? ⟨w.heap.size, 0, none⟩ = some (.int .i64 k) := (a1.cell 0).trans rfl; have c1 : w1.cell? ⟨w.heap.size, 1, none⟩ = some (.string s) := (a1.cell 1).trans rfl; have c2 : w1.cell? ⟨w.heap.size, 2, none⟩ = some (.int .i64 n) := (a1.cell 2).trans rfl; have c3 : w1.cell? ⟨w.heap.size, 3, none⟩ = some (.slice A es.length C) := (a1.cell 3).trans rfl; have f3 := a1.frozen 3; have d0 : w1.cell? ⟨w.heap.size + 1, 0, none⟩ = some (.int .i64 0) := (a2.cell 0).trans rfl; have d1 : w1.cell? ⟨w.heap.size + 1, 1, none⟩ = some (.string ⟨#[]⟩) := (a2.cell 1).trans rfl; have d2 : w1.cell? ⟨w.heap.size + 1, 2, none⟩ = some (.int .i64 0) := (a2.cell 2).trans rfl; have d3 : w1.cell? ⟨w.heap.size + 1, 3, none⟩ = some (.slice none 0 0) := (a2.cell 3).trans rfl; have g0 := a2.frozen 0; have g1 := a2.frozen 1; have g2 := a2.frozen 2; have g3 := a2.frozen 3; have z1 := a1.lt; have z2 := a2.lt; clear hb1 a1 a2 htg)
  have hA := (((((HA2.out.far (B' := w.heap.size) (j := 3) (by omega) (.slice A' es.length C')).set (j := 0) (.int .i64 k)).set (j := 1) (.string s)).set (j := 2) (.int .i64 n)).set (j := 3) (.slice A' es.length C'))
  have k0 := (hA.cell 0).trans (b := some (Value.int .i64 k)) rfl
  have k1 := (hA.cell 1).trans (b := some (Value.string s)) rfl
  have k2 := (hA.cell 2).trans (b := some (Value.int .i64 n)) rfl
  have k3 := (hA.cell 3).trans (b := some (Value.slice A' es.length C')) rfl
  have hle : w.heap.size ≤ w.heap.size + 1 := by omega
  have hB := (((((B1.out.setCell (p := ⟨w.heap.size, 3, none⟩) (Nat.le_refl _) (.slice A' es.length C')).setCell (p := ⟨w.heap.size + 1, 0, none⟩) hle (.int .i64 k)).setCell (p := ⟨w.heap.size + 1, 1, none⟩) hle (.string s)).setCell (p := ⟨w.heap.size + 1, 2, none⟩) hle (.int .i64 n)).setCell (p := ⟨w.heap.size + 1, 3, none⟩) hle (.slice A' es.length C'))
  refine bodyPost_ret (v := .agg #[.int .i64 k, .string s, .int .i64 n, .slice A' es.length C']) (by simp [results, Tryd.results17, go_sem, k0, k1, k2, k3]) rfl ⟨⟨[.int .i64 k, .string s, .int .i64 n, .slice A' es.length C'], rfl, ?_⟩, hB⟩
  obtain ⟨t1, N, t2⟩ := TS.out
  have hF : From (w.heap.size + 2) w1 (((((w1.setCell ⟨w.heap.size, 3, none⟩ (.slice A' es.length C')).setCell ⟨w.heap.size + 1, 0, none⟩ (.int .i64 k)).setCell ⟨w.heap.size + 1, 1, none⟩ (.string s)).setCell ⟨w.heap.size + 1, 2, none⟩ (.int .i64 n)).setCell ⟨w.heap.size + 1, 3, none⟩ (.slice A' es.length C')) := fun b hb1 _ => by
    have ne : ∀ c o, c < w.heap.size + 2 → b ≠ (⟨c, o, none⟩ : Addr).block := fun c o hc e => by simp at e; omega
    rw [Below.heap_setCell _ _ _ b (ne _ _ (by omega)), Below.heap_setCell _ _ _ b (ne _ _ (by omega)), Below.heap_setCell _ _ _ b (ne _ _ (by omega)), Below.heap_setCell _ _ _ b (ne _ _ (by omega)), Below.heap_setCell _ _ _ b (ne _ _ (by omega))]
  have hS : w1.heap.size ≤ (((((w1.setCell ⟨w.heap.size, 3, none⟩ (.slice A' es.length C')).setCell ⟨w.heap.size + 1, 0, none⟩ (.int .i64 k)).setCell ⟨w.heap.size + 1, 1, none⟩ (.string s)).setCell ⟨w.heap.size + 1, 2, none⟩ (.int .i64 n)).setCell ⟨w.heap.size + 1, 3, none⟩ (.slice A' es.length C')).heap.size := by simp [World.setCell]
  refine ⟨N + 1, A', C', rfl, t1, fun i hi => ?_⟩
  obtain ⟨b, o, cs', e', hb, hr, hx⟩ := t2 i hi
  exact ⟨b, o, cs', e', by omega, row_from hF hS hb hr, hx.from (by omega) hF hS⟩

theorem fit_copied : ∀ (N : Nat) (t : T), FitF N t → CopiedS t := by
  intro N
  induction N with
  | zero => intro t h; exact absurd h (by cases t; exact id)
  | succ N ih =>
    intro t h
    obtain ⟨k, s, n, es⟩ := t
    exact copiedS_of k s n es (copiesS_all es h.1 (fun i hi => ih _ (h.2 i hi)))

end Go.Proofs.YtdekgebpbopfpaaDoor
