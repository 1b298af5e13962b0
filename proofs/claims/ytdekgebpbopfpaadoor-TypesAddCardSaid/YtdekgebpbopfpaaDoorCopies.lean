/-
  Proved: types.copied and types.copies hand out as many types, in new memory.
-/
import Derived.Test.YtdekgebpbopfpaaDoorItem
import Derived.Laws.MakeOwn
import Derived.Deep.OwnRows
namespace Go.Proofs.YtdekgebpbopfpaaDoor
open Go.RowKit

/-- What a call that copies a type answers: a type. -/
def CopiedC (t : T) : Prop := ∀ (w : World) (cs : List Value), TIn w t cs →
  Calls Tryd.prog 17 #[.agg cs.toArray] w fun e w' => (∃ k s n A l C, e = .returned (.agg #[.int .i64 k, .string s, .int .i64 n, .slice A l C])) ∧ Below w.heap.size w w'

theorem copies_nil (A : Option Addr) (C : Nat) (w : World) : Calls Tryd.prog 18 #[.slice A 0 C] w fun e w' => e = .returned (.slice none 0 0) ∧ Below w.heap.size w w' := by
  go_enter Tryd.func18, Tryd.ntmps18
  go_wp2
  go_ret
  exact ⟨rfl, Below.refl _ _⟩

theorem info25 : (Tryd.prog.info? 25).map (fun i => (i.zero, i.size, i.bytes)) = some (some (.agg #[.int .i64 0, .string ⟨#[]⟩, .int .i64 0, .slice none 0 0]), 4, 56) := by kernel_rfl

theorem make25 (n : Nat) (hn : n ≤ 1000000) : ∃ cur : Array Value, cur.size = n * 4 ∧ ∀ w, (Instr.makeSlice 23 (.int .i64 (n : Int)) (.int .i64 (n : Int))).run Tryd.prog w = .ok (.slice (some ⟨w.heap.size, 0, none⟩) n n) (w.alloc (.cells cur 25)) := by
  obtain ⟨i, hi, hzz⟩ := Option.map_eq_some_iff.1 info25
  simp only [Prod.mk.injEq] at hzz
  obtain ⟨hz, hs, hb⟩ := hzz
  refine ⟨madeCells (Value.agg #[.int .i64 0, .string ⟨#[]⟩, .int .i64 0, .slice none 0 0]).cells (n * 4), size_madeCells _ _, fun w => ?_⟩
  have hr := run_make (P := Tryd.prog) w 23 25 i _ Tryd.underlying23 hi hz .i64 .i64 n n (by omega) (Int.le_refl _) (by rw [hb]; omega) (by omega)
  simp only [Int.toNat_natCast, hs] at hr
  exact hr

theorem some_at {cur : Array Value} {n k j : Nat} (hc : cur.size = n * 4) (hk : k < n) (hj : j < 4) : ∃ x, cur[k * 4 + j]? = some x := ⟨_, Array.getElem?_eq_getElem (by omega)⟩

set_option maxRecDepth 100000 in
set_option maxHeartbeats 2000000 in
theorem copies_c (ts : List T) (hl : ts.length ≤ 1000000) (h0 : 0 < ts.length) (ih : ∀ i (h : i < ts.length), CopiedC (ts[i]'h)) (A : Option Addr) (C : Nat) (w : World) (ht : TsIn w ts A) :
    Calls Tryd.prog 18 #[.slice A ts.length C] w fun e w' => (∃ A' C', e = .returned (.slice A' ts.length C')) ∧ Below w.heap.size w w' := by
  have IH : Hid (∀ i (h : i < ts.length), CopiedC (ts[i]'h)) := ih
  have HT : Hid (TsIn w ts A) := ht
  have hne : ¬ (ts.length : Int) = 0 := by omega
  have hneb : ((ts.length : Int) == 0) = false := by simpa using hne
  have hnn : ¬ ts.length = 0 := by omega
  obtain ⟨cur0, hc0, hmk⟩ := make25 ts.length hl
  clear ih ht
  go_enter Tryd.func18, Tryd.ntmps18
  go_wp2
  have A0 : Hid (∃ cur : Array Value, cur.size = ts.length * 4 ∧ At (w.alloc (.cells cur0 25)) w.heap.size cur 25) := ⟨cur0, hc0, At.new _ _ _⟩
  clear hmk hc0
  go_loopw [14] (fun i wr => ∃ k : Nat, k ≤ ts.length ∧ i = .int .i64 (k : Int) ∧ Hid (Below w.heap.size w wr) ∧ Hid (∃ cur : Array Value, cur.size = ts.length * 4 ∧ At wr w.heap.size cur 25)) (fun i _ => ts.length - (intOf i).toNat)
  case atStart => exact ⟨0, Nat.zero_le _, rfl, below_alloc _ _, A0⟩
  case round =>
    obtain ⟨k, hk, rfl, HW, HA⟩ := hrel
    by_cases hlt : k < ts.length
    · have hlt' : (k : Int) < (ts.length : Int) := by omega
      obtain ⟨b1, o1, cs1, rfl, hr1, ht1⟩ := (HT.out.below HW.out).2 k hlt
      have key := IH.out k hlt
      generalize ts[k] = e1 at ht1 key
      obtain ⟨k1, s1, n1, es1⟩ := e1
      have key' : Hid (∀ w', Below wr.heap.size wr w' → Calls Tryd.prog 17 #[.agg cs1.toArray] w' fun e w'' => (∃ k s n A l C, e = .returned (.agg #[.int .i64 k, .string s, .int .i64 n, .slice A l C])) ∧ Below w'.heap.size w' w'') := fun w' hw' => key w' cs1 (ht1.stays hw')
      obtain ⟨A1, C1, rfl, _⟩ := ht1.inv
      have c0 := hr1.2 0 _ rfl
      have c1 := hr1.2 1 _ rfl
      have c2 := hr1.2 2 _ rfl
      have c3 := hr1.2 3 _ rfl
      simp only [Nat.add_zero] at c0
      have HB1 : Hid (∀ o, Below wr.heap.size wr (wr.alloc o)) := below_alloc wr
      clear key hr1 ht1
      go_wp2_with (go_at_call 17; refine (key'.out _ (HB1.out _)).mono ?_; rintro e w1 ⟨⟨rk, rs, rn, rA, rl, rC, rfl⟩, hb1⟩; have M : Hid (Below wr.heap.size wr w1) := below_next (HB1.out _) hb1; obtain ⟨cur, hcs, hcur⟩ := HA.out; have hcur1 := hcur.below M.out hcur.lt; obtain ⟨x0, hx0⟩ := some_at hcs hlt (show 0 < 4 by decide); obtain ⟨x1, hx1⟩ := some_at hcs hlt (show 1 < 4 by decide); obtain ⟨x2, hx2⟩ := some_at hcs hlt (show 2 < 4 by decide); obtain ⟨x3, hx3⟩ := some_at hcs hlt (show 3 < 4 by decide); have d0 : w1.cell? ⟨w.heap.size, k * 4, none⟩ = some x0 := (hcur1.cell _).trans hx0; have d1 : w1.cell? ⟨w.heap.size, k * 4 + 1, none⟩ = some x1 := (hcur1.cell _).trans hx1; have d2 : w1.cell? ⟨w.heap.size, k * 4 + 2, none⟩ = some x2 := (hcur1.cell _).trans hx2; have d3 : w1.cell? ⟨w.heap.size, k * 4 + 3, none⟩ = some x3 := (hcur1.cell _).trans hx3; have f0 := hcur1.frozen (k * 4); have f1 := hcur1.frozen (k * 4 + 1); have f2 := hcur1.frozen (k * 4 + 2); have f3 := hcur1.frozen (k * 4 + 3); have HC : Hid (At w1 w.heap.size cur 25 ∧ cur.size = ts.length * 4) := ⟨hcur1, hcs⟩; clear hb1 hcur hcur1 hcs hx0 hx1 hx2 hx3)
      go_roundw
      case rel => exact ⟨k + 1, by omega, by go_num, ((((HW.out.trans (M.out.mono HW.out.size)).setCell (Nat.le_refl _) _).setCell (Nat.le_refl _) _).setCell (Nat.le_refl _) _).setCell (Nat.le_refl _) _, _, by simp; exact HC.out.2, (((HC.out.1.set _).set _).set _).set _⟩
      case measure => simp [intOf]; omega
    · go_wp2
      go_ret
      exact ⟨⟨_, _, rfl⟩, HW.out⟩

/-- What a call that copies types answers: as many. -/
def CopiesC (ts : List T) : Prop := ∀ (w : World) (A : Option Addr) (C : Nat), TsIn w ts A →
  Calls Tryd.prog 18 #[.slice A ts.length C] w fun e w' => (∃ A' C', e = .returned (.slice A' ts.length C')) ∧ Below w.heap.size w w'

theorem copies_all (ts : List T) (hl : ts.length ≤ 1000000) (ih : ∀ i (h : i < ts.length), CopiedC (ts[i]'h)) : CopiesC ts := by
  intro w A C ht
  by_cases h0 : 0 < ts.length
  · exact copies_c ts hl h0 ih A C w ht
  · have e : ts.length = 0 := by omega
    rw [e]
    exact (copies_nil A C w).mono fun e w' ⟨h1, h2⟩ => ⟨⟨_, _, h1⟩, h2⟩

set_option maxRecDepth 100000 in
set_option maxHeartbeats 2000000 in
theorem copied_of (k : Int) (s : ByteArray) (n : Int) (es : List T) (h : CopiesC es) : CopiedC (.mk k s n es) := by
  intro w cs hx
  obtain ⟨A, C, rfl, hes⟩ := hx.inv
  have CP : Hid (∀ w', Below w.heap.size w w' → Calls Tryd.prog 18 #[.slice A es.length C] w' fun e w'' => (∃ A' C', e = .returned (.slice A' es.length C')) ∧ Below w'.heap.size w' w'') := fun w' hw => h w' A C (hes.below hw)
  have HW2 : Hid (∀ a b, Below w.heap.size w ((w.alloc a).alloc b)) := two_alloc w
  have AT2 : Hid (∀ c1 c2 w1, Below ((w.alloc (.cells c1 25)).alloc (.cells c2 25)).heap.size ((w.alloc (.cells c1 25)).alloc (.cells c2 25)) w1 → At w1 w.heap.size c1 25 ∧ At w1 (w.heap.size + 1) c2 25) := fun c1 c2 w1 hb => by
    have h1 := (At.new w c1 25).alloc (.cells c2 25)
    have h2 := At.new (w.alloc (.cells c1 25)) c2 25
    refine ⟨h1.below hb h1.lt, ?_⟩
    have h3 := h2.below hb h2.lt
    simpa using h3
  clear hes hx
  go_enter Tryd.func17, Tryd.ntmps17
  go_wp2_with (go_at_call 18; refine (CP.out _ (HW2.out _ _)).mono ?_; rintro e w1 ⟨⟨A', C', rfl⟩, hb1⟩; have B1 : Hid (Below w.heap.size w w1) := below_next (HW2.out _ _) hb1; obtain ⟨a1, a2⟩ := AT2.out _ _ _ hb1; have HA1 : Hid (At w1 w.heap.size #[.int .i64 k, .string s, .int .i64 n, .slice A es.length C] 25) := a1; have HA2 : Hid (At w1 (w.heap.size + 1) #[.int .i64 0, .string ⟨#[]⟩, .int .i64 0, .slice none 0 0] 25) := a2; have c0 : w1.cell? ⟨w.heap.size, 0, none⟩ = some (.int .i64 k) := (a1.cell 0).trans rfl; have c1 : w1.cell? ⟨w.heap.size, 1, none⟩ = some (.string s) := (a1.cell 1).trans rfl; have c2 : w1.cell? ⟨w.heap.size, 2, none⟩ = some (.int .i64 n) := (a1.cell 2).trans rfl; have c3 : w1.cell? ⟨w.heap.size, 3, none⟩ = some (.slice A es.length C) := (a1.cell 3).trans rfl; have f3 := a1.frozen 3; have d0 : w1.cell? ⟨w.heap.size + 1, 0, none⟩ = some (.int .i64 0) := (a2.cell 0).trans rfl; have d1 : w1.cell? ⟨w.heap.size + 1, 1, none⟩ = some (.string ⟨#[]⟩) := (a2.cell 1).trans rfl; have d2 : w1.cell? ⟨w.heap.size + 1, 2, none⟩ = some (.int .i64 0) := (a2.cell 2).trans rfl; have d3 : w1.cell? ⟨w.heap.size + 1, 3, none⟩ = some (.slice none 0 0) := (a2.cell 3).trans rfl; have g0 := a2.frozen 0; have g1 := a2.frozen 1; have g2 := a2.frozen 2; have g3 := a2.frozen 3; have z1 := a1.lt; have z2 := a2.lt; clear hb1 a1 a2)
  have hA := (((((HA2.out.far (B' := w.heap.size) (j := 3) (by omega) (.slice A' es.length C')).set (j := 0) (.int .i64 k)).set (j := 1) (.string s)).set (j := 2) (.int .i64 n)).set (j := 3) (.slice A' es.length C'))
  have k0 := (hA.cell 0).trans (b := some (Value.int .i64 k)) rfl
  have k1 := (hA.cell 1).trans (b := some (Value.string s)) rfl
  have k2 := (hA.cell 2).trans (b := some (Value.int .i64 n)) rfl
  have k3 := (hA.cell 3).trans (b := some (Value.slice A' es.length C')) rfl
  refine bodyPost_ret (v := .agg #[.int .i64 k, .string s, .int .i64 n, .slice A' es.length C']) (by simp [results, Tryd.results17, go_sem, k0, k1, k2, k3]) rfl ⟨⟨_, _, _, _, _, _, rfl⟩, ?_⟩
  have hle : w.heap.size ≤ w.heap.size + 1 := by omega
  exact (((((B1.out.setCell (p := ⟨w.heap.size, 3, none⟩) (Nat.le_refl _) _).setCell (p := ⟨w.heap.size + 1, 0, none⟩) hle _).setCell (p := ⟨w.heap.size + 1, 1, none⟩) hle _).setCell (p := ⟨w.heap.size + 1, 2, none⟩) hle _).setCell (p := ⟨w.heap.size + 1, 3, none⟩) hle _)

end Go.Proofs.YtdekgebpbopfpaaDoor
