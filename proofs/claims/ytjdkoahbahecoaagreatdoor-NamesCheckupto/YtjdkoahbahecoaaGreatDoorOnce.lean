/-
  Proved: sets of names: what ownNames makes, what newNames' function answers of a name, and what it leaves; what Taken and wrongAt answer.
-/
import Derived.Test.YtjdkoahbahecoaaGreatDoorEachI
import Derived.WideMake
import Derived.WideLaws
import Derived.MapKept
namespace Go.Proofs.YtjdkoahbahecoaaGreatDoor
open Go.RowKit

def ents : List ByteArray → Nat → List MapEntry
  | [], _ => []
  | s :: r, n => { key := .string s, val := .agg #[], born := n } :: ents r (n + 1)

theorem ents_snoc (s : ByteArray) : ∀ (l : List ByteArray) (n : Nat), ents (l ++ [s]) n = ents l n ++ [{ key := .string s, val := .agg #[], born := n + l.length }]
  | [], n => by simp [ents]
  | a :: l, n => by
    rw [List.cons_append, ents, ents, ents_snoc s l (n + 1), List.length_cons, List.cons_append, show n + 1 + l.length = n + (l.length + 1) by omega]

theorem same_name (a b : ByteArray) : Instr.sameNow .string (.string a) (.string b) = some (decide (a = b)) := by
  simp only [Instr.sameNow]
  congr 1
  rw [Bool.eq_iff_iff, MapKept.bytes_beq]
  simp

/-- Is a name among names? -/
def isIn (s : ByteArray) (ns : List ByteArray) : Bool := ns.any fun x => decide (s = x)

theorem isIn_iff {s : ByteArray} {ns : List ByteArray} : isIn s ns = true ↔ s ∈ ns := by
  simp [isIn]

theorem isIn_cons (s a : ByteArray) (r : List ByteArray) : isIn s (a :: r) = (decide (s = a) || isIn s r) := by simp [isIn]

theorem find_name (s : ByteArray) : ∀ (ws : List ByteArray) (n i : Nat), ∃ j, Instr.findNow .string (.string s) (ents ws n) i = some (if isIn s ws = true then some (j, .agg #[]) else none)
  | [], _, _ => ⟨0, by simp [ents, Instr.findNow, isIn]⟩
  | a :: r, n, i => by
    obtain ⟨j, hj⟩ := find_name s r (n + 1) (i + 1)
    simp only [ents, Instr.findNow, same_name]
    by_cases h : s = a
    · subst h
      exact ⟨i, by simp [isIn_cons]⟩
    · refine ⟨j, ?_⟩
      simp only [decide_eq_false h, hj, isIn_cons, Bool.false_or]

/-- A set of names lies in block b. -/
def SetAt (w : World) (b : Nat) (ns : List ByteArray) : Prop := w.heap[b]? = some (.map (ents ns 0).toArray ns.length)

theorem SetAt.lt {w : World} {b : Nat} {ns : List ByteArray} (h : SetAt w b ns) : b < w.heap.size := by
  have h' : w.heap[b]? = some (.map (ents ns 0).toArray ns.length) := h
  exact (Array.getElem?_eq_some_iff.1 h').1

theorem SetAt.below {w w' : World} {b n : Nat} {ns : List ByteArray} (h : SetAt w b ns) (k : Below n w w') (hb : b < n) : SetAt w' b ns := (k.block b hb).trans h

theorem look_set {w : World} {b : Nat} {ns : List ByteArray} (h : SetAt w b ns) (s : ByteArray) : (Instr.lookup 67 (.map (some b)) (.string s) true).run Tryz.prog w = .ok (.tuple #[.agg #[], .bool (isIn s ns)]) w := by
  obtain ⟨j, hj⟩ := find_name s ns 0 0
  have hc : ∀ x, (Instr.checkKey x 10000 9 (.string s)).run Tryz.prog w = .ok () w := fun x => MapKept.run_checkKey (k := .string s) Tryz.underlying9 (by simp [MapKept.IsKey]) x 9999
  have hz : (zeroValue 64).run Tryz.prog w = .ok (.agg #[]) w := by kernel_rfl
  simp only [Instr.lookup, Sem.run_bind, run_underlying Tryz.underlying67, Result.andThen_ok, MapKept.run_getObj_map h, hc, MapKept.run_findKey Tryz.underlying9 hj, Sem.run_pure]
  cases hw : isIn s ns <;> simp [hz]

/-- Nothing is written but one block. -/
structure But (b : Nat) (w w' : World) : Prop where
  os : w'.os = w.os
  tape : w'.tape = w.tape
  output : w'.output = w.output
  size : w.heap.size ≤ w'.heap.size
  block : ∀ k, k < w.heap.size → k ≠ b → w'.heap[k]? = w.heap[k]?

theorem But.below {b n : Nat} {a w w' : World} (h : But b w w') (k : Below n a w) (hb : n ≤ b) (hn : n ≤ w.heap.size) : Below n a w' :=
  ⟨h.os.trans k.os, h.tape.trans k.tape, h.output.trans k.output, Nat.le_trans k.size h.size, fun i hi => (h.block i (by omega) (by omega)).trans (k.block i hi)⟩

theorem But.of {b : Nat} {w w' : World} (h : Below w.heap.size w w') : But b w w' := ⟨h.os, h.tape, h.output, h.size, fun k hk _ => h.block k hk⟩

theorem But.trans {b : Nat} {a w w' : World} (h : But b a w) (k : But b w w') : But b a w' :=
  ⟨k.os.trans h.os, k.tape.trans h.tape, k.output.trans h.output, Nat.le_trans h.size k.size, fun i h1 h2 => (k.block i (by have := h.size; omega) h2).trans (h.block i h1 h2)⟩

theorem But.at {b B : Nat} {w w' : World} (h : But b w w') {cs : Array Value} {t : TypeId} (ha : At w B cs t) (hne : B ≠ b) : At w' B cs t := (h.block B ha.lt hne).trans ha

theorem put_set {w : World} {b : Nat} {ns : List ByteArray} (h : SetAt w b ns) (s : ByteArray) (hs : isIn s ns = false) :
    ∃ w', (Instr.mapUpdate 67 (.map (some b)) (.string s) (.agg #[])).run Tryz.prog w = .ok () w' ∧ SetAt w' b (ns ++ [s]) ∧ But b w w' := by
  obtain ⟨j, hj⟩ := find_name s ns 0 0
  rw [if_neg (by rw [hs]; simp)] at hj
  have hc : (Instr.checkKey false 10000 9 (.string s)).run Tryz.prog w = .ok () w := MapKept.run_checkKey (k := .string s) Tryz.underlying9 (by simp [MapKept.IsKey]) false 9999
  refine ⟨_, by simp only [Instr.mapUpdate, Sem.run_bind, run_underlying Tryz.underlying67, Result.andThen_ok, MapKept.run_getObj_map h, hc, MapKept.run_findKey Tryz.underlying9 hj, MapKept.run_setObj_map _ h]; rfl, ?_, ?_⟩
  · show _ = _
    rw [(MapKept.heap_set h).1, ents_snoc]
    simp
  · exact ⟨rfl, rfl, rfl, by simp, fun k hk hne => (MapKept.heap_set h).2 k hne⟩

/-- The language's own names. -/
def ownL : List ByteArray := [⟨#[112, 114, 105, 110, 116]⟩, ⟨#[114, 101, 97, 100]⟩, ⟨#[117, 110, 98, 111, 120]⟩, ⟨#[114, 101, 112, 108, 97, 99, 101]⟩, ⟨#[66, 111, 120]⟩, ⟨#[98, 111, 111, 108]⟩, ⟨#[105, 56]⟩, ⟨#[105, 49, 54]⟩, ⟨#[105, 51, 50]⟩, ⟨#[117, 56]⟩, ⟨#[117, 49, 54]⟩, ⟨#[117, 51, 50]⟩]

theorem setBlock_alloc (w : World) (o o' : Obj) : ({ (w.alloc o) with heap := (w.alloc o).heap.setIfInBounds w.heap.size o' } : World) = w.alloc o' := by
  show ({ w with heap := (w.heap.push o).setIfInBounds w.heap.size o' } : World) = { w with heap := w.heap.push o' }
  congr 1
  apply Array.ext_getElem?
  intro i
  simp only [Array.getElem?_setIfInBounds, Array.getElem?_push, Array.size_push]
  by_cases h : w.heap.size = i
  · subst h; simp
  · rw [if_neg h, if_neg (fun e => h e.symm), if_neg (fun e => h e.symm)]

def ownEs (k : Nat) : Array MapEntry := (ents (ownL.take k) 0).toArray

theorem run_put (w : World) (es : Array MapEntry) (n : Nat) (s : ByteArray) (hf : Instr.findNow .string (.string s) es.toList 0 = some none) :
    (Instr.mapUpdate 67 (.map (some w.heap.size)) (.string s) (.agg #[])).run Tryz.prog (w.alloc (.map es n)) = .ok () (w.alloc (.map (es.push { key := .string s, val := .agg #[], born := n }) (n + 1))) := by
  have hb : (w.alloc (.map es n)).heap[w.heap.size]? = some (.map es n) := by
    show (w.heap.push (.map es n))[w.heap.size]? = _
    simp
  have hc : (Instr.checkKey false 10000 9 (.string s)).run Tryz.prog (w.alloc (.map es n)) = .ok () (w.alloc (.map es n)) := MapKept.run_checkKey (k := .string s) Tryz.underlying9 (by simp [MapKept.IsKey]) false 9999
  simp only [Instr.mapUpdate, Sem.run_bind, run_underlying Tryz.underlying67, Result.andThen_ok, MapKept.run_getObj_map hb, hc, MapKept.run_findKey Tryz.underlying9 hf, MapKept.run_setObj_map _ hb]
  rw [setBlock_alloc]

theorem put0 (w : World) : (Instr.mapUpdate 67 (.map (some w.heap.size)) (.string { data := #[112, 114, 105, 110, 116] }) (.agg #[])).run Tryz.prog (w.alloc (.map (ownEs 0) 0)) = .ok () (w.alloc (.map (ownEs 1) 1)) := run_put w (ownEs 0) 0 _ (by kernel_rfl)
theorem put1 (w : World) : (Instr.mapUpdate 67 (.map (some w.heap.size)) (.string { data := #[114, 101, 97, 100] }) (.agg #[])).run Tryz.prog (w.alloc (.map (ownEs 1) 1)) = .ok () (w.alloc (.map (ownEs 2) 2)) := run_put w (ownEs 1) 1 _ (by kernel_rfl)
theorem put2 (w : World) : (Instr.mapUpdate 67 (.map (some w.heap.size)) (.string { data := #[117, 110, 98, 111, 120] }) (.agg #[])).run Tryz.prog (w.alloc (.map (ownEs 2) 2)) = .ok () (w.alloc (.map (ownEs 3) 3)) := run_put w (ownEs 2) 2 _ (by kernel_rfl)
theorem put3 (w : World) : (Instr.mapUpdate 67 (.map (some w.heap.size)) (.string { data := #[114, 101, 112, 108, 97, 99, 101] }) (.agg #[])).run Tryz.prog (w.alloc (.map (ownEs 3) 3)) = .ok () (w.alloc (.map (ownEs 4) 4)) := run_put w (ownEs 3) 3 _ (by kernel_rfl)
theorem put4 (w : World) : (Instr.mapUpdate 67 (.map (some w.heap.size)) (.string { data := #[66, 111, 120] }) (.agg #[])).run Tryz.prog (w.alloc (.map (ownEs 4) 4)) = .ok () (w.alloc (.map (ownEs 5) 5)) := run_put w (ownEs 4) 4 _ (by kernel_rfl)
theorem put5 (w : World) : (Instr.mapUpdate 67 (.map (some w.heap.size)) (.string { data := #[98, 111, 111, 108] }) (.agg #[])).run Tryz.prog (w.alloc (.map (ownEs 5) 5)) = .ok () (w.alloc (.map (ownEs 6) 6)) := run_put w (ownEs 5) 5 _ (by kernel_rfl)
theorem put6 (w : World) : (Instr.mapUpdate 67 (.map (some w.heap.size)) (.string { data := #[105, 56] }) (.agg #[])).run Tryz.prog (w.alloc (.map (ownEs 6) 6)) = .ok () (w.alloc (.map (ownEs 7) 7)) := run_put w (ownEs 6) 6 _ (by kernel_rfl)
theorem put7 (w : World) : (Instr.mapUpdate 67 (.map (some w.heap.size)) (.string { data := #[105, 49, 54] }) (.agg #[])).run Tryz.prog (w.alloc (.map (ownEs 7) 7)) = .ok () (w.alloc (.map (ownEs 8) 8)) := run_put w (ownEs 7) 7 _ (by kernel_rfl)
theorem put8 (w : World) : (Instr.mapUpdate 67 (.map (some w.heap.size)) (.string { data := #[105, 51, 50] }) (.agg #[])).run Tryz.prog (w.alloc (.map (ownEs 8) 8)) = .ok () (w.alloc (.map (ownEs 9) 9)) := run_put w (ownEs 8) 8 _ (by kernel_rfl)
theorem put9 (w : World) : (Instr.mapUpdate 67 (.map (some w.heap.size)) (.string { data := #[117, 56] }) (.agg #[])).run Tryz.prog (w.alloc (.map (ownEs 9) 9)) = .ok () (w.alloc (.map (ownEs 10) 10)) := run_put w (ownEs 9) 9 _ (by kernel_rfl)
theorem put10 (w : World) : (Instr.mapUpdate 67 (.map (some w.heap.size)) (.string { data := #[117, 49, 54] }) (.agg #[])).run Tryz.prog (w.alloc (.map (ownEs 10) 10)) = .ok () (w.alloc (.map (ownEs 11) 11)) := run_put w (ownEs 10) 10 _ (by kernel_rfl)
theorem put11 (w : World) : (Instr.mapUpdate 67 (.map (some w.heap.size)) (.string { data := #[117, 51, 50] }) (.agg #[])).run Tryz.prog (w.alloc (.map (ownEs 11) 11)) = .ok () (w.alloc (.map (ownEs 12) 12)) := run_put w (ownEs 11) 11 _ (by kernel_rfl)

theorem made (w : World) : (Instr.makeMap 67 none).run Tryz.prog w = .ok (.map (some w.heap.size)) (w.alloc (.map (ownEs 0) 0)) := rfl

set_option maxHeartbeats 1000000 in
theorem ownNames_c (w : World) : Calls Tryz.prog 22 #[] w fun e w' => e = .returned (.map (some w.heap.size)) ∧ w' = w.alloc (.map (ownEs 12) 12) := by
  have m := made
  have p0 := put0
  have p1 := put1
  have p2 := put2
  have p3 := put3
  have p4 := put4
  have p5 := put5
  have p6 := put6
  have p7 := put7
  have p8 := put8
  have p9 := put9
  have p10 := put10
  have p11 := put11
  go_enter Tryz.func22, Tryz.ntmps22
  go_wp2
  go_ret
  exact ⟨rfl, rfl⟩

theorem own_at (w : World) : SetAt (w.alloc (.map (ownEs 12) 12)) w.heap.size ownL := by
  show (w.heap.push _)[w.heap.size]? = _
  simp
  exact ⟨rfl, rfl⟩

theorem taken_c (s : ByteArray) (w : World) : Calls Tryz.prog 9 #[.string s] w fun e w' => e = .returned (.bool (isIn s ownL)) ∧ Below w.heap.size w w' := by
  have hl := look_set (own_at w) s
  generalize isIn s ownL = R at hl
  go_enter Tryz.func9, Tryz.ntmps9
  go_wp2_with (go_at_call 22; refine (ownNames_c _).mono ?_; rintro e w' ⟨rfl, rfl⟩)
  go_ret
  exact ⟨rfl, two_alloc _ _ _⟩

theorem newNames_c (M : Nat) (w : World) : Calls Tryz.prog 27 #[.map (some M)] w fun e w' => e = .returned (.func (.func 49) #[] #[.pointer (some ⟨w.heap.size, 0, none⟩)]) ∧ w' = w.alloc (.cells #[.map (some M)] 67) := by
  go_enter Tryz.func27, Tryz.ntmps27
  go_wp2
  go_ret
  exact ⟨rfl, rfl⟩

theorem wrongAt_c (a e : Int) (w : World) : Calls Tryz.prog 64 #[.int .i64 a, .int .i64 e] w fun r w' => r = .returned (errV (if e = 0 then none else some (a, e))) ∧ w' = w := by
  by_cases h : e = 0
  · subst h
    go_enter Tryz.func64, Tryz.ntmps64
    go_wp2
    go_ret
    exact ⟨rfl, rfl⟩
  · have h' : (e == 0) = false := by simpa using h
    rw [if_neg h]
    go_enter Tryz.func64, Tryz.ntmps64
    go_wp2
    go_ret
    exact ⟨rfl, rfl⟩

set_option maxRecDepth 100000 in
theorem once_c (s : ByteArray) (a : Int) (B M : Nat) (ns : List ByteArray) (w : World) (hB : At w B #[.map (some M)] 67) (hM : SetAt w M ns) :
    Calls Tryz.prog 49 #[.string s, .int .i64 a, .pointer (some ⟨B, 0, none⟩)] w fun e w' =>
      e = .returned (errV (if isIn s ns = true then some (a, 40) else none)) ∧ But M w w' ∧ (isIn s ns = false → SetAt w' M (ns ++ [s])) := by
  have c0 : w.cell? ⟨B, 0, none⟩ = some (.map (some M)) := (hB.cell 0).trans rfl
  have hBl := hB.lt
  have hl := look_set hM s
  cases h : isIn s ns with
  | true =>
    rw [h] at hl
    clear h hM hB
    rw [if_pos rfl]
    go_enter Tryz.func49, Tryz.ntmps49
    go_wp2
    go_ret
    exact ⟨rfl, But.of (below_alloc _ _), fun h => by cases h⟩
  | false =>
    rw [h] at hl
    rw [if_neg (by simp)]
    have hne : B ≠ M := by
      intro e
      subst e
      have := hB.symm.trans hM
      cases this
    obtain ⟨w', hp, h1, h2⟩ := put_set (w := w.alloc (.cells #[] 64)) (b := M) (ns := ns) (hM.below (below_alloc _ _) hM.lt) s h
    have H1 : Hid (SetAt w' M (ns ++ [s])) := h1
    have H2 : Hid (But M w w') := (But.of (below_alloc _ _)).trans h2
    clear h hM hB h1 h2
    go_enter Tryz.func49, Tryz.ntmps49
    go_wp2
    go_ret
    exact ⟨rfl, H2.out, fun _ => H1.out⟩

end Go.Proofs.YtjdkoahbahecoaaGreatDoor
