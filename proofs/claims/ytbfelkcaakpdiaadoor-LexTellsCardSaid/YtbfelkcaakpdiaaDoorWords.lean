/-
  Proved: what the map of words holds, which texts lex.Word takes for words, and what kind of token a name is.
-/
import Derived.Test.YtbfelkcaakpdiaaDoorBlanks
import Derived.WideMake
import Derived.WideLaws
import Derived.MapKept
namespace Go.Proofs.YtbfelkcaakpdiaaDoor
open Go.RowKit

def entries : List Bs → Nat → List MapEntry
  | [], _ => []
  | s :: r, n => { key := .string (ofL s), val := .int .i64 3, born := n } :: entries r (n + 1)

def wordEs (k : Nat) : Array MapEntry := (entries (wordsL.take k) 0).toArray

theorem setBlock_alloc (w : World) (o o' : Obj) : ({ (w.alloc o) with heap := (w.alloc o).heap.setIfInBounds w.heap.size o' } : World) = w.alloc o' := by
  show ({ w with heap := (w.heap.push o).setIfInBounds w.heap.size o' } : World) = { w with heap := w.heap.push o' }
  congr 1
  apply Array.ext_getElem?
  intro i
  simp only [Array.getElem?_setIfInBounds, Array.getElem?_push, Array.size_push]
  by_cases h : w.heap.size = i
  · subst h; simp
  · rw [if_neg h, if_neg (fun e => h e.symm), if_neg (fun e => h e.symm)]

theorem run_put (w : World) (es : Array MapEntry) (n : Nat) (s : ByteArray) (val : Value) (hf : Instr.findNow .string (.string s) es.toList 0 = some none) :
    (Instr.mapUpdate 53 (.map (some w.heap.size)) (.string s) val).run Tryd.prog (w.alloc (.map es n)) = .ok () (w.alloc (.map (es.push { key := .string s, val := val, born := n }) (n + 1))) := by
  have hb : (w.alloc (.map es n)).heap[w.heap.size]? = some (.map es n) := by
    show (w.heap.push (.map es n))[w.heap.size]? = _
    simp
  have hc : (Instr.checkKey false 10000 9 (.string s)).run Tryd.prog (w.alloc (.map es n)) = .ok () (w.alloc (.map es n)) := MapKept.run_checkKey (k := .string s) Tryd.underlying9 (by simp [MapKept.IsKey]) false 9999
  simp only [Instr.mapUpdate, Sem.run_bind, run_underlying Tryd.underlying53, Result.andThen_ok, MapKept.run_getObj_map hb, hc, MapKept.run_findKey Tryd.underlying9 hf, MapKept.run_setObj_map _ hb]
  rw [setBlock_alloc]

theorem put0 (w : World) : (Instr.mapUpdate 53 (.map (some w.heap.size)) (.string { data := #[102, 110] }) (.int .i64 3)).run Tryd.prog (w.alloc (.map (wordEs 0) 0)) = .ok () (w.alloc (.map (wordEs 1) 1)) := run_put w (wordEs 0) 0 _ _ (by kernel_rfl)
theorem put1 (w : World) : (Instr.mapUpdate 53 (.map (some w.heap.size)) (.string { data := #[115, 116, 114, 117, 99, 116] }) (.int .i64 3)).run Tryd.prog (w.alloc (.map (wordEs 1) 1)) = .ok () (w.alloc (.map (wordEs 2) 2)) := run_put w (wordEs 1) 1 _ _ (by kernel_rfl)
theorem put2 (w : World) : (Instr.mapUpdate 53 (.map (some w.heap.size)) (.string { data := #[101, 110, 117, 109] }) (.int .i64 3)).run Tryd.prog (w.alloc (.map (wordEs 2) 2)) = .ok () (w.alloc (.map (wordEs 3) 3)) := run_put w (wordEs 2) 2 _ _ (by kernel_rfl)
theorem put3 (w : World) : (Instr.mapUpdate 53 (.map (some w.heap.size)) (.string { data := #[99, 111, 110, 115, 116] }) (.int .i64 3)).run Tryd.prog (w.alloc (.map (wordEs 3) 3)) = .ok () (w.alloc (.map (wordEs 4) 4)) := run_put w (wordEs 3) 3 _ _ (by kernel_rfl)
theorem put4 (w : World) : (Instr.mapUpdate 53 (.map (some w.heap.size)) (.string { data := #[108, 101, 116] }) (.int .i64 3)).run Tryd.prog (w.alloc (.map (wordEs 4) 4)) = .ok () (w.alloc (.map (wordEs 5) 5)) := run_put w (wordEs 4) 4 _ _ (by kernel_rfl)
theorem put5 (w : World) : (Instr.mapUpdate 53 (.map (some w.heap.size)) (.string { data := #[109, 117, 116] }) (.int .i64 3)).run Tryd.prog (w.alloc (.map (wordEs 5) 5)) = .ok () (w.alloc (.map (wordEs 6) 6)) := run_put w (wordEs 5) 5 _ _ (by kernel_rfl)
theorem put6 (w : World) : (Instr.mapUpdate 53 (.map (some w.heap.size)) (.string { data := #[105, 102] }) (.int .i64 3)).run Tryd.prog (w.alloc (.map (wordEs 6) 6)) = .ok () (w.alloc (.map (wordEs 7) 7)) := run_put w (wordEs 6) 6 _ _ (by kernel_rfl)
theorem put7 (w : World) : (Instr.mapUpdate 53 (.map (some w.heap.size)) (.string { data := #[101, 108, 115, 101] }) (.int .i64 3)).run Tryd.prog (w.alloc (.map (wordEs 7) 7)) = .ok () (w.alloc (.map (wordEs 8) 8)) := run_put w (wordEs 7) 7 _ _ (by kernel_rfl)
theorem put8 (w : World) : (Instr.mapUpdate 53 (.map (some w.heap.size)) (.string { data := #[109, 97, 116, 99, 104] }) (.int .i64 3)).run Tryd.prog (w.alloc (.map (wordEs 8) 8)) = .ok () (w.alloc (.map (wordEs 9) 9)) := run_put w (wordEs 8) 8 _ _ (by kernel_rfl)
theorem put9 (w : World) : (Instr.mapUpdate 53 (.map (some w.heap.size)) (.string { data := #[119, 104, 105, 108, 101] }) (.int .i64 3)).run Tryd.prog (w.alloc (.map (wordEs 9) 9)) = .ok () (w.alloc (.map (wordEs 10) 10)) := run_put w (wordEs 9) 9 _ _ (by kernel_rfl)
theorem put10 (w : World) : (Instr.mapUpdate 53 (.map (some w.heap.size)) (.string { data := #[108, 111, 111, 112] }) (.int .i64 3)).run Tryd.prog (w.alloc (.map (wordEs 10) 10)) = .ok () (w.alloc (.map (wordEs 11) 11)) := run_put w (wordEs 10) 10 _ _ (by kernel_rfl)
theorem put11 (w : World) : (Instr.mapUpdate 53 (.map (some w.heap.size)) (.string { data := #[98, 114, 101, 97, 107] }) (.int .i64 3)).run Tryd.prog (w.alloc (.map (wordEs 11) 11)) = .ok () (w.alloc (.map (wordEs 12) 12)) := run_put w (wordEs 11) 11 _ _ (by kernel_rfl)
theorem put12 (w : World) : (Instr.mapUpdate 53 (.map (some w.heap.size)) (.string { data := #[99, 111, 110, 116, 105, 110, 117, 101] }) (.int .i64 3)).run Tryd.prog (w.alloc (.map (wordEs 12) 12)) = .ok () (w.alloc (.map (wordEs 13) 13)) := run_put w (wordEs 12) 12 _ _ (by kernel_rfl)
theorem put13 (w : World) : (Instr.mapUpdate 53 (.map (some w.heap.size)) (.string { data := #[114, 101, 116, 117, 114, 110] }) (.int .i64 3)).run Tryd.prog (w.alloc (.map (wordEs 13) 13)) = .ok () (w.alloc (.map (wordEs 14) 14)) := run_put w (wordEs 13) 13 _ _ (by kernel_rfl)
theorem put14 (w : World) : (Instr.mapUpdate 53 (.map (some w.heap.size)) (.string { data := #[116, 114, 117, 101] }) (.int .i64 3)).run Tryd.prog (w.alloc (.map (wordEs 14) 14)) = .ok () (w.alloc (.map (wordEs 15) 15)) := run_put w (wordEs 14) 14 _ _ (by kernel_rfl)
theorem put15 (w : World) : (Instr.mapUpdate 53 (.map (some w.heap.size)) (.string { data := #[102, 97, 108, 115, 101] }) (.int .i64 3)).run Tryd.prog (w.alloc (.map (wordEs 15) 15)) = .ok () (w.alloc (.map (wordEs 16) 16)) := run_put w (wordEs 15) 15 _ _ (by kernel_rfl)
theorem put16 (w : World) : (Instr.mapUpdate 53 (.map (some w.heap.size)) (.string { data := #[97, 115] }) (.int .i64 3)).run Tryd.prog (w.alloc (.map (wordEs 16) 16)) = .ok () (w.alloc (.map (wordEs 17) 17)) := run_put w (wordEs 16) 16 _ _ (by kernel_rfl)

theorem made (w : World) : (Instr.makeMap 53 none).run Tryd.prog w = .ok (.map (some w.heap.size)) (w.alloc (.map (wordEs 0) 0)) := rfl

set_option maxHeartbeats 1000000 in
theorem makeWords_c (w : World) : Calls Tryd.prog 28 #[] w fun e w' => e = .returned (.map (some w.heap.size)) ∧ w' = w.alloc (.map (wordEs 17) 17) := by
  have m := made
  have p0 := put0
  have p1 := put1
  have p2 := put2
  have p3 := put3
  have p4 := put4
  have p5 := put5
  have p6 := put6
  have p7 := put7
  have p8 := put8
  have p9 := put9
  have p10 := put10
  have p11 := put11
  have p12 := put12
  have p13 := put13
  have p14 := put14
  have p15 := put15
  have p16 := put16
  go_enter Tryd.func28, Tryd.ntmps28
  go_wp2
  go_ret
  exact ⟨rfl, rfl⟩

theorem same_key (a b : Bs) : Instr.sameNow .string (.string (ofL a)) (.string (ofL b)) = some (a == b) := by
  simp only [Instr.sameNow]
  congr 1
  rw [Bool.eq_iff_iff, MapKept.bytes_beq]
  simp
  exact ⟨fun h => ofL_inj h, fun h => by rw [h]⟩

theorem find_word (s : Bs) : ∀ (ws : List Bs) (n i : Nat), ∃ j, Instr.findNow .string (.string (ofL s)) (entries ws n) i = some (if ws.contains s then some (j, .int .i64 3) else none)
  | [], _, _ => ⟨0, by simp [entries, Instr.findNow]⟩
  | a :: r, n, i => by
    obtain ⟨j, hj⟩ := find_word s r (n + 1) (i + 1)
    simp only [entries, Instr.findNow, same_key]
    by_cases h : s = a
    · subst h
      exact ⟨i, by simp⟩
    · have h1 : (s == a) = false := by simpa using h
      refine ⟨j, ?_⟩
      simp only [h1, hj, List.contains_cons, Bool.false_or]

/-- The map of words lies in block b. -/
def WordsAt (w : World) (b : Nat) : Prop := w.heap[b]? = some (.map (wordEs 17) 17)

theorem WordsAt.lt {w : World} {b : Nat} (h : WordsAt w b) : b < w.heap.size := by
  have h' : w.heap[b]? = some (.map (wordEs 17) 17) := h
  exact (Array.getElem?_eq_some_iff.1 h').1

theorem WordsAt.below {w w' : World} {b : Nat} (h : WordsAt w b) (k : Below w.heap.size w w') : WordsAt w' b :=
  (k.block b h.lt).trans h

theorem look_word {w : World} {b : Nat} (h : WordsAt w b) (s : Bs) : (Instr.lookup 53 (.map (some b)) (.string (ofL s)) true).run Tryd.prog w = .ok (.tuple #[.int .i64 (if isWord s then 3 else 0), .bool (isWord s)]) w := by
  obtain ⟨j, hj⟩ := find_word s wordsL 0 0
  have he : (wordEs 17).toList = entries wordsL 0 := rfl
  rw [← he] at hj
  have hc : ∀ x, (Instr.checkKey x 10000 9 (.string (ofL s))).run Tryd.prog w = .ok () w := fun x => MapKept.run_checkKey (k := .string (ofL s)) Tryd.underlying9 (by simp [MapKept.IsKey]) x 9999
  have hz : (zeroValue 3).run Tryd.prog w = .ok (.int .i64 0) w := by kernel_rfl
  simp only [Instr.lookup, Sem.run_bind, run_underlying Tryd.underlying53, Result.andThen_ok, MapKept.run_getObj_map h, hc, MapKept.run_findKey Tryd.underlying9 hj, Sem.run_pure]
  unfold isWord
  cases hw : wordsL.contains s <;> simp [hz]

theorem word_c (s : Bs) (w : World) : Calls Tryd.prog 13 #[.string (ofL s)] w fun e w' => e = .returned (.bool (isWord s)) ∧ Below w.heap.size w w' := by
  have hl : (Instr.lookup 53 (.map (some w.heap.size)) (.string (ofL s)) true).run Tryd.prog (w.alloc (.map (wordEs 17) 17)) = .ok (.tuple #[.int .i64 (if isWord s then 3 else 0), .bool (isWord s)]) (w.alloc (.map (wordEs 17) 17)) :=
    look_word (by show (w.heap.push _)[w.heap.size]? = _; simp) s
  go_enter Tryd.func13, Tryd.ntmps13
  go_wp2_with (first
      | (go_at_call 28; refine (makeWords_c _).mono ?_; rintro e w' ⟨rfl, rfl⟩)
      | go_in)
  all_goals go_ret
  all_goals exact ⟨rfl, below_alloc _ _⟩

theorem nameKind_c (b : Nat) (s : Bs) (w : World) (h : WordsAt w b) (hm : s.length < 4611686018427387904) : Calls Tryd.prog 34 #[.map (some b), .string (ofL s)] w fun e w' =>
    e = .returned (.tuple #[.int .i64 (if 40 < s.length then 0 else if isWord s then 3 else 1), .int .i64 (if 40 < s.length then 20 else 0)]) ∧ w' = w := by
  have hl := look_word h s
  have hz := ofL_size s
  clear h
  go_enter Tryd.func34, Tryd.ntmps34
  go_wp2
  all_goals go_ret2
  all_goals exact ⟨rfl, rfl⟩
end Go.Proofs.YtbfelkcaakpdiaaDoor
