/-
  Proved: the map of the blocks that were seen; the list of what is open; what a walk's memory is, and that a block is come to.
-/
import Derived.Test.YtmmgdiecmokipaaPsm
namespace Go.Proofs.Ytmmgdiecmokipaa
open Go.RowKit

def entI : List Nat → Nat → List MapEntry
  | [], _ => []
  | s :: r, n => { key := .int .i64 (s : Int), val := .int .i64 (n : Int), born := n } :: entI r (n + 1)

theorem entI_snoc (s : Nat) : ∀ (l : List Nat) (n : Nat), entI (l ++ [s]) n = entI l n ++ [{ key := .int .i64 (s : Int), val := .int .i64 ((n + l.length : Nat) : Int), born := n + l.length }]
  | [], n => by simp [entI]
  | a :: l, n => by
    rw [List.cons_append, entI, entI, entI_snoc s l (n + 1), List.length_cons, List.cons_append, show n + 1 + l.length = n + (l.length + 1) by omega]

theorem entI_len : ∀ (l : List Nat) (n : Nat), (entI l n).length = l.length
  | [], _ => rfl
  | _ :: l, n => by rw [entI, List.length_cons, List.length_cons, entI_len l]

theorem same_int (a b : Int) : Instr.sameNow (.int .i64) (.int .i64 a) (.int .i64 b) = some (decide (a = b)) := by
  simp only [Instr.sameNow]
  congr 1

/-- Is a number among blocks? -/
def inI (x : Int) (l : List Nat) : Bool := l.any fun y => decide (x = (y : Int))

theorem inI_iff {x : Int} {l : List Nat} : inI x l = true ↔ ∃ y ∈ l, x = (y : Int) := by simp [inI]
theorem inI_nat {x : Nat} {l : List Nat} : inI (x : Int) l = true ↔ x ∈ l := by
  rw [inI_iff]
  exact ⟨fun ⟨y, h, e⟩ => by obtain rfl : x = y := by omega
                             exact h, fun h => ⟨x, h, rfl⟩⟩
theorem inI_cons (x : Int) (a : Nat) (l : List Nat) : inI x (a :: l) = (decide (x = (a : Int)) || inI x l) := by simp [inI]

theorem find_int (x : Int) : ∀ (l : List Nat) (n i : Nat), ∃ j v, Instr.findNow (.int .i64) (.int .i64 x) (entI l n) i = some (if inI x l = true then some (j, .int .i64 v) else none)
  | [], _, _ => ⟨0, 0, by simp [entI, Instr.findNow, inI]⟩
  | a :: r, n, i => by
    obtain ⟨j, v, hj⟩ := find_int x r (n + 1) (i + 1)
    simp only [entI, Instr.findNow, same_int]
    by_cases h : x = (a : Int)
    · exact ⟨i, (n : Int), by simp [inI_cons, h]⟩
    · refine ⟨j, v, ?_⟩
      simp only [decide_eq_false h, hj, inI_cons, Bool.false_or]

/-- The blocks that were seen, in block b. -/
def SeenAt (w : World) (b : Nat) (l : List Nat) : Prop := w.heap[b]? = some (.map (entI l 0).toArray l.length)

theorem SeenAt.lt {w : World} {b : Nat} {l : List Nat} (h : SeenAt w b l) : b < w.heap.size := by
  have h' : w.heap[b]? = some (.map (entI l 0).toArray l.length) := h
  exact (Array.getElem?_eq_some_iff.1 h').1

theorem look_seen {w : World} {b : Nat} {l : List Nat} (h : SeenAt w b l) (x : Int) : ∃ v, (Instr.lookup 47 (.map (some b)) (.int .i64 x) true).run Try.prog w = .ok (.tuple #[.int .i64 v, .bool (inI x l)]) w := by
  obtain ⟨j, v, hj⟩ := find_int x l 0 0
  have hc : ∀ y, (Instr.checkKey y 10000 3 (.int .i64 x)).run Try.prog w = .ok () w := fun y => MapKept.run_checkKey (k := .int .i64 x) Try.underlying3 (by simp [MapKept.IsKey]) y 9999
  have hz : (zeroValue 3).run Try.prog w = .ok (.int .i64 0) w := by kernel_rfl
  refine ⟨if inI x l = true then v else 0, ?_⟩
  simp only [Instr.lookup, Sem.run_bind, run_underlying Try.underlying47, Result.andThen_ok, MapKept.run_getObj_map h, hc, MapKept.run_findKey Try.underlying3 hj, Sem.run_pure]
  cases hw : inI x l <;> simp [hz]

theorem len_seen {w : World} {b : Nat} {l : List Nat} (h : SeenAt w b l) (ty : TypeId) : (Builtin.len_ #[47] ty #[.map (some b)]).run Try.prog w = .ok (.int .i64 (l.length : Int)) w := by
  simp [Builtin.len_, run_underlying Try.underlying47, MapKept.run_getObj_map h, goInt, Result.andThen, entI_len]

theorem put_seen {w : World} {b : Nat} {l : List Nat} (h : SeenAt w b l) (x : Nat) (hs : x ∉ l) :
    ∃ w', (Instr.mapUpdate 47 (.map (some b)) (.int .i64 (x : Int)) (.int .i64 (l.length : Int))).run Try.prog w = .ok () w' ∧ SeenAt w' b (l ++ [x]) ∧ Kp (fun k => k = b) w w' ∧ w'.heap.size = w.heap.size := by
  obtain ⟨j, v, hj⟩ := find_int (x : Int) l 0 0
  rw [if_neg (by rw [inI_nat]; exact hs)] at hj
  have hc : (Instr.checkKey false 10000 3 (.int .i64 (x : Int))).run Try.prog w = .ok () w := MapKept.run_checkKey (k := .int .i64 (x : Int)) Try.underlying3 (by simp [MapKept.IsKey]) false 9999
  refine ⟨_, by simp only [Instr.mapUpdate, Sem.run_bind, run_underlying Try.underlying47, Result.andThen_ok, MapKept.run_getObj_map h, hc, MapKept.run_findKey Try.underlying3 hj, MapKept.run_setObj_map _ h]; rfl, ?_, ?_, ?_⟩
  · show _ = _
    rw [(MapKept.heap_set h).1, entI_snoc]
    simp
  · exact ⟨⟨rfl, rfl, rfl, by simp, fun k hk => by omega⟩, fun k hk hne => (MapKept.heap_set h).2 k hne⟩
  · simp

/-- A block that is open, and how many of its ways were looked at. -/
def encO (x : Nat × Nat) : List Value := [.int .i64 (x.1 : Int), .int .i64 (x.2 : Int)]
theorem encO_len (a : Nat × Nat) : (encO a).length = 2 := rfl
theorem encO_one (a : Nat × Nat) : ∀ u ∈ encO a, u.oneCell' = true := by
  intro u hu
  simp [encO] at hu
  rcases hu with rfl | rfl <;> rfl
theorem infoOpen : (Try.prog.info? 50).map (fun i => (i.zero, i.size, i.bytes)) = some (some (.agg #[.int .i64 0, .int .i64 0]), 2, 16) := by kernel_rfl

/-- What is open: a row of one's own. -/
def OP (base : Nat) (l : List (Nat × Nat)) (v : Value) (w : World) : Prop := OwnB 50 2 encO base l v w

theorem OP.app {base : Nat} {l : List (Nat × Nat)} (w : World) {ops : Array Oper} {rest : List Oper} {o : Oper} {a : Act} {Q : Exit → Act → World → Prop} (hgd : o.guard = none) (s x : Operand)
    (ho : o.op = .call { callee := .builtin .append, args := #[s, x], argTypes := #[48, 48] })
    (v : Value) (hs : a.eval s = v) (y : Nat × Nat) (hown : OP base l v w) (ad : Addr) (C : Nat) (hx : a.eval x = .slice (some ad) 1 C)
    (hc : ∀ j u, (encO y)[j]? = some u → w.cell? (ad.add j) = some u) (hl : l.length ≤ 10000)
    (h : ∀ v' w', OP base (l ++ [y]) v' w' → Below base w w' → (∀ k, k < w.heap.size → v.ownBlock ≠ some k → w'.heap[k]? = w.heap[k]?) → (∀ b, v'.ownBlock = some b → v.ownBlock = some b ∨ w.heap.size ≤ b) → wpList Try.prog ops Q rest (a.put o.dst v') w') : wpList Try.prog ops Q (o :: rest) a w :=
  OwnB.appendNL 48 50 encO _ 2 16 infoOpen Try.underlying48 rfl (by decide) (by decide) encO_len encO_one w hgd s x ho v hs y hown ad C hx hc hl h

theorem OP.empty {base : Nat} {w : World} (h : base ≤ w.heap.size) : OP base [] (.slice none 0 0) w := ⟨h, by simp, Or.inl ⟨rfl, rfl⟩⟩

theorem OP.kp {base : Nat} {l : List (Nat × Nat)} {v : Value} {w w' : World} {G : Nat → Prop} (h : OP base l v w) (k : Kp G w w') (hG : ∀ b, v.ownBlock = some b → ¬ G b) : OP base l v w' := OwnB.but h k hG

/-- What is told of a walk: those that were entered, and from where; those that were left; the blocks of memory that it may turn. -/
abbrev PJ := List (Nat × Int) → List Nat → (Nat → Prop) → World → Prop

/-- What is called turns only its own blocks, and new ones. -/
def Gr (F F' : Nat → Prop) (w w' : World) : Prop := Kp F w w' ∧ ∀ b, F' b → F b ∨ w.heap.size ≤ b

/-- What stays where others turn. -/
def Stay (J : PJ) : Prop := (∀ ent lf F G w w', J ent lf F w → Kp G w w' → (∀ b, G b → ¬ F b) → J ent lf F w') ∧ ∀ ent lf F w, J ent lf F w → ∀ b, F b → b < w.heap.size

/-- The walk's memory: N: as many blocks as there were; F0: what could be turned then. -/
def WS (J : PJ) (ev : Value) (F0 : Nat → Prop) (w0 : World) (sn : List Nat) (ent : List (Nat × Int)) (lf : List Nat) (stk : List (Nat × Nat)) (pv : Value) (F : Nat → Prop) (w : World) : Prop :=
  Kp F0 w0 w ∧ At w w0.heap.size #[ev] 34 ∧ SeenAt w (w0.heap.size + 1) sn ∧ At w (w0.heap.size + 2) #[.map (some (w0.heap.size + 1))] 47 ∧ At w (w0.heap.size + 3) #[pv] 48 ∧ OP (w0.heap.size + 4) stk pv w ∧ J ent lf F w ∧ ∀ b, F b → (b < w0.heap.size ∧ F0 b) ∨ (w0.heap.size + 4 ≤ b ∧ pv.ownBlock ≠ some b)

section
variable {J : PJ} {ev pv : Value} {F0 F : Nat → Prop} {w0 w w' : World} {ent : List (Nat × Int)} {lf : List Nat} {stk : List (Nat × Nat)}

theorem Kp.other {G : Nat → Prop} (h : Kp F0 w0 w) (k : Kp G w w') (hG : ∀ b, G b → b < w0.heap.size → F0 b) : Kp F0 w0 w' :=
  ⟨h.1.trans (k.1.mono (Nat.zero_le _)), fun b hb hf => (k.2 b (Nat.lt_of_lt_of_le hb h.1.size) fun hg => hf (hG b hg hb)).trans (h.2 b hb hf)⟩

theorem Gr.of (k : Kp F w w') : Gr F F w w' := ⟨k, fun _ h => Or.inl h⟩

/-- One more was seen. -/
theorem WS.seen {sn sn' : List Nat} (h : WS J ev F0 w0 sn ent lf stk pv F w) (hst : Stay J) (hs : SeenAt w' (w0.heap.size + 1) sn') (k : Kp (fun b => b = w0.heap.size + 1) w w') : WS J ev F0 w0 sn' ent lf stk pv F w' := by
  obtain ⟨h1, h2, h3, h4, h5, h6, h7, h8⟩ := h
  refine ⟨h1.other k fun b hb hlt => by omega, k.at h2 (by omega), hs, k.at h4 (by omega), k.at h5 (by omega), h6.kp k fun b hb e => ?_, hst.1 _ _ _ _ _ _ h7 k fun b hb hF => ?_, h8⟩
  · have := (OwnB.at h6 hb).1
    omega
  · rcases h8 b hF with h | h <;> omega
end
end Go.Proofs.Ytmmgdiecmokipaa
