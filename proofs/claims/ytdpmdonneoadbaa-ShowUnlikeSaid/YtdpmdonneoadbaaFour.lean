/-
  Proved: four variables of one tree made in one statement, whose order Go leaves open: in whatever order, each lies in a block of its own and holds the tree.
-/
import Derived.Test.YtdpmdonneoadbaaDeep
import Derived.Laws.Tables
import Derived.Laws.Rows
import Derived.Orders
import Derived.RegionTactic
namespace Go.Proofs.Ytdpmdonneoadbaa
open Go.RowKit

/-- A walk of a region in any order, by what holds behind each set of operations. -/
theorem count_lt (p q : Nat → Bool) (i : Nat) : ∀ (l : List Nat), (∀ j ∈ l, q j = true → p j = true) → i ∈ l → p i = true → q i = false → (l.filter q).length < (l.filter p).length
  | [], _, h, _, _ => absurd h (by simp)
  | x :: l, hpq, hi, hp, hq => by
    have hle : (l.filter q).length ≤ (l.filter p).length := by
      have : ∀ (m : List Nat), (∀ j ∈ m, q j = true → p j = true) → (m.filter q).length ≤ (m.filter p).length := by
        intro m
        induction m with
        | nil => intro _; simp
        | cons y m ih =>
          intro hm
          have h1 := ih (fun j hj => hm j (List.mem_cons_of_mem _ hj))
          have h2 := hm y (by simp)
          cases hq' : q y <;> cases hp' : p y <;> simp_all <;> omega
      exact this l (fun j hj => hpq j (List.mem_cons_of_mem _ hj))
    rcases List.mem_cons.1 hi with rfl | hi
    · simp [hp, hq]; omega
    · have := count_lt p q i l (fun j hj => hpq j (List.mem_cons_of_mem _ hj)) hi hp hq
      have h2 := hpq x (by simp)
      cases hq' : q x <;> cases hp' : p x <;> simp_all <;> omega

theorem wpAny_inv {P : Program} {ops : Array Oper} {Q : Exit → Act → World → Prop} {md : Region.Mode} (Inv : Array Bool → Act → World → Prop)
    (hd : ∀ l a w, Inv l a w → Region.ready md ops l = [] → Q .normal a w)
    (hs : ∀ l a w i, Inv l a w → i ∈ Region.ready md ops l → wpOp P ops Q i (Inv (l.setIfInBounds i true)) a w) :
    ∀ (fuel : Nat) (l : Array Bool) (a : Act) (w : World), Inv l a w → ((List.range ops.size).filter fun i => !l.getD i true).length ≤ fuel → wpAny P md ops Q fuel l a w := by
  intro fuel
  induction fuel with
  | zero =>
    intro l a w h hf
    have hr : Region.ready md ops l = [] := by
      unfold Region.ready
      rw [List.filter_eq_nil_iff]
      intro i hi hc
      have : i ∈ (List.range ops.size).filter fun i => !l.getD i true := List.mem_filter.2 ⟨hi, by simp only [Bool.and_eq_true] at hc; exact hc.1⟩
      have h0 := List.length_pos_of_mem this
      omega
    exact ⟨hr, hd l a w h hr⟩
  | succ fuel ih =>
    intro l a w h hf
    refine ⟨hd l a w h, fun i hi => ?_⟩
    refine wpOp_mono (fun a' w' h' => ih _ a' w' h' ?_) (hs l a w i h hi)
    unfold Region.ready at hi
    obtain ⟨hi, hc⟩ := List.mem_filter.1 hi
    simp only [Bool.and_eq_true] at hc
    have hl : l.getD i true = false := by simpa using hc.1
    have hsz : i < l.size := by
      rcases Nat.lt_or_ge i l.size with h1 | h1
      · exact h1
      · simp [Array.getD, Nat.not_lt.2 h1] at hl
    have := count_lt (fun i => !l.getD i true) (fun j => !(l.setIfInBounds i true).getD j true) i (List.range ops.size) (fun j _ hj => by
        by_cases hij : i = j
        · subst hij; simp [hsz] at hj
        · simpa [Array.getElem?_setIfInBounds, hij] using hj) hi (by simpa using hl) (by simp [hsz])
    omega

/-- The statement's operations. -/
def ops3 : Array Oper :=
    #[{ dst := some 12, op := Op.load 27 (Operand.tmp 2), type := 27, pos := "outright.go:45", after := #[], guard := none },
    { dst := some 13, op := Op.load 27 (Operand.tmp 2), type := 27, pos := "outright.go:45", after := #[{ on := 8, ground := Ground.gcOnly Departure.lateStores }], guard := none },
    { dst := some 14, op := Op.load 27 (Operand.tmp 2), type := 27, pos := "outright.go:45", after := #[{ on := 9, ground := Ground.gcOnly Departure.lateStores }], guard := none },
    { dst := some 15, op := Op.load 27 (Operand.tmp 2), type := 27, pos := "outright.go:45", after := #[{ on := 10, ground := Ground.gcOnly Departure.lateStores }], guard := none },
    { dst := some 5, op := Op.alloc 27, type := 0, pos := "outright.go:45", after := #[], guard := none },
    { dst := some 6, op := Op.alloc 27, type := 0, pos := "outright.go:45", after := #[], guard := none },
    { dst := some 7, op := Op.alloc 27, type := 0, pos := "outright.go:45", after := #[], guard := none },
    { dst := some 8, op := Op.alloc 27, type := 0, pos := "outright.go:45", after := #[], guard := none },
    { dst := none, op := Op.store 27 (Operand.tmp 5) (Operand.tmp 12), type := 0, pos := "outright.go:45", after := #[{ on := 4, ground := Ground.data }, { on := 0, ground := Ground.data }, { on := 0, ground := Ground.phase }, { on := 1, ground := Ground.textOnly Departure.lateStores }, { on := 2, ground := Ground.textOnly Departure.lateStores }, { on := 3, ground := Ground.textOnly Departure.lateStores }, { on := 4, ground := Ground.phase }, { on := 5, ground := Ground.phase }, { on := 6, ground := Ground.phase }, { on := 7, ground := Ground.phase }], guard := none },
    { dst := none, op := Op.store 27 (Operand.tmp 6) (Operand.tmp 13), type := 0, pos := "outright.go:45", after := #[{ on := 5, ground := Ground.data }, { on := 1, ground := Ground.data }, { on := 8, ground := Ground.chain }, { on := 0, ground := Ground.phase }, { on := 1, ground := Ground.phase }, { on := 2, ground := Ground.textOnly Departure.lateStores }, { on := 3, ground := Ground.textOnly Departure.lateStores }, { on := 4, ground := Ground.phase }, { on := 5, ground := Ground.phase }, { on := 6, ground := Ground.phase }, { on := 7, ground := Ground.phase }, { on := 8, ground := Ground.phase }], guard := none },
    { dst := none, op := Op.store 27 (Operand.tmp 7) (Operand.tmp 14), type := 0, pos := "outright.go:45", after := #[{ on := 6, ground := Ground.data }, { on := 2, ground := Ground.data }, { on := 9, ground := Ground.chain }, { on := 0, ground := Ground.phase }, { on := 1, ground := Ground.phase }, { on := 2, ground := Ground.phase }, { on := 3, ground := Ground.textOnly Departure.lateStores }, { on := 4, ground := Ground.phase }, { on := 5, ground := Ground.phase }, { on := 6, ground := Ground.phase }, { on := 7, ground := Ground.phase }, { on := 8, ground := Ground.phase }, { on := 9, ground := Ground.phase }], guard := none },
    { dst := none, op := Op.store 27 (Operand.tmp 8) (Operand.tmp 15), type := 0, pos := "outright.go:45", after := #[{ on := 7, ground := Ground.data }, { on := 3, ground := Ground.data }, { on := 10, ground := Ground.chain }, { on := 0, ground := Ground.phase }, { on := 1, ground := Ground.phase }, { on := 2, ground := Ground.phase }, { on := 3, ground := Ground.phase }, { on := 4, ground := Ground.phase }, { on := 5, ground := Ground.phase }, { on := 6, ground := Ground.phase }, { on := 7, ground := Ground.phase }, { on := 8, ground := Ground.phase }, { on := 9, ground := Ground.phase }, { on := 10, ground := Ground.phase }], guard := none }]

/-- The frame around the statement. -/
def Fr (t q v : Nat → Value) : Act := { tmps := (t 0 :: t 1 :: t 2 :: t 3 :: t 4 :: q 0 :: q 1 :: q 2 :: q 3 :: t 9 :: t 10 :: t 11 :: v 0 :: v 1 :: v 2 :: v 3 :: t 16 :: t 17 :: t 18 :: t 19 :: t 20 :: t 21 :: t 22 :: t 23 :: t 24 :: t 25 :: t 26 :: t 27 :: t 28 :: t 29 :: t 30 :: t 31 :: t 32 :: t 33 :: t 34 :: t 35 :: t 36 :: t 37 :: t 38 :: t 39 :: t 40 :: t 41 :: t 42 :: t 43 :: t 44 :: t 45 :: t 46 :: t 47 :: t 48 :: t 49 :: t 50 :: t 51 :: t 52 :: t 53 :: t 54 :: t 55 :: t 56 :: t 57 :: t 58 :: t 59 :: t 60 :: t 61 :: t 62 :: t 63 :: t 64 :: t 65 :: t 66 :: t 67 :: t 68 :: t 69 :: t 70 :: t 71 :: t 72 :: t 73 :: t 74 :: t 75 :: t 76 :: t 77 :: []).toArray, defers := [] }

def upd (f : Nat → Value) (k : Nat) (x : Value) : Nat → Value := fun j => if j = k then x else f j

/-- What a new tree holds. -/
def zeroX : Array Value := #[.int .i64 0, .int .i64 0, .int .i64 0, .string ⟨#[]⟩, .slice none 0 0, .slice none 0 0, .int .i64 0, .string ⟨#[]⟩, .int .i64 0, .slice none 0 0]

theorem wp_allocX {o : Oper} {a : Act} {w : World} {K : Act → World → Prop} {Q : Exit → Act → World → Prop} (ho : o.op = .alloc 27)
    (h : K (a.put o.dst (.pointer (some ⟨w.heap.size, 0, none⟩))) (w.alloc (.cells zeroX 27 (0, 0)))) : o.wp Try.prog a w K Q := by
  unfold Oper.wp execOp
  simp only [ho]
  go_simp
  exact h

/-- What holds behind a set of the operations. -/
structure Inv (V : Array Value) (t : Nat → Value) (w0 : World) (l : Array Bool) (a : Act) (w : World) : Prop where
  size : l.size = 12
  below : Below w0.heap.size w0 w
  late : ∀ j, j < 4 → l.getD (8 + j) true = true → l.getD (4 + j) true = true
  ex : ∃ (q v : Nat → Value) (G : Nat → Nat), a = Fr t q v ∧ (∀ j, j < 4 → l.getD j true = true → v j = .agg V) ∧
    (∀ j, j < 4 → l.getD (4 + j) true = true → q j = .pointer (some ⟨G j, 0, none⟩) ∧ w0.heap.size ≤ G j ∧ w.heap[G j]? = some (.cells (if l.getD (8 + j) true then V else zeroX) 27 (0, 0))) ∧
    (∀ i j, i < 4 → j < 4 → l.getD (4 + i) true = true → l.getD (4 + j) true = true → i ≠ j → G i ≠ G j)

theorem getD_set {l : Array Bool} (hl : l.size = 12) {i : Nat} (hi : i < 12) (j : Nat) : (l.setIfInBounds i true).getD j true = if i = j then true else l.getD j true := by
  by_cases h : i = j
  · subst h
    simp [hl, hi]
  · simp [h]

theorem fr_put_v (t q v : Nat → Value) (x : Value) : ∀ j, j < 4 → (Fr t q v).put (some (12 + j)) x = Fr t q (upd v j x)
  | 0, _ => rfl
  | 1, _ => rfl
  | 2, _ => rfl
  | 3, _ => rfl
  | j + 4, h => absurd h (Nat.not_lt.2 (Nat.le_add_left 4 j))

theorem fr_put_q (t q v : Nat → Value) (x : Value) : ∀ j, j < 4 → (Fr t q v).put (some (5 + j)) x = Fr t (upd q j x) v
  | 0, _ => rfl
  | 1, _ => rfl
  | 2, _ => rfl
  | 3, _ => rfl
  | j + 4, h => absurd h (Nat.not_lt.2 (Nat.le_add_left 4 j))

theorem inv_load {V : Array Value} {t : Nat → Value} {w0 : World} {l : Array Bool} {a : Act} {w : World} (h : Inv V t w0 l a w) (j : Nat) (hj : j < 4) : Inv V t w0 (l.setIfInBounds j true) (a.put (some (12 + j)) (.agg V)) w := by
  obtain ⟨q, v, G, rfl, h1, h2, h3⟩ := h.ex
  have gs : ∀ i, ¬ j = i → (l.setIfInBounds j true).getD i true = l.getD i true := fun i hi => by rw [getD_set h.size (show j < 12 by omega) i, if_neg hi]
  refine ⟨by simp [h.size], h.below, fun i hi => ?_, q, upd v j (.agg V), G, fr_put_v t q v _ j hj, fun i hi hl => ?_, fun i hi => ?_, fun i k hi hk => ?_⟩
  · rw [gs _ (by omega), gs _ (by omega)]; exact h.late i hi
  · unfold upd
    by_cases e : i = j
    · rw [if_pos e]
    · rw [if_neg e]; rw [gs _ (by omega)] at hl; exact h1 i hi hl
  · rw [gs _ (by omega), gs _ (by omega)]; exact h2 i hi
  · rw [gs _ (by omega), gs _ (by omega)]; exact h3 i k hi hk

theorem inv_alloc {V : Array Value} {t : Nat → Value} {w0 : World} {l : Array Bool} {a : Act} {w : World} (h : Inv V t w0 l a w) (j : Nat) (hj : j < 4) (hn : l.getD (4 + j) true = false) :
    Inv V t w0 (l.setIfInBounds (4 + j) true) (a.put (some (5 + j)) (.pointer (some ⟨w.heap.size, 0, none⟩))) (w.alloc (.cells zeroX 27 (0, 0))) := by
  obtain ⟨q, v, G, rfl, h1, h2, h3⟩ := h.ex
  have gs : ∀ i, ¬ 4 + j = i → (l.setIfInBounds (4 + j) true).getD i true = l.getD i true := fun i hi => by rw [getD_set h.size (show 4 + j < 12 by omega) i, if_neg hi]
  have g1 : (l.setIfInBounds (4 + j) true).getD (4 + j) true = true := by rw [getD_set h.size (show 4 + j < 12 by omega), if_pos rfl]
  have hlate : l.getD (8 + j) true = false := by
    cases hc : l.getD (8 + j) true with
    | false => rfl
    | true => rw [h.late j hj hc] at hn; cases hn
  have lt : ∀ i, i < 4 → l.getD (4 + i) true = true → G i < w.heap.size := fun i hi hl => (Array.getElem?_eq_some_iff.1 (h2 i hi hl).2.2).1
  refine ⟨by simp [h.size], h.below.alloc h.below.size _, fun i hi => ?_, upd q j (.pointer (some ⟨w.heap.size, 0, none⟩)), v, (fun i => if i = j then w.heap.size else G i), fr_put_q t q v _ j hj, fun i hi hl => ?_, fun i hi => ?_, fun i k hi hk => ?_⟩
  · rw [gs (8 + i) (by omega)]
    intro hc
    by_cases e : i = j
    · subst e; exact g1
    · rw [gs _ (by omega)]; exact h.late i hi hc
  · rw [gs _ (by omega)] at hl; exact h1 i hi hl
  · rw [gs (8 + i) (by omega)]
    unfold upd
    dsimp only
    by_cases e : i = j
    · subst e
      intro _
      rw [hlate]
      simp only [if_true]
      refine ⟨trivial, h.below.size, ?_⟩
      show (w.heap.push _)[w.heap.size]? = _
      simp
    · rw [gs _ (by omega)]
      simp only [if_neg e]
      intro hl
      obtain ⟨e1, e2, e3⟩ := h2 i hi hl
      refine ⟨e1, e2, ?_⟩
      rw [Below.heap_alloc _ _ _ (lt i hi hl)]
      exact e3
  · dsimp only
    intro hl hm hne
    by_cases e : i = j
    · by_cases e' : k = j
      · omega
      · simp only [if_pos e, if_neg e']
        rw [gs _ (by omega)] at hm
        have := lt k hk hm
        omega
    · rw [gs _ (by omega)] at hl
      by_cases e' : k = j
      · simp only [if_neg e, if_pos e']
        have := lt i hi hl
        omega
      · simp only [if_neg e, if_neg e']
        rw [gs _ (by omega)] at hm
        exact h3 i k hi hk hl hm hne

theorem below_setRow {B : Nat} {a w : World} (h : Below B a w) {g : Nat} (hg : B ≤ g) (cs : Array Value) : Below B a (w.setRow g cs) :=
  h.trans ⟨rfl, rfl, rfl, by simp [World.setRow], fun k hk => setRow_other _ _ _ _ (by omega)⟩

theorem inv_store {V : Array Value} {t : Nat → Value} {w0 : World} {l : Array Bool} {a : Act} {w : World} (h : Inv V t w0 l a w) (hV : V.size = 10) (h1V : V.all (·.oneCell') = true) (j : Nat) (hj : j < 4) (ha : l.getD j true = true) (hb : l.getD (4 + j) true = true) (hn : l.getD (8 + j) true = false)
    {o : Oper} {Q : Exit → Act → World → Prop} (ho : o.op = .store 27 (.tmp (5 + j)) (.tmp (12 + j))) (hd : o.dst = none) : o.wp Try.prog a w (Inv V t w0 (l.setIfInBounds (8 + j) true)) Q := by
  obtain ⟨q, v, G, rfl, h1, h2, h3⟩ := h.ex
  have gs : ∀ i, ¬ 8 + j = i → (l.setIfInBounds (8 + j) true).getD i true = l.getD i true := fun i hi => by rw [getD_set h.size (show 8 + j < 12 by omega) i, if_neg hi]
  have g1 : (l.setIfInBounds (8 + j) true).getD (8 + j) true = true := by rw [getD_set h.size (show 8 + j < 12 by omega), if_pos rfl]
  obtain ⟨e1, e2, e3⟩ := h2 j hj hb
  rw [hn] at e3
  have e3' : w.heap[G j]? = some (.cells zeroX 27 (0, 0)) := e3
  refine wp_store_row 27 (.tmp (5 + j)) (.tmp (12 + j)) ho (G j) V ?_ ?_ 27 zeroX e3' ?_ ?_ h1V ?_
  · rw [← e1]
    match j, hj with
    | 0, _ => rfl
    | 1, _ => rfl
    | 2, _ => rfl
    | 3, _ => rfl
  · rw [← h1 j hj ha]
    match j, hj with
    | 0, _ => rfl
    | 1, _ => rfl
    | 2, _ => rfl
    | 3, _ => rfl
  · rw [hV]; kernel_rfl
  · rw [hV]; rfl
  · rw [hd]
    refine ⟨by simp [h.size], below_setRow h.below e2 V, fun i hi => ?_, q, v, G, rfl, fun i hi hl => ?_, fun i hi => ?_, fun i k hi hk => ?_⟩
    · rw [gs (4 + i) (by omega)]
      intro hc
      by_cases e : i = j
      · subst e
        exact hb
      · rw [gs _ (by omega)] at hc; exact h.late i hi hc
    · rw [gs _ (by omega)] at hl; exact h1 i hi hl
    · rw [gs (4 + i) (by omega)]
      intro hl
      obtain ⟨f1, f2, f3⟩ := h2 i hi hl
      refine ⟨f1, f2, ?_⟩
      by_cases e : i = j
      · subst e
        rw [g1]
        exact setRow_heap w (G i) zeroX V 27 (0, 0) e3'
      · rw [gs _ (by omega), setRow_other _ _ _ _ (h3 i j hi hj hl hb e)]
        exact f3
    · rw [gs _ (by omega), gs _ (by omega)]; exact h3 i k hi hk

theorem not_listed {ops : Array Oper} {md : Region.Mode} {l : Array Bool} {i : Nat} (h : i ∈ Region.ready md ops l) : i < ops.size ∧ l.getD i true = false := by
  unfold Region.ready at h
  obtain ⟨hi, hc⟩ := List.mem_filter.1 h
  simp only [Bool.and_eq_true] at hc
  exact ⟨List.mem_range.1 hi, by simpa using hc.1⟩

theorem listed_on {ops : Array Oper} {l : Array Bool} {i : Nat} (h : i ∈ Region.ready .any ops l) (o : Oper) (ho : ops[i]? = some o) (k : Nat) (e : Edge) (he : o.after[k]? = some e) (hb : Region.binds .any e = true) : l.getD e.on true = true := by
  unfold Region.ready at h
  obtain ⟨hi, hc⟩ := List.mem_filter.1 h
  simp only [Bool.and_eq_true, ho, Option.map_some, Option.getD_some, Array.all_eq_true_iff_forall_mem] at hc
  have := hc.2 e (Array.mem_of_getElem? he)
  rw [hb] at this
  have h2 : l.getD e.on false = true := by simpa using this
  rcases Nat.lt_or_ge e.on l.size with h1 | h1
  · simpa [Array.getD, h1] using h2
  · simp [Array.getD, Nat.not_lt.2 h1] at h2

theorem wpOp_of {P : Program} {ops : Array Oper} {Q : Exit → Act → World → Prop} {i : Nat} {K : Act → World → Prop} {a : Act} {w : World} (o : Oper) (ho : ops[i]? = some o) (hg : o.guard = none) (h : o.wp P a w K Q) : wpOp P ops Q i K a w := by
  unfold wpOp
  rw [ho]
  have : Region.wanted o (yielded ops a.tmps) = true := by unfold Region.wanted; rw [hg]
  simp only [this, if_true]
  exact .inl h

theorem step_c {V : Array Value} {t : Nat → Value} {w0 : World} (g0 : Nat) (fr : Nat × Nat) (hx : t 2 = .pointer (some ⟨g0, 0, none⟩)) (hg : w0.heap[g0]? = some (.cells V 27 fr)) (hV : V.size = 10) (h1V : V.all (·.oneCell') = true)
    {Q : Exit → Act → World → Prop} (l : Array Bool) (a : Act) (w : World) (i : Nat) (h : Inv V t w0 l a w) (hi : i ∈ Region.ready .any ops3 l) : wpOp Try.prog ops3 Q i (Inv V t w0 (l.setIfInBounds i true)) a w := by
  obtain ⟨hlt, hn⟩ := not_listed hi
  have hlt : i < 12 := hlt
  have hgw : w.heap[g0]? = some (.cells V 27 fr) := by rw [h.below.block g0 (Array.getElem?_eq_some_iff.1 hg).1]; exact hg
  have ex2 : a.eval (.tmp 2) = .pointer (some ⟨g0, 0, none⟩) := by
    obtain ⟨q, v, G, rfl, _⟩ := h.ex
    exact hx
  have hsz : (Try.prog.info? 27).map (·.size) = some V.size := by rw [hV]; kernel_rfl
  have ld : ∀ (j : Nat) (o : Oper), j < 4 → o.op = .load 27 (.tmp 2) → o.dst = some (12 + j) → o.wp Try.prog a w (Inv V t w0 (l.setIfInBounds j true)) Q := fun j o hj ho hd => by
    refine wp_load_row 27 (.tmp 2) ho g0 ex2 27 V fr _ hgw Try.underlying27 rfl hsz ?_
    rw [hd]
    exact inv_load h j hj
  have al : ∀ (j : Nat) (o : Oper), j < 4 → l.getD (4 + j) true = false → o.op = .alloc 27 → o.dst = some (5 + j) → o.wp Try.prog a w (Inv V t w0 (l.setIfInBounds (4 + j) true)) Q := fun j o hj hn ho hd => by
    refine wp_allocX ho ?_
    rw [hd]
    exact inv_alloc h j hj hn
  have hc : i = 0 ∨ i = 1 ∨ i = 2 ∨ i = 3 ∨ i = 4 ∨ i = 5 ∨ i = 6 ∨ i = 7 ∨ i = 8 ∨ i = 9 ∨ i = 10 ∨ i = 11 := by omega
  rcases hc with rfl | rfl | rfl | rfl | rfl | rfl | rfl | rfl | rfl | rfl | rfl | rfl
  · exact wpOp_of _ rfl rfl (ld 0 _ (by omega) rfl rfl)
  · exact wpOp_of _ rfl rfl (ld 1 _ (by omega) rfl rfl)
  · exact wpOp_of _ rfl rfl (ld 2 _ (by omega) rfl rfl)
  · exact wpOp_of _ rfl rfl (ld 3 _ (by omega) rfl rfl)
  · exact wpOp_of _ rfl rfl (al 0 _ (by omega) hn rfl rfl)
  · exact wpOp_of _ rfl rfl (al 1 _ (by omega) hn rfl rfl)
  · exact wpOp_of _ rfl rfl (al 2 _ (by omega) hn rfl rfl)
  · exact wpOp_of _ rfl rfl (al 3 _ (by omega) hn rfl rfl)
  · exact wpOp_of _ rfl rfl (inv_store h hV h1V 0 (by omega) (listed_on hi _ rfl 1 _ rfl rfl) (listed_on hi _ rfl 0 _ rfl rfl) hn rfl rfl)
  · exact wpOp_of _ rfl rfl (inv_store h hV h1V 1 (by omega) (listed_on hi _ rfl 1 _ rfl rfl) (listed_on hi _ rfl 0 _ rfl rfl) hn rfl rfl)
  · exact wpOp_of _ rfl rfl (inv_store h hV h1V 2 (by omega) (listed_on hi _ rfl 1 _ rfl rfl) (listed_on hi _ rfl 0 _ rfl rfl) hn rfl rfl)
  · exact wpOp_of _ rfl rfl (inv_store h hV h1V 3 (by omega) (listed_on hi _ rfl 1 _ rfl rfl) (listed_on hi _ rfl 0 _ rfl rfl) hn rfl rfl)

theorem all_listed {l : Array Bool} (hsz : l.size = 12) (h : Region.ready .any ops3 l = []) : ∀ i, i < 12 → l.getD i true = true := by
  have on : ∀ (i : Nat) (o : Oper), i < 12 → ops3[i]? = some o → (∀ (k : Nat) (e : Edge), o.after[k]? = some e → Region.binds .any e = true → l.getD e.on false = true) → l.getD i false = true := by
    intro i o hi ho he
    cases hc : l.getD i false with
    | true => rfl
    | false =>
      have : i ∈ Region.ready .any ops3 l := by
        unfold Region.ready
        refine List.mem_filter.2 ⟨List.mem_range.2 hi, ?_⟩
        have h1 : l.getD i true = false := by
          simp only [Array.getD, hsz, hi, dif_pos] at hc ⊢
          exact hc
        simp only [h1, ho, Option.map_some, Option.getD_some, Bool.and_eq_true, Array.all_eq_true_iff_forall_mem]
        refine ⟨rfl, fun e hm => ?_⟩
        obtain ⟨k, hk, rfl⟩ := Array.mem_iff_getElem.1 hm
        cases hb : Region.binds .any o.after[k] with
        | false => simp
        | true => simpa using he k _ (Array.getElem?_eq_getElem hk) hb
      rw [h] at this
      cases this
  have l0 : l.getD 0 false = true := on 0 _ (by omega) rfl (by
    intro k e he hb
    exact absurd (show k < 0 from (Array.getElem?_eq_some_iff.1 he).1) (Nat.not_lt_zero _))
  have l1 : l.getD 1 false = true := on 1 _ (by omega) rfl (by
    intro k e he hb
    match k, he with
    | 0, he => cases he; cases hb
    | k + 1, he => exact absurd (show k + 1 < 1 from (Array.getElem?_eq_some_iff.1 he).1) (Nat.not_lt.2 (Nat.le_add_left _ _)))
  have l2 : l.getD 2 false = true := on 2 _ (by omega) rfl (by
    intro k e he hb
    match k, he with
    | 0, he => cases he; cases hb
    | k + 1, he => exact absurd (show k + 1 < 1 from (Array.getElem?_eq_some_iff.1 he).1) (Nat.not_lt.2 (Nat.le_add_left _ _)))
  have l3 : l.getD 3 false = true := on 3 _ (by omega) rfl (by
    intro k e he hb
    match k, he with
    | 0, he => cases he; cases hb
    | k + 1, he => exact absurd (show k + 1 < 1 from (Array.getElem?_eq_some_iff.1 he).1) (Nat.not_lt.2 (Nat.le_add_left _ _)))
  have l4 : l.getD 4 false = true := on 4 _ (by omega) rfl (by
    intro k e he hb
    exact absurd (show k < 0 from (Array.getElem?_eq_some_iff.1 he).1) (Nat.not_lt_zero _))
  have l5 : l.getD 5 false = true := on 5 _ (by omega) rfl (by
    intro k e he hb
    exact absurd (show k < 0 from (Array.getElem?_eq_some_iff.1 he).1) (Nat.not_lt_zero _))
  have l6 : l.getD 6 false = true := on 6 _ (by omega) rfl (by
    intro k e he hb
    exact absurd (show k < 0 from (Array.getElem?_eq_some_iff.1 he).1) (Nat.not_lt_zero _))
  have l7 : l.getD 7 false = true := on 7 _ (by omega) rfl (by
    intro k e he hb
    exact absurd (show k < 0 from (Array.getElem?_eq_some_iff.1 he).1) (Nat.not_lt_zero _))
  have l8 : l.getD 8 false = true := on 8 _ (by omega) rfl (by
    intro k e he hb
    match k, he with
    | 0, he => cases he; exact l4
    | 1, he => cases he; exact l0
    | 2, he => cases he; exact l0
    | 3, he => cases he; cases hb
    | 4, he => cases he; cases hb
    | 5, he => cases he; cases hb
    | 6, he => cases he; exact l4
    | 7, he => cases he; exact l5
    | 8, he => cases he; exact l6
    | 9, he => cases he; exact l7
    | k + 10, he => exact absurd (show k + 10 < 10 from (Array.getElem?_eq_some_iff.1 he).1) (Nat.not_lt.2 (Nat.le_add_left _ _)))
  have l9 : l.getD 9 false = true := on 9 _ (by omega) rfl (by
    intro k e he hb
    match k, he with
    | 0, he => cases he; exact l5
    | 1, he => cases he; exact l1
    | 2, he => cases he; exact l8
    | 3, he => cases he; exact l0
    | 4, he => cases he; exact l1
    | 5, he => cases he; cases hb
    | 6, he => cases he; cases hb
    | 7, he => cases he; exact l4
    | 8, he => cases he; exact l5
    | 9, he => cases he; exact l6
    | 10, he => cases he; exact l7
    | 11, he => cases he; exact l8
    | k + 12, he => exact absurd (show k + 12 < 12 from (Array.getElem?_eq_some_iff.1 he).1) (Nat.not_lt.2 (Nat.le_add_left _ _)))
  have l10 : l.getD 10 false = true := on 10 _ (by omega) rfl (by
    intro k e he hb
    match k, he with
    | 0, he => cases he; exact l6
    | 1, he => cases he; exact l2
    | 2, he => cases he; exact l9
    | 3, he => cases he; exact l0
    | 4, he => cases he; exact l1
    | 5, he => cases he; exact l2
    | 6, he => cases he; cases hb
    | 7, he => cases he; exact l4
    | 8, he => cases he; exact l5
    | 9, he => cases he; exact l6
    | 10, he => cases he; exact l7
    | 11, he => cases he; exact l8
    | 12, he => cases he; exact l9
    | k + 13, he => exact absurd (show k + 13 < 13 from (Array.getElem?_eq_some_iff.1 he).1) (Nat.not_lt.2 (Nat.le_add_left _ _)))
  have l11 : l.getD 11 false = true := on 11 _ (by omega) rfl (by
    intro k e he hb
    match k, he with
    | 0, he => cases he; exact l7
    | 1, he => cases he; exact l3
    | 2, he => cases he; exact l10
    | 3, he => cases he; exact l0
    | 4, he => cases he; exact l1
    | 5, he => cases he; exact l2
    | 6, he => cases he; exact l3
    | 7, he => cases he; exact l4
    | 8, he => cases he; exact l5
    | 9, he => cases he; exact l6
    | 10, he => cases he; exact l7
    | 11, he => cases he; exact l8
    | 12, he => cases he; exact l9
    | 13, he => cases he; exact l10
    | k + 14, he => exact absurd (show k + 14 < 14 from (Array.getElem?_eq_some_iff.1 he).1) (Nat.not_lt.2 (Nat.le_add_left _ _)))
  intro i hi
  have hc : i = 0 ∨ i = 1 ∨ i = 2 ∨ i = 3 ∨ i = 4 ∨ i = 5 ∨ i = 6 ∨ i = 7 ∨ i = 8 ∨ i = 9 ∨ i = 10 ∨ i = 11 := by omega
  have hd : l.getD i true = l.getD i false := by simp only [Array.getD, hsz, hi, dif_pos]
  rw [hd]
  rcases hc with rfl | rfl | rfl | rfl | rfl | rfl | rfl | rfl | rfl | rfl | rfl | rfl <;> assumption

/-- THE STATEMENT, IN WHATEVER ORDER. -/
theorem four_c {V : Array Value} {t : Nat → Value} {w0 : World} (g0 : Nat) (fr : Nat × Nat) (hx : t 2 = .pointer (some ⟨g0, 0, none⟩)) (hg : w0.heap[g0]? = some (.cells V 27 fr)) (hV : V.size = 10) (h1V : V.all (·.oneCell') = true)
    {Q : Exit → Act → World → Prop} (q v : Nat → Value) (hq : ∀ (q v : Nat → Value) (G : Nat → Nat) (w : World), Below w0.heap.size w0 w →
      (∀ j, j < 4 → q j = .pointer (some ⟨G j, 0, none⟩) ∧ w0.heap.size ≤ G j ∧ w.heap[G j]? = some (.cells V 27 (0, 0))) → (∀ i j, i < 4 → j < 4 → i ≠ j → G i ≠ G j) → Q .normal (Fr t q v) w) :
    (Code.region 3 ops3 true).wp Try.prog Q (Fr t q v) w0 := by
  refine wp_region_any (by kernel_rfl) ?_
  refine wpAny_inv (Inv V t w0) (fun l a w h hr => ?_) (fun l a w i h hi => step_c g0 fr hx hg hV h1V l a w i h hi) _ _ _ _ ?_ ?_
  · obtain ⟨q', v', G, rfl, _, h2, h3⟩ := h.ex
    have ha := all_listed h.size hr
    exact hq q' v' G w h.below (fun j hj => by
      have := h2 j hj (ha _ (by omega))
      rw [ha (8 + j) (by omega)] at this
      exact this) (fun i j hi hj hne => h3 i j hi hj (ha _ (by omega)) (ha _ (by omega)) hne)
  · have hf : ∀ i, i < 12 → (Array.replicate ops3.size false).getD i true = false := fun i hi => by
      show (Array.replicate 12 false).getD i true = false
      simp [hi]
    refine ⟨rfl, (Below.refl _ w0).drew, fun j hj hc => ?_, q, v, (fun _ => 0), rfl, fun j hj hc => ?_, fun j hj hc => ?_, fun i j hi hj hc => ?_⟩
    · rw [hf _ (by omega)] at hc; cases hc
    · rw [hf _ (by omega)] at hc; cases hc
    · rw [hf _ (by omega)] at hc; cases hc
    · rw [hf _ (by omega)] at hc; cases hc
  · exact Nat.le_trans (List.length_filter_le _ _) (by simp)

/-- .. slot by slot. -/
theorem four_s {V : Array Value} {t0 t1 t2 t3 t4 t5 t6 t7 t8 t9 t10 t11 t12 t13 t14 t15 t16 t17 t18 t19 t20 t21 t22 t23 t24 t25 t26 t27 t28 t29 t30 t31 t32 t33 t34 t35 t36 t37 t38 t39 t40 t41 t42 t43 t44 t45 t46 t47 t48 t49 t50 t51 t52 t53 t54 t55 t56 t57 t58 t59 t60 t61 t62 t63 t64 t65 t66 t67 t68 t69 t70 t71 t72 t73 t74 t75 t76 t77 : Value} {w0 : World} {Q : Exit → Act → World → Prop} (g0 : Nat) (fr : Nat × Nat) (hx : t2 = .pointer (some ⟨g0, 0, none⟩)) (hg : w0.heap[g0]? = some (.cells V 27 fr)) (hV : V.size = 10) (h1V : V.all (·.oneCell') = true)
    (hq : ∀ (q0 q1 q2 q3 v0 v1 v2 v3 : Value) (a b c d : Nat) (w : World), Below w0.heap.size w0 w → q0 = .pointer (some ⟨a, 0, none⟩) → q1 = .pointer (some ⟨b, 0, none⟩) → q2 = .pointer (some ⟨c, 0, none⟩) → q3 = .pointer (some ⟨d, 0, none⟩) →
      (w0.heap.size ≤ a ∧ w0.heap.size ≤ b ∧ w0.heap.size ≤ c ∧ w0.heap.size ≤ d) → (a ≠ b ∧ a ≠ c ∧ a ≠ d ∧ b ≠ c ∧ b ≠ d ∧ c ≠ d) →
      (w.heap[a]? = some (.cells V 27 (0, 0)) ∧ w.heap[b]? = some (.cells V 27 (0, 0)) ∧ w.heap[c]? = some (.cells V 27 (0, 0)) ∧ w.heap[d]? = some (.cells V 27 (0, 0))) → Q .normal { tmps := (t0 :: t1 :: t2 :: t3 :: t4 :: q0 :: q1 :: q2 :: q3 :: t9 :: t10 :: t11 :: v0 :: v1 :: v2 :: v3 :: t16 :: t17 :: t18 :: t19 :: t20 :: t21 :: t22 :: t23 :: t24 :: t25 :: t26 :: t27 :: t28 :: t29 :: t30 :: t31 :: t32 :: t33 :: t34 :: t35 :: t36 :: t37 :: t38 :: t39 :: t40 :: t41 :: t42 :: t43 :: t44 :: t45 :: t46 :: t47 :: t48 :: t49 :: t50 :: t51 :: t52 :: t53 :: t54 :: t55 :: t56 :: t57 :: t58 :: t59 :: t60 :: t61 :: t62 :: t63 :: t64 :: t65 :: t66 :: t67 :: t68 :: t69 :: t70 :: t71 :: t72 :: t73 :: t74 :: t75 :: t76 :: t77 :: []).toArray, defers := [] } w) :
    (Code.region 3 ops3 true).wp Try.prog Q { tmps := (t0 :: t1 :: t2 :: t3 :: t4 :: t5 :: t6 :: t7 :: t8 :: t9 :: t10 :: t11 :: t12 :: t13 :: t14 :: t15 :: t16 :: t17 :: t18 :: t19 :: t20 :: t21 :: t22 :: t23 :: t24 :: t25 :: t26 :: t27 :: t28 :: t29 :: t30 :: t31 :: t32 :: t33 :: t34 :: t35 :: t36 :: t37 :: t38 :: t39 :: t40 :: t41 :: t42 :: t43 :: t44 :: t45 :: t46 :: t47 :: t48 :: t49 :: t50 :: t51 :: t52 :: t53 :: t54 :: t55 :: t56 :: t57 :: t58 :: t59 :: t60 :: t61 :: t62 :: t63 :: t64 :: t65 :: t66 :: t67 :: t68 :: t69 :: t70 :: t71 :: t72 :: t73 :: t74 :: t75 :: t76 :: t77 :: []).toArray, defers := [] } w0 := by
  have := four_c (V := V) (t := fun j => ((t0 :: t1 :: t2 :: t3 :: t4 :: t5 :: t6 :: t7 :: t8 :: t9 :: t10 :: t11 :: t12 :: t13 :: t14 :: t15 :: t16 :: t17 :: t18 :: t19 :: t20 :: t21 :: t22 :: t23 :: t24 :: t25 :: t26 :: t27 :: t28 :: t29 :: t30 :: t31 :: t32 :: t33 :: t34 :: t35 :: t36 :: t37 :: t38 :: t39 :: t40 :: t41 :: t42 :: t43 :: t44 :: t45 :: t46 :: t47 :: t48 :: t49 :: t50 :: t51 :: t52 :: t53 :: t54 :: t55 :: t56 :: t57 :: t58 :: t59 :: t60 :: t61 :: t62 :: t63 :: t64 :: t65 :: t66 :: t67 :: t68 :: t69 :: t70 :: t71 :: t72 :: t73 :: t74 :: t75 :: t76 :: t77 :: []).toArray : Array Value).getD j undef) (w0 := w0) (Q := Q) g0 fr hx hg hV h1V (fun j => (#[t5, t6, t7, t8] : Array Value).getD j undef) (fun j => (#[t12, t13, t14, t15] : Array Value).getD j undef) (fun q v G w hb hp hn => by
    obtain ⟨a1, a2, a3⟩ := hp 0 (by omega)
    obtain ⟨b1, b2, b3⟩ := hp 1 (by omega)
    obtain ⟨c1, c2, c3⟩ := hp 2 (by omega)
    obtain ⟨d1, d2, d3⟩ := hp 3 (by omega)
    exact hq (q 0) (q 1) (q 2) (q 3) (v 0) (v 1) (v 2) (v 3) (G 0) (G 1) (G 2) (G 3) w hb a1 b1 c1 d1 ⟨a2, b2, c2, d2⟩ ⟨hn 0 1 (by omega) (by omega) (by omega), hn 0 2 (by omega) (by omega) (by omega), hn 0 3 (by omega) (by omega) (by omega), hn 1 2 (by omega) (by omega) (by omega), hn 1 3 (by omega) (by omega) (by omega), hn 2 3 (by omega) (by omega) (by omega)⟩ ⟨a3, b3, c3, d3⟩)
  exact this

/-- The cells of all kids of a tree, in a row. -/
theorem kids_row {w : World} {ks : List X} {b o : Nat} (h : XsIn w ks (some ⟨b, o, none⟩)) : ∀ m, m ≤ ks.length → ∃ news : List Value, news.length = m * 10 ∧ ∀ j u, news[j]? = some u → w.cell? ⟨b, o + j, none⟩ = some u ∧ u.oneCell' = true
  | 0, _ => ⟨[], rfl, fun j u hj => by simp at hj⟩
  | m + 1, hm => by
    obtain ⟨news, h1, h2⟩ := kids_row h m (by omega)
    obtain ⟨b', o', cs, e, hr, hx⟩ := h.2 m (by omega)
    cases e
    generalize ks[m] = x at hx
    obtain ⟨k, n, s, ks', ts⟩ := x
    obtain ⟨at', A, C, B, D, p, q, r, Z, zl, zc, rfl, _, _⟩ := hx.inv
    refine ⟨news ++ [.int .i64 k, .int .i64 at', .int .i64 n, .string s, .slice A ks'.length C, .slice B ts.length D, .int .i64 p, .string q, .int .i64 r, .slice Z zl zc], by rw [List.length_append, h1, Nat.succ_mul]; rfl, fun j u hj => ?_⟩
    · by_cases hlt : j < news.length
      · rw [List.getElem?_append_left hlt] at hj
        exact h2 j u hj
      · rw [List.getElem?_append_right (by omega)] at hj
        have hc := hr.2 _ u hj
        rw [h1] at hc hlt hj
        refine ⟨by rw [show o + j = o + m * 10 + (j - m * 10) by omega]; exact hc, ?_⟩
        have hm := List.mem_of_getElem? hj
        simp at hm
        rcases hm with rfl | rfl | rfl | rfl | rfl | rfl | rfl | rfl | rfl | rfl <;> rfl

theorem kids_src {w : World} {ks : List X} {ad : Addr} (h : XsIn w ks (some ad)) : ∃ news : List Value, news.length = ks.length * 10 ∧ (∀ j u, news[j]? = some u → w.cell? (ad.add j) = some u) ∧ ∀ u ∈ news, u.oneCell' = true := by
  by_cases h0 : ks.length = 0
  · exact ⟨[], by rw [h0]; rfl, fun j u hj => by simp at hj, fun u hu => by cases hu⟩
  · obtain ⟨b, o, cs, e, _, _⟩ := h.2 0 (by omega)
    cases e
    obtain ⟨news, h1, h2⟩ := kids_row h ks.length (Nat.le_refl _)
    refine ⟨news, h1, fun j u hj => ?_, fun u hu => ?_⟩
    · have := (h2 j u hj).1
      unfold Addr.add
      split
      · rename_i h3; subst h3; simpa using this
      · exact this
    · obtain ⟨j, hj⟩ := List.mem_iff_getElem?.1 hu
      exact (h2 j u hj).2

end Go.Proofs.Ytdpmdonneoadbaa
