/-
  Proved: the memory of turns in the making.
-/
import Derived.Test.YtmmgdiecmokipaaPreach
import Derived.Test.YtmmgdiecmokipaaPrr
import Derived.Test.YtmmgdiecmokipaaPn
import Derived.Test.YtmmgdiecmokipaaGdoms
namespace Go.Proofs.Ytmmgdiecmokipaa
open Go.RowKit

theorem OZ.blk {base : Nat} {l : List Int} {v : Value} {w : World} (h : OZ base l v w) {b : Nat} (hb : v.ownBlock = some b) : base ≤ b ∧ b < w.heap.size ∧ ∃ cs, At w b cs 3 := by
  obtain ⟨h1, cs, h2⟩ := OwnB.at h hb
  exact ⟨h1, h2.lt, cs, h2⟩
theorem OZ.move {base : Nat} {l : List Int} {v : Value} {w w' : World} (h : OZ base l v w) (hs : w.heap.size ≤ w'.heap.size) (hk : ∀ b, v.ownBlock = some b → w'.heap[b]? = w.heap[b]?) : OZ base l v w' := by
  refine ⟨Nat.le_trans h.1 hs, h.2.1, ?_⟩
  rcases h.2.2 with h4 | ⟨g, cap, cur, rfl, e2, e3, e4⟩
  · exact Or.inl h4
  · exact Or.inr ⟨g, cap, cur, rfl, e2, (hk g rfl).trans e3, e4⟩

/-- A block of m numbers, and spare room. -/
def IZ (w : World) (B m : Nat) (f : Nat → Int) : Prop := ∃ cs, At w B cs 3 ∧ ∀ i, i < m → cs[i]? = some (.int .i64 (f i))

theorem IZ.lt {w : World} {B m : Nat} {f : Nat → Int} (h : IZ w B m f) : B < w.heap.size := by
  obtain ⟨cs, h1, _⟩ := h
  exact h1.lt
theorem IZ.cell {w : World} {B m : Nat} {f : Nat → Int} (h : IZ w B m f) (i : Nat) (hi : i < m) : w.cell? ⟨B, i, none⟩ = some (.int .i64 (f i)) := by
  obtain ⟨cs, h1, h2⟩ := h
  rw [h1.cell, h2 i hi]
theorem IZ.frozen {w : World} {B m : Nat} {f : Nat → Int} (h : IZ w B m f) (i : Nat) : w.frozen? ⟨B, i, none⟩ = false := by
  obtain ⟨cs, h1, _⟩ := h
  exact h1.frozen i
theorem IZ.kp {G : Nat → Prop} {w w' : World} {B m : Nat} {f : Nat → Int} (h : IZ w B m f) (k : Kp G w w') (hG : ¬ G B) : IZ w' B m f := by
  obtain ⟨cs, h1, h2⟩ := h
  exact ⟨cs, k.at h1 hG, h2⟩
theorem IZ.set {w : World} {B m : Nat} {f : Nat → Int} (h : IZ w B m f) (i : Nat) (hi : i < m) (x : Int) : IZ (w.setCell ⟨B, i, none⟩ (.int .i64 x)) B m (pu f i x) := by
  obtain ⟨cs, h1, h2⟩ := h
  refine ⟨_, h1.set (j := i) _, fun j hj => ?_⟩
  have hs : i < cs.size := by
    have := h2 i hi
    exact (Array.getElem?_eq_some_iff.1 this).1
  rw [Array.getElem?_setIfInBounds]
  by_cases e : i = j
  · subst e
    rw [if_pos rfl, if_pos hs, pu_self]
  · rw [if_neg e, pu_ne _ _ (fun h => e h.symm)]
    exact h2 j hj
theorem IZ.ext {w : World} {B m : Nat} {f g : Nat → Int} (h : IZ w B m f) (e : ∀ i, i < m → f i = g i) : IZ w B m g := by
  obtain ⟨cs, h1, h2⟩ := h
  exact ⟨cs, h1, fun i hi => by rw [← e i hi]; exact h2 i hi⟩

theorem make_i (n : Nat) (hn : n ≤ 1000) (w : World) : (Instr.makeSlice 28 (.int .i64 (n : Int)) (.int .i64 (n : Int))).run Try.prog w = .ok (.slice (some ⟨w.heap.size, 0, none⟩) n n) (w.alloc (.cells (madeCells #[.int .i64 0] n) 3)) :=
  run_make_row' (P := Try.prog) 28 3 (.int .i64 0) 8 Try.underlying28 infoInt rfl .i64 .i64 n (by omega) (by omega) w

theorem IZ.made (w : World) (n : Nat) : IZ (w.alloc (.cells (madeCells #[.int .i64 0] n) 3)) w.heap.size n (fun _ => 0) := by
  rw [vC_made]
  exact ⟨_, At.new w _ _, fun i hi => by rw [vC_get, if_pos hi]⟩

/-- Turns in the making: six rows, of numbers, in block N; its variable; where each block's turn stands, and its variable. -/
def TT (w : World) (N n : Nat) (vs : Nat → Value) (rows : Nat → List Int) (tf : Nat → Int) : Prop :=
  At w N (vC vs 6) 46 ∧ (∀ i, i < 6 → OZ (N + 4) (rows i) (vs i) w) ∧ (∀ i j, i < 6 → j < 6 → i ≠ j → Apt (vs i) (vs j)) ∧
  At w (N + 1) #[.pointer (some ⟨N, 0, none⟩)] 42 ∧ IZ w (N + 2) n tf ∧ At w (N + 3) #[.slice (some ⟨N + 2, 0, none⟩) n n] 28

/-- Its blocks. -/
def Fr (N : Nat) (vs : Nat → Value) (b : Nat) : Prop := (N ≤ b ∧ b < N + 4) ∨ ∃ i, i < 6 ∧ (vs i).ownBlock = some b

section
variable {w w' : World} {N n : Nat} {vs : Nat → Value} {rows : Nat → List Int} {tf : Nat → Int}

theorem TT.field (h : TT w N n vs rows tf) (i : Nat) (hi : i < 6) : w.cell? ⟨N, i, none⟩ = some (vs i) := by
  rw [h.1.cell, vC_get, if_pos hi]

theorem TT.kp {G : Nat → Prop} (h : TT w N n vs rows tf) (k : Kp G w w') (hG : ∀ b, G b → ¬ Fr N vs b) : TT w' N n vs rows tf := by
  obtain ⟨h1, h2, h3, h4, h5, h6⟩ := h
  have hn : ∀ b, N ≤ b → b < N + 4 → ¬ G b := fun b h1 h2 h => hG b h (Or.inl ⟨h1, h2⟩)
  exact ⟨k.at h1 (hn _ (by omega) (by omega)), fun i hi => OwnB.but (h2 i hi) k fun b hb h => hG b h (Or.inr ⟨i, hi, hb⟩), h3, k.at h4 (hn _ (by omega) (by omega)), h5.kp k (hn _ (by omega) (by omega)), k.at h6 (hn _ (by omega) (by omega))⟩

theorem TT.lt (h : TT w N n vs rows tf) {b : Nat} (hb : Fr N vs b) : N ≤ b ∧ b < w.heap.size := by
  rcases hb with hb | ⟨i, hi, hb⟩
  · have := h.2.2.2.2.2.lt
    omega
  · have := (h.2.1 i hi).blk hb
    omega

theorem Gr.trans {F F' F'' : Nat → Prop} {w'' : World} (h : Gr F F' w w') (k : Gr F' F'' w' w'') : Gr F F'' w w'' := by
  refine ⟨⟨h.1.1.trans (k.1.1.mono (Nat.zero_le _)), fun b hb hf => (k.1.2 b (Nat.lt_of_lt_of_le hb h.1.1.size) fun hf' => ?_).trans (h.1.2 b hb hf)⟩, fun b hb => ?_⟩
  · rcases h.2 b hf' with h1 | h1
    · exact hf h1
    · omega
  · rcases k.2 b hb with h1 | h1
    · exact h.2 b h1
    · have := h.1.1.size
      right; omega

/-- A row has grown. -/
theorem TT.app {i : Nat} {x : Int} {v' : Value} {w1 : World} (h : TT w N n vs rows tf) (hi : i < 6) (hb0 : Below w.heap.size w w1) (ho : OZ (N + 4) (rows i ++ [x]) v' w') (hb : Below (N + 4) w1 w') (hk : ∀ k, k < w1.heap.size → (vs i).ownBlock ≠ some k → w'.heap[k]? = w1.heap[k]?) (hv : ∀ b, v'.ownBlock = some b → (vs i).ownBlock = some b ∨ w1.heap.size ≤ b) :
    TT (w'.setCell ⟨N, i, none⟩ v') N n (pu vs i v') (pu rows i (rows i ++ [x])) tf ∧ Gr (Fr N vs) (Fr N (pu vs i v')) w (w'.setCell ⟨N, i, none⟩ v') := by
  have h' := h.kp (Kp.of_below (F := fun _ => False) hb0) fun _ h => h.elim
  have hlt : ∀ {b}, Fr N vs b → b < w1.heap.size := fun hb => (h'.lt hb).2
  have hsz := hb0.size
  have hvw : ∀ b, v'.ownBlock = some b → (vs i).ownBlock = some b ∨ w.heap.size ≤ b := fun b hb => (hv b hb).imp id fun h => by omega
  obtain ⟨h1, h2, h3, h4, h5, h6⟩ := h'
  have kk : Kp (fun b => (vs i).ownBlock = some b ∨ b = N) w1 (w'.setCell ⟨N, i, none⟩ v') := (Kp.mono ⟨hb.mono (Nat.zero_le _), fun b hb hne => hk b hb hne⟩ fun b h => Or.inl h).trans (Kp.set w' i v' (Or.inr rfl))
  have hno : ∀ b, N < b → b < N + 4 → ¬ ((vs i).ownBlock = some b ∨ b = N) := fun b hb1 hb2 h => by
    rcases h with h | h
    · have := ((h2 i hi).blk h).1
      omega
    · omega
  refine ⟨⟨?_, fun j hj => ?_, fun j k hj hk' hjk => ?_, kk.at h4 (hno _ (by omega) (by omega)), h5.kp kk (hno _ (by omega) (by omega)), kk.at h6 (hno _ (by omega) (by omega))⟩, ⟨?_, ?_⟩⟩
  · have := (h1.below hb (by omega)).set (j := i) v'
    rwa [vC_set _ _ _ _ hi] at this
  · by_cases e : j = i
    · subst e
      rw [pu_self, pu_self]
      exact OwnB.set ho (by omega) _
    · rw [pu_ne _ _ e, pu_ne _ _ e]
      refine OwnB.set ?_ (by omega) _
      refine (h2 j hj).move hb.size fun b hb' => hk b ((h2 j hj).blk hb').2.1 ?_
      exact h3 j i hj hi e b hb'
  · by_cases e : j = i
    · subst e
      rw [pu_self, pu_ne _ _ (fun h => hjk h.symm)]
      intro b hb1 hb2
      rcases hv b hb1 with h | h
      · exact h3 j k hj hk' hjk b h hb2
      · have := ((h2 k hk').blk hb2).2.1
        omega
    · rw [pu_ne _ _ e]
      by_cases e2 : k = i
      · subst e2
        rw [pu_self]
        intro b hb1 hb2
        rcases hv b hb2 with h | h
        · exact h3 j k hj hk' hjk b hb1 h
        · have := ((h2 j hj).blk hb1).2.1
          omega
      · rw [pu_ne _ _ e2]
        exact h3 j k hj hk' hjk
  · exact (Kp.of_below hb0).trans (kk.mono fun b hb => by
      rcases hb with h | h
      · exact Or.inr ⟨i, hi, h⟩
      · exact Or.inl (by omega))
  · intro b hb
    rcases hb with h | ⟨j, hj, hjb⟩
    · exact Or.inl (Or.inl h)
    · by_cases e : j = i
      · subst e
        rw [pu_self] at hjb
        exact (hvw b hjb).imp (fun h => Or.inr ⟨j, hj, h⟩) id
      · rw [pu_ne _ _ e] at hjb
        exact Or.inl (Or.inr ⟨j, hj, hjb⟩)

/-- A block's turn is told. -/
theorem TT.turn (h : TT w N n vs rows tf) (b : Nat) (hb : b < n) (x : Int) : TT (w.setCell ⟨N + 2, b, none⟩ (.int .i64 x)) N n vs rows (pu tf b x) ∧ Gr (Fr N vs) (Fr N vs) w (w.setCell ⟨N + 2, b, none⟩ (.int .i64 x)) := by
  obtain ⟨h1, h2, h3, h4, h5, h6⟩ := h
  have kk : Kp (fun c => c = N + 2) w (w.setCell ⟨N + 2, b, none⟩ (.int .i64 x)) := Kp.set w b _ rfl
  refine ⟨⟨kk.at h1 (by omega), fun i hi => OwnB.but (h2 i hi) kk fun c hc e => ?_, h3, kk.at h4 (by omega), h5.set b hb x, kk.at h6 (by omega)⟩, Gr.of (kk.mono fun c hc => Or.inl (by omega))⟩
  have := ((h2 i hi).blk hc).1
  omega
end
end Go.Proofs.Ytmmgdiecmokipaa
