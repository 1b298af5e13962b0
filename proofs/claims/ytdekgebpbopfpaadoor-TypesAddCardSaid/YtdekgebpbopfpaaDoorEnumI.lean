/-
  Proved: what the variants that TypesEnums makes hold in memory, and how much the enum has.
-/
import Derived.Test.YtdekgebpbopfpaaDoorVariant
import Derived.Test.YtdekgebpbopfpaaDoorRoundI
namespace Go.Proofs.YtdekgebpbopfpaaDoor
open Go.RowKit

/-- Rows of cells in a row. -/
def fl (f : Nat → List Value) (k : Nat) : List Value := ((List.range k).map f).flatten

theorem fl_succ (f : Nat → List Value) (k : Nat) : fl f (k + 1) = fl f k ++ f k := by
  unfold fl
  rw [List.range_succ, List.map_append, List.flatten_append]
  simp

theorem fl_congr {f g : Nat → List Value} {k : Nat} (h : ∀ i, i < k → f i = g i) : fl f k = fl g k := by
  unfold fl
  congr 1
  exact List.map_congr_left fun i hi => h i (List.mem_range.1 hi)

theorem fl_len {f : Nat → List Value} {c : Nat} (hf : ∀ i, (f i).length = c) : ∀ k, (fl f k).length = k * c
  | 0 => by simp [fl]
  | k + 1 => by rw [fl_succ, List.length_append, fl_len hf k, hf, Nat.succ_mul]

theorem fl_at {f : Nat → List Value} {c : Nat} (hf : ∀ i, (f i).length = c) : ∀ (k i j : Nat) (v : Value), i < k → (f i)[j]? = some v → (fl f k)[i * c + j]? = some v
  | 0, _, _, _, h, _ => absurd h (Nat.not_lt_zero _)
  | k + 1, i, j, v, h, hv => by
    have hj : j < c := by
      have := (List.getElem?_eq_some_iff.1 hv).1
      rw [hf] at this
      exact this
    rw [fl_succ]
    by_cases hi : i < k
    · have hle : i * c + j < k * c := by
        have h1 : (i + 1) * c ≤ k * c := Nat.mul_le_mul_right c hi
        rw [Nat.succ_mul] at h1
        omega
      rw [List.getElem?_append_left (by rw [fl_len hf]; exact hle)]
      exact fl_at hf k i j v hi hv
    · obtain rfl : i = k := by omega
      rw [List.getElem?_append_right (by rw [fl_len hf]; omega), fl_len hf]
      rw [show i * c + j - i * c = j by omega]
      exact hv

/-- The cells of a leaf. -/
def tcl (b : Bool) (q : Nat) : List Value :=
  if b = true then [.int .i64 11, .string ⟨#[]⟩, .int .i64 0, .slice (some ⟨q, 0, none⟩) 1 1] else [.int .i64 6, .string ⟨#[]⟩, .int .i64 0, .slice none 0 0]

theorem tcl_len (b : Bool) (q : Nat) : (tcl b q).length = 4 := by cases b <;> rfl
theorem tcl_one (b : Bool) (q : Nat) : ∀ u ∈ tcl b q, u.oneCell' = true := by
  intro u hu
  cases b <;> simp [tcl] at hu <;> rcases hu with rfl | rfl | rfl | rfl <;> rfl

def lf (b : Bool) : T := if b = true then .mk 11 ⟨#[]⟩ 0 [.mk 2 ⟨#[]⟩ 0 []] else .mk 6 ⟨#[]⟩ 0 []

/-- An append to a row leaves a block that begins otherwise. -/
theorem At.append' {W W' : World} {B : Nat} {cs : Array Value} {t e : TypeId} {base size n : Nat} {v : Value} {xs : List Value} (h : At W B cs t) (ho : W.ownsRow base e size v n xs) (h0 : n = 0 → v = .slice none 0 0) (h1 : 0 < n → xs[0]? ≠ cs[0]? ∧ 0 < size) (hg : W.grownBy W' v.ownBlock) : At W' B cs t := by
  refine (hg.block B h.lt (fun he => ?_)).trans h
  rcases ho.2 with ⟨rfl, _⟩ | ⟨g, cap, cur, rfl, _, hgg, _, _, _, e7⟩
  · cases he
  · by_cases hn : n = 0
    · have := h0 hn
      cases this
    · have : B = g := by simpa [Value.ownBlock] using he
      subst this
      have h2 := (show W.heap[B]? = _ from h).symm.trans hgg
      simp at h2
      obtain ⟨h3, h4⟩ := h1 (by omega)
      apply h3
      rw [← e7, h2.1]
      have : 0 < n * size := Nat.mul_pos (by omega) h4
      rw [List.getElem?_take_of_lt this, Array.getElem?_toList]

/-- A list of leaves, in the making. -/
def LR (b : Bool) (wi : World) (k : Nat) (lv : Value) (wr : World) : Prop :=
  Below wi.heap.size wi wr ∧ (k = 0 → lv = .slice none 0 0) ∧ ∃ qs : Nat → Nat, wr.ownsRow wi.heap.size 25 4 lv k (fl (fun j => tcl b (qs j)) k) ∧ ∀ j, j < k → b = true → At wr (qs j) #[.int .i64 2, .string ⟨#[]⟩, .int .i64 0, .slice none 0 0] 25

theorem LR.start (b : Bool) (wi : World) : LR b wi 0 (.slice none 0 0) wi :=
  ⟨Below.refl _ _, fun _ => rfl, fun _ => 0, ⟨by simp [fl], Or.inl ⟨rfl, rfl⟩⟩, fun j hj => absurd hj (Nat.not_lt_zero _)⟩

theorem first_ne (b : Bool) (qs : Nat → Nat) {k : Nat} (h : 0 < k) : (fl (fun j => tcl b (qs j)) k)[0]? ≠ (#[.int .i64 2, .string ⟨#[]⟩, .int .i64 0, .slice none 0 0] : Array Value)[0]? := by
  cases b
  · have h1 := fl_at (f := fun j => tcl false (qs j)) (c := 4) (fun i => tcl_len _ _) k 0 0 (.int .i64 6) h rfl
    rw [Nat.zero_mul, Nat.zero_add] at h1
    rw [h1]
    intro he
    simp at he
  · have h1 := fl_at (f := fun j => tcl true (qs j)) (c := 4) (fun i => tcl_len _ _) k 0 0 (.int .i64 11) h rfl
    rw [Nat.zero_mul, Nat.zero_add] at h1
    rw [h1]
    intro he
    simp at he

theorem LR.step {b : Bool} {wi : World} {k : Nat} {lv v' : Value} {wr wz w5 : World} {qs : Nat → Nat} (h1 : Below wi.heap.size wi wr) (h0 : k = 0 → lv = .slice none 0 0) (h2 : wr.ownsRow wi.heap.size 25 4 lv k (fl (fun j => tcl b (qs j)) k)) (h3 : ∀ j, j < k → b = true → At wr (qs j) #[.int .i64 2, .string ⟨#[]⟩, .int .i64 0, .slice none 0 0] 25)
    (hz : Below wr.heap.size wr wz) {q : Nat} (hq : b = true → At wz q #[.int .i64 2, .string ⟨#[]⟩, .int .i64 0, .slice none 0 0] 25) (ho : w5.ownsRow wi.heap.size 25 4 v' (k + 1) (fl (fun j => tcl b (qs j)) k ++ tcl b q)) (hg : wz.grownBy w5 lv.ownBlock) : LR b wi (k + 1) v' w5 := by
  have h2' := owns_below h2 hz
  have key : ∀ B, At wz B #[.int .i64 2, .string ⟨#[]⟩, .int .i64 0, .slice none 0 0] 25 → At w5 B #[.int .i64 2, .string ⟨#[]⟩, .int .i64 0, .slice none 0 0] 25 := fun B hB =>
    hB.append' h2' h0 (fun hk => ⟨first_ne b qs hk, by decide⟩) hg
  refine ⟨(h1.trans (hz.mono h1.size)).grown hg (Nat.le_trans h1.size hz.size) (fun g e => own_block h2' e), fun h => absurd h (Nat.succ_ne_zero _), fun j => if j = k then q else qs j, ?_, fun j hj hb => ?_⟩
  · rw [fl_succ, fl_congr (g := fun j => tcl b (qs j)) (fun i hi => by simp only; rw [if_neg (by omega)])]
    simpa using ho
  · by_cases hjk : j = k
    · subst hjk
      simp only [if_true]
      exact key q (hq hb)
    · simp only [if_neg hjk]
      have h4 := h3 j (by omega) hb
      exact key _ (h4.below hz h4.lt)

/-- A list of leaves. -/
def TRow (wr : World) (A : Option Addr) (n : Nat) (b : Bool) : Prop :=
  n = 0 ∨ ∃ (g : Nat) (cur : Array Value) (qs : Nat → Nat), A = some ⟨g, 0, none⟩ ∧ At wr g cur 25 ∧ cur.toList.take (n * 4) = fl (fun j => tcl b (qs j)) n ∧ ∀ j, j < n → b = true → At wr (qs j) #[.int .i64 2, .string ⟨#[]⟩, .int .i64 0, .slice none 0 0] 25

theorem LR.row {b : Bool} {wi : World} {n : Nat} {lv : Value} {wr : World} (h : LR b wi n lv wr) : ∃ A C, lv = .slice A n C ∧ TRow wr A n b := by
  obtain ⟨_, h0, qs, h2, h3⟩ := h
  rcases h2.2 with ⟨rfl, e⟩ | ⟨g, cap, cur, rfl, _, hg, _, _, _, e7⟩
  · subst e; exact ⟨none, 0, rfl, Or.inl rfl⟩
  · exact ⟨_, _, rfl, Or.inr ⟨g, cur, qs, rfl, hg, e7, h3⟩⟩

theorem TRow.below {wr w' : World} {A : Option Addr} {n : Nat} {b : Bool} (h : TRow wr A n b) (hb : Below wr.heap.size wr w') : TRow w' A n b := by
  rcases h with h | ⟨g, cur, qs, h1, h2, h3, h4⟩
  · exact Or.inl h
  · exact Or.inr ⟨g, cur, qs, h1, h2.below hb h2.lt, h3, fun j hj hbt => (h4 j hj hbt).below hb (h4 j hj hbt).lt⟩

theorem TRow.append {wr w' : World} {A : Option Addr} {n : Nat} {b : Bool} (h : TRow wr A n b) {base size m : Nat} {v : Value} {xs : List Value} (ho : wr.ownsRow base 47 size v m xs) (hg : wr.grownBy w' v.ownBlock) : TRow w' A n b := by
  rcases h with h | ⟨g, cur, qs, h1, h2, h3, h4⟩
  · exact Or.inl h
  · exact Or.inr ⟨g, cur, qs, h1, h2.append (by decide) ho hg, h3, fun j hj hbt => (h4 j hj hbt).append (by decide) ho hg⟩

theorem leaf_in {w : World} {b : Bool} {q : Nat} (h : b = true → At w q #[.int .i64 2, .string ⟨#[]⟩, .int .i64 0, .slice none 0 0] 25) : TIn w (lf b) (tcl b q) := by
  cases b
  · exact TIn.of (es := []) (A := none) (C := 0) ⟨by simp, fun i hi => absurd hi (Nat.not_lt_zero _)⟩
  · refine TIn.of (es := [.mk 2 ⟨#[]⟩ 0 []]) (A := some ⟨q, 0, none⟩) (C := 1) ⟨by simp, fun i hi => ?_⟩
    match i, hi with
    | 0, _ => exact ⟨q, 0, _, rfl, row_at (cs := [.int .i64 2, .string ⟨#[]⟩, .int .i64 0, .slice none 0 0]) (h rfl) 0, TIn.of (es := []) (A := none) (C := 0) ⟨by simp, fun i hi => absurd hi (Nat.not_lt_zero _)⟩⟩

theorem TRow.isin {wr : World} {A : Option Addr} {n : Nat} {b : Bool} (h : TRow wr A n b) (hn : n ≤ 7) : TsIn wr (List.replicate n (lf b)) A := by
  refine ⟨by simp; omega, fun i hi => ?_⟩
  have hi' : i < n := by simpa using hi
  rcases h with h | ⟨g, cur, qs, rfl, h2, h3, h4⟩
  · omega
  · refine ⟨g, 0, tcl b (qs i), rfl, ⟨h2.lt, fun j v hj => ?_⟩, by rw [List.getElem_replicate]; exact leaf_in (h4 i hi')⟩
    have h5 := fl_at (f := fun j => tcl b (qs j)) (c := 4) (fun i => tcl_len _ _) n i j v hi' hj
    have hj4 : j < 4 := by
      have := (List.getElem?_eq_some_iff.1 hj).1
      rw [tcl_len] at this
      exact this
    rw [← h3, List.getElem?_take_of_lt (by omega), Array.getElem?_toList] at h5
    rw [h2.cell, show 0 + i * 4 + j = i * 4 + j by omega]
    exact h5

/-- The cells of a variant. -/
def vcl (i : Nat) (A : Option Addr) (n C : Nat) : List Value := [.string (nm i), .slice A n C, .int .i64 0]

/-- The variants, in the making. -/
def VR (nn : Nat → Nat) (bb : Nat → Bool) (w : World) (i : Nat) (v : Value) (wr : World) : Prop :=
  Below w.heap.size w wr ∧ ∃ (As : Nat → Option Addr) (Cs : Nat → Nat), wr.ownsRow w.heap.size 47 3 v i (fl (fun j => vcl j (As j) (nn j) (Cs j)) i) ∧ ∀ j, j < i → TRow wr (As j) (nn j) (bb j)

theorem VR.start (nn : Nat → Nat) (bb : Nat → Bool) (w : World) : VR nn bb w 0 (.slice none 0 0) w :=
  ⟨Below.refl _ _, fun _ => none, fun _ => 0, ⟨by simp [fl], Or.inl ⟨rfl, rfl⟩⟩, fun j hj => absurd hj (Nat.not_lt_zero _)⟩

theorem VR.step {nn : Nat → Nat} {bb : Nat → Bool} {w : World} {i : Nat} {v v' : Value} {wr wz w5 : World} {As : Nat → Option Addr} {Cs : Nat → Nat} (h1 : Below w.heap.size w wr) (h2 : wr.ownsRow w.heap.size 47 3 v i (fl (fun j => vcl j (As j) (nn j) (Cs j)) i)) (h3 : ∀ j, j < i → TRow wr (As j) (nn j) (bb j))
    (hz : Below wr.heap.size wr wz) {A : Option Addr} {C : Nat} (hr : TRow wz A (nn i) (bb i)) (ho : w5.ownsRow w.heap.size 47 3 v' (i + 1) (fl (fun j => vcl j (As j) (nn j) (Cs j)) i ++ vcl i A (nn i) C)) (hg : wz.grownBy w5 v.ownBlock) : VR nn bb w (i + 1) v' w5 := by
  have h2' := owns_below h2 hz
  refine ⟨(h1.trans (hz.mono h1.size)).grown hg (Nat.le_trans h1.size hz.size) (fun g e => own_block h2' e), fun j => if j = i then A else As j, fun j => if j = i then C else Cs j, ?_, fun j hj => ?_⟩
  · rw [fl_succ, fl_congr (g := fun j => vcl j (As j) (nn j) (Cs j)) (fun j hj => by simp only; rw [if_neg (by omega), if_neg (by omega)])]
    simpa using ho
  · by_cases hji : j = i
    · subst hji
      simp only [if_true]
      exact hr.append h2' hg
    · simp only [if_neg hji]
      exact ((h3 j (by omega)).below hz).append h2' hg

def vsl (nn : Nat → Nat) (bb : Nat → Bool) (i : Nat) : List (ByteArray × List T) := (List.range i).map fun j => (nm j, List.replicate (nn j) (lf (bb j)))

theorem vcl_len (i : Nat) (A : Option Addr) (n C : Nat) : (vcl i A n C).length = 3 := rfl

theorem VR.isin {nn : Nat → Nat} {bb : Nat → Bool} {w : World} {i : Nat} {v : Value} {wr : World} (h : VR nn bb w i v wr) (hi : i ≤ 5) (hn : ∀ j, nn j ≤ 7) : ∃ A C, v = .slice A i C ∧ VsIn wr (vsl nn bb i) A := by
  obtain ⟨_, As, Cs, h2, h3⟩ := h
  have hlen : (vsl nn bb i).length = i := by simp [vsl]
  rcases h2.2 with ⟨rfl, e⟩ | ⟨g, cap, cur, rfl, _, hg, _, _, _, e7⟩
  · subst e
    exact ⟨none, 0, rfl, by simp [vsl], fun j hj => absurd hj (by simp [vsl])⟩
  · refine ⟨_, _, rfl, by rw [hlen]; omega, fun j hj => ?_⟩
    have hj' : j < i := by rw [hlen] at hj; exact hj
    have hv : (vsl nn bb i)[j] = (nm j, List.replicate (nn j) (lf (bb j))) := by simp [vsl]
    have hgA : At wr g cur 47 := hg
    refine ⟨g, 0, As j, Cs j, 0, rfl, ⟨hgA.lt, fun a x ha => ?_⟩, by rw [hv]; exact (h3 j hj').isin (hn j)⟩
    rw [hv] at ha
    simp only [List.length_replicate] at ha
    have h5 := fl_at (f := fun j => vcl j (As j) (nn j) (Cs j)) (c := 3) (fun i => vcl_len _ _ _ _) i j a x hj' ha
    have ha3 : a < 3 := (List.getElem?_eq_some_iff.1 ha).1
    rw [← e7, List.getElem?_take_of_lt (by omega), Array.getElem?_toList] at h5
    rw [hgA.cell, show 0 + j * 3 + a = j * 3 + a by omega]
    exact h5

/-- The most types, and whether all can be copied. -/
def mxN (nn : Nat → Nat) : Nat → Nat
  | 0 => 0
  | i + 1 => max (mxN nn i) (nn i)
def cpB (nn : Nat → Nat) (bb : Nat → Bool) : Nat → Bool
  | 0 => true
  | i + 1 => cpB nn bb i && !(bb i && decide (0 < nn i))
def smN (nn : Nat → Nat) : Nat → Nat
  | 0 => 1
  | i + 1 => smN nn i + nn i
def mvN (nn : Nat → Nat) (bb : Nat → Bool) : Nat → Nat
  | 0 => 0
  | i + 1 => mvN nn bb i + (if bb i = true then nn i else 0)

theorem lf_am (is : List It) (N : Nat) (b : Bool) (room : Nat) (h : 1 ≤ room) : am is (N + 1) (lf b) room = some ⟨1, 1, if b = true then 1 else 0⟩ := by
  cases b <;> simp [lf, am_succ, show ¬ room < 1 by omega]

theorem tog_leaf (is : List It) (N : Nat) (b : Bool) (room : Nat) : ∀ (n : Nat) (a : Am), a.p + n ≤ room → tog (am is (N + 1)) room a (List.replicate n (lf b)) = some ⟨a.p + n, a.w + n, a.m + (if b = true then n else 0)⟩
  | 0, a, _ => by cases b <;> rfl
  | n + 1, a, h => by
    rw [List.replicate_succ, tog, lf_am is N b _ (by omega)]
    simp only
    rw [tog_leaf is N b room n _ (by simp only; omega)]
    cases b <;> simp <;> omega

theorem vars_leaf (is : List It) (N : Nat) (nn : Nat → Nat) (bb : Nat → Bool) (room : Nat) : ∀ (i k : Nat), smN nn (i + k) ≤ room → vars (am is (N + 1)) room ⟨smN nn i, mxN nn i, mvN nn bb i⟩ (((List.range' i k).map fun j => (nm j, List.replicate (nn j) (lf (bb j)))).map (·.2)) = some ⟨smN nn (i + k), mxN nn (i + k), mvN nn bb (i + k)⟩ := by
  intro i k
  induction k generalizing i with
  | zero => intro _; rfl
  | succ k ih =>
    intro h
    have hle : ∀ a b, smN nn a ≤ smN nn (a + b) := by
      intro a b
      induction b with
      | zero => exact Nat.le_refl _
      | succ b ihb => rw [← Nat.add_assoc, smN]; omega
    have h1 := hle (i + 1) k
    rw [show i + 1 + k = i + (k + 1) by omega, smN] at h1
    rw [List.range'_succ, List.map_cons, List.map_cons, vars, tog_leaf is N (bb i) room (nn i) _ (by simp only; omega)]
    simp only
    have := ih (i + 1) (by rw [show i + 1 + k = i + (k + 1) by omega]; exact h)
    rw [show i + 1 + k = i + (k + 1) by omega] at this
    rw [← this]
    simp [smN, mxN, mvN]

def eit (vs : List (ByteArray × List T)) : It := .mk 3 ⟨#[69]⟩ [] vs

theorem eit_fst (vs : List (ByteArray × List T)) : fst ⟨#[69]⟩ [eit vs] 0 = some 0 := by simp [fst, eit]

theorem sm_le (nn : Nat → Nat) (hn : ∀ j, nn j ≤ 7) : ∀ i, smN nn i ≤ 1 + 7 * i
  | 0 => Nat.le_refl _
  | i + 1 => by have := sm_le nn hn i; have := hn i; rw [smN]; omega

theorem mx_le (nn : Nat → Nat) (hn : ∀ j, nn j ≤ 7) : ∀ i, mxN nn i ≤ 7
  | 0 => Nat.zero_le _
  | i + 1 => by have := mx_le nn hn i; have := hn i; rw [mxN]; omega

theorem mv_cp (nn : Nat → Nat) (bb : Nat → Bool) : ∀ i, decide (mvN nn bb i = 0) = cpB nn bb i
  | 0 => rfl
  | i + 1 => by
    rw [mvN, cpB, ← mv_cp nn bb i]
    cases bb i
    · simp
    · by_cases h : nn i = 0
      · simp [h]
      · simp [h]
        intro _
        omega

theorem enum_amt (nn : Nat → Nat) (bb : Nat → Bool) (hn : ∀ j, nn j ≤ 7) (i : Nat) (hi : i ≤ 5) : amt [eit (vsl nn bb i)] (.mk 9 ⟨#[69]⟩ 0 []) = some ⟨smN nn i, 1 + mxN nn i, mvN nn bb i⟩ := by
  have h1 := sm_le nn hn i
  have h2 := vars_leaf [eit (vsl nn bb i)] 510 nn bb 512 0 i (by rw [Nat.zero_add]; omega)
  rw [Nat.zero_add] at h2
  unfold amt
  rw [am_succ]
  simp only [show ¬ (512 < 1) by decide, if_false, show ¬ ((9 : Int) = 1) by decide, show ¬ ((2 : Int) ≤ 9 ∧ (9 : Int) ≤ 8) by decide, if_true, eit_fst]
  have e : (vsl nn bb i).map (·.2) = ((List.range' 0 i).map fun j => (nm j, List.replicate (nn j) (lf (bb j)))).map (·.2) := by rw [vsl, List.range_eq_range']
  show (if (3 : Int) = 2 then _ else (vars (am [eit (vsl nn bb i)] 511) 512 ⟨1, 0, 0⟩ ((vsl nn bb i).map (·.2))).map _) = _
  rw [if_neg (by decide), e]
  have h3 : vars (am [eit (vsl nn bb i)] 511) 512 ⟨1, 0, 0⟩ (((List.range' 0 i).map fun j => (nm j, List.replicate (nn j) (lf (bb j)))).map (·.2)) = some ⟨smN nn i, mxN nn i, mvN nn bb i⟩ := h2
  rw [h3]
  rfl

theorem enum_wrd (nn : Nat → Nat) (bb : Nat → Bool) (hn : ∀ j, nn j ≤ 7) (i : Nat) (hi : i ≤ 5) : wrd [eit (vsl nn bb i)] (.mk 9 ⟨#[69]⟩ 0 []) = some (mxN nn i + 1) := by
  have h1 := mx_le nn hn i
  unfold wrd
  rw [enum_amt nn bb hn i hi]
  simp only
  rw [if_pos (by omega), Nat.add_comm]

theorem enum_cpy (nn : Nat → Nat) (bb : Nat → Bool) (hn : ∀ j, nn j ≤ 7) (i : Nat) (hi : i ≤ 5) : cpy [eit (vsl nn bb i)] (.mk 9 ⟨#[69]⟩ 0 []) = cpB nn bb i := by
  unfold cpy
  rw [enum_amt nn bb hn i hi]
  exact mv_cp nn bb i

theorem nm_inj {i j : Nat} (hi : i < 8) (hj : j < 8) (h : nm i = nm j) : i = j := by
  have key : ∀ i, i < 8 → ∀ j, j < 8 → nm i = nm j → i = j := by decide +kernel
  exact key i hi j hj h

theorem vfd_some (nn : Nat → Nat) (bb : Nat → Bool) (i j : Nat) (hi : i ≤ 5) (hj : j < i) : vfd (nm j) (vsl nn bb i) 0 = some j := by
  have hlen : (vsl nn bb i).length = i := by simp [vsl]
  have key : ∀ d k, k + d = j → vfd (nm j) ((vsl nn bb i).drop k) k = some j := by
    intro d
    induction d with
    | zero =>
      intro k hk
      obtain rfl : k = j := by omega
      rw [vfd_drop _ _ _ (by rw [hlen]; exact hj)]
      simp [vsl]
    | succ d ih =>
      intro k hk
      rw [vfd_drop _ _ _ (by rw [hlen]; omega), if_neg (by simp only [vsl, List.getElem_map, List.getElem_range]; intro h; have := nm_inj (by omega) (by omega) h; omega)]
      exact ih (k + 1) (by omega)
  exact key j 0 (by omega)

theorem vfd_none (nn : Nat → Nat) (bb : Nat → Bool) (i : Nat) (hi : i ≤ 5) : vfd ⟨#[90]⟩ (vsl nn bb i) 0 = none := by
  have hlen : (vsl nn bb i).length = i := by simp [vsl]
  have hz : ∀ k, k < 8 → nm k ≠ ⟨#[90]⟩ := by decide +kernel
  have key : ∀ d k, k + d = i → vfd ⟨#[90]⟩ ((vsl nn bb i).drop k) k = none := by
    intro d
    induction d with
    | zero =>
      intro k hk
      rw [List.drop_eq_nil_of_le (by rw [hlen]; omega)]
      rfl
    | succ d ih =>
      intro k hk
      rw [vfd_drop _ _ _ (by rw [hlen]; omega), if_neg (by simp only [vsl, List.getElem_map, List.getElem_range]; exact hz k (by omega))]
      exact ih (k + 1) (by omega)
  exact key i 0 (by omega)

theorem leaf_copied (b : Bool) : CopiedC (lf b) := by
  have nil : CopiesC [] := copies_all [] (by simp) (fun i hi => absurd hi (Nat.not_lt_zero _))
  cases b
  · exact copied_of _ _ _ _ nil
  · exact copied_of _ _ _ _ (copies_all _ (by simp) (fun i hi => by
      match i, hi with
      | 0, _ => exact copied_of _ _ _ _ nil))

theorem leaves_copies (b : Bool) (n : Nat) (hn : n ≤ 7) : CopiesC (List.replicate n (lf b)) :=
  copies_all _ (by simp; omega) (fun i hi => by rw [List.getElem_replicate]; exact leaf_copied b)

end Go.Proofs.YtdekgebpbopfpaaDoor
