/-
  Proved: what the items that TypesRound makes hold in memory.
-/
import Derived.Test.YtdekgebpbopfpaaDoorRounds
import Derived.Laws.AppendOwn
import Derived.Laws.IdiomStrings
import Derived.Maps.AppendAt
namespace Go.Proofs.YtdekgebpbopfpaaDoor
open Go.RowKit

theorem conv1 (w : World) (b : Nat) (x : Int) (c : UInt8) (hx : x = (c.toNat : Int)) (h : w.cell? ⟨b, 0, none⟩ = some (.int .u8 x)) : (convert 45 9 (.slice (some ⟨b, 0, none⟩) 1 1)).run Tryd.prog w = .ok (.string ⟨#[c]⟩) w := by
  subst hx
  exact run_convert_bytes_back w 45 9 5 ⟨b, 0, none⟩ 1 [c] Tryd.underlying45 Tryd.underlying5 Tryd.underlying9 (fun j hj => by
    match j, hj with
    | 0, _ => simpa [Addr.add] using h)

theorem nm_byte {i : Nat} (h : i < 8) : (65 : Int) + (i : Int) = ((UInt8.ofNat (65 + i)).toNat : Int) := by
  have : (UInt8.ofNat (65 + i)).toNat = 65 + i := by
    rw [UInt8.toNat_ofNat']
    omega
  omega

theorem conv_new (w : World) (x : Int) (i : Nat) (h : i < 8) (hx : x = 65 + (i : Int)) : (convert 45 9 (.slice (some ⟨w.heap.size, 0, none⟩) 1 1)).run Tryd.prog (w.alloc (.cells #[.int .u8 x] 5)) = .ok (.string (nm i)) (w.alloc (.cells #[.int .u8 x] 5)) :=
  conv1 _ _ x _ (by rw [hx]; exact nm_byte h) (((At.new w #[.int .u8 x] 5).cell 0).trans rfl)

theorem cells_new (w : World) (cs : List Value) (t : TypeId) : ∀ j u, cs[j]? = some u → (w.alloc (.cells cs.toArray t)).cell? ((⟨w.heap.size, 0, none⟩ : Addr).add j) = some u := by
  intro j u hj
  have e : (⟨w.heap.size, 0, none⟩ : Addr).add j = ⟨w.heap.size, j, none⟩ := by unfold Addr.add; split <;> simp_all
  rw [e]
  exact ((At.new w cs.toArray t).cell j).trans (by simpa using hj)

def zr : Rst := ⟨0, 0, ⟨#[]⟩, 0, none, 0, 0, 0, 0, 0, 0, ⟨#[]⟩, none, 0, 0, none, 0, 0, 0, ⟨#[]⟩, 0, none, 0, 0⟩

/-- The cells of the second field's type. -/
def ycl (m : Nat) (boxed : Bool) (i q : Nat) : List Value :=
  if boxed = true ∧ i = 0 then [.int .i64 11, .string ⟨#[]⟩, .int .i64 0, .slice (some ⟨q, 0, none⟩) 1 1]
  else if i % 2 = 1 then [.int .i64 10, .string ⟨#[]⟩, .int .i64 2, .slice (some ⟨q, 0, none⟩) 1 1]
  else [.int .i64 9, .string (nm ((i + 1) % m)), .int .i64 0, .slice none 0 0]

def pcl (m : Nat) (boxed : Bool) (i q : Nat) : List Value :=
  [.string ⟨#[120]⟩, .bool false, .int .i64 6, .string ⟨#[]⟩, .int .i64 0, .slice none 0 0, .int .i64 0, .string ⟨#[121]⟩, .bool false] ++ ycl m boxed i q ++ [.int .i64 0]

def icl (i r : Nat) : List Value := icells 2 (nm i) (some ⟨r, 0, none⟩) 2 2 none 0 0 zr

def flt (rs : Nat → Nat) (k : Nat) : List Value := ((List.range k).map fun i => icl i (rs i)).flatten

/-- What one item has besides its own cells. -/
def Has (m : Nat) (boxed : Bool) (i r q : Nat) (wr : World) : Prop :=
  At wr r (pcl m boxed i q).toArray 40 ∧ At wr q #[.int .i64 9, .string (nm ((i + 1) % m)), .int .i64 0, .slice none 0 0] 25

/-- What holds behind k rounds. -/
def RI (m : Nat) (boxed : Bool) (w : World) (k : Nat) (v : Value) (wr : World) : Prop :=
  Below w.heap.size w wr ∧ ∃ rs qs : Nat → Nat, wr.ownsRow w.heap.size 38 20 v k (flt rs k) ∧ ∀ i, i < k → Has m boxed i (rs i) (qs i) wr

theorem flt_succ (rs : Nat → Nat) (k r : Nat) : flt (fun i => if i = k then r else rs i) (k + 1) = flt rs k ++ icl k r := by
  unfold flt
  rw [List.range_succ, List.map_append, List.flatten_append]
  congr 1
  · congr 1
    apply List.map_congr_left
    intro i hi
    have : i < k := List.mem_range.1 hi
    show icl i (if i = k then r else rs i) = _
    rw [if_neg (by omega)]
  · simp

theorem icl_len (i r : Nat) : (icl i r).length = 20 := rfl

theorem flt_len (rs : Nat → Nat) : ∀ k, (flt rs k).length = k * 20
  | 0 => rfl
  | k + 1 => by
    unfold flt
    rw [List.range_succ, List.map_append, List.flatten_append, List.length_append]
    have := flt_len rs k
    unfold flt at this
    rw [this]
    simp [icl_len]
    omega

theorem flt_at (rs : Nat → Nat) : ∀ (k i j : Nat) (v : Value), i < k → (icl i (rs i))[j]? = some v → (flt rs k)[i * 20 + j]? = some v
  | 0, _, _, _, h, _ => absurd h (Nat.not_lt_zero _)
  | k + 1, i, j, v, h, hv => by
    have hj : j < 20 := by
      have := (List.getElem?_eq_some_iff.1 hv).1
      rw [icl_len] at this
      exact this
    have e : flt rs (k + 1) = flt rs k ++ icl k (rs k) := by
      unfold flt
      rw [List.range_succ, List.map_append, List.flatten_append]
      simp
    rw [e]
    by_cases hi : i < k
    · rw [List.getElem?_append_left (by rw [flt_len]; omega)]
      exact flt_at rs k i j v hi hv
    · obtain rfl : i = k := by omega
      rw [List.getElem?_append_right (by rw [flt_len]; omega), flt_len]
      rw [show i * 20 + j - i * 20 = j by omega]
      exact hv

theorem row_at {w : World} {B : Nat} {cs : List Value} {t : TypeId} (h : At w B cs.toArray t) (o : Nat) : RowAt w B o (cs.drop o) :=
  ⟨h.lt, fun j v hj => by
    rw [List.getElem?_drop] at hj
    exact (h.cell (o + j)).trans (by simpa using hj)⟩

theorem named_in (w : World) (s : ByteArray) : TIn w (.mk 9 s 0 []) [.int .i64 9, .string s, .int .i64 0, .slice none 0 0] :=
  TIn.of (es := []) (A := none) (C := 0) ⟨by simp, fun i hi => absurd hi (Nat.not_lt_zero _)⟩

theorem one_in {w : World} {q : Nat} {k n : Int} {s : ByteArray} (h : At w q #[.int .i64 9, .string s, .int .i64 0, .slice none 0 0] 25) : TIn w (.mk k ⟨#[]⟩ n [.mk 9 s 0 []]) [.int .i64 k, .string ⟨#[]⟩, .int .i64 n, .slice (some ⟨q, 0, none⟩) 1 1] :=
  TIn.of (es := [.mk 9 s 0 []]) (A := some ⟨q, 0, none⟩) (C := 1) ⟨by simp, fun i hi => by
    match i, hi with
    | 0, _ => exact ⟨q, 0, _, rfl, row_at (cs := [.int .i64 9, .string s, .int .i64 0, .slice none 0 0]) h 0, named_in w s⟩⟩

theorem y_in {m : Nat} {boxed : Bool} {i q : Nat} {w : World} (h : At w q #[.int .i64 9, .string (nm ((i + 1) % m)), .int .i64 0, .slice none 0 0] 25) : TIn w (yT m boxed i) (ycl m boxed i q) := by
  unfold yT ycl
  split
  · exact one_in h
  · split
    · exact one_in h
    · exact named_in w _

theorem ps_in {m : Nat} {boxed : Bool} {i r q : Nat} {w : World} (h : Has m boxed i r q w) : PsIn w (itm m boxed i).ps (some ⟨r, 0, none⟩) := by
  refine ⟨by simp [itm], fun j hj => ?_⟩
  match j, hj with
  | 0, _ =>
    refine ⟨r, 0, false, 0, [.int .i64 6, .string ⟨#[]⟩, .int .i64 0, .slice none 0 0], rfl, ⟨h.1.lt, fun a v ha => ?_⟩, TIn.of (es := []) (A := none) (C := 0) ⟨by simp, fun i hi => absurd hi (Nat.not_lt_zero _)⟩⟩
    have e : (pcl m boxed i q)[a]? = some v := by
      have hal : a < 7 := (List.getElem?_eq_some_iff.1 ha).1
      have : a = 0 ∨ a = 1 ∨ a = 2 ∨ a = 3 ∨ a = 4 ∨ a = 5 ∨ a = 6 := by omega
      rcases this with rfl | rfl | rfl | rfl | rfl | rfl | rfl <;> exact ha
    refine (h.1.cell (0 + 0 * 7 + a)).trans ?_
    simpa using e
  | 1, _ =>
    refine ⟨r, 0, false, 0, ycl m boxed i q, rfl, ⟨h.1.lt, fun a v ha => ?_⟩, y_in h.2⟩
    have e : (pcl m boxed i q)[7 + a]? = some v := by
      have : (pcl m boxed i q).drop 7 = [.string ⟨#[121]⟩, .bool false] ++ ycl m boxed i q ++ [.int .i64 0] := rfl
      rw [← List.getElem?_drop, this]
      exact ha
    refine (h.1.cell (0 + 1 * 7 + a)).trans ?_
    simpa using e

theorem RI.isin {m : Nat} {boxed : Bool} {w : World} {v : Value} {wr : World} (h : RI m boxed w m v wr) (hm : 1 ≤ m) (hm8 : m ≤ 8) : ∃ g cap, v = .slice (some ⟨g, 0, none⟩) (its m boxed).length cap ∧ IsIn wr (its m boxed) (some ⟨g, 0, none⟩) := by
  obtain ⟨_, rs, qs, ho, hh⟩ := h
  rcases ho.2 with ⟨rfl, h2⟩ | ⟨g, cap, cur, rfl, _, hg, _, _, _, e7⟩
  · omega
  · refine ⟨g, cap, by simp [its], by simp [its]; omega, fun i hi => ?_⟩
    have hi' : i < m := by simpa [its] using hi
    have hitm : (its m boxed)[i] = itm m boxed i := by simp [its]
    refine ⟨g, 0, some ⟨rs i, 0, none⟩, 2, none, 0, zr, rfl, ?_, ?_, ?_⟩
    · rw [hitm]
      refine ⟨(Array.getElem?_eq_some_iff.1 hg).1, fun j x hx => ?_⟩
      have h1 := flt_at rs m i j x hi' hx
      rw [← e7] at h1
      have hj : j < 20 := (List.getElem?_eq_some_iff.1 hx).1
      rw [List.getElem?_take_of_lt (by omega), Array.getElem?_toList] at h1
      have : At wr g cur 38 := hg
      rw [this.cell]
      rw [show 0 + i * 20 + j = i * 20 + j by omega]
      exact h1
    · rw [hitm]; exact ps_in (hh i hi')
    · rw [hitm]; exact ⟨by simp [itm], fun j hj => absurd hj (Nat.not_lt_zero _)⟩

theorem At.append {W W' : World} {B : Nat} {cs : Array Value} {t e : TypeId} {base size n : Nat} {v : Value} {xs : List Value} (h : At W B cs t) (ht : t ≠ e) (ho : W.ownsRow base e size v n xs) (hg : W.grownBy W' v.ownBlock) : At W' B cs t := by
  refine (hg.block B h.lt (fun he => ?_)).trans h
  rcases ho.2 with ⟨rfl, _⟩ | ⟨g, cap, cur, rfl, _, hgg, _⟩
  · cases he
  · have : B = g := by simpa [Value.ownBlock] using he
    subst this
    have h1 := (show W.heap[B]? = _ from h).symm.trans hgg
    simp at h1
    exact ht h1.2

theorem own_block {w : World} {base : Nat} {e : TypeId} {size : Nat} {v : Value} {n : Nat} {xs : List Value} (h : w.ownsRow base e size v n xs) {k : Nat} (hk : v.ownBlock = some k) : base ≤ k := by
  rcases h.2 with ⟨rfl, _⟩ | ⟨g, cap, cur, rfl, hg, _⟩
  · cases hk
  · cases hk; exact hg

theorem owns_below {w wr wz : World} {k : Nat} {v : Value} {xs : List Value} {e : TypeId} {size : Nat} (h2 : wr.ownsRow w.heap.size e size v k xs) (hz : Below wr.heap.size wr wz) : wz.ownsRow w.heap.size e size v k xs := by
  refine ⟨h2.1, ?_⟩
  rcases h2.2 with h4 | ⟨g, cap, cur, e1, e2, e3, e4⟩
  · exact Or.inl h4
  · exact Or.inr ⟨g, cap, cur, e1, e2, (hz.block g (Array.getElem?_eq_some_iff.1 e3).1).trans e3, e4⟩

/-- One round more. -/
theorem RI.step {m : Nat} {boxed : Bool} {w : World} {k : Nat} {v v' : Value} {wr wz w5 : World} {rs qs : Nat → Nat} (h1 : Below w.heap.size w wr) (h2 : wr.ownsRow w.heap.size 38 20 v k (flt rs k)) (h3 : ∀ i, i < k → Has m boxed i (rs i) (qs i) wr) (hz : Below wr.heap.size wr wz) {r q : Nat} (hh : Has m boxed k r q wz)
    (ho : w5.ownsRow w.heap.size 38 20 v' (k + 1) (flt rs k ++ icl k r)) (hg : wz.grownBy w5 v.ownBlock) : RI m boxed w (k + 1) v' w5 := by
  have h2' := owns_below h2 hz
  refine ⟨(h1.trans (hz.mono h1.size)).grown hg (Nat.le_trans h1.size hz.size) (fun g e => own_block h2' e), fun i => if i = k then r else rs i, fun i => if i = k then q else qs i, by rw [flt_succ]; exact ho, fun i hi => ?_⟩
  by_cases hik : i = k
  · subst hik
    simp only [if_true]
    exact ⟨hh.1.append (by decide) h2' hg, hh.2.append (by decide) h2' hg⟩
  · simp only [if_neg hik]
    have h4 := h3 i (by omega)
    exact ⟨(h4.1.below hz h4.1.lt).append (by decide) h2' hg, (h4.2.below hz h4.2.lt).append (by decide) h2' hg⟩

theorem and_mask (v : Int) (n : Nat) (hn : n ≤ 62) : bits .and .i64 v (2 ^ n - 1 : Int) = v % 2 ^ n := by
  have hp : (2 : Nat) ^ n < 2 ^ 63 := Nat.pow_lt_pow_right (by decide) (by omega)
  have hp0 : 0 < (2 : Nat) ^ n := Nat.pow_pos (by decide)
  have hc : ((2 : Int) ^ n - 1) = ((2 ^ n - 1 : Nat) : Int) := by
    rw [Int.natCast_sub (by omega)]; simp
  show IntKind.i64.wrap ((BitVec.ofInt 64 v &&& BitVec.ofInt 64 (2 ^ n - 1 : Int)).toNat : Int) = _
  have hb : (BitVec.ofInt 64 (2 ^ n - 1 : Int)).toNat = 2 ^ n - 1 := by
    rw [hc, BitVec.ofInt_natCast, BitVec.toNat_ofNat]; exact Nat.mod_eq_of_lt (by omega)
  have ha : ((BitVec.ofInt 64 v).toNat : Int) = v % 18446744073709551616 := by
    rw [BitVec.toNat_ofInt]
    have : 0 ≤ v % ((2 ^ 64 : Nat) : Int) := Int.emod_nonneg _ (by decide)
    rw [Int.toNat_of_nonneg this]; rfl
  rw [BitVec.toNat_and, hb, Nat.and_two_pow_sub_one_eq_mod]
  have e : (((BitVec.ofInt 64 v).toNat % 2 ^ n : Nat) : Int) = v % 2 ^ n := by
    rw [Int.natCast_emod, ha]
    have hd : ((2 : Int) ^ n) ∣ 18446744073709551616 := ⟨2 ^ (64 - n), by rw [← Int.pow_add, show n + (64 - n) = 64 by omega]; rfl⟩
    have : (((2 : Nat) ^ n : Nat) : Int) = (2 : Int) ^ n := by simp
    rw [this, Int.emod_emod_of_dvd v hd]
  rw [e]
  have h0 : 0 ≤ v % (2 : Int) ^ n := Int.emod_nonneg _ (by have : (0 : Int) < 2 ^ n := Int.pow_pos (by decide); omega)
  have h1 : v % (2 : Int) ^ n < 2 ^ n := Int.emod_lt_of_pos _ (Int.pow_pos (by decide))
  have h2 : (2 : Int) ^ n < 9223372036854775808 := by
    have : (((2 : Nat) ^ n : Nat) : Int) = (2 : Int) ^ n := by simp
    omega
  simp only [IntKind.wrap, IntKind.bits, IntKind.signed]
  simp
  omega

theorem and7 (v : Int) : bits .and .i64 v 7 = v % 8 := and_mask v 3 (by decide)

theorem conv_two (w : World) (a b : Obj) (x : Int) (i : Nat) (h : i < 8) (hx : x = 65 + (i : Int)) : (convert 45 9 (.slice (some ⟨w.heap.size + 1 + 1, 0, none⟩) 1 1)).run Tryd.prog (((w.alloc a).alloc b).alloc (.cells #[.int .u8 x] 5)) = .ok (.string (nm i)) (((w.alloc a).alloc b).alloc (.cells #[.int .u8 x] 5)) := by
  have := conv_new ((w.alloc a).alloc b) x i h hx
  simpa using this

theorem conv_three (w : World) (a b c : Obj) (x : Int) (i : Nat) (h : i < 8) (hx : x = 65 + (i : Int)) : (convert 45 9 (.slice (some ⟨w.heap.size + 1 + 1 + 1, 0, none⟩) 1 1)).run Tryd.prog ((((w.alloc a).alloc b).alloc c).alloc (.cells #[.int .u8 x] 5)) = .ok (.string (nm i)) ((((w.alloc a).alloc b).alloc c).alloc (.cells #[.int .u8 x] 5)) := by
  have := conv_new (((w.alloc a).alloc b).alloc c) x i h hx
  simpa using this

theorem info38 : (Tryd.prog.info? 38).map (fun i => (i.zero, i.size, i.bytes)) = some (some (.agg (icells 0 ⟨#[]⟩ none 0 0 none 0 0 zr).toArray), 20, 288) := by kernel_rfl

theorem chain5 (w : World) (a b c d e : Obj) : Below w.heap.size w (((((w.alloc a).alloc b).alloc c).alloc d).alloc e) := below_next (three_alloc _ _ _ _) (two_alloc _ _ _)
theorem chain6 (w : World) (a b c d e f : Obj) : Below w.heap.size w ((((((w.alloc a).alloc b).alloc c).alloc d).alloc e).alloc f) := below_next (three_alloc _ _ _ _) (three_alloc _ _ _ _)

theorem at5 (w : World) (o1 o3 o5 : Obj) (c2 c4 : Array Value) (t2 t4 : TypeId) : At (((((w.alloc o1).alloc (.cells c2 t2)).alloc o3).alloc (.cells c4 t4)).alloc o5) (w.heap.size + 1) c2 t2 ∧ At (((((w.alloc o1).alloc (.cells c2 t2)).alloc o3).alloc (.cells c4 t4)).alloc o5) (w.heap.size + 1 + 1 + 1) c4 t4 := by
  refine ⟨?_, ?_⟩
  · have := (((At.new (w.alloc o1) c2 t2).alloc o3).alloc (.cells c4 t4)).alloc o5
    simpa using this
  · have := (At.new (((w.alloc o1).alloc (.cells c2 t2)).alloc o3) c4 t4).alloc o5
    simpa using this

theorem at6 (w : World) (o1 o2 o4 o6 : Obj) (c3 c5 : Array Value) (t3 t5 : TypeId) : At ((((((w.alloc o1).alloc o2).alloc (.cells c3 t3)).alloc o4).alloc (.cells c5 t5)).alloc o6) (w.heap.size + 1 + 1) c3 t3 ∧ At ((((((w.alloc o1).alloc o2).alloc (.cells c3 t3)).alloc o4).alloc (.cells c5 t5)).alloc o6) (w.heap.size + 1 + 1 + 1 + 1) c5 t5 := by
  refine ⟨?_, ?_⟩
  · have := (((At.new ((w.alloc o1).alloc o2) c3 t3).alloc o4).alloc (.cells c5 t5)).alloc o6
    simpa using this
  · have := (At.new ((((w.alloc o1).alloc o2).alloc (.cells c3 t3)).alloc o4) c5 t5).alloc o6
    simpa using this

theorem news5 (w : World) (a b c d : Obj) (cs : List Value) (t : TypeId) : ∀ j u, cs[j]? = some u → (((((w.alloc a).alloc b).alloc c).alloc d).alloc (.cells cs.toArray t)).cell? ((⟨w.heap.size + 1 + 1 + 1 + 1, 0, none⟩ : Addr).add j) = some u := by
  have := cells_new ((((w.alloc a).alloc b).alloc c).alloc d) cs t
  simpa using this

theorem news6 (w : World) (a b c d e : Obj) (cs : List Value) (t : TypeId) : ∀ j u, cs[j]? = some u → ((((((w.alloc a).alloc b).alloc c).alloc d).alloc e).alloc (.cells cs.toArray t)).cell? ((⟨w.heap.size + 1 + 1 + 1 + 1 + 1, 0, none⟩ : Addr).add j) = some u := by
  have := cells_new (((((w.alloc a).alloc b).alloc c).alloc d).alloc e) cs t
  simpa using this

theorem icl_one (i r : Nat) : ∀ u ∈ icl i r, u.oneCell' = true := by
  intro u hu
  simp only [icl, icells, List.mem_cons, List.not_mem_nil, or_false] at hu
  rcases hu with rfl | rfl | rfl | rfl | rfl | rfl | rfl | rfl | rfl | rfl | rfl | rfl | rfl | rfl | rfl | rfl | rfl | rfl | rfl | rfl <;> rfl

theorem room8 {k : Nat} (h : k < 8) : k + 1 ≤ maxLen ∧ (k + 1) * 288 ≤ 140737488355328 := by
  unfold maxLen
  omega

end Go.Proofs.YtdekgebpbopfpaaDoor
