/-
  Proved: what the document tells of instructions and words, as functions; what the program's table and forms have to do with it. Plain facts.
-/
import Derived.Test.YtcdeckbobabdkaaItakes
import Derived.Test.YtcdeckbobabdkaaImap
import Derived.Test.YtcdeckbobabdkaaIglue
import Derived.Test.YtcdeckbobabdkaaIread
namespace Go.Proofs.Ytcdeckbobabdkaa
open Go.RowKit
set_option linter.unusedVariables false

/-- A row is of the table. -/
def Rok (r : Rw) : Prop := Fit r ∧ (7 ≤ r.fm → r.op = 115 ∧ r.f3 = 0) ∧ (r.fm ≠ 3 → r.fm ≠ 6 → r.f7 = 0)
def rokB (r : Rw) : Bool := fitB r && (decide (r.fm < 7) || r.f3 == 0) && (r.fm == 3 || r.fm == 6 || r.f7 == 0)
theorem rok_all : insT.all (fun x => rokB x.2) = true := by decide +kernel
theorem rokB_rok {r : Rw} (h : rokB r = true) : Rok r := by
  simp only [rokB, Bool.and_eq_true, Bool.or_eq_true, decide_eq_true_eq, beq_iff_eq] at h
  obtain ⟨⟨h1, h2⟩, h3⟩ := h
  have h4 := fitB_fit h1
  refine ⟨h4.1, fun h => ⟨h4.2 h, by omega⟩, fun a b => ?_⟩
  rcases h3 with (h3 | h3) | h3
  · exact (a h3).elim
  · exact (b h3).elim
  · exact h3
theorem rok {a : Nat} {x : List UInt8 × Rw} (h : insT[a]? = some x) : Rok x.2 := rokB_rok (List.all_eq_true.1 rok_all x (List.mem_of_getElem? h))

theorem fm_cases {r : Rw} (h : Rok r) : r.fm = 0 ∨ r.fm = 1 ∨ r.fm = 2 ∨ r.fm = 3 ∨ r.fm = 4 ∨ r.fm = 5 ∨ r.fm = 6 ∨ r.fm = 7 ∨ r.fm = 8 := by
  have := h.1.2.2.2.2
  omega

def takB (r : Rw) (i : Ins) : Bool := takI (fdat (pfm r)) i

theorem tmod_two (n : Int) : n.tmod 2 = 0 ↔ n % 2 = 0 := by
  rcases Int.le_total 0 n with h | h
  · rw [Int.tmod_eq_emod_of_nonneg h]
  · have h1 := Int.neg_tmod n 2
    rw [Int.tmod_eq_emod_of_nonneg (by omega)] at h1
    omega
theorem tmod_one (n : Int) : n.tmod 1 = 0 := Int.tmod_one n

theorem takB_iff {r : Rw} (h : Rok r) (i : Ins) : takB r i = true ↔ tk r i := by
  have hc := fm_cases h
  obtain ⟨fm, op, f3, f7⟩ := r
  obtain ⟨rd, r1, r2, im⟩ := i
  simp only at hc
  have t2 := tmod_two im
  have t1 := tmod_one im
  rcases hc with rfl | rfl | rfl | rfl | rfl | rfl | rfl | rfl | rfl <;>
    simp [takB, takI, pfm, fdat, fdU, fdJ, fdI, fdH, fdB, fdS, fdR, fdE, regB, immB, tk, regs, t1, t2] <;> omega

/-- The row of a name. -/
def rowOf (s : List UInt8) : Option Rw := (insT.find? fun x => decide (x.1 = s)).map (·.2)

theorem rowOf_at {s : List UInt8} {r : Rw} (h : rowOf s = some r) : ∃ a : Nat, insT[a]? = some (s, r) := by
  unfold rowOf at h
  cases e : insT.find? fun x => decide (x.1 = s) with
  | none => rw [e] at h; cases h
  | some x =>
    rw [e] at h
    have h1 : x.2 = r := Option.some.inj h
    have h2 := List.find?_some e
    simp only [decide_eq_true_eq] at h2
    obtain ⟨a, ha⟩ := List.getElem?_of_mem (List.mem_of_find?_eq_some e)
    exact ⟨a, by rw [ha, ← h1, ← h2]⟩

theorem rowOf_of {s : List UInt8} {r : Rw} {a : Nat} (h : insT[a]? = some (s, r)) : rowOf s = some r := by
  cases e : rowOf s with
  | none =>
    unfold rowOf at e
    rw [Option.map_eq_none_iff, List.find?_eq_none] at e
    have := e (s, r) (List.mem_of_getElem? h)
    simp at this
  | some q =>
    obtain ⟨b, hb⟩ := rowOf_at e
    rcases Nat.decEq a b with hab | hab
    · exact absurd rfl (insT_two h hb hab).2
    · subst hab
      rw [h] at hb
      have := Option.some.inj hb
      exact congrArg some (congrArg Prod.snd this).symm

theorem mkF_is : ∀ k, k ≤ 47 → ∀ s, mkF (insT.take k) s = ((insT.take k).find? fun x => decide (x.1 = s)).map fun x => Value.agg (numV x.2).toArray := by
  intro k
  induction k with
  | zero => intro _ s; rfl
  | succ k ih =>
    intro hk s
    have hk' : k < insT.length := hk
    obtain ⟨x, hx⟩ : ∃ x, insT[k]? = some x := ⟨insT[k], List.getElem?_eq_getElem hk'⟩
    rw [mkF_step insT k x hx, List.take_add_one, hx, List.find?_append]
    unfold updV
    by_cases e : s = x.1
    · rw [if_pos e]
      have hn : (insT.take k).find? (fun x => decide (x.1 = s)) = none := by
        rw [List.find?_eq_none]
        intro y hy
        obtain ⟨j, hj⟩ := List.getElem?_of_mem hy
        rw [List.getElem?_take] at hj
        split at hj
        · rename_i hjk
          have := (insT_two hj hx (by omega)).2
          simp only [decide_eq_true_eq]
          intro h
          exact this (h.trans e)
        · cases hj
      rw [hn]
      simp [e]
    · rw [if_neg e, ih (by omega) s]
      cases (insT.take k).find? fun x => decide (x.1 = s) with
      | some y => simp
      | none =>
        have : ¬ x.1 = s := fun h => e h.symm
        simp [this]

theorem mkF_row (s : List UInt8) : mkF insT s = (rowOf s).map fun r => Value.agg (numV r).toArray := by
  have h := mkF_is 47 (Nat.le_refl _) s
  have e : insT.take 47 = insT := rfl
  rw [e] at h
  rw [h, rowOf, Option.map_map]
  rfl

/-- An instruction's word, if it is one. -/
def encF (s : List UInt8) (i : Ins) : Option Int :=
  match rowOf s with
  | some r => if takB r i then some (wo r i) else none
  | none => none

def fxB (r : Rw) (w : Int) : Bool :=
  match r.fm with
  | 0 => decide (w % 128 = r.op)
  | 1 => decide (w % 128 = r.op)
  | 2 => decide (w % 128 = r.op) && decide (w / 4096 % 8 = r.f3)
  | 3 => decide (w % 128 = r.op) && (decide (w / 4096 % 8 = r.f3) && decide (w / 33554432 % 128 = r.f7))
  | 4 => decide (w % 128 = r.op) && decide (w / 4096 % 8 = r.f3)
  | 5 => decide (w % 128 = r.op) && decide (w / 4096 % 8 = r.f3)
  | 6 => decide (w % 128 = r.op) && (decide (w / 4096 % 8 = r.f3) && decide (w / 33554432 % 128 = r.f7))
  | 7 => decide (w = 115)
  | _ => decide (w = 1048691)

theorem fxB_iff {r : Rw} (h : Rok r) (w : Int) : fxB r w = true ↔ fx r w := by
  have hc := fm_cases h
  obtain ⟨fm, op, f3, f7⟩ := r
  simp only at hc
  rcases hc with rfl | rfl | rfl | rfl | rfl | rfl | rfl | rfl | rfl <;> simp [fxB, fx]

/-- A word's instruction, if there is one. -/
def decF (w : Int) : Option (List UInt8 × Ins) := (insT.find? fun x => fxB x.2 w).map fun x => (x.1, fo x.2 w)

/-- The word is told by the program's bits. -/
theorem word_is {r : Rw} (h : Rok r) (i : Ins) (ht : tk r i) :
    bits .or .u32 (bits .or .u32 (nbI (pop r) r.f3 r.f7) (rgI i.rd i.r1 i.r2)) (orB i.im (cutP (fdat (pfm r)).fi (fdat (pfm r)).la)) = wo r i := by
  have hc := fm_cases h
  obtain ⟨⟨o, a, b, z, _⟩, p, q⟩ := h
  obtain ⟨fm, op, f3, f7⟩ := r
  obtain ⟨rd, r1, r2, im⟩ := i
  simp only at hc o a b z p q
  obtain ⟨⟨d, e, f⟩, ht⟩ := ht
  simp only at d e f ht
  rcases hc with rfl | rfl | rfl | rfl | rfl | rfl | rfl | rfl | rfl
  · have q0 := q (by decide) (by decide)
    show bits .or .u32 (bits .or .u32 (nbI op f3 f7) (rgI rd r1 r2)) (orB im (cutP 0 1)) = op + f3 * 4096 + rd * 128 + im * 4096
    rw [enc_0 op f3 f7 rd r1 r2 im o a b ⟨d.1, by omega⟩ ⟨e.1, by omega⟩ ⟨f.1, by omega⟩ ht.1 ht.2.1 (z (by decide)) q0]
    unfold bt
    rw [Int.ediv_one]
    have := z (by decide)
    obtain ⟨h1, h2, h3, h4⟩ := ht
    omega
  · have q0 := q (by decide) (by decide)
    have := z (by decide)
    show bits .or .u32 (bits .or .u32 (nbI op f3 f7) (rgI rd r1 r2)) (orB im (cutP 1 5)) = op + f3 * 4096 + rd * 128 + bt im 4096 256 * 4096 + bt im 2048 2 * 1048576 + bt im 2 1024 * 2097152 + bt im 1048576 2 * 2147483648
    rw [enc_1 op f3 f7 rd r1 r2 im o a b ⟨d.1, by omega⟩ ⟨e.1, by omega⟩ ⟨f.1, by omega⟩ ht.1 ht.2.1 (z (by decide)) q0]
    omega
  · have q0 := q (by decide) (by decide)
    show bits .or .u32 (bits .or .u32 (nbI op f3 f7) (rgI rd r1 r2)) (orB im (cutP 5 6)) = op + f3 * 4096 + rd * 128 + r1 * 32768 + bt im 1 4096 * 1048576
    rw [enc_2 op f3 f7 rd r1 r2 im o a b ⟨d.1, by omega⟩ ⟨e.1, by omega⟩ ⟨f.1, by omega⟩ ht.1 q0]
  · show bits .or .u32 (bits .or .u32 (nbI op f3 f7) (rgI rd r1 r2)) (orB im (cutP 6 7)) = op + f3 * 4096 + rd * 128 + r1 * 32768 + im * 1048576 + f7 * 33554432
    rw [enc_3 op f3 f7 rd r1 r2 im o a b ⟨d.1, by omega⟩ ⟨e.1, by omega⟩ ⟨f.1, by omega⟩ ht.1]
    unfold bt
    rw [Int.ediv_one]
    obtain ⟨h1, h2, h3⟩ := ht
    omega
  · have q0 := q (by decide) (by decide)
    show bits .or .u32 (bits .or .u32 (nbI op f3 f7) (rgI rd r1 r2)) (orB im (cutP 7 11)) = op + f3 * 4096 + r1 * 32768 + r2 * 1048576 + bt im 2048 2 * 128 + bt im 2 16 * 256 + bt im 32 64 * 33554432 + bt im 4096 2 * 2147483648
    rw [enc_4 op f3 f7 rd r1 r2 im o a b ⟨d.1, by omega⟩ ⟨e.1, by omega⟩ ⟨f.1, by omega⟩ ht.1 q0]
    omega
  · have q0 := q (by decide) (by decide)
    show bits .or .u32 (bits .or .u32 (nbI op f3 f7) (rgI rd r1 r2)) (orB im (cutP 11 13)) = op + f3 * 4096 + r1 * 32768 + r2 * 1048576 + bt im 1 32 * 128 + bt im 32 128 * 33554432
    rw [enc_5 op f3 f7 rd r1 r2 im o a b ⟨d.1, by omega⟩ ⟨e.1, by omega⟩ ⟨f.1, by omega⟩ ht.1 q0]
    omega
  · show bits .or .u32 (bits .or .u32 (nbI op f3 f7) (rgI rd r1 r2)) (orB im (cutP 0 0)) = op + f3 * 4096 + rd * 128 + r1 * 32768 + r2 * 1048576 + f7 * 33554432
    rw [enc_6 op f3 f7 rd r1 r2 im o a b ⟨d.1, by omega⟩ ⟨e.1, by omega⟩ ⟨f.1, by omega⟩]
    omega
  · have q0 := q (by decide) (by decide)
    have p0 := p (by decide)
    show bits .or .u32 (bits .or .u32 (nbI op f3 f7) (rgI rd r1 r2)) (orB im (cutP 0 0)) = 115
    rw [enc_7 op f3 f7 rd r1 r2 im (Or.inl o) a b ⟨d.1, by omega⟩ ⟨e.1, by omega⟩ ⟨f.1, by omega⟩ ht.1 ht.2.1 ht.2.2.1 p0.2 q0, p0.1]
  · have q0 := q (by decide) (by decide)
    have p0 := p (by decide)
    show bits .or .u32 (bits .or .u32 (nbI 1048691 f3 f7) (rgI rd r1 r2)) (orB im (cutP 0 0)) = 1048691
    rw [enc_7 1048691 f3 f7 rd r1 r2 im (Or.inr rfl) a b ⟨d.1, by omega⟩ ⟨e.1, by omega⟩ ⟨f.1, by omega⟩ ht.1 ht.2.1 ht.2.2.1 p0.2 q0]
end Go.Proofs.Ytcdeckbobabdkaa
