/-
  Proved: words of instructions that differ in one register alone differ in its bits alone. Plain facts.
-/
import Derived.Test.YtiiebppcamaliaaIopen
namespace Go.Proofs.Ytiiebppcamaliaa
open Go.RowKit
set_option linter.unusedVariables false

theorem field_bit (a p k j : Nat) (hj : ¬ (k ≤ j ∧ j < k + 5)) (hp : p < 32) (ha : a / 2 ^ k % 32 = 0) : (a + p * 2 ^ k).testBit j = a.testBit j := by
  rw [← nat_or_field a k 5 p ha hp, Nat.testBit_or, Nat.testBit_mul_two_pow]
  by_cases h1 : k ≤ j
  · have h2 : p.testBit (j - k) = false := Nat.testBit_lt_two_pow (Nat.lt_of_lt_of_le hp (Nat.pow_le_pow_right (n := 2) (i := 5) (by decide) (by omega)))
    simp [h2]
  · simp [h1]

theorem mask_bit (k j : Nat) (h1 : k ≤ j) (h2 : j < k + 5) : (31 * 2 ^ k).testBit j = true := by
  rw [Nat.testBit_mul_two_pow]
  obtain ⟨d, rfl⟩ : ∃ d, j = k + d := ⟨j - k, by omega⟩
  have hd : d = 0 ∨ d = 1 ∨ d = 2 ∨ d = 3 ∨ d = 4 := by omega
  rw [Nat.add_sub_cancel_left]
  rcases hd with rfl | rfl | rfl | rfl | rfl <;> simp <;> decide

/-- All bits but a register's are the same. -/
theorem xor_field (a p q k : Nat) (hk : k + 5 ≤ 32) (ha0 : a < 4294967296) (ha : a / 2 ^ k % 32 = 0) (hp : p < 32) (hq : q < 32) (b1 : a + p * 2 ^ k < 4294967296) (b2 : a + q * 2 ^ k < 4294967296) :
    bits .andNot .u32 (bits .xor .u32 ((a + p * 2 ^ k : Nat) : Int) ((a + q * 2 ^ k : Nat) : Int)) ((31 * 2 ^ k : Nat) : Int) = 0 := by
  have hx : bits .xor .u32 ((a + p * 2 ^ k : Nat) : Int) ((a + q * 2 ^ k : Nat) : Int) = (((a + p * 2 ^ k) ^^^ (a + q * 2 ^ k) : Nat) : Int) := by
    have hc : (a + p * 2 ^ k) ^^^ (a + q * 2 ^ k) < 2 ^ 32 := Nat.xor_lt_two_pow b1 b2
    show IntKind.u32.wrap ((BitVec.ofInt 32 ((a + p * 2 ^ k : Nat) : Int) ^^^ BitVec.ofInt 32 ((a + q * 2 ^ k : Nat) : Int)).toNat : Int) = _
    rw [BitVec.toNat_xor, BitVec.ofInt_natCast, BitVec.ofInt_natCast, BitVec.toNat_ofNat, BitVec.toNat_ofNat, Nat.mod_eq_of_lt b1, Nat.mod_eq_of_lt b2]
    simp only [IntKind.wrap, IntKind.bits, IntKind.signed]
    simp
    omega
  rw [hx]
  have hc : (a + p * 2 ^ k) ^^^ (a + q * 2 ^ k) < 2 ^ 32 := Nat.xor_lt_two_pow b1 b2
  show IntKind.u32.wrap ((BitVec.ofInt 32 (((a + p * 2 ^ k) ^^^ (a + q * 2 ^ k) : Nat) : Int) &&& ~~~ BitVec.ofInt 32 ((31 * 2 ^ k : Nat) : Int)).toNat : Int) = _
  have hz : BitVec.ofInt 32 (((a + p * 2 ^ k) ^^^ (a + q * 2 ^ k) : Nat) : Int) &&& ~~~ BitVec.ofInt 32 ((31 * 2 ^ k : Nat) : Int) = 0#32 := by
    rw [BitVec.ofInt_natCast, BitVec.ofInt_natCast]
    apply BitVec.eq_of_getLsbD_eq
    intro j hj
    rw [BitVec.getLsbD_and, BitVec.getLsbD_not, BitVec.getLsbD_ofNat, BitVec.getLsbD_ofNat, Nat.testBit_xor]
    by_cases h : k ≤ j ∧ j < k + 5
    · rw [mask_bit k j h.1 h.2]
      simp [hj]
    · rw [field_bit a p k j h hp ha, field_bit a q k j h hq ha]
      simp
  rw [hz]
  rfl

theorem xor_int (a p q M : Int) (k : Nat) (hk : k + 5 ≤ 32) (a0 : 0 ≤ a) (a1 : a < 4294967296) (ha : a / 2 ^ k % 32 = 0) (hp : 0 ≤ p ∧ p < 32) (hq : 0 ≤ q ∧ q < 32) (b1 : a + p * 2 ^ k < 4294967296) (b2 : a + q * 2 ^ k < 4294967296) (hM : M = 31 * 2 ^ k) :
    bits .andNot .u32 (bits .xor .u32 (a + p * 2 ^ k) (a + q * 2 ^ k)) M = 0 := by
  obtain ⟨a, rfl⟩ := Int.eq_ofNat_of_zero_le a0
  obtain ⟨p, rfl⟩ := Int.eq_ofNat_of_zero_le hp.1
  obtain ⟨q, rfl⟩ := Int.eq_ofNat_of_zero_le hq.1
  have e : ∀ n : Nat, ((a : Int) + (n : Int) * 2 ^ k) = ((a + n * 2 ^ k : Nat) : Int) := fun n => by simp
  have eM : (31 * 2 ^ k : Int) = ((31 * 2 ^ k : Nat) : Int) := by simp
  rw [hM, e p, e q, eM]
  rw [e p] at b1
  rw [e q] at b2
  have h1 : a / 2 ^ k % 32 = 0 := by
    have h : ((a / 2 ^ k % 32 : Nat) : Int) = 0 := by simpa using ha
    omega
  exact xor_field a p q k hk (by omega) h1 (by omega) (by omega) (by omega) (by omega)

theorem xor_self (a M : Int) (a0 : 0 ≤ a) (a1 : a < 4294967296) : bits .andNot .u32 (bits .xor .u32 a a) M = 0 := by
  have hx : bits .xor .u32 a a = 0 := by
    show IntKind.u32.wrap ((BitVec.ofInt 32 a ^^^ BitVec.ofInt 32 a).toNat : Int) = _
    rw [BitVec.xor_self]
    rfl
  rw [hx]
  show IntKind.u32.wrap ((BitVec.ofInt 32 0 &&& ~~~ BitVec.ofInt 32 M).toNat : Int) = _
  have : BitVec.ofInt 32 0 = 0#32 := rfl
  rw [this, BitVec.zero_and]
  rfl

set_option maxHeartbeats 1000000 in
theorem wo_rd {r : Rw} (h : Rok r) (i : Ins) (q : Int) (t1 : tk r i) (t2 : tk r { i with rd := q }) :
    bits .andNot .u32 (bits .xor .u32 (wo r i) (wo r { i with rd := q })) 3968 = 0 := by
  have hc := fm_cases h
  have i1 := wo_in h.1 t1
  have i2 := wo_in h.1 t2
  have ho := h.1
  obtain ⟨fm, op, f3, f7⟩ := r
  obtain ⟨rd, r1, r2, im⟩ := i
  obtain ⟨⟨d, e, f⟩, t1⟩ := t1
  obtain ⟨⟨d2, e2, f2⟩, t2⟩ := t2
  obtain ⟨o, a, b, z, _⟩ := ho
  simp only at hc d e f d2 e2 f2 o a b z i1 i2
  rcases hc with rfl | rfl | rfl | rfl | rfl | rfl | rfl | rfl | rfl
  · simp only [wo] at i1 i2 ⊢
    obtain ⟨_, _, y1, y2⟩ := t1
    have z0 := z (by decide)
    have hx := xor_int (op + f3 * 4096 + im * 4096) rd q 3968 7 (by decide) (by omega) (by omega) (by omega) (by omega) (by omega) (by omega) (by omega) (by decide)
    simp only [Int.reducePow] at hx
    refine Eq.trans ?_ hx
    congr 2 <;> omega
  · simp only [wo] at i1 i2 ⊢
    have z0 := z (by decide)
    have h0 := bt_in im 4096 256 (by decide)
    generalize bt im 4096 256 = v0 at *
    have h1 := bt_in im 2048 2 (by decide)
    generalize bt im 2048 2 = v1 at *
    have h2 := bt_in im 2 1024 (by decide)
    generalize bt im 2 1024 = v2 at *
    have h3 := bt_in im 1048576 2 (by decide)
    generalize bt im 1048576 2 = v3 at *
    have hx := xor_int (op + f3 * 4096 + v0 * 4096 + v1 * 1048576 + v2 * 2097152 + v3 * 2147483648) rd q 3968 7 (by decide) (by omega) (by omega) (by omega) (by omega) (by omega) (by omega) (by omega) (by decide)
    simp only [Int.reducePow] at hx
    refine Eq.trans ?_ hx
    congr 2 <;> omega
  · simp only [wo] at i1 i2 ⊢
    have h0 := bt_in im 1 4096 (by decide)
    generalize bt im 1 4096 = v0 at *
    have hx := xor_int (op + f3 * 4096 + r1 * 32768 + v0 * 1048576) rd q 3968 7 (by decide) (by omega) (by omega) (by omega) (by omega) (by omega) (by omega) (by omega) (by decide)
    simp only [Int.reducePow] at hx
    refine Eq.trans ?_ hx
    congr 2 <;> omega
  · simp only [wo] at i1 i2 ⊢
    obtain ⟨_, y1, y2⟩ := t1
    have hx := xor_int (op + f3 * 4096 + r1 * 32768 + im * 1048576 + f7 * 33554432) rd q 3968 7 (by decide) (by omega) (by omega) (by omega) (by omega) (by omega) (by omega) (by omega) (by decide)
    simp only [Int.reducePow] at hx
    refine Eq.trans ?_ hx
    congr 2 <;> omega
  · have g1 : rd = 0 := t1.1
    have g2 : q = 0 := t2.1
    subst g1 g2
    exact xor_self _ _ i1.1 i1.2
  · have g1 : rd = 0 := t1.1
    have g2 : q = 0 := t2.1
    subst g1 g2
    exact xor_self _ _ i1.1 i1.2
  · simp only [wo] at i1 i2 ⊢
    have hx := xor_int (op + f3 * 4096 + r1 * 32768 + r2 * 1048576 + f7 * 33554432) rd q 3968 7 (by decide) (by omega) (by omega) (by omega) (by omega) (by omega) (by omega) (by omega) (by decide)
    simp only [Int.reducePow] at hx
    refine Eq.trans ?_ hx
    congr 2 <;> omega
  · exact xor_self _ _ i1.1 i1.2
  · exact xor_self _ _ i1.1 i1.2

theorem enc_rd {s : List UInt8} {i : Ins} {q w v : Int} (h1 : encF s i = some w) (h2 : encF s { i with rd := q } = some v) : bits .andNot .u32 (bits .xor .u32 w v) 3968 = 0 := by
  unfold encF at h1 h2
  cases e1 : rowOf s with
  | none => rw [e1] at h1; cases h1
  | some r =>
    rw [e1] at h1 h2
    simp only at h1 h2
    obtain ⟨a, ha⟩ := rowOf_at e1
    cases t1 : takB r i with
    | false => rw [t1] at h1; cases h1
    | true =>
      cases t2 : takB r { i with rd := q } with
      | false => rw [t2] at h2; cases h2
      | true =>
        rw [t1] at h1
        rw [t2] at h2
        have g1 : wo r i = w := by simpa using h1
        have g2 : wo r { i with rd := q } = v := by simpa using h2
        rw [← g1, ← g2]
        exact wo_rd (rok ha) i q ((takB_iff (rok ha) _).1 t1) ((takB_iff (rok ha) _).1 t2)

set_option maxHeartbeats 1000000 in
theorem wo_r1 {r : Rw} (h : Rok r) (i : Ins) (q : Int) (t1 : tk r i) (t2 : tk r { i with r1 := q }) :
    bits .andNot .u32 (bits .xor .u32 (wo r i) (wo r { i with r1 := q })) 1015808 = 0 := by
  have hc := fm_cases h
  have i1 := wo_in h.1 t1
  have i2 := wo_in h.1 t2
  have ho := h.1
  obtain ⟨fm, op, f3, f7⟩ := r
  obtain ⟨rd, r1, r2, im⟩ := i
  obtain ⟨⟨d, e, f⟩, t1⟩ := t1
  obtain ⟨⟨d2, e2, f2⟩, t2⟩ := t2
  obtain ⟨o, a, b, z, _⟩ := ho
  simp only at hc d e f d2 e2 f2 o a b z i1 i2
  rcases hc with rfl | rfl | rfl | rfl | rfl | rfl | rfl | rfl | rfl
  · have g1 : r1 = 0 := t1.1
    have g2 : q = 0 := t2.1
    subst g1 g2
    exact xor_self _ _ i1.1 i1.2
  · have g1 : r1 = 0 := t1.1
    have g2 : q = 0 := t2.1
    subst g1 g2
    exact xor_self _ _ i1.1 i1.2
  · simp only [wo] at i1 i2 ⊢
    have h0 := bt_in im 1 4096 (by decide)
    generalize bt im 1 4096 = v0 at *
    have hx := xor_int (op + f3 * 4096 + rd * 128 + v0 * 1048576) r1 q 1015808 15 (by decide) (by omega) (by omega) (by omega) (by omega) (by omega) (by omega) (by omega) (by decide)
    simp only [Int.reducePow] at hx
    refine Eq.trans ?_ hx
    congr 2 <;> omega
  · simp only [wo] at i1 i2 ⊢
    obtain ⟨_, y1, y2⟩ := t1
    have hx := xor_int (op + f3 * 4096 + rd * 128 + im * 1048576 + f7 * 33554432) r1 q 1015808 15 (by decide) (by omega) (by omega) (by omega) (by omega) (by omega) (by omega) (by omega) (by decide)
    simp only [Int.reducePow] at hx
    refine Eq.trans ?_ hx
    congr 2 <;> omega
  · simp only [wo] at i1 i2 ⊢
    have h0 := bt_in im 2048 2 (by decide)
    generalize bt im 2048 2 = v0 at *
    have h1 := bt_in im 2 16 (by decide)
    generalize bt im 2 16 = v1 at *
    have h2 := bt_in im 32 64 (by decide)
    generalize bt im 32 64 = v2 at *
    have h3 := bt_in im 4096 2 (by decide)
    generalize bt im 4096 2 = v3 at *
    have hx := xor_int (op + f3 * 4096 + r2 * 1048576 + v0 * 128 + v1 * 256 + v2 * 33554432 + v3 * 2147483648) r1 q 1015808 15 (by decide) (by omega) (by omega) (by omega) (by omega) (by omega) (by omega) (by omega) (by decide)
    simp only [Int.reducePow] at hx
    refine Eq.trans ?_ hx
    congr 2 <;> omega
  · simp only [wo] at i1 i2 ⊢
    have h0 := bt_in im 1 32 (by decide)
    generalize bt im 1 32 = v0 at *
    have h1 := bt_in im 32 128 (by decide)
    generalize bt im 32 128 = v1 at *
    have hx := xor_int (op + f3 * 4096 + r2 * 1048576 + v0 * 128 + v1 * 33554432) r1 q 1015808 15 (by decide) (by omega) (by omega) (by omega) (by omega) (by omega) (by omega) (by omega) (by decide)
    simp only [Int.reducePow] at hx
    refine Eq.trans ?_ hx
    congr 2 <;> omega
  · simp only [wo] at i1 i2 ⊢
    have hx := xor_int (op + f3 * 4096 + rd * 128 + r2 * 1048576 + f7 * 33554432) r1 q 1015808 15 (by decide) (by omega) (by omega) (by omega) (by omega) (by omega) (by omega) (by omega) (by decide)
    simp only [Int.reducePow] at hx
    refine Eq.trans ?_ hx
    congr 2 <;> omega
  · exact xor_self _ _ i1.1 i1.2
  · exact xor_self _ _ i1.1 i1.2

theorem enc_r1 {s : List UInt8} {i : Ins} {q w v : Int} (h1 : encF s i = some w) (h2 : encF s { i with r1 := q } = some v) : bits .andNot .u32 (bits .xor .u32 w v) 1015808 = 0 := by
  unfold encF at h1 h2
  cases e1 : rowOf s with
  | none => rw [e1] at h1; cases h1
  | some r =>
    rw [e1] at h1 h2
    simp only at h1 h2
    obtain ⟨a, ha⟩ := rowOf_at e1
    cases t1 : takB r i with
    | false => rw [t1] at h1; cases h1
    | true =>
      cases t2 : takB r { i with r1 := q } with
      | false => rw [t2] at h2; cases h2
      | true =>
        rw [t1] at h1
        rw [t2] at h2
        have g1 : wo r i = w := by simpa using h1
        have g2 : wo r { i with r1 := q } = v := by simpa using h2
        rw [← g1, ← g2]
        exact wo_r1 (rok ha) i q ((takB_iff (rok ha) _).1 t1) ((takB_iff (rok ha) _).1 t2)

set_option maxHeartbeats 1000000 in
theorem wo_r2 {r : Rw} (h : Rok r) (i : Ins) (q : Int) (t1 : tk r i) (t2 : tk r { i with r2 := q }) :
    bits .andNot .u32 (bits .xor .u32 (wo r i) (wo r { i with r2 := q })) 32505856 = 0 := by
  have hc := fm_cases h
  have i1 := wo_in h.1 t1
  have i2 := wo_in h.1 t2
  have ho := h.1
  obtain ⟨fm, op, f3, f7⟩ := r
  obtain ⟨rd, r1, r2, im⟩ := i
  obtain ⟨⟨d, e, f⟩, t1⟩ := t1
  obtain ⟨⟨d2, e2, f2⟩, t2⟩ := t2
  obtain ⟨o, a, b, z, _⟩ := ho
  simp only at hc d e f d2 e2 f2 o a b z i1 i2
  rcases hc with rfl | rfl | rfl | rfl | rfl | rfl | rfl | rfl | rfl
  · have g1 : r2 = 0 := t1.2.1
    have g2 : q = 0 := t2.2.1
    subst g1 g2
    exact xor_self _ _ i1.1 i1.2
  · have g1 : r2 = 0 := t1.2.1
    have g2 : q = 0 := t2.2.1
    subst g1 g2
    exact xor_self _ _ i1.1 i1.2
  · have g1 : r2 = 0 := t1.1
    have g2 : q = 0 := t2.1
    subst g1 g2
    exact xor_self _ _ i1.1 i1.2
  · have g1 : r2 = 0 := t1.1
    have g2 : q = 0 := t2.1
    subst g1 g2
    exact xor_self _ _ i1.1 i1.2
  · simp only [wo] at i1 i2 ⊢
    have h0 := bt_in im 2048 2 (by decide)
    generalize bt im 2048 2 = v0 at *
    have h1 := bt_in im 2 16 (by decide)
    generalize bt im 2 16 = v1 at *
    have h2 := bt_in im 32 64 (by decide)
    generalize bt im 32 64 = v2 at *
    have h3 := bt_in im 4096 2 (by decide)
    generalize bt im 4096 2 = v3 at *
    have hx := xor_int (op + f3 * 4096 + r1 * 32768 + v0 * 128 + v1 * 256 + v2 * 33554432 + v3 * 2147483648) r2 q 32505856 20 (by decide) (by omega) (by omega) (by omega) (by omega) (by omega) (by omega) (by omega) (by decide)
    simp only [Int.reducePow] at hx
    refine Eq.trans ?_ hx
    congr 2 <;> omega
  · simp only [wo] at i1 i2 ⊢
    have h0 := bt_in im 1 32 (by decide)
    generalize bt im 1 32 = v0 at *
    have h1 := bt_in im 32 128 (by decide)
    generalize bt im 32 128 = v1 at *
    have hx := xor_int (op + f3 * 4096 + r1 * 32768 + v0 * 128 + v1 * 33554432) r2 q 32505856 20 (by decide) (by omega) (by omega) (by omega) (by omega) (by omega) (by omega) (by omega) (by decide)
    simp only [Int.reducePow] at hx
    refine Eq.trans ?_ hx
    congr 2 <;> omega
  · simp only [wo] at i1 i2 ⊢
    have hx := xor_int (op + f3 * 4096 + rd * 128 + r1 * 32768 + f7 * 33554432) r2 q 32505856 20 (by decide) (by omega) (by omega) (by omega) (by omega) (by omega) (by omega) (by omega) (by decide)
    simp only [Int.reducePow] at hx
    refine Eq.trans ?_ hx
    congr 2 <;> omega
  · exact xor_self _ _ i1.1 i1.2
  · exact xor_self _ _ i1.1 i1.2

theorem enc_r2 {s : List UInt8} {i : Ins} {q w v : Int} (h1 : encF s i = some w) (h2 : encF s { i with r2 := q } = some v) : bits .andNot .u32 (bits .xor .u32 w v) 32505856 = 0 := by
  unfold encF at h1 h2
  cases e1 : rowOf s with
  | none => rw [e1] at h1; cases h1
  | some r =>
    rw [e1] at h1 h2
    simp only at h1 h2
    obtain ⟨a, ha⟩ := rowOf_at e1
    cases t1 : takB r i with
    | false => rw [t1] at h1; cases h1
    | true =>
      cases t2 : takB r { i with r2 := q } with
      | false => rw [t2] at h2; cases h2
      | true =>
        rw [t1] at h1
        rw [t2] at h2
        have g1 : wo r i = w := by simpa using h1
        have g2 : wo r { i with r2 := q } = v := by simpa using h2
        rw [← g1, ← g2]
        exact wo_r2 (rok ha) i q ((takB_iff (rok ha) _).1 t1) ((takB_iff (rok ha) _).1 t2)
end Go.Proofs.Ytiiebppcamaliaa
