/-
  Proved: bits put one behind the other are the sum that the document tells: of an instruction's word, and of a number in a word. Plain facts on numbers.
-/
import Derived.Test.YtcdeckbobabdkaaIget
import Derived.Test.YtcdeckbobabdkaaInum
namespace Go.Proofs.Ytcdeckbobabdkaa
open Go.RowKit
set_option linter.unusedVariables false

theorem or_at_u {a v : Int} (k m : Nat) (a0 : 0 ≤ a) (a1 : a < 4294967296) (v0 : 0 ≤ v) (v1 : v < 2 ^ m) (hm : k + m ≤ 32) (ha : a / 2 ^ k % 2 ^ m = 0) :
    bits .or .u32 a (v * 2 ^ k) = a + v * 2 ^ k := or_at .u32 (Or.inl rfl) a v k m a0 a1 v0 v1 hm ha
theorem or_at_i {a v : Int} (k m : Nat) (a0 : 0 ≤ a) (a1 : a < 4294967296) (v0 : 0 ≤ v) (v1 : v < 2 ^ m) (hm : k + m ≤ 32) (ha : a / 2 ^ k % 2 ^ m = 0) :
    bits .or .i64 a (v * 2 ^ k) = a + v * 2 ^ k := or_at .i64 (Or.inr rfl) a v k m a0 a1 v0 v1 hm ha

theorem md_in (x m : Int) (h : 0 < m) : 0 ≤ x % m ∧ x % m < m := ⟨Int.emod_nonneg _ (by omega), Int.emod_lt_of_pos _ h⟩
theorem w64_in {n : Int} (h : 0 ≤ n ∧ n < 4294967296) : wrap64 n = n := by unfold wrap64; omega

theorem orB_0 (n : Int) : orB n (cutP 0 1) = bt n 1 1048576 * 4096 := by
  show bits .or .u32 0 (n % 4294967296 / 1 % 1048576 * 4096 % 4294967296) = _
  have h0 := md_in (n % 4294967296 / 1) 1048576 (by decide)
  unfold bt
  generalize n % 4294967296 / 1 % 1048576 = v0 at *
  rw [Int.emod_eq_of_lt (a := v0 * _) (by omega) (by omega)]
  have e0 := or_at_u (a := 0) (v := v0) 12 20 (by omega) (by omega) h0.1 h0.2 (by omega) (by omega)
  simp only [Int.reducePow, Int.zero_add] at e0
  rw [e0]

theorem orG_0 (x : Int) (x0 : 0 ≤ x) (x1 : x < 4294967296) : orG x (cutP 0 1) = bt x 4096 1048576 * 1 := by
  show bits .or .i64 0 (wrap64 (x / 4096 % 1048576 * 1)) = _
  simp only [bt_of x x0 x1]
  have h0 := md_in (x / 4096) 1048576 (by decide)
  generalize x / 4096 % 1048576 = v0 at *
  rw [w64_in (n := v0 * _) (by omega)]
  have e0 := or_at_i (a := 0) (v := v0) 0 20 (by omega) (by omega) h0.1 h0.2 (by omega) (by omega)
  simp only [Int.reducePow, Int.zero_add] at e0
  rw [e0]

theorem orB_1 (n : Int) : orB n (cutP 1 5) = bt n 1048576 2 * 2147483648 + bt n 2 1024 * 2097152 + bt n 2048 2 * 1048576 + bt n 4096 256 * 4096 := by
  show bits .or .u32 (bits .or .u32 (bits .or .u32 (bits .or .u32 0 (n % 4294967296 / 1048576 % 2 * 2147483648 % 4294967296)) (n % 4294967296 / 2 % 1024 * 2097152 % 4294967296)) (n % 4294967296 / 2048 % 2 * 1048576 % 4294967296)) (n % 4294967296 / 4096 % 256 * 4096 % 4294967296) = _
  have h0 := md_in (n % 4294967296 / 1048576) 2 (by decide)
  have h1 := md_in (n % 4294967296 / 2) 1024 (by decide)
  have h2 := md_in (n % 4294967296 / 2048) 2 (by decide)
  have h3 := md_in (n % 4294967296 / 4096) 256 (by decide)
  unfold bt
  generalize n % 4294967296 / 1048576 % 2 = v0 at *
  generalize n % 4294967296 / 2 % 1024 = v1 at *
  generalize n % 4294967296 / 2048 % 2 = v2 at *
  generalize n % 4294967296 / 4096 % 256 = v3 at *
  rw [Int.emod_eq_of_lt (a := v0 * _) (by omega) (by omega), Int.emod_eq_of_lt (a := v1 * _) (by omega) (by omega), Int.emod_eq_of_lt (a := v2 * _) (by omega) (by omega), Int.emod_eq_of_lt (a := v3 * _) (by omega) (by omega)]
  have e0 := or_at_u (a := 0) (v := v0) 31 1 (by omega) (by omega) h0.1 h0.2 (by omega) (by omega)
  have e1 := or_at_u (a := v0 * 2147483648) (v := v1) 21 10 (by omega) (by omega) h1.1 h1.2 (by omega) (by omega)
  have e2 := or_at_u (a := v0 * 2147483648 + v1 * 2097152) (v := v2) 20 1 (by omega) (by omega) h2.1 h2.2 (by omega) (by omega)
  have e3 := or_at_u (a := v0 * 2147483648 + v1 * 2097152 + v2 * 1048576) (v := v3) 12 8 (by omega) (by omega) h3.1 h3.2 (by omega) (by omega)
  simp only [Int.reducePow, Int.zero_add] at e0 e1 e2 e3
  rw [e0, e1, e2, e3]

theorem orG_1 (x : Int) (x0 : 0 ≤ x) (x1 : x < 4294967296) : orG x (cutP 1 5) = bt x 2147483648 2 * 1048576 + bt x 2097152 1024 * 2 + bt x 1048576 2 * 2048 + bt x 4096 256 * 4096 := by
  show bits .or .i64 (bits .or .i64 (bits .or .i64 (bits .or .i64 0 (wrap64 (x / 2147483648 % 2 * 1048576))) (wrap64 (x / 2097152 % 1024 * 2))) (wrap64 (x / 1048576 % 2 * 2048))) (wrap64 (x / 4096 % 256 * 4096)) = _
  simp only [bt_of x x0 x1]
  have h0 := md_in (x / 2147483648) 2 (by decide)
  have h1 := md_in (x / 2097152) 1024 (by decide)
  have h2 := md_in (x / 1048576) 2 (by decide)
  have h3 := md_in (x / 4096) 256 (by decide)
  generalize x / 2147483648 % 2 = v0 at *
  generalize x / 2097152 % 1024 = v1 at *
  generalize x / 1048576 % 2 = v2 at *
  generalize x / 4096 % 256 = v3 at *
  rw [w64_in (n := v0 * _) (by omega), w64_in (n := v1 * _) (by omega), w64_in (n := v2 * _) (by omega), w64_in (n := v3 * _) (by omega)]
  have e0 := or_at_i (a := 0) (v := v0) 20 1 (by omega) (by omega) h0.1 h0.2 (by omega) (by omega)
  have e1 := or_at_i (a := v0 * 1048576) (v := v1) 1 10 (by omega) (by omega) h1.1 h1.2 (by omega) (by omega)
  have e2 := or_at_i (a := v0 * 1048576 + v1 * 2) (v := v2) 11 1 (by omega) (by omega) h2.1 h2.2 (by omega) (by omega)
  have e3 := or_at_i (a := v0 * 1048576 + v1 * 2 + v2 * 2048) (v := v3) 12 8 (by omega) (by omega) h3.1 h3.2 (by omega) (by omega)
  simp only [Int.reducePow, Int.zero_add] at e0 e1 e2 e3
  rw [e0, e1, e2, e3]

theorem orB_2 (n : Int) : orB n (cutP 5 6) = bt n 1 4096 * 1048576 := by
  show bits .or .u32 0 (n % 4294967296 / 1 % 4096 * 1048576 % 4294967296) = _
  have h0 := md_in (n % 4294967296 / 1) 4096 (by decide)
  unfold bt
  generalize n % 4294967296 / 1 % 4096 = v0 at *
  rw [Int.emod_eq_of_lt (a := v0 * _) (by omega) (by omega)]
  have e0 := or_at_u (a := 0) (v := v0) 20 12 (by omega) (by omega) h0.1 h0.2 (by omega) (by omega)
  simp only [Int.reducePow, Int.zero_add] at e0
  rw [e0]

theorem orG_2 (x : Int) (x0 : 0 ≤ x) (x1 : x < 4294967296) : orG x (cutP 5 6) = bt x 1048576 4096 * 1 := by
  show bits .or .i64 0 (wrap64 (x / 1048576 % 4096 * 1)) = _
  simp only [bt_of x x0 x1]
  have h0 := md_in (x / 1048576) 4096 (by decide)
  generalize x / 1048576 % 4096 = v0 at *
  rw [w64_in (n := v0 * _) (by omega)]
  have e0 := or_at_i (a := 0) (v := v0) 0 12 (by omega) (by omega) h0.1 h0.2 (by omega) (by omega)
  simp only [Int.reducePow, Int.zero_add] at e0
  rw [e0]

theorem orB_3 (n : Int) : orB n (cutP 6 7) = bt n 1 32 * 1048576 := by
  show bits .or .u32 0 (n % 4294967296 / 1 % 32 * 1048576 % 4294967296) = _
  have h0 := md_in (n % 4294967296 / 1) 32 (by decide)
  unfold bt
  generalize n % 4294967296 / 1 % 32 = v0 at *
  rw [Int.emod_eq_of_lt (a := v0 * _) (by omega) (by omega)]
  have e0 := or_at_u (a := 0) (v := v0) 20 5 (by omega) (by omega) h0.1 h0.2 (by omega) (by omega)
  simp only [Int.reducePow, Int.zero_add] at e0
  rw [e0]

theorem orG_3 (x : Int) (x0 : 0 ≤ x) (x1 : x < 4294967296) : orG x (cutP 6 7) = bt x 1048576 32 * 1 := by
  show bits .or .i64 0 (wrap64 (x / 1048576 % 32 * 1)) = _
  simp only [bt_of x x0 x1]
  have h0 := md_in (x / 1048576) 32 (by decide)
  generalize x / 1048576 % 32 = v0 at *
  rw [w64_in (n := v0 * _) (by omega)]
  have e0 := or_at_i (a := 0) (v := v0) 0 5 (by omega) (by omega) h0.1 h0.2 (by omega) (by omega)
  simp only [Int.reducePow, Int.zero_add] at e0
  rw [e0]

theorem orB_4 (n : Int) : orB n (cutP 7 11) = bt n 4096 2 * 2147483648 + bt n 32 64 * 33554432 + bt n 2 16 * 256 + bt n 2048 2 * 128 := by
  show bits .or .u32 (bits .or .u32 (bits .or .u32 (bits .or .u32 0 (n % 4294967296 / 4096 % 2 * 2147483648 % 4294967296)) (n % 4294967296 / 32 % 64 * 33554432 % 4294967296)) (n % 4294967296 / 2 % 16 * 256 % 4294967296)) (n % 4294967296 / 2048 % 2 * 128 % 4294967296) = _
  have h0 := md_in (n % 4294967296 / 4096) 2 (by decide)
  have h1 := md_in (n % 4294967296 / 32) 64 (by decide)
  have h2 := md_in (n % 4294967296 / 2) 16 (by decide)
  have h3 := md_in (n % 4294967296 / 2048) 2 (by decide)
  unfold bt
  generalize n % 4294967296 / 4096 % 2 = v0 at *
  generalize n % 4294967296 / 32 % 64 = v1 at *
  generalize n % 4294967296 / 2 % 16 = v2 at *
  generalize n % 4294967296 / 2048 % 2 = v3 at *
  rw [Int.emod_eq_of_lt (a := v0 * _) (by omega) (by omega), Int.emod_eq_of_lt (a := v1 * _) (by omega) (by omega), Int.emod_eq_of_lt (a := v2 * _) (by omega) (by omega), Int.emod_eq_of_lt (a := v3 * _) (by omega) (by omega)]
  have e0 := or_at_u (a := 0) (v := v0) 31 1 (by omega) (by omega) h0.1 h0.2 (by omega) (by omega)
  have e1 := or_at_u (a := v0 * 2147483648) (v := v1) 25 6 (by omega) (by omega) h1.1 h1.2 (by omega) (by omega)
  have e2 := or_at_u (a := v0 * 2147483648 + v1 * 33554432) (v := v2) 8 4 (by omega) (by omega) h2.1 h2.2 (by omega) (by omega)
  have e3 := or_at_u (a := v0 * 2147483648 + v1 * 33554432 + v2 * 256) (v := v3) 7 1 (by omega) (by omega) h3.1 h3.2 (by omega) (by omega)
  simp only [Int.reducePow, Int.zero_add] at e0 e1 e2 e3
  rw [e0, e1, e2, e3]

theorem orG_4 (x : Int) (x0 : 0 ≤ x) (x1 : x < 4294967296) : orG x (cutP 7 11) = bt x 2147483648 2 * 4096 + bt x 33554432 64 * 32 + bt x 256 16 * 2 + bt x 128 2 * 2048 := by
  show bits .or .i64 (bits .or .i64 (bits .or .i64 (bits .or .i64 0 (wrap64 (x / 2147483648 % 2 * 4096))) (wrap64 (x / 33554432 % 64 * 32))) (wrap64 (x / 256 % 16 * 2))) (wrap64 (x / 128 % 2 * 2048)) = _
  simp only [bt_of x x0 x1]
  have h0 := md_in (x / 2147483648) 2 (by decide)
  have h1 := md_in (x / 33554432) 64 (by decide)
  have h2 := md_in (x / 256) 16 (by decide)
  have h3 := md_in (x / 128) 2 (by decide)
  generalize x / 2147483648 % 2 = v0 at *
  generalize x / 33554432 % 64 = v1 at *
  generalize x / 256 % 16 = v2 at *
  generalize x / 128 % 2 = v3 at *
  rw [w64_in (n := v0 * _) (by omega), w64_in (n := v1 * _) (by omega), w64_in (n := v2 * _) (by omega), w64_in (n := v3 * _) (by omega)]
  have e0 := or_at_i (a := 0) (v := v0) 12 1 (by omega) (by omega) h0.1 h0.2 (by omega) (by omega)
  have e1 := or_at_i (a := v0 * 4096) (v := v1) 5 6 (by omega) (by omega) h1.1 h1.2 (by omega) (by omega)
  have e2 := or_at_i (a := v0 * 4096 + v1 * 32) (v := v2) 1 4 (by omega) (by omega) h2.1 h2.2 (by omega) (by omega)
  have e3 := or_at_i (a := v0 * 4096 + v1 * 32 + v2 * 2) (v := v3) 11 1 (by omega) (by omega) h3.1 h3.2 (by omega) (by omega)
  simp only [Int.reducePow, Int.zero_add] at e0 e1 e2 e3
  rw [e0, e1, e2, e3]

theorem orB_5 (n : Int) : orB n (cutP 11 13) = bt n 32 128 * 33554432 + bt n 1 32 * 128 := by
  show bits .or .u32 (bits .or .u32 0 (n % 4294967296 / 32 % 128 * 33554432 % 4294967296)) (n % 4294967296 / 1 % 32 * 128 % 4294967296) = _
  have h0 := md_in (n % 4294967296 / 32) 128 (by decide)
  have h1 := md_in (n % 4294967296 / 1) 32 (by decide)
  unfold bt
  generalize n % 4294967296 / 32 % 128 = v0 at *
  generalize n % 4294967296 / 1 % 32 = v1 at *
  rw [Int.emod_eq_of_lt (a := v0 * _) (by omega) (by omega), Int.emod_eq_of_lt (a := v1 * _) (by omega) (by omega)]
  have e0 := or_at_u (a := 0) (v := v0) 25 7 (by omega) (by omega) h0.1 h0.2 (by omega) (by omega)
  have e1 := or_at_u (a := v0 * 33554432) (v := v1) 7 5 (by omega) (by omega) h1.1 h1.2 (by omega) (by omega)
  simp only [Int.reducePow, Int.zero_add] at e0 e1
  rw [e0, e1]

theorem orG_5 (x : Int) (x0 : 0 ≤ x) (x1 : x < 4294967296) : orG x (cutP 11 13) = bt x 33554432 128 * 32 + bt x 128 32 * 1 := by
  show bits .or .i64 (bits .or .i64 0 (wrap64 (x / 33554432 % 128 * 32))) (wrap64 (x / 128 % 32 * 1)) = _
  simp only [bt_of x x0 x1]
  have h0 := md_in (x / 33554432) 128 (by decide)
  have h1 := md_in (x / 128) 32 (by decide)
  generalize x / 33554432 % 128 = v0 at *
  generalize x / 128 % 32 = v1 at *
  rw [w64_in (n := v0 * _) (by omega), w64_in (n := v1 * _) (by omega)]
  have e0 := or_at_i (a := 0) (v := v0) 5 7 (by omega) (by omega) h0.1 h0.2 (by omega) (by omega)
  have e1 := or_at_i (a := v0 * 32) (v := v1) 0 5 (by omega) (by omega) h1.1 h1.2 (by omega) (by omega)
  simp only [Int.reducePow, Int.zero_add] at e0 e1
  rw [e0, e1]

theorem orB_6 (n : Int) : orB n (cutP 0 0) = 0 := by
  rfl

theorem orG_6 (x : Int) (x0 : 0 ≤ x) (x1 : x < 4294967296) : orG x (cutP 0 0) = 0 := by
  rfl

theorem orB_7 (n : Int) : orB n (cutP 0 0) = 0 := by
  rfl

theorem orG_7 (x : Int) (x0 : 0 ≤ x) (x1 : x < 4294967296) : orG x (cutP 0 0) = 0 := by
  rfl

theorem nbI_is (op f3 f7 : Int) (o : (0 ≤ op ∧ op < 128) ∨ (op = 1048691 ∧ f3 = 0 ∧ f7 = 0)) (a : 0 ≤ f3 ∧ f3 < 8) (b : 0 ≤ f7 ∧ f7 < 128) : nbI op f3 f7 = op + f3 * 4096 + f7 * 33554432 := by
  have e0 := or_at_u (a := op) (v := f3) 12 3 (by omega) (by omega) a.1 a.2 (by omega) (by omega)
  have e1 := or_at_u (a := op + f3 * 4096) (v := f7) 25 7 (by omega) (by omega) b.1 b.2 (by omega) (by omega)
  simp only [Int.reducePow] at e0 e1
  unfold nbI
  rw [e0, e1]

def rgI (rd r1 r2 : Int) : Int := bits .or .u32 (bits .or .u32 (rd * 128) (r1 * 32768)) (r2 * 1048576)

/-- Registers beside numbers that leave their places free. -/
theorem rgI_with (a rd r1 r2 : Int) (a0 : 0 ≤ a) (a1 : a < 4294967296) (d : 0 ≤ rd ∧ rd < 32) (e : 0 ≤ r1 ∧ r1 < 32) (f : 0 ≤ r2 ∧ r2 < 32) (g1 : a / 128 % 32 = 0) (g2 : a / 32768 % 32 = 0) (g3 : a / 1048576 % 32 = 0 ∨ (r2 = 0 ∧ rd = 0 ∧ r1 = 0)) :
    bits .or .u32 a (rgI rd r1 r2) = a + rd * 128 + r1 * 32768 + r2 * 1048576 := by
  have e1 := or_at_u (a := rd * 128) (v := r1) 15 5 (by omega) (by omega) e.1 e.2 (by omega) (by omega)
  have e2 := or_at_u (a := rd * 128 + r1 * 32768) (v := r2) 20 5 (by omega) (by omega) f.1 f.2 (by omega) (by omega)
  simp only [Int.reducePow] at e1 e2
  unfold rgI
  rw [e1, e2]
  rcases g3 with g3 | ⟨rfl, rfl, rfl⟩
  · have s1 := or_more a (rd * 128 + r1 * 32768) (r2 * 1048576) a0 a1 (by omega) (by omega) (by omega) (by omega) e2
    have s2 := or_more a (rd * 128) (r1 * 32768) a0 a1 (by omega) (by omega) (by omega) (by omega) e1
    have q1 := or_at_u (a := a) (v := rd) 7 5 a0 a1 d.1 d.2 (by omega) (by omega)
    simp only [Int.reducePow] at q1
    have q2 := or_at_u (a := a + rd * 128) (v := r1) 15 5 (by omega) (by omega) e.1 e.2 (by omega) (by omega)
    simp only [Int.reducePow] at q2
    have q3 := or_at_u (a := a + rd * 128 + r1 * 32768) (v := r2) 20 5 (by omega) (by omega) f.1 f.2 (by omega) (by omega)
    simp only [Int.reducePow] at q3
    rw [s1, s2, q1, q2, q3]
  · have q := or_at_u (a := a) (v := 0) 7 5 a0 a1 (by omega) (by omega) (by omega) (by omega)
    simpa using q

set_option maxHeartbeats 1000000 in
theorem enc_0 (op f3 f7 rd r1 r2 n : Int) (o : 0 ≤ op ∧ op < 128) (a : 0 ≤ f3 ∧ f3 < 8) (b : 0 ≤ f7 ∧ f7 < 128) (d : 0 ≤ rd ∧ rd < 32) (e : 0 ≤ r1 ∧ r1 < 32) (g : 0 ≤ r2 ∧ r2 < 32) (z1 : r1 = 0) (z2 : r2 = 0) (y3 : f3 = 0) (y7 : f7 = 0) :
    bits .or .u32 (bits .or .u32 (nbI op f3 f7) (rgI rd r1 r2)) (orB n (cutP 0 1)) = op + rd * 128 + bt n 1 1048576 * 4096 := by
  subst z1
  subst z2
  subst y3
  subst y7
  rw [nbI_is op 0 0 (by omega) (by omega) (by omega), rgI_with _ rd 0 0 (by omega) (by omega) (by omega) (by omega) (by omega) (by omega) (by omega) (by omega), orB_0]
  have h0 := bt_in n 1 1048576 (by decide)
  generalize bt n 1 1048576 = v0 at *
  have hb : 0 ≤ op + 0 * 4096 + 0 * 33554432 + rd * 128 + 0 * 32768 + 0 * 1048576 ∧ op + 0 * 4096 + 0 * 33554432 + rd * 128 + 0 * 32768 + 0 * 1048576 < 4294967296 := by omega
  have q0 := or_at_u (a := op + 0 * 4096 + 0 * 33554432 + rd * 128 + 0 * 32768 + 0 * 1048576) (v := v0) 12 20 (by omega) (by omega) h0.1 h0.2 (by omega) (by omega)
  simp only [Int.reducePow] at q0
  rw [q0]
  omega

set_option maxHeartbeats 1000000 in
theorem enc_1 (op f3 f7 rd r1 r2 n : Int) (o : 0 ≤ op ∧ op < 128) (a : 0 ≤ f3 ∧ f3 < 8) (b : 0 ≤ f7 ∧ f7 < 128) (d : 0 ≤ rd ∧ rd < 32) (e : 0 ≤ r1 ∧ r1 < 32) (g : 0 ≤ r2 ∧ r2 < 32) (z1 : r1 = 0) (z2 : r2 = 0) (y3 : f3 = 0) (y7 : f7 = 0) :
    bits .or .u32 (bits .or .u32 (nbI op f3 f7) (rgI rd r1 r2)) (orB n (cutP 1 5)) = op + rd * 128 + bt n 1048576 2 * 2147483648 + bt n 2 1024 * 2097152 + bt n 2048 2 * 1048576 + bt n 4096 256 * 4096 := by
  subst z1
  subst z2
  subst y3
  subst y7
  rw [nbI_is op 0 0 (by omega) (by omega) (by omega), rgI_with _ rd 0 0 (by omega) (by omega) (by omega) (by omega) (by omega) (by omega) (by omega) (by omega), orB_1]
  have h0 := bt_in n 1048576 2 (by decide)
  have h1 := bt_in n 2 1024 (by decide)
  have h2 := bt_in n 2048 2 (by decide)
  have h3 := bt_in n 4096 256 (by decide)
  generalize bt n 1048576 2 = v0 at *
  generalize bt n 2 1024 = v1 at *
  generalize bt n 2048 2 = v2 at *
  generalize bt n 4096 256 = v3 at *
  have hb : 0 ≤ op + 0 * 4096 + 0 * 33554432 + rd * 128 + 0 * 32768 + 0 * 1048576 ∧ op + 0 * 4096 + 0 * 33554432 + rd * 128 + 0 * 32768 + 0 * 1048576 < 4294967296 := by omega
  have x3 := or_at_u (a := v0 * 2147483648 + v1 * 2097152 + v2 * 1048576) (v := v3) 12 8 (by omega) (by omega) h3.1 h3.2 (by omega) (by omega)
  simp only [Int.reducePow] at x3
  have s3 := or_more (op + 0 * 4096 + 0 * 33554432 + rd * 128 + 0 * 32768 + 0 * 1048576) (v0 * 2147483648 + v1 * 2097152 + v2 * 1048576) (v3 * 4096) hb.1 hb.2 (by omega) (by omega) (by omega) (by omega) x3
  have x2 := or_at_u (a := v0 * 2147483648 + v1 * 2097152) (v := v2) 20 1 (by omega) (by omega) h2.1 h2.2 (by omega) (by omega)
  simp only [Int.reducePow] at x2
  have s2 := or_more (op + 0 * 4096 + 0 * 33554432 + rd * 128 + 0 * 32768 + 0 * 1048576) (v0 * 2147483648 + v1 * 2097152) (v2 * 1048576) hb.1 hb.2 (by omega) (by omega) (by omega) (by omega) x2
  have x1 := or_at_u (a := v0 * 2147483648) (v := v1) 21 10 (by omega) (by omega) h1.1 h1.2 (by omega) (by omega)
  simp only [Int.reducePow] at x1
  have s1 := or_more (op + 0 * 4096 + 0 * 33554432 + rd * 128 + 0 * 32768 + 0 * 1048576) (v0 * 2147483648) (v1 * 2097152) hb.1 hb.2 (by omega) (by omega) (by omega) (by omega) x1
  have q0 := or_at_u (a := op + 0 * 4096 + 0 * 33554432 + rd * 128 + 0 * 32768 + 0 * 1048576) (v := v0) 31 1 (by omega) (by omega) h0.1 h0.2 (by omega) (by omega)
  simp only [Int.reducePow] at q0
  have q1 := or_at_u (a := op + 0 * 4096 + 0 * 33554432 + rd * 128 + 0 * 32768 + 0 * 1048576 + v0 * 2147483648) (v := v1) 21 10 (by omega) (by omega) h1.1 h1.2 (by omega) (by omega)
  simp only [Int.reducePow] at q1
  have q2 := or_at_u (a := op + 0 * 4096 + 0 * 33554432 + rd * 128 + 0 * 32768 + 0 * 1048576 + v0 * 2147483648 + v1 * 2097152) (v := v2) 20 1 (by omega) (by omega) h2.1 h2.2 (by omega) (by omega)
  simp only [Int.reducePow] at q2
  have q3 := or_at_u (a := op + 0 * 4096 + 0 * 33554432 + rd * 128 + 0 * 32768 + 0 * 1048576 + v0 * 2147483648 + v1 * 2097152 + v2 * 1048576) (v := v3) 12 8 (by omega) (by omega) h3.1 h3.2 (by omega) (by omega)
  simp only [Int.reducePow] at q3
  rw [s3, s2, s1, q0, q1, q2, q3]
  omega

set_option maxHeartbeats 1000000 in
theorem enc_2 (op f3 f7 rd r1 r2 n : Int) (o : 0 ≤ op ∧ op < 128) (a : 0 ≤ f3 ∧ f3 < 8) (b : 0 ≤ f7 ∧ f7 < 128) (d : 0 ≤ rd ∧ rd < 32) (e : 0 ≤ r1 ∧ r1 < 32) (g : 0 ≤ r2 ∧ r2 < 32) (z2 : r2 = 0) (y7 : f7 = 0) :
    bits .or .u32 (bits .or .u32 (nbI op f3 f7) (rgI rd r1 r2)) (orB n (cutP 5 6)) = op + f3 * 4096 + rd * 128 + r1 * 32768 + bt n 1 4096 * 1048576 := by
  subst z2
  subst y7
  rw [nbI_is op f3 0 (by omega) (by omega) (by omega), rgI_with _ rd r1 0 (by omega) (by omega) (by omega) (by omega) (by omega) (by omega) (by omega) (by omega), orB_2]
  have h0 := bt_in n 1 4096 (by decide)
  generalize bt n 1 4096 = v0 at *
  have hb : 0 ≤ op + f3 * 4096 + 0 * 33554432 + rd * 128 + r1 * 32768 + 0 * 1048576 ∧ op + f3 * 4096 + 0 * 33554432 + rd * 128 + r1 * 32768 + 0 * 1048576 < 4294967296 := by omega
  have q0 := or_at_u (a := op + f3 * 4096 + 0 * 33554432 + rd * 128 + r1 * 32768 + 0 * 1048576) (v := v0) 20 12 (by omega) (by omega) h0.1 h0.2 (by omega) (by omega)
  simp only [Int.reducePow] at q0
  rw [q0]
  omega

set_option maxHeartbeats 1000000 in
theorem enc_3 (op f3 f7 rd r1 r2 n : Int) (o : 0 ≤ op ∧ op < 128) (a : 0 ≤ f3 ∧ f3 < 8) (b : 0 ≤ f7 ∧ f7 < 128) (d : 0 ≤ rd ∧ rd < 32) (e : 0 ≤ r1 ∧ r1 < 32) (g : 0 ≤ r2 ∧ r2 < 32) (z2 : r2 = 0) :
    bits .or .u32 (bits .or .u32 (nbI op f3 f7) (rgI rd r1 r2)) (orB n (cutP 6 7)) = op + f3 * 4096 + f7 * 33554432 + rd * 128 + r1 * 32768 + bt n 1 32 * 1048576 := by
  subst z2
  rw [nbI_is op f3 f7 (by omega) (by omega) (by omega), rgI_with _ rd r1 0 (by omega) (by omega) (by omega) (by omega) (by omega) (by omega) (by omega) (by omega), orB_3]
  have h0 := bt_in n 1 32 (by decide)
  generalize bt n 1 32 = v0 at *
  have hb : 0 ≤ op + f3 * 4096 + f7 * 33554432 + rd * 128 + r1 * 32768 + 0 * 1048576 ∧ op + f3 * 4096 + f7 * 33554432 + rd * 128 + r1 * 32768 + 0 * 1048576 < 4294967296 := by omega
  have q0 := or_at_u (a := op + f3 * 4096 + f7 * 33554432 + rd * 128 + r1 * 32768 + 0 * 1048576) (v := v0) 20 5 (by omega) (by omega) h0.1 h0.2 (by omega) (by omega)
  simp only [Int.reducePow] at q0
  rw [q0]
  omega

set_option maxHeartbeats 1000000 in
theorem enc_4 (op f3 f7 rd r1 r2 n : Int) (o : 0 ≤ op ∧ op < 128) (a : 0 ≤ f3 ∧ f3 < 8) (b : 0 ≤ f7 ∧ f7 < 128) (d : 0 ≤ rd ∧ rd < 32) (e : 0 ≤ r1 ∧ r1 < 32) (g : 0 ≤ r2 ∧ r2 < 32) (zd : rd = 0) (y7 : f7 = 0) :
    bits .or .u32 (bits .or .u32 (nbI op f3 f7) (rgI rd r1 r2)) (orB n (cutP 7 11)) = op + f3 * 4096 + r1 * 32768 + r2 * 1048576 + bt n 4096 2 * 2147483648 + bt n 32 64 * 33554432 + bt n 2 16 * 256 + bt n 2048 2 * 128 := by
  subst zd
  subst y7
  rw [nbI_is op f3 0 (by omega) (by omega) (by omega), rgI_with _ 0 r1 r2 (by omega) (by omega) (by omega) (by omega) (by omega) (by omega) (by omega) (by omega), orB_4]
  have h0 := bt_in n 4096 2 (by decide)
  have h1 := bt_in n 32 64 (by decide)
  have h2 := bt_in n 2 16 (by decide)
  have h3 := bt_in n 2048 2 (by decide)
  generalize bt n 4096 2 = v0 at *
  generalize bt n 32 64 = v1 at *
  generalize bt n 2 16 = v2 at *
  generalize bt n 2048 2 = v3 at *
  have hb : 0 ≤ op + f3 * 4096 + 0 * 33554432 + 0 * 128 + r1 * 32768 + r2 * 1048576 ∧ op + f3 * 4096 + 0 * 33554432 + 0 * 128 + r1 * 32768 + r2 * 1048576 < 4294967296 := by omega
  have x3 := or_at_u (a := v0 * 2147483648 + v1 * 33554432 + v2 * 256) (v := v3) 7 1 (by omega) (by omega) h3.1 h3.2 (by omega) (by omega)
  simp only [Int.reducePow] at x3
  have s3 := or_more (op + f3 * 4096 + 0 * 33554432 + 0 * 128 + r1 * 32768 + r2 * 1048576) (v0 * 2147483648 + v1 * 33554432 + v2 * 256) (v3 * 128) hb.1 hb.2 (by omega) (by omega) (by omega) (by omega) x3
  have x2 := or_at_u (a := v0 * 2147483648 + v1 * 33554432) (v := v2) 8 4 (by omega) (by omega) h2.1 h2.2 (by omega) (by omega)
  simp only [Int.reducePow] at x2
  have s2 := or_more (op + f3 * 4096 + 0 * 33554432 + 0 * 128 + r1 * 32768 + r2 * 1048576) (v0 * 2147483648 + v1 * 33554432) (v2 * 256) hb.1 hb.2 (by omega) (by omega) (by omega) (by omega) x2
  have x1 := or_at_u (a := v0 * 2147483648) (v := v1) 25 6 (by omega) (by omega) h1.1 h1.2 (by omega) (by omega)
  simp only [Int.reducePow] at x1
  have s1 := or_more (op + f3 * 4096 + 0 * 33554432 + 0 * 128 + r1 * 32768 + r2 * 1048576) (v0 * 2147483648) (v1 * 33554432) hb.1 hb.2 (by omega) (by omega) (by omega) (by omega) x1
  have q0 := or_at_u (a := op + f3 * 4096 + 0 * 33554432 + 0 * 128 + r1 * 32768 + r2 * 1048576) (v := v0) 31 1 (by omega) (by omega) h0.1 h0.2 (by omega) (by omega)
  simp only [Int.reducePow] at q0
  have q1 := or_at_u (a := op + f3 * 4096 + 0 * 33554432 + 0 * 128 + r1 * 32768 + r2 * 1048576 + v0 * 2147483648) (v := v1) 25 6 (by omega) (by omega) h1.1 h1.2 (by omega) (by omega)
  simp only [Int.reducePow] at q1
  have q2 := or_at_u (a := op + f3 * 4096 + 0 * 33554432 + 0 * 128 + r1 * 32768 + r2 * 1048576 + v0 * 2147483648 + v1 * 33554432) (v := v2) 8 4 (by omega) (by omega) h2.1 h2.2 (by omega) (by omega)
  simp only [Int.reducePow] at q2
  have q3 := or_at_u (a := op + f3 * 4096 + 0 * 33554432 + 0 * 128 + r1 * 32768 + r2 * 1048576 + v0 * 2147483648 + v1 * 33554432 + v2 * 256) (v := v3) 7 1 (by omega) (by omega) h3.1 h3.2 (by omega) (by omega)
  simp only [Int.reducePow] at q3
  rw [s3, s2, s1, q0, q1, q2, q3]
  omega

set_option maxHeartbeats 1000000 in
theorem enc_5 (op f3 f7 rd r1 r2 n : Int) (o : 0 ≤ op ∧ op < 128) (a : 0 ≤ f3 ∧ f3 < 8) (b : 0 ≤ f7 ∧ f7 < 128) (d : 0 ≤ rd ∧ rd < 32) (e : 0 ≤ r1 ∧ r1 < 32) (g : 0 ≤ r2 ∧ r2 < 32) (zd : rd = 0) (y7 : f7 = 0) :
    bits .or .u32 (bits .or .u32 (nbI op f3 f7) (rgI rd r1 r2)) (orB n (cutP 11 13)) = op + f3 * 4096 + r1 * 32768 + r2 * 1048576 + bt n 32 128 * 33554432 + bt n 1 32 * 128 := by
  subst zd
  subst y7
  rw [nbI_is op f3 0 (by omega) (by omega) (by omega), rgI_with _ 0 r1 r2 (by omega) (by omega) (by omega) (by omega) (by omega) (by omega) (by omega) (by omega), orB_5]
  have h0 := bt_in n 32 128 (by decide)
  have h1 := bt_in n 1 32 (by decide)
  generalize bt n 32 128 = v0 at *
  generalize bt n 1 32 = v1 at *
  have hb : 0 ≤ op + f3 * 4096 + 0 * 33554432 + 0 * 128 + r1 * 32768 + r2 * 1048576 ∧ op + f3 * 4096 + 0 * 33554432 + 0 * 128 + r1 * 32768 + r2 * 1048576 < 4294967296 := by omega
  have x1 := or_at_u (a := v0 * 33554432) (v := v1) 7 5 (by omega) (by omega) h1.1 h1.2 (by omega) (by omega)
  simp only [Int.reducePow] at x1
  have s1 := or_more (op + f3 * 4096 + 0 * 33554432 + 0 * 128 + r1 * 32768 + r2 * 1048576) (v0 * 33554432) (v1 * 128) hb.1 hb.2 (by omega) (by omega) (by omega) (by omega) x1
  have q0 := or_at_u (a := op + f3 * 4096 + 0 * 33554432 + 0 * 128 + r1 * 32768 + r2 * 1048576) (v := v0) 25 7 (by omega) (by omega) h0.1 h0.2 (by omega) (by omega)
  simp only [Int.reducePow] at q0
  have q1 := or_at_u (a := op + f3 * 4096 + 0 * 33554432 + 0 * 128 + r1 * 32768 + r2 * 1048576 + v0 * 33554432) (v := v1) 7 5 (by omega) (by omega) h1.1 h1.2 (by omega) (by omega)
  simp only [Int.reducePow] at q1
  rw [s1, q0, q1]
  omega

set_option maxHeartbeats 1000000 in
theorem enc_6 (op f3 f7 rd r1 r2 n : Int) (o : 0 ≤ op ∧ op < 128) (a : 0 ≤ f3 ∧ f3 < 8) (b : 0 ≤ f7 ∧ f7 < 128) (d : 0 ≤ rd ∧ rd < 32) (e : 0 ≤ r1 ∧ r1 < 32) (g : 0 ≤ r2 ∧ r2 < 32) :
    bits .or .u32 (bits .or .u32 (nbI op f3 f7) (rgI rd r1 r2)) (orB n (cutP 0 0)) = op + f3 * 4096 + f7 * 33554432 + rd * 128 + r1 * 32768 + r2 * 1048576 := by
  rw [nbI_is op f3 f7 (by omega) (by omega) (by omega), rgI_with _ rd r1 r2 (by omega) (by omega) (by omega) (by omega) (by omega) (by omega) (by omega) (by omega), orB_6]
  have hb : 0 ≤ op + f3 * 4096 + f7 * 33554432 + rd * 128 + r1 * 32768 + r2 * 1048576 ∧ op + f3 * 4096 + f7 * 33554432 + rd * 128 + r1 * 32768 + r2 * 1048576 < 4294967296 := by omega
  have q := or_at_u (a := op + f3 * 4096 + f7 * 33554432 + rd * 128 + r1 * 32768 + r2 * 1048576) (v := 0) 31 0 hb.1 hb.2 (by omega) (by omega) (by omega) (by omega)
  simp only [Int.reducePow, Int.zero_mul, Int.add_zero] at q ⊢
  rw [q]

set_option maxHeartbeats 1000000 in
theorem enc_7 (op f3 f7 rd r1 r2 n : Int) (o : (0 ≤ op ∧ op < 128) ∨ op = 1048691) (a : 0 ≤ f3 ∧ f3 < 8) (b : 0 ≤ f7 ∧ f7 < 128) (d : 0 ≤ rd ∧ rd < 32) (e : 0 ≤ r1 ∧ r1 < 32) (g : 0 ≤ r2 ∧ r2 < 32) (zd : rd = 0) (z1 : r1 = 0) (z2 : r2 = 0) (y3 : f3 = 0) (y7 : f7 = 0) :
    bits .or .u32 (bits .or .u32 (nbI op f3 f7) (rgI rd r1 r2)) (orB n (cutP 0 0)) = op := by
  subst zd
  subst z1
  subst z2
  subst y3
  subst y7
  rw [nbI_is op 0 0 (by omega) (by omega) (by omega), rgI_with _ 0 0 0 (by omega) (by omega) (by omega) (by omega) (by omega) (by omega) (by omega) (by omega), orB_7]
  have hb : 0 ≤ op + 0 * 4096 + 0 * 33554432 + 0 * 128 + 0 * 32768 + 0 * 1048576 ∧ op + 0 * 4096 + 0 * 33554432 + 0 * 128 + 0 * 32768 + 0 * 1048576 < 4294967296 := by omega
  have q := or_at_u (a := op + 0 * 4096 + 0 * 33554432 + 0 * 128 + 0 * 32768 + 0 * 1048576) (v := 0) 7 5 hb.1 hb.2 (by omega) (by omega) (by omega) (by omega)
  simp only [Int.reducePow, Int.zero_mul, Int.add_zero] at q ⊢
  rw [q]

end Go.Proofs.Ytcdeckbobabdkaa
