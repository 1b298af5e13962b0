/-
  Proved: words of instructions, as numbers: what is encoded by a row is read off as it was, and a word is one of a row just if its fixed bits are the row's.
-/
import Derived.Test.YtcdeckbobabdkaaRows
namespace Go.Proofs.Ytcdeckbobabdkaa

/-- The bits of a number from one on, so many (both told as powers of two); the number counts modulo 2^32. -/
def bt (n f m : Int) : Int := n % 4294967296 / f % m

/-- A number with its sign; h: half of the range. -/
def sgd (n h : Int) : Int := if n ≥ h then n - 2 * h else n

/-- An instruction but for its name. -/
structure Ins where
  rd : Int
  r1 : Int
  r2 : Int
  im : Int

theorem Ins.ext' {a b : Ins} (h1 : a.rd = b.rd) (h2 : a.r1 = b.r1) (h3 : a.r2 = b.r2) (h4 : a.im = b.im) : a = b := by
  cases a; cases b; simp_all

/-- A form's number: 0 U, 1 J, 2 I, 3 shift, 4 B, 5 S, 6 R, 7 ecall, 8 ebreak. -/
structure Rw where
  fm : Nat
  op : Int
  f3 : Int
  f7 : Int

/-- The registers are registers. -/
def regs (i : Ins) : Prop := (0 ≤ i.rd ∧ i.rd ≤ 31) ∧ (0 ≤ i.r1 ∧ i.r1 ≤ 31) ∧ (0 ≤ i.r2 ∧ i.r2 ≤ 31)

/-- Is it an instruction of a row? -/
def tk (r : Rw) (i : Ins) : Prop :=
  regs i ∧
  match r.fm with
  | 0 => i.r1 = 0 ∧ i.r2 = 0 ∧ 0 ≤ i.im ∧ i.im ≤ 1048575
  | 1 => i.r1 = 0 ∧ i.r2 = 0 ∧ -1048576 ≤ i.im ∧ i.im ≤ 1048574 ∧ i.im % 2 = 0
  | 2 => i.r2 = 0 ∧ -2048 ≤ i.im ∧ i.im ≤ 2047
  | 3 => i.r2 = 0 ∧ 0 ≤ i.im ∧ i.im ≤ 31
  | 4 => i.rd = 0 ∧ -4096 ≤ i.im ∧ i.im ≤ 4094 ∧ i.im % 2 = 0
  | 5 => i.rd = 0 ∧ -2048 ≤ i.im ∧ i.im ≤ 2047
  | 6 => i.im = 0
  | _ => i.rd = 0 ∧ i.r1 = 0 ∧ i.r2 = 0 ∧ i.im = 0

/-- The word of an instruction of a row. -/
def wo (r : Rw) (i : Ins) : Int :=
  match r.fm with
  | 0 => r.op + r.f3 * 4096 + i.rd * 128 + i.im * 4096
  | 1 => r.op + r.f3 * 4096 + i.rd * 128 + bt i.im 4096 256 * 4096 + bt i.im 2048 2 * 1048576 + bt i.im 2 1024 * 2097152 + bt i.im 1048576 2 * 2147483648
  | 2 => r.op + r.f3 * 4096 + i.rd * 128 + i.r1 * 32768 + bt i.im 1 4096 * 1048576
  | 3 => r.op + r.f3 * 4096 + i.rd * 128 + i.r1 * 32768 + i.im * 1048576 + r.f7 * 33554432
  | 4 => r.op + r.f3 * 4096 + i.r1 * 32768 + i.r2 * 1048576 + bt i.im 2048 2 * 128 + bt i.im 2 16 * 256 + bt i.im 32 64 * 33554432 + bt i.im 4096 2 * 2147483648
  | 5 => r.op + r.f3 * 4096 + i.r1 * 32768 + i.r2 * 1048576 + bt i.im 1 32 * 128 + bt i.im 32 128 * 33554432
  | 6 => r.op + r.f3 * 4096 + i.rd * 128 + i.r1 * 32768 + i.r2 * 1048576 + r.f7 * 33554432
  | 7 => 115
  | _ => 1048691

/-- What a word's fields are as an instruction of a row. -/
def fo (r : Rw) (w : Int) : Ins :=
  match r.fm with
  | 0 => ⟨bt w 128 32, 0, 0, bt w 4096 1048576⟩
  | 1 => ⟨bt w 128 32, 0, 0, sgd (bt w 2097152 1024 * 2 + bt w 1048576 2 * 2048 + bt w 4096 256 * 4096 + bt w 2147483648 2 * 1048576) 1048576⟩
  | 2 => ⟨bt w 128 32, bt w 32768 32, 0, sgd (bt w 1048576 4096) 2048⟩
  | 3 => ⟨bt w 128 32, bt w 32768 32, 0, bt w 1048576 32⟩
  | 4 => ⟨0, bt w 32768 32, bt w 1048576 32, sgd (bt w 256 16 * 2 + bt w 33554432 64 * 32 + bt w 128 2 * 2048 + bt w 2147483648 2 * 4096) 4096⟩
  | 5 => ⟨0, bt w 32768 32, bt w 1048576 32, sgd (bt w 128 32 + bt w 33554432 128 * 32) 2048⟩
  | 6 => ⟨bt w 128 32, bt w 32768 32, bt w 1048576 32, 0⟩
  | _ => ⟨0, 0, 0, 0⟩

/-- The fixed bits of a row: does a word have them? -/
def fx (r : Rw) (w : Int) : Prop :=
  match r.fm with
  | 0 => w % 128 = r.op
  | 1 => w % 128 = r.op
  | 2 => w % 128 = r.op ∧ w / 4096 % 8 = r.f3
  | 3 => w % 128 = r.op ∧ w / 4096 % 8 = r.f3 ∧ w / 33554432 % 128 = r.f7
  | 4 => w % 128 = r.op ∧ w / 4096 % 8 = r.f3
  | 5 => w % 128 = r.op ∧ w / 4096 % 8 = r.f3
  | 6 => w % 128 = r.op ∧ w / 4096 % 8 = r.f3 ∧ w / 33554432 % 128 = r.f7
  | 7 => w = 115
  | _ => w = 1048691

/-- A row whose numbers fit their fields; U and J have no f3. -/
def Fit (r : Rw) : Prop := (0 ≤ r.op ∧ r.op < 128) ∧ (0 ≤ r.f3 ∧ r.f3 < 8) ∧ (0 ≤ r.f7 ∧ r.f7 < 128) ∧ (r.fm ≤ 1 → r.f3 = 0) ∧ r.fm ≤ 8

theorem bt_in (n f m : Int) (h : 0 < m) : 0 ≤ bt n f m ∧ bt n f m < m := by
  unfold bt
  exact ⟨Int.emod_nonneg _ (by omega), Int.emod_lt_of_pos _ h⟩

theorem bt_of (w : Int) (h0 : 0 ≤ w) (h1 : w < 4294967296) (f m : Int) : bt w f m = w / f % m := by
  unfold bt; rw [Int.emod_eq_of_lt h0 h1]

theorem wo_in {r : Rw} {i : Ins} (hf : Fit r) (ht : tk r i) : 0 ≤ wo r i ∧ wo r i < 4294967296 := by
  obtain ⟨fm, op, f3, f7⟩ := r
  obtain ⟨rd, r1, r2, im⟩ := i
  unfold Fit at hf
  unfold tk regs at ht
  simp only at hf ht
  have h5 : fm = 0 ∨ fm = 1 ∨ fm = 2 ∨ fm = 3 ∨ fm = 4 ∨ fm = 5 ∨ fm = 6 ∨ fm = 7 ∨ fm = 8 := by omega
  rcases h5 with rfl | rfl | rfl | rfl | rfl | rfl | rfl | rfl | rfl <;> simp only [wo, bt] at * <;> omega

theorem fo_wo {r : Rw} {i : Ins} (hf : Fit r) (ht : tk r i) : fo r (wo r i) = i := by
  have hw := wo_in hf ht
  have hb := bt_of _ hw.1 hw.2
  obtain ⟨fm, op, f3, f7⟩ := r
  obtain ⟨rd, r1, r2, im⟩ := i
  unfold Fit at hf
  unfold tk regs at ht
  have h5 : fm = 0 ∨ fm = 1 ∨ fm = 2 ∨ fm = 3 ∨ fm = 4 ∨ fm = 5 ∨ fm = 6 ∨ fm = 7 ∨ fm = 8 := by simp only at hf; omega
  rcases h5 with rfl | rfl | rfl | rfl | rfl | rfl | rfl | rfl | rfl
  · simp only [wo] at hb ⊢
    simp only [fo, Ins.mk.injEq, hb]
    clear hb hw
    simp only at hf ht
    omega
  · simp only [wo] at hb ⊢
    simp only [fo, Ins.mk.injEq, hb]
    clear hb hw
    simp only at hf ht
    have e : im = sgd (bt im 2 1024 * 2 + bt im 2048 2 * 2048 + bt im 4096 256 * 4096 + bt im 1048576 2 * 1048576) 1048576 := by unfold bt sgd; split <;> omega
    have hA := bt_in im 4096 256 (by decide)
    generalize bt im 4096 256 = A at *
    have hB := bt_in im 2048 2 (by decide)
    generalize bt im 2048 2 = B at *
    have hC := bt_in im 2 1024 (by decide)
    generalize bt im 2 1024 = C at *
    have hD := bt_in im 1048576 2 (by decide)
    generalize bt im 1048576 2 = D at *
    have gA : (op + f3 * 4096 + rd * 128 + A * 4096 + B * 1048576 + C * 2097152 + D * 2147483648) / 4096 % 256 = A := by clear e; omega
    have gB : (op + f3 * 4096 + rd * 128 + A * 4096 + B * 1048576 + C * 2097152 + D * 2147483648) / 1048576 % 2 = B := by clear e; omega
    have gC : (op + f3 * 4096 + rd * 128 + A * 4096 + B * 1048576 + C * 2097152 + D * 2147483648) / 2097152 % 1024 = C := by clear e; omega
    have gD : (op + f3 * 4096 + rd * 128 + A * 4096 + B * 1048576 + C * 2097152 + D * 2147483648) / 2147483648 % 2 = D := by clear e; omega
    rw [gA, gB, gC, gD]
    exact ⟨by clear e; omega, by clear e; omega, by clear e; omega, e.symm⟩
  · simp only [wo] at hb ⊢
    simp only [fo, Ins.mk.injEq, hb]
    clear hb hw
    simp only at hf ht
    have e : im = sgd (bt im 1 4096) 2048 := by unfold bt sgd; split <;> omega
    have hA := bt_in im 1 4096 (by decide)
    generalize bt im 1 4096 = A at *
    have gA : (op + f3 * 4096 + rd * 128 + r1 * 32768 + A * 1048576) / 1048576 % 4096 = A := by clear e; omega
    rw [gA]
    exact ⟨by clear e; omega, by clear e; omega, by clear e; omega, e.symm⟩
  · simp only [wo] at hb ⊢
    simp only [fo, Ins.mk.injEq, hb]
    clear hb hw
    simp only at hf ht
    omega
  · simp only [wo] at hb ⊢
    simp only [fo, Ins.mk.injEq, hb]
    clear hb hw
    simp only at hf ht
    have e : im = sgd (bt im 2 16 * 2 + bt im 32 64 * 32 + bt im 2048 2 * 2048 + bt im 4096 2 * 4096) 4096 := by unfold bt sgd; split <;> omega
    have hA := bt_in im 2048 2 (by decide)
    generalize bt im 2048 2 = A at *
    have hB := bt_in im 2 16 (by decide)
    generalize bt im 2 16 = B at *
    have hC := bt_in im 32 64 (by decide)
    generalize bt im 32 64 = C at *
    have hD := bt_in im 4096 2 (by decide)
    generalize bt im 4096 2 = D at *
    have gA : (op + f3 * 4096 + r1 * 32768 + r2 * 1048576 + A * 128 + B * 256 + C * 33554432 + D * 2147483648) / 128 % 2 = A := by clear e; omega
    have gB : (op + f3 * 4096 + r1 * 32768 + r2 * 1048576 + A * 128 + B * 256 + C * 33554432 + D * 2147483648) / 256 % 16 = B := by clear e; omega
    have gC : (op + f3 * 4096 + r1 * 32768 + r2 * 1048576 + A * 128 + B * 256 + C * 33554432 + D * 2147483648) / 33554432 % 64 = C := by clear e; omega
    have gD : (op + f3 * 4096 + r1 * 32768 + r2 * 1048576 + A * 128 + B * 256 + C * 33554432 + D * 2147483648) / 2147483648 % 2 = D := by clear e; omega
    rw [gA, gB, gC, gD]
    exact ⟨by clear e; omega, by clear e; omega, by clear e; omega, e.symm⟩
  · simp only [wo] at hb ⊢
    simp only [fo, Ins.mk.injEq, hb]
    clear hb hw
    simp only at hf ht
    have e : im = sgd (bt im 1 32 + bt im 32 128 * 32) 2048 := by unfold bt sgd; split <;> omega
    have hA := bt_in im 1 32 (by decide)
    generalize bt im 1 32 = A at *
    have hB := bt_in im 32 128 (by decide)
    generalize bt im 32 128 = B at *
    have gA : (op + f3 * 4096 + r1 * 32768 + r2 * 1048576 + A * 128 + B * 33554432) / 128 % 32 = A := by clear e; omega
    have gB : (op + f3 * 4096 + r1 * 32768 + r2 * 1048576 + A * 128 + B * 33554432) / 33554432 % 128 = B := by clear e; omega
    rw [gA, gB]
    exact ⟨by clear e; omega, by clear e; omega, by clear e; omega, e.symm⟩
  · simp only [wo] at hb ⊢
    simp only [fo, Ins.mk.injEq, hb]
    clear hb hw
    simp only at hf ht
    omega
  · simp only [fo, Ins.mk.injEq] at *; omega
  · simp only [fo, Ins.mk.injEq] at *; omega

theorem fx_wo {r : Rw} {i : Ins} (hf : Fit r) (ht : tk r i) : fx r (wo r i) := by
  obtain ⟨fm, op, f3, f7⟩ := r
  obtain ⟨rd, r1, r2, im⟩ := i
  unfold Fit at hf
  unfold tk regs at ht
  simp only at hf ht
  have h5 : fm = 0 ∨ fm = 1 ∨ fm = 2 ∨ fm = 3 ∨ fm = 4 ∨ fm = 5 ∨ fm = 6 ∨ fm = 7 ∨ fm = 8 := by omega
  rcases h5 with rfl | rfl | rfl | rfl | rfl | rfl | rfl | rfl | rfl
  · simp only [wo, fx] at *; omega
  · simp only [wo, fx] at *
    have a := bt_in im 4096 256 (by decide); have b := bt_in im 2048 2 (by decide); have c := bt_in im 2 1024 (by decide); have d := bt_in im 1048576 2 (by decide)
    generalize bt im 4096 256 = A at *; generalize bt im 2048 2 = B at *; generalize bt im 2 1024 = C at *; generalize bt im 1048576 2 = D at *
    omega
  · simp only [wo, fx] at *
    have a := bt_in im 1 4096 (by decide)
    generalize bt im 1 4096 = A at *
    omega
  · simp only [wo, fx] at *; omega
  · simp only [wo, fx] at *
    have a := bt_in im 2048 2 (by decide); have b := bt_in im 2 16 (by decide); have c := bt_in im 32 64 (by decide); have d := bt_in im 4096 2 (by decide)
    generalize bt im 2048 2 = A at *; generalize bt im 2 16 = B at *; generalize bt im 32 64 = C at *; generalize bt im 4096 2 = D at *
    omega
  · simp only [wo, fx] at *
    have a := bt_in im 1 32 (by decide); have b := bt_in im 32 128 (by decide)
    generalize bt im 1 32 = A at *; generalize bt im 32 128 = B at *
    omega
  · simp only [wo, fx] at *; omega
  · simp only [wo, fx] at *
  · simp only [wo, fx] at *

/-- A word that has a row's fixed bits is one of its instructions: of its own fields. -/
theorem of_fx {r : Rw} {w : Int} (hf : Fit r) (h0 : 0 ≤ w) (h1 : w < 4294967296) (hx : fx r w) : tk r (fo r w) ∧ wo r (fo r w) = w := by
  have hb := bt_of w h0 h1
  obtain ⟨fm, op, f3, f7⟩ := r
  unfold Fit at hf
  have h5 : fm = 0 ∨ fm = 1 ∨ fm = 2 ∨ fm = 3 ∨ fm = 4 ∨ fm = 5 ∨ fm = 6 ∨ fm = 7 ∨ fm = 8 := by simp only at hf; omega
  rcases h5 with rfl | rfl | rfl | rfl | rfl | rfl | rfl | rfl | rfl
  · have h3 : f3 = 0 := hf.2.2.2.1 (Nat.le_of_ble_eq_true rfl)
    subst h3
    simp only [fx] at hx hf; simp only [tk, regs, wo, fo, hb, true_and]; clear hb; constructor <;> omega
  · have h3 : f3 = 0 := hf.2.2.2.1 (Nat.le_of_ble_eq_true rfl)
    subst h3
    simp only [fx] at hx hf; simp only [tk, regs, wo, fo, hb, true_and]; clear hb
    have e : w = w % 128 + w / 128 % 32 * 128 + w / 4096 % 256 * 4096 + w / 1048576 % 2 * 1048576 + w / 2097152 % 1024 * 2097152 + w / 2147483648 % 2 * 2147483648 := by omega
    have hA : 0 ≤ w / 4096 % 256 ∧ w / 4096 % 256 < 256 := by omega
    have hB : 0 ≤ w / 1048576 % 2 ∧ w / 1048576 % 2 < 2 := by omega
    have hC : 0 ≤ w / 2097152 % 1024 ∧ w / 2097152 % 1024 < 1024 := by omega
    have hD : 0 ≤ w / 2147483648 % 2 ∧ w / 2147483648 % 2 < 2 := by omega
    have hR : 0 ≤ w / 128 % 32 ∧ w / 128 % 32 < 32 := by omega
    generalize w / 4096 % 256 = A at *
    generalize w / 1048576 % 2 = B at *
    generalize w / 2097152 % 1024 = C at *
    generalize w / 2147483648 % 2 = D at *
    generalize w / 128 % 32 = R at *
    have hD2 : D = 0 ∨ D = 1 := by omega
    have hs : sgd (C * 2 + B * 2048 + A * 4096 + D * 1048576) 1048576 = C * 2 + B * 2048 + A * 4096 - D * 1048576 := by unfold sgd; split <;> omega
    rw [hs]
    refine ⟨by omega, ?_⟩
    have a1 : bt (C * 2 + B * 2048 + A * 4096 - D * 1048576) 4096 256 = A := by unfold bt; clear e hs; rcases hD2 with rfl | rfl <;> omega
    have a2 : bt (C * 2 + B * 2048 + A * 4096 - D * 1048576) 2048 2 = B := by unfold bt; clear e hs; rcases hD2 with rfl | rfl <;> omega
    have a3 : bt (C * 2 + B * 2048 + A * 4096 - D * 1048576) 2 1024 = C := by unfold bt; clear e hs; rcases hD2 with rfl | rfl <;> omega
    have a4 : bt (C * 2 + B * 2048 + A * 4096 - D * 1048576) 1048576 2 = D := by unfold bt; clear e hs; rcases hD2 with rfl | rfl <;> omega
    rw [a1, a2, a3, a4]; omega
  · simp only [fx] at hx hf; simp only [tk, regs, wo, fo, hb, true_and]; clear hb
    have e : w = w % 128 + w / 128 % 32 * 128 + w / 4096 % 8 * 4096 + w / 32768 % 32 * 32768 + w / 1048576 % 4096 * 1048576 := by omega
    have hA : 0 ≤ w / 1048576 % 4096 ∧ w / 1048576 % 4096 < 4096 := by omega
    generalize w / 1048576 % 4096 = A at *
    have hs : sgd A 2048 = if A ≥ 2048 then A - 4096 else A := rfl
    have a1 : bt (sgd A 2048) 1 4096 = A := by unfold bt sgd; split <;> omega
    rw [a1]
    refine ⟨?_, by omega⟩
    rw [hs]; split <;> omega
  · simp only [fx] at hx hf; simp only [tk, regs, wo, fo, hb, true_and]; clear hb; constructor <;> omega
  · simp only [fx] at hx hf; simp only [tk, regs, wo, fo, hb, true_and]; clear hb
    have e : w = w % 128 + w / 128 % 2 * 128 + w / 256 % 16 * 256 + w / 4096 % 8 * 4096 + w / 32768 % 32 * 32768 + w / 1048576 % 32 * 1048576 + w / 33554432 % 64 * 33554432 + w / 2147483648 % 2 * 2147483648 := by omega
    have hA : 0 ≤ w / 128 % 2 ∧ w / 128 % 2 < 2 := by omega
    have hB : 0 ≤ w / 256 % 16 ∧ w / 256 % 16 < 16 := by omega
    have hC : 0 ≤ w / 33554432 % 64 ∧ w / 33554432 % 64 < 64 := by omega
    have hD : 0 ≤ w / 2147483648 % 2 ∧ w / 2147483648 % 2 < 2 := by omega
    have hR : 0 ≤ w / 32768 % 32 ∧ w / 32768 % 32 < 32 := by omega
    have hS : 0 ≤ w / 1048576 % 32 ∧ w / 1048576 % 32 < 32 := by omega
    generalize w / 128 % 2 = A at *
    generalize w / 256 % 16 = B at *
    generalize w / 33554432 % 64 = C at *
    generalize w / 2147483648 % 2 = D at *
    generalize w / 32768 % 32 = R at *
    generalize w / 1048576 % 32 = S at *
    have hD2 : D = 0 ∨ D = 1 := by omega
    have hs : sgd (B * 2 + C * 32 + A * 2048 + D * 4096) 4096 = B * 2 + C * 32 + A * 2048 - D * 4096 := by unfold sgd; split <;> omega
    rw [hs]
    refine ⟨by omega, ?_⟩
    have a1 : bt (B * 2 + C * 32 + A * 2048 - D * 4096) 2048 2 = A := by unfold bt; clear e hs; rcases hD2 with rfl | rfl <;> omega
    have a2 : bt (B * 2 + C * 32 + A * 2048 - D * 4096) 2 16 = B := by unfold bt; clear e hs; rcases hD2 with rfl | rfl <;> omega
    have a3 : bt (B * 2 + C * 32 + A * 2048 - D * 4096) 32 64 = C := by unfold bt; clear e hs; rcases hD2 with rfl | rfl <;> omega
    have a4 : bt (B * 2 + C * 32 + A * 2048 - D * 4096) 4096 2 = D := by unfold bt; clear e hs; rcases hD2 with rfl | rfl <;> omega
    rw [a1, a2, a3, a4]; omega
  · simp only [fx] at hx hf; simp only [tk, regs, wo, fo, hb, true_and]; clear hb
    have e : w = w % 128 + w / 128 % 32 * 128 + w / 4096 % 8 * 4096 + w / 32768 % 32 * 32768 + w / 1048576 % 32 * 1048576 + w / 33554432 % 128 * 33554432 := by omega
    have hA : 0 ≤ w / 128 % 32 ∧ w / 128 % 32 < 32 := by omega
    have hB : 0 ≤ w / 33554432 % 128 ∧ w / 33554432 % 128 < 128 := by omega
    generalize w / 128 % 32 = A at *
    generalize w / 33554432 % 128 = B at *
    have a0 : -2048 ≤ sgd (A + B * 32) 2048 ∧ sgd (A + B * 32) 2048 ≤ 2047 := by unfold sgd; split <;> omega
    have a1 : bt (sgd (A + B * 32) 2048) 1 32 = A := by unfold bt sgd; split <;> omega
    have a2 : bt (sgd (A + B * 32) 2048) 32 128 = B := by unfold bt sgd; split <;> omega
    rw [a1, a2]
    exact ⟨by omega, by omega⟩
  · simp only [fx] at hx hf; simp only [tk, regs, wo, fo, hb, and_true]; clear hb; constructor <;> omega
  · simp only [fx] at hx; simp only [tk, regs, wo, fo]; exact ⟨by decide, hx.symm⟩
  · simp only [fx] at hx; simp only [tk, regs, wo, fo]; exact ⟨by decide, hx.symm⟩

theorem fx_iff {r : Rw} {w : Int} (hf : Fit r) (h0 : 0 ≤ w) (h1 : w < 4294967296) : (tk r (fo r w) ∧ wo r (fo r w) = w) ↔ fx r w :=
  ⟨fun h => h.2 ▸ fx_wo hf h.1, of_fx hf h0 h1⟩
end Go.Proofs.Ytcdeckbobabdkaa
