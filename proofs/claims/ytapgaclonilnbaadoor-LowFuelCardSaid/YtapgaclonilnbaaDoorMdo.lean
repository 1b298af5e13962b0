/-
  Proved: the reference's Do, operation by operation.
-/
import Derived.Test.YtapgaclonilnbaaDoorMword
namespace Go.Proofs.YtapgaclonilnbaaDoor
open Go.RowKit

/-- By how many a shift goes. -/
def sh (b : Int) : Nat := (wh b % 32).toNat

/-- What add makes of two words. -/
def m_add (a b : Int) : Int := wd (a + b)
/-- What sub makes of two words. -/
def m_sub (a b : Int) : Int := wd (a - b)
/-- What mul makes of two words. -/
def m_mul (a b : Int) : Int := wd (a * b)
/-- What mulh makes of two words. -/
def m_mulh (a b : Int) : Int := wd (hi a b)
/-- What mulhu makes of two words. -/
def m_mulhu (a b : Int) : Int := wd (hi (wh a) (wh b))
/-- What div makes of two words. -/
def m_div (a b : Int) : Int := wd (qt a b)
/-- What divu makes of two words. -/
def m_divu (a b : Int) : Int := wd (qt (wh a) (wh b))
/-- What rem makes of two words. -/
def m_rem (a b : Int) : Int := wd (rm a b)
/-- What remu makes of two words. -/
def m_remu (a b : Int) : Int := wd (rm (wh a) (wh b))
/-- What and makes of two words. -/
def m_and (a b : Int) : Int := bits .and .i64 a b
/-- What or makes of two words. -/
def m_or (a b : Int) : Int := bits .or .i64 a b
/-- What xor makes of two words. -/
def m_xor (a b : Int) : Int := bits .xor .i64 a b
/-- What sll makes of two words. -/
def m_sll (a b : Int) : Int := wd (wh a * 2 ^ sh b)
/-- What srl makes of two words. -/
def m_srl (a b : Int) : Int := wd (wh a / 2 ^ sh b)
/-- What sra makes of two words. -/
def m_sra (a b : Int) : Int := wd (a / 2 ^ sh b)
/-- What slt makes of two words. -/
def m_slt (a b : Int) : Int := if a < b then 1 else 0
/-- What sltu makes of two words. -/
def m_sltu (a b : Int) : Int := if wh a < wh b then 1 else 0

theorem below_drn (w : World) (m : Nat) : Below w.heap.size w (w.drewN m) := have h := Below.refl w.heap.size w; ⟨h.os, h.tape, h.output, h.size, h.block⟩

theorem wh_wd (a : Int) : wh (wd a) = wh a := by unfold wh wd; omega

theorem pw_in (s : Int) (h : 0 ≤ s) (h' : s < 32) : 1 ≤ (2 : Int) ^ s.toNat ∧ (2 : Int) ^ s.toNat ≤ 2147483648 := by
  have p0 : (0 : Int) < 2 ^ s.toNat := Int.pow_pos (by decide)
  have p1 : (2 : Nat) ^ s.toNat ≤ 2 ^ 31 := Nat.pow_le_pow_right (by decide) (by omega)
  have e : ((2 ^ s.toNat : Nat) : Int) = (2 : Int) ^ s.toNat := by simp
  omega

/-- The names of the operations. -/
def opN : List (List UInt8) := [[97, 100, 100], [115, 117, 98], [109, 117, 108], [109, 117, 108, 104], [109, 117, 108, 104, 117], [100, 105, 118], [100, 105, 118, 117], [114, 101, 109], [114, 101, 109, 117], [97, 110, 100], [111, 114], [120, 111, 114], [115, 108, 108], [115, 114, 108], [115, 114, 97], [115, 108, 116], [115, 108, 116, 117]]

end Go.Proofs.YtapgaclonilnbaaDoor
