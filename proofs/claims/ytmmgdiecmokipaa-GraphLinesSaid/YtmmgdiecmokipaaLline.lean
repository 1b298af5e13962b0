/-
  Proved: GraphLines answers true.
-/
import Derived.Test.YtmmgdiecmokipaaLlines
namespace Go.Proofs.Ytmmgdiecmokipaa
open Go.RowKit

theorem graphLines_walk (z x y : Int) (w : World) : Calls Try.prog 6 #[.int .i64 z, .int .i64 x, .int .i64 y] w fun e w' => e = .returned (.bool true) ∧ Below w.heap.size w w' := by
  have hm0 : bits .and .i64 z 15 = z % 16 := and_mask z 4 (by decide)
  have hm : bits .and .i64 z 15 = ((z % 16).toNat : Int) := by rw [hm0]; omega
  have hk : (z % 16).toNat ≤ 15 := by omega
  generalize (z % 16).toNat = k at *
  obtain ⟨ta, h1, h2⟩ := turn_of x ((3 + k : Nat) : Int) (by omega) (by omega)
  obtain ⟨tb, h3, h4⟩ := turn_of y ((3 + k : Nat) : Int) (by omega) (by omega)
  rcases Nat.lt_or_ge tb ta with hlt | hge
  · exact lines_pos z x y k (3 + k) tb ta ta tb hm (by omega) (by omega) h1 h3 (Or.inl ⟨hlt, rfl, rfl⟩) (by omega) w
  · exact lines_pos z x y k (3 + k) ta tb ta tb hm (by omega) (by omega) h1 h3 (Or.inr ⟨by omega, rfl, rfl⟩) (by omega) w
end Go.Proofs.Ytmmgdiecmokipaa
