/-
  Proved: the program that LowFuel begins with lies in memory; how its run ends.
-/
import Derived.Test.YtapgaclonilnbaaDoorLsame
namespace Go.Proofs.YtapgaclonilnbaaDoor
open Go.RowKit
set_option linter.unusedVariables false
set_option linter.unusedSimpArgs false

def litF : List Lf := [⟨mainT, 1, [], 0, 0, false, [⟨[⟨1, 0, 0, 0, -1, ⟨#[]⟩, [], []⟩, ⟨8, 0, 0, 0, 1, ⟨#[]⟩, [], []⟩], ⟨4, 0, 0, 0, 0, ⟨#[]⟩, []⟩⟩]⟩]

theorem lit_run : runE litF [] 5 = ((1, 101), [4294967295], 3) := by decide +kernel

theorem At.row {w : World} {b : Nat} {cs : Array Value} {t : TypeId} (h : At w b cs t) (o : Nat) (ds : List Value) (e : ∀ j v, ds[j]? = some v → cs[o + j]? = some v) : RowAt w b o ds :=
  ⟨h.lt, fun j v q => by rw [h.cell]; exact e j v q⟩

theorem nos_nil (w : World) : NosIn w [] (.slice none 0 0) := ⟨by simp, none, 0, rfl, fun i hi => absurd hi (by simp)⟩

def losC : Array Value := #[.int .i64 1, .int .i64 0, .int .i64 0, .int .i64 0, .int .i64 (-1), .string ⟨#[]⟩, .slice none 0 0, .slice none 0 0, .int .i64 8, .int .i64 0, .int .i64 0, .int .i64 0, .int .i64 1, .string ⟨#[]⟩, .slice none 0 0, .slice none 0 0]
def lbsC (b : Nat) : Array Value := #[.slice (some ⟨b, 0, none⟩) 2 2, .int .i64 4, .int .i64 0, .int .i64 0, .int .i64 0, .int .i64 0, .string ⟨#[]⟩, .slice none 0 0]
def lfsC (b : Nat) : Array Value := #[.string mainT, .int .i64 1, .slice none 0 0, .int .i64 0, .int .i64 0, .bool false, .slice (some ⟨b, 0, none⟩) 1 1]

theorem lit_in {w : World} {b1 b2 b3 : Nat} {t1 t2 t3 : TypeId} (h1 : At w b1 losC t1) (h2 : At w b2 (lbsC b1) t2) (h3 : At w b3 (lfsC b2) t3) : LfsIn w litF (.slice (some ⟨b3, 0, none⟩) litF.length 1) := by
  have L1 : LiIn w [⟨1, 0, 0, 0, -1, ⟨#[]⟩, [], []⟩, ⟨8, 0, 0, 0, 1, ⟨#[]⟩, [], []⟩] (.slice (some ⟨b1, 0, none⟩) 2 2) := by
    refine ⟨by simp, _, _, rfl, fun i hi => ?_⟩
    have hi : i < 2 := hi
    rcases i with _ | _ | i
    · refine ⟨b1, 0, loC ⟨1, 0, 0, 0, -1, ⟨#[]⟩, [], []⟩ (.slice none 0 0) (.slice none 0 0), rfl, h1.row _ _ fun j v e => ?_, _, _, rfl, (show (⟨#[]⟩ : ByteArray).size ≤ maxLen by decide), nos_nil w, nos_nil w⟩
      rcases j with _ | _ | _ | _ | _ | _ | _ | _ | j
      all_goals first | exact e | (simp [loC] at e)
    · refine ⟨b1, 0, loC ⟨8, 0, 0, 0, 1, ⟨#[]⟩, [], []⟩ (.slice none 0 0) (.slice none 0 0), rfl, h1.row _ _ fun j v e => ?_, _, _, rfl, (show (⟨#[]⟩ : ByteArray).size ≤ maxLen by decide), nos_nil w, nos_nil w⟩
      rcases j with _ | _ | _ | _ | _ | _ | _ | _ | j
      all_goals first | exact e | (simp [loC] at e)
    · omega
  have L2 : LbsIn w [⟨[⟨1, 0, 0, 0, -1, ⟨#[]⟩, [], []⟩, ⟨8, 0, 0, 0, 1, ⟨#[]⟩, [], []⟩], ⟨4, 0, 0, 0, 0, ⟨#[]⟩, []⟩⟩] (.slice (some ⟨b2, 0, none⟩) 1 1) := by
    refine ⟨by simp, _, _, rfl, fun i hi => ?_⟩
    have hi : i < 1 := hi
    obtain rfl : i = 0 := by omega
    refine ⟨b2, 0, _, rfl, h2.row _ _ fun j v e => ?_, .slice (some ⟨b1, 0, none⟩) 2 2, .slice none 0 0, rfl, L1, nos_nil w⟩
    rcases j with _ | _ | _ | _ | _ | _ | _ | _ | j
    all_goals first | exact e | (simp [leC] at e)
  refine ⟨by simp [litF], _, _, rfl, fun i hi => ?_⟩
  have hi : i < 1 := hi
  obtain rfl : i = 0 := by omega
  refine ⟨b3, 0, _, rfl, h3.row _ _ fun j v e => ?_, .slice none 0 0, .slice (some ⟨b2, 0, none⟩) 1 1, rfl, (show mainT.size ≤ maxLen by decide), nos_nil w, L2⟩
  rcases j with _ | _ | _ | _ | _ | _ | _ | j
  all_goals first | exact e | (simp [lfC] at e)
end Go.Proofs.YtapgaclonilnbaaDoor
