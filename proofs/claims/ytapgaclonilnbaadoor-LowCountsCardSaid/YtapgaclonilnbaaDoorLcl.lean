/-
  Proved: the functions of LowCounts lie in memory as they are laid.
-/
import Derived.Test.YtapgaclonilnbaaDoorLall
import Derived.Test.YtapgaclonilnbaaDoorLcn
namespace Go.Proofs.YtapgaclonilnbaaDoor
open Go.RowKit
set_option linter.unusedVariables false
set_option linter.unusedSimpArgs false

def kc0 (S : Nat) (n m : Int) : Array Value := #[.int .i64 1, .int .i64 0, .int .i64 0, .int .i64 0, .int .i64 n, .string tE, .slice none 0 0, .slice none 0 0, .int .i64 1, .int .i64 1, .int .i64 0, .int .i64 0, .int .i64 m, .string tE, .slice none 0 0, .slice none 0 0, .int .i64 6, .int .i64 0, .int .i64 (-2), .int .i64 1, .int .i64 4, .string tE, .slice none 0 0, .slice none 0 0]
def kc1 (S : Nat) (n m : Int) : Array Value := #[.int .i64 5, .int .i64 1, .int .i64 (-2), .int .i64 0, .int .i64 4, .string tE, .slice none 0 0, .slice none 0 0, .int .i64 3, .int .i64 1, .int .i64 1, .int .i64 0, .int .i64 0, .string tAdd, .slice none 0 0, .slice none 0 0, .int .i64 6, .int .i64 0, .int .i64 (-2), .int .i64 1, .int .i64 4, .string tE, .slice none 0 0, .slice none 0 0, .int .i64 4, .int .i64 0, .int .i64 0, .int .i64 0, .int .i64 (-1), .string tAdd, .slice none 0 0, .slice none 0 0]
def kc2 (S : Nat) (n m : Int) : Array Value := #[.int .i64 0, .int .i64 1]
def kc3 (S : Nat) (n m : Int) : Array Value := #[.int .i64 2]
def kc4 (S : Nat) (n m : Int) : Array Value := #[.int .i64 4, .int .i64 2, .int .i64 (-2), .int .i64 0, .int .i64 4, .string tAdd, .slice none 0 0, .slice none 0 0, .int .i64 5, .int .i64 2, .int .i64 2, .int .i64 0, .int .i64 0, .string tE, .slice none 0 0, .slice none 0 0, .int .i64 8, .int .i64 0, .int .i64 2, .int .i64 0, .int .i64 0, .string tE, .slice none 0 0, .slice none 0 0, .int .i64 1, .int .i64 0, .int .i64 0, .int .i64 0, .int .i64 n, .string tE, .slice none 0 0, .slice none 0 0, .int .i64 1, .int .i64 1, .int .i64 0, .int .i64 0, .int .i64 m, .string tE, .slice none 0 0, .slice none 0 0, .int .i64 7, .int .i64 0, .int .i64 0, .int .i64 0, .int .i64 0, .string tDown, .slice (some ⟨S + 1 + 1, 0, none⟩) 2 2, .slice (some ⟨S + 1 + 1 + 1, 0, none⟩) 1 1, .int .i64 8, .int .i64 0, .int .i64 2, .int .i64 0, .int .i64 0, .string tE, .slice none 0 0, .slice none 0 0]
def kc5 (S : Nat) (n m : Int) : Array Value := #[.slice (some ⟨S, 0, none⟩) 3 3, .int .i64 1, .int .i64 0, .int .i64 0, .int .i64 1, .int .i64 0, .string tE, .slice none 0 0, .slice none 0 0, .int .i64 2, .int .i64 0, .int .i64 (-1), .int .i64 2, .int .i64 3, .string tNe, .slice none 0 0, .slice (some ⟨S + 1, 0, none⟩) 4 4, .int .i64 1, .int .i64 0, .int .i64 0, .int .i64 1, .int .i64 0, .string tE, .slice none 0 0, .slice (some ⟨S + 1 + 1 + 1 + 1, 0, none⟩) 7 7, .int .i64 3, .int .i64 0, .int .i64 0, .int .i64 0, .int .i64 0, .string tE, .slice none 0 0]
def kc6 (S : Nat) (n m : Int) : Array Value := #[.string tMain, .int .i64 3, .slice none 0 0, .int .i64 0, .int .i64 2, .bool false, .slice (some ⟨S + 1 + 1 + 1 + 1 + 1, 0, none⟩) 4 4]
def kc7 (S : Nat) (n m : Int) : Array Value := #[.int .i64 2, .int .i64 0]
def kc8 (S : Nat) (n m : Int) : Array Value := #[.int .i64 2, .int .i64 0]
def kc9 (S : Nat) (n m : Int) : Array Value := #[.int .i64 1]
def kc10 (S : Nat) (n m : Int) : Array Value := #[.int .i64 3, .int .i64 0, .int .i64 0, .int .i64 2, .int .i64 0, .string tAdd, .slice none 0 0, .slice none 0 0, .int .i64 4, .int .i64 2, .int .i64 2, .int .i64 0, .int .i64 (-1), .string tAdd, .slice none 0 0, .slice none 0 0, .int .i64 7, .int .i64 0, .int .i64 0, .int .i64 0, .int .i64 0, .string tDown, .slice (some ⟨S + 1 + 1 + 1 + 1 + 1 + 1 + 1 + 1, 0, none⟩) 2 2, .slice (some ⟨S + 1 + 1 + 1 + 1 + 1 + 1 + 1 + 1 + 1, 0, none⟩) 1 1]
def kc11 (S : Nat) (n m : Int) : Array Value := #[.int .i64 1]
def kc12 (S : Nat) (n m : Int) : Array Value := #[.int .i64 0]
def kc13 (S : Nat) (n m : Int) : Array Value := #[.slice none 0 0, .int .i64 2, .int .i64 (-1), .int .i64 2, .int .i64 1, .int .i64 2, .string tLt, .slice none 0 0, .slice (some ⟨S + 1 + 1 + 1 + 1 + 1 + 1 + 1 + 1 + 1 + 1, 0, none⟩) 3 3, .int .i64 3, .int .i64 0, .int .i64 0, .int .i64 0, .int .i64 0, .string tE, .slice (some ⟨S + 1 + 1 + 1 + 1 + 1 + 1 + 1 + 1 + 1 + 1 + 1, 0, none⟩) 1 1, .slice none 0 0, .int .i64 3, .int .i64 0, .int .i64 0, .int .i64 0, .int .i64 0, .string tE, .slice (some ⟨S + 1 + 1 + 1 + 1 + 1 + 1 + 1 + 1 + 1 + 1 + 1 + 1, 0, none⟩) 1 1]
def kc14 (S : Nat) (n m : Int) : Array Value := #[.string tDown, .int .i64 3, .slice (some ⟨S + 1 + 1 + 1 + 1 + 1 + 1 + 1, 0, none⟩) 2 2, .int .i64 1, .int .i64 0, .bool false, .slice (some ⟨S + 1 + 1 + 1 + 1 + 1 + 1 + 1 + 1 + 1 + 1 + 1 + 1 + 1, 0, none⟩) 3 3]
def kcL (S : Nat) (n m : Int) : Array Value := #[.string tMain, .int .i64 3, .slice none 0 0, .int .i64 0, .int .i64 2, .bool false, .slice (some ⟨S + 1 + 1 + 1 + 1 + 1, 0, none⟩) 4 4, .string tDown, .int .i64 3, .slice (some ⟨S + 1 + 1 + 1 + 1 + 1 + 1 + 1, 0, none⟩) 2 2, .int .i64 1, .int .i64 0, .bool false, .slice (some ⟨S + 1 + 1 + 1 + 1 + 1 + 1 + 1 + 1 + 1 + 1 + 1 + 1 + 1, 0, none⟩) 3 3]
/-- What is laid, in order. -/
def kcW (S : Nat) (n m : Int) : List Obj := [.cells (kc0 S n m) 30, .cells (kc1 S n m) 30, .cells (kc2 S n m) 3, .cells (kc3 S n m) 3, .cells (kc4 S n m) 30, .cells (kc5 S n m) 35, .cells (kc6 S n m) 38, .cells (kc7 S n m) 3, .cells (kc8 S n m) 3, .cells (kc9 S n m) 3, .cells (kc10 S n m) 30, .cells (kc11 S n m) 3, .cells (kc12 S n m) 3, .cells (kc13 S n m) 35, .cells (kc14 S n m) 38]

section
variable {w W : World} {n m : Int}
theorem kc_li00 {S : Nat} (a0 : At W (S) (kc0 S n m) 30) : LiIn W [(⟨1, 0, 0, 0, n, tE, [], []⟩ : Lo), (⟨1, 1, 0, 0, m, tE, [], []⟩ : Lo), (⟨6, 0, -2, 1, 4, tE, [], []⟩ : Lo)] (.slice (some ⟨S, 0, none⟩) 3 3) := by
  refine ⟨(by simp), _, _, rfl, fun i hi => ?_⟩
  have hi : i < 3 := hi
  rcases i with _ | _ | _ | i
  · exact ⟨S, 0, loC (⟨1, 0, 0, 0, n, tE, [], []⟩ : Lo) (.slice none 0 0) (.slice none 0 0), rfl, a0.rowL (0 + 0 * 8) _ rfl, _, _, rfl, (show tE.size ≤ maxLen by decide), nos_nil W, nos_nil W⟩
  · exact ⟨S, 0, loC (⟨1, 1, 0, 0, m, tE, [], []⟩ : Lo) (.slice none 0 0) (.slice none 0 0), rfl, a0.rowL (0 + 1 * 8) _ rfl, _, _, rfl, (show tE.size ≤ maxLen by decide), nos_nil W, nos_nil W⟩
  · exact ⟨S, 0, loC (⟨6, 0, -2, 1, 4, tE, [], []⟩ : Lo) (.slice none 0 0) (.slice none 0 0), rfl, a0.rowL (0 + 2 * 8) _ rfl, _, _, rfl, (show tE.size ≤ maxLen by decide), nos_nil W, nos_nil W⟩
  · omega
theorem kc_li02 {S : Nat} (a1 : At W (S + 1) (kc1 S n m) 30) : LiIn W [(⟨5, 1, -2, 0, 4, tE, [], []⟩ : Lo), (⟨3, 1, 1, 0, 0, tAdd, [], []⟩ : Lo), (⟨6, 0, -2, 1, 4, tE, [], []⟩ : Lo), (⟨4, 0, 0, 0, -1, tAdd, [], []⟩ : Lo)] (.slice (some ⟨S + 1, 0, none⟩) 4 4) := by
  refine ⟨(by simp), _, _, rfl, fun i hi => ?_⟩
  have hi : i < 4 := hi
  rcases i with _ | _ | _ | _ | i
  · exact ⟨S + 1, 0, loC (⟨5, 1, -2, 0, 4, tE, [], []⟩ : Lo) (.slice none 0 0) (.slice none 0 0), rfl, a1.rowL (0 + 0 * 8) _ rfl, _, _, rfl, (show tE.size ≤ maxLen by decide), nos_nil W, nos_nil W⟩
  · exact ⟨S + 1, 0, loC (⟨3, 1, 1, 0, 0, tAdd, [], []⟩ : Lo) (.slice none 0 0) (.slice none 0 0), rfl, a1.rowL (0 + 1 * 8) _ rfl, _, _, rfl, (show tAdd.size ≤ maxLen by decide), nos_nil W, nos_nil W⟩
  · exact ⟨S + 1, 0, loC (⟨6, 0, -2, 1, 4, tE, [], []⟩ : Lo) (.slice none 0 0) (.slice none 0 0), rfl, a1.rowL (0 + 2 * 8) _ rfl, _, _, rfl, (show tE.size ≤ maxLen by decide), nos_nil W, nos_nil W⟩
  · exact ⟨S + 1, 0, loC (⟨4, 0, 0, 0, -1, tAdd, [], []⟩ : Lo) (.slice none 0 0) (.slice none 0 0), rfl, a1.rowL (0 + 3 * 8) _ rfl, _, _, rfl, (show tAdd.size ≤ maxLen by decide), nos_nil W, nos_nil W⟩
  · omega
theorem kc_li03 {S : Nat} (a2 : At W (S + 1 + 1) (kc2 S n m) 3) (a3 : At W (S + 1 + 1 + 1) (kc3 S n m) 3) (a4 : At W (S + 1 + 1 + 1 + 1) (kc4 S n m) 30) : LiIn W [(⟨4, 2, -2, 0, 4, tAdd, [], []⟩ : Lo), (⟨5, 2, 2, 0, 0, tE, [], []⟩ : Lo), (⟨8, 0, 2, 0, 0, tE, [], []⟩ : Lo), (⟨1, 0, 0, 0, n, tE, [], []⟩ : Lo), (⟨1, 1, 0, 0, m, tE, [], []⟩ : Lo), (⟨7, 0, 0, 0, 0, tDown, [0, 1], [2]⟩ : Lo), (⟨8, 0, 2, 0, 0, tE, [], []⟩ : Lo)] (.slice (some ⟨S + 1 + 1 + 1 + 1, 0, none⟩) 7 7) := by
  refine ⟨(by simp), _, _, rfl, fun i hi => ?_⟩
  have hi : i < 7 := hi
  rcases i with _ | _ | _ | _ | _ | _ | _ | i
  · exact ⟨S + 1 + 1 + 1 + 1, 0, loC (⟨4, 2, -2, 0, 4, tAdd, [], []⟩ : Lo) (.slice none 0 0) (.slice none 0 0), rfl, a4.rowL (0 + 0 * 8) _ rfl, _, _, rfl, (show tAdd.size ≤ maxLen by decide), nos_nil W, nos_nil W⟩
  · exact ⟨S + 1 + 1 + 1 + 1, 0, loC (⟨5, 2, 2, 0, 0, tE, [], []⟩ : Lo) (.slice none 0 0) (.slice none 0 0), rfl, a4.rowL (0 + 1 * 8) _ rfl, _, _, rfl, (show tE.size ≤ maxLen by decide), nos_nil W, nos_nil W⟩
  · exact ⟨S + 1 + 1 + 1 + 1, 0, loC (⟨8, 0, 2, 0, 0, tE, [], []⟩ : Lo) (.slice none 0 0) (.slice none 0 0), rfl, a4.rowL (0 + 2 * 8) _ rfl, _, _, rfl, (show tE.size ≤ maxLen by decide), nos_nil W, nos_nil W⟩
  · exact ⟨S + 1 + 1 + 1 + 1, 0, loC (⟨1, 0, 0, 0, n, tE, [], []⟩ : Lo) (.slice none 0 0) (.slice none 0 0), rfl, a4.rowL (0 + 3 * 8) _ rfl, _, _, rfl, (show tE.size ≤ maxLen by decide), nos_nil W, nos_nil W⟩
  · exact ⟨S + 1 + 1 + 1 + 1, 0, loC (⟨1, 1, 0, 0, m, tE, [], []⟩ : Lo) (.slice none 0 0) (.slice none 0 0), rfl, a4.rowL (0 + 4 * 8) _ rfl, _, _, rfl, (show tE.size ≤ maxLen by decide), nos_nil W, nos_nil W⟩
  · exact ⟨S + 1 + 1 + 1 + 1, 0, loC (⟨7, 0, 0, 0, 0, tDown, [0, 1], [2]⟩ : Lo) (.slice (some ⟨S + 1 + 1, 0, none⟩) 2 2) (.slice (some ⟨S + 1 + 1 + 1, 0, none⟩) 1 1), rfl, a4.rowL (0 + 5 * 8) _ rfl, _, _, rfl, (show tDown.size ≤ maxLen by decide), nos_at (l := [0, 1]) 2 a2, nos_at (l := [2]) 1 a3⟩
  · exact ⟨S + 1 + 1 + 1 + 1, 0, loC (⟨8, 0, 2, 0, 0, tE, [], []⟩ : Lo) (.slice none 0 0) (.slice none 0 0), rfl, a4.rowL (0 + 6 * 8) _ rfl, _, _, rfl, (show tE.size ≤ maxLen by decide), nos_nil W, nos_nil W⟩
  · omega
theorem kc_bs0 {S : Nat} (a0 : At W (S) (kc0 S n m) 30) (a1 : At W (S + 1) (kc1 S n m) 30) (a2 : At W (S + 1 + 1) (kc2 S n m) 3) (a3 : At W (S + 1 + 1 + 1) (kc3 S n m) 3) (a4 : At W (S + 1 + 1 + 1 + 1) (kc4 S n m) 30) (a5 : At W (S + 1 + 1 + 1 + 1 + 1) (kc5 S n m) 35) : LbsIn W [⟨[(⟨1, 0, 0, 0, n, tE, [], []⟩ : Lo), (⟨1, 1, 0, 0, m, tE, [], []⟩ : Lo), (⟨6, 0, -2, 1, 4, tE, [], []⟩ : Lo)], (⟨1, 0, 0, 1, 0, tE, []⟩ : Le)⟩, ⟨[], (⟨2, 0, -1, 2, 3, tNe, []⟩ : Le)⟩, ⟨[(⟨5, 1, -2, 0, 4, tE, [], []⟩ : Lo), (⟨3, 1, 1, 0, 0, tAdd, [], []⟩ : Lo), (⟨6, 0, -2, 1, 4, tE, [], []⟩ : Lo), (⟨4, 0, 0, 0, -1, tAdd, [], []⟩ : Lo)], (⟨1, 0, 0, 1, 0, tE, []⟩ : Le)⟩, ⟨[(⟨4, 2, -2, 0, 4, tAdd, [], []⟩ : Lo), (⟨5, 2, 2, 0, 0, tE, [], []⟩ : Lo), (⟨8, 0, 2, 0, 0, tE, [], []⟩ : Lo), (⟨1, 0, 0, 0, n, tE, [], []⟩ : Lo), (⟨1, 1, 0, 0, m, tE, [], []⟩ : Lo), (⟨7, 0, 0, 0, 0, tDown, [0, 1], [2]⟩ : Lo), (⟨8, 0, 2, 0, 0, tE, [], []⟩ : Lo)], (⟨3, 0, 0, 0, 0, tE, []⟩ : Le)⟩] (.slice (some ⟨S + 1 + 1 + 1 + 1 + 1, 0, none⟩) 4 4) := by
  refine ⟨(by simp), _, _, rfl, fun i hi => ?_⟩
  have hi : i < 4 := hi
  rcases i with _ | _ | _ | _ | i
  · exact ⟨S + 1 + 1 + 1 + 1 + 1, 0, (.slice (some ⟨S, 0, none⟩) 3 3) :: leC (⟨1, 0, 0, 1, 0, tE, []⟩ : Le) (.slice none 0 0), rfl, a5.rowL (0 + 0 * 8) _ rfl, _, _, rfl, (kc_li00 a0), nos_nil W⟩
  · exact ⟨S + 1 + 1 + 1 + 1 + 1, 0, (.slice none 0 0) :: leC (⟨2, 0, -1, 2, 3, tNe, []⟩ : Le) (.slice none 0 0), rfl, a5.rowL (0 + 1 * 8) _ rfl, _, _, rfl, li_nil W, nos_nil W⟩
  · exact ⟨S + 1 + 1 + 1 + 1 + 1, 0, (.slice (some ⟨S + 1, 0, none⟩) 4 4) :: leC (⟨1, 0, 0, 1, 0, tE, []⟩ : Le) (.slice none 0 0), rfl, a5.rowL (0 + 2 * 8) _ rfl, _, _, rfl, (kc_li02 a1), nos_nil W⟩
  · exact ⟨S + 1 + 1 + 1 + 1 + 1, 0, (.slice (some ⟨S + 1 + 1 + 1 + 1, 0, none⟩) 7 7) :: leC (⟨3, 0, 0, 0, 0, tE, []⟩ : Le) (.slice none 0 0), rfl, a5.rowL (0 + 3 * 8) _ rfl, _, _, rfl, (kc_li03 a2 a3 a4), nos_nil W⟩
  · omega
theorem kc_li11 {S : Nat} (a8 : At W (S + 1 + 1 + 1 + 1 + 1 + 1 + 1 + 1) (kc8 S n m) 3) (a9 : At W (S + 1 + 1 + 1 + 1 + 1 + 1 + 1 + 1 + 1) (kc9 S n m) 3) (a10 : At W (S + 1 + 1 + 1 + 1 + 1 + 1 + 1 + 1 + 1 + 1) (kc10 S n m) 30) : LiIn W [(⟨3, 0, 0, 2, 0, tAdd, [], []⟩ : Lo), (⟨4, 2, 2, 0, -1, tAdd, [], []⟩ : Lo), (⟨7, 0, 0, 0, 0, tDown, [2, 0], [1]⟩ : Lo)] (.slice (some ⟨S + 1 + 1 + 1 + 1 + 1 + 1 + 1 + 1 + 1 + 1, 0, none⟩) 3 3) := by
  refine ⟨(by simp), _, _, rfl, fun i hi => ?_⟩
  have hi : i < 3 := hi
  rcases i with _ | _ | _ | i
  · exact ⟨S + 1 + 1 + 1 + 1 + 1 + 1 + 1 + 1 + 1 + 1, 0, loC (⟨3, 0, 0, 2, 0, tAdd, [], []⟩ : Lo) (.slice none 0 0) (.slice none 0 0), rfl, a10.rowL (0 + 0 * 8) _ rfl, _, _, rfl, (show tAdd.size ≤ maxLen by decide), nos_nil W, nos_nil W⟩
  · exact ⟨S + 1 + 1 + 1 + 1 + 1 + 1 + 1 + 1 + 1 + 1, 0, loC (⟨4, 2, 2, 0, -1, tAdd, [], []⟩ : Lo) (.slice none 0 0) (.slice none 0 0), rfl, a10.rowL (0 + 1 * 8) _ rfl, _, _, rfl, (show tAdd.size ≤ maxLen by decide), nos_nil W, nos_nil W⟩
  · exact ⟨S + 1 + 1 + 1 + 1 + 1 + 1 + 1 + 1 + 1 + 1, 0, loC (⟨7, 0, 0, 0, 0, tDown, [2, 0], [1]⟩ : Lo) (.slice (some ⟨S + 1 + 1 + 1 + 1 + 1 + 1 + 1 + 1, 0, none⟩) 2 2) (.slice (some ⟨S + 1 + 1 + 1 + 1 + 1 + 1 + 1 + 1 + 1, 0, none⟩) 1 1), rfl, a10.rowL (0 + 2 * 8) _ rfl, _, _, rfl, (show tDown.size ≤ maxLen by decide), nos_at (l := [2, 0]) 2 a8, nos_at (l := [1]) 1 a9⟩
  · omega
theorem kc_bs1 {S : Nat} (a8 : At W (S + 1 + 1 + 1 + 1 + 1 + 1 + 1 + 1) (kc8 S n m) 3) (a9 : At W (S + 1 + 1 + 1 + 1 + 1 + 1 + 1 + 1 + 1) (kc9 S n m) 3) (a10 : At W (S + 1 + 1 + 1 + 1 + 1 + 1 + 1 + 1 + 1 + 1) (kc10 S n m) 30) (a11 : At W (S + 1 + 1 + 1 + 1 + 1 + 1 + 1 + 1 + 1 + 1 + 1) (kc11 S n m) 3) (a12 : At W (S + 1 + 1 + 1 + 1 + 1 + 1 + 1 + 1 + 1 + 1 + 1 + 1) (kc12 S n m) 3) (a13 : At W (S + 1 + 1 + 1 + 1 + 1 + 1 + 1 + 1 + 1 + 1 + 1 + 1 + 1) (kc13 S n m) 35) : LbsIn W [⟨[], (⟨2, -1, 2, 1, 2, tLt, []⟩ : Le)⟩, ⟨[(⟨3, 0, 0, 2, 0, tAdd, [], []⟩ : Lo), (⟨4, 2, 2, 0, -1, tAdd, [], []⟩ : Lo), (⟨7, 0, 0, 0, 0, tDown, [2, 0], [1]⟩ : Lo)], (⟨3, 0, 0, 0, 0, tE, [1]⟩ : Le)⟩, ⟨[], (⟨3, 0, 0, 0, 0, tE, [0]⟩ : Le)⟩] (.slice (some ⟨S + 1 + 1 + 1 + 1 + 1 + 1 + 1 + 1 + 1 + 1 + 1 + 1 + 1, 0, none⟩) 3 3) := by
  refine ⟨(by simp), _, _, rfl, fun i hi => ?_⟩
  have hi : i < 3 := hi
  rcases i with _ | _ | _ | i
  · exact ⟨S + 1 + 1 + 1 + 1 + 1 + 1 + 1 + 1 + 1 + 1 + 1 + 1 + 1, 0, (.slice none 0 0) :: leC (⟨2, -1, 2, 1, 2, tLt, []⟩ : Le) (.slice none 0 0), rfl, a13.rowL (0 + 0 * 8) _ rfl, _, _, rfl, li_nil W, nos_nil W⟩
  · exact ⟨S + 1 + 1 + 1 + 1 + 1 + 1 + 1 + 1 + 1 + 1 + 1 + 1 + 1, 0, (.slice (some ⟨S + 1 + 1 + 1 + 1 + 1 + 1 + 1 + 1 + 1 + 1, 0, none⟩) 3 3) :: leC (⟨3, 0, 0, 0, 0, tE, [1]⟩ : Le) (.slice (some ⟨S + 1 + 1 + 1 + 1 + 1 + 1 + 1 + 1 + 1 + 1 + 1, 0, none⟩) 1 1), rfl, a13.rowL (0 + 1 * 8) _ rfl, _, _, rfl, (kc_li11 a8 a9 a10), nos_at (l := [1]) 1 a11⟩
  · exact ⟨S + 1 + 1 + 1 + 1 + 1 + 1 + 1 + 1 + 1 + 1 + 1 + 1 + 1, 0, (.slice none 0 0) :: leC (⟨3, 0, 0, 0, 0, tE, [0]⟩ : Le) (.slice (some ⟨S + 1 + 1 + 1 + 1 + 1 + 1 + 1 + 1 + 1 + 1 + 1 + 1, 0, none⟩) 1 1), rfl, a13.rowL (0 + 2 * 8) _ rfl, _, _, rfl, li_nil W, nos_at (l := [0]) 1 a12⟩
  · omega
theorem kc_in {W1 : World} {b : Nat} (hW : W1 = (kcW w.heap.size n m).foldl World.alloc w) (hB : Below W1.heap.size W1 W) (aL : At W b (kcL w.heap.size n m) 38) : LfsIn W (countsF n m) (.slice (some ⟨b, 0, none⟩) 2 2) := by
  have a0 : At W (w.heap.size) (kc0 w.heap.size n m) 30 := allocs_in hW hB 0 rfl
  have a1 : At W (w.heap.size + 1) (kc1 w.heap.size n m) 30 := allocs_in hW hB 1 rfl
  have a2 : At W (w.heap.size + 1 + 1) (kc2 w.heap.size n m) 3 := allocs_in hW hB 2 rfl
  have a3 : At W (w.heap.size + 1 + 1 + 1) (kc3 w.heap.size n m) 3 := allocs_in hW hB 3 rfl
  have a4 : At W (w.heap.size + 1 + 1 + 1 + 1) (kc4 w.heap.size n m) 30 := allocs_in hW hB 4 rfl
  have a5 : At W (w.heap.size + 1 + 1 + 1 + 1 + 1) (kc5 w.heap.size n m) 35 := allocs_in hW hB 5 rfl
  have a7 : At W (w.heap.size + 1 + 1 + 1 + 1 + 1 + 1 + 1) (kc7 w.heap.size n m) 3 := allocs_in hW hB 7 rfl
  have a8 : At W (w.heap.size + 1 + 1 + 1 + 1 + 1 + 1 + 1 + 1) (kc8 w.heap.size n m) 3 := allocs_in hW hB 8 rfl
  have a9 : At W (w.heap.size + 1 + 1 + 1 + 1 + 1 + 1 + 1 + 1 + 1) (kc9 w.heap.size n m) 3 := allocs_in hW hB 9 rfl
  have a10 : At W (w.heap.size + 1 + 1 + 1 + 1 + 1 + 1 + 1 + 1 + 1 + 1) (kc10 w.heap.size n m) 30 := allocs_in hW hB 10 rfl
  have a11 : At W (w.heap.size + 1 + 1 + 1 + 1 + 1 + 1 + 1 + 1 + 1 + 1 + 1) (kc11 w.heap.size n m) 3 := allocs_in hW hB 11 rfl
  have a12 : At W (w.heap.size + 1 + 1 + 1 + 1 + 1 + 1 + 1 + 1 + 1 + 1 + 1 + 1) (kc12 w.heap.size n m) 3 := allocs_in hW hB 12 rfl
  have a13 : At W (w.heap.size + 1 + 1 + 1 + 1 + 1 + 1 + 1 + 1 + 1 + 1 + 1 + 1 + 1) (kc13 w.heap.size n m) 35 := allocs_in hW hB 13 rfl
  refine ⟨(by show 2 ≤ _; omega), _, _, rfl, fun i hi => ?_⟩
  have hi : i < 2 := hi
  rcases i with _ | _ | i
  · exact ⟨b, 0, lfC ((countsF n m)[0]'hi) (.slice none 0 0) (.slice (some ⟨w.heap.size + 1 + 1 + 1 + 1 + 1, 0, none⟩) 4 4), rfl, aL.rowL (0 + 0 * 7) _ rfl, _, _, rfl, (show tMain.size ≤ maxLen by decide), nos_nil W, kc_bs0 a0 a1 a2 a3 a4 a5⟩
  · exact ⟨b, 0, lfC ((countsF n m)[1]'hi) (.slice (some ⟨w.heap.size + 1 + 1 + 1 + 1 + 1 + 1 + 1, 0, none⟩) 2 2) (.slice (some ⟨w.heap.size + 1 + 1 + 1 + 1 + 1 + 1 + 1 + 1 + 1 + 1 + 1 + 1 + 1, 0, none⟩) 3 3), rfl, aL.rowL (0 + 1 * 7) _ rfl, _, _, rfl, (show tDown.size ≤ maxLen by decide), nos_at (l := [2, 0]) 2 a7, kc_bs1 a8 a9 a10 a11 a12 a13⟩
  · omega
end
end Go.Proofs.YtapgaclonilnbaaDoor
