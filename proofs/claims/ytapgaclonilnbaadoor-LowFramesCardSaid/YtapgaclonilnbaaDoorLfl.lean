/-
  Proved: the functions of LowFrames lie in memory as they are laid.
-/
import Derived.Test.YtapgaclonilnbaaDoorLall
import Derived.Test.YtapgaclonilnbaaDoorLfn
namespace Go.Proofs.YtapgaclonilnbaaDoor
open Go.RowKit
set_option linter.unusedVariables false
set_option linter.unusedSimpArgs false

def kf0 (S : Nat) (n words q : Int) : Array Value := #[.int .i64 0]
def kf1 (S : Nat) (n words q : Int) : Array Value := #[.int .i64 5, .int .i64 1, .int .i64 (-2), .int .i64 0, .int .i64 q, .string tE, .slice none 0 0, .slice none 0 0, .int .i64 8, .int .i64 0, .int .i64 1, .int .i64 0, .int .i64 0, .string tE, .slice none 0 0, .slice none 0 0, .int .i64 6, .int .i64 0, .int .i64 (-2), .int .i64 0, .int .i64 q, .string tE, .slice none 0 0, .slice none 0 0]
def kf2 (S : Nat) (n words q : Int) : Array Value := #[.int .i64 2]
def kf3 (S : Nat) (n words q : Int) : Array Value := #[.int .i64 2]
def kf4 (S : Nat) (n words q : Int) : Array Value := #[.int .i64 4, .int .i64 2, .int .i64 0, .int .i64 0, .int .i64 (-1), .string tAdd, .slice none 0 0, .slice none 0 0, .int .i64 7, .int .i64 0, .int .i64 0, .int .i64 0, .int .i64 0, .string tG, .slice (some ⟨S + 1 + 1, 0, none⟩) 1 1, .slice (some ⟨S + 1 + 1 + 1, 0, none⟩) 1 1, .int .i64 5, .int .i64 1, .int .i64 (-2), .int .i64 0, .int .i64 q, .string tE, .slice none 0 0, .slice none 0 0, .int .i64 8, .int .i64 0, .int .i64 1, .int .i64 0, .int .i64 0, .string tE, .slice none 0 0, .slice none 0 0]
def kf5 (S : Nat) (n words q : Int) : Array Value := #[.int .i64 1]
def kf6 (S : Nat) (n words q : Int) : Array Value := #[.int .i64 0]
def kf7 (S : Nat) (n words q : Int) : Array Value := #[.slice (some ⟨S + 1, 0, none⟩) 3 3, .int .i64 2, .int .i64 0, .int .i64 (-1), .int .i64 2, .int .i64 1, .string tEq, .slice none 0 0, .slice (some ⟨S + 1 + 1 + 1 + 1, 0, none⟩) 4 4, .int .i64 3, .int .i64 0, .int .i64 0, .int .i64 0, .int .i64 0, .string tE, .slice (some ⟨S + 1 + 1 + 1 + 1 + 1, 0, none⟩) 1 1, .slice none 0 0, .int .i64 3, .int .i64 0, .int .i64 0, .int .i64 0, .int .i64 0, .string tE, .slice (some ⟨S + 1 + 1 + 1 + 1 + 1 + 1, 0, none⟩) 1 1]
def kf8 (S : Nat) (n words q : Int) : Array Value := #[.string tG, .int .i64 3, .slice (some ⟨S, 0, none⟩) 1 1, .int .i64 1, .int .i64 words, .bool false, .slice (some ⟨S + 1 + 1 + 1 + 1 + 1 + 1 + 1, 0, none⟩) 3 3]
def kf9 (S : Nat) (n words q : Int) : Array Value := #[.int .i64 0]
def kf10 (S : Nat) (n words q : Int) : Array Value := #[.int .i64 0]
def kf11 (S : Nat) (n words q : Int) : Array Value := #[.int .i64 1, .int .i64 0, .int .i64 0, .int .i64 0, .int .i64 n, .string tE, .slice none 0 0, .slice none 0 0, .int .i64 7, .int .i64 0, .int .i64 0, .int .i64 0, .int .i64 0, .string tG, .slice (some ⟨S + 1 + 1 + 1 + 1 + 1 + 1 + 1 + 1 + 1, 0, none⟩) 1 1, .slice (some ⟨S + 1 + 1 + 1 + 1 + 1 + 1 + 1 + 1 + 1 + 1, 0, none⟩) 1 1, .int .i64 8, .int .i64 0, .int .i64 0, .int .i64 0, .int .i64 0, .string tE, .slice none 0 0, .slice none 0 0]
def kf12 (S : Nat) (n words q : Int) : Array Value := #[.slice (some ⟨S + 1 + 1 + 1 + 1 + 1 + 1 + 1 + 1 + 1 + 1 + 1, 0, none⟩) 3 3, .int .i64 3, .int .i64 0, .int .i64 0, .int .i64 0, .int .i64 0, .string tE, .slice none 0 0]
def kf13 (S : Nat) (n words q : Int) : Array Value := #[.string tMain, .int .i64 1, .slice none 0 0, .int .i64 0, .int .i64 0, .bool false, .slice (some ⟨S + 1 + 1 + 1 + 1 + 1 + 1 + 1 + 1 + 1 + 1 + 1 + 1, 0, none⟩) 1 1]
def kfL (S : Nat) (n words q : Int) : Array Value := #[.string tMain, .int .i64 1, .slice none 0 0, .int .i64 0, .int .i64 0, .bool false, .slice (some ⟨S + 1 + 1 + 1 + 1 + 1 + 1 + 1 + 1 + 1 + 1 + 1 + 1, 0, none⟩) 1 1, .string tG, .int .i64 3, .slice (some ⟨S, 0, none⟩) 1 1, .int .i64 1, .int .i64 words, .bool false, .slice (some ⟨S + 1 + 1 + 1 + 1 + 1 + 1 + 1, 0, none⟩) 3 3]
/-- What is laid, in order. -/
def kfW (S : Nat) (n words q : Int) : List Obj := [.cells (kf0 S n words q) 3, .cells (kf1 S n words q) 30, .cells (kf2 S n words q) 3, .cells (kf3 S n words q) 3, .cells (kf4 S n words q) 30, .cells (kf5 S n words q) 3, .cells (kf6 S n words q) 3, .cells (kf7 S n words q) 35, .cells (kf8 S n words q) 38, .cells (kf9 S n words q) 3, .cells (kf10 S n words q) 3, .cells (kf11 S n words q) 30, .cells (kf12 S n words q) 35, .cells (kf13 S n words q) 38]

section
variable {w W : World} {n words q : Int}
theorem kf_li00 {S : Nat} (a1 : At W (S + 1) (kf1 S n words q) 30) : LiIn W [(⟨5, 1, -2, 0, q, tE, [], []⟩ : Lo), (⟨8, 0, 1, 0, 0, tE, [], []⟩ : Lo), (⟨6, 0, -2, 0, q, tE, [], []⟩ : Lo)] (.slice (some ⟨S + 1, 0, none⟩) 3 3) := by
  refine ⟨(by simp), _, _, rfl, fun i hi => ?_⟩
  have hi : i < 3 := hi
  rcases i with _ | _ | _ | i
  · exact ⟨S + 1, 0, loC (⟨5, 1, -2, 0, q, tE, [], []⟩ : Lo) (.slice none 0 0) (.slice none 0 0), rfl, a1.rowL (0 + 0 * 8) _ rfl, _, _, rfl, (show tE.size ≤ maxLen by decide), nos_nil W, nos_nil W⟩
  · exact ⟨S + 1, 0, loC (⟨8, 0, 1, 0, 0, tE, [], []⟩ : Lo) (.slice none 0 0) (.slice none 0 0), rfl, a1.rowL (0 + 1 * 8) _ rfl, _, _, rfl, (show tE.size ≤ maxLen by decide), nos_nil W, nos_nil W⟩
  · exact ⟨S + 1, 0, loC (⟨6, 0, -2, 0, q, tE, [], []⟩ : Lo) (.slice none 0 0) (.slice none 0 0), rfl, a1.rowL (0 + 2 * 8) _ rfl, _, _, rfl, (show tE.size ≤ maxLen by decide), nos_nil W, nos_nil W⟩
  · omega
theorem kf_li01 {S : Nat} (a2 : At W (S + 1 + 1) (kf2 S n words q) 3) (a3 : At W (S + 1 + 1 + 1) (kf3 S n words q) 3) (a4 : At W (S + 1 + 1 + 1 + 1) (kf4 S n words q) 30) : LiIn W [(⟨4, 2, 0, 0, -1, tAdd, [], []⟩ : Lo), (⟨7, 0, 0, 0, 0, tG, [2], [2]⟩ : Lo), (⟨5, 1, -2, 0, q, tE, [], []⟩ : Lo), (⟨8, 0, 1, 0, 0, tE, [], []⟩ : Lo)] (.slice (some ⟨S + 1 + 1 + 1 + 1, 0, none⟩) 4 4) := by
  refine ⟨(by simp), _, _, rfl, fun i hi => ?_⟩
  have hi : i < 4 := hi
  rcases i with _ | _ | _ | _ | i
  · exact ⟨S + 1 + 1 + 1 + 1, 0, loC (⟨4, 2, 0, 0, -1, tAdd, [], []⟩ : Lo) (.slice none 0 0) (.slice none 0 0), rfl, a4.rowL (0 + 0 * 8) _ rfl, _, _, rfl, (show tAdd.size ≤ maxLen by decide), nos_nil W, nos_nil W⟩
  · exact ⟨S + 1 + 1 + 1 + 1, 0, loC (⟨7, 0, 0, 0, 0, tG, [2], [2]⟩ : Lo) (.slice (some ⟨S + 1 + 1, 0, none⟩) 1 1) (.slice (some ⟨S + 1 + 1 + 1, 0, none⟩) 1 1), rfl, a4.rowL (0 + 1 * 8) _ rfl, _, _, rfl, (show tG.size ≤ maxLen by decide), nos_at (l := [2]) 1 a2, nos_at (l := [2]) 1 a3⟩
  · exact ⟨S + 1 + 1 + 1 + 1, 0, loC (⟨5, 1, -2, 0, q, tE, [], []⟩ : Lo) (.slice none 0 0) (.slice none 0 0), rfl, a4.rowL (0 + 2 * 8) _ rfl, _, _, rfl, (show tE.size ≤ maxLen by decide), nos_nil W, nos_nil W⟩
  · exact ⟨S + 1 + 1 + 1 + 1, 0, loC (⟨8, 0, 1, 0, 0, tE, [], []⟩ : Lo) (.slice none 0 0) (.slice none 0 0), rfl, a4.rowL (0 + 3 * 8) _ rfl, _, _, rfl, (show tE.size ≤ maxLen by decide), nos_nil W, nos_nil W⟩
  · omega
theorem kf_bs0 {S : Nat} (a1 : At W (S + 1) (kf1 S n words q) 30) (a2 : At W (S + 1 + 1) (kf2 S n words q) 3) (a3 : At W (S + 1 + 1 + 1) (kf3 S n words q) 3) (a4 : At W (S + 1 + 1 + 1 + 1) (kf4 S n words q) 30) (a5 : At W (S + 1 + 1 + 1 + 1 + 1) (kf5 S n words q) 3) (a6 : At W (S + 1 + 1 + 1 + 1 + 1 + 1) (kf6 S n words q) 3) (a7 : At W (S + 1 + 1 + 1 + 1 + 1 + 1 + 1) (kf7 S n words q) 35) : LbsIn W [⟨[(⟨5, 1, -2, 0, q, tE, [], []⟩ : Lo), (⟨8, 0, 1, 0, 0, tE, [], []⟩ : Lo), (⟨6, 0, -2, 0, q, tE, [], []⟩ : Lo)], (⟨2, 0, -1, 2, 1, tEq, []⟩ : Le)⟩, ⟨[(⟨4, 2, 0, 0, -1, tAdd, [], []⟩ : Lo), (⟨7, 0, 0, 0, 0, tG, [2], [2]⟩ : Lo), (⟨5, 1, -2, 0, q, tE, [], []⟩ : Lo), (⟨8, 0, 1, 0, 0, tE, [], []⟩ : Lo)], (⟨3, 0, 0, 0, 0, tE, [1]⟩ : Le)⟩, ⟨[], (⟨3, 0, 0, 0, 0, tE, [0]⟩ : Le)⟩] (.slice (some ⟨S + 1 + 1 + 1 + 1 + 1 + 1 + 1, 0, none⟩) 3 3) := by
  refine ⟨(by simp), _, _, rfl, fun i hi => ?_⟩
  have hi : i < 3 := hi
  rcases i with _ | _ | _ | i
  · exact ⟨S + 1 + 1 + 1 + 1 + 1 + 1 + 1, 0, (.slice (some ⟨S + 1, 0, none⟩) 3 3) :: leC (⟨2, 0, -1, 2, 1, tEq, []⟩ : Le) (.slice none 0 0), rfl, a7.rowL (0 + 0 * 8) _ rfl, _, _, rfl, (kf_li00 a1), nos_nil W⟩
  · exact ⟨S + 1 + 1 + 1 + 1 + 1 + 1 + 1, 0, (.slice (some ⟨S + 1 + 1 + 1 + 1, 0, none⟩) 4 4) :: leC (⟨3, 0, 0, 0, 0, tE, [1]⟩ : Le) (.slice (some ⟨S + 1 + 1 + 1 + 1 + 1, 0, none⟩) 1 1), rfl, a7.rowL (0 + 1 * 8) _ rfl, _, _, rfl, (kf_li01 a2 a3 a4), nos_at (l := [1]) 1 a5⟩
  · exact ⟨S + 1 + 1 + 1 + 1 + 1 + 1 + 1, 0, (.slice none 0 0) :: leC (⟨3, 0, 0, 0, 0, tE, [0]⟩ : Le) (.slice (some ⟨S + 1 + 1 + 1 + 1 + 1 + 1, 0, none⟩) 1 1), rfl, a7.rowL (0 + 2 * 8) _ rfl, _, _, rfl, li_nil W, nos_at (l := [0]) 1 a6⟩
  · omega
theorem kf_li10 {S : Nat} (a9 : At W (S + 1 + 1 + 1 + 1 + 1 + 1 + 1 + 1 + 1) (kf9 S n words q) 3) (a10 : At W (S + 1 + 1 + 1 + 1 + 1 + 1 + 1 + 1 + 1 + 1) (kf10 S n words q) 3) (a11 : At W (S + 1 + 1 + 1 + 1 + 1 + 1 + 1 + 1 + 1 + 1 + 1) (kf11 S n words q) 30) : LiIn W [(⟨1, 0, 0, 0, n, tE, [], []⟩ : Lo), (⟨7, 0, 0, 0, 0, tG, [0], [0]⟩ : Lo), (⟨8, 0, 0, 0, 0, tE, [], []⟩ : Lo)] (.slice (some ⟨S + 1 + 1 + 1 + 1 + 1 + 1 + 1 + 1 + 1 + 1 + 1, 0, none⟩) 3 3) := by
  refine ⟨(by simp), _, _, rfl, fun i hi => ?_⟩
  have hi : i < 3 := hi
  rcases i with _ | _ | _ | i
  · exact ⟨S + 1 + 1 + 1 + 1 + 1 + 1 + 1 + 1 + 1 + 1 + 1, 0, loC (⟨1, 0, 0, 0, n, tE, [], []⟩ : Lo) (.slice none 0 0) (.slice none 0 0), rfl, a11.rowL (0 + 0 * 8) _ rfl, _, _, rfl, (show tE.size ≤ maxLen by decide), nos_nil W, nos_nil W⟩
  · exact ⟨S + 1 + 1 + 1 + 1 + 1 + 1 + 1 + 1 + 1 + 1 + 1, 0, loC (⟨7, 0, 0, 0, 0, tG, [0], [0]⟩ : Lo) (.slice (some ⟨S + 1 + 1 + 1 + 1 + 1 + 1 + 1 + 1 + 1, 0, none⟩) 1 1) (.slice (some ⟨S + 1 + 1 + 1 + 1 + 1 + 1 + 1 + 1 + 1 + 1, 0, none⟩) 1 1), rfl, a11.rowL (0 + 1 * 8) _ rfl, _, _, rfl, (show tG.size ≤ maxLen by decide), nos_at (l := [0]) 1 a9, nos_at (l := [0]) 1 a10⟩
  · exact ⟨S + 1 + 1 + 1 + 1 + 1 + 1 + 1 + 1 + 1 + 1 + 1, 0, loC (⟨8, 0, 0, 0, 0, tE, [], []⟩ : Lo) (.slice none 0 0) (.slice none 0 0), rfl, a11.rowL (0 + 2 * 8) _ rfl, _, _, rfl, (show tE.size ≤ maxLen by decide), nos_nil W, nos_nil W⟩
  · omega
theorem kf_bs1 {S : Nat} (a9 : At W (S + 1 + 1 + 1 + 1 + 1 + 1 + 1 + 1 + 1) (kf9 S n words q) 3) (a10 : At W (S + 1 + 1 + 1 + 1 + 1 + 1 + 1 + 1 + 1 + 1) (kf10 S n words q) 3) (a11 : At W (S + 1 + 1 + 1 + 1 + 1 + 1 + 1 + 1 + 1 + 1 + 1) (kf11 S n words q) 30) (a12 : At W (S + 1 + 1 + 1 + 1 + 1 + 1 + 1 + 1 + 1 + 1 + 1 + 1) (kf12 S n words q) 35) : LbsIn W [⟨[(⟨1, 0, 0, 0, n, tE, [], []⟩ : Lo), (⟨7, 0, 0, 0, 0, tG, [0], [0]⟩ : Lo), (⟨8, 0, 0, 0, 0, tE, [], []⟩ : Lo)], (⟨3, 0, 0, 0, 0, tE, []⟩ : Le)⟩] (.slice (some ⟨S + 1 + 1 + 1 + 1 + 1 + 1 + 1 + 1 + 1 + 1 + 1 + 1, 0, none⟩) 1 1) := by
  refine ⟨(by simp), _, _, rfl, fun i hi => ?_⟩
  have hi : i < 1 := hi
  rcases i with _ | i
  · exact ⟨S + 1 + 1 + 1 + 1 + 1 + 1 + 1 + 1 + 1 + 1 + 1 + 1, 0, (.slice (some ⟨S + 1 + 1 + 1 + 1 + 1 + 1 + 1 + 1 + 1 + 1 + 1, 0, none⟩) 3 3) :: leC (⟨3, 0, 0, 0, 0, tE, []⟩ : Le) (.slice none 0 0), rfl, a12.rowL (0 + 0 * 8) _ rfl, _, _, rfl, (kf_li10 a9 a10 a11), nos_nil W⟩
  · omega
theorem kf_in {W1 : World} {b : Nat} (hW : W1 = (kfW w.heap.size n words q).foldl World.alloc w) (hB : Below W1.heap.size W1 W) (aL : At W b (kfL w.heap.size n words q) 38) : LfsIn W (framesF n words q) (.slice (some ⟨b, 0, none⟩) 2 2) := by
  have a0 : At W (w.heap.size) (kf0 w.heap.size n words q) 3 := allocs_in hW hB 0 rfl
  have a1 : At W (w.heap.size + 1) (kf1 w.heap.size n words q) 30 := allocs_in hW hB 1 rfl
  have a2 : At W (w.heap.size + 1 + 1) (kf2 w.heap.size n words q) 3 := allocs_in hW hB 2 rfl
  have a3 : At W (w.heap.size + 1 + 1 + 1) (kf3 w.heap.size n words q) 3 := allocs_in hW hB 3 rfl
  have a4 : At W (w.heap.size + 1 + 1 + 1 + 1) (kf4 w.heap.size n words q) 30 := allocs_in hW hB 4 rfl
  have a5 : At W (w.heap.size + 1 + 1 + 1 + 1 + 1) (kf5 w.heap.size n words q) 3 := allocs_in hW hB 5 rfl
  have a6 : At W (w.heap.size + 1 + 1 + 1 + 1 + 1 + 1) (kf6 w.heap.size n words q) 3 := allocs_in hW hB 6 rfl
  have a7 : At W (w.heap.size + 1 + 1 + 1 + 1 + 1 + 1 + 1) (kf7 w.heap.size n words q) 35 := allocs_in hW hB 7 rfl
  have a9 : At W (w.heap.size + 1 + 1 + 1 + 1 + 1 + 1 + 1 + 1 + 1) (kf9 w.heap.size n words q) 3 := allocs_in hW hB 9 rfl
  have a10 : At W (w.heap.size + 1 + 1 + 1 + 1 + 1 + 1 + 1 + 1 + 1 + 1) (kf10 w.heap.size n words q) 3 := allocs_in hW hB 10 rfl
  have a11 : At W (w.heap.size + 1 + 1 + 1 + 1 + 1 + 1 + 1 + 1 + 1 + 1 + 1) (kf11 w.heap.size n words q) 30 := allocs_in hW hB 11 rfl
  have a12 : At W (w.heap.size + 1 + 1 + 1 + 1 + 1 + 1 + 1 + 1 + 1 + 1 + 1 + 1) (kf12 w.heap.size n words q) 35 := allocs_in hW hB 12 rfl
  refine ⟨(by show 2 ≤ _; omega), _, _, rfl, fun i hi => ?_⟩
  have hi : i < 2 := hi
  rcases i with _ | _ | i
  · exact ⟨b, 0, lfC ((framesF n words q)[0]'hi) (.slice none 0 0) (.slice (some ⟨w.heap.size + 1 + 1 + 1 + 1 + 1 + 1 + 1 + 1 + 1 + 1 + 1 + 1, 0, none⟩) 1 1), rfl, aL.rowL (0 + 0 * 7) _ rfl, _, _, rfl, (show tMain.size ≤ maxLen by decide), nos_nil W, kf_bs1 a9 a10 a11 a12⟩
  · exact ⟨b, 0, lfC ((framesF n words q)[1]'hi) (.slice (some ⟨w.heap.size, 0, none⟩) 1 1) (.slice (some ⟨w.heap.size + 1 + 1 + 1 + 1 + 1 + 1 + 1, 0, none⟩) 3 3), rfl, aL.rowL (0 + 1 * 7) _ rfl, _, _, rfl, (show tG.size ≤ maxLen by decide), nos_at (l := [0]) 1 a0, kf_bs0 a1 a2 a3 a4 a5 a6 a7⟩
  · omega
end
end Go.Proofs.YtapgaclonilnbaaDoor
