/-
  Proved: how the runs of LowFrames' functions go: all 512 of them, each by the kernel.
-/
import Derived.Test.YtapgaclonilnbaaDoorLk
namespace Go.Proofs.YtapgaclonilnbaaDoor
open Go.RowKit
set_option linter.unusedVariables false
set_option linter.unusedSimpArgs false

def framesF (n words q : Int) : List Lf :=
  [⟨tMain, 1, [], 0, 0, false, [⟨[⟨1, 0, 0, 0, n, tE, [], []⟩, ⟨7, 0, 0, 0, 0, tG, [0], [0]⟩, ⟨8, 0, 0, 0, 0, tE, [], []⟩], ⟨3, 0, 0, 0, 0, tE, []⟩⟩]⟩,
   ⟨tG, 3, [0], 1, words, false,
     [⟨[⟨5, 1, -2, 0, q, tE, [], []⟩, ⟨8, 0, 1, 0, 0, tE, [], []⟩, ⟨6, 0, -2, 0, q, tE, [], []⟩], ⟨2, 0, -1, 2, 1, tEq, []⟩⟩,
      ⟨[⟨4, 2, 0, 0, -1, tAdd, [], []⟩, ⟨7, 0, 0, 0, 0, tG, [2], [2]⟩, ⟨5, 1, -2, 0, q, tE, [], []⟩, ⟨8, 0, 1, 0, 0, tE, [], []⟩], ⟨3, 0, 0, 0, 0, tE, [1]⟩⟩,
      ⟨[], ⟨3, 0, 0, 0, 0, tE, [0]⟩⟩]⟩]

/-- What is printed: a nought a call, then the numbers from 1 on, then n. -/
def wantF (n : Nat) : List Int := List.replicate (n + 1) 0 ++ (List.range n).map (fun i : Nat => (i : Int) + 1) ++ [(n : Int)]

/-- All of one number. -/
def FraR (n : Nat) : Prop := ∀ j : Fin 32, chk (framesF n (1 + j.val) (4 * j.val)) = true ∧ byN (framesF n (1 + j.val) (4 * j.val)) [109, 97, 105, 110] = some 0 ∧ goK (framesF n (1 + j.val) (4 * j.val)) 10000 (beginM (framesF n (1 + j.val) (4 * j.val)) 0 []) = ((1, 0), wantF n, 9 * n + 9)
instance (n : Nat) : Decidable (FraR n) := by unfold FraR; infer_instance

theorem fraR0 : FraR 0 := by decide +kernel
theorem fraR1 : FraR 1 := by decide +kernel
theorem fraR2 : FraR 2 := by decide +kernel
theorem fraR3 : FraR 3 := by decide +kernel
theorem fraR4 : FraR 4 := by decide +kernel
theorem fraR5 : FraR 5 := by decide +kernel
theorem fraR6 : FraR 6 := by decide +kernel
theorem fraR7 : FraR 7 := by decide +kernel
theorem fraR8 : FraR 8 := by decide +kernel
theorem fraR9 : FraR 9 := by decide +kernel
theorem fraR10 : FraR 10 := by decide +kernel
theorem fraR11 : FraR 11 := by decide +kernel
theorem fraR12 : FraR 12 := by decide +kernel
theorem fraR13 : FraR 13 := by decide +kernel
theorem fraR14 : FraR 14 := by decide +kernel
theorem fraR15 : FraR 15 := by decide +kernel

theorem fraR (n : Nat) (h : n < 16) : FraR n := by
  rcases n with _ | _ | _ | _ | _ | _ | _ | _ | _ | _ | _ | _ | _ | _ | _ | _ | n
  · exact fraR0
  · exact fraR1
  · exact fraR2
  · exact fraR3
  · exact fraR4
  · exact fraR5
  · exact fraR6
  · exact fraR7
  · exact fraR8
  · exact fraR9
  · exact fraR10
  · exact fraR11
  · exact fraR12
  · exact fraR13
  · exact fraR14
  · exact fraR15
  · omega

theorem frames_chk (n j : Nat) (hn : n < 16) (hj : j < 32) : chk (framesF n (1 + j) (4 * j)) = true := (fraR n hn ⟨j, hj⟩).1
theorem frames_main (n j : Nat) (hn : n < 16) (hj : j < 32) : byN (framesF n (1 + j) (4 * j)) [109, 97, 105, 110] = some 0 := (fraR n hn ⟨j, hj⟩).2.1
theorem frames_go (n j : Nat) (hn : n < 16) (hj : j < 32) : goS (framesF n (1 + j) (4 * j)) 10000 (beginM (framesF n (1 + j) (4 * j)) 0 []) = ((1, 0), wantF n, 9 * n + 9) := by
  rw [← goK_eq]
  exact (fraR n hn ⟨j, hj⟩).2.2
end Go.Proofs.YtapgaclonilnbaaDoor
