/-
  Proved: show's holds, around and innermost.
-/
import Derived.Test.YtdpmdonneoadbaaDoorRefType
import Derived.Test.YtdpmdonneoadbaaDoorShelf
import Derived.Lib.LaidTab
import Derived.Lib.AppendIntMem
namespace Go.Proofs.YtdpmdonneoadbaaDoor
open Go.RowKit

theorem holds_c (k : Int) (s : ByteArray) (n : Int) (A : Option Addr) (L C : Nat) (w : World) :
    Calls Tryd.prog 9 #[.agg #[.int .i64 k, .string s, .int .i64 n, .slice A L C]] w fun e w' => e = .returned (.bool (holdsB k L)) ∧ w' = w.alloc (.cells #[.int .i64 k, .string s, .int .i64 n, .slice A L C] 24) := by
  unfold holdsB
  by_cases h1 : 10 ≤ k
  · by_cases h2 : k ≤ 13
    · by_cases h3 : 0 < L
      · have g : (0 : Int) < (L : Int) := by omega
        simp only [h1, h2, h3, decide_true, Bool.true_and]
        go_enter Tryd.func9, Tryd.ntmps9
        go_wp2
        go_ret
        exact ⟨rfl, rfl⟩
      · have g : L = 0 := by omega
        subst g
        simp only [h1, h2, decide_true, Bool.true_and]
        go_enter Tryd.func9, Tryd.ntmps9
        go_wp2
        go_ret
        exact ⟨rfl, rfl⟩
    · have g : decide (k ≤ 13) = false := by simpa using h2
      simp only [g, Bool.and_false, Bool.false_and]
      go_enter Tryd.func9, Tryd.ntmps9
      go_wp2
      go_ret
      exact ⟨rfl, rfl⟩
  · have g : decide (10 ≤ k) = false := by simpa using h1
    simp only [g, Bool.false_and]
    go_enter Tryd.func9, Tryd.ntmps9
    go_wp2
    go_ret
    exact ⟨rfl, rfl⟩

/-- The tables that are read, as the program's text lays them. -/
structure Tab (w : World) : Prop where
  pow : Lib.TabIs Tryd.prog w "internal/strconv.uint64pow10" .u64 Lib.pow10Tab
  wd : ∀ k : Int, 1 ≤ k → k ≤ 8 → w.cell? ⟨0, k.toNat, none⟩ = some (.string (ofL (wordOf k)))
  lt : 0 < w.heap.size ∧ (∀ g, Tryd.prog.globalNamed "internal/strconv.uint64pow10" = some g → g < w.heap.size)

theorem Tab.below {w w' : World} (h : Tab w) (k : Below w.heap.size w w') : Tab w' := by
  refine ⟨?_, fun j h1 h2 => (k.cell (p := ⟨0, j.toNat, none⟩) h.lt.1).trans (h.wd j h1 h2), Nat.lt_of_lt_of_le h.lt.1 k.size, fun g hg => Nat.lt_of_lt_of_le (h.lt.2 g hg) k.size⟩
  have hp := h.pow
  unfold Lib.TabIs World.var? at hp ⊢
  cases hg : Tryd.prog.globalNamed "internal/strconv.uint64pow10" with
  | none => rw [hg] at hp; exact hp
  | some g =>
    rw [hg] at hp
    simp only [Option.bind_some] at hp ⊢
    rw [k.block g (h.lt.2 g hg)]
    exact hp

theorem around_c (k : Int) (s : ByteArray) (n : Int) (A : Option Addr) (L C : Nat) (w : World) (ht : Tab w) (h1 : 10 ≤ k) (h2 : k ≤ 13) (hn : -9223372036854775808 ≤ n ∧ n ≤ 9223372036854775807) :
    Calls Tryd.prog 10 #[.agg #[.int .i64 k, .string s, .int .i64 n, .slice A L C]] w fun e w' => e = .returned (.tuple #[.string (ofL (opn k)), .string (ofL (cls k n))]) ∧ Below w.heap.size w w' := by
  have hc : k = 10 ∨ k = 11 ∨ k = 12 ∨ k = 13 := by omega
  clear h1 h2
  rcases hc with rfl | rfl | rfl | rfl
  · have IT : Hid (∀ w', Below w.heap.size w w' → Calls Tryd.prog 20 #[.int .i64 n] w' fun e w'' => e = .returned (.string (ofL (Lib.itoa n))) ∧ Below w'.heap.size w' w'') := fun w' hw => by
      refine (Tryd.strconv_Itoa n hn.1 hn.2 w' (ht.below hw).pow).mono ?_
      rintro e w'' ⟨rfl, q, os, rfl⟩
      exact ⟨rfl, Lib.below_grow _ _ (Nat.le_refl _) _ _⟩
    have zn : (ofL (Lib.itoa n)).size ≤ 21 := by rw [ofL_size]; exact itoa_len n hn.1 hn.2
    have e : ofL (cls 10 n) = ⟨#[59, 32]⟩ ++ ofL (Lib.itoa n) ++ ⟨#[93]⟩ := by
      show ofL ([59, 32] ++ Lib.itoa n ++ [93]) = ofL [59, 32] ++ ofL (Lib.itoa n) ++ ofL [93]
      simp only [ofL_append]
    rw [e]
    clear e ht hn
    generalize ofL (Lib.itoa n) = num at IT zn
    go_enter Tryd.func10, Tryd.ntmps10
    go_wp2_with (go_at_call 20; refine (IT.out _ (below_alloc _ _)).mono ?_; rintro e w1 ⟨rfl, hb⟩; have M : Hid (Below w.heap.size w w1) := below_next (below_alloc _ _) hb; clear hb)
    go_ret2
    exact ⟨rfl, M.out⟩
  all_goals
    clear ht hn
    go_enter Tryd.func10, Tryd.ntmps10
    go_wp2
    go_ret2
    exact ⟨rfl, below_alloc _ _⟩

theorem innermost_c (k : Int) (s : ByteArray) (n : Int) (A : Option Addr) (L C : Nat) (w : World) (ht : Tab w) :
    Calls Tryd.prog 12 #[.agg #[.int .i64 k, .string s, .int .i64 n, .slice A L C]] w fun e w' => e = .returned (.string (ofL (inner k s))) ∧ Below w.heap.size w w' := by
  have hz := ht.lt.1
  unfold inner
  by_cases h1 : 1 ≤ k
  · by_cases h2 : k ≤ 8
    · rw [if_pos ⟨h1, h2⟩]
      have c := ht.wd k h1 h2
      have h3 : k < 9 := by omega
      have h4 : (0 : Int) ≤ k := by omega
      have nz : ¬ 0 = w.heap.size := by omega
      clear ht
      go_enter Tryd.func12, Tryd.ntmps12
      go_wp2
      go_ret
      exact ⟨rfl, below_alloc _ _⟩
    · have g : decide (k < 9) = false := by simp; omega
      have g' : ¬ k < 9 := by omega
      rw [if_neg (fun h => h2 h.2)]
      clear ht
      by_cases h9 : k = 9
      · subst h9
        rw [if_pos rfl, ofL_data]
        clear g g' h1 h2
        go_enter Tryd.func12, Tryd.ntmps12
        go_wp2
        go_ret
        exact ⟨rfl, below_alloc _ _⟩
      · have g9 : (k == 9) = false := by simpa using h9
        rw [if_neg h9]
        go_enter Tryd.func12, Tryd.ntmps12
        go_wp2
        go_ret
        exact ⟨rfl, below_alloc _ _⟩
  · have g : decide (1 ≤ k) = false := by simpa using h1
    have h9 : ¬ k = 9 := by omega
    have g9 : (k == 9) = false := by simpa using h9
    rw [if_neg (fun h => h1 h.1), if_neg h9]
    clear ht
    go_enter Tryd.func12, Tryd.ntmps12
    go_wp2
    go_ret
    exact ⟨rfl, below_alloc _ _⟩

end Go.Proofs.YtdpmdonneoadbaaDoor
