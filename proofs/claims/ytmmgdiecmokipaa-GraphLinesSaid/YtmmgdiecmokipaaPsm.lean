/-
  Proved: the small functions of graph: room, isBlock, endsWith, goesTo, nextOf; rows of which one element turns, or the last one goes.
-/
import Derived.Test.YtmmgdiecmokipaaGleave
import Derived.WideMake
import Derived.WideLaws
import Derived.MapKept
namespace Go.Proofs.Ytmmgdiecmokipaa
open Go.RowKit

theorem room_c (n : Nat) (hn : n ≤ 1000) (w : World) : Calls Try.prog 17 #[.int .i64 (n : Int)] w fun e w' => e = .returned (.int .i64 (n : Int)) ∧ w' = w := by
  have h1 : ¬ (n : Int) < 0 := by omega
  have h2 : ¬ (2147483647 : Int) < n := by omega
  go_enter Try.func17, Try.ntmps17
  go_wp2
  go_ret
  exact ⟨rfl, rfl⟩

theorem room_neg (n : Int) (hn : n < 0) (w : World) : Calls Try.prog 17 #[.int .i64 n] w fun e w' => e = .returned (.int .i64 0) ∧ w' = w := by
  go_enter Try.func17, Try.ntmps17
  go_wp2
  go_ret
  exact ⟨rfl, rfl⟩

theorem isBlock_c (n : Nat) (x : Int) (w : World) : Calls Try.prog 22 #[.int .i64 (n : Int), .int .i64 x] w fun e w' => e = .returned (.bool (decide (0 ≤ x ∧ x < (n : Int)))) ∧ w' = w := by
  by_cases h1 : 0 ≤ x
  · by_cases h2 : x < (n : Int)
    · rw [decide_eq_true (⟨h1, h2⟩ : 0 ≤ x ∧ x < (n : Int))]
      go_enter Try.func22, Try.ntmps22
      go_wp2
      go_ret
      exact ⟨rfl, rfl⟩
    · rw [decide_eq_false (fun h => h2 h.2 : ¬ (0 ≤ x ∧ x < (n : Int)))]
      go_enter Try.func22, Try.ntmps22
      go_wp2
      go_ret
      exact ⟨rfl, rfl⟩
  · rw [decide_eq_false (fun h => h1 h.1 : ¬ (0 ≤ x ∧ x < (n : Int)))]
    go_enter Try.func22, Try.ntmps22
    go_wp2
    go_ret
    exact ⟨rfl, rfl⟩

theorem goesTo_c (i : Nat) (to : List (List Int)) (tv : Value) (w0 w : World) (h : RwsIn w0 to tv) (hb0 : Below w0.heap.size w0 w) (hf : Fw to) :
    Calls Try.prog 35 #[tv, .int .i64 (i : Int)] w fun e w' => ∃ v, e = .returned v ∧ NumsIn w0 (to.getD i []) v ∧ w' = w := by
  obtain ⟨A, C, rfl, hr⟩ := h
  have hl : to.length ≤ 200 := hf.1
  clear hf
  rw [List.getD_eq_getElem?_getD]
  rcases Nat.lt_or_ge i to.length with hit | hit
  · have hiz : (i : Int) < to.length := by omega
    obtain ⟨b, o, u, rfl, hb, hc0, hnum⟩ := hr i hit
    rw [List.getElem?_eq_getElem hit]
    have HN : Hid (NumsIn w0 to[i] u) := hnum
    have hc : w.cell? ⟨b, o + i, none⟩ = some u := (hb0.cell (p := ⟨b, o + i, none⟩) hb).trans hc0
    clear hr hnum hc0 hb0
    generalize hL : to[i] = L at HN
    clear hL
    go_enter Try.func35, Try.ntmps35
    go_wp2
    go_ret
    exact ⟨u, rfl, HN.out, rfl⟩
  · have hiz : ¬ (i : Int) < to.length := by omega
    have hiz2 : (to.length : Int) ≤ i := by omega
    rw [List.getElem?_eq_none (by omega)]
    clear hr hb0
    go_enter Try.func35, Try.ntmps35
    go_wp2
    go_ret
    exact ⟨_, rfl, ⟨none, 0, rfl, fun j hj => by simp at hj⟩, rfl⟩

theorem Fw.row {to : List (List Int)} (hf : Fw to) (i : Nat) : (to.getD i []).length ≤ 200 := by
  rw [List.getD_eq_getElem?_getD]
  by_cases hi : i < to.length
  · rw [List.getElem?_eq_getElem hi]; exact hf.2 i hi
  · rw [List.getElem?_eq_none (by omega)]; simp

set_option maxHeartbeats 1000000 in
theorem nextOf_end (i k B o : Nat) (to : List (List Int)) (tv : Value) (w0 w : World) (h : RwsIn w0 to tv) (hb : Below w0.heap.size w0 w) (hf : Fw to) (c0 : w.cell? ⟨B, o, none⟩ = some (.int .i64 (i : Int))) (c1 : w.cell? ⟨B, o + 1, none⟩ = some (.int .i64 (k : Int))) (hk : k = (to.getD i []).length) :
    Calls Try.prog 32 #[tv, .pointer (some ⟨B, o, none⟩)] w fun e w' => e = .returned (.tuple #[.int .i64 0, .bool false]) ∧ w' = w := by
  have G := goesTo_c i to tv w0 w h hb hf
  obtain ⟨A, C, rfl, hr⟩ := h
  have GG : Hid (Calls Try.prog 35 #[.slice A to.length C, .int .i64 (i : Int)] w fun e w' => ∃ v, e = .returned v ∧ NumsIn w0 (to.getD i []) v ∧ w' = w) := G
  clear G hr hb
  generalize to.getD i [] = L at *
  subst hk
  have hl : to.length ≤ 200 := hf.1
  clear hf
  have hq : ((L.length : Int) == (L.length : Int)) = true := by simp
  go_enter Try.func32, Try.ntmps32
  go_wp2_with (go_at_call 35; refine GG.out.mono ?_; rintro e w1 ⟨v1, rfl, hn1, rfl⟩; obtain ⟨A1, C1, rfl, hn2⟩ := hn1; clear hn2)
  go_ret2
  exact ⟨rfl, rfl⟩

set_option maxHeartbeats 1000000 in
theorem nextOf_more (i k B o : Nat) (to : List (List Int)) (tv : Value) (w0 w : World) (h : RwsIn w0 to tv) (hb : Below w0.heap.size w0 w) (hB : w0.heap.size ≤ B) (hf : Fw to) (c0 : w.cell? ⟨B, o, none⟩ = some (.int .i64 (i : Int))) (c1 : w.cell? ⟨B, o + 1, none⟩ = some (.int .i64 (k : Int))) (hfz : w.frozen? ⟨B, o + 1, none⟩ = false) (hk : k < (to.getD i []).length) :
    Calls Try.prog 32 #[tv, .pointer (some ⟨B, o, none⟩)] w fun e w' => e = .returned (.tuple #[.int .i64 ((to.getD i [])[k]'hk), .bool true]) ∧ w' = w.setCell ⟨B, o + 1, none⟩ (.int .i64 ((k + 1 : Nat) : Int)) := by
  have G := goesTo_c i to tv w0 w h hb hf
  have LE := hf.row i
  have BB : Hid (Below w0.heap.size w0 w) := hb
  obtain ⟨A, C, rfl, hr⟩ := h
  have GG : Hid (Calls Try.prog 35 #[.slice A to.length C, .int .i64 (i : Int)] w fun e w' => ∃ v, e = .returned v ∧ NumsIn w0 (to.getD i []) v ∧ w' = w) := G
  clear G hr hb
  generalize to.getD i [] = L at *
  have hl : to.length ≤ 200 := hf.1
  clear hf
  have hq : ((k : Int) == (L.length : Int)) = false := by simp; omega
  have hkz : (k : Int) < L.length := by omega
  have hnew : (w.setCell ⟨B, o + 1, none⟩ (.int .i64 ((k : Int) + 1))).cell? ⟨B, o + 1, none⟩ = some (.int .i64 ((k : Int) + 1)) := World.cell?_setCell_same _ _ _ c1
  go_enter Try.func32, Try.ntmps32
  go_wp2_with (go_at_call 35; refine GG.out.mono ?_; rintro e w1 ⟨v1, rfl, hn1, rfl⟩; obtain ⟨A1, C1, rfl, hn2⟩ := hn1; obtain ⟨b1, o1, rfl, hb1, hc1⟩ := hn2 k hk; have c5 : (w1.setCell ⟨B, o + 1, none⟩ (.int .i64 ((k : Int) + 1))).cell? ⟨b1, o1 + k, none⟩ = some (.int .i64 L[k]) := (cell_other _ _ _ _ _ (by show b1 ≠ B; omega)).trans ((BB.out.cell (p := ⟨b1, o1 + k, none⟩) hb1).trans hc1); clear hn2 hc1)
  go_ret2
  exact ⟨rfl, rfl⟩
end Go.Proofs.Ytmmgdiecmokipaa
