/-
  Proved: the document's own Steps tells a place's root and steps.
-/
import Derived.Test.YtjbglolcnhmkcaaPath
namespace Go.Proofs.Ytjbglolcnhmkcaa
open Go.RowKit

def rL (s : Int × Int) : List Value := [.int .i64 s.1, .int .i64 s.2]
theorem rL_len (s : Int × Int) : (rL s).length = 2 := rfl
theorem rL_one (s : Int × Int) : ∀ u ∈ rL s, u.oneCell' = true := by intro u hu; simp [rL] at hu; rcases hu with rfl | rfl <;> rfl

/-- The root that is told. -/
def rootN (x : X) : Int := if isPl x = true then (rootX x).n else 0

/-- What Steps has told. -/
def Told (w : World) (x : X) (e : Ending) (w' : World) : Prop := ∃ (A : Option Addr) (C : Nat), e = .returned (.tuple #[.int .i64 (rootN x), .slice A (rsts x).length C, .bool (isPl x)]) ∧ RowsIn w' 2 rL (rsts x) A ∧ ((rsts x).length = 0 → A = none) ∧ Below w.heap.size w w'

def StepsC (x : X) : Prop := ∀ (w : World) (cs : List Value), XIn w x cs → dpt x ≤ 1000 → Calls Try.prog 9 #[.agg cs.toArray] w fun e w' => Told w x e w'

theorem told_pos (k n : Int) (s : ByteArray) (ks : List X) (ts : List T) (h : 0 < ks.length) (hk : isSt k = true) : rsts (.mk k n s ks ts) = rsts (ks[0]'h) ++ [rst (.mk k n s ks ts)] ∧ isPl (.mk k n s ks ts) = isPl (ks[0]'h) ∧ rootN (.mk k n s ks ts) = rootN (ks[0]'h) := by
  obtain ⟨h1, h2⟩ := outX_pos k n s ks ts h hk
  refine ⟨by simp [rsts, h1], by simp [isPl, h2], by simp [rootN, isPl, h2]⟩

theorem told_end (k n : Int) (s : ByteArray) (ks : List X) (ts : List T) (h : ¬ 0 < ks.length ∨ isSt k = false) : rsts (.mk k n s ks ts) = [] ∧ isPl (.mk k n s ks ts) = decide (k = 4) ∧ rootN (.mk k n s ks ts) = if k = 4 then n else 0 := by
  obtain ⟨h1, h2⟩ := outX_end k n s ks ts h
  refine ⟨by simp [rsts, h1], by simp [isPl, h2], by simp [rootN, isPl, h2]⟩

set_option maxRecDepth 100000 in
set_option maxHeartbeats 4000000 in
/-- A root, or no place. -/
theorem steps_end (k n : Int) (s : ByteArray) (ks : List X) (ts : List T) (h : ¬ 0 < ks.length ∨ isSt k = false) : StepsC (.mk k n s ks ts) := by
  intro w cs hx _
  obtain ⟨e1, e2, e3⟩ := told_end k n s ks ts h
  have FIN : Hid (∀ w', Below w.heap.size w w' → Told w (.mk k n s ks ts) (.returned (.tuple #[.int .i64 (if k = 4 then n else 0), .slice none 0 0, .bool (decide (k = 4))])) w') := fun w' hw => ⟨none, 0, by rw [e1, e2, e3]; rfl, by rw [e1]; intro i hi; exact absurd hi (Nat.not_lt_zero _), fun _ => rfl, hw⟩
  clear e1 e2 e3
  obtain ⟨at', A, C, B, D, p, q, r, Z, zl, zc, rfl, _, _⟩ := hx.inv
  clear hx
  by_cases h4 : k = 4
  · subst h4
    go_enter Try.func9, Try.ntmps9
    go_wp2
    refine bodyPost_ret (v := .tuple #[.int .i64 n, .slice none 0 0, .bool true]) (by simp [results, Try.results9, go_sem]) rfl ?_
    exact FIN.out _ (below_alloc _ _)
  · have g4 : (k == 4) = false := by simpa using h4
    simp only [h4, if_false, decide_false] at FIN
    by_cases hst : isSt k = true
    · have hlen : ks.length = 0 := by
        rcases h with h | h
        · omega
        · rw [hst] at h; cases h
      simp only [isSt, Bool.or_eq_true, decide_eq_true_eq] at hst
      rw [hlen]
      rcases hst with (rfl | rfl) | rfl
      · go_enter Try.func9, Try.ntmps9
        go_wp2
        refine bodyPost_ret (v := .tuple #[.int .i64 0, .slice none 0 0, .bool false]) (by simp [results, Try.results9, go_sem]) rfl ?_
        exact FIN.out _ (below_alloc _ _)
      · go_enter Try.func9, Try.ntmps9
        go_wp2
        refine bodyPost_ret (v := .tuple #[.int .i64 0, .slice none 0 0, .bool false]) (by simp [results, Try.results9, go_sem]) rfl ?_
        exact FIN.out _ (below_alloc _ _)
      · go_enter Try.func9, Try.ntmps9
        go_wp2
        refine bodyPost_ret (v := .tuple #[.int .i64 0, .slice none 0 0, .bool false]) (by simp [results, Try.results9, go_sem]) rfl ?_
        exact FIN.out _ (below_alloc _ _)
    · simp only [isSt, Bool.or_eq_true, decide_eq_true_eq, not_or] at hst
      obtain ⟨⟨n1, n2⟩, n3⟩ := hst
      have g1 : (k == 12) = false := by simpa using n1
      have g2 : (k == 13) = false := by simpa using n2
      have g3 : (k == 7) = false := by simpa using n3
      clear h
      go_enter Try.func9, Try.ntmps9
      go_wp2
      refine bodyPost_ret (v := .tuple #[.int .i64 0, .slice none 0 0, .bool false]) (by simp [results, Try.results9, go_sem]) rfl ?_
      exact FIN.out _ (below_alloc _ _)

end Go.Proofs.Ytjbglolcnhmkcaa
