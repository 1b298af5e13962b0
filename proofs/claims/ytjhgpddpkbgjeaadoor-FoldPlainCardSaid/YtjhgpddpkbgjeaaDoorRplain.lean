/-
  Proved: what the document's own made answers of any place and local.
-/
import Derived.Test.YtjhgpddpkbgjeaaDoorMopen
import Derived.OwnWalk
import Derived.Deep.RegionWith
namespace Go.Proofs.YtjhgpddpkbgjeaaDoor
open Go.RowKit

/-- Is a place made of a local's own memory? -/
def mdf (p : Pl) (k : Int) : Bool := decide (p.l = k) && (match p.st with | [] => true | s :: _ => decide (s.k ≠ 3))

set_option maxHeartbeats 1000000 in
theorem made_c (p : Pl) (k : Int) (pv : Value) (w : World) (h : StsIn w p.st pv) :
    Calls Tryd.prog 9 #[.agg #[.int .i64 p.l, pv], .int .i64 k] w fun e w' => e = .returned (.bool (mdf p k)) ∧ Below w.heap.size w w' := by
  obtain ⟨l, st⟩ := p
  obtain ⟨hl, A, C, rfl, hr⟩ := h
  simp only [mdf]
  have HB : Hid (∀ o, Below w.heap.size w (w.alloc o)) := below_alloc w
  by_cases e : l = k
  · have e1 : (l == k) = true := by simpa using e
    have e2 : decide (l = k) = true := by simpa using e
    rw [e2]
    cases st with
    | nil =>
      clear hr
      simp only [List.length_nil] at *
      go_enter Tryd.func9, Tryd.ntmps9
      go_wp2
      go_ret
      exact ⟨by simp, HB.out _⟩
    | cons s st =>
      obtain ⟨b, o, cs, rfl, hrow, rfl⟩ := hr 0 (by simp)
      have hb := hrow.1
      have c0 := hrow.2 0 _ rfl
      simp only [Nat.zero_mul, Nat.add_zero, List.getElem_cons_zero] at c0
      have hl0 : ¬ ((st.length : Int) + 1 = 0) := by omega
      have hl1 : (0 : Int) < (st.length : Int) + 1 := by omega
      clear hrow hr
      obtain ⟨sk, sn, ss⟩ := s
      simp only at c0
      simp only [List.length_cons] at *
      by_cases e3 : sk = 3
      · have e4 : (sk == 3) = true := by simpa using e3
        have e5 : decide (sk ≠ 3) = false := by simpa using e3
        rw [e5]
        go_enter Tryd.func9, Tryd.ntmps9
        go_wp2
        go_ret
        exact ⟨by simp; omega, HB.out _⟩
      · have e4 : (sk == 3) = false := by simpa using e3
        have e5 : decide (sk ≠ 3) = true := by simpa using e3
        rw [e5]
        go_enter Tryd.func9, Tryd.ntmps9
        go_wp2
        go_ret
        exact ⟨by simp [e3], HB.out _⟩
  · have e1 : (l == k) = false := by simpa using e
    have e2 : decide (l = k) = false := by simpa using e
    rw [e2]
    clear hr
    go_enter Tryd.func9, Tryd.ntmps9
    go_wp2
    go_ret
    exact ⟨by simp, HB.out _⟩
end Go.Proofs.YtjhgpddpkbgjeaaDoor
