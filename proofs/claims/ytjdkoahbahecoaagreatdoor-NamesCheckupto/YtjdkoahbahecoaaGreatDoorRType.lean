/-
  Proved: the document's own inner and Type.
-/
import Derived.Test.YtjdkoahbahecoaaGreatDoorRWords
import Derived.Test.YtjdkoahbahecoaaGreatDoorNType
namespace Go.Proofs.YtjdkoahbahecoaaGreatDoor
open Go.RowKit

set_option maxHeartbeats 600000 in
theorem rinner_c (k : Int) (s : ByteArray) (n : Int) (EA : Option Addr) (el EC : Nat) (w : World) :
    Calls Tryz.prog 20 #[.agg #[.int .i64 k, .string s, .int .i64 n, .slice EA el EC]] w fun e w' => e = .returned (.bool (decide (10 ≤ k ∧ k ≤ 13 ∧ 0 < el))) ∧ Below w.heap.size w w' := by
  have HW1 : Hid (∀ a, Below w.heap.size w (w.alloc a)) := below_alloc w
  by_cases h1 : 10 ≤ k
  · by_cases h2 : k ≤ 13
    · by_cases h3 : 0 < el
      · have h3' : (0 : Int) < (el : Int) := by omega
        rw [decide_eq_true ⟨h1, h2, h3⟩]
        go_enter Tryz.func20, Tryz.ntmps20
        go_wp2
        go_ret
        exact ⟨rfl, HW1.out _⟩
      · obtain rfl : el = 0 := by omega
        rw [decide_eq_false (by simp)]
        go_enter Tryz.func20, Tryz.ntmps20
        go_wp2
        go_ret
        exact ⟨rfl, HW1.out _⟩
    · rw [decide_eq_false (by omega)]
      go_enter Tryz.func20, Tryz.ntmps20
      go_wp2
      go_ret
      exact ⟨rfl, HW1.out _⟩
  · rw [decide_eq_false (by omega)]
    go_enter Tryz.func20, Tryz.ntmps20
    go_wp2
    go_ret
    exact ⟨rfl, HW1.out _⟩

/-- The first thing that is wrong with a type and those within it, by themselves. -/
def rb1 (is : List It) : T → Bool → Int
  | .mk k s n [], refs => frm is (.mk k s n []) refs
  | .mk k s n (e :: es), refs => if frm is (.mk k s n (e :: es)) refs = 0 then (if 10 ≤ k ∧ k ≤ 13 then rb1 is e false else 0) else frm is (.mk k s n (e :: es)) refs

/-- Has each one words? -/
def rb2 (is : List It) : T → Bool
  | .mk k s n [] => (wrd is (.mk k s n [])).isSome
  | .mk k s n (e :: es) => (wrd is (.mk k s n (e :: es))).isSome && (if 10 ≤ k ∧ k ≤ 13 then rb2 is e else true)

/-- What the document's Type answers. -/
def rT (is : List It) (t : T) (refs : Bool) : Int :=
  if rb1 is t refs = 0 then (if rb2 is t then 0 else 43) else rb1 is t refs

end Go.Proofs.YtjdkoahbahecoaaGreatDoor
