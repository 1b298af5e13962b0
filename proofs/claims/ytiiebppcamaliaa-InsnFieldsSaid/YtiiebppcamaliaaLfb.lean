/-
  Proved: the law InsnFields answers true.
-/
import Derived.Test.YtiiebppcamaliaaIopen
import Derived.Test.YtiiebppcamaliaaMath
import Derived.Deep.Cut
import Derived.Deep.CutRange
namespace Go.Proofs.Ytiiebppcamaliaa
open Go.RowKit
set_option linter.unusedVariables false
set_option linter.unusedSimpArgs false

theorem ch2 {w w1 w2 : World} (h1 : Below w.heap.size w w1) (h2 : Below w1.heap.size w1 w2) : Below w.heap.size w w2 := h1.trans (h2.mono h1.size)

set_option maxRecDepth 20000 in
set_option maxHeartbeats 4000000 in
theorem fields_4 (form n reg v1 v2 v3 : Int) (b1 b2 b3 : Bool) (hk : (form.tmod 7 + 7).tmod 7 = 4) (hw : IntKind.i64.wrap (form.tmod 7 + 7) = form.tmod 7 + 7) (hw2 : wrap64 (form.tmod 7 + 7) = form.tmod 7 + 7)
    (H1 : Hid (b1 = (decide ((-4096) ≤ n) && (decide (n ≤ 4094) && (n.tmod 2 == 0))))) (H2 : Hid (b2 = (decide (reg = 0) || (decide (0 < reg) && (decide (reg < 32) && false))))) (H3 : Hid (b3 = (decide (reg = 0) || (decide (0 < reg) && (decide (reg < 32) && true))))) (w : World)
    (E1 : Hid (∀ w, Calls Try.prog 9 #[.agg #[.string ⟨#[98, 101, 113]⟩, .int .i64 0, .int .i64 0, .int .i64 0, .int .i64 n]] w fun e w' => e = .returned (.tuple #[.int .u32 v1, .bool b1]) ∧ Below w.heap.size w w'))
    (E2 : Hid (∀ w, Calls Try.prog 9 #[.agg #[.string ⟨#[98, 101, 113]⟩, .int .i64 reg, .int .i64 0, .int .i64 0, .int .i64 4094]] w fun e w' => e = .returned (.tuple #[.int .u32 v2, .bool b2]) ∧ Below w.heap.size w w'))
    (E3 : Hid (∀ w, Calls Try.prog 9 #[.agg #[.string ⟨#[98, 101, 113]⟩, .int .i64 0, .int .i64 0, .int .i64 reg, .int .i64 4094]] w fun e w' => e = .returned (.tuple #[.int .u32 v3, .bool b3]) ∧ Below w.heap.size w w')) :
    Calls Try.prog 7 #[.int .i64 form, .int .i64 n, .int .i64 reg] w fun e w' => e = .returned (.bool true) ∧ Below w.heap.size w w' := by
  go_enter Try.func7, Try.ntmps7
  go_upto_region 6 with fail
  have KL : Hid (At ((((w.alloc (.cells #[.string ⟨#[108, 117, 105]⟩, .string ⟨#[106, 97, 108]⟩, .string ⟨#[97, 100, 100, 105]⟩, .string ⟨#[115, 108, 108, 105]⟩, .string ⟨#[98, 101, 113]⟩, .string ⟨#[115, 119]⟩, .string ⟨#[97, 100, 100]⟩] 9)).alloc (.cells #[.int .i64 0, .int .i64 (-1048576), .int .i64 (-2048), .int .i64 0, .int .i64 (-4096), .int .i64 (-2048), .int .i64 0] 3)).alloc (.cells #[.int .i64 1048575, .int .i64 1048574, .int .i64 2047, .int .i64 31, .int .i64 4094, .int .i64 2047, .int .i64 0] 3)).alloc (.cells #[.string ⟨#[98, 101, 113]⟩, .int .i64 0, .int .i64 0, .int .i64 0, .int .i64 n] 23)) (w.heap.size + 1) #[.int .i64 0, .int .i64 (-1048576), .int .i64 (-2048), .int .i64 0, .int .i64 (-4096), .int .i64 (-2048), .int .i64 0] 3) := ((At.newS (w.alloc (.cells #[.string ⟨#[108, 117, 105]⟩, .string ⟨#[106, 97, 108]⟩, .string ⟨#[97, 100, 100, 105]⟩, .string ⟨#[115, 108, 108, 105]⟩, .string ⟨#[98, 101, 113]⟩, .string ⟨#[115, 119]⟩, .string ⟨#[97, 100, 100]⟩] 9)) #[.int .i64 0, .int .i64 (-1048576), .int .i64 (-2048), .int .i64 0, .int .i64 (-4096), .int .i64 (-2048), .int .i64 0] 3 (size_alloc _ _)).below (below_alloc ((w.alloc (.cells #[.string ⟨#[108, 117, 105]⟩, .string ⟨#[106, 97, 108]⟩, .string ⟨#[97, 100, 100, 105]⟩, .string ⟨#[115, 108, 108, 105]⟩, .string ⟨#[98, 101, 113]⟩, .string ⟨#[115, 119]⟩, .string ⟨#[97, 100, 100]⟩] 9)).alloc (.cells #[.int .i64 0, .int .i64 (-1048576), .int .i64 (-2048), .int .i64 0, .int .i64 (-4096), .int .i64 (-2048), .int .i64 0] 3)) (.cells #[.int .i64 1048575, .int .i64 1048574, .int .i64 2047, .int .i64 31, .int .i64 4094, .int .i64 2047, .int .i64 0] 3)) (At.newS (w.alloc (.cells #[.string ⟨#[108, 117, 105]⟩, .string ⟨#[106, 97, 108]⟩, .string ⟨#[97, 100, 100, 105]⟩, .string ⟨#[115, 108, 108, 105]⟩, .string ⟨#[98, 101, 113]⟩, .string ⟨#[115, 119]⟩, .string ⟨#[97, 100, 100]⟩] 9)) #[.int .i64 0, .int .i64 (-1048576), .int .i64 (-2048), .int .i64 0, .int .i64 (-4096), .int .i64 (-2048), .int .i64 0] 3 (size_alloc _ _)).lt).below (below_alloc (((w.alloc (.cells #[.string ⟨#[108, 117, 105]⟩, .string ⟨#[106, 97, 108]⟩, .string ⟨#[97, 100, 100, 105]⟩, .string ⟨#[115, 108, 108, 105]⟩, .string ⟨#[98, 101, 113]⟩, .string ⟨#[115, 119]⟩, .string ⟨#[97, 100, 100]⟩] 9)).alloc (.cells #[.int .i64 0, .int .i64 (-1048576), .int .i64 (-2048), .int .i64 0, .int .i64 (-4096), .int .i64 (-2048), .int .i64 0] 3)).alloc (.cells #[.int .i64 1048575, .int .i64 1048574, .int .i64 2047, .int .i64 31, .int .i64 4094, .int .i64 2047, .int .i64 0] 3)) (.cells #[.string ⟨#[98, 101, 113]⟩, .int .i64 0, .int .i64 0, .int .i64 0, .int .i64 n] 23)) (Nat.lt_of_lt_of_le (At.newS (w.alloc (.cells #[.string ⟨#[108, 117, 105]⟩, .string ⟨#[106, 97, 108]⟩, .string ⟨#[97, 100, 100, 105]⟩, .string ⟨#[115, 108, 108, 105]⟩, .string ⟨#[98, 101, 113]⟩, .string ⟨#[115, 119]⟩, .string ⟨#[97, 100, 100]⟩] 9)) #[.int .i64 0, .int .i64 (-1048576), .int .i64 (-2048), .int .i64 0, .int .i64 (-4096), .int .i64 (-2048), .int .i64 0] 3 (size_alloc _ _)).lt (below_alloc ((w.alloc (.cells #[.string ⟨#[108, 117, 105]⟩, .string ⟨#[106, 97, 108]⟩, .string ⟨#[97, 100, 100, 105]⟩, .string ⟨#[115, 108, 108, 105]⟩, .string ⟨#[98, 101, 113]⟩, .string ⟨#[115, 119]⟩, .string ⟨#[97, 100, 100]⟩] 9)).alloc (.cells #[.int .i64 0, .int .i64 (-1048576), .int .i64 (-2048), .int .i64 0, .int .i64 (-4096), .int .i64 (-2048), .int .i64 0] 3)) (.cells #[.int .i64 1048575, .int .i64 1048574, .int .i64 2047, .int .i64 31, .int .i64 4094, .int .i64 2047, .int .i64 0] 3)).size)
  have KH : Hid (At ((((w.alloc (.cells #[.string ⟨#[108, 117, 105]⟩, .string ⟨#[106, 97, 108]⟩, .string ⟨#[97, 100, 100, 105]⟩, .string ⟨#[115, 108, 108, 105]⟩, .string ⟨#[98, 101, 113]⟩, .string ⟨#[115, 119]⟩, .string ⟨#[97, 100, 100]⟩] 9)).alloc (.cells #[.int .i64 0, .int .i64 (-1048576), .int .i64 (-2048), .int .i64 0, .int .i64 (-4096), .int .i64 (-2048), .int .i64 0] 3)).alloc (.cells #[.int .i64 1048575, .int .i64 1048574, .int .i64 2047, .int .i64 31, .int .i64 4094, .int .i64 2047, .int .i64 0] 3)).alloc (.cells #[.string ⟨#[98, 101, 113]⟩, .int .i64 0, .int .i64 0, .int .i64 0, .int .i64 n] 23)) (w.heap.size + 1 + 1) #[.int .i64 1048575, .int .i64 1048574, .int .i64 2047, .int .i64 31, .int .i64 4094, .int .i64 2047, .int .i64 0] 3) := (At.newS ((w.alloc (.cells #[.string ⟨#[108, 117, 105]⟩, .string ⟨#[106, 97, 108]⟩, .string ⟨#[97, 100, 100, 105]⟩, .string ⟨#[115, 108, 108, 105]⟩, .string ⟨#[98, 101, 113]⟩, .string ⟨#[115, 119]⟩, .string ⟨#[97, 100, 100]⟩] 9)).alloc (.cells #[.int .i64 0, .int .i64 (-1048576), .int .i64 (-2048), .int .i64 0, .int .i64 (-4096), .int .i64 (-2048), .int .i64 0] 3)) #[.int .i64 1048575, .int .i64 1048574, .int .i64 2047, .int .i64 31, .int .i64 4094, .int .i64 2047, .int .i64 0] 3 ((size_alloc (w.alloc (.cells #[.string ⟨#[108, 117, 105]⟩, .string ⟨#[106, 97, 108]⟩, .string ⟨#[97, 100, 100, 105]⟩, .string ⟨#[115, 108, 108, 105]⟩, .string ⟨#[98, 101, 113]⟩, .string ⟨#[115, 119]⟩, .string ⟨#[97, 100, 100]⟩] 9)) (.cells #[.int .i64 0, .int .i64 (-1048576), .int .i64 (-2048), .int .i64 0, .int .i64 (-4096), .int .i64 (-2048), .int .i64 0] 3)).trans (congrArg (· + 1) (size_alloc w (.cells #[.string ⟨#[108, 117, 105]⟩, .string ⟨#[106, 97, 108]⟩, .string ⟨#[97, 100, 100, 105]⟩, .string ⟨#[115, 108, 108, 105]⟩, .string ⟨#[98, 101, 113]⟩, .string ⟨#[115, 119]⟩, .string ⟨#[97, 100, 100]⟩] 9))))).below (below_alloc (((w.alloc (.cells #[.string ⟨#[108, 117, 105]⟩, .string ⟨#[106, 97, 108]⟩, .string ⟨#[97, 100, 100, 105]⟩, .string ⟨#[115, 108, 108, 105]⟩, .string ⟨#[98, 101, 113]⟩, .string ⟨#[115, 119]⟩, .string ⟨#[97, 100, 100]⟩] 9)).alloc (.cells #[.int .i64 0, .int .i64 (-1048576), .int .i64 (-2048), .int .i64 0, .int .i64 (-4096), .int .i64 (-2048), .int .i64 0] 3)).alloc (.cells #[.int .i64 1048575, .int .i64 1048574, .int .i64 2047, .int .i64 31, .int .i64 4094, .int .i64 2047, .int .i64 0] 3)) (.cells #[.string ⟨#[98, 101, 113]⟩, .int .i64 0, .int .i64 0, .int .i64 0, .int .i64 n] 23)) (At.newS ((w.alloc (.cells #[.string ⟨#[108, 117, 105]⟩, .string ⟨#[106, 97, 108]⟩, .string ⟨#[97, 100, 100, 105]⟩, .string ⟨#[115, 108, 108, 105]⟩, .string ⟨#[98, 101, 113]⟩, .string ⟨#[115, 119]⟩, .string ⟨#[97, 100, 100]⟩] 9)).alloc (.cells #[.int .i64 0, .int .i64 (-1048576), .int .i64 (-2048), .int .i64 0, .int .i64 (-4096), .int .i64 (-2048), .int .i64 0] 3)) #[.int .i64 1048575, .int .i64 1048574, .int .i64 2047, .int .i64 31, .int .i64 4094, .int .i64 2047, .int .i64 0] 3 ((size_alloc (w.alloc (.cells #[.string ⟨#[108, 117, 105]⟩, .string ⟨#[106, 97, 108]⟩, .string ⟨#[97, 100, 100, 105]⟩, .string ⟨#[115, 108, 108, 105]⟩, .string ⟨#[98, 101, 113]⟩, .string ⟨#[115, 119]⟩, .string ⟨#[97, 100, 100]⟩] 9)) (.cells #[.int .i64 0, .int .i64 (-1048576), .int .i64 (-2048), .int .i64 0, .int .i64 (-4096), .int .i64 (-2048), .int .i64 0] 3)).trans (congrArg (· + 1) (size_alloc w (.cells #[.string ⟨#[108, 117, 105]⟩, .string ⟨#[106, 97, 108]⟩, .string ⟨#[97, 100, 100, 105]⟩, .string ⟨#[115, 108, 108, 105]⟩, .string ⟨#[98, 101, 113]⟩, .string ⟨#[115, 119]⟩, .string ⟨#[97, 100, 100]⟩] 9))))).lt
  have KX : Hid (At ((((w.alloc (.cells #[.string ⟨#[108, 117, 105]⟩, .string ⟨#[106, 97, 108]⟩, .string ⟨#[97, 100, 100, 105]⟩, .string ⟨#[115, 108, 108, 105]⟩, .string ⟨#[98, 101, 113]⟩, .string ⟨#[115, 119]⟩, .string ⟨#[97, 100, 100]⟩] 9)).alloc (.cells #[.int .i64 0, .int .i64 (-1048576), .int .i64 (-2048), .int .i64 0, .int .i64 (-4096), .int .i64 (-2048), .int .i64 0] 3)).alloc (.cells #[.int .i64 1048575, .int .i64 1048574, .int .i64 2047, .int .i64 31, .int .i64 4094, .int .i64 2047, .int .i64 0] 3)).alloc (.cells #[.string ⟨#[98, 101, 113]⟩, .int .i64 0, .int .i64 0, .int .i64 0, .int .i64 n] 23)) (w.heap.size + 1 + 1 + 1) #[.string ⟨#[98, 101, 113]⟩, .int .i64 0, .int .i64 0, .int .i64 0, .int .i64 n] 23) := At.newS (((w.alloc (.cells #[.string ⟨#[108, 117, 105]⟩, .string ⟨#[106, 97, 108]⟩, .string ⟨#[97, 100, 100, 105]⟩, .string ⟨#[115, 108, 108, 105]⟩, .string ⟨#[98, 101, 113]⟩, .string ⟨#[115, 119]⟩, .string ⟨#[97, 100, 100]⟩] 9)).alloc (.cells #[.int .i64 0, .int .i64 (-1048576), .int .i64 (-2048), .int .i64 0, .int .i64 (-4096), .int .i64 (-2048), .int .i64 0] 3)).alloc (.cells #[.int .i64 1048575, .int .i64 1048574, .int .i64 2047, .int .i64 31, .int .i64 4094, .int .i64 2047, .int .i64 0] 3)) #[.string ⟨#[98, 101, 113]⟩, .int .i64 0, .int .i64 0, .int .i64 0, .int .i64 n] 23 ((size_alloc ((w.alloc (.cells #[.string ⟨#[108, 117, 105]⟩, .string ⟨#[106, 97, 108]⟩, .string ⟨#[97, 100, 100, 105]⟩, .string ⟨#[115, 108, 108, 105]⟩, .string ⟨#[98, 101, 113]⟩, .string ⟨#[115, 119]⟩, .string ⟨#[97, 100, 100]⟩] 9)).alloc (.cells #[.int .i64 0, .int .i64 (-1048576), .int .i64 (-2048), .int .i64 0, .int .i64 (-4096), .int .i64 (-2048), .int .i64 0] 3)) (.cells #[.int .i64 1048575, .int .i64 1048574, .int .i64 2047, .int .i64 31, .int .i64 4094, .int .i64 2047, .int .i64 0] 3)).trans (congrArg (· + 1) ((size_alloc (w.alloc (.cells #[.string ⟨#[108, 117, 105]⟩, .string ⟨#[106, 97, 108]⟩, .string ⟨#[97, 100, 100, 105]⟩, .string ⟨#[115, 108, 108, 105]⟩, .string ⟨#[98, 101, 113]⟩, .string ⟨#[115, 119]⟩, .string ⟨#[97, 100, 100]⟩] 9)) (.cells #[.int .i64 0, .int .i64 (-1048576), .int .i64 (-2048), .int .i64 0, .int .i64 (-4096), .int .i64 (-2048), .int .i64 0] 3)).trans (congrArg (· + 1) (size_alloc w (.cells #[.string ⟨#[108, 117, 105]⟩, .string ⟨#[106, 97, 108]⟩, .string ⟨#[97, 100, 100, 105]⟩, .string ⟨#[115, 108, 108, 105]⟩, .string ⟨#[98, 101, 113]⟩, .string ⟨#[115, 119]⟩, .string ⟨#[97, 100, 100]⟩] 9))))))
  have B4 : Hid (Below w.heap.size w ((((w.alloc (.cells #[.string ⟨#[108, 117, 105]⟩, .string ⟨#[106, 97, 108]⟩, .string ⟨#[97, 100, 100, 105]⟩, .string ⟨#[115, 108, 108, 105]⟩, .string ⟨#[98, 101, 113]⟩, .string ⟨#[115, 119]⟩, .string ⟨#[97, 100, 100]⟩] 9)).alloc (.cells #[.int .i64 0, .int .i64 (-1048576), .int .i64 (-2048), .int .i64 0, .int .i64 (-4096), .int .i64 (-2048), .int .i64 0] 3)).alloc (.cells #[.int .i64 1048575, .int .i64 1048574, .int .i64 2047, .int .i64 31, .int .i64 4094, .int .i64 2047, .int .i64 0] 3)).alloc (.cells #[.string ⟨#[98, 101, 113]⟩, .int .i64 0, .int .i64 0, .int .i64 0, .int .i64 n] 23))) := ch2 (below_al2 w (.cells #[.string ⟨#[108, 117, 105]⟩, .string ⟨#[106, 97, 108]⟩, .string ⟨#[97, 100, 100, 105]⟩, .string ⟨#[115, 108, 108, 105]⟩, .string ⟨#[98, 101, 113]⟩, .string ⟨#[115, 119]⟩, .string ⟨#[97, 100, 100]⟩] 9) (.cells #[.int .i64 0, .int .i64 (-1048576), .int .i64 (-2048), .int .i64 0, .int .i64 (-4096), .int .i64 (-2048), .int .i64 0] 3)) (below_al2 ((w.alloc (.cells #[.string ⟨#[108, 117, 105]⟩, .string ⟨#[106, 97, 108]⟩, .string ⟨#[97, 100, 100, 105]⟩, .string ⟨#[115, 108, 108, 105]⟩, .string ⟨#[98, 101, 113]⟩, .string ⟨#[115, 119]⟩, .string ⟨#[97, 100, 100]⟩] 9)).alloc (.cells #[.int .i64 0, .int .i64 (-1048576), .int .i64 (-2048), .int .i64 0, .int .i64 (-4096), .int .i64 (-2048), .int .i64 0] 3)) (.cells #[.int .i64 1048575, .int .i64 1048574, .int .i64 2047, .int .i64 31, .int .i64 4094, .int .i64 2047, .int .i64 0] 3) (.cells #[.string ⟨#[98, 101, 113]⟩, .int .i64 0, .int .i64 0, .int .i64 0, .int .i64 n] 23))
  have LT : Hid (w.heap.size ≤ w.heap.size + 1 + 1 + 1) := by show w.heap.size ≤ w.heap.size + 1 + 1 + 1; omega
  generalize ((((w.alloc (.cells #[.string ⟨#[108, 117, 105]⟩, .string ⟨#[106, 97, 108]⟩, .string ⟨#[97, 100, 100, 105]⟩, .string ⟨#[115, 108, 108, 105]⟩, .string ⟨#[98, 101, 113]⟩, .string ⟨#[115, 119]⟩, .string ⟨#[97, 100, 100]⟩] 9)).alloc (.cells #[.int .i64 0, .int .i64 (-1048576), .int .i64 (-2048), .int .i64 0, .int .i64 (-4096), .int .i64 (-2048), .int .i64 0] 3)).alloc (.cells #[.int .i64 1048575, .int .i64 1048574, .int .i64 2047, .int .i64 31, .int .i64 4094, .int .i64 2047, .int .i64 0] 3)).alloc (.cells #[.string ⟨#[98, 101, 113]⟩, .int .i64 0, .int .i64 0, .int .i64 0, .int .i64 n] 23)) = w4 at *
  generalize w.heap.size + 1 + 1 + 1 = bx at *
  generalize w.heap.size + 1 + 1 = bh at *
  generalize w.heap.size + 1 = bl at *
  have u0 := KX.out.cell 0; have u1 := KX.out.cell 1; have u2 := KX.out.cell 2; have u3 := KX.out.cell 3; have u4 := KX.out.cell 4
  simp at u0 u1 u2 u3 u4
  go_upto_region 8 with (go_at_call 9; refine (E1.out _).mono ?_; rintro e w5 ⟨rfl, hb⟩; have B5 : Hid (Below w.heap.size w w5) := ch2 B4.out hb; have KL5 : Hid (At w5 bl #[.int .i64 0, .int .i64 (-1048576), .int .i64 (-2048), .int .i64 0, .int .i64 (-4096), .int .i64 (-2048), .int .i64 0] 3) := KL.out.below hb KL.out.lt; have KH5 : Hid (At w5 bh #[.int .i64 1048575, .int .i64 1048574, .int .i64 2047, .int .i64 31, .int .i64 4094, .int .i64 2047, .int .i64 0] 3) := KH.out.below hb KH.out.lt; have KX5 : Hid (At w5 bx #[.string ⟨#[98, 101, 113]⟩, .int .i64 0, .int .i64 0, .int .i64 0, .int .i64 n] 23) := KX.out.below hb KX.out.lt; clear hb u0 u1 u2 u3 u4)
  have cl := KL5.out.cell 4; have chh := KH5.out.cell 4
  simp at cl chh
  go_cut [14, 62] from 33 to 118 (fun _ p wx => p = .bool false ∧ wx = w5)
  case first =>
    rcases (by omega : n < (-4096) ∨ ((-4096) ≤ n ∧ 4094 < n) ∨ ((-4096) ≤ n ∧ n ≤ 4094)) with q1 | ⟨q1, q2⟩ | ⟨q1, q2⟩
    · have hb : b1 = false := by rw [H1.out, decide_eq_false (by omega : ¬ (-4096) ≤ n)]; rfl
      subst hb
      go_wp2_with fail
      go_meet
      case rel => exact ⟨by first | rfl | simp, rfl⟩
    · have hb : b1 = false := by rw [H1.out, decide_eq_true q1, decide_eq_false (by omega : ¬ n ≤ 4094)]; rfl
      subst hb
      go_wp2_with fail
      go_meet
      case rel => exact ⟨by first | rfl | simp, rfl⟩
    · by_cases q3 : n.tmod 2 = 0
      · have hb : b1 = true := by rw [H1.out, decide_eq_true q1, decide_eq_true q2, q3]; rfl
        subst hb
        have qz : (n.tmod 2 == 0) = true := by simpa using q3
        go_wp2_with fail
        go_meet
        case rel => exact ⟨by first | rfl | simp, rfl⟩
      · have hb : b1 = false := by rw [H1.out, decide_eq_true q1, decide_eq_true q2];  simp [q3]
        subst hb
        have qz : (n.tmod 2 == 0) = false := by simpa using q3
        go_wp2_with fail
        go_meet
        case rel => exact ⟨by first | rfl | simp, rfl⟩
  case rest =>
    obtain ⟨rfl, hwc⟩ := hcut
    subst wc
    have u0 := KX5.out.cell 0; have u1 := KX5.out.cell 1; have u2 := KX5.out.cell 2; have u3 := KX5.out.cell 3; have u4 := KX5.out.cell 4
    have g1 := KX5.out.frozen 1; have g4 := KX5.out.frozen 4
    simp at u0 u1 u2 u3 u4
    go_upto_region 12 with fail
    clear u0 u1 u2 u3 u4 g1 g4 cl chh
    have KX6 : Hid (At ((w5.setCell ⟨bx, 4, none⟩ (.int .i64 4094)).setCell ⟨bx, 1, none⟩ (.int .i64 reg)) bx #[.string ⟨#[98, 101, 113]⟩, .int .i64 reg, .int .i64 0, .int .i64 0, .int .i64 4094] 23) := (KX5.out.set (j := 4) (.int .i64 4094)).set (j := 1) (.int .i64 reg)
    have B6 : Hid (Below w.heap.size w ((w5.setCell ⟨bx, 4, none⟩ (.int .i64 4094)).setCell ⟨bx, 1, none⟩ (.int .i64 reg))) := (B5.out.setCell LT.out _).setCell LT.out _
    generalize (w5.setCell ⟨bx, 4, none⟩ (.int .i64 4094)).setCell ⟨bx, 1, none⟩ (.int .i64 reg) = w6 at *
    have u0 := KX6.out.cell 0; have u1 := KX6.out.cell 1; have u2 := KX6.out.cell 2; have u3 := KX6.out.cell 3; have u4 := KX6.out.cell 4
    simp at u0 u1 u2 u3 u4
    go_upto_region 13 with (go_at_call 9; refine (E2.out _).mono ?_; rintro e w7 ⟨rfl, hb⟩; have B7 : Hid (Below w.heap.size w w7) := ch2 B6.out hb; have KX7 : Hid (At w7 bx #[.string ⟨#[98, 101, 113]⟩, .int .i64 reg, .int .i64 0, .int .i64 0, .int .i64 4094] 23) := KX6.out.below hb KX6.out.lt; clear hb u0 u1 u2 u3 u4)
    go_cut [94] from 75 to 118 (fun p wx => p = .bool false ∧ wx = w7)
    case first =>
      rcases (by omega : reg = 0 ∨ reg < 0 ∨ (0 < reg ∧ 32 ≤ reg) ∨ (0 < reg ∧ reg < 32)) with q1 | q1 | ⟨q1, q2⟩ | ⟨q1, q2⟩
      · have hb : b2 = true := by rw [H2.out, decide_eq_true q1]; rfl
        subst hb
        have qz : (reg == 0) = true := by simpa using (by omega : reg = 0)
        go_wp2_with fail
        go_meet
        case rel => exact ⟨by first | rfl | simp, rfl⟩
      · have hb : b2 = false := by rw [H2.out, decide_eq_false (by omega : ¬ reg = 0), decide_eq_false (by omega : ¬ 0 < reg)]; rfl
        subst hb
        have qz : (reg == 0) = false := by simpa using (by omega : ¬ reg = 0)
        go_wp2_with fail
        go_meet
        case rel => exact ⟨by first | rfl | simp, rfl⟩
      · have hb : b2 = false := by rw [H2.out, decide_eq_false (by omega : ¬ reg = 0), decide_eq_true q1, decide_eq_false (by omega : ¬ reg < 32)]; rfl
        subst hb
        have qz : (reg == 0) = false := by simpa using (by omega : ¬ reg = 0)
        go_wp2_with fail
        go_meet
        case rel => exact ⟨by first | rfl | simp, rfl⟩
      · have hb : b2 = false := by rw [H2.out, decide_eq_false (by omega : ¬ reg = 0), decide_eq_true q1, decide_eq_true q2]; rfl
        subst hb
        have qz : (reg == 0) = false := by simpa using (by omega : ¬ reg = 0)
        go_wp2_with fail
        go_meet
        case rel => exact ⟨by first | rfl | simp, rfl⟩
    case rest =>
      obtain ⟨rfl, hwc⟩ := hcut
      subst wc
      have u0 := KX7.out.cell 0; have u1 := KX7.out.cell 1; have u2 := KX7.out.cell 2; have u3 := KX7.out.cell 3; have u4 := KX7.out.cell 4
      have g1 := KX7.out.frozen 1; have g3 := KX7.out.frozen 3
      simp at u0 u1 u2 u3 u4
      go_upto_region 17 with fail
      clear u0 u1 u2 u3 u4 g1 g3
      have KX8 : Hid (At ((w7.setCell ⟨bx, 1, none⟩ (.int .i64 0)).setCell ⟨bx, 3, none⟩ (.int .i64 reg)) bx #[.string ⟨#[98, 101, 113]⟩, .int .i64 0, .int .i64 0, .int .i64 reg, .int .i64 4094] 23) := (KX7.out.set (j := 1) (.int .i64 0)).set (j := 3) (.int .i64 reg)
      have B8 : Hid (Below w.heap.size w ((w7.setCell ⟨bx, 1, none⟩ (.int .i64 0)).setCell ⟨bx, 3, none⟩ (.int .i64 reg))) := (B7.out.setCell LT.out _).setCell LT.out _
      generalize (w7.setCell ⟨bx, 1, none⟩ (.int .i64 0)).setCell ⟨bx, 3, none⟩ (.int .i64 reg) = w8 at *
      have u0 := KX8.out.cell 0; have u1 := KX8.out.cell 1; have u2 := KX8.out.cell 2; have u3 := KX8.out.cell 3; have u4 := KX8.out.cell 4
      simp at u0 u1 u2 u3 u4
      go_upto_region 18 with (go_at_call 9; refine (E3.out _).mono ?_; rintro e w9 ⟨rfl, hb⟩; have B9 : Hid (Below w.heap.size w w9) := ch2 B8.out hb; clear hb u0 u1 u2 u3 u4)
      go_cut [6] from 103 to 118 (fun p wx => p = .bool true ∧ wx = w9)
      case first =>
        rcases (by omega : reg = 0 ∨ reg < 0 ∨ (0 < reg ∧ 32 ≤ reg) ∨ (0 < reg ∧ reg < 32)) with q1 | q1 | ⟨q1, q2⟩ | ⟨q1, q2⟩
        · have hb : b3 = true := by rw [H3.out, decide_eq_true q1]; rfl
          subst hb
          have qz : (reg == 0) = true := by simpa using (by omega : reg = 0)
          go_wp2_with fail
          go_meet
          case rel => exact ⟨by first | rfl | simp, rfl⟩
        · have hb : b3 = false := by rw [H3.out, decide_eq_false (by omega : ¬ reg = 0), decide_eq_false (by omega : ¬ 0 < reg)]; rfl
          subst hb
          have qz : (reg == 0) = false := by simpa using (by omega : ¬ reg = 0)
          go_wp2_with fail
          go_meet
          case rel => exact ⟨by first | rfl | simp, rfl⟩
        · have hb : b3 = false := by rw [H3.out, decide_eq_false (by omega : ¬ reg = 0), decide_eq_true q1, decide_eq_false (by omega : ¬ reg < 32)]; rfl
          subst hb
          have qz : (reg == 0) = false := by simpa using (by omega : ¬ reg = 0)
          go_wp2_with fail
          go_meet
          case rel => exact ⟨by first | rfl | simp, rfl⟩
        · have hb : b3 = true := by rw [H3.out, decide_eq_false (by omega : ¬ reg = 0), decide_eq_true q1, decide_eq_true q2]; rfl
          subst hb
          have qz : (reg == 0) = false := by simpa using (by omega : ¬ reg = 0)
          go_wp2_with fail
          go_meet
          case rel => exact ⟨by first | rfl | simp, rfl⟩
      case rest =>
        obtain ⟨rfl, hwc⟩ := hcut
        subst wc
        go_wp2
        go_ret
        exact ⟨rfl, B9.out⟩

set_option maxRecDepth 20000 in
set_option maxHeartbeats 4000000 in
theorem fields_5 (form n reg v1 v2 v3 : Int) (b1 b2 b3 : Bool) (hk : (form.tmod 7 + 7).tmod 7 = 5) (hw : IntKind.i64.wrap (form.tmod 7 + 7) = form.tmod 7 + 7) (hw2 : wrap64 (form.tmod 7 + 7) = form.tmod 7 + 7)
    (H1 : Hid (b1 = (decide ((-2048) ≤ n) && (decide (n ≤ 2047) && true)))) (H2 : Hid (b2 = (decide (reg = 0) || (decide (0 < reg) && (decide (reg < 32) && false))))) (H3 : Hid (b3 = (decide (reg = 0) || (decide (0 < reg) && (decide (reg < 32) && true))))) (w : World)
    (E1 : Hid (∀ w, Calls Try.prog 9 #[.agg #[.string ⟨#[115, 119]⟩, .int .i64 0, .int .i64 0, .int .i64 0, .int .i64 n]] w fun e w' => e = .returned (.tuple #[.int .u32 v1, .bool b1]) ∧ Below w.heap.size w w'))
    (E2 : Hid (∀ w, Calls Try.prog 9 #[.agg #[.string ⟨#[115, 119]⟩, .int .i64 reg, .int .i64 0, .int .i64 0, .int .i64 2047]] w fun e w' => e = .returned (.tuple #[.int .u32 v2, .bool b2]) ∧ Below w.heap.size w w'))
    (E3 : Hid (∀ w, Calls Try.prog 9 #[.agg #[.string ⟨#[115, 119]⟩, .int .i64 0, .int .i64 0, .int .i64 reg, .int .i64 2047]] w fun e w' => e = .returned (.tuple #[.int .u32 v3, .bool b3]) ∧ Below w.heap.size w w')) :
    Calls Try.prog 7 #[.int .i64 form, .int .i64 n, .int .i64 reg] w fun e w' => e = .returned (.bool true) ∧ Below w.heap.size w w' := by
  go_enter Try.func7, Try.ntmps7
  go_upto_region 6 with fail
  have KL : Hid (At ((((w.alloc (.cells #[.string ⟨#[108, 117, 105]⟩, .string ⟨#[106, 97, 108]⟩, .string ⟨#[97, 100, 100, 105]⟩, .string ⟨#[115, 108, 108, 105]⟩, .string ⟨#[98, 101, 113]⟩, .string ⟨#[115, 119]⟩, .string ⟨#[97, 100, 100]⟩] 9)).alloc (.cells #[.int .i64 0, .int .i64 (-1048576), .int .i64 (-2048), .int .i64 0, .int .i64 (-4096), .int .i64 (-2048), .int .i64 0] 3)).alloc (.cells #[.int .i64 1048575, .int .i64 1048574, .int .i64 2047, .int .i64 31, .int .i64 4094, .int .i64 2047, .int .i64 0] 3)).alloc (.cells #[.string ⟨#[115, 119]⟩, .int .i64 0, .int .i64 0, .int .i64 0, .int .i64 n] 23)) (w.heap.size + 1) #[.int .i64 0, .int .i64 (-1048576), .int .i64 (-2048), .int .i64 0, .int .i64 (-4096), .int .i64 (-2048), .int .i64 0] 3) := ((At.newS (w.alloc (.cells #[.string ⟨#[108, 117, 105]⟩, .string ⟨#[106, 97, 108]⟩, .string ⟨#[97, 100, 100, 105]⟩, .string ⟨#[115, 108, 108, 105]⟩, .string ⟨#[98, 101, 113]⟩, .string ⟨#[115, 119]⟩, .string ⟨#[97, 100, 100]⟩] 9)) #[.int .i64 0, .int .i64 (-1048576), .int .i64 (-2048), .int .i64 0, .int .i64 (-4096), .int .i64 (-2048), .int .i64 0] 3 (size_alloc _ _)).below (below_alloc ((w.alloc (.cells #[.string ⟨#[108, 117, 105]⟩, .string ⟨#[106, 97, 108]⟩, .string ⟨#[97, 100, 100, 105]⟩, .string ⟨#[115, 108, 108, 105]⟩, .string ⟨#[98, 101, 113]⟩, .string ⟨#[115, 119]⟩, .string ⟨#[97, 100, 100]⟩] 9)).alloc (.cells #[.int .i64 0, .int .i64 (-1048576), .int .i64 (-2048), .int .i64 0, .int .i64 (-4096), .int .i64 (-2048), .int .i64 0] 3)) (.cells #[.int .i64 1048575, .int .i64 1048574, .int .i64 2047, .int .i64 31, .int .i64 4094, .int .i64 2047, .int .i64 0] 3)) (At.newS (w.alloc (.cells #[.string ⟨#[108, 117, 105]⟩, .string ⟨#[106, 97, 108]⟩, .string ⟨#[97, 100, 100, 105]⟩, .string ⟨#[115, 108, 108, 105]⟩, .string ⟨#[98, 101, 113]⟩, .string ⟨#[115, 119]⟩, .string ⟨#[97, 100, 100]⟩] 9)) #[.int .i64 0, .int .i64 (-1048576), .int .i64 (-2048), .int .i64 0, .int .i64 (-4096), .int .i64 (-2048), .int .i64 0] 3 (size_alloc _ _)).lt).below (below_alloc (((w.alloc (.cells #[.string ⟨#[108, 117, 105]⟩, .string ⟨#[106, 97, 108]⟩, .string ⟨#[97, 100, 100, 105]⟩, .string ⟨#[115, 108, 108, 105]⟩, .string ⟨#[98, 101, 113]⟩, .string ⟨#[115, 119]⟩, .string ⟨#[97, 100, 100]⟩] 9)).alloc (.cells #[.int .i64 0, .int .i64 (-1048576), .int .i64 (-2048), .int .i64 0, .int .i64 (-4096), .int .i64 (-2048), .int .i64 0] 3)).alloc (.cells #[.int .i64 1048575, .int .i64 1048574, .int .i64 2047, .int .i64 31, .int .i64 4094, .int .i64 2047, .int .i64 0] 3)) (.cells #[.string ⟨#[115, 119]⟩, .int .i64 0, .int .i64 0, .int .i64 0, .int .i64 n] 23)) (Nat.lt_of_lt_of_le (At.newS (w.alloc (.cells #[.string ⟨#[108, 117, 105]⟩, .string ⟨#[106, 97, 108]⟩, .string ⟨#[97, 100, 100, 105]⟩, .string ⟨#[115, 108, 108, 105]⟩, .string ⟨#[98, 101, 113]⟩, .string ⟨#[115, 119]⟩, .string ⟨#[97, 100, 100]⟩] 9)) #[.int .i64 0, .int .i64 (-1048576), .int .i64 (-2048), .int .i64 0, .int .i64 (-4096), .int .i64 (-2048), .int .i64 0] 3 (size_alloc _ _)).lt (below_alloc ((w.alloc (.cells #[.string ⟨#[108, 117, 105]⟩, .string ⟨#[106, 97, 108]⟩, .string ⟨#[97, 100, 100, 105]⟩, .string ⟨#[115, 108, 108, 105]⟩, .string ⟨#[98, 101, 113]⟩, .string ⟨#[115, 119]⟩, .string ⟨#[97, 100, 100]⟩] 9)).alloc (.cells #[.int .i64 0, .int .i64 (-1048576), .int .i64 (-2048), .int .i64 0, .int .i64 (-4096), .int .i64 (-2048), .int .i64 0] 3)) (.cells #[.int .i64 1048575, .int .i64 1048574, .int .i64 2047, .int .i64 31, .int .i64 4094, .int .i64 2047, .int .i64 0] 3)).size)
  have KH : Hid (At ((((w.alloc (.cells #[.string ⟨#[108, 117, 105]⟩, .string ⟨#[106, 97, 108]⟩, .string ⟨#[97, 100, 100, 105]⟩, .string ⟨#[115, 108, 108, 105]⟩, .string ⟨#[98, 101, 113]⟩, .string ⟨#[115, 119]⟩, .string ⟨#[97, 100, 100]⟩] 9)).alloc (.cells #[.int .i64 0, .int .i64 (-1048576), .int .i64 (-2048), .int .i64 0, .int .i64 (-4096), .int .i64 (-2048), .int .i64 0] 3)).alloc (.cells #[.int .i64 1048575, .int .i64 1048574, .int .i64 2047, .int .i64 31, .int .i64 4094, .int .i64 2047, .int .i64 0] 3)).alloc (.cells #[.string ⟨#[115, 119]⟩, .int .i64 0, .int .i64 0, .int .i64 0, .int .i64 n] 23)) (w.heap.size + 1 + 1) #[.int .i64 1048575, .int .i64 1048574, .int .i64 2047, .int .i64 31, .int .i64 4094, .int .i64 2047, .int .i64 0] 3) := (At.newS ((w.alloc (.cells #[.string ⟨#[108, 117, 105]⟩, .string ⟨#[106, 97, 108]⟩, .string ⟨#[97, 100, 100, 105]⟩, .string ⟨#[115, 108, 108, 105]⟩, .string ⟨#[98, 101, 113]⟩, .string ⟨#[115, 119]⟩, .string ⟨#[97, 100, 100]⟩] 9)).alloc (.cells #[.int .i64 0, .int .i64 (-1048576), .int .i64 (-2048), .int .i64 0, .int .i64 (-4096), .int .i64 (-2048), .int .i64 0] 3)) #[.int .i64 1048575, .int .i64 1048574, .int .i64 2047, .int .i64 31, .int .i64 4094, .int .i64 2047, .int .i64 0] 3 ((size_alloc (w.alloc (.cells #[.string ⟨#[108, 117, 105]⟩, .string ⟨#[106, 97, 108]⟩, .string ⟨#[97, 100, 100, 105]⟩, .string ⟨#[115, 108, 108, 105]⟩, .string ⟨#[98, 101, 113]⟩, .string ⟨#[115, 119]⟩, .string ⟨#[97, 100, 100]⟩] 9)) (.cells #[.int .i64 0, .int .i64 (-1048576), .int .i64 (-2048), .int .i64 0, .int .i64 (-4096), .int .i64 (-2048), .int .i64 0] 3)).trans (congrArg (· + 1) (size_alloc w (.cells #[.string ⟨#[108, 117, 105]⟩, .string ⟨#[106, 97, 108]⟩, .string ⟨#[97, 100, 100, 105]⟩, .string ⟨#[115, 108, 108, 105]⟩, .string ⟨#[98, 101, 113]⟩, .string ⟨#[115, 119]⟩, .string ⟨#[97, 100, 100]⟩] 9))))).below (below_alloc (((w.alloc (.cells #[.string ⟨#[108, 117, 105]⟩, .string ⟨#[106, 97, 108]⟩, .string ⟨#[97, 100, 100, 105]⟩, .string ⟨#[115, 108, 108, 105]⟩, .string ⟨#[98, 101, 113]⟩, .string ⟨#[115, 119]⟩, .string ⟨#[97, 100, 100]⟩] 9)).alloc (.cells #[.int .i64 0, .int .i64 (-1048576), .int .i64 (-2048), .int .i64 0, .int .i64 (-4096), .int .i64 (-2048), .int .i64 0] 3)).alloc (.cells #[.int .i64 1048575, .int .i64 1048574, .int .i64 2047, .int .i64 31, .int .i64 4094, .int .i64 2047, .int .i64 0] 3)) (.cells #[.string ⟨#[115, 119]⟩, .int .i64 0, .int .i64 0, .int .i64 0, .int .i64 n] 23)) (At.newS ((w.alloc (.cells #[.string ⟨#[108, 117, 105]⟩, .string ⟨#[106, 97, 108]⟩, .string ⟨#[97, 100, 100, 105]⟩, .string ⟨#[115, 108, 108, 105]⟩, .string ⟨#[98, 101, 113]⟩, .string ⟨#[115, 119]⟩, .string ⟨#[97, 100, 100]⟩] 9)).alloc (.cells #[.int .i64 0, .int .i64 (-1048576), .int .i64 (-2048), .int .i64 0, .int .i64 (-4096), .int .i64 (-2048), .int .i64 0] 3)) #[.int .i64 1048575, .int .i64 1048574, .int .i64 2047, .int .i64 31, .int .i64 4094, .int .i64 2047, .int .i64 0] 3 ((size_alloc (w.alloc (.cells #[.string ⟨#[108, 117, 105]⟩, .string ⟨#[106, 97, 108]⟩, .string ⟨#[97, 100, 100, 105]⟩, .string ⟨#[115, 108, 108, 105]⟩, .string ⟨#[98, 101, 113]⟩, .string ⟨#[115, 119]⟩, .string ⟨#[97, 100, 100]⟩] 9)) (.cells #[.int .i64 0, .int .i64 (-1048576), .int .i64 (-2048), .int .i64 0, .int .i64 (-4096), .int .i64 (-2048), .int .i64 0] 3)).trans (congrArg (· + 1) (size_alloc w (.cells #[.string ⟨#[108, 117, 105]⟩, .string ⟨#[106, 97, 108]⟩, .string ⟨#[97, 100, 100, 105]⟩, .string ⟨#[115, 108, 108, 105]⟩, .string ⟨#[98, 101, 113]⟩, .string ⟨#[115, 119]⟩, .string ⟨#[97, 100, 100]⟩] 9))))).lt
  have KX : Hid (At ((((w.alloc (.cells #[.string ⟨#[108, 117, 105]⟩, .string ⟨#[106, 97, 108]⟩, .string ⟨#[97, 100, 100, 105]⟩, .string ⟨#[115, 108, 108, 105]⟩, .string ⟨#[98, 101, 113]⟩, .string ⟨#[115, 119]⟩, .string ⟨#[97, 100, 100]⟩] 9)).alloc (.cells #[.int .i64 0, .int .i64 (-1048576), .int .i64 (-2048), .int .i64 0, .int .i64 (-4096), .int .i64 (-2048), .int .i64 0] 3)).alloc (.cells #[.int .i64 1048575, .int .i64 1048574, .int .i64 2047, .int .i64 31, .int .i64 4094, .int .i64 2047, .int .i64 0] 3)).alloc (.cells #[.string ⟨#[115, 119]⟩, .int .i64 0, .int .i64 0, .int .i64 0, .int .i64 n] 23)) (w.heap.size + 1 + 1 + 1) #[.string ⟨#[115, 119]⟩, .int .i64 0, .int .i64 0, .int .i64 0, .int .i64 n] 23) := At.newS (((w.alloc (.cells #[.string ⟨#[108, 117, 105]⟩, .string ⟨#[106, 97, 108]⟩, .string ⟨#[97, 100, 100, 105]⟩, .string ⟨#[115, 108, 108, 105]⟩, .string ⟨#[98, 101, 113]⟩, .string ⟨#[115, 119]⟩, .string ⟨#[97, 100, 100]⟩] 9)).alloc (.cells #[.int .i64 0, .int .i64 (-1048576), .int .i64 (-2048), .int .i64 0, .int .i64 (-4096), .int .i64 (-2048), .int .i64 0] 3)).alloc (.cells #[.int .i64 1048575, .int .i64 1048574, .int .i64 2047, .int .i64 31, .int .i64 4094, .int .i64 2047, .int .i64 0] 3)) #[.string ⟨#[115, 119]⟩, .int .i64 0, .int .i64 0, .int .i64 0, .int .i64 n] 23 ((size_alloc ((w.alloc (.cells #[.string ⟨#[108, 117, 105]⟩, .string ⟨#[106, 97, 108]⟩, .string ⟨#[97, 100, 100, 105]⟩, .string ⟨#[115, 108, 108, 105]⟩, .string ⟨#[98, 101, 113]⟩, .string ⟨#[115, 119]⟩, .string ⟨#[97, 100, 100]⟩] 9)).alloc (.cells #[.int .i64 0, .int .i64 (-1048576), .int .i64 (-2048), .int .i64 0, .int .i64 (-4096), .int .i64 (-2048), .int .i64 0] 3)) (.cells #[.int .i64 1048575, .int .i64 1048574, .int .i64 2047, .int .i64 31, .int .i64 4094, .int .i64 2047, .int .i64 0] 3)).trans (congrArg (· + 1) ((size_alloc (w.alloc (.cells #[.string ⟨#[108, 117, 105]⟩, .string ⟨#[106, 97, 108]⟩, .string ⟨#[97, 100, 100, 105]⟩, .string ⟨#[115, 108, 108, 105]⟩, .string ⟨#[98, 101, 113]⟩, .string ⟨#[115, 119]⟩, .string ⟨#[97, 100, 100]⟩] 9)) (.cells #[.int .i64 0, .int .i64 (-1048576), .int .i64 (-2048), .int .i64 0, .int .i64 (-4096), .int .i64 (-2048), .int .i64 0] 3)).trans (congrArg (· + 1) (size_alloc w (.cells #[.string ⟨#[108, 117, 105]⟩, .string ⟨#[106, 97, 108]⟩, .string ⟨#[97, 100, 100, 105]⟩, .string ⟨#[115, 108, 108, 105]⟩, .string ⟨#[98, 101, 113]⟩, .string ⟨#[115, 119]⟩, .string ⟨#[97, 100, 100]⟩] 9))))))
  have B4 : Hid (Below w.heap.size w ((((w.alloc (.cells #[.string ⟨#[108, 117, 105]⟩, .string ⟨#[106, 97, 108]⟩, .string ⟨#[97, 100, 100, 105]⟩, .string ⟨#[115, 108, 108, 105]⟩, .string ⟨#[98, 101, 113]⟩, .string ⟨#[115, 119]⟩, .string ⟨#[97, 100, 100]⟩] 9)).alloc (.cells #[.int .i64 0, .int .i64 (-1048576), .int .i64 (-2048), .int .i64 0, .int .i64 (-4096), .int .i64 (-2048), .int .i64 0] 3)).alloc (.cells #[.int .i64 1048575, .int .i64 1048574, .int .i64 2047, .int .i64 31, .int .i64 4094, .int .i64 2047, .int .i64 0] 3)).alloc (.cells #[.string ⟨#[115, 119]⟩, .int .i64 0, .int .i64 0, .int .i64 0, .int .i64 n] 23))) := ch2 (below_al2 w (.cells #[.string ⟨#[108, 117, 105]⟩, .string ⟨#[106, 97, 108]⟩, .string ⟨#[97, 100, 100, 105]⟩, .string ⟨#[115, 108, 108, 105]⟩, .string ⟨#[98, 101, 113]⟩, .string ⟨#[115, 119]⟩, .string ⟨#[97, 100, 100]⟩] 9) (.cells #[.int .i64 0, .int .i64 (-1048576), .int .i64 (-2048), .int .i64 0, .int .i64 (-4096), .int .i64 (-2048), .int .i64 0] 3)) (below_al2 ((w.alloc (.cells #[.string ⟨#[108, 117, 105]⟩, .string ⟨#[106, 97, 108]⟩, .string ⟨#[97, 100, 100, 105]⟩, .string ⟨#[115, 108, 108, 105]⟩, .string ⟨#[98, 101, 113]⟩, .string ⟨#[115, 119]⟩, .string ⟨#[97, 100, 100]⟩] 9)).alloc (.cells #[.int .i64 0, .int .i64 (-1048576), .int .i64 (-2048), .int .i64 0, .int .i64 (-4096), .int .i64 (-2048), .int .i64 0] 3)) (.cells #[.int .i64 1048575, .int .i64 1048574, .int .i64 2047, .int .i64 31, .int .i64 4094, .int .i64 2047, .int .i64 0] 3) (.cells #[.string ⟨#[115, 119]⟩, .int .i64 0, .int .i64 0, .int .i64 0, .int .i64 n] 23))
  have LT : Hid (w.heap.size ≤ w.heap.size + 1 + 1 + 1) := by show w.heap.size ≤ w.heap.size + 1 + 1 + 1; omega
  generalize ((((w.alloc (.cells #[.string ⟨#[108, 117, 105]⟩, .string ⟨#[106, 97, 108]⟩, .string ⟨#[97, 100, 100, 105]⟩, .string ⟨#[115, 108, 108, 105]⟩, .string ⟨#[98, 101, 113]⟩, .string ⟨#[115, 119]⟩, .string ⟨#[97, 100, 100]⟩] 9)).alloc (.cells #[.int .i64 0, .int .i64 (-1048576), .int .i64 (-2048), .int .i64 0, .int .i64 (-4096), .int .i64 (-2048), .int .i64 0] 3)).alloc (.cells #[.int .i64 1048575, .int .i64 1048574, .int .i64 2047, .int .i64 31, .int .i64 4094, .int .i64 2047, .int .i64 0] 3)).alloc (.cells #[.string ⟨#[115, 119]⟩, .int .i64 0, .int .i64 0, .int .i64 0, .int .i64 n] 23)) = w4 at *
  generalize w.heap.size + 1 + 1 + 1 = bx at *
  generalize w.heap.size + 1 + 1 = bh at *
  generalize w.heap.size + 1 = bl at *
  have u0 := KX.out.cell 0; have u1 := KX.out.cell 1; have u2 := KX.out.cell 2; have u3 := KX.out.cell 3; have u4 := KX.out.cell 4
  simp at u0 u1 u2 u3 u4
  go_upto_region 8 with (go_at_call 9; refine (E1.out _).mono ?_; rintro e w5 ⟨rfl, hb⟩; have B5 : Hid (Below w.heap.size w w5) := ch2 B4.out hb; have KL5 : Hid (At w5 bl #[.int .i64 0, .int .i64 (-1048576), .int .i64 (-2048), .int .i64 0, .int .i64 (-4096), .int .i64 (-2048), .int .i64 0] 3) := KL.out.below hb KL.out.lt; have KH5 : Hid (At w5 bh #[.int .i64 1048575, .int .i64 1048574, .int .i64 2047, .int .i64 31, .int .i64 4094, .int .i64 2047, .int .i64 0] 3) := KH.out.below hb KH.out.lt; have KX5 : Hid (At w5 bx #[.string ⟨#[115, 119]⟩, .int .i64 0, .int .i64 0, .int .i64 0, .int .i64 n] 23) := KX.out.below hb KX.out.lt; clear hb u0 u1 u2 u3 u4)
  have cl := KL5.out.cell 5; have chh := KH5.out.cell 5
  simp at cl chh
  go_cut [14, 62] from 33 to 118 (fun _ p wx => p = .bool false ∧ wx = w5)
  case first =>
    rcases (by omega : n < (-2048) ∨ ((-2048) ≤ n ∧ 2047 < n) ∨ ((-2048) ≤ n ∧ n ≤ 2047)) with q1 | ⟨q1, q2⟩ | ⟨q1, q2⟩
    · have hb : b1 = false := by rw [H1.out, decide_eq_false (by omega : ¬ (-2048) ≤ n)]; rfl
      subst hb
      go_wp2_with fail
      go_meet
      case rel => exact ⟨by first | rfl | simp, rfl⟩
    · have hb : b1 = false := by rw [H1.out, decide_eq_true q1, decide_eq_false (by omega : ¬ n ≤ 2047)]; rfl
      subst hb
      go_wp2_with fail
      go_meet
      case rel => exact ⟨by first | rfl | simp, rfl⟩
    · have hb : b1 = true := by rw [H1.out, decide_eq_true q1, decide_eq_true q2]; rfl
      subst hb
      go_wp2_with fail
      go_meet
      case rel => exact ⟨by first | rfl | simp, rfl⟩
  case rest =>
    obtain ⟨rfl, hwc⟩ := hcut
    subst wc
    have u0 := KX5.out.cell 0; have u1 := KX5.out.cell 1; have u2 := KX5.out.cell 2; have u3 := KX5.out.cell 3; have u4 := KX5.out.cell 4
    have g1 := KX5.out.frozen 1; have g4 := KX5.out.frozen 4
    simp at u0 u1 u2 u3 u4
    go_upto_region 12 with fail
    clear u0 u1 u2 u3 u4 g1 g4 cl chh
    have KX6 : Hid (At ((w5.setCell ⟨bx, 4, none⟩ (.int .i64 2047)).setCell ⟨bx, 1, none⟩ (.int .i64 reg)) bx #[.string ⟨#[115, 119]⟩, .int .i64 reg, .int .i64 0, .int .i64 0, .int .i64 2047] 23) := (KX5.out.set (j := 4) (.int .i64 2047)).set (j := 1) (.int .i64 reg)
    have B6 : Hid (Below w.heap.size w ((w5.setCell ⟨bx, 4, none⟩ (.int .i64 2047)).setCell ⟨bx, 1, none⟩ (.int .i64 reg))) := (B5.out.setCell LT.out _).setCell LT.out _
    generalize (w5.setCell ⟨bx, 4, none⟩ (.int .i64 2047)).setCell ⟨bx, 1, none⟩ (.int .i64 reg) = w6 at *
    have u0 := KX6.out.cell 0; have u1 := KX6.out.cell 1; have u2 := KX6.out.cell 2; have u3 := KX6.out.cell 3; have u4 := KX6.out.cell 4
    simp at u0 u1 u2 u3 u4
    go_upto_region 13 with (go_at_call 9; refine (E2.out _).mono ?_; rintro e w7 ⟨rfl, hb⟩; have B7 : Hid (Below w.heap.size w w7) := ch2 B6.out hb; have KX7 : Hid (At w7 bx #[.string ⟨#[115, 119]⟩, .int .i64 reg, .int .i64 0, .int .i64 0, .int .i64 2047] 23) := KX6.out.below hb KX6.out.lt; clear hb u0 u1 u2 u3 u4)
    go_cut [94] from 75 to 118 (fun p wx => p = .bool false ∧ wx = w7)
    case first =>
      rcases (by omega : reg = 0 ∨ reg < 0 ∨ (0 < reg ∧ 32 ≤ reg) ∨ (0 < reg ∧ reg < 32)) with q1 | q1 | ⟨q1, q2⟩ | ⟨q1, q2⟩
      · have hb : b2 = true := by rw [H2.out, decide_eq_true q1]; rfl
        subst hb
        have qz : (reg == 0) = true := by simpa using (by omega : reg = 0)
        go_wp2_with fail
        go_meet
        case rel => exact ⟨by first | rfl | simp, rfl⟩
      · have hb : b2 = false := by rw [H2.out, decide_eq_false (by omega : ¬ reg = 0), decide_eq_false (by omega : ¬ 0 < reg)]; rfl
        subst hb
        have qz : (reg == 0) = false := by simpa using (by omega : ¬ reg = 0)
        go_wp2_with fail
        go_meet
        case rel => exact ⟨by first | rfl | simp, rfl⟩
      · have hb : b2 = false := by rw [H2.out, decide_eq_false (by omega : ¬ reg = 0), decide_eq_true q1, decide_eq_false (by omega : ¬ reg < 32)]; rfl
        subst hb
        have qz : (reg == 0) = false := by simpa using (by omega : ¬ reg = 0)
        go_wp2_with fail
        go_meet
        case rel => exact ⟨by first | rfl | simp, rfl⟩
      · have hb : b2 = false := by rw [H2.out, decide_eq_false (by omega : ¬ reg = 0), decide_eq_true q1, decide_eq_true q2]; rfl
        subst hb
        have qz : (reg == 0) = false := by simpa using (by omega : ¬ reg = 0)
        go_wp2_with fail
        go_meet
        case rel => exact ⟨by first | rfl | simp, rfl⟩
    case rest =>
      obtain ⟨rfl, hwc⟩ := hcut
      subst wc
      have u0 := KX7.out.cell 0; have u1 := KX7.out.cell 1; have u2 := KX7.out.cell 2; have u3 := KX7.out.cell 3; have u4 := KX7.out.cell 4
      have g1 := KX7.out.frozen 1; have g3 := KX7.out.frozen 3
      simp at u0 u1 u2 u3 u4
      go_upto_region 17 with fail
      clear u0 u1 u2 u3 u4 g1 g3
      have KX8 : Hid (At ((w7.setCell ⟨bx, 1, none⟩ (.int .i64 0)).setCell ⟨bx, 3, none⟩ (.int .i64 reg)) bx #[.string ⟨#[115, 119]⟩, .int .i64 0, .int .i64 0, .int .i64 reg, .int .i64 2047] 23) := (KX7.out.set (j := 1) (.int .i64 0)).set (j := 3) (.int .i64 reg)
      have B8 : Hid (Below w.heap.size w ((w7.setCell ⟨bx, 1, none⟩ (.int .i64 0)).setCell ⟨bx, 3, none⟩ (.int .i64 reg))) := (B7.out.setCell LT.out _).setCell LT.out _
      generalize (w7.setCell ⟨bx, 1, none⟩ (.int .i64 0)).setCell ⟨bx, 3, none⟩ (.int .i64 reg) = w8 at *
      have u0 := KX8.out.cell 0; have u1 := KX8.out.cell 1; have u2 := KX8.out.cell 2; have u3 := KX8.out.cell 3; have u4 := KX8.out.cell 4
      simp at u0 u1 u2 u3 u4
      go_upto_region 18 with (go_at_call 9; refine (E3.out _).mono ?_; rintro e w9 ⟨rfl, hb⟩; have B9 : Hid (Below w.heap.size w w9) := ch2 B8.out hb; clear hb u0 u1 u2 u3 u4)
      go_cut [6] from 103 to 118 (fun p wx => p = .bool true ∧ wx = w9)
      case first =>
        rcases (by omega : reg = 0 ∨ reg < 0 ∨ (0 < reg ∧ 32 ≤ reg) ∨ (0 < reg ∧ reg < 32)) with q1 | q1 | ⟨q1, q2⟩ | ⟨q1, q2⟩
        · have hb : b3 = true := by rw [H3.out, decide_eq_true q1]; rfl
          subst hb
          have qz : (reg == 0) = true := by simpa using (by omega : reg = 0)
          go_wp2_with fail
          go_meet
          case rel => exact ⟨by first | rfl | simp, rfl⟩
        · have hb : b3 = false := by rw [H3.out, decide_eq_false (by omega : ¬ reg = 0), decide_eq_false (by omega : ¬ 0 < reg)]; rfl
          subst hb
          have qz : (reg == 0) = false := by simpa using (by omega : ¬ reg = 0)
          go_wp2_with fail
          go_meet
          case rel => exact ⟨by first | rfl | simp, rfl⟩
        · have hb : b3 = false := by rw [H3.out, decide_eq_false (by omega : ¬ reg = 0), decide_eq_true q1, decide_eq_false (by omega : ¬ reg < 32)]; rfl
          subst hb
          have qz : (reg == 0) = false := by simpa using (by omega : ¬ reg = 0)
          go_wp2_with fail
          go_meet
          case rel => exact ⟨by first | rfl | simp, rfl⟩
        · have hb : b3 = true := by rw [H3.out, decide_eq_false (by omega : ¬ reg = 0), decide_eq_true q1, decide_eq_true q2]; rfl
          subst hb
          have qz : (reg == 0) = false := by simpa using (by omega : ¬ reg = 0)
          go_wp2_with fail
          go_meet
          case rel => exact ⟨by first | rfl | simp, rfl⟩
      case rest =>
        obtain ⟨rfl, hwc⟩ := hcut
        subst wc
        go_wp2
        go_ret
        exact ⟨rfl, B9.out⟩

set_option maxRecDepth 20000 in
set_option maxHeartbeats 4000000 in
theorem fields_6 (form n reg v1 v2 v3 : Int) (b1 b2 b3 : Bool) (hk : (form.tmod 7 + 7).tmod 7 = 6) (hw : IntKind.i64.wrap (form.tmod 7 + 7) = form.tmod 7 + 7) (hw2 : wrap64 (form.tmod 7 + 7) = form.tmod 7 + 7)
    (H1 : Hid (b1 = (decide (0 ≤ n) && (decide (n ≤ 0) && true)))) (H2 : Hid (b2 = (decide (reg = 0) || (decide (0 < reg) && (decide (reg < 32) && true))))) (H3 : Hid (b3 = (decide (reg = 0) || (decide (0 < reg) && (decide (reg < 32) && true))))) (w : World)
    (E1 : Hid (∀ w, Calls Try.prog 9 #[.agg #[.string ⟨#[97, 100, 100]⟩, .int .i64 0, .int .i64 0, .int .i64 0, .int .i64 n]] w fun e w' => e = .returned (.tuple #[.int .u32 v1, .bool b1]) ∧ Below w.heap.size w w'))
    (E2 : Hid (∀ w, Calls Try.prog 9 #[.agg #[.string ⟨#[97, 100, 100]⟩, .int .i64 reg, .int .i64 0, .int .i64 0, .int .i64 0]] w fun e w' => e = .returned (.tuple #[.int .u32 v2, .bool b2]) ∧ Below w.heap.size w w'))
    (E3 : Hid (∀ w, Calls Try.prog 9 #[.agg #[.string ⟨#[97, 100, 100]⟩, .int .i64 0, .int .i64 0, .int .i64 reg, .int .i64 0]] w fun e w' => e = .returned (.tuple #[.int .u32 v3, .bool b3]) ∧ Below w.heap.size w w')) :
    Calls Try.prog 7 #[.int .i64 form, .int .i64 n, .int .i64 reg] w fun e w' => e = .returned (.bool true) ∧ Below w.heap.size w w' := by
  go_enter Try.func7, Try.ntmps7
  go_upto_region 6 with fail
  have KL : Hid (At ((((w.alloc (.cells #[.string ⟨#[108, 117, 105]⟩, .string ⟨#[106, 97, 108]⟩, .string ⟨#[97, 100, 100, 105]⟩, .string ⟨#[115, 108, 108, 105]⟩, .string ⟨#[98, 101, 113]⟩, .string ⟨#[115, 119]⟩, .string ⟨#[97, 100, 100]⟩] 9)).alloc (.cells #[.int .i64 0, .int .i64 (-1048576), .int .i64 (-2048), .int .i64 0, .int .i64 (-4096), .int .i64 (-2048), .int .i64 0] 3)).alloc (.cells #[.int .i64 1048575, .int .i64 1048574, .int .i64 2047, .int .i64 31, .int .i64 4094, .int .i64 2047, .int .i64 0] 3)).alloc (.cells #[.string ⟨#[97, 100, 100]⟩, .int .i64 0, .int .i64 0, .int .i64 0, .int .i64 n] 23)) (w.heap.size + 1) #[.int .i64 0, .int .i64 (-1048576), .int .i64 (-2048), .int .i64 0, .int .i64 (-4096), .int .i64 (-2048), .int .i64 0] 3) := ((At.newS (w.alloc (.cells #[.string ⟨#[108, 117, 105]⟩, .string ⟨#[106, 97, 108]⟩, .string ⟨#[97, 100, 100, 105]⟩, .string ⟨#[115, 108, 108, 105]⟩, .string ⟨#[98, 101, 113]⟩, .string ⟨#[115, 119]⟩, .string ⟨#[97, 100, 100]⟩] 9)) #[.int .i64 0, .int .i64 (-1048576), .int .i64 (-2048), .int .i64 0, .int .i64 (-4096), .int .i64 (-2048), .int .i64 0] 3 (size_alloc _ _)).below (below_alloc ((w.alloc (.cells #[.string ⟨#[108, 117, 105]⟩, .string ⟨#[106, 97, 108]⟩, .string ⟨#[97, 100, 100, 105]⟩, .string ⟨#[115, 108, 108, 105]⟩, .string ⟨#[98, 101, 113]⟩, .string ⟨#[115, 119]⟩, .string ⟨#[97, 100, 100]⟩] 9)).alloc (.cells #[.int .i64 0, .int .i64 (-1048576), .int .i64 (-2048), .int .i64 0, .int .i64 (-4096), .int .i64 (-2048), .int .i64 0] 3)) (.cells #[.int .i64 1048575, .int .i64 1048574, .int .i64 2047, .int .i64 31, .int .i64 4094, .int .i64 2047, .int .i64 0] 3)) (At.newS (w.alloc (.cells #[.string ⟨#[108, 117, 105]⟩, .string ⟨#[106, 97, 108]⟩, .string ⟨#[97, 100, 100, 105]⟩, .string ⟨#[115, 108, 108, 105]⟩, .string ⟨#[98, 101, 113]⟩, .string ⟨#[115, 119]⟩, .string ⟨#[97, 100, 100]⟩] 9)) #[.int .i64 0, .int .i64 (-1048576), .int .i64 (-2048), .int .i64 0, .int .i64 (-4096), .int .i64 (-2048), .int .i64 0] 3 (size_alloc _ _)).lt).below (below_alloc (((w.alloc (.cells #[.string ⟨#[108, 117, 105]⟩, .string ⟨#[106, 97, 108]⟩, .string ⟨#[97, 100, 100, 105]⟩, .string ⟨#[115, 108, 108, 105]⟩, .string ⟨#[98, 101, 113]⟩, .string ⟨#[115, 119]⟩, .string ⟨#[97, 100, 100]⟩] 9)).alloc (.cells #[.int .i64 0, .int .i64 (-1048576), .int .i64 (-2048), .int .i64 0, .int .i64 (-4096), .int .i64 (-2048), .int .i64 0] 3)).alloc (.cells #[.int .i64 1048575, .int .i64 1048574, .int .i64 2047, .int .i64 31, .int .i64 4094, .int .i64 2047, .int .i64 0] 3)) (.cells #[.string ⟨#[97, 100, 100]⟩, .int .i64 0, .int .i64 0, .int .i64 0, .int .i64 n] 23)) (Nat.lt_of_lt_of_le (At.newS (w.alloc (.cells #[.string ⟨#[108, 117, 105]⟩, .string ⟨#[106, 97, 108]⟩, .string ⟨#[97, 100, 100, 105]⟩, .string ⟨#[115, 108, 108, 105]⟩, .string ⟨#[98, 101, 113]⟩, .string ⟨#[115, 119]⟩, .string ⟨#[97, 100, 100]⟩] 9)) #[.int .i64 0, .int .i64 (-1048576), .int .i64 (-2048), .int .i64 0, .int .i64 (-4096), .int .i64 (-2048), .int .i64 0] 3 (size_alloc _ _)).lt (below_alloc ((w.alloc (.cells #[.string ⟨#[108, 117, 105]⟩, .string ⟨#[106, 97, 108]⟩, .string ⟨#[97, 100, 100, 105]⟩, .string ⟨#[115, 108, 108, 105]⟩, .string ⟨#[98, 101, 113]⟩, .string ⟨#[115, 119]⟩, .string ⟨#[97, 100, 100]⟩] 9)).alloc (.cells #[.int .i64 0, .int .i64 (-1048576), .int .i64 (-2048), .int .i64 0, .int .i64 (-4096), .int .i64 (-2048), .int .i64 0] 3)) (.cells #[.int .i64 1048575, .int .i64 1048574, .int .i64 2047, .int .i64 31, .int .i64 4094, .int .i64 2047, .int .i64 0] 3)).size)
  have KH : Hid (At ((((w.alloc (.cells #[.string ⟨#[108, 117, 105]⟩, .string ⟨#[106, 97, 108]⟩, .string ⟨#[97, 100, 100, 105]⟩, .string ⟨#[115, 108, 108, 105]⟩, .string ⟨#[98, 101, 113]⟩, .string ⟨#[115, 119]⟩, .string ⟨#[97, 100, 100]⟩] 9)).alloc (.cells #[.int .i64 0, .int .i64 (-1048576), .int .i64 (-2048), .int .i64 0, .int .i64 (-4096), .int .i64 (-2048), .int .i64 0] 3)).alloc (.cells #[.int .i64 1048575, .int .i64 1048574, .int .i64 2047, .int .i64 31, .int .i64 4094, .int .i64 2047, .int .i64 0] 3)).alloc (.cells #[.string ⟨#[97, 100, 100]⟩, .int .i64 0, .int .i64 0, .int .i64 0, .int .i64 n] 23)) (w.heap.size + 1 + 1) #[.int .i64 1048575, .int .i64 1048574, .int .i64 2047, .int .i64 31, .int .i64 4094, .int .i64 2047, .int .i64 0] 3) := (At.newS ((w.alloc (.cells #[.string ⟨#[108, 117, 105]⟩, .string ⟨#[106, 97, 108]⟩, .string ⟨#[97, 100, 100, 105]⟩, .string ⟨#[115, 108, 108, 105]⟩, .string ⟨#[98, 101, 113]⟩, .string ⟨#[115, 119]⟩, .string ⟨#[97, 100, 100]⟩] 9)).alloc (.cells #[.int .i64 0, .int .i64 (-1048576), .int .i64 (-2048), .int .i64 0, .int .i64 (-4096), .int .i64 (-2048), .int .i64 0] 3)) #[.int .i64 1048575, .int .i64 1048574, .int .i64 2047, .int .i64 31, .int .i64 4094, .int .i64 2047, .int .i64 0] 3 ((size_alloc (w.alloc (.cells #[.string ⟨#[108, 117, 105]⟩, .string ⟨#[106, 97, 108]⟩, .string ⟨#[97, 100, 100, 105]⟩, .string ⟨#[115, 108, 108, 105]⟩, .string ⟨#[98, 101, 113]⟩, .string ⟨#[115, 119]⟩, .string ⟨#[97, 100, 100]⟩] 9)) (.cells #[.int .i64 0, .int .i64 (-1048576), .int .i64 (-2048), .int .i64 0, .int .i64 (-4096), .int .i64 (-2048), .int .i64 0] 3)).trans (congrArg (· + 1) (size_alloc w (.cells #[.string ⟨#[108, 117, 105]⟩, .string ⟨#[106, 97, 108]⟩, .string ⟨#[97, 100, 100, 105]⟩, .string ⟨#[115, 108, 108, 105]⟩, .string ⟨#[98, 101, 113]⟩, .string ⟨#[115, 119]⟩, .string ⟨#[97, 100, 100]⟩] 9))))).below (below_alloc (((w.alloc (.cells #[.string ⟨#[108, 117, 105]⟩, .string ⟨#[106, 97, 108]⟩, .string ⟨#[97, 100, 100, 105]⟩, .string ⟨#[115, 108, 108, 105]⟩, .string ⟨#[98, 101, 113]⟩, .string ⟨#[115, 119]⟩, .string ⟨#[97, 100, 100]⟩] 9)).alloc (.cells #[.int .i64 0, .int .i64 (-1048576), .int .i64 (-2048), .int .i64 0, .int .i64 (-4096), .int .i64 (-2048), .int .i64 0] 3)).alloc (.cells #[.int .i64 1048575, .int .i64 1048574, .int .i64 2047, .int .i64 31, .int .i64 4094, .int .i64 2047, .int .i64 0] 3)) (.cells #[.string ⟨#[97, 100, 100]⟩, .int .i64 0, .int .i64 0, .int .i64 0, .int .i64 n] 23)) (At.newS ((w.alloc (.cells #[.string ⟨#[108, 117, 105]⟩, .string ⟨#[106, 97, 108]⟩, .string ⟨#[97, 100, 100, 105]⟩, .string ⟨#[115, 108, 108, 105]⟩, .string ⟨#[98, 101, 113]⟩, .string ⟨#[115, 119]⟩, .string ⟨#[97, 100, 100]⟩] 9)).alloc (.cells #[.int .i64 0, .int .i64 (-1048576), .int .i64 (-2048), .int .i64 0, .int .i64 (-4096), .int .i64 (-2048), .int .i64 0] 3)) #[.int .i64 1048575, .int .i64 1048574, .int .i64 2047, .int .i64 31, .int .i64 4094, .int .i64 2047, .int .i64 0] 3 ((size_alloc (w.alloc (.cells #[.string ⟨#[108, 117, 105]⟩, .string ⟨#[106, 97, 108]⟩, .string ⟨#[97, 100, 100, 105]⟩, .string ⟨#[115, 108, 108, 105]⟩, .string ⟨#[98, 101, 113]⟩, .string ⟨#[115, 119]⟩, .string ⟨#[97, 100, 100]⟩] 9)) (.cells #[.int .i64 0, .int .i64 (-1048576), .int .i64 (-2048), .int .i64 0, .int .i64 (-4096), .int .i64 (-2048), .int .i64 0] 3)).trans (congrArg (· + 1) (size_alloc w (.cells #[.string ⟨#[108, 117, 105]⟩, .string ⟨#[106, 97, 108]⟩, .string ⟨#[97, 100, 100, 105]⟩, .string ⟨#[115, 108, 108, 105]⟩, .string ⟨#[98, 101, 113]⟩, .string ⟨#[115, 119]⟩, .string ⟨#[97, 100, 100]⟩] 9))))).lt
  have KX : Hid (At ((((w.alloc (.cells #[.string ⟨#[108, 117, 105]⟩, .string ⟨#[106, 97, 108]⟩, .string ⟨#[97, 100, 100, 105]⟩, .string ⟨#[115, 108, 108, 105]⟩, .string ⟨#[98, 101, 113]⟩, .string ⟨#[115, 119]⟩, .string ⟨#[97, 100, 100]⟩] 9)).alloc (.cells #[.int .i64 0, .int .i64 (-1048576), .int .i64 (-2048), .int .i64 0, .int .i64 (-4096), .int .i64 (-2048), .int .i64 0] 3)).alloc (.cells #[.int .i64 1048575, .int .i64 1048574, .int .i64 2047, .int .i64 31, .int .i64 4094, .int .i64 2047, .int .i64 0] 3)).alloc (.cells #[.string ⟨#[97, 100, 100]⟩, .int .i64 0, .int .i64 0, .int .i64 0, .int .i64 n] 23)) (w.heap.size + 1 + 1 + 1) #[.string ⟨#[97, 100, 100]⟩, .int .i64 0, .int .i64 0, .int .i64 0, .int .i64 n] 23) := At.newS (((w.alloc (.cells #[.string ⟨#[108, 117, 105]⟩, .string ⟨#[106, 97, 108]⟩, .string ⟨#[97, 100, 100, 105]⟩, .string ⟨#[115, 108, 108, 105]⟩, .string ⟨#[98, 101, 113]⟩, .string ⟨#[115, 119]⟩, .string ⟨#[97, 100, 100]⟩] 9)).alloc (.cells #[.int .i64 0, .int .i64 (-1048576), .int .i64 (-2048), .int .i64 0, .int .i64 (-4096), .int .i64 (-2048), .int .i64 0] 3)).alloc (.cells #[.int .i64 1048575, .int .i64 1048574, .int .i64 2047, .int .i64 31, .int .i64 4094, .int .i64 2047, .int .i64 0] 3)) #[.string ⟨#[97, 100, 100]⟩, .int .i64 0, .int .i64 0, .int .i64 0, .int .i64 n] 23 ((size_alloc ((w.alloc (.cells #[.string ⟨#[108, 117, 105]⟩, .string ⟨#[106, 97, 108]⟩, .string ⟨#[97, 100, 100, 105]⟩, .string ⟨#[115, 108, 108, 105]⟩, .string ⟨#[98, 101, 113]⟩, .string ⟨#[115, 119]⟩, .string ⟨#[97, 100, 100]⟩] 9)).alloc (.cells #[.int .i64 0, .int .i64 (-1048576), .int .i64 (-2048), .int .i64 0, .int .i64 (-4096), .int .i64 (-2048), .int .i64 0] 3)) (.cells #[.int .i64 1048575, .int .i64 1048574, .int .i64 2047, .int .i64 31, .int .i64 4094, .int .i64 2047, .int .i64 0] 3)).trans (congrArg (· + 1) ((size_alloc (w.alloc (.cells #[.string ⟨#[108, 117, 105]⟩, .string ⟨#[106, 97, 108]⟩, .string ⟨#[97, 100, 100, 105]⟩, .string ⟨#[115, 108, 108, 105]⟩, .string ⟨#[98, 101, 113]⟩, .string ⟨#[115, 119]⟩, .string ⟨#[97, 100, 100]⟩] 9)) (.cells #[.int .i64 0, .int .i64 (-1048576), .int .i64 (-2048), .int .i64 0, .int .i64 (-4096), .int .i64 (-2048), .int .i64 0] 3)).trans (congrArg (· + 1) (size_alloc w (.cells #[.string ⟨#[108, 117, 105]⟩, .string ⟨#[106, 97, 108]⟩, .string ⟨#[97, 100, 100, 105]⟩, .string ⟨#[115, 108, 108, 105]⟩, .string ⟨#[98, 101, 113]⟩, .string ⟨#[115, 119]⟩, .string ⟨#[97, 100, 100]⟩] 9))))))
  have B4 : Hid (Below w.heap.size w ((((w.alloc (.cells #[.string ⟨#[108, 117, 105]⟩, .string ⟨#[106, 97, 108]⟩, .string ⟨#[97, 100, 100, 105]⟩, .string ⟨#[115, 108, 108, 105]⟩, .string ⟨#[98, 101, 113]⟩, .string ⟨#[115, 119]⟩, .string ⟨#[97, 100, 100]⟩] 9)).alloc (.cells #[.int .i64 0, .int .i64 (-1048576), .int .i64 (-2048), .int .i64 0, .int .i64 (-4096), .int .i64 (-2048), .int .i64 0] 3)).alloc (.cells #[.int .i64 1048575, .int .i64 1048574, .int .i64 2047, .int .i64 31, .int .i64 4094, .int .i64 2047, .int .i64 0] 3)).alloc (.cells #[.string ⟨#[97, 100, 100]⟩, .int .i64 0, .int .i64 0, .int .i64 0, .int .i64 n] 23))) := ch2 (below_al2 w (.cells #[.string ⟨#[108, 117, 105]⟩, .string ⟨#[106, 97, 108]⟩, .string ⟨#[97, 100, 100, 105]⟩, .string ⟨#[115, 108, 108, 105]⟩, .string ⟨#[98, 101, 113]⟩, .string ⟨#[115, 119]⟩, .string ⟨#[97, 100, 100]⟩] 9) (.cells #[.int .i64 0, .int .i64 (-1048576), .int .i64 (-2048), .int .i64 0, .int .i64 (-4096), .int .i64 (-2048), .int .i64 0] 3)) (below_al2 ((w.alloc (.cells #[.string ⟨#[108, 117, 105]⟩, .string ⟨#[106, 97, 108]⟩, .string ⟨#[97, 100, 100, 105]⟩, .string ⟨#[115, 108, 108, 105]⟩, .string ⟨#[98, 101, 113]⟩, .string ⟨#[115, 119]⟩, .string ⟨#[97, 100, 100]⟩] 9)).alloc (.cells #[.int .i64 0, .int .i64 (-1048576), .int .i64 (-2048), .int .i64 0, .int .i64 (-4096), .int .i64 (-2048), .int .i64 0] 3)) (.cells #[.int .i64 1048575, .int .i64 1048574, .int .i64 2047, .int .i64 31, .int .i64 4094, .int .i64 2047, .int .i64 0] 3) (.cells #[.string ⟨#[97, 100, 100]⟩, .int .i64 0, .int .i64 0, .int .i64 0, .int .i64 n] 23))
  have LT : Hid (w.heap.size ≤ w.heap.size + 1 + 1 + 1) := by show w.heap.size ≤ w.heap.size + 1 + 1 + 1; omega
  generalize ((((w.alloc (.cells #[.string ⟨#[108, 117, 105]⟩, .string ⟨#[106, 97, 108]⟩, .string ⟨#[97, 100, 100, 105]⟩, .string ⟨#[115, 108, 108, 105]⟩, .string ⟨#[98, 101, 113]⟩, .string ⟨#[115, 119]⟩, .string ⟨#[97, 100, 100]⟩] 9)).alloc (.cells #[.int .i64 0, .int .i64 (-1048576), .int .i64 (-2048), .int .i64 0, .int .i64 (-4096), .int .i64 (-2048), .int .i64 0] 3)).alloc (.cells #[.int .i64 1048575, .int .i64 1048574, .int .i64 2047, .int .i64 31, .int .i64 4094, .int .i64 2047, .int .i64 0] 3)).alloc (.cells #[.string ⟨#[97, 100, 100]⟩, .int .i64 0, .int .i64 0, .int .i64 0, .int .i64 n] 23)) = w4 at *
  generalize w.heap.size + 1 + 1 + 1 = bx at *
  generalize w.heap.size + 1 + 1 = bh at *
  generalize w.heap.size + 1 = bl at *
  have u0 := KX.out.cell 0; have u1 := KX.out.cell 1; have u2 := KX.out.cell 2; have u3 := KX.out.cell 3; have u4 := KX.out.cell 4
  simp at u0 u1 u2 u3 u4
  go_upto_region 8 with (go_at_call 9; refine (E1.out _).mono ?_; rintro e w5 ⟨rfl, hb⟩; have B5 : Hid (Below w.heap.size w w5) := ch2 B4.out hb; have KL5 : Hid (At w5 bl #[.int .i64 0, .int .i64 (-1048576), .int .i64 (-2048), .int .i64 0, .int .i64 (-4096), .int .i64 (-2048), .int .i64 0] 3) := KL.out.below hb KL.out.lt; have KH5 : Hid (At w5 bh #[.int .i64 1048575, .int .i64 1048574, .int .i64 2047, .int .i64 31, .int .i64 4094, .int .i64 2047, .int .i64 0] 3) := KH.out.below hb KH.out.lt; have KX5 : Hid (At w5 bx #[.string ⟨#[97, 100, 100]⟩, .int .i64 0, .int .i64 0, .int .i64 0, .int .i64 n] 23) := KX.out.below hb KX.out.lt; clear hb u0 u1 u2 u3 u4)
  have cl := KL5.out.cell 6; have chh := KH5.out.cell 6
  simp at cl chh
  go_cut [14, 62] from 33 to 118 (fun _ p wx => p = .bool false ∧ wx = w5)
  case first =>
    rcases (by omega : n < 0 ∨ (0 ≤ n ∧ 0 < n) ∨ (0 ≤ n ∧ n ≤ 0)) with q1 | ⟨q1, q2⟩ | ⟨q1, q2⟩
    · have hb : b1 = false := by rw [H1.out, decide_eq_false (by omega : ¬ 0 ≤ n)]; rfl
      subst hb
      go_wp2_with fail
      go_meet
      case rel => exact ⟨by first | rfl | simp, rfl⟩
    · have hb : b1 = false := by rw [H1.out, decide_eq_true q1, decide_eq_false (by omega : ¬ n ≤ 0)]; rfl
      subst hb
      go_wp2_with fail
      go_meet
      case rel => exact ⟨by first | rfl | simp, rfl⟩
    · have hb : b1 = true := by rw [H1.out, decide_eq_true q1, decide_eq_true q2]; rfl
      subst hb
      go_wp2_with fail
      go_meet
      case rel => exact ⟨by first | rfl | simp, rfl⟩
  case rest =>
    obtain ⟨rfl, hwc⟩ := hcut
    subst wc
    have u0 := KX5.out.cell 0; have u1 := KX5.out.cell 1; have u2 := KX5.out.cell 2; have u3 := KX5.out.cell 3; have u4 := KX5.out.cell 4
    have g1 := KX5.out.frozen 1; have g4 := KX5.out.frozen 4
    simp at u0 u1 u2 u3 u4
    go_upto_region 12 with fail
    clear u0 u1 u2 u3 u4 g1 g4 cl chh
    have KX6 : Hid (At ((w5.setCell ⟨bx, 4, none⟩ (.int .i64 0)).setCell ⟨bx, 1, none⟩ (.int .i64 reg)) bx #[.string ⟨#[97, 100, 100]⟩, .int .i64 reg, .int .i64 0, .int .i64 0, .int .i64 0] 23) := (KX5.out.set (j := 4) (.int .i64 0)).set (j := 1) (.int .i64 reg)
    have B6 : Hid (Below w.heap.size w ((w5.setCell ⟨bx, 4, none⟩ (.int .i64 0)).setCell ⟨bx, 1, none⟩ (.int .i64 reg))) := (B5.out.setCell LT.out _).setCell LT.out _
    generalize (w5.setCell ⟨bx, 4, none⟩ (.int .i64 0)).setCell ⟨bx, 1, none⟩ (.int .i64 reg) = w6 at *
    have u0 := KX6.out.cell 0; have u1 := KX6.out.cell 1; have u2 := KX6.out.cell 2; have u3 := KX6.out.cell 3; have u4 := KX6.out.cell 4
    simp at u0 u1 u2 u3 u4
    go_upto_region 13 with (go_at_call 9; refine (E2.out _).mono ?_; rintro e w7 ⟨rfl, hb⟩; have B7 : Hid (Below w.heap.size w w7) := ch2 B6.out hb; have KX7 : Hid (At w7 bx #[.string ⟨#[97, 100, 100]⟩, .int .i64 reg, .int .i64 0, .int .i64 0, .int .i64 0] 23) := KX6.out.below hb KX6.out.lt; clear hb u0 u1 u2 u3 u4)
    go_cut [94] from 75 to 118 (fun p wx => p = .bool false ∧ wx = w7)
    case first =>
      rcases (by omega : reg = 0 ∨ reg < 0 ∨ (0 < reg ∧ 32 ≤ reg) ∨ (0 < reg ∧ reg < 32)) with q1 | q1 | ⟨q1, q2⟩ | ⟨q1, q2⟩
      · have hb : b2 = true := by rw [H2.out, decide_eq_true q1]; rfl
        subst hb
        have qz : (reg == 0) = true := by simpa using (by omega : reg = 0)
        go_wp2_with fail
        go_meet
        case rel => exact ⟨by first | rfl | simp, rfl⟩
      · have hb : b2 = false := by rw [H2.out, decide_eq_false (by omega : ¬ reg = 0), decide_eq_false (by omega : ¬ 0 < reg)]; rfl
        subst hb
        have qz : (reg == 0) = false := by simpa using (by omega : ¬ reg = 0)
        go_wp2_with fail
        go_meet
        case rel => exact ⟨by first | rfl | simp, rfl⟩
      · have hb : b2 = false := by rw [H2.out, decide_eq_false (by omega : ¬ reg = 0), decide_eq_true q1, decide_eq_false (by omega : ¬ reg < 32)]; rfl
        subst hb
        have qz : (reg == 0) = false := by simpa using (by omega : ¬ reg = 0)
        go_wp2_with fail
        go_meet
        case rel => exact ⟨by first | rfl | simp, rfl⟩
      · have hb : b2 = true := by rw [H2.out, decide_eq_false (by omega : ¬ reg = 0), decide_eq_true q1, decide_eq_true q2]; rfl
        subst hb
        have qz : (reg == 0) = false := by simpa using (by omega : ¬ reg = 0)
        go_wp2_with fail
        go_meet
        case rel => exact ⟨by first | rfl | simp, rfl⟩
    case rest =>
      obtain ⟨rfl, hwc⟩ := hcut
      subst wc
      have u0 := KX7.out.cell 0; have u1 := KX7.out.cell 1; have u2 := KX7.out.cell 2; have u3 := KX7.out.cell 3; have u4 := KX7.out.cell 4
      have g1 := KX7.out.frozen 1; have g3 := KX7.out.frozen 3
      simp at u0 u1 u2 u3 u4
      go_upto_region 17 with fail
      clear u0 u1 u2 u3 u4 g1 g3
      have KX8 : Hid (At ((w7.setCell ⟨bx, 1, none⟩ (.int .i64 0)).setCell ⟨bx, 3, none⟩ (.int .i64 reg)) bx #[.string ⟨#[97, 100, 100]⟩, .int .i64 0, .int .i64 0, .int .i64 reg, .int .i64 0] 23) := (KX7.out.set (j := 1) (.int .i64 0)).set (j := 3) (.int .i64 reg)
      have B8 : Hid (Below w.heap.size w ((w7.setCell ⟨bx, 1, none⟩ (.int .i64 0)).setCell ⟨bx, 3, none⟩ (.int .i64 reg))) := (B7.out.setCell LT.out _).setCell LT.out _
      generalize (w7.setCell ⟨bx, 1, none⟩ (.int .i64 0)).setCell ⟨bx, 3, none⟩ (.int .i64 reg) = w8 at *
      have u0 := KX8.out.cell 0; have u1 := KX8.out.cell 1; have u2 := KX8.out.cell 2; have u3 := KX8.out.cell 3; have u4 := KX8.out.cell 4
      simp at u0 u1 u2 u3 u4
      go_upto_region 18 with (go_at_call 9; refine (E3.out _).mono ?_; rintro e w9 ⟨rfl, hb⟩; have B9 : Hid (Below w.heap.size w w9) := ch2 B8.out hb; clear hb u0 u1 u2 u3 u4)
      go_cut [6] from 103 to 118 (fun p wx => p = .bool true ∧ wx = w9)
      case first =>
        rcases (by omega : reg = 0 ∨ reg < 0 ∨ (0 < reg ∧ 32 ≤ reg) ∨ (0 < reg ∧ reg < 32)) with q1 | q1 | ⟨q1, q2⟩ | ⟨q1, q2⟩
        · have hb : b3 = true := by rw [H3.out, decide_eq_true q1]; rfl
          subst hb
          have qz : (reg == 0) = true := by simpa using (by omega : reg = 0)
          go_wp2_with fail
          go_meet
          case rel => exact ⟨by first | rfl | simp, rfl⟩
        · have hb : b3 = false := by rw [H3.out, decide_eq_false (by omega : ¬ reg = 0), decide_eq_false (by omega : ¬ 0 < reg)]; rfl
          subst hb
          have qz : (reg == 0) = false := by simpa using (by omega : ¬ reg = 0)
          go_wp2_with fail
          go_meet
          case rel => exact ⟨by first | rfl | simp, rfl⟩
        · have hb : b3 = false := by rw [H3.out, decide_eq_false (by omega : ¬ reg = 0), decide_eq_true q1, decide_eq_false (by omega : ¬ reg < 32)]; rfl
          subst hb
          have qz : (reg == 0) = false := by simpa using (by omega : ¬ reg = 0)
          go_wp2_with fail
          go_meet
          case rel => exact ⟨by first | rfl | simp, rfl⟩
        · have hb : b3 = true := by rw [H3.out, decide_eq_false (by omega : ¬ reg = 0), decide_eq_true q1, decide_eq_true q2]; rfl
          subst hb
          have qz : (reg == 0) = false := by simpa using (by omega : ¬ reg = 0)
          go_wp2_with fail
          go_meet
          case rel => exact ⟨by first | rfl | simp, rfl⟩
      case rest =>
        obtain ⟨rfl, hwc⟩ := hcut
        subst wc
        go_wp2
        go_ret
        exact ⟨rfl, B9.out⟩

end Go.Proofs.Ytiiebppcamaliaa
