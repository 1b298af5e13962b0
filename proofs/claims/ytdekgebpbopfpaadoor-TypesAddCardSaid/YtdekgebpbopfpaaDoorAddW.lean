/-
  Proved: TypesAdd answers true where a type has no words, is not named, or is no struct.
-/
import Derived.Test.YtdekgebpbopfpaaDoorLook
import Derived.Test.YtdekgebpbopfpaaDoorAddQ
namespace Go.Proofs.YtdekgebpbopfpaaDoor
open Go.RowKit

/-- A call answers. -/
def Ans (f : FuncId) (args : Array Value) (v : Value) (w : World) : Prop := Calls Tryd.prog f args w fun e w' => e = .returned v ∧ Below w.heap.size w w'

theorem Ans.go {f : FuncId} {args : Array Value} {v : Value} {w : World} {Q : Ending → World → Prop} (h : Ans f args v w) (k : ∀ w', Below w.heap.size w w' → Q (.returned v) w') : Calls Tryd.prog f args w Q := by
  refine Calls.mono h ?_
  rintro e w' ⟨rfl, hb⟩
  exact k w' hb

theorem box_all {w wr : World} {k : Int} {s : ByteArray} {n : Int} {EA : Option Addr} {el EC : Nat} (h : Below (w.alloc (.cells #[.int .i64 k, .string s, .int .i64 n, .slice EA el EC] 25)).heap.size (w.alloc (.cells #[.int .i64 k, .string s, .int .i64 n, .slice EA el EC] 25)) wr) :
    wr.cell? ⟨w.heap.size, 0, none⟩ = some (.int .i64 k) ∧ wr.cell? ⟨w.heap.size, 1, none⟩ = some (.string s) ∧ wr.cell? ⟨w.heap.size, 2, none⟩ = some (.int .i64 n) ∧ wr.cell? ⟨w.heap.size, 3, none⟩ = some (.slice EA el EC) := by
  have a := (At.new w #[.int .i64 k, .string s, .int .i64 n, .slice EA el EC] 25).below h (At.new w _ 25).lt
  exact ⟨(a.cell 0).trans rfl, (a.cell 1).trans rfl, (a.cell 2).trans rfl, (a.cell 3).trans rfl⟩

set_option maxRecDepth 100000 in
set_option maxHeartbeats 4000000 in
theorem add_many (k : Int) (s : ByteArray) (n : Int) (EA : Option Addr) (el EC l C : Nat) (A : Option Addr) (y : Int) (w : World)
    (FW : Hid (∀ w', Below (w.alloc (.cells #[.int .i64 k, .string s, .int .i64 n, .slice EA el EC] 25)).heap.size (w.alloc (.cells #[.int .i64 k, .string s, .int .i64 n, .slice EA el EC] 25)) w' → Ans 6 #[.slice A l C] (.bool false) w')) :
    Ans 3 #[.slice A l C, .agg #[.int .i64 k, .string s, .int .i64 n, .slice EA el EC], .int .i64 y] (.bool true) w := by
  unfold Ans
  have H0 : Hid (Below w.heap.size w (w.alloc (.cells #[.int .i64 k, .string s, .int .i64 n, .slice EA el EC] 25))) := below_alloc _ _
  go_enter Tryd.func3, Tryd.ntmps3
  go_wp2_with (go_at_call 6; refine Ans.go (FW.out _ (Below.refl _ _)) ?_; intro w1 hb; have M1 : Hid (Below (w.alloc (.cells #[.int .i64 k, .string s, .int .i64 n, .slice EA el EC] 25)).heap.size (w.alloc (.cells #[.int .i64 k, .string s, .int .i64 n, .slice EA el EC] 25)) w1) := hb; clear hb)
  go_ret
  exact ⟨rfl, below_next H0.out M1.out⟩

set_option maxRecDepth 100000 in
set_option maxHeartbeats 4000000 in
theorem add_notok (k : Int) (s : ByteArray) (n : Int) (EA : Option Addr) (el EC l C : Nat) (A : Option Addr) (y : Int) (m : Nat) (hm1 : 1 ≤ m) (hm8 : m ≤ 8) (hm : 1 + y % 8 = (m : Int)) (j : Int) (w : World)
    (FW : Hid (∀ w', Below (w.alloc (.cells #[.int .i64 k, .string s, .int .i64 n, .slice EA el EC] 25)).heap.size (w.alloc (.cells #[.int .i64 k, .string s, .int .i64 n, .slice EA el EC] 25)) w' → Ans 6 #[.slice A l C] (.bool true) w'))
    (WN : Hid (∀ w', Below (w.alloc (.cells #[.int .i64 k, .string s, .int .i64 n, .slice EA el EC] 25)).heap.size (w.alloc (.cells #[.int .i64 k, .string s, .int .i64 n, .slice EA el EC] 25)) w' → Ans 7 #[.slice none 0 0, .agg #[.int .i64 2, .string ⟨#[]⟩, .int .i64 0, .slice none 0 0]] (.tuple #[.int .i64 1, .bool true]) w'))
    (WT : Hid (∀ w', Below (w.alloc (.cells #[.int .i64 k, .string s, .int .i64 n, .slice EA el EC] 25)).heap.size (w.alloc (.cells #[.int .i64 k, .string s, .int .i64 n, .slice EA el EC] 25)) w' → Ans 7 #[.slice A l C, .agg #[.int .i64 k, .string s, .int .i64 n, .slice EA el EC]] (.tuple #[.int .i64 0, .bool false]) w'))
    (WA : Hid (∀ w', Below (w.alloc (.cells #[.int .i64 k, .string s, .int .i64 n, .slice EA el EC] 25)).heap.size (w.alloc (.cells #[.int .i64 k, .string s, .int .i64 n, .slice EA el EC] 25)) w' → Ans 7 #[.slice A l C, .agg #[.int .i64 10, .string ⟨#[]⟩, .int .i64 (m : Int), .slice (some ⟨w'.heap.size, 0, none⟩) 1 1]] (.tuple #[.int .i64 0, .bool false]) (w'.alloc (.cells #[.int .i64 k, .string s, .int .i64 n, .slice EA el EC] 25))))
    (WB : Hid (∀ w', Below (w.alloc (.cells #[.int .i64 k, .string s, .int .i64 n, .slice EA el EC] 25)).heap.size (w.alloc (.cells #[.int .i64 k, .string s, .int .i64 n, .slice EA el EC] 25)) w' → Ans 7 #[.slice A l C, .agg #[.int .i64 11, .string ⟨#[]⟩, .int .i64 0, .slice (some ⟨w'.heap.size, 0, none⟩) 1 1]] (.tuple #[.int .i64 1, .bool true]) (w'.alloc (.cells #[.int .i64 k, .string s, .int .i64 n, .slice EA el EC] 25))))
    (CB : Hid (∀ w', Below (w.alloc (.cells #[.int .i64 k, .string s, .int .i64 n, .slice EA el EC] 25)).heap.size (w.alloc (.cells #[.int .i64 k, .string s, .int .i64 n, .slice EA el EC] 25)) w' → Ans 9 #[.slice A l C, .agg #[.int .i64 11, .string ⟨#[]⟩, .int .i64 0, .slice (some ⟨w'.heap.size, 0, none⟩) 1 1]] (.bool false) (w'.alloc (.cells #[.int .i64 k, .string s, .int .i64 n, .slice EA el EC] 25))))
    (IT : Hid (∀ w', Below (w.alloc (.cells #[.int .i64 k, .string s, .int .i64 n, .slice EA el EC] 25)).heap.size (w.alloc (.cells #[.int .i64 k, .string s, .int .i64 n, .slice EA el EC] 25)) w' → Ans 10 #[.slice A l C, .string s] (.int .i64 j) w')) :
    Ans 3 #[.slice A l C, .agg #[.int .i64 k, .string s, .int .i64 n, .slice EA el EC], .int .i64 y] (.bool true) w := by
  unfold Ans
  have H0 : Hid (Below w.heap.size w (w.alloc (.cells #[.int .i64 k, .string s, .int .i64 n, .slice EA el EC] 25))) := below_alloc _ _
  have h7 := and7 y
  go_enter Tryd.func3, Tryd.ntmps3
  go_wp2_with (first
    | (go_at_call 10; refine Ans.go (IT.out _ M7.out) ?_; intro w8 hb; have M8 : Hid (Below (w.alloc (.cells #[.int .i64 k, .string s, .int .i64 n, .slice EA el EC] 25)).heap.size (w.alloc (.cells #[.int .i64 k, .string s, .int .i64 n, .slice EA el EC] 25)) w8) := below_next M7.out hb; clear hb; obtain ⟨c80, c81, c82, c83⟩ := box_all M8.out)
    | (go_at_call 9; refine Ans.go (CB.out _ M6.out) ?_; intro w7 hb; have M7 : Hid (Below (w.alloc (.cells #[.int .i64 k, .string s, .int .i64 n, .slice EA el EC] 25)).heap.size (w.alloc (.cells #[.int .i64 k, .string s, .int .i64 n, .slice EA el EC] 25)) w7) := below_next M6.out (below_next (below_alloc _ _) hb); clear hb; obtain ⟨c70, c71, c72, c73⟩ := box_all M7.out)
    | (go_at_call 7; have M' := M4; refine Ans.go (WB.out _ M4.out) ?_; intro w6 hb; have M6 : Hid (Below (w.alloc (.cells #[.int .i64 k, .string s, .int .i64 n, .slice EA el EC] 25)).heap.size (w.alloc (.cells #[.int .i64 k, .string s, .int .i64 n, .slice EA el EC] 25)) w6) := below_next M4.out (below_next (below_alloc _ _) hb); clear hb M'; obtain ⟨c60, c61, c62, c63⟩ := box_all M6.out)
    | (go_at_call 7; have M' := M3; refine Ans.go (WA.out _ M3.out) ?_; intro w4 hb; have M4 : Hid (Below (w.alloc (.cells #[.int .i64 k, .string s, .int .i64 n, .slice EA el EC] 25)).heap.size (w.alloc (.cells #[.int .i64 k, .string s, .int .i64 n, .slice EA el EC] 25)) w4) := below_next M3.out (below_next (below_alloc _ _) hb); clear hb M'; obtain ⟨c40, c41, c42, c43⟩ := box_all M4.out)
    | (go_at_call 7; have M' := M2; refine Ans.go (WT.out _ M2.out) ?_; intro w3 hb; have M3 : Hid (Below (w.alloc (.cells #[.int .i64 k, .string s, .int .i64 n, .slice EA el EC] 25)).heap.size (w.alloc (.cells #[.int .i64 k, .string s, .int .i64 n, .slice EA el EC] 25)) w3) := below_next M2.out hb; clear hb M'; obtain ⟨c30, c31, c32, c33⟩ := box_all M3.out)
    | (go_at_call 7; have M' := M1; refine Ans.go (WN.out _ M1.out) ?_; intro w2 hb; have M2 : Hid (Below (w.alloc (.cells #[.int .i64 k, .string s, .int .i64 n, .slice EA el EC] 25)).heap.size (w.alloc (.cells #[.int .i64 k, .string s, .int .i64 n, .slice EA el EC] 25)) w2) := below_next M1.out hb; clear hb M'; obtain ⟨c20, c21, c22, c23⟩ := box_all M2.out)
    | (go_at_call 6; refine Ans.go (FW.out _ (Below.refl _ _)) ?_; intro w1 hb; have M1 : Hid (Below (w.alloc (.cells #[.int .i64 k, .string s, .int .i64 n, .slice EA el EC] 25)).heap.size (w.alloc (.cells #[.int .i64 k, .string s, .int .i64 n, .slice EA el EC] 25)) w1) := hb; clear hb))
  go_ret
  exact ⟨rfl, below_next H0.out M8.out⟩

set_option maxRecDepth 100000 in
set_option maxHeartbeats 4000000 in
theorem add_other1 (k : Int) (s : ByteArray) (n : Int) (EA : Option Addr) (el EC l C : Nat) (A : Option Addr) (y : Int) (m : Nat) (hm1 : 1 ≤ m) (hm8 : m ≤ 8) (hm : 1 + y % 8 = (m : Int)) (j : Int) (hk : ¬ k = 9) (w : World) (a p : Nat) (hp : (m : Int) * (a : Int) = (p : Int)) (hp0 : p ≤ 1024)
    (FW : Hid (∀ w', Below (w.alloc (.cells #[.int .i64 k, .string s, .int .i64 n, .slice EA el EC] 25)).heap.size (w.alloc (.cells #[.int .i64 k, .string s, .int .i64 n, .slice EA el EC] 25)) w' → Ans 6 #[.slice A l C] (.bool true) w'))
    (WN : Hid (∀ w', Below (w.alloc (.cells #[.int .i64 k, .string s, .int .i64 n, .slice EA el EC] 25)).heap.size (w.alloc (.cells #[.int .i64 k, .string s, .int .i64 n, .slice EA el EC] 25)) w' → Ans 7 #[.slice none 0 0, .agg #[.int .i64 2, .string ⟨#[]⟩, .int .i64 0, .slice none 0 0]] (.tuple #[.int .i64 1, .bool true]) w'))
    (WT : Hid (∀ w', Below (w.alloc (.cells #[.int .i64 k, .string s, .int .i64 n, .slice EA el EC] 25)).heap.size (w.alloc (.cells #[.int .i64 k, .string s, .int .i64 n, .slice EA el EC] 25)) w' → Ans 7 #[.slice A l C, .agg #[.int .i64 k, .string s, .int .i64 n, .slice EA el EC]] (.tuple #[.int .i64 (a : Int), .bool true]) w'))
    (WA : Hid (∀ w', Below (w.alloc (.cells #[.int .i64 k, .string s, .int .i64 n, .slice EA el EC] 25)).heap.size (w.alloc (.cells #[.int .i64 k, .string s, .int .i64 n, .slice EA el EC] 25)) w' → Ans 7 #[.slice A l C, .agg #[.int .i64 10, .string ⟨#[]⟩, .int .i64 (m : Int), .slice (some ⟨w'.heap.size, 0, none⟩) 1 1]] (.tuple #[.int .i64 (p : Int), .bool true]) (w'.alloc (.cells #[.int .i64 k, .string s, .int .i64 n, .slice EA el EC] 25))))
    (WB : Hid (∀ w', Below (w.alloc (.cells #[.int .i64 k, .string s, .int .i64 n, .slice EA el EC] 25)).heap.size (w.alloc (.cells #[.int .i64 k, .string s, .int .i64 n, .slice EA el EC] 25)) w' → Ans 7 #[.slice A l C, .agg #[.int .i64 11, .string ⟨#[]⟩, .int .i64 0, .slice (some ⟨w'.heap.size, 0, none⟩) 1 1]] (.tuple #[.int .i64 1, .bool true]) (w'.alloc (.cells #[.int .i64 k, .string s, .int .i64 n, .slice EA el EC] 25))))
    (CB : Hid (∀ w', Below (w.alloc (.cells #[.int .i64 k, .string s, .int .i64 n, .slice EA el EC] 25)).heap.size (w.alloc (.cells #[.int .i64 k, .string s, .int .i64 n, .slice EA el EC] 25)) w' → Ans 9 #[.slice A l C, .agg #[.int .i64 11, .string ⟨#[]⟩, .int .i64 0, .slice (some ⟨w'.heap.size, 0, none⟩) 1 1]] (.bool false) (w'.alloc (.cells #[.int .i64 k, .string s, .int .i64 n, .slice EA el EC] 25))))
    (IT : Hid (∀ w', Below (w.alloc (.cells #[.int .i64 k, .string s, .int .i64 n, .slice EA el EC] 25)).heap.size (w.alloc (.cells #[.int .i64 k, .string s, .int .i64 n, .slice EA el EC] 25)) w' → Ans 10 #[.slice A l C, .string s] (.int .i64 j) w')) :
    Ans 3 #[.slice A l C, .agg #[.int .i64 k, .string s, .int .i64 n, .slice EA el EC], .int .i64 y] (.bool true) w := by
  unfold Ans
  have H0 : Hid (Below w.heap.size w (w.alloc (.cells #[.int .i64 k, .string s, .int .i64 n, .slice EA el EC] 25))) := below_alloc _ _
  have h7 := and7 y
  have hk0 : (k == 9) = false := by simpa using hk
  go_enter Tryd.func3, Tryd.ntmps3
  go_wp2_with (first
    | (go_at_call 10; refine Ans.go (IT.out _ M7.out) ?_; intro w8 hb; have M8 : Hid (Below (w.alloc (.cells #[.int .i64 k, .string s, .int .i64 n, .slice EA el EC] 25)).heap.size (w.alloc (.cells #[.int .i64 k, .string s, .int .i64 n, .slice EA el EC] 25)) w8) := below_next M7.out hb; clear hb; obtain ⟨c80, c81, c82, c83⟩ := box_all M8.out)
    | (go_at_call 9; refine Ans.go (CB.out _ M6.out) ?_; intro w7 hb; have M7 : Hid (Below (w.alloc (.cells #[.int .i64 k, .string s, .int .i64 n, .slice EA el EC] 25)).heap.size (w.alloc (.cells #[.int .i64 k, .string s, .int .i64 n, .slice EA el EC] 25)) w7) := below_next M6.out (below_next (below_alloc _ _) hb); clear hb; obtain ⟨c70, c71, c72, c73⟩ := box_all M7.out)
    | (go_at_call 7; have M' := M4; refine Ans.go (WB.out _ M4.out) ?_; intro w6 hb; have M6 : Hid (Below (w.alloc (.cells #[.int .i64 k, .string s, .int .i64 n, .slice EA el EC] 25)).heap.size (w.alloc (.cells #[.int .i64 k, .string s, .int .i64 n, .slice EA el EC] 25)) w6) := below_next M4.out (below_next (below_alloc _ _) hb); clear hb M'; obtain ⟨c60, c61, c62, c63⟩ := box_all M6.out)
    | (go_at_call 7; have M' := M3; refine Ans.go (WA.out _ M3.out) ?_; intro w4 hb; have M4 : Hid (Below (w.alloc (.cells #[.int .i64 k, .string s, .int .i64 n, .slice EA el EC] 25)).heap.size (w.alloc (.cells #[.int .i64 k, .string s, .int .i64 n, .slice EA el EC] 25)) w4) := below_next M3.out (below_next (below_alloc _ _) hb); clear hb M'; obtain ⟨c40, c41, c42, c43⟩ := box_all M4.out)
    | (go_at_call 7; have M' := M2; refine Ans.go (WT.out _ M2.out) ?_; intro w3 hb; have M3 : Hid (Below (w.alloc (.cells #[.int .i64 k, .string s, .int .i64 n, .slice EA el EC] 25)).heap.size (w.alloc (.cells #[.int .i64 k, .string s, .int .i64 n, .slice EA el EC] 25)) w3) := below_next M2.out hb; clear hb M'; obtain ⟨c30, c31, c32, c33⟩ := box_all M3.out)
    | (go_at_call 7; have M' := M1; refine Ans.go (WN.out _ M1.out) ?_; intro w2 hb; have M2 : Hid (Below (w.alloc (.cells #[.int .i64 k, .string s, .int .i64 n, .slice EA el EC] 25)).heap.size (w.alloc (.cells #[.int .i64 k, .string s, .int .i64 n, .slice EA el EC] 25)) w2) := below_next M1.out hb; clear hb M'; obtain ⟨c20, c21, c22, c23⟩ := box_all M2.out)
    | (go_at_call 6; refine Ans.go (FW.out _ (Below.refl _ _)) ?_; intro w1 hb; have M1 : Hid (Below (w.alloc (.cells #[.int .i64 k, .string s, .int .i64 n, .slice EA el EC] 25)).heap.size (w.alloc (.cells #[.int .i64 k, .string s, .int .i64 n, .slice EA el EC] 25)) w1) := hb; clear hb))
  go_ret
  exact ⟨rfl, below_next H0.out M8.out⟩

set_option maxRecDepth 100000 in
set_option maxHeartbeats 4000000 in
theorem add_other2 (k : Int) (s : ByteArray) (n : Int) (EA : Option Addr) (el EC l C : Nat) (A : Option Addr) (y : Int) (m : Nat) (hm1 : 1 ≤ m) (hm8 : m ≤ 8) (hm : 1 + y % 8 = (m : Int)) (j : Int) (hk : ¬ k = 9) (w : World) (a p : Nat) (hp : (m : Int) * (a : Int) = (p : Int)) (hp0 : p ≤ 1024) (hp1 : p ≤ 128)
    (FW : Hid (∀ w', Below (w.alloc (.cells #[.int .i64 k, .string s, .int .i64 n, .slice EA el EC] 25)).heap.size (w.alloc (.cells #[.int .i64 k, .string s, .int .i64 n, .slice EA el EC] 25)) w' → Ans 6 #[.slice A l C] (.bool true) w'))
    (WN : Hid (∀ w', Below (w.alloc (.cells #[.int .i64 k, .string s, .int .i64 n, .slice EA el EC] 25)).heap.size (w.alloc (.cells #[.int .i64 k, .string s, .int .i64 n, .slice EA el EC] 25)) w' → Ans 7 #[.slice none 0 0, .agg #[.int .i64 2, .string ⟨#[]⟩, .int .i64 0, .slice none 0 0]] (.tuple #[.int .i64 1, .bool true]) w'))
    (WT : Hid (∀ w', Below (w.alloc (.cells #[.int .i64 k, .string s, .int .i64 n, .slice EA el EC] 25)).heap.size (w.alloc (.cells #[.int .i64 k, .string s, .int .i64 n, .slice EA el EC] 25)) w' → Ans 7 #[.slice A l C, .agg #[.int .i64 k, .string s, .int .i64 n, .slice EA el EC]] (.tuple #[.int .i64 (a : Int), .bool true]) w'))
    (WA : Hid (∀ w', Below (w.alloc (.cells #[.int .i64 k, .string s, .int .i64 n, .slice EA el EC] 25)).heap.size (w.alloc (.cells #[.int .i64 k, .string s, .int .i64 n, .slice EA el EC] 25)) w' → Ans 7 #[.slice A l C, .agg #[.int .i64 10, .string ⟨#[]⟩, .int .i64 (m : Int), .slice (some ⟨w'.heap.size, 0, none⟩) 1 1]] (.tuple #[.int .i64 0, .bool false]) (w'.alloc (.cells #[.int .i64 k, .string s, .int .i64 n, .slice EA el EC] 25))))
    (SM : Hid (∀ w', Below (w.alloc (.cells #[.int .i64 k, .string s, .int .i64 n, .slice EA el EC] 25)).heap.size (w.alloc (.cells #[.int .i64 k, .string s, .int .i64 n, .slice EA el EC] 25)) w' → Ans 8 #[.slice A l C, .agg #[.int .i64 k, .string s, .int .i64 n, .slice EA el EC], .int .i64 (m : Int)] (.bool false) w'))
    (WB : Hid (∀ w', Below (w.alloc (.cells #[.int .i64 k, .string s, .int .i64 n, .slice EA el EC] 25)).heap.size (w.alloc (.cells #[.int .i64 k, .string s, .int .i64 n, .slice EA el EC] 25)) w' → Ans 7 #[.slice A l C, .agg #[.int .i64 11, .string ⟨#[]⟩, .int .i64 0, .slice (some ⟨w'.heap.size, 0, none⟩) 1 1]] (.tuple #[.int .i64 1, .bool true]) (w'.alloc (.cells #[.int .i64 k, .string s, .int .i64 n, .slice EA el EC] 25))))
    (CB : Hid (∀ w', Below (w.alloc (.cells #[.int .i64 k, .string s, .int .i64 n, .slice EA el EC] 25)).heap.size (w.alloc (.cells #[.int .i64 k, .string s, .int .i64 n, .slice EA el EC] 25)) w' → Ans 9 #[.slice A l C, .agg #[.int .i64 11, .string ⟨#[]⟩, .int .i64 0, .slice (some ⟨w'.heap.size, 0, none⟩) 1 1]] (.bool false) (w'.alloc (.cells #[.int .i64 k, .string s, .int .i64 n, .slice EA el EC] 25))))
    (IT : Hid (∀ w', Below (w.alloc (.cells #[.int .i64 k, .string s, .int .i64 n, .slice EA el EC] 25)).heap.size (w.alloc (.cells #[.int .i64 k, .string s, .int .i64 n, .slice EA el EC] 25)) w' → Ans 10 #[.slice A l C, .string s] (.int .i64 j) w')) :
    Ans 3 #[.slice A l C, .agg #[.int .i64 k, .string s, .int .i64 n, .slice EA el EC], .int .i64 y] (.bool true) w := by
  unfold Ans
  have H0 : Hid (Below w.heap.size w (w.alloc (.cells #[.int .i64 k, .string s, .int .i64 n, .slice EA el EC] 25))) := below_alloc _ _
  have h7 := and7 y
  have hp2 : (p : Int) ≤ 128 := by omega
  have hk0 : (k == 9) = false := by simpa using hk
  go_enter Tryd.func3, Tryd.ntmps3
  go_wp2_with (first
    | (go_at_call 10; refine Ans.go (IT.out _ M7.out) ?_; intro w8 hb; have M8 : Hid (Below (w.alloc (.cells #[.int .i64 k, .string s, .int .i64 n, .slice EA el EC] 25)).heap.size (w.alloc (.cells #[.int .i64 k, .string s, .int .i64 n, .slice EA el EC] 25)) w8) := below_next M7.out hb; clear hb; obtain ⟨c80, c81, c82, c83⟩ := box_all M8.out)
    | (go_at_call 9; refine Ans.go (CB.out _ M6.out) ?_; intro w7 hb; have M7 : Hid (Below (w.alloc (.cells #[.int .i64 k, .string s, .int .i64 n, .slice EA el EC] 25)).heap.size (w.alloc (.cells #[.int .i64 k, .string s, .int .i64 n, .slice EA el EC] 25)) w7) := below_next M6.out (below_next (below_alloc _ _) hb); clear hb; obtain ⟨c70, c71, c72, c73⟩ := box_all M7.out)
    | (go_at_call 7; have M' := M5; refine Ans.go (WB.out _ M5.out) ?_; intro w6 hb; have M6 : Hid (Below (w.alloc (.cells #[.int .i64 k, .string s, .int .i64 n, .slice EA el EC] 25)).heap.size (w.alloc (.cells #[.int .i64 k, .string s, .int .i64 n, .slice EA el EC] 25)) w6) := below_next M5.out (below_next (below_alloc _ _) hb); clear hb M'; obtain ⟨c60, c61, c62, c63⟩ := box_all M6.out)
    | (go_at_call 8; refine Ans.go (SM.out _ M4.out) ?_; intro w5 hb; have M5 : Hid (Below (w.alloc (.cells #[.int .i64 k, .string s, .int .i64 n, .slice EA el EC] 25)).heap.size (w.alloc (.cells #[.int .i64 k, .string s, .int .i64 n, .slice EA el EC] 25)) w5) := below_next M4.out hb; clear hb; obtain ⟨c50, c51, c52, c53⟩ := box_all M5.out)
    | (go_at_call 7; have M' := M3; refine Ans.go (WA.out _ M3.out) ?_; intro w4 hb; have M4 : Hid (Below (w.alloc (.cells #[.int .i64 k, .string s, .int .i64 n, .slice EA el EC] 25)).heap.size (w.alloc (.cells #[.int .i64 k, .string s, .int .i64 n, .slice EA el EC] 25)) w4) := below_next M3.out (below_next (below_alloc _ _) hb); clear hb M'; obtain ⟨c40, c41, c42, c43⟩ := box_all M4.out)
    | (go_at_call 7; have M' := M2; refine Ans.go (WT.out _ M2.out) ?_; intro w3 hb; have M3 : Hid (Below (w.alloc (.cells #[.int .i64 k, .string s, .int .i64 n, .slice EA el EC] 25)).heap.size (w.alloc (.cells #[.int .i64 k, .string s, .int .i64 n, .slice EA el EC] 25)) w3) := below_next M2.out hb; clear hb M'; obtain ⟨c30, c31, c32, c33⟩ := box_all M3.out)
    | (go_at_call 7; have M' := M1; refine Ans.go (WN.out _ M1.out) ?_; intro w2 hb; have M2 : Hid (Below (w.alloc (.cells #[.int .i64 k, .string s, .int .i64 n, .slice EA el EC] 25)).heap.size (w.alloc (.cells #[.int .i64 k, .string s, .int .i64 n, .slice EA el EC] 25)) w2) := below_next M1.out hb; clear hb M'; obtain ⟨c20, c21, c22, c23⟩ := box_all M2.out)
    | (go_at_call 6; refine Ans.go (FW.out _ (Below.refl _ _)) ?_; intro w1 hb; have M1 : Hid (Below (w.alloc (.cells #[.int .i64 k, .string s, .int .i64 n, .slice EA el EC] 25)).heap.size (w.alloc (.cells #[.int .i64 k, .string s, .int .i64 n, .slice EA el EC] 25)) w1) := hb; clear hb))
  go_ret
  exact ⟨rfl, below_next H0.out M8.out⟩

set_option maxRecDepth 100000 in
set_option maxHeartbeats 4000000 in
theorem add_other3 (k : Int) (s : ByteArray) (n : Int) (EA : Option Addr) (el EC l C : Nat) (A : Option Addr) (y : Int) (m : Nat) (hm1 : 1 ≤ m) (hm8 : m ≤ 8) (hm : 1 + y % 8 = (m : Int)) (j : Int) (hk : ¬ k = 9) (w : World) (a p : Nat) (hp : (m : Int) * (a : Int) = (p : Int)) (hp0 : p ≤ 1024) (hp1 : ¬ p ≤ 128)
    (FW : Hid (∀ w', Below (w.alloc (.cells #[.int .i64 k, .string s, .int .i64 n, .slice EA el EC] 25)).heap.size (w.alloc (.cells #[.int .i64 k, .string s, .int .i64 n, .slice EA el EC] 25)) w' → Ans 6 #[.slice A l C] (.bool true) w'))
    (WN : Hid (∀ w', Below (w.alloc (.cells #[.int .i64 k, .string s, .int .i64 n, .slice EA el EC] 25)).heap.size (w.alloc (.cells #[.int .i64 k, .string s, .int .i64 n, .slice EA el EC] 25)) w' → Ans 7 #[.slice none 0 0, .agg #[.int .i64 2, .string ⟨#[]⟩, .int .i64 0, .slice none 0 0]] (.tuple #[.int .i64 1, .bool true]) w'))
    (WT : Hid (∀ w', Below (w.alloc (.cells #[.int .i64 k, .string s, .int .i64 n, .slice EA el EC] 25)).heap.size (w.alloc (.cells #[.int .i64 k, .string s, .int .i64 n, .slice EA el EC] 25)) w' → Ans 7 #[.slice A l C, .agg #[.int .i64 k, .string s, .int .i64 n, .slice EA el EC]] (.tuple #[.int .i64 (a : Int), .bool true]) w'))
    (WA : Hid (∀ w', Below (w.alloc (.cells #[.int .i64 k, .string s, .int .i64 n, .slice EA el EC] 25)).heap.size (w.alloc (.cells #[.int .i64 k, .string s, .int .i64 n, .slice EA el EC] 25)) w' → Ans 7 #[.slice A l C, .agg #[.int .i64 10, .string ⟨#[]⟩, .int .i64 (m : Int), .slice (some ⟨w'.heap.size, 0, none⟩) 1 1]] (.tuple #[.int .i64 0, .bool false]) (w'.alloc (.cells #[.int .i64 k, .string s, .int .i64 n, .slice EA el EC] 25))))
    (WB : Hid (∀ w', Below (w.alloc (.cells #[.int .i64 k, .string s, .int .i64 n, .slice EA el EC] 25)).heap.size (w.alloc (.cells #[.int .i64 k, .string s, .int .i64 n, .slice EA el EC] 25)) w' → Ans 7 #[.slice A l C, .agg #[.int .i64 11, .string ⟨#[]⟩, .int .i64 0, .slice (some ⟨w'.heap.size, 0, none⟩) 1 1]] (.tuple #[.int .i64 1, .bool true]) (w'.alloc (.cells #[.int .i64 k, .string s, .int .i64 n, .slice EA el EC] 25))))
    (CB : Hid (∀ w', Below (w.alloc (.cells #[.int .i64 k, .string s, .int .i64 n, .slice EA el EC] 25)).heap.size (w.alloc (.cells #[.int .i64 k, .string s, .int .i64 n, .slice EA el EC] 25)) w' → Ans 9 #[.slice A l C, .agg #[.int .i64 11, .string ⟨#[]⟩, .int .i64 0, .slice (some ⟨w'.heap.size, 0, none⟩) 1 1]] (.bool false) (w'.alloc (.cells #[.int .i64 k, .string s, .int .i64 n, .slice EA el EC] 25))))
    (IT : Hid (∀ w', Below (w.alloc (.cells #[.int .i64 k, .string s, .int .i64 n, .slice EA el EC] 25)).heap.size (w.alloc (.cells #[.int .i64 k, .string s, .int .i64 n, .slice EA el EC] 25)) w' → Ans 10 #[.slice A l C, .string s] (.int .i64 j) w')) :
    Ans 3 #[.slice A l C, .agg #[.int .i64 k, .string s, .int .i64 n, .slice EA el EC], .int .i64 y] (.bool true) w := by
  unfold Ans
  have H0 : Hid (Below w.heap.size w (w.alloc (.cells #[.int .i64 k, .string s, .int .i64 n, .slice EA el EC] 25))) := below_alloc _ _
  have h7 := and7 y
  have hp2 : ¬ (p : Int) ≤ 128 := by omega
  have hk0 : (k == 9) = false := by simpa using hk
  go_enter Tryd.func3, Tryd.ntmps3
  go_wp2_with (first
    | (go_at_call 10; refine Ans.go (IT.out _ M7.out) ?_; intro w8 hb; have M8 : Hid (Below (w.alloc (.cells #[.int .i64 k, .string s, .int .i64 n, .slice EA el EC] 25)).heap.size (w.alloc (.cells #[.int .i64 k, .string s, .int .i64 n, .slice EA el EC] 25)) w8) := below_next M7.out hb; clear hb; obtain ⟨c80, c81, c82, c83⟩ := box_all M8.out)
    | (go_at_call 9; refine Ans.go (CB.out _ M6.out) ?_; intro w7 hb; have M7 : Hid (Below (w.alloc (.cells #[.int .i64 k, .string s, .int .i64 n, .slice EA el EC] 25)).heap.size (w.alloc (.cells #[.int .i64 k, .string s, .int .i64 n, .slice EA el EC] 25)) w7) := below_next M6.out (below_next (below_alloc _ _) hb); clear hb; obtain ⟨c70, c71, c72, c73⟩ := box_all M7.out)
    | (go_at_call 7; have M' := M4; refine Ans.go (WB.out _ M4.out) ?_; intro w6 hb; have M6 : Hid (Below (w.alloc (.cells #[.int .i64 k, .string s, .int .i64 n, .slice EA el EC] 25)).heap.size (w.alloc (.cells #[.int .i64 k, .string s, .int .i64 n, .slice EA el EC] 25)) w6) := below_next M4.out (below_next (below_alloc _ _) hb); clear hb M'; obtain ⟨c60, c61, c62, c63⟩ := box_all M6.out)
    | (go_at_call 7; have M' := M3; refine Ans.go (WA.out _ M3.out) ?_; intro w4 hb; have M4 : Hid (Below (w.alloc (.cells #[.int .i64 k, .string s, .int .i64 n, .slice EA el EC] 25)).heap.size (w.alloc (.cells #[.int .i64 k, .string s, .int .i64 n, .slice EA el EC] 25)) w4) := below_next M3.out (below_next (below_alloc _ _) hb); clear hb M'; obtain ⟨c40, c41, c42, c43⟩ := box_all M4.out)
    | (go_at_call 7; have M' := M2; refine Ans.go (WT.out _ M2.out) ?_; intro w3 hb; have M3 : Hid (Below (w.alloc (.cells #[.int .i64 k, .string s, .int .i64 n, .slice EA el EC] 25)).heap.size (w.alloc (.cells #[.int .i64 k, .string s, .int .i64 n, .slice EA el EC] 25)) w3) := below_next M2.out hb; clear hb M'; obtain ⟨c30, c31, c32, c33⟩ := box_all M3.out)
    | (go_at_call 7; have M' := M1; refine Ans.go (WN.out _ M1.out) ?_; intro w2 hb; have M2 : Hid (Below (w.alloc (.cells #[.int .i64 k, .string s, .int .i64 n, .slice EA el EC] 25)).heap.size (w.alloc (.cells #[.int .i64 k, .string s, .int .i64 n, .slice EA el EC] 25)) w2) := below_next M1.out hb; clear hb M'; obtain ⟨c20, c21, c22, c23⟩ := box_all M2.out)
    | (go_at_call 6; refine Ans.go (FW.out _ (Below.refl _ _)) ?_; intro w1 hb; have M1 : Hid (Below (w.alloc (.cells #[.int .i64 k, .string s, .int .i64 n, .slice EA el EC] 25)).heap.size (w.alloc (.cells #[.int .i64 k, .string s, .int .i64 n, .slice EA el EC] 25)) w1) := hb; clear hb))
  go_ret
  exact ⟨rfl, below_next H0.out M8.out⟩

set_option maxRecDepth 100000 in
set_option maxHeartbeats 4000000 in
theorem add_enum1 (s : ByteArray) (n : Int) (EA : Option Addr) (el EC l C : Nat) (A : Option Addr) (y : Int) (m : Nat) (hm1 : 1 ≤ m) (hm8 : m ≤ 8) (hm : 1 + y % 8 = (m : Int)) (j : Nat) (w : World) (a p : Nat) (hp : (m : Int) * (a : Int) = (p : Int)) (hp0 : p ≤ 1024) (hj : j < l) (b o : Nat) (hA : A = some ⟨b, o, none⟩)
    (CI : Hid (∀ w', Below (w.alloc (.cells #[.int .i64 9, .string s, .int .i64 n, .slice EA el EC] 25)).heap.size (w.alloc (.cells #[.int .i64 9, .string s, .int .i64 n, .slice EA el EC] 25)) w' → w'.cell? ⟨b, o + j * 20, none⟩ = some (.int .i64 3) ∧ b < w'.heap.size))
    (FW : Hid (∀ w', Below (w.alloc (.cells #[.int .i64 9, .string s, .int .i64 n, .slice EA el EC] 25)).heap.size (w.alloc (.cells #[.int .i64 9, .string s, .int .i64 n, .slice EA el EC] 25)) w' → Ans 6 #[.slice A l C] (.bool true) w'))
    (WN : Hid (∀ w', Below (w.alloc (.cells #[.int .i64 9, .string s, .int .i64 n, .slice EA el EC] 25)).heap.size (w.alloc (.cells #[.int .i64 9, .string s, .int .i64 n, .slice EA el EC] 25)) w' → Ans 7 #[.slice none 0 0, .agg #[.int .i64 2, .string ⟨#[]⟩, .int .i64 0, .slice none 0 0]] (.tuple #[.int .i64 1, .bool true]) w'))
    (WT : Hid (∀ w', Below (w.alloc (.cells #[.int .i64 9, .string s, .int .i64 n, .slice EA el EC] 25)).heap.size (w.alloc (.cells #[.int .i64 9, .string s, .int .i64 n, .slice EA el EC] 25)) w' → Ans 7 #[.slice A l C, .agg #[.int .i64 9, .string s, .int .i64 n, .slice EA el EC]] (.tuple #[.int .i64 (a : Int), .bool true]) w'))
    (WA : Hid (∀ w', Below (w.alloc (.cells #[.int .i64 9, .string s, .int .i64 n, .slice EA el EC] 25)).heap.size (w.alloc (.cells #[.int .i64 9, .string s, .int .i64 n, .slice EA el EC] 25)) w' → Ans 7 #[.slice A l C, .agg #[.int .i64 10, .string ⟨#[]⟩, .int .i64 (m : Int), .slice (some ⟨w'.heap.size, 0, none⟩) 1 1]] (.tuple #[.int .i64 (p : Int), .bool true]) (w'.alloc (.cells #[.int .i64 9, .string s, .int .i64 n, .slice EA el EC] 25))))
    (WB : Hid (∀ w', Below (w.alloc (.cells #[.int .i64 9, .string s, .int .i64 n, .slice EA el EC] 25)).heap.size (w.alloc (.cells #[.int .i64 9, .string s, .int .i64 n, .slice EA el EC] 25)) w' → Ans 7 #[.slice A l C, .agg #[.int .i64 11, .string ⟨#[]⟩, .int .i64 0, .slice (some ⟨w'.heap.size, 0, none⟩) 1 1]] (.tuple #[.int .i64 1, .bool true]) (w'.alloc (.cells #[.int .i64 9, .string s, .int .i64 n, .slice EA el EC] 25))))
    (CB : Hid (∀ w', Below (w.alloc (.cells #[.int .i64 9, .string s, .int .i64 n, .slice EA el EC] 25)).heap.size (w.alloc (.cells #[.int .i64 9, .string s, .int .i64 n, .slice EA el EC] 25)) w' → Ans 9 #[.slice A l C, .agg #[.int .i64 11, .string ⟨#[]⟩, .int .i64 0, .slice (some ⟨w'.heap.size, 0, none⟩) 1 1]] (.bool false) (w'.alloc (.cells #[.int .i64 9, .string s, .int .i64 n, .slice EA el EC] 25))))
    (IT : Hid (∀ w', Below (w.alloc (.cells #[.int .i64 9, .string s, .int .i64 n, .slice EA el EC] 25)).heap.size (w.alloc (.cells #[.int .i64 9, .string s, .int .i64 n, .slice EA el EC] 25)) w' → Ans 10 #[.slice A l C, .string s] (.int .i64 j) w')) :
    Ans 3 #[.slice A l C, .agg #[.int .i64 9, .string s, .int .i64 n, .slice EA el EC], .int .i64 y] (.bool true) w := by
  unfold Ans
  have H0 : Hid (Below w.heap.size w (w.alloc (.cells #[.int .i64 9, .string s, .int .i64 n, .slice EA el EC] 25))) := below_alloc _ _
  have h7 := and7 y
  subst hA
  have hjI : (j : Int) < (l : Int) := by omega
  go_enter Tryd.func3, Tryd.ntmps3
  go_wp2_with (first
    | (go_at_call 10; refine Ans.go (IT.out _ M7.out) ?_; intro w8 hb; have M8 : Hid (Below (w.alloc (.cells #[.int .i64 9, .string s, .int .i64 n, .slice EA el EC] 25)).heap.size (w.alloc (.cells #[.int .i64 9, .string s, .int .i64 n, .slice EA el EC] 25)) w8) := below_next M7.out hb; clear hb; obtain ⟨c80, c81, c82, c83⟩ := box_all M8.out; obtain ⟨i0, i1⟩ := CI.out _ M8.out)
    | (go_at_call 9; refine Ans.go (CB.out _ M6.out) ?_; intro w7 hb; have M7 : Hid (Below (w.alloc (.cells #[.int .i64 9, .string s, .int .i64 n, .slice EA el EC] 25)).heap.size (w.alloc (.cells #[.int .i64 9, .string s, .int .i64 n, .slice EA el EC] 25)) w7) := below_next M6.out (below_next (below_alloc _ _) hb); clear hb; obtain ⟨c70, c71, c72, c73⟩ := box_all M7.out)
    | (go_at_call 7; have M' := M4; refine Ans.go (WB.out _ M4.out) ?_; intro w6 hb; have M6 : Hid (Below (w.alloc (.cells #[.int .i64 9, .string s, .int .i64 n, .slice EA el EC] 25)).heap.size (w.alloc (.cells #[.int .i64 9, .string s, .int .i64 n, .slice EA el EC] 25)) w6) := below_next M4.out (below_next (below_alloc _ _) hb); clear hb M'; obtain ⟨c60, c61, c62, c63⟩ := box_all M6.out)
    | (go_at_call 7; have M' := M3; refine Ans.go (WA.out _ M3.out) ?_; intro w4 hb; have M4 : Hid (Below (w.alloc (.cells #[.int .i64 9, .string s, .int .i64 n, .slice EA el EC] 25)).heap.size (w.alloc (.cells #[.int .i64 9, .string s, .int .i64 n, .slice EA el EC] 25)) w4) := below_next M3.out (below_next (below_alloc _ _) hb); clear hb M'; obtain ⟨c40, c41, c42, c43⟩ := box_all M4.out)
    | (go_at_call 7; have M' := M2; refine Ans.go (WT.out _ M2.out) ?_; intro w3 hb; have M3 : Hid (Below (w.alloc (.cells #[.int .i64 9, .string s, .int .i64 n, .slice EA el EC] 25)).heap.size (w.alloc (.cells #[.int .i64 9, .string s, .int .i64 n, .slice EA el EC] 25)) w3) := below_next M2.out hb; clear hb M'; obtain ⟨c30, c31, c32, c33⟩ := box_all M3.out)
    | (go_at_call 7; have M' := M1; refine Ans.go (WN.out _ M1.out) ?_; intro w2 hb; have M2 : Hid (Below (w.alloc (.cells #[.int .i64 9, .string s, .int .i64 n, .slice EA el EC] 25)).heap.size (w.alloc (.cells #[.int .i64 9, .string s, .int .i64 n, .slice EA el EC] 25)) w2) := below_next M1.out hb; clear hb M'; obtain ⟨c20, c21, c22, c23⟩ := box_all M2.out)
    | (go_at_call 6; refine Ans.go (FW.out _ (Below.refl _ _)) ?_; intro w1 hb; have M1 : Hid (Below (w.alloc (.cells #[.int .i64 9, .string s, .int .i64 n, .slice EA el EC] 25)).heap.size (w.alloc (.cells #[.int .i64 9, .string s, .int .i64 n, .slice EA el EC] 25)) w1) := hb; clear hb))
  go_ret
  exact ⟨rfl, below_next H0.out M8.out⟩

set_option maxRecDepth 100000 in
set_option maxHeartbeats 4000000 in
theorem add_enum2 (s : ByteArray) (n : Int) (EA : Option Addr) (el EC l C : Nat) (A : Option Addr) (y : Int) (m : Nat) (hm1 : 1 ≤ m) (hm8 : m ≤ 8) (hm : 1 + y % 8 = (m : Int)) (j : Nat) (w : World) (a p : Nat) (hp : (m : Int) * (a : Int) = (p : Int)) (hp0 : p ≤ 1024) (hp1 : p ≤ 128) (hj : j < l) (b o : Nat) (hA : A = some ⟨b, o, none⟩)
    (CI : Hid (∀ w', Below (w.alloc (.cells #[.int .i64 9, .string s, .int .i64 n, .slice EA el EC] 25)).heap.size (w.alloc (.cells #[.int .i64 9, .string s, .int .i64 n, .slice EA el EC] 25)) w' → w'.cell? ⟨b, o + j * 20, none⟩ = some (.int .i64 3) ∧ b < w'.heap.size))
    (FW : Hid (∀ w', Below (w.alloc (.cells #[.int .i64 9, .string s, .int .i64 n, .slice EA el EC] 25)).heap.size (w.alloc (.cells #[.int .i64 9, .string s, .int .i64 n, .slice EA el EC] 25)) w' → Ans 6 #[.slice A l C] (.bool true) w'))
    (WN : Hid (∀ w', Below (w.alloc (.cells #[.int .i64 9, .string s, .int .i64 n, .slice EA el EC] 25)).heap.size (w.alloc (.cells #[.int .i64 9, .string s, .int .i64 n, .slice EA el EC] 25)) w' → Ans 7 #[.slice none 0 0, .agg #[.int .i64 2, .string ⟨#[]⟩, .int .i64 0, .slice none 0 0]] (.tuple #[.int .i64 1, .bool true]) w'))
    (WT : Hid (∀ w', Below (w.alloc (.cells #[.int .i64 9, .string s, .int .i64 n, .slice EA el EC] 25)).heap.size (w.alloc (.cells #[.int .i64 9, .string s, .int .i64 n, .slice EA el EC] 25)) w' → Ans 7 #[.slice A l C, .agg #[.int .i64 9, .string s, .int .i64 n, .slice EA el EC]] (.tuple #[.int .i64 (a : Int), .bool true]) w'))
    (WA : Hid (∀ w', Below (w.alloc (.cells #[.int .i64 9, .string s, .int .i64 n, .slice EA el EC] 25)).heap.size (w.alloc (.cells #[.int .i64 9, .string s, .int .i64 n, .slice EA el EC] 25)) w' → Ans 7 #[.slice A l C, .agg #[.int .i64 10, .string ⟨#[]⟩, .int .i64 (m : Int), .slice (some ⟨w'.heap.size, 0, none⟩) 1 1]] (.tuple #[.int .i64 0, .bool false]) (w'.alloc (.cells #[.int .i64 9, .string s, .int .i64 n, .slice EA el EC] 25))))
    (SM : Hid (∀ w', Below (w.alloc (.cells #[.int .i64 9, .string s, .int .i64 n, .slice EA el EC] 25)).heap.size (w.alloc (.cells #[.int .i64 9, .string s, .int .i64 n, .slice EA el EC] 25)) w' → Ans 8 #[.slice A l C, .agg #[.int .i64 9, .string s, .int .i64 n, .slice EA el EC], .int .i64 (m : Int)] (.bool false) w'))
    (WB : Hid (∀ w', Below (w.alloc (.cells #[.int .i64 9, .string s, .int .i64 n, .slice EA el EC] 25)).heap.size (w.alloc (.cells #[.int .i64 9, .string s, .int .i64 n, .slice EA el EC] 25)) w' → Ans 7 #[.slice A l C, .agg #[.int .i64 11, .string ⟨#[]⟩, .int .i64 0, .slice (some ⟨w'.heap.size, 0, none⟩) 1 1]] (.tuple #[.int .i64 1, .bool true]) (w'.alloc (.cells #[.int .i64 9, .string s, .int .i64 n, .slice EA el EC] 25))))
    (CB : Hid (∀ w', Below (w.alloc (.cells #[.int .i64 9, .string s, .int .i64 n, .slice EA el EC] 25)).heap.size (w.alloc (.cells #[.int .i64 9, .string s, .int .i64 n, .slice EA el EC] 25)) w' → Ans 9 #[.slice A l C, .agg #[.int .i64 11, .string ⟨#[]⟩, .int .i64 0, .slice (some ⟨w'.heap.size, 0, none⟩) 1 1]] (.bool false) (w'.alloc (.cells #[.int .i64 9, .string s, .int .i64 n, .slice EA el EC] 25))))
    (IT : Hid (∀ w', Below (w.alloc (.cells #[.int .i64 9, .string s, .int .i64 n, .slice EA el EC] 25)).heap.size (w.alloc (.cells #[.int .i64 9, .string s, .int .i64 n, .slice EA el EC] 25)) w' → Ans 10 #[.slice A l C, .string s] (.int .i64 j) w')) :
    Ans 3 #[.slice A l C, .agg #[.int .i64 9, .string s, .int .i64 n, .slice EA el EC], .int .i64 y] (.bool true) w := by
  unfold Ans
  have H0 : Hid (Below w.heap.size w (w.alloc (.cells #[.int .i64 9, .string s, .int .i64 n, .slice EA el EC] 25))) := below_alloc _ _
  have h7 := and7 y
  have hp2 : (p : Int) ≤ 128 := by omega
  subst hA
  have hjI : (j : Int) < (l : Int) := by omega
  go_enter Tryd.func3, Tryd.ntmps3
  go_wp2_with (first
    | (go_at_call 10; refine Ans.go (IT.out _ M7.out) ?_; intro w8 hb; have M8 : Hid (Below (w.alloc (.cells #[.int .i64 9, .string s, .int .i64 n, .slice EA el EC] 25)).heap.size (w.alloc (.cells #[.int .i64 9, .string s, .int .i64 n, .slice EA el EC] 25)) w8) := below_next M7.out hb; clear hb; obtain ⟨c80, c81, c82, c83⟩ := box_all M8.out; obtain ⟨i0, i1⟩ := CI.out _ M8.out)
    | (go_at_call 9; refine Ans.go (CB.out _ M6.out) ?_; intro w7 hb; have M7 : Hid (Below (w.alloc (.cells #[.int .i64 9, .string s, .int .i64 n, .slice EA el EC] 25)).heap.size (w.alloc (.cells #[.int .i64 9, .string s, .int .i64 n, .slice EA el EC] 25)) w7) := below_next M6.out (below_next (below_alloc _ _) hb); clear hb; obtain ⟨c70, c71, c72, c73⟩ := box_all M7.out)
    | (go_at_call 7; have M' := M5; refine Ans.go (WB.out _ M5.out) ?_; intro w6 hb; have M6 : Hid (Below (w.alloc (.cells #[.int .i64 9, .string s, .int .i64 n, .slice EA el EC] 25)).heap.size (w.alloc (.cells #[.int .i64 9, .string s, .int .i64 n, .slice EA el EC] 25)) w6) := below_next M5.out (below_next (below_alloc _ _) hb); clear hb M'; obtain ⟨c60, c61, c62, c63⟩ := box_all M6.out)
    | (go_at_call 8; refine Ans.go (SM.out _ M4.out) ?_; intro w5 hb; have M5 : Hid (Below (w.alloc (.cells #[.int .i64 9, .string s, .int .i64 n, .slice EA el EC] 25)).heap.size (w.alloc (.cells #[.int .i64 9, .string s, .int .i64 n, .slice EA el EC] 25)) w5) := below_next M4.out hb; clear hb; obtain ⟨c50, c51, c52, c53⟩ := box_all M5.out)
    | (go_at_call 7; have M' := M3; refine Ans.go (WA.out _ M3.out) ?_; intro w4 hb; have M4 : Hid (Below (w.alloc (.cells #[.int .i64 9, .string s, .int .i64 n, .slice EA el EC] 25)).heap.size (w.alloc (.cells #[.int .i64 9, .string s, .int .i64 n, .slice EA el EC] 25)) w4) := below_next M3.out (below_next (below_alloc _ _) hb); clear hb M'; obtain ⟨c40, c41, c42, c43⟩ := box_all M4.out)
    | (go_at_call 7; have M' := M2; refine Ans.go (WT.out _ M2.out) ?_; intro w3 hb; have M3 : Hid (Below (w.alloc (.cells #[.int .i64 9, .string s, .int .i64 n, .slice EA el EC] 25)).heap.size (w.alloc (.cells #[.int .i64 9, .string s, .int .i64 n, .slice EA el EC] 25)) w3) := below_next M2.out hb; clear hb M'; obtain ⟨c30, c31, c32, c33⟩ := box_all M3.out)
    | (go_at_call 7; have M' := M1; refine Ans.go (WN.out _ M1.out) ?_; intro w2 hb; have M2 : Hid (Below (w.alloc (.cells #[.int .i64 9, .string s, .int .i64 n, .slice EA el EC] 25)).heap.size (w.alloc (.cells #[.int .i64 9, .string s, .int .i64 n, .slice EA el EC] 25)) w2) := below_next M1.out hb; clear hb M'; obtain ⟨c20, c21, c22, c23⟩ := box_all M2.out)
    | (go_at_call 6; refine Ans.go (FW.out _ (Below.refl _ _)) ?_; intro w1 hb; have M1 : Hid (Below (w.alloc (.cells #[.int .i64 9, .string s, .int .i64 n, .slice EA el EC] 25)).heap.size (w.alloc (.cells #[.int .i64 9, .string s, .int .i64 n, .slice EA el EC] 25)) w1) := hb; clear hb))
  go_ret
  exact ⟨rfl, below_next H0.out M8.out⟩

set_option maxRecDepth 100000 in
set_option maxHeartbeats 4000000 in
theorem add_enum3 (s : ByteArray) (n : Int) (EA : Option Addr) (el EC l C : Nat) (A : Option Addr) (y : Int) (m : Nat) (hm1 : 1 ≤ m) (hm8 : m ≤ 8) (hm : 1 + y % 8 = (m : Int)) (j : Nat) (w : World) (a p : Nat) (hp : (m : Int) * (a : Int) = (p : Int)) (hp0 : p ≤ 1024) (hp1 : ¬ p ≤ 128) (hj : j < l) (b o : Nat) (hA : A = some ⟨b, o, none⟩)
    (CI : Hid (∀ w', Below (w.alloc (.cells #[.int .i64 9, .string s, .int .i64 n, .slice EA el EC] 25)).heap.size (w.alloc (.cells #[.int .i64 9, .string s, .int .i64 n, .slice EA el EC] 25)) w' → w'.cell? ⟨b, o + j * 20, none⟩ = some (.int .i64 3) ∧ b < w'.heap.size))
    (FW : Hid (∀ w', Below (w.alloc (.cells #[.int .i64 9, .string s, .int .i64 n, .slice EA el EC] 25)).heap.size (w.alloc (.cells #[.int .i64 9, .string s, .int .i64 n, .slice EA el EC] 25)) w' → Ans 6 #[.slice A l C] (.bool true) w'))
    (WN : Hid (∀ w', Below (w.alloc (.cells #[.int .i64 9, .string s, .int .i64 n, .slice EA el EC] 25)).heap.size (w.alloc (.cells #[.int .i64 9, .string s, .int .i64 n, .slice EA el EC] 25)) w' → Ans 7 #[.slice none 0 0, .agg #[.int .i64 2, .string ⟨#[]⟩, .int .i64 0, .slice none 0 0]] (.tuple #[.int .i64 1, .bool true]) w'))
    (WT : Hid (∀ w', Below (w.alloc (.cells #[.int .i64 9, .string s, .int .i64 n, .slice EA el EC] 25)).heap.size (w.alloc (.cells #[.int .i64 9, .string s, .int .i64 n, .slice EA el EC] 25)) w' → Ans 7 #[.slice A l C, .agg #[.int .i64 9, .string s, .int .i64 n, .slice EA el EC]] (.tuple #[.int .i64 (a : Int), .bool true]) w'))
    (WA : Hid (∀ w', Below (w.alloc (.cells #[.int .i64 9, .string s, .int .i64 n, .slice EA el EC] 25)).heap.size (w.alloc (.cells #[.int .i64 9, .string s, .int .i64 n, .slice EA el EC] 25)) w' → Ans 7 #[.slice A l C, .agg #[.int .i64 10, .string ⟨#[]⟩, .int .i64 (m : Int), .slice (some ⟨w'.heap.size, 0, none⟩) 1 1]] (.tuple #[.int .i64 0, .bool false]) (w'.alloc (.cells #[.int .i64 9, .string s, .int .i64 n, .slice EA el EC] 25))))
    (WB : Hid (∀ w', Below (w.alloc (.cells #[.int .i64 9, .string s, .int .i64 n, .slice EA el EC] 25)).heap.size (w.alloc (.cells #[.int .i64 9, .string s, .int .i64 n, .slice EA el EC] 25)) w' → Ans 7 #[.slice A l C, .agg #[.int .i64 11, .string ⟨#[]⟩, .int .i64 0, .slice (some ⟨w'.heap.size, 0, none⟩) 1 1]] (.tuple #[.int .i64 1, .bool true]) (w'.alloc (.cells #[.int .i64 9, .string s, .int .i64 n, .slice EA el EC] 25))))
    (CB : Hid (∀ w', Below (w.alloc (.cells #[.int .i64 9, .string s, .int .i64 n, .slice EA el EC] 25)).heap.size (w.alloc (.cells #[.int .i64 9, .string s, .int .i64 n, .slice EA el EC] 25)) w' → Ans 9 #[.slice A l C, .agg #[.int .i64 11, .string ⟨#[]⟩, .int .i64 0, .slice (some ⟨w'.heap.size, 0, none⟩) 1 1]] (.bool false) (w'.alloc (.cells #[.int .i64 9, .string s, .int .i64 n, .slice EA el EC] 25))))
    (IT : Hid (∀ w', Below (w.alloc (.cells #[.int .i64 9, .string s, .int .i64 n, .slice EA el EC] 25)).heap.size (w.alloc (.cells #[.int .i64 9, .string s, .int .i64 n, .slice EA el EC] 25)) w' → Ans 10 #[.slice A l C, .string s] (.int .i64 j) w')) :
    Ans 3 #[.slice A l C, .agg #[.int .i64 9, .string s, .int .i64 n, .slice EA el EC], .int .i64 y] (.bool true) w := by
  unfold Ans
  have H0 : Hid (Below w.heap.size w (w.alloc (.cells #[.int .i64 9, .string s, .int .i64 n, .slice EA el EC] 25))) := below_alloc _ _
  have h7 := and7 y
  have hp2 : ¬ (p : Int) ≤ 128 := by omega
  subst hA
  have hjI : (j : Int) < (l : Int) := by omega
  go_enter Tryd.func3, Tryd.ntmps3
  go_wp2_with (first
    | (go_at_call 10; refine Ans.go (IT.out _ M7.out) ?_; intro w8 hb; have M8 : Hid (Below (w.alloc (.cells #[.int .i64 9, .string s, .int .i64 n, .slice EA el EC] 25)).heap.size (w.alloc (.cells #[.int .i64 9, .string s, .int .i64 n, .slice EA el EC] 25)) w8) := below_next M7.out hb; clear hb; obtain ⟨c80, c81, c82, c83⟩ := box_all M8.out; obtain ⟨i0, i1⟩ := CI.out _ M8.out)
    | (go_at_call 9; refine Ans.go (CB.out _ M6.out) ?_; intro w7 hb; have M7 : Hid (Below (w.alloc (.cells #[.int .i64 9, .string s, .int .i64 n, .slice EA el EC] 25)).heap.size (w.alloc (.cells #[.int .i64 9, .string s, .int .i64 n, .slice EA el EC] 25)) w7) := below_next M6.out (below_next (below_alloc _ _) hb); clear hb; obtain ⟨c70, c71, c72, c73⟩ := box_all M7.out)
    | (go_at_call 7; have M' := M4; refine Ans.go (WB.out _ M4.out) ?_; intro w6 hb; have M6 : Hid (Below (w.alloc (.cells #[.int .i64 9, .string s, .int .i64 n, .slice EA el EC] 25)).heap.size (w.alloc (.cells #[.int .i64 9, .string s, .int .i64 n, .slice EA el EC] 25)) w6) := below_next M4.out (below_next (below_alloc _ _) hb); clear hb M'; obtain ⟨c60, c61, c62, c63⟩ := box_all M6.out)
    | (go_at_call 7; have M' := M3; refine Ans.go (WA.out _ M3.out) ?_; intro w4 hb; have M4 : Hid (Below (w.alloc (.cells #[.int .i64 9, .string s, .int .i64 n, .slice EA el EC] 25)).heap.size (w.alloc (.cells #[.int .i64 9, .string s, .int .i64 n, .slice EA el EC] 25)) w4) := below_next M3.out (below_next (below_alloc _ _) hb); clear hb M'; obtain ⟨c40, c41, c42, c43⟩ := box_all M4.out)
    | (go_at_call 7; have M' := M2; refine Ans.go (WT.out _ M2.out) ?_; intro w3 hb; have M3 : Hid (Below (w.alloc (.cells #[.int .i64 9, .string s, .int .i64 n, .slice EA el EC] 25)).heap.size (w.alloc (.cells #[.int .i64 9, .string s, .int .i64 n, .slice EA el EC] 25)) w3) := below_next M2.out hb; clear hb M'; obtain ⟨c30, c31, c32, c33⟩ := box_all M3.out)
    | (go_at_call 7; have M' := M1; refine Ans.go (WN.out _ M1.out) ?_; intro w2 hb; have M2 : Hid (Below (w.alloc (.cells #[.int .i64 9, .string s, .int .i64 n, .slice EA el EC] 25)).heap.size (w.alloc (.cells #[.int .i64 9, .string s, .int .i64 n, .slice EA el EC] 25)) w2) := below_next M1.out hb; clear hb M'; obtain ⟨c20, c21, c22, c23⟩ := box_all M2.out)
    | (go_at_call 6; refine Ans.go (FW.out _ (Below.refl _ _)) ?_; intro w1 hb; have M1 : Hid (Below (w.alloc (.cells #[.int .i64 9, .string s, .int .i64 n, .slice EA el EC] 25)).heap.size (w.alloc (.cells #[.int .i64 9, .string s, .int .i64 n, .slice EA el EC] 25)) w1) := hb; clear hb))
  go_ret
  exact ⟨rfl, below_next H0.out M8.out⟩

end Go.Proofs.YtdekgebpbopfpaaDoor
