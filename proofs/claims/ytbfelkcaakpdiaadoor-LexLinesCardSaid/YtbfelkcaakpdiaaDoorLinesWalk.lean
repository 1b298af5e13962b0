/-
  Proved: what the law LexLines answers for two texts: where they are long together, where one of them does not lex, and where both do.
-/
import Derived.Test.YtbfelkcaakpdiaaDoorMany
import Derived.Test.YtbfelkcaakpdiaaDoorOne
import Derived.Test.YtbfelkcaakpdiaaDoorLines
import Derived.Laws.StructEq
namespace Go.Proofs.YtbfelkcaakpdiaaDoor
open Go.RowKit
theorem ag3 (w : World) : (isAgg 3).run Tryd.prog w = .ok false w := by kernel_rfl
theorem ag9 (w : World) : (isAgg 9).run Tryd.prog w = .ok false w := by kernel_rfl
theorem neq_same (kd q : Int) (s : ByteArray) (w : World) : (binOp .neq 37 (.agg #[.int .i64 kd, .string s, .int .i64 q]) (.agg #[.int .i64 kd, .string s, .int .i64 q])).run Tryd.prog w = .ok (.bool false) w := by
  have h3 := Tryd.underlying3
  have h9 := Tryd.underlying9
  have a3 := ag3
  have a9 := ag9
  rw [run_neq_struct, run_equalIn_struct w 9999 37 _ _ (by kernel_rfl) (by kernel_rfl)]
  simp [Program.fieldsOf, Tryd.underlying37, go_sem, h3, h9, a3, a9, part, Result.andThen]

theorem guard37 (x y : Operand) (xs ys : Array Value) (w : World) : (eqGuard .neq 37 x y (.agg xs) (.agg ys)).run Tryd.prog w = .ok () w := run_eqGuard_agg w .neq 37 x y xs ys (by kernel_rfl)

theorem lit10 (a : Bs) : ofL a ++ ({ data := #[10] } : ByteArray) = ofL (a ++ [10]) := ofL_app a [10]
theorem lit10b (a b : Bs) : ofL (a ++ [10]) ++ ofL b = ofL (a ++ 10 :: b) := by rw [ofL_app, List.append_assoc]; rfl

set_option maxHeartbeats 1000000 in
set_option maxRecDepth 20000 in
theorem lines_big (a b : Bs) (ha : a.length < 140737488355328) (hb : b.length < 140737488355328) (h : 20000 < a.length + b.length) (w : World) :
    Calls Tryd.prog 5 #[.string (ofL a), .string (ofL b)] w fun e w' => e = .returned (.bool true) ∧ w' = w := by
  have za := ofL_size a
  have zb := ofL_size b
  have h1 : 20000 < (a.length : Int) + (b.length : Int) := by omega
  go_enter Tryd.func5, Tryd.ntmps5
  go_wp2
  go_ret
  exact ⟨rfl, rfl⟩

set_option maxHeartbeats 1000000 in
set_option maxRecDepth 20000 in
theorem lines_err1 (a b : Bs) (pa ea pb eb : Nat) (tb : List Tok) (h : a.length + b.length ≤ 20000) (XA : Hid (lex a = ([], pa, ea))) (XB : Hid (lex b = (tb, pb, eb))) (he : ea ≠ 0) (w : World) (t : Tab w) :
    Calls Tryd.prog 5 #[.string (ofL a), .string (ofL b)] w fun e w' => e = .returned (.bool true) ∧ Below w.heap.size w w' := by
  have T : Hid (Tab w) := t
  have XC : Hid (lex (a ++ 10 :: b) = ([], pa, ea)) := join_err1 h XA.out he
  have za := ofL_size a
  have zb := ofL_size b
  have z1 : ({ data := #[10] } : ByteArray).size = 1 := rfl
  have z2 : (ofL (a ++ [10])).size = a.length + 1 := by rw [ofL_size]; simp
  have l1 := lit10 a
  have l2 := lit10b a b
  have e1 : ¬ (ea : Int) = 0 := by omega
  have e2 : ((ea : Int) == 0) = false := by simpa using e1
  have h1 : ¬ 20000 < (a.length : Int) + (b.length : Int) := by omega
  clear t
  go_enter Tryd.func5, Tryd.ntmps5
  go_wp2_with (first
      | (go_at_call 8; have M' := M2; refine (lex_many XC.out ?_ _ (T.out.below M2.out)).mono ?_; (focus (simp; omega)); rintro r w3 ⟨⟨a3, c3, rfl, h3⟩, hb3⟩; have M3 : Hid (Below w.heap.size w w3) := below_next M'.out hb3; clear hb3 h3)
      | (go_at_call 8; have M' := M1; refine (lex_many XB.out ?_ _ (T.out.below M1.out)).mono ?_; (focus omega); rintro r w2 ⟨⟨a2, c2, rfl, h2⟩, hb2⟩; have M2 : Hid (Below w.heap.size w w2) := below_next M'.out hb2; clear hb2 h2)
      | (go_at_call 8; refine (lex_many XA.out ?_ _ T.out).mono ?_; (focus omega); rintro r w1 ⟨⟨a1, c1, rfl, h1'⟩, hb1⟩; have M1 : Hid (Below w.heap.size w w1) := hb1; clear hb1 h1'))
  go_ret
  exact ⟨rfl, M3.out⟩
set_option maxHeartbeats 1000000 in
set_option maxRecDepth 20000 in
theorem lines_err2 (a b : Bs) (pb eb : Nat) (ta : List Tok) (h : a.length + b.length ≤ 20000) (XA : Hid (lex a = (ta, 0, 0))) (XB : Hid (lex b = ([], pb, eb))) (he : eb ≠ 0) (hpb : pb < b.length) (w : World) (t : Tab w) :
    Calls Tryd.prog 5 #[.string (ofL a), .string (ofL b)] w fun e w' => e = .returned (.bool true) ∧ Below w.heap.size w w' := by
  have T : Hid (Tab w) := t
  have XC : Hid (lex (a ++ 10 :: b) = ([], a.length + 1 + pb, eb)) := join_err2 h XA.out XB.out he
  have za := ofL_size a
  have zb := ofL_size b
  have z1 : ({ data := #[10] } : ByteArray).size = 1 := rfl
  have z2 : (ofL (a ++ [10])).size = a.length + 1 := by rw [ofL_size]; simp
  have l1 := lit10 a
  have l2 := lit10b a b
  have e1 : ¬ (eb : Int) = 0 := by omega
  have e2 : ((eb : Int) == 0) = false := by simpa using e1
  have h1 : ¬ 20000 < (a.length : Int) + (b.length : Int) := by omega
  clear t
  go_enter Tryd.func5, Tryd.ntmps5
  go_wp2_with (first
      | (go_at_call 8; have M' := M2; refine (lex_many XC.out ?_ _ (T.out.below M2.out)).mono ?_; (focus (simp; omega)); rintro r w3 ⟨⟨a3, c3, rfl, h3⟩, hb3⟩; have M3 : Hid (Below w.heap.size w w3) := below_next M'.out hb3; clear hb3 h3)
      | (go_at_call 8; have M' := M1; refine (lex_many XB.out ?_ _ (T.out.below M1.out)).mono ?_; (focus omega); rintro r w2 ⟨⟨a2, c2, rfl, h2⟩, hb2⟩; have M2 : Hid (Below w.heap.size w w2) := below_next M'.out hb2; clear hb2 h2)
      | (go_at_call 8; refine (lex_many XA.out ?_ _ T.out).mono ?_; (focus omega); rintro r w1 ⟨⟨a1, c1, rfl, h1'⟩, hb1⟩; have M1 : Hid (Below w.heap.size w w1) := hb1; clear hb1 h1'))
  go_ret
  exact ⟨rfl, M3.out⟩

def xyL : Bs := [120, 10, 121]
theorem xyL_eq : ({ data := #[120, 10, 121] } : ByteArray) = ofL xyL := rfl
theorem xyL_lex : lex xyL = ([(1, [120], 0), (1, [121], 2)], 0, 0) := by kernel_rfl

set_option maxHeartbeats 2000000 in
set_option maxRecDepth 20000 in
theorem lines_ok (a b : Bs) (ta tb : List Tok) (h : a.length + b.length ≤ 20000) (hna : ta.length ≤ 65536) (hnb : tb.length ≤ 65536) (hqb : ∀ u ∈ tb, u.2.2 ≤ 65536) (XA : Hid (lex a = (ta, 0, 0))) (XB : Hid (lex b = (tb, 0, 0))) (w : World) (t : Tab w) :
    Calls Tryd.prog 5 #[.string (ofL a), .string (ofL b)] w fun e w' => e = .returned (.bool true) ∧ Below w.heap.size w w' := by
  have T : Hid (Tab w) := t
  have QB : Hid (∀ u ∈ tb, u.2.2 ≤ 65536) := hqb
  obtain ⟨tc, htc⟩ : ∃ tc, ta ++ tb.map (shiftT (a.length + 1)) = tc := ⟨_, rfl⟩
  have XC : Hid (lex (a ++ 10 :: b) = (tc, 0, 0)) := by rw [← htc]; exact join_ok h XA.out XB.out
  have HC : Hid (ta ++ tb.map (shiftT (a.length + 1)) = tc) := htc
  have hlc : tc.length = ta.length + tb.length := by rw [← htc]; simp
  have za := ofL_size a
  have zb := ofL_size b
  have z1 : ({ data := #[10] } : ByteArray).size = 1 := rfl
  have z2 : (ofL (a ++ [10])).size = a.length + 1 := by rw [ofL_size]; simp
  have l1 := lit10 a
  have l2 := lit10b a b
  have h1 : ¬ 20000 < (a.length : Int) + (b.length : Int) := by omega
  clear t htc hqb
  go_enter Tryd.func5, Tryd.ntmps5
  go_wp2_with (first
      | (go_at_call 8; have M' := M2; have R1' := R1; have R2' := R2; refine (lex_many XC.out ?_ _ (T.out.below M2.out)).mono ?_; (focus (simp; omega)); rintro r w3 ⟨⟨a3, c3, rfl, h3⟩, hb3⟩; rw [hlc] at h3 ⊢; have M3 : Hid (Below w.heap.size w w3) := below_next M'.out hb3; have S1 : Hid (0 < ta.length → ∃ g, a1 = some ⟨g, 0, none⟩ ∧ TR w3 g ta) := fun h => by { obtain ⟨g, e, t⟩ := R1'.out h; exact ⟨g, e, t.below hb3⟩ }; have S2 : Hid (0 < tb.length → ∃ g, a2 = some ⟨g, 0, none⟩ ∧ TR w3 g tb) := fun h => by { obtain ⟨g, e, t⟩ := R2'.out h; exact ⟨g, e, t.below hb3⟩ }; have S3 : Hid (0 < ta.length + tb.length → ∃ g, a3 = some ⟨g, 0, none⟩ ∧ TR w3 g tc) := h3; clear hb3 h3 R1' R2')
      | (go_at_call 8; have M' := M1; have R1' := R1; refine (lex_many XB.out ?_ _ (T.out.below M1.out)).mono ?_; (focus omega); rintro r w2 ⟨⟨a2, c2, rfl, h2⟩, hb2⟩; have M2 : Hid (Below w.heap.size w w2) := below_next M'.out hb2; have R1 : Hid (0 < ta.length → ∃ g, a1 = some ⟨g, 0, none⟩ ∧ TR w2 g ta) := fun h => by { obtain ⟨g, e, t⟩ := R1'.out h; exact ⟨g, e, t.below hb2⟩ }; have R2 : Hid (0 < tb.length → ∃ g, a2 = some ⟨g, 0, none⟩ ∧ TR w2 g tb) := h2; clear hb2 h2 R1')
      | (go_at_call 8; refine (lex_many XA.out ?_ _ T.out).mono ?_; (focus omega); rintro r w1 ⟨⟨a1, c1, rfl, h1'⟩, hb1⟩; have M1 : Hid (Below w.heap.size w w1) := hb1; have R1 : Hid (0 < ta.length → ∃ g, a1 = some ⟨g, 0, none⟩ ∧ TR w1 g ta) := h1'; clear hb1 h1'))
  clear l1 l2 z1 z2
  go_loopw [14] (fun y wr => ∃ i : Nat, y = .int .i64 (i : Int) ∧ i ≤ ta.length + tb.length ∧ Below w3.heap.size w3 wr) (fun y _ => ta.length + tb.length - (intOf y).toNat)
  case atStart => exact ⟨0, rfl, Nat.zero_le _, Below.refl _ _⟩
  case round =>
    obtain ⟨i, rfl, hi, hw⟩ := hrel
    have W : Hid (Below w3.heap.size w3 wr) := hw
    have WW : Hid (Below w.heap.size w wr) := below_next M3.out hw
    clear hw
    have hns := neq_same
    by_cases hlt : i < ta.length + tb.length
    · obtain ⟨g3, rfl, hT3⟩ := S3.out (by omega)
      have hT3' := hT3.below W.out
      by_cases hla : i < ta.length
      · obtain ⟨g1, rfl, hT1⟩ := S1.out (by omega)
        have hT1' := hT1.below W.out
        obtain ⟨⟨kd, x, q⟩, hq⟩ : ∃ u, ta[i]? = some u := ⟨ta[i], List.getElem?_eq_getElem hla⟩
        have hq3 : tc[i]? = some (kd, x, q) := by rw [← HC.out, List.getElem?_append_left hla, hq]
        obtain ⟨k0, k1, k2⟩ := hT1'.cell i _ hq
        obtain ⟨j0, j1, j2⟩ := hT3'.cell i _ hq3
        have hg1 := hT1'.lt
        have hg3 := hT3'.lt
        simp only at k0 k1 k2 j0 j1 j2
        clear hT1 hT1' hT3 hT3' hq hq3 S1 S2 S3
        go_wp2
        go_quiet (fail)
        go_wp2
        go_roundw
        case rel => exact ⟨i + 1, by go_num, by omega, below_drewN (below_next W.out (below_alloc _ _)) _⟩
        case measure => simp [intOf]; omega
      · obtain ⟨j, rfl⟩ : ∃ j, i = ta.length + j := ⟨i - ta.length, by omega⟩
        obtain ⟨g2, rfl, hT2⟩ := S2.out (by omega)
        have hT2' := hT2.below W.out
        have hjb : j < tb.length := by omega
        obtain ⟨⟨kd, x, q⟩, hq⟩ : ∃ u, tb[j]? = some u := ⟨tb[j], List.getElem?_eq_getElem hjb⟩
        have hqm : (kd, x, q) ∈ tb := List.mem_of_getElem? hq
        have hq16 := QB.out _ hqm
        have hq3 : tc[ta.length + j]? = some (kd, x, a.length + 1 + q) := by
          rw [← HC.out, List.getElem?_append_right (by omega), Nat.add_sub_cancel_left, List.getElem?_map, hq]
          rfl
        obtain ⟨k0, k1, k2⟩ := hT2'.cell j _ hq
        obtain ⟨j0, j1, j2⟩ := hT3'.cell (ta.length + j) _ hq3
        have hg2 := hT2'.lt
        have hg3 := hT3'.lt
        simp only at k0 k1 k2 j0 j1 j2 hq16
        have eq3 : ((a.length + 1 + q : Nat) : Int) = (q : Int) + (a.length : Int) + 1 := by omega
        rw [eq3] at j2
        have n1 : ¬ (ta.length : Int) + (j : Int) < (ta.length : Int) := by omega
        clear hT2 hT2' hT3 hT3' hq hq3 hqm S1 S2 S3 hla
        go_wp2
        go_quiet (fail)
        go_wp2
        go_roundw
        case rel => exact ⟨ta.length + j + 1, by go_num, by omega, below_drewN (below_next W.out (below_alloc _ _)) _⟩
        case measure => simp [intOf]; omega
    · have hxy := xyL_eq
      go_wp2_with (go_at_call 8; refine (lex_many xyL_lex (by decide) _ (T.out.below WW.out)).mono ?_; rintro r w5 ⟨⟨a5, c5, rfl, h5⟩, hb5⟩; have M5 : Hid (Below w.heap.size w w5) := below_next WW.out hb5; clear hb5 h5)
      go_ret
      exact ⟨rfl, M5.out⟩
end Go.Proofs.YtbfelkcaakpdiaaDoor
