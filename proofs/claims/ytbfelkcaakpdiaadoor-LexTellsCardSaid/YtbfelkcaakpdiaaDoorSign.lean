/-
  Proved: which sign lex.signLength finds at the beginning of any bytes, in every world in which the table lex.signs holds what the program's text lays there.
-/
import Derived.Test.YtbfelkcaakpdiaaDoorBlanks
import Derived.Lib.ConvBytes
import Derived.Laws.Rows
namespace Go.Proofs.YtbfelkcaakpdiaaDoor
open Go.RowKit

def signsC : Array Value := (signsL.map fun s => Value.string (ofL s)).toArray

/-- The table of signs lies in block 0. -/
def Tab (w : World) : Prop := ∃ t fr, w.heap[0]? = some (.cells signsC t fr)

theorem Tab.lt {w : World} (h : Tab w) : 0 < w.heap.size := by
  obtain ⟨t, fr, h⟩ := h
  exact (Array.getElem?_eq_some_iff.1 h).1

theorem Tab.below {w w' : World} (h : Tab w) (k : Below w.heap.size w w') : Tab w' := by
  have hz := h.lt
  obtain ⟨t, fr, h⟩ := h
  exact ⟨t, fr, (k.block 0 hz).trans h⟩

/-- The world behind '[]byte(s)'. -/
def bw (w : World) (l : Bs) : World := Lib.bytesWorld w 5 (ofL l)
def bcap (w : World) (l : Bs) : Nat := grownCap w (ofL l).size 0 5

theorem conv_str (w : World) (l : Bs) : (convert 9 39 (.string (ofL l))).run Tryd.prog w = .ok (.slice (some ⟨w.heap.size, 0, none⟩) l.length (bcap w l)) (bw w l) := by
  rw [Lib.run_convert_string_bytes w 9 39 5 (ofL l) Tryd.underlying9 Tryd.underlying39 Tryd.underlying5, ofL_size]
  simp only [bcap, bw, ofL_size]

theorem bcap_ge (w : World) (l : Bs) : l.length ≤ bcap w l := by
  have := grownCap_ge w (ofL l).size 0 5
  rw [ofL_size] at this
  simpa [bcap, ofL_size] using this

theorem bw_below (w : World) (l : Bs) : Below w.heap.size w (bw w l) :=
  ⟨rfl, rfl, rfl, by rw [bw, Lib.bytesWorld_size]; omega, fun k hk => Lib.bytesWorld_at_old w 5 (ofL l) k hk⟩

theorem bw_BA (w : World) (l : Bs) : BA (bw w l) w.heap.size 0 l :=
  ⟨by rw [bw, Lib.bytesWorld_size]; omega, fun i hi => by
    rw [bw, Nat.zero_add, Lib.bytesWorld_cell w 5 (ofL l) i (by rw [ofL_size]; exact hi)]
    simp [ofL, hi]⟩

theorem si0 (w : World) : (Instr.index 64 (.agg signsC) (.int .i64 ((0 : Nat) : Int))).run Tryd.prog w = .ok (.string (ofL (signsL.getD 0 []))) w := by kernel_rfl
theorem si1 (w : World) : (Instr.index 64 (.agg signsC) (.int .i64 ((1 : Nat) : Int))).run Tryd.prog w = .ok (.string (ofL (signsL.getD 1 []))) w := by kernel_rfl
theorem si2 (w : World) : (Instr.index 64 (.agg signsC) (.int .i64 ((2 : Nat) : Int))).run Tryd.prog w = .ok (.string (ofL (signsL.getD 2 []))) w := by kernel_rfl
theorem si3 (w : World) : (Instr.index 64 (.agg signsC) (.int .i64 ((3 : Nat) : Int))).run Tryd.prog w = .ok (.string (ofL (signsL.getD 3 []))) w := by kernel_rfl
theorem si4 (w : World) : (Instr.index 64 (.agg signsC) (.int .i64 ((4 : Nat) : Int))).run Tryd.prog w = .ok (.string (ofL (signsL.getD 4 []))) w := by kernel_rfl
theorem si5 (w : World) : (Instr.index 64 (.agg signsC) (.int .i64 ((5 : Nat) : Int))).run Tryd.prog w = .ok (.string (ofL (signsL.getD 5 []))) w := by kernel_rfl
theorem si6 (w : World) : (Instr.index 64 (.agg signsC) (.int .i64 ((6 : Nat) : Int))).run Tryd.prog w = .ok (.string (ofL (signsL.getD 6 []))) w := by kernel_rfl
theorem si7 (w : World) : (Instr.index 64 (.agg signsC) (.int .i64 ((7 : Nat) : Int))).run Tryd.prog w = .ok (.string (ofL (signsL.getD 7 []))) w := by kernel_rfl
theorem si8 (w : World) : (Instr.index 64 (.agg signsC) (.int .i64 ((8 : Nat) : Int))).run Tryd.prog w = .ok (.string (ofL (signsL.getD 8 []))) w := by kernel_rfl
theorem si9 (w : World) : (Instr.index 64 (.agg signsC) (.int .i64 ((9 : Nat) : Int))).run Tryd.prog w = .ok (.string (ofL (signsL.getD 9 []))) w := by kernel_rfl
theorem si10 (w : World) : (Instr.index 64 (.agg signsC) (.int .i64 ((10 : Nat) : Int))).run Tryd.prog w = .ok (.string (ofL (signsL.getD 10 []))) w := by kernel_rfl
theorem si11 (w : World) : (Instr.index 64 (.agg signsC) (.int .i64 ((11 : Nat) : Int))).run Tryd.prog w = .ok (.string (ofL (signsL.getD 11 []))) w := by kernel_rfl
theorem si12 (w : World) : (Instr.index 64 (.agg signsC) (.int .i64 ((12 : Nat) : Int))).run Tryd.prog w = .ok (.string (ofL (signsL.getD 12 []))) w := by kernel_rfl
theorem si13 (w : World) : (Instr.index 64 (.agg signsC) (.int .i64 ((13 : Nat) : Int))).run Tryd.prog w = .ok (.string (ofL (signsL.getD 13 []))) w := by kernel_rfl
theorem si14 (w : World) : (Instr.index 64 (.agg signsC) (.int .i64 ((14 : Nat) : Int))).run Tryd.prog w = .ok (.string (ofL (signsL.getD 14 []))) w := by kernel_rfl
theorem si15 (w : World) : (Instr.index 64 (.agg signsC) (.int .i64 ((15 : Nat) : Int))).run Tryd.prog w = .ok (.string (ofL (signsL.getD 15 []))) w := by kernel_rfl
theorem si16 (w : World) : (Instr.index 64 (.agg signsC) (.int .i64 ((16 : Nat) : Int))).run Tryd.prog w = .ok (.string (ofL (signsL.getD 16 []))) w := by kernel_rfl
theorem si17 (w : World) : (Instr.index 64 (.agg signsC) (.int .i64 ((17 : Nat) : Int))).run Tryd.prog w = .ok (.string (ofL (signsL.getD 17 []))) w := by kernel_rfl
theorem si18 (w : World) : (Instr.index 64 (.agg signsC) (.int .i64 ((18 : Nat) : Int))).run Tryd.prog w = .ok (.string (ofL (signsL.getD 18 []))) w := by kernel_rfl
theorem si19 (w : World) : (Instr.index 64 (.agg signsC) (.int .i64 ((19 : Nat) : Int))).run Tryd.prog w = .ok (.string (ofL (signsL.getD 19 []))) w := by kernel_rfl
theorem si20 (w : World) : (Instr.index 64 (.agg signsC) (.int .i64 ((20 : Nat) : Int))).run Tryd.prog w = .ok (.string (ofL (signsL.getD 20 []))) w := by kernel_rfl
theorem si21 (w : World) : (Instr.index 64 (.agg signsC) (.int .i64 ((21 : Nat) : Int))).run Tryd.prog w = .ok (.string (ofL (signsL.getD 21 []))) w := by kernel_rfl
theorem si22 (w : World) : (Instr.index 64 (.agg signsC) (.int .i64 ((22 : Nat) : Int))).run Tryd.prog w = .ok (.string (ofL (signsL.getD 22 []))) w := by kernel_rfl
theorem si23 (w : World) : (Instr.index 64 (.agg signsC) (.int .i64 ((23 : Nat) : Int))).run Tryd.prog w = .ok (.string (ofL (signsL.getD 23 []))) w := by kernel_rfl
theorem si24 (w : World) : (Instr.index 64 (.agg signsC) (.int .i64 ((24 : Nat) : Int))).run Tryd.prog w = .ok (.string (ofL (signsL.getD 24 []))) w := by kernel_rfl
theorem si25 (w : World) : (Instr.index 64 (.agg signsC) (.int .i64 ((25 : Nat) : Int))).run Tryd.prog w = .ok (.string (ofL (signsL.getD 25 []))) w := by kernel_rfl
theorem si26 (w : World) : (Instr.index 64 (.agg signsC) (.int .i64 ((26 : Nat) : Int))).run Tryd.prog w = .ok (.string (ofL (signsL.getD 26 []))) w := by kernel_rfl
theorem si27 (w : World) : (Instr.index 64 (.agg signsC) (.int .i64 ((27 : Nat) : Int))).run Tryd.prog w = .ok (.string (ofL (signsL.getD 27 []))) w := by kernel_rfl
theorem si28 (w : World) : (Instr.index 64 (.agg signsC) (.int .i64 ((28 : Nat) : Int))).run Tryd.prog w = .ok (.string (ofL (signsL.getD 28 []))) w := by kernel_rfl
theorem si29 (w : World) : (Instr.index 64 (.agg signsC) (.int .i64 ((29 : Nat) : Int))).run Tryd.prog w = .ok (.string (ofL (signsL.getD 29 []))) w := by kernel_rfl
theorem si30 (w : World) : (Instr.index 64 (.agg signsC) (.int .i64 ((30 : Nat) : Int))).run Tryd.prog w = .ok (.string (ofL (signsL.getD 30 []))) w := by kernel_rfl
theorem si31 (w : World) : (Instr.index 64 (.agg signsC) (.int .i64 ((31 : Nat) : Int))).run Tryd.prog w = .ok (.string (ofL (signsL.getD 31 []))) w := by kernel_rfl
theorem si32 (w : World) : (Instr.index 64 (.agg signsC) (.int .i64 ((32 : Nat) : Int))).run Tryd.prog w = .ok (.string (ofL (signsL.getD 32 []))) w := by kernel_rfl

theorem sign_index (k : Nat) (hk : k < 33) (w : World) : (Instr.index 64 (.agg signsC) (.int .i64 (k : Int))).run Tryd.prog w = .ok (.string (ofL (signsL.getD k []))) w := by
  have h : k = 0 ∨ k = 1 ∨ k = 2 ∨ k = 3 ∨ k = 4 ∨ k = 5 ∨ k = 6 ∨ k = 7 ∨ k = 8 ∨ k = 9 ∨ k = 10 ∨ k = 11 ∨ k = 12 ∨ k = 13 ∨ k = 14 ∨ k = 15 ∨ k = 16 ∨ k = 17 ∨ k = 18 ∨ k = 19 ∨ k = 20 ∨ k = 21 ∨ k = 22 ∨ k = 23 ∨ k = 24 ∨ k = 25 ∨ k = 26 ∨ k = 27 ∨ k = 28 ∨ k = 29 ∨ k = 30 ∨ k = 31 ∨ k = 32 := by omega
  rcases h with rfl | rfl | rfl | rfl | rfl | rfl | rfl | rfl | rfl | rfl | rfl | rfl | rfl | rfl | rfl | rfl | rfl | rfl | rfl | rfl | rfl | rfl | rfl | rfl | rfl | rfl | rfl | rfl | rfl | rfl | rfl | rfl | rfl
  · exact si0 w
  · exact si1 w
  · exact si2 w
  · exact si3 w
  · exact si4 w
  · exact si5 w
  · exact si6 w
  · exact si7 w
  · exact si8 w
  · exact si9 w
  · exact si10 w
  · exact si11 w
  · exact si12 w
  · exact si13 w
  · exact si14 w
  · exact si15 w
  · exact si16 w
  · exact si17 w
  · exact si18 w
  · exact si19 w
  · exact si20 w
  · exact si21 w
  · exact si22 w
  · exact si23 w
  · exact si24 w
  · exact si25 w
  · exact si26 w
  · exact si27 w
  · exact si28 w
  · exact si29 w
  · exact si30 w
  · exact si31 w
  · exact si32 w

theorem sign_step (l : Bs) (k : Nat) (hk : k < 33) : signFrom l (signsL.drop k) = if (signsL.getD k []).isPrefixOf l then (signsL.getD k []).length else signFrom l (signsL.drop (k + 1)) := by
  have h : k < signsL.length := hk
  rw [List.drop_eq_getElem_cons h, List.getD_eq_getElem?_getD, List.getElem?_eq_getElem h]
  rfl

set_option maxHeartbeats 1000000 in
theorem signLength_c (b o cap n : Nat) (l : Bs) (w : World) (hb : BA w b o l) (ht : Tab w) (hcap : l.length ≤ cap) (hn : l.length = n) :
    Calls Tryd.prog 38 #[.slice (some ⟨b, o, none⟩) n cap] w fun e w' => e = .returned (.int .i64 (signLen l : Int)) ∧ Below w.heap.size w w' := by
  have B : Hid (BA w b o l) := hb
  have T : Hid (Tab w) := ht
  obtain ⟨tt, fr, hg⟩ := ht
  clear hb
  generalize hR : signLen l = R
  go_enter Tryd.func38, Tryd.ntmps38
  go_wp2_with (refine wpList_load_row rfl 64 _ rfl 0 rfl tt _ fr _ hg Tryd.underlying64 rfl (by kernel_rfl) ?_)
  clear hg
  go_loopw [6] (fun i wr => ∃ k : Nat, k ≤ 33 ∧ i = .int .i64 (k : Int) ∧ signFrom l (signsL.drop k) = R ∧ Below w.heap.size w wr) (fun i _ => 33 - (intOf i).toNat)
  case atStart => exact ⟨0, by omega, rfl, hR, Below.refl _ _⟩
  case round =>
    obtain ⟨k, hk, rfl, hr, hw⟩ := hrel
    have W : Hid (Below w.heap.size w wr) := hw
    have B' : Hid (BA wr b o l) := B.out.below hw
    have HR : Hid (signFrom l (signsL.drop k) = R) := hr
    have HS : Hid (k < 33 → signFrom l (signsL.drop k) = if (signsL.getD k []).isPrefixOf l then (signsL.getD k []).length else signFrom l (signsL.drop (k + 1))) := sign_step l k
    have hx : (k : Int) < 33 → ∀ w, (Instr.index 64 (.agg signsC) (.int .i64 (k : Int))).run Tryd.prog w = .ok (.string (ofL (signsL.getD k []))) w := fun h w => sign_index k (by omega) w
    generalize signsL.getD k [] = s at HS hx
    have hz := ofL_size s
    have kc := conv_str
    clear hr hR hw
    go_wp2_with (first
      | (go_at_call 42; refine (hasPrefix_n b o _ _ 0 _ _ _ l s _ (B'.out.below (bw_below _ _)) (bw_BA _ _) hcap hn rfl).mono ?_; rintro e w' ⟨rfl, he⟩; subst he)
      | go_in)
    · have hk' : (k : Int) < 33 := by assumption
      have hp : s.isPrefixOf l = true := by assumption
      have h1 := HR.out
      rw [HS.out (by omega), if_pos hp] at h1
      subst h1
      go_ret
      exact ⟨rfl, below_next W.out (bw_below _ _)⟩
    · have hk' : (k : Int) < 33 := by assumption
      have hp : s.isPrefixOf l = false := by assumption
      go_roundw
      case rel =>
        refine ⟨k + 1, by omega, by go_num, ?_, below_next W.out (bw_below _ _)⟩
        have h1 := HR.out
        rw [HS.out (by omega), hp] at h1
        simpa using h1
      case measure => simp [intOf]; omega
    · have hk' : 33 ≤ (k : Int) := by assumption
      have h1 := HR.out
      have h2 : k = 33 := by omega
      subst h2
      have h3 : R = 0 := h1.symm
      subst h3
      go_ret
      exact ⟨rfl, W.out⟩
end Go.Proofs.YtbfelkcaakpdiaaDoor
