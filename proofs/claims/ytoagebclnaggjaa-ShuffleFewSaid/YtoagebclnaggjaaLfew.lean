/-
  Proved: ShuffleFew answers true.
-/
import Derived.Test.YtoagebclnaggjaaScircles
set_option linter.unusedVariables false
namespace Go.Proofs.Ytoagebclnaggjaa
open Go.RowKit Go.Maps

theorem one_li (w : World) (m : Mv) : LI (w.alloc (.cells #[.int .i64 m.1, .int .i64 m.2] 28)) [m] (.slice (some ⟨w.heap.size, 0, none⟩) 1 1) := by
  have a : At (w.alloc (.cells #[.int .i64 m.1, .int .i64 m.2] 28)) w.heap.size #[.int .i64 m.1, .int .i64 m.2] 28 := At.new _ _ _
  refine ⟨_, _, rfl, fun i hi => ⟨_, _, rfl, a.lt, fun j v hj => ?_⟩⟩
  obtain rfl : i = 0 := by simp at hi; omega
  rw [a.cell]
  simpa [mC] using hj

theorem single_is : lineP [(1, 2)] 3 = some [(1, 2)] := by decide +kernel

theorem take_sp (l : List Mv) (k : Nat) (h : k < l.length) (x : Int) : (∃ m ∈ l.take (k + 1), m.1 = x) ↔ (∃ m ∈ l.take k, m.1 = x) ∨ l[k].1 = x := by
  rw [List.take_succ_eq_append_getElem h]
  constructor
  · rintro ⟨m, hm, e⟩
    rcases List.mem_append.1 hm with h1 | h1
    · exact Or.inl ⟨m, h1, e⟩
    · simp at h1
      subst h1
      exact Or.inr e
  · rintro (⟨m, hm, e⟩ | e)
    · exact ⟨m, List.mem_append_left _ hm, e⟩
    · exact ⟨l[k], List.mem_append_right _ (List.mem_singleton.2 rfl), e⟩

theorem few_no (l : List Mv) (lv : Value) (spare : Int) (w : World) (h : LI w l lv) (hf : ¬ l.length < 100) :
    Calls Try.prog 4 #[lv, .int .i64 spare] w fun e w' => e = .returned (.bool true) ∧ Below w.heap.size w w' := by
  have F := few_c l lv w h
  rw [decide_eq_false (by omega)] at F
  have FH : Hid (Calls Try.prog 7 #[lv] w fun e w' => e = .returned (.bool false) ∧ w' = w) := F
  clear F h hf
  go_enter Try.func4, Try.ntmps4
  go_wp2_with (go_at_call 7; refine FH.out.mono ?_; rintro e w3 ⟨rfl, hw⟩; rw [hw]; clear hw w3)
  go_ret
  exact ⟨rfl, Below.refl _ _⟩

theorem few_bad (l : List Mv) (lv : Value) (spare : Int) (w : World) (h : LI w l lv) (hf : l.length < 100) (hok : ¬ OKf l spare) :
    Calls Try.prog 4 #[lv, .int .i64 spare] w fun e w' => e = .returned (.bool true) ∧ Below w.heap.size w w' := by
  have F := few_c l lv w h
  rw [decide_eq_true (by omega)] at F
  have FH : Hid (Calls Try.prog 7 #[lv] w fun e w' => e = .returned (.bool true) ∧ w' = w) := F
  have C3 : Hid (Calls Try.prog 9 #[lv, .int .i64 spare] w fun e w' => e = .returned (.bool false) ∧ Below w.heap.size w w') := right_c l spare false ⟨fun h => Bool.noConfusion h, fun h => absurd h hok⟩ lv w h (by omega)
  clear F h hf hok
  go_enter Try.func4, Try.ntmps4
  go_wp2_with (first
    | (go_at_call 7; refine FH.out.mono ?_; rintro e w3 ⟨rfl, hw⟩; rw [hw]; clear hw w3)
    | (go_at_call 9; refine C3.out.mono ?_; rintro e w4 ⟨rfl, h4⟩; have M4 : Hid (Below w.heap.size w w4) := h4; clear h4))
  go_ret
  exact ⟨rfl, M4.out⟩

set_option maxRecDepth 20000 in
set_option maxHeartbeats 8000000 in
theorem few_good (l : List Mv) (lv : Value) (spare : Int) (w : World) (h : LI w l lv) (ha : Al l) (hs : In spare) (hf : l.length < 100) (hok : OKf l spare) :
    Calls Try.prog 4 #[lv, .int .i64 spare] w fun e w' => e = .returned (.bool true) ∧ Below w.heap.size w w' := by
  have F := few_c l lv w h
  rw [decide_eq_true (by omega)] at F
  have FH : Hid (Calls Try.prog 7 #[lv] w fun e w' => e = .returned (.bool true) ∧ w' = w) := F
  obtain ⟨out, P1, -, -⟩ := lineP_ok hok
  obtain ⟨P2, P3⟩ := lineP_few hok P1
  have PL : out.length ≤ 3000 := by have := lineP_len P1; omega
  have C2 : Hid (∀ w1 v, LI w1 l v → Calls Try.prog 8 #[v, .int .i64 spare] w1 fun e w' => ∃ u, e = .returned (.tuple #[u, .int .i64 0]) ∧ LI w' out u ∧ Below w1.heap.size w1 w') := fun w1 v h1 => line_c l out spare v w1 h1 ha hs (by omega) hok P1
  have C3 : Hid (Calls Try.prog 9 #[lv, .int .i64 spare] w fun e w' => e = .returned (.bool true) ∧ Below w.heap.size w w') := right_c l spare true ⟨fun _ => hok, fun _ => rfl⟩ lv w h (by omega)
  have C4 : Hid (∀ w1, Below w.heap.size w w1 → Calls Try.prog 11 #[lv] w1 fun e w' => e = .returned (.tuple #[.int .i64 (cnt l (mvs l) : Int), .int .i64 ((mvs l).length : Int)]) ∧ Below w1.heap.size w1 w') := fun w1 k => circles_c l hok.1 lv w1 (h.below k) (by omega)
  have C1 : Hid (∀ w1 : World, Calls Try.prog 8 #[.slice (some ⟨w1.heap.size, 0, none⟩) 1 1, .int .i64 3] (w1.alloc (.cells #[.int .i64 1, .int .i64 2] 28)) fun e w' => ∃ u, e = .returned (.tuple #[u, .int .i64 0]) ∧ LI w' [(1, 2)] u ∧ Below (w1.alloc (.cells #[.int .i64 1, .int .i64 2] 28)).heap.size (w1.alloc (.cells #[.int .i64 1, .int .i64 2] 28)) w') := fun w1 => line_c [(1, 2)] _ 3 _ _ (one_li w1 (1, 2)) (fun m hm => by simp at hm; subst hm; constructor <;> (unfold In; omega)) (by unfold In; omega) (by simp) ⟨by simp [ND], fun m hm => by simp at hm; subst hm; simp⟩ single_is
  have M8 : (mvs l).length ≤ l.length := List.length_filter_le _ _
  have M9 : cnt l (mvs l) ≤ (mvs l).length := List.countP_le_length
  have USE : Hid ((∃ m ∈ out, m.1 = spare) ↔ 0 < cnt l (mvs l)) := P3
  generalize cnt l (mvs l) = cN at *
  generalize (mvs l).length = mN at *
  have hle : (out.length : Int) ≤ (mN : Int) + (cN : Int) := by omega
  have HL : Hid (LI w l lv) := h
  obtain ⟨A, C, rfl, -⟩ := h
  have hl : Hid (l.length ≤ 1000) := (show l.length ≤ 1000 by omega)
  have hm1 : mN ≤ 100 := by omega
  have hc1 : cN ≤ 100 := by omega
  clear F ha hs hf hok P1 P2 P3 M8 M9
  go_enter Try.func4, Try.ntmps4
  go_wp2_with (first
    | (go_at_call 7; refine FH.out.mono ?_; rintro e w3 ⟨rfl, hw⟩; rw [hw]; clear hw w3)
    | (go_at_call 9; refine C3.out.mono ?_; rintro e w1 ⟨rfl, h4⟩; have M1 : Hid (Below w.heap.size w w1) := h4; clear h4)
    | (at_builtin; refine append_any _ rfl _ _ rfl _ rfl w1 l (own_zero w1) A C rfl (by obtain ⟨A9, C9, e9, r9⟩ := HL.out; injection e9 with e9 _ _; subst e9; exact (r9.below M1.out).below (below_alloc _ _)) hl.out ?_; intro v2 w2 h2 k2; have M2 : Hid (LI w2 l v2 ∧ Below w.heap.size w w2) := ⟨h2, M1.out.trans (k2.mono M1.out.size)⟩; clear h2 k2)
    | (go_at_call 8; refine (C2.out w2 v2 M2.out.1).mono ?_; rintro e w3 ⟨u3, rfl, h1, h2⟩; obtain ⟨A4, D4, rfl, h3⟩ := h1; have M3 : Hid (LI w3 out (.slice A4 out.length D4) ∧ Below w.heap.size w w3) := ⟨⟨A4, D4, rfl, h3⟩, M2.out.2.trans (h2.mono M2.out.2.size)⟩; clear h2 h3)
    | (go_at_call 11; refine (C4.out w3 M3.out.2).mono ?_; rintro e w4 ⟨rfl, h4⟩; have M4 : Hid (LI w4 out (.slice A4 out.length D4) ∧ Below w.heap.size w w4) := ⟨M3.out.1.below h4, M3.out.2.trans (h4.mono M3.out.2.size)⟩; clear h4))
  clear FH C2 C3 C4 M1 M2 M3 HL
  go_loopw [9, 10] (fun bv iv wr => ∃ (i : Nat) (s : Bool), i ≤ out.length ∧ bv = .bool s ∧ iv = .int .i64 (i : Int) ∧ (s = true ↔ ∃ m ∈ out.take i, m.1 = spare) ∧ LI wr out (.slice A4 out.length D4) ∧ Below w.heap.size w wr) (fun _ iv _ => out.length - (intOf iv).toNat)
  case atStart => exact ⟨0, false, by omega, rfl, rfl, by simp, M4.out.1, M4.out.2⟩
  case round =>
    clear M4
    obtain ⟨i, s, hi, rfl, rfl, hsp, hli, hbl⟩ := hrel
    have BW : Hid (Below w.heap.size w wr) := hbl
    have LW : Hid (LI wr out (.slice A4 out.length D4)) := hli
    rcases Nat.lt_or_ge i out.length with hlt | hge
    · have hiz : (i : Int) < out.length := by omega
      obtain ⟨b1, o1, rfl, hcs⟩ := li_cells hli i hlt
      have c1 := (hcs wr (Below.refl _ _) i hlt).1
      have T1 := take_sp out i hlt spare
      generalize out[i].1 = x at *
      clear hcs hli hbl
      cases s with
      | true =>
        have T2 : Hid (∃ m ∈ out.take (i + 1), m.1 = spare) := T1.2 (Or.inl (hsp.1 rfl))
        clear T1 hsp
        go_wp2
        go_roundw
        case rel => exact ⟨i + 1, true, by omega, rfl, by go_num, ⟨fun _ => T2.out, fun _ => rfl⟩, LW.out, BW.out⟩
        case measure => simp [intOf]; omega
      | false =>
        have hn : ¬ ∃ m ∈ out.take i, m.1 = spare := fun h => Bool.noConfusion (hsp.2 h)
        by_cases e : x = spare
        · have q : (x == spare) = true := by simpa using e
          have T2 : Hid (∃ m ∈ out.take (i + 1), m.1 = spare) := T1.2 (Or.inr e)
          clear T1 hsp hn e
          go_wp2
          go_roundw
          case rel => exact ⟨i + 1, true, by omega, rfl, by go_num, ⟨fun _ => T2.out, fun _ => rfl⟩, LW.out, BW.out⟩
          case measure => simp [intOf]; omega
        · have q : (x == spare) = false := by simpa using e
          have T2 : Hid (¬ ∃ m ∈ out.take (i + 1), m.1 = spare) := fun h => (T1.1 h).elim hn e
          clear T1 hsp hn e
          go_wp2
          go_roundw
          case rel => exact ⟨i + 1, false, by omega, rfl, by go_num, ⟨fun h => Bool.noConfusion h, fun h => absurd h T2.out⟩, LW.out, BW.out⟩
          case measure => simp [intOf]; omega
    · have hiz : ¬ (i : Int) < out.length := by omega
      rw [List.take_of_length_le hge] at hsp
      have hsc : s = true ↔ 0 < cN := hsp.trans USE.out
      clear hsp hli hbl USE
      cases s with
      | true =>
        have hcz : (0 : Int) < (cN : Int) := by have := hsc.1 rfl; omega
        clear hsc
        go_wp2_with (go_at_call 8; refine (C1.out wr).mono ?_; rintro e w5 ⟨u5, rfl, h1, h2⟩; obtain ⟨A5, D5, rfl, h3⟩ := h1; have M5 : Hid (Below w.heap.size w w5) := BW.out.trans ((below_next (below_alloc _ _) h2).mono BW.out.size); clear h2 h3)
        go_ret
        exact ⟨rfl, M5.out⟩
      | false =>
        have hcz : ¬ (0 : Int) < (cN : Int) := fun h => Bool.noConfusion (hsc.2 (by omega))
        clear hsc
        go_wp2_with (go_at_call 8; refine (C1.out wr).mono ?_; rintro e w5 ⟨u5, rfl, h1, h2⟩; obtain ⟨A5, D5, rfl, h3⟩ := h1; have M5 : Hid (Below w.heap.size w w5) := BW.out.trans ((below_next (below_alloc _ _) h2).mono BW.out.size); clear h2 h3)
        go_ret
        exact ⟨rfl, M5.out⟩

theorem shuffleFew_walk (l : List Mv) (lv : Value) (spare : Int) (w : World) (h0 : MsIn w l lv) (hs : In spare) : Calls Try.prog 4 #[lv, .int .i64 spare] w fun e w' => e = .returned (.bool true) ∧ Below w.heap.size w w' := by
  obtain ⟨h, ha⟩ := h0
  by_cases hf : l.length < 100
  · by_cases hok : OKf l spare
    · exact few_good l lv spare w h ha hs hf hok
    · exact few_bad l lv spare w h hf hok
  · exact few_no l lv spare w h hf
end Go.Proofs.Ytoagebclnaggjaa
