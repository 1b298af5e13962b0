/-
  Proved: the law LexWords answers true for every number and every byte: a word of the language by itself is a word, with a letter more a name (or another word), and Word says so.
  Conditions: the table lex.signs reads, when the call begins, as the program's own text lays it (the card ties it to that text, over the pruned copy of the project that the seat holds); nothing else beyond the given row's own.
-/
import Derived.Test.YtbfelkcaakpdiaaDoorOne
import Derived.Test.YtbfelkcaakpdiaaDoorLift
import Derived.Test.YtbfelkcaakpdiaaDoorTie
import Derived.Test.YtbfelkcaakpdiaaDoorCards
import Derived.SevenTiedAt
namespace Go.Proofs.YtbfelkcaakpdiaaDoor
open Go.ChangeShapes Go.WideShapes Go.ChangeAt Go.RowKit

theorem lt2 (w : World) (o1 o2 : Obj) : w.heap.size < ((w.alloc o1).alloc o2).heap.size := by simp; omega

theorem words_kept (w w1 : World) (o : Obj) (hb : Below ((w.alloc (.cells wordsC 9)).alloc o).heap.size ((w.alloc (.cells wordsC 9)).alloc o) w1) (i : Nat) (hi : i < 17) : w1.cell? ⟨w.heap.size, i, none⟩ = some (.string (ofL (wordsL.getD i []))) := by
  have h : w1.heap[w.heap.size]? = some (.cells wordsC 9) := by
    rw [hb.block _ (by simp; omega)]
    show ((w.heap.push _).push _)[w.heap.size]? = _
    rw [Array.getElem?_push, if_neg (by simp), Array.getElem?_push, if_pos rfl]
  rw [cell_in h, wordsC_at i hi]

theorem take_word (s : Bs) (k : Nat) (hk : k < 17) : (wordsL.take (k + 1)).contains s = ((wordsL.take k).contains s || (wordsL.getD k [] == s)) := by
  have h : k < wordsL.length := hk
  rw [← List.take_append_getElem h, List.getD_eq_getElem?_getD, List.getElem?_eq_getElem h]
  rw [Bool.eq_iff_iff]
  simp only [List.contains_iff_mem, List.mem_append, List.mem_singleton, Bool.or_eq_true, beq_iff_eq, Option.getD_some]
  exact or_congr Iff.rfl eq_comm

theorem wordsC_eq : (#[Value.string { data := #[102, 110] }, Value.string { data := #[115, 116, 114, 117, 99, 116] }, Value.string { data := #[101, 110, 117, 109] }, Value.string { data := #[99, 111, 110, 115, 116] }, Value.string { data := #[108, 101, 116] }, Value.string { data := #[109, 117, 116] }, Value.string { data := #[105, 102] }, Value.string { data := #[101, 108, 115, 101] }, Value.string { data := #[109, 97, 116, 99, 104] }, Value.string { data := #[119, 104, 105, 108, 101] }, Value.string { data := #[108, 111, 111, 112] }, Value.string { data := #[98, 114, 101, 97, 107] }, Value.string { data := #[99, 111, 110, 116, 105, 110, 117, 101] }, Value.string { data := #[114, 101, 116, 117, 114, 110] }, Value.string { data := #[116, 114, 117, 101] }, Value.string { data := #[102, 97, 108, 115, 101] }, Value.string { data := #[97, 115] }] : Array Value) = wordsC := rfl

set_option maxHeartbeats 1000000 in
set_option maxRecDepth 20000 in
theorem words_walk (a0 a1 : Int) (j i : Nat) (wd s2 : Bs) (c : UInt8) (hj : j < 17) (hi : i < 13) (ej : (wrap64 (a0.tmod 17 + 17)).tmod 17 = (j : Int)) (ei : (wrap64 a1).tmod 13 = (i : Int))
    (hwd : wordsL.getD j [] = wd) (hcd : lettersL.getD i 0 = c) (hs2 : wd ++ [c] = s2) (q : Bool) (kd : Nat) (hq : isWord s2 = q) (hk : (q = true ∧ kd = 3) ∨ (q = false ∧ kd = 1)) (L1 : Hid (lex wd = ([(3, wd, 0)], 0, 0))) (L2 : Hid (lex s2 = ([(kd, s2, 0)], 0, 0))) (I1 : Hid (isWord wd = true)) (M1 : Hid (wd.length < 20)) (N1 : Hid (s2.length < 20)) (w : World) (t : Tab w) :
    Calls Tryd.prog 6 #[.int .i64 a0, .int .u8 a1] w fun e w' => e = .returned (.bool true) ∧ Below w.heap.size w w' := by
  have T : Hid (Tab w) := t
  have Q : Hid (isWord s2 = q) := hq
  have hcw : (w.alloc (.cells wordsC 9)).cell? ⟨w.heap.size, j, none⟩ = some (.string (ofL wd)) := by
    rw [← hwd, ← wordsC_at j hj]
    have : (w.alloc (.cells wordsC 9)).cell? ⟨w.heap.size, j, none⟩ = wordsC[j]? := World.cell?_alloc_mark w wordsC 9 (0, 0) j
    exact this
  have hwc := wordsC_eq
  have hct : ∀ h : i < ({ data := #[97, 98, 99, 120, 121, 122, 65, 66, 67, 95, 48, 49, 57] } : ByteArray).size, ((({ data := #[97, 98, 99, 120, 121, 122, 65, 66, 67, 95, 48, 49, 57] } : ByteArray)[i]'h).toNat) = c.toNat := by
    intro h
    rw [← hcd]
    have hh : i = 0 ∨ i = 1 ∨ i = 2 ∨ i = 3 ∨ i = 4 ∨ i = 5 ∨ i = 6 ∨ i = 7 ∨ i = 8 ∨ i = 9 ∨ i = 10 ∨ i = 11 ∨ i = 12 := by omega
    rcases hh with rfl | rfl | rfl | rfl | rfl | rfl | rfl | rfl | rfl | rfl | rfl | rfl | rfl <;> rfl
  have hob := one_byte
  have hap := ofL_app wd [c]
  rw [hs2] at hap
  have z1 : (ofL wd).size = wd.length := ofL_size wd
  have z2 : (ofL [c]).size = 1 := ofL_size [c]
  have m1 : wd.length < 20 := M1.out
  clear t hq hwd hcd hs2
  go_enter Tryd.func6, Tryd.ntmps6
  go_wp2_with (first
      | (go_at_call 8; refine (lex_one L2.out ?_ _ (T.out.below W1.out)).mono ?_; (focus (have := N1.out; omega)); rintro e w2 ⟨⟨g2, c2, rfl, gl2, ga2, gb2, gc2⟩, hb⟩; have W2 : Hid (Below w.heap.size w w2) := below_next W1.out hb; have CW2 : Hid (∀ i, i < 17 → w2.cell? ⟨w.heap.size, i, none⟩ = some (.string (ofL (wordsL.getD i [])))) := fun i hi => (hb.cell (p := ⟨w.heap.size, i, none⟩) WL.out).trans (CW.out i hi); have gd1 := (hb.cell (p := ⟨g1, 0, none⟩) gl1).trans ga1; clear hb gb2 gc2 ga1)
      | (go_at_call 8; refine (lex_one L1.out ?_ _ (T.out.below (below2 _ _ _))).mono ?_; (focus (have := M1.out; omega)); rintro e w1 ⟨⟨g1, c1, rfl, gl1, ga1, gb1, gc1⟩, hb⟩; have W1 : Hid (Below w.heap.size w w1) := below_next (below2 _ _ _) hb; have CW : Hid (∀ i, i < 17 → w1.cell? ⟨w.heap.size, i, none⟩ = some (.string (ofL (wordsL.getD i [])))) := words_kept _ _ _ hb; have WL : Hid (w.heap.size < w1.heap.size) := Nat.lt_of_lt_of_le (lt2 _ _ _) hb.size; clear hb gb1 gc1))
  clear hob hct hcw
  go_loop [14, 15] (fun v n => ∃ k : Nat, k ≤ 17 ∧ v = .bool ((wordsL.take k).contains s2) ∧ n = .int .i64 (k : Int)) (fun _ n => 17 - (intOf n).toNat)
  case atStart => exact ⟨0, by omega, rfl, rfl⟩
  case round =>
    obtain ⟨k, hk17, rfl, rfl⟩ := hrel
    have hcell : (k : Int) < 17 → w2.cell? ⟨w.heap.size, k, none⟩ = some (.string (ofL (wordsL.getD k []))) := fun h => CW2.out k (by omega)
    have TW : Hid (k < 17 → (wordsL.take (k + 1)).contains s2 = ((wordsL.take k).contains s2 || (wordsL.getD k [] == s2))) := take_word s2 k
    generalize wordsL.getD k [] = x at hcell TW
    generalize hy : (wordsL.take k).contains s2 = y at TW
    have Y : Hid ((wordsL.take k).contains s2 = y) := hy
    clear hy
    have htl := ofL_toList
    go_wp2_with (first
      | (go_at_call 13; have W3' := W3; refine (word_c s2 _).mono ?_; rintro e w4 ⟨rfl, hb⟩; rw [Q.out]; have W4 : Hid (Below w.heap.size w w4) := below_next W3'.out hb; have ge3 := (hb.cell (p := ⟨g2, 0, none⟩) gl3).trans ge2; clear hb)
      | (go_at_call 13; refine (word_c wd _).mono ?_; rintro e w3 ⟨rfl, hb⟩; rw [I1.out]; have W3 : Hid (Below w.heap.size w w3) := below_next W2.out hb; have ge2 := (hb.cell (p := ⟨g2, 0, none⟩) gl2).trans ga2; have gl3 : g2 < w3.heap.size := Nat.lt_of_lt_of_le gl2 hb.size; clear hb))
    · have hk' : (k : Int) < 17 := by assumption
      have hy : y = true := by assumption
      go_round
      case rel =>
        refine ⟨k + 1, by omega, ?_, by go_num⟩
        rw [TW.out (by omega), hy]
        rfl
      case measure => simp [intOf]; omega
    · have hk' : (k : Int) < 17 := by assumption
      have hy : ¬ y = true := by assumption
      go_round
      case rel =>
        refine ⟨k + 1, by omega, ?_, by go_num⟩
        rw [TW.out (by omega)]
        simp [hy]
      case measure => simp [intOf]; omega
    · have hy : q = y := by assumption
      go_ret
      refine ⟨?_, W4.out⟩
      rcases hk with ⟨h1, h2⟩ | ⟨h1, h2⟩
      · subst h1 h2 hy
        rfl
      · subst h1 h2 hy
        rfl
    · exfalso
      have hy : ¬ q = y := by assumption
      have e1 : k = 17 := by omega
      subst e1
      exact hy (Q.out.symm.trans Y.out)

theorem lexWords_walk (a0 a1 : Int) (_w0 : (Lit.int .i64 a0).wf = true) (w1 : (Lit.int .u8 a1).wf = true) (w : World) (t : Tab w) :
    Calls Tryd.prog 6 #[.int .i64 a0, .int .u8 a1] w fun e w' => e = .returned (.bool true) ∧ Below w.heap.size w w' := by
  obtain ⟨j, hj, ej⟩ := idx17 a0
  obtain ⟨i, hi, ei⟩ := idx13 a1 w1
  have m1 : wordsL.getD j [] ∈ wordsL := by
    rw [List.getD_eq_getElem?_getD, List.getElem?_eq_getElem (show j < wordsL.length from hj)]
    exact List.getElem_mem _
  have m2 : lettersL.getD i 0 ∈ lettersL := by
    rw [List.getD_eq_getElem?_getD, List.getElem?_eq_getElem (show i < lettersL.length from hi)]
    exact List.getElem_mem _
  obtain ⟨f1, f2, f3, f4⟩ := words_facts _ m1 _ m2
  have f5 : (wordsL.getD j []).length < 20 := by rw [List.length_append] at f4; omega
  exact words_walk a0 a1 j i _ _ _ hj hi ej ei rfl rfl rfl (isWord (wordsL.getD j [] ++ [lettersL.getD i 0])) (if isWord (wordsL.getD j [] ++ [lettersL.getD i 0]) then 3 else 1) rfl (by cases isWord (wordsL.getD j [] ++ [lettersL.getD i 0]) <;> simp) f1 f2 f3 f5 f4 w t

set_option maxRecDepth 100000 in
theorem lexWords_lifted (os : Os) (started : os.Started) (H : Type) (enc : TypeId × Value → H) :
    ReturnsInHanded {} Tryd.checked os 6 .any (fun w args => (Rows.lexWordsSpec.pre enc Tryd.prog Tryd.f6 [] false w args ∧ laidMetH Tryd.prog laid1 w) ∧ sizedMet enc Tryd.prog Tryd.f6 (OpenSpec.ofChange Rows.lexWordsSpec) false w args)
      (Rows.lexWordsSpec.post enc Tryd.prog Tryd.f6 false true false false) := by
  refine returnsInHanded_of_change_and (C := Tryd.checked) (X := fun w _ => laidMetH Tryd.prog laid1 w) (fun _ _ _ hh h => h.of_heap hh) own started (by kernel_rfl) Tryd.func6
    (ChangeSpec.witness_shaped (enc := enc) (C := Tryd.checked) (os := os) (X := fun w _ => laidMetH Tryd.prog laid1 w) false (World.doorLaid Tryd.prog 400 os) #[.int .i64 0, .int .u8 0] 8 rfl (World.shaped_of_RefB (by kernel_rfl) (by kernel_rfl)) (by kernel_rfl) (by kernel_rfl) (by kernel_rfl) (door_met os _)) ?_
  intro W base args ds gs before hval0 hW _ _ hL _
  have hval : ∀ (j : Nat) t v, Tryd.f6.params[j]? = some t → args[j]? = some v → Value.okWide Tryd.prog W .any base t v := hval0
  have hW' := hW
  obtain ⟨p, q, hA0, hV, rfl, hfz, hnd⟩ := hW
  have hA : DataW.TrodAll enc Tryd.prog W 0 (fun _ => true) true Tryd.f6.params.toList args.toList ds p := hA0
  rw [Tryd.params6] at hA hval
  obtain ⟨v0, vs0, d0, ds0, p0, q0, hargs, rfl, rfl, h0, r0⟩ := trodAll_cons hA
  obtain ⟨v1, vs1, d1, ds1, p1, q1, rfl, rfl, rfl, h1, r1⟩ := trodAll_cons r0
  obtain ⟨rfl, rfl, rfl⟩ := trodAll_nil r1
  obtain rfl : args = #[v0, v1] := by cases args; simp_all
  obtain ⟨rfl, rfl⟩ := trodVars_none hV
  obtain ⟨a0, rfl, rfl, rfl, w0⟩ := open_int Tryd.underlying3 (hval 0 3 v0 rfl rfl) h0
  obtain ⟨a1, rfl, rfl, rfl, w1⟩ := open_int Tryd.underlying5 (hval 1 5 v1 rfl rfl) h1
  clear hA0 hval0
  simp only [List.append_nil] at hW'
  refine (lexWords_walk a0 a1 w0 w1 W (of_laid hL)).mono fun e W' ⟨he, hg⟩ => ?_
  subst he
  exact ⟨_, rfl, _, _, _, [], [], [], hW', (trodAll_cons_mk (shut_bool Tryd.underlying4 _) trodAll_mk0), (trodAll_cons_mk (shut_int Tryd.underlying3 w0) (trodAll_cons_mk (shut_int Tryd.underlying5 w1) trodAll_mk0)), rfl, hg.frame _, fun h => by cases h⟩

theorem lexWords_row : Rows.LexWordsSaid :=
  OpenClaim.holds_of_wide 6 Tryd.f6 rfl rfl rfl rfl rfl rfl rfl ⟨rfl, rfl, rfl, rfl, rfl⟩ rfl rfl rfl rfl rfl (by kernel_rfl) Tryd.func6 (by kernel_rfl)
    (of_decide_eq_true (by kernel_rfl)) (by unfold Func.isWrapper; first | (rw [if_pos (by decide +kernel)]; kernel_rfl) | (rw [if_neg (by decide +kernel)]; exact ⟨rfl, rfl⟩))
    (fun os started H enc _ => lexWords_lifted os started H enc)

theorem lexWords_holds : Rows.LexWordsCardSaid :=
  Claim7.holds_tied_plain_at .later [] [.data] true (true, "278e1587f10ff16485df7e10b09819ac31705590c05681b10ca7bdebc75b5a64") false
    lexWords_row (fun _ h => by cases h) (by kernel_rfl) (fun _ h => by cases h) lexWords_row_tie rfl ⟨rfl, rfl⟩ (by kernel_rfl) rfl
    (fun f fn hf hfn => by
      obtain rfl : f = 6 := Option.some.inj ((show Tryd.prog.funcNamed "ferrule/ferrulelaw02.LexWords" = some 6 by kernel_rfl).symm.trans hf) |>.symm
      obtain rfl : fn = Tryd.f6 := (Option.some.inj (Tryd.func6.symm.trans hfn)).symm
      exact ⟨by kernel_rfl, fun j t ht => by
        rw [Tryd.params6] at ht
        have hm : t ∈ [3, 5] := by simpa using Array.mem_of_getElem? ht
        have hall : ([3, 5].all fun u => !Tryd.prog.wantsStandIn u) = true := by kernel_rfl
        exact (show Tryd.prog.wantsStandIn t = false by simpa using List.all_eq_true.1 hall t (by simpa using hm))⟩)
    (by kernel_rfl)
#print axioms lexWords_holds
end Go.Proofs.YtbfelkcaakpdiaaDoor
