/-
  Proved: the law LexTells answers true for every two texts: any text has the document's tokens, or its error at its place; any text is a word, a number, or not, as the document's own functions say.
  Conditions: the table lex.signs reads, when the call begins, as the program's own text lays it (the card ties it to that text, over the pruned copy of the project that the seat holds); nothing else beyond the given row's own.
-/
import Derived.Test.YtbfelkcaakpdiaaDoorRefD
import Derived.Test.YtbfelkcaakpdiaaDoorMany
import Derived.Test.YtbfelkcaakpdiaaDoorLift
import Derived.Test.YtbfelkcaakpdiaaDoorTie
import Derived.Test.YtbfelkcaakpdiaaDoorCards
import Derived.Laws.StructEq
import Derived.SevenTiedAt
import Derived.SizedLaws
import Derived.ChangeMaps5
namespace Go.Proofs.YtbfelkcaakpdiaaDoor
open Go.ChangeShapes Go.WideShapes Go.ChangeAt Go.RowKit Go.ChangeMaps

theorem rlex_big (l : Bs) (w : World) (hm : 65536 < l.length) (_hl : l.length < 4611686018427387904) :
    Calls Tryd.prog 9 #[.string (ofL l)] w fun e w' => e = .returned (.tuple #[.slice none 0 0, .int .i64 0, .int .i64 3]) ∧ w' = w := by
  have hz := ofL_size l
  have h1 : 65536 < (l.length : Int) := by omega
  go_enter Tryd.func9, Tryd.ntmps9
  go_wp2
  go_ret3
  exact ⟨rfl, rfl⟩

theorem rlex_many {l : Bs} {ts : List Tok} {p e : Nat} (hl : lex l = (ts, p, e)) (hm : l.length < 4611686018427387904) (w : World) :
    Calls Tryd.prog 9 #[.string (ofL l)] w fun r w' => (∃ a cap, r = .returned (.tuple #[.slice a ts.length cap, .int .i64 (p : Int), .int .i64 (e : Int)]) ∧ (0 < ts.length → ∃ g, a = some ⟨g, 0, none⟩ ∧ TR w' g ts)) ∧ Below w.heap.size w w' := by
  by_cases h : 65536 < l.length
  · have e1 : lex l = ([], 0, 3) := by simp only [lex, if_pos h]
    rw [e1] at hl
    cases hl
    refine (rlex_big l w h hm).mono ?_
    rintro r w' ⟨rfl, rfl⟩
    exact ⟨⟨none, 0, rfl, fun h => by simp at h⟩, Below.refl _ _⟩
  · have e1 : lex l = lexAll l := by simp only [lex, if_neg h]
    rw [e1] at hl
    refine (rlex_body l _ w (by omega) hl).mono ?_
    rintro r w' ⟨⟨v, rfl, ho⟩, hb⟩
    obtain ⟨a, cap, rfl, h1⟩ := many_row ho
    exact ⟨⟨a, cap, rfl, h1⟩, hb⟩

theorem ag3 (w : World) : (isAgg 3).run Tryd.prog w = .ok false w := by kernel_rfl
theorem ag9 (w : World) : (isAgg 9).run Tryd.prog w = .ok false w := by kernel_rfl
theorem neq_same (kd q : Int) (s : ByteArray) (w : World) : (binOp .neq 37 (.agg #[.int .i64 kd, .string s, .int .i64 q]) (.agg #[.int .i64 kd, .string s, .int .i64 q])).run Tryd.prog w = .ok (.bool false) w := by
  have h3 := Tryd.underlying3
  have h9 := Tryd.underlying9
  have a3 := ag3
  have a9 := ag9
  rw [run_neq_struct, run_equalIn_struct w 9999 37 _ _ (by kernel_rfl) (by kernel_rfl)]
  simp [Program.fieldsOf, Tryd.underlying37, go_sem, h3, h9, a3, a9, part, Result.andThen]

set_option maxHeartbeats 1000000 in
theorem same_c (ts : List Tok) (a1 a2 : Option Addr) (c1 c2 : Nat) (w : World) (hn : ts.length ≤ 65536) (h1 : 0 < ts.length → ∃ g, a1 = some ⟨g, 0, none⟩ ∧ TR w g ts) (h2 : 0 < ts.length → ∃ g, a2 = some ⟨g, 0, none⟩ ∧ TR w g ts) :
    Calls Tryd.prog 10 #[.slice a1 ts.length c1, .slice a2 ts.length c2] w fun e w' => e = .returned (.bool true) ∧ Below w.heap.size w w' := by
  have S1 : Hid (0 < ts.length → ∃ g, a1 = some ⟨g, 0, none⟩ ∧ TR w g ts) := h1
  have S2 : Hid (0 < ts.length → ∃ g, a2 = some ⟨g, 0, none⟩ ∧ TR w g ts) := h2
  clear h1 h2
  go_enter Tryd.func10, Tryd.ntmps10
  go_wp2
  go_loopw [5] (fun y wr => ∃ i : Nat, y = .int .i64 (i : Int) ∧ i ≤ ts.length ∧ Below w.heap.size w wr) (fun y _ => ts.length - (intOf y).toNat)
  case atStart => exact ⟨0, rfl, Nat.zero_le _, Below.refl _ _⟩
  case round =>
    obtain ⟨i, rfl, hi, hw⟩ := hrel
    have W : Hid (Below w.heap.size w wr) := hw
    clear hw
    have hns := neq_same
    by_cases hlt : i < ts.length
    · obtain ⟨g1, rfl, hT1⟩ := S1.out (by omega)
      obtain ⟨g2, rfl, hT2⟩ := S2.out (by omega)
      have hT1' := hT1.below W.out
      have hT2' := hT2.below W.out
      obtain ⟨⟨kd, x, q⟩, hq⟩ : ∃ u, ts[i]? = some u := ⟨ts[i], List.getElem?_eq_getElem hlt⟩
      obtain ⟨k0, k1, k2⟩ := hT1'.cell i _ hq
      obtain ⟨j0, j1, j2⟩ := hT2'.cell i _ hq
      simp only at k0 k1 k2 j0 j1 j2
      clear hT1 hT1' hT2 hT2' hq S1 S2
      go_wp2
      go_quiet (fail)
      go_wp2
      go_roundw
      case rel => exact ⟨i + 1, by go_num, by omega, below_drewN W.out _⟩
      case measure => simp [intOf]; omega
    · go_wp2
      go_ret
      exact ⟨rfl, W.out⟩

theorem names_c (w : World) : Calls Tryd.prog 15 #[] w fun e w' => e = .returned (.bool true) ∧ w' = w := by
  go_enter Tryd.func15, Tryd.ntmps15
  go_wp2
  go_ret
  exact ⟨rfl, rfl⟩

theorem ofL_self (s : ByteArray) : ofL s.data.toList = s := by
  apply ByteArray.ext
  simp [ofL]

theorem good_few (l : Bs) : ∀ (ts : List Tok) (e : Nat), e ≤ l.length → Good l e ts → e + ts.length ≤ l.length
  | [], e, h, _ => by simpa using h
  | t :: r, e, _, h => by
    obtain ⟨h1, h2, h3, _, _, _, h7⟩ := h
    have := good_few l r _ h2 h7
    simp only [List.length_cons]
    omega

theorem lex_count (l : Bs) : (lex l).1.length ≤ 65536 := by
  by_cases h : 65536 < l.length
  · have e1 : lex l = ([], 0, 3) := by simp only [lex, if_pos h]
    rw [e1]; simp
  · have e1 : lex l = lexAll l := by simp only [lex, if_neg h]
    rw [e1]
    by_cases he : (lexAll l).2.2 = 0
    · have := good_few l _ 0 (Nat.zero_le _) (good_all (by omega) he).1
      omega
    · rw [(lexAll_err he).1]; simp

set_option maxHeartbeats 2000000 in
set_option maxRecDepth 20000 in
theorem tells_all (a b : Bs) (ts : List Tok) (p e v x : Nat) (kd : Bs) (q : Bool) (ha : a.length < 4611686018427387904) (hb : b.length < 4611686018427387904) (hn : ts.length ≤ 65536) (XA : Hid (lex a = (ts, p, e))) (XN : Hid (numA b = (v, kd, x))) (XW : Hid (isWord b = q)) (w : World) (t : Tab w) :
    Calls Tryd.prog 3 #[.string (ofL a), .string (ofL b)] w fun e w' => e = .returned (.bool true) ∧ Below w.heap.size w w' := by
  have T : Hid (Tab w) := t
  have htl := ofL_toList
  clear t
  go_enter Tryd.func3, Tryd.ntmps3
  go_wp2_with (first
      | (go_at_call 8; refine (lex_many XA.out ha _ T.out).mono ?_; rintro r w1 ⟨⟨a1, c1, rfl, h1⟩, hb1⟩; have M1 : Hid (Below w.heap.size w w1) := hb1; have R1 : Hid (0 < ts.length → ∃ g, a1 = some ⟨g, 0, none⟩ ∧ TR w1 g ts) := h1; clear hb1 h1)
      | (go_at_call 9; refine (rlex_many XA.out ha _).mono ?_; rintro r w2 ⟨⟨a2, c2, rfl, h2⟩, hb2⟩; have M2 : Hid (Below w.heap.size w w2) := below_next M1.out hb2; have S1 : Hid (0 < ts.length → ∃ g, a1 = some ⟨g, 0, none⟩ ∧ TR w2 g ts) := (fun h => by { obtain ⟨g, e, t⟩ := R1.out h; exact ⟨g, e, t.below hb2⟩ }); have S2 : Hid (0 < ts.length → ∃ g, a2 = some ⟨g, 0, none⟩ ∧ TR w2 g ts) := h2; clear hb2 h2)
      | (go_at_call 10; refine (same_c ts a1 a2 c1 c2 _ hn S1.out S2.out).mono ?_; rintro r w3 ⟨rfl, hb3⟩; have M3 : Hid (Below w.heap.size w w3) := below_next M2.out hb3; clear hb3)
      | (go_at_call 11; refine (number_c b _ hb).mono ?_; rintro r w4 ⟨rfl, hb4⟩; rw [XN.out]; have M4 : Hid (Below w.heap.size w w4) := below_next M3.out hb4; clear hb4)
      | (go_at_call 12; refine (rnumber_c b _ hb).mono ?_; rintro r w5 ⟨rfl, hb5⟩; rw [XN.out]; have M5 : Hid (Below w.heap.size w w5) := below_next M4.out hb5; clear hb5)
      | (go_at_call 13; refine (word_c b _).mono ?_; rintro r w6 ⟨rfl, hb6⟩; rw [XW.out]; have M6 : Hid (Below w.heap.size w w6) := below_next M5.out hb6; clear hb6)
      | (go_at_call 14; refine (rword_c b _).mono ?_; rintro r w7 ⟨rfl, hb7⟩; rw [XW.out]; have M7 : Hid (Below w.heap.size w w7) := below_next M6.out hb7; clear hb7)
      | (go_at_call 15; refine (names_c _).mono ?_; rintro r w8 ⟨rfl, he⟩; subst he))
  go_ret
  exact ⟨rfl, M7.out⟩

theorem lexTells_walk (a0 a1 : ByteArray) (_w0 : a0.size ≤ maxLen) (_w1 : a1.size ≤ maxLen) (hs0 : a0.data.toList.length < 4611686018427387904) (hs1 : a1.data.toList.length < 4611686018427387904) (w : World) (t : Tab w) :
    Calls Tryd.prog 3 #[.string a0, .string a1] w fun e w' => e = .returned (.bool true) ∧ Below w.heap.size w w' := by
  rw [← ofL_self a0, ← ofL_self a1]
  exact tells_all _ _ (lex a0.data.toList).1 (lex a0.data.toList).2.1 (lex a0.data.toList).2.2 (numA a1.data.toList).1 (numA a1.data.toList).2.2 (numA a1.data.toList).2.1 _ hs0 hs1 (lex_count _) rfl rfl rfl w t

set_option maxRecDepth 100000 in
theorem lexTells_lifted (os : Os) (started : os.Started) (H : Type) (enc : TypeId × Value → H) :
    ReturnsInHanded {} Tryd.checked os 3 .any (fun w args => (Rows.lexTellsSpec.pre enc Tryd.prog Tryd.f3 [] false w args ∧ laidMetH Tryd.prog laid1 w) ∧ sizedMet enc Tryd.prog Tryd.f3 (OpenSpec.ofChange Rows.lexTellsSpec) false w args)
      (Rows.lexTellsSpec.post enc Tryd.prog Tryd.f3 false true false false) := by
  refine returnsInHanded_of_change_and (C := Tryd.checked) (X := fun w _ => laidMetH Tryd.prog laid1 w) (fun _ _ _ hh h => h.of_heap hh) own started (by kernel_rfl) Tryd.func3
    (ChangeSpec.witness_shaped (enc := enc) (C := Tryd.checked) (os := os) (X := fun w _ => laidMetH Tryd.prog laid1 w) false (World.doorLaid Tryd.prog 400 os) #[.string ⟨#[]⟩, .string ⟨#[]⟩] 8 rfl (World.shaped_of_RefB (by kernel_rfl) (by kernel_rfl)) (by kernel_rfl) (by kernel_rfl) (by kernel_rfl) (door_met os _)) ?_
  intro W base args ds gs before hval0 hW _ hsz hL _
  have hval : ∀ (j : Nat) t v, Tryd.f3.params[j]? = some t → args[j]? = some v → Value.okWide Tryd.prog W .any base t v := hval0
  have hW' := hW
  obtain ⟨p, q, hA0, hV, rfl, hfz, hnd⟩ := hW
  have hA : DataW.TrodAll enc Tryd.prog W 0 (fun _ => true) true Tryd.f3.params.toList args.toList ds p := hA0
  rw [Tryd.params3] at hA hval
  obtain ⟨v0, vs0, d0, ds0, p0, q0, hargs, rfl, rfl, h0, r0⟩ := trodAll_cons hA
  obtain ⟨v1, vs1, d1, ds1, p1, q1, rfl, rfl, rfl, h1, r1⟩ := trodAll_cons r0
  obtain ⟨rfl, rfl, rfl⟩ := trodAll_nil r1
  obtain rfl : args = #[v0, v1] := by cases args; simp_all
  obtain ⟨rfl, rfl⟩ := trodVars_none hV
  obtain ⟨a0, rfl, rfl, rfl, w0⟩ := open_string Tryd.underlying9 (hval 0 9 v0 rfl rfl) h0
  obtain ⟨a1, rfl, rfl, rfl, w1⟩ := open_string Tryd.underlying9 (hval 1 9 v1 rfl rfl) h1
  clear hA0 hval0
  simp only [List.append_nil] at hW'
  have hb0 : a0.data.toList.length ≤ reachBytes := sized_string (t := 9) (j := 0) hsz (by kernel_rfl) rfl
  have hb1 : a1.data.toList.length ≤ reachBytes := sized_string (t := 9) (j := 1) hsz (by kernel_rfl) rfl
  refine (lexTells_walk a0 a1 w0 w1 (by unfold reachBytes at hb0; omega) (by unfold reachBytes at hb1; omega) W (of_laid hL)).mono fun e W' ⟨he, hg⟩ => ?_
  subst he
  exact ⟨_, rfl, _, _, _, [], [], [], hW', (trodAll_cons_mk (shut_bool Tryd.underlying4 _) trodAll_mk0), (trodAll_cons_mk (shut_string Tryd.underlying9 w0) (trodAll_cons_mk (shut_string Tryd.underlying9 w1) trodAll_mk0)), rfl, hg.frame _, fun h => by cases h⟩

theorem lexTells_row : Rows.LexTellsSaid :=
  OpenClaim.holds_of_wide 3 Tryd.f3 rfl rfl rfl rfl rfl rfl rfl ⟨rfl, rfl, rfl, rfl, rfl⟩ rfl rfl rfl rfl rfl (by kernel_rfl) Tryd.func3 (by kernel_rfl)
    (of_decide_eq_true (by kernel_rfl)) (by unfold Func.isWrapper; first | (rw [if_pos (by decide +kernel)]; kernel_rfl) | (rw [if_neg (by decide +kernel)]; exact ⟨rfl, rfl⟩))
    (fun os started H enc _ => lexTells_lifted os started H enc)

theorem lexTells_holds : Rows.LexTellsCardSaid :=
  Claim7.holds_tied_plain_at .later [] [.data] true (true, "278e1587f10ff16485df7e10b09819ac31705590c05681b10ca7bdebc75b5a64") false
    lexTells_row (fun _ h => by cases h) (by kernel_rfl) (fun _ h => by cases h) lexTells_row_tie rfl ⟨rfl, rfl⟩ (by kernel_rfl) rfl
    (fun f fn hf hfn => by
      obtain rfl : f = 3 := Option.some.inj ((show Tryd.prog.funcNamed "ferrule/ferrulelaw02.LexTells" = some 3 by kernel_rfl).symm.trans hf) |>.symm
      obtain rfl : fn = Tryd.f3 := (Option.some.inj (Tryd.func3.symm.trans hfn)).symm
      exact ⟨by kernel_rfl, fun j t ht => by
        rw [Tryd.params3] at ht
        have hm : t ∈ [9, 9] := by simpa using Array.mem_of_getElem? ht
        have hall : ([9, 9].all fun u => !Tryd.prog.wantsStandIn u) = true := by kernel_rfl
        exact (show Tryd.prog.wantsStandIn t = false by simpa using List.all_eq_true.1 hall t (by simpa using hm))⟩)
    (by kernel_rfl)
#print axioms lexTells_holds
end Go.Proofs.YtbfelkcaakpdiaaDoor
