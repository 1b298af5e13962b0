/-
  Proved: the law LexParts answers true for every text: each token by itself is it, between two tokens are blanks alone, and their texts are the text's.
  Conditions: the table lex.signs reads, when the call begins, as the program's own text lays it (the card ties it to that text, over the pruned copy of the project that the seat holds); nothing else beyond the given row's own.
-/
import Derived.Test.YtbfelkcaakpdiaaDoorPartsWalk
import Derived.Test.YtbfelkcaakpdiaaDoorLift
import Derived.Test.YtbfelkcaakpdiaaDoorTie
import Derived.Test.YtbfelkcaakpdiaaDoorCards
import Derived.SevenTiedAt
import Derived.SizedLaws
import Derived.ChangeMaps5
namespace Go.Proofs.YtbfelkcaakpdiaaDoor
open Go.ChangeShapes Go.WideShapes Go.ChangeAt Go.RowKit Go.ChangeMaps

theorem ofL_self (s : ByteArray) : ofL s.data.toList = s := by
  apply ByteArray.ext
  simp [ofL]

theorem lex_few {l : Bs} (h : l.length ≤ 3000) : lex l = lexAll l := by simp only [lex, if_neg (show ¬ 65536 < l.length by omega)]

theorem cellsT_len : ∀ ts : List Tok, (cellsT ts).length = ts.length * 3
  | [] => rfl
  | t :: r => by simp only [cellsT, List.length_cons, cellsT_len r]; omega

theorem good_few (l : Bs) : ∀ (ts : List Tok) (e : Nat), e ≤ l.length → Good l e ts → e + ts.length ≤ l.length
  | [], e, h, _ => by simpa using h
  | t :: r, e, _, h => by
    obtain ⟨h1, h2, h3, _, _, _, h7⟩ := h
    have := good_few l r _ h2 h7
    simp only [List.length_cons]
    omega

theorem parts_all (mm l : Bs) (hm : mm.length < 4611686018427387904) (hb : l.length ≤ 3000) (hc : mm = l ∨ (3000 < mm.length ∧ (ofL mm).extract 0 3000 = ofL l)) (w : World) (t : Tab w) :
    Calls Tryd.prog 4 #[.string (ofL mm)] w fun e w' => e = .returned (.bool true) ∧ Below w.heap.size w w' := by
  by_cases he : (lexAll l).2.2 = 0
  · obtain ⟨g1, g2⟩ := good_all (by omega) he
    have hx : lex l = ((lexAll l).1, 0, 0) := by
      rw [lex_few hb]
      exact Prod.ext rfl (Prod.ext g2 he)
    have hn := good_few l _ 0 (Nat.zero_le _) g1
    rcases hc with rfl | ⟨h1, h2⟩
    · exact parts_okA mm _ hm hb hx g1 (by omega) w t
    · exact parts_okB mm l _ (by omega) hb h1 hm h2 hx g1 (by omega) w t
  · obtain ⟨g1, g2⟩ := lexAll_err he
    have hx : lex l = ([], (lexAll l).2.1, (lexAll l).2.2) := by
      rw [lex_few hb]
      exact Prod.ext g1 rfl
    rcases hc with rfl | ⟨h1, h2⟩
    · exact parts_errA mm _ _ hm hb hx he g2 w t
    · exact parts_errB mm l _ _ (by omega) hb h1 hm h2 hx he g2 w t

theorem lexParts_walk (a0 : ByteArray) (_w0 : a0.size ≤ maxLen) (hs : a0.data.toList.length < 4611686018427387904) (w : World) (t : Tab w) :
    Calls Tryd.prog 4 #[.string a0] w fun e w' => e = .returned (.bool true) ∧ Below w.heap.size w w' := by
  rw [← ofL_self a0]
  generalize a0.data.toList = l at hs
  by_cases h : l.length ≤ 3000
  · exact parts_all l l hs h (.inl rfl) w t
  · exact parts_all l (l.take 3000) hs (by simp; omega) (.inr ⟨by omega, extract_take l 3000⟩) w t

set_option maxRecDepth 100000 in
theorem lexParts_lifted (os : Os) (started : os.Started) (H : Type) (enc : TypeId × Value → H) :
    ReturnsInHanded {} Tryd.checked os 4 .any (fun w args => (Rows.lexPartsSpec.pre enc Tryd.prog Tryd.f4 [] false w args ∧ laidMetH Tryd.prog laid1 w) ∧ sizedMet enc Tryd.prog Tryd.f4 (OpenSpec.ofChange Rows.lexPartsSpec) false w args)
      (Rows.lexPartsSpec.post enc Tryd.prog Tryd.f4 false true false false) := by
  refine returnsInHanded_of_change_and (C := Tryd.checked) (X := fun w _ => laidMetH Tryd.prog laid1 w) (fun _ _ _ hh h => h.of_heap hh) own started (by kernel_rfl) Tryd.func4
    (ChangeSpec.witness_shaped (enc := enc) (C := Tryd.checked) (os := os) (X := fun w _ => laidMetH Tryd.prog laid1 w) false (World.doorLaid Tryd.prog 400 os) #[.string ⟨#[]⟩] 8 rfl (World.shaped_of_RefB (by kernel_rfl) (by kernel_rfl)) (by kernel_rfl) (by kernel_rfl) (by kernel_rfl) (door_met os _)) ?_
  intro W base args ds gs before hval0 hW _ hsz hL _
  have hval : ∀ (j : Nat) t v, Tryd.f4.params[j]? = some t → args[j]? = some v → Value.okWide Tryd.prog W .any base t v := hval0
  have hW' := hW
  obtain ⟨p, q, hA0, hV, rfl, hfz, hnd⟩ := hW
  have hA : DataW.TrodAll enc Tryd.prog W 0 (fun _ => true) true Tryd.f4.params.toList args.toList ds p := hA0
  rw [Tryd.params4] at hA hval
  obtain ⟨v0, vs0, d0, ds0, p0, q0, hargs, rfl, rfl, h0, r0⟩ := trodAll_cons hA
  obtain ⟨rfl, rfl, rfl⟩ := trodAll_nil r0
  obtain rfl : args = #[v0] := by cases args; simp_all
  obtain ⟨rfl, rfl⟩ := trodVars_none hV
  obtain ⟨a0, rfl, rfl, rfl, w0⟩ := open_string Tryd.underlying9 (hval 0 9 v0 rfl rfl) h0
  clear hA0 hval0
  simp only [List.append_nil] at hW'
  have hb0 : a0.data.toList.length ≤ reachBytes := sized_string (t := 9) (j := 0) hsz (by kernel_rfl) rfl
  refine (lexParts_walk a0 w0 (by unfold reachBytes at hb0; omega) W (of_laid hL)).mono fun e W' ⟨he, hg⟩ => ?_
  subst he
  exact ⟨_, rfl, _, _, _, [], [], [], hW', (trodAll_cons_mk (shut_bool Tryd.underlying4 _) trodAll_mk0), (trodAll_cons_mk (shut_string Tryd.underlying9 w0) trodAll_mk0), rfl, hg.frame _, fun h => by cases h⟩

theorem lexParts_row : Rows.LexPartsSaid :=
  OpenClaim.holds_of_wide 4 Tryd.f4 rfl rfl rfl rfl rfl rfl rfl ⟨rfl, rfl, rfl, rfl, rfl⟩ rfl rfl rfl rfl rfl (by kernel_rfl) Tryd.func4 (by kernel_rfl)
    (of_decide_eq_true (by kernel_rfl)) (by unfold Func.isWrapper; first | (rw [if_pos (by decide +kernel)]; kernel_rfl) | (rw [if_neg (by decide +kernel)]; exact ⟨rfl, rfl⟩))
    (fun os started H enc _ => lexParts_lifted os started H enc)

theorem lexParts_holds : Rows.LexPartsCardSaid :=
  Claim7.holds_tied_plain_at .later [] [.data] true (true, "278e1587f10ff16485df7e10b09819ac31705590c05681b10ca7bdebc75b5a64") false
    lexParts_row (fun _ h => by cases h) (by kernel_rfl) (fun _ h => by cases h) lexParts_row_tie rfl ⟨rfl, rfl⟩ (by kernel_rfl) rfl
    (fun f fn hf hfn => by
      obtain rfl : f = 4 := Option.some.inj ((show Tryd.prog.funcNamed "ferrule/ferrulelaw02.LexParts" = some 4 by kernel_rfl).symm.trans hf) |>.symm
      obtain rfl : fn = Tryd.f4 := (Option.some.inj (Tryd.func4.symm.trans hfn)).symm
      exact ⟨by kernel_rfl, fun j t ht => by
        rw [Tryd.params4] at ht
        have hm : t ∈ [9] := by simpa using Array.mem_of_getElem? ht
        have hall : ([9].all fun u => !Tryd.prog.wantsStandIn u) = true := by kernel_rfl
        exact (show Tryd.prog.wantsStandIn t = false by simpa using List.all_eq_true.1 hall t (by simpa using hm))⟩)
    (by kernel_rfl)
#print axioms lexParts_holds
end Go.Proofs.YtbfelkcaakpdiaaDoor
