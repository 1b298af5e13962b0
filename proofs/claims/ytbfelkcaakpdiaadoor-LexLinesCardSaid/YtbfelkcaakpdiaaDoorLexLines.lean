/-
  Proved: the law LexLines answers true for every two texts: with a line's end between them they have the tokens of both, or the first one's error.
  Conditions: the table lex.signs reads, when the call begins, as the program's own text lays it (the card ties it to that text, over the pruned copy of the project that the seat holds); nothing else beyond the given row's own.
-/
import Derived.Test.YtbfelkcaakpdiaaDoorLinesWalk
import Derived.Test.YtbfelkcaakpdiaaDoorLift
import Derived.Test.YtbfelkcaakpdiaaDoorTie
import Derived.Test.YtbfelkcaakpdiaaDoorCards
import Derived.SevenTiedAt
import Derived.SizedLaws
import Derived.ChangeMaps5
namespace Go.Proofs.YtbfelkcaakpdiaaDoor
open Go.ChangeShapes Go.WideShapes Go.ChangeAt Go.RowKit Go.ChangeMaps

theorem ofL_self (s : ByteArray) : ofL s.data.toList = s := by
  apply ByteArray.ext
  simp [ofL]

theorem good_few (l : Bs) : ∀ (ts : List Tok) (e : Nat), e ≤ l.length → Good l e ts → e + ts.length ≤ l.length ∧ ∀ u ∈ ts, u.2.2 ≤ l.length
  | [], e, h, _ => ⟨by simpa using h, by simp⟩
  | t :: r, e, _, h => by
    obtain ⟨h1, h2, h3, _, _, _, h7⟩ := h
    have ih := good_few l r _ h2 h7
    refine ⟨by simp only [List.length_cons]; omega, fun u hu => ?_⟩
    rcases List.mem_cons.1 hu with rfl | hu
    · omega
    · exact ih.2 u hu

theorem lines_all (a b : Bs) (ha : a.length < 140737488355328) (hb : b.length < 140737488355328) (w : World) (t : Tab w) :
    Calls Tryd.prog 5 #[.string (ofL a), .string (ofL b)] w fun e w' => e = .returned (.bool true) ∧ Below w.heap.size w w' := by
  by_cases h : 20000 < a.length + b.length
  · refine (lines_big a b ha hb h w).mono ?_
    rintro e w' ⟨rfl, rfl⟩
    exact ⟨rfl, Below.refl _ _⟩
  · have hla := lex_one_all (l := a) (by omega)
    have hlb := lex_one_all (l := b) (by omega)
    by_cases ea : (lexAll a).2.2 = 0
    · obtain ⟨ga, pa⟩ := good_all (by omega) ea
      have xa : lex a = ((lexAll a).1, 0, 0) := by rw [hla]; exact Prod.ext rfl (Prod.ext pa ea)
      by_cases eb : (lexAll b).2.2 = 0
      · obtain ⟨gb, pb⟩ := good_all (by omega) eb
        have xb : lex b = ((lexAll b).1, 0, 0) := by rw [hlb]; exact Prod.ext rfl (Prod.ext pb eb)
        have fa := good_few a _ 0 (Nat.zero_le _) ga
        have fb := good_few b _ 0 (Nat.zero_le _) gb
        exact lines_ok a b _ _ (by omega) (by omega) (by omega) (fun u hu => by have := fb.2 u hu; omega) xa xb w t
      · obtain ⟨gb, pb⟩ := lexAll_err eb
        have xb : lex b = ([], (lexAll b).2.1, (lexAll b).2.2) := by rw [hlb]; exact Prod.ext gb rfl
        exact lines_err2 a b _ _ _ (by omega) xa xb eb pb w t
    · obtain ⟨ga, pa⟩ := lexAll_err ea
      have xa : lex a = ([], (lexAll a).2.1, (lexAll a).2.2) := by rw [hla]; exact Prod.ext ga rfl
      exact lines_err1 a b _ _ (lex b).2.1 (lex b).2.2 (lex b).1 (by omega) xa rfl ea w t

theorem lexLines_walk (a0 a1 : ByteArray) (_w0 : a0.size ≤ maxLen) (_w1 : a1.size ≤ maxLen) (hs0 : a0.data.toList.length < 140737488355328) (hs1 : a1.data.toList.length < 140737488355328) (w : World) (t : Tab w) :
    Calls Tryd.prog 5 #[.string a0, .string a1] w fun e w' => e = .returned (.bool true) ∧ Below w.heap.size w w' := by
  rw [← ofL_self a0, ← ofL_self a1]
  exact lines_all _ _ hs0 hs1 w t

set_option maxRecDepth 100000 in
theorem lexLines_lifted (os : Os) (started : os.Started) (H : Type) (enc : TypeId × Value → H) :
    ReturnsInHanded {} Tryd.checked os 5 .any (fun w args => (Rows.lexLinesSpec.pre enc Tryd.prog Tryd.f5 [] false w args ∧ laidMetH Tryd.prog laid1 w) ∧ sizedMet enc Tryd.prog Tryd.f5 (OpenSpec.ofChange Rows.lexLinesSpec) false w args)
      (Rows.lexLinesSpec.post enc Tryd.prog Tryd.f5 false true false false) := by
  refine returnsInHanded_of_change_and (C := Tryd.checked) (X := fun w _ => laidMetH Tryd.prog laid1 w) (fun _ _ _ hh h => h.of_heap hh) own started (by kernel_rfl) Tryd.func5
    (ChangeSpec.witness_shaped (enc := enc) (C := Tryd.checked) (os := os) (X := fun w _ => laidMetH Tryd.prog laid1 w) false (World.doorLaid Tryd.prog 400 os) #[.string ⟨#[]⟩, .string ⟨#[]⟩] 8 rfl (World.shaped_of_RefB (by kernel_rfl) (by kernel_rfl)) (by kernel_rfl) (by kernel_rfl) (by kernel_rfl) (door_met os _)) ?_
  intro W base args ds gs before hval0 hW _ hsz hL _
  have hval : ∀ (j : Nat) t v, Tryd.f5.params[j]? = some t → args[j]? = some v → Value.okWide Tryd.prog W .any base t v := hval0
  have hW' := hW
  obtain ⟨p, q, hA0, hV, rfl, hfz, hnd⟩ := hW
  have hA : DataW.TrodAll enc Tryd.prog W 0 (fun _ => true) true Tryd.f5.params.toList args.toList ds p := hA0
  rw [Tryd.params5] at hA hval
  obtain ⟨v0, vs0, d0, ds0, p0, q0, hargs, rfl, rfl, h0, r0⟩ := trodAll_cons hA
  obtain ⟨v1, vs1, d1, ds1, p1, q1, rfl, rfl, rfl, h1, r1⟩ := trodAll_cons r0
  obtain ⟨rfl, rfl, rfl⟩ := trodAll_nil r1
  obtain rfl : args = #[v0, v1] := by cases args; simp_all
  obtain ⟨rfl, rfl⟩ := trodVars_none hV
  obtain ⟨a0, rfl, rfl, rfl, w0⟩ := open_string Tryd.underlying9 (hval 0 9 v0 rfl rfl) h0
  obtain ⟨a1, rfl, rfl, rfl, w1⟩ := open_string Tryd.underlying9 (hval 1 9 v1 rfl rfl) h1
  clear hA0 hval0
  simp only [List.append_nil] at hW'
  have hb0 : a0.data.toList.length ≤ reachBytes := sized_string (t := 9) (j := 0) hsz (by kernel_rfl) rfl
  have hb1 : a1.data.toList.length ≤ reachBytes := sized_string (t := 9) (j := 1) hsz (by kernel_rfl) rfl
  refine (lexLines_walk a0 a1 w0 w1 (by unfold reachBytes at hb0; omega) (by unfold reachBytes at hb1; omega) W (of_laid hL)).mono fun e W' ⟨he, hg⟩ => ?_
  subst he
  exact ⟨_, rfl, _, _, _, [], [], [], hW', (trodAll_cons_mk (shut_bool Tryd.underlying4 _) trodAll_mk0), (trodAll_cons_mk (shut_string Tryd.underlying9 w0) (trodAll_cons_mk (shut_string Tryd.underlying9 w1) trodAll_mk0)), rfl, hg.frame _, fun h => by cases h⟩

theorem lexLines_row : Rows.LexLinesSaid :=
  OpenClaim.holds_of_wide 5 Tryd.f5 rfl rfl rfl rfl rfl rfl rfl ⟨rfl, rfl, rfl, rfl, rfl⟩ rfl rfl rfl rfl rfl (by kernel_rfl) Tryd.func5 (by kernel_rfl)
    (of_decide_eq_true (by kernel_rfl)) (by unfold Func.isWrapper; first | (rw [if_pos (by decide +kernel)]; kernel_rfl) | (rw [if_neg (by decide +kernel)]; exact ⟨rfl, rfl⟩))
    (fun os started H enc _ => lexLines_lifted os started H enc)

theorem lexLines_holds : Rows.LexLinesCardSaid :=
  Claim7.holds_tied_plain_at .later [] [.data] true (true, "278e1587f10ff16485df7e10b09819ac31705590c05681b10ca7bdebc75b5a64") false
    lexLines_row (fun _ h => by cases h) (by kernel_rfl) (fun _ h => by cases h) lexLines_row_tie rfl ⟨rfl, rfl⟩ (by kernel_rfl) rfl
    (fun f fn hf hfn => by
      obtain rfl : f = 5 := Option.some.inj ((show Tryd.prog.funcNamed "ferrule/ferrulelaw02.LexLines" = some 5 by kernel_rfl).symm.trans hf) |>.symm
      obtain rfl : fn = Tryd.f5 := (Option.some.inj (Tryd.func5.symm.trans hfn)).symm
      exact ⟨by kernel_rfl, fun j t ht => by
        rw [Tryd.params5] at ht
        have hm : t ∈ [9, 9] := by simpa using Array.mem_of_getElem? ht
        have hall : ([9, 9].all fun u => !Tryd.prog.wantsStandIn u) = true := by kernel_rfl
        exact (show Tryd.prog.wantsStandIn t = false by simpa using List.all_eq_true.1 hall t (by simpa using hm))⟩)
    (by kernel_rfl)
#print axioms lexLines_holds
end Go.Proofs.YtbfelkcaakpdiaaDoor
