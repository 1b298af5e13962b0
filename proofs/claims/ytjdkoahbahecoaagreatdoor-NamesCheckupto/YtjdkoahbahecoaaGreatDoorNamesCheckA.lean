/-
  Proved: NamesCheck answers true for all items, types and names that are together of a bulk of at most 1048576 values and letters, where the listed variables errors.errorType, num.shapes and types.tooMuch hold what the program's text lays; what was handed in reads behind the call as before.
-/
import Derived.Test.YtjdkoahbahecoaaGreatDoorRCheck
import Derived.Test.YtjdkoahbahecoaaGreatDoorOpen
import Derived.Test.YtjdkoahbahecoaaGreatDoorLift3
import Derived.Test.YtjdkoahbahecoaaGreatDoorOpenU
import Derived.Test.YtjdkoahbahecoaaGreatDoorTie
import Derived.Test.YtjdkoahbahecoaaGreatDoorCards
import Derived.SevenTiedAt
import Derived.OpenShut
import Derived.Deep.DeepHandedRow
namespace Go.Proofs.YtjdkoahbahecoaaGreatDoor
section
open Go.RowKit

theorem numbers_c (w : World) : Calls Tryz.prog 11 #[] w fun e w' => e = .returned (.bool true) ∧ w' = w := by
  go_enter Tryz.func11, Tryz.ntmps11
  go_wp2
  go_ret
  exact ⟨rfl, rfl⟩

set_option maxRecDepth 100000 in
set_option maxHeartbeats 1600000 in
theorem ncheck_walk (k : Int) (s : ByteArray) (n : Int) (EA : Option Addr) (el EC l C : Nat) (A : Option Addr) (nm : ByteArray) (w : World) (a e : Int) (E1 E2 : Int) (TB : Bool)
    (FW : Hid (∀ w', Below w.heap.size w w' → Calls Tryz.prog 4 #[.slice A l C] w' fun e w'' => e = .returned (.bool true) ∧ Below w'.heap.size w' w''))
    (CK : Hid (∀ w', Below w.heap.size w w' → Calls Tryz.prog 5 #[.slice A l C] w' fun r w'' => r = .returned (.tuple #[.int .i64 a, .int .i64 e]) ∧ Below w'.heap.size w' w''))
    (RK : Hid (∀ w', Below w.heap.size w w' → Calls Tryz.prog 6 #[.slice A l C] w' fun r w'' => r = .returned (.tuple #[.int .i64 a, .int .i64 e]) ∧ Below w'.heap.size w' w''))
    (NT : Hid (∀ b w', Below w.heap.size w w' → Calls Tryz.prog 7 #[.slice A l C, .agg #[.int .i64 k, .string s, .int .i64 n, .slice EA el EC], .bool b] w' fun r w'' => r = .returned (.int .i64 (if b = true then E1 else E2)) ∧ Below w'.heap.size w' w''))
    (RT : Hid (∀ b w', Below w.heap.size w w' → Calls Tryz.prog 8 #[.slice A l C, .agg #[.int .i64 k, .string s, .int .i64 n, .slice EA el EC], .bool b] w' fun r w'' => r = .returned (.int .i64 (if b = true then E1 else E2)) ∧ Below w'.heap.size w' w''))
    (TK : Hid (∀ w', Calls Tryz.prog 9 #[.string nm] w' fun r w'' => r = .returned (.bool TB) ∧ Below w'.heap.size w' w''))
    (RTK : Hid (∀ w', Calls Tryz.prog 10 #[.string nm] w' fun r w'' => r = .returned (.bool TB) ∧ Below w'.heap.size w' w'')) :
    Calls Tryz.prog 3 #[.slice A l C, .agg #[.int .i64 k, .string s, .int .i64 n, .slice EA el EC], .string nm] w fun r w' => r = .returned (.bool true) ∧ Below w.heap.size w w' := by
  have NB : Hid (∀ w', Calls Tryz.prog 11 #[] w' fun r w'' => r = .returned (.bool true) ∧ w'' = w') := numbers_c
  have HW1 : Hid (Below w.heap.size w (w.alloc (.cells #[.int .i64 k, .string s, .int .i64 n, .slice EA el EC] 25))) := below_alloc w _
  have CL : Hid (∀ w', Below (w.alloc (.cells #[.int .i64 k, .string s, .int .i64 n, .slice EA el EC] 25)).heap.size (w.alloc (.cells #[.int .i64 k, .string s, .int .i64 n, .slice EA el EC] 25)) w' → w'.cell? ⟨w.heap.size, 0, none⟩ = some (.int .i64 k) ∧ w'.cell? ⟨w.heap.size, 1, none⟩ = some (.string s) ∧ w'.cell? ⟨w.heap.size, 2, none⟩ = some (.int .i64 n) ∧ w'.cell? ⟨w.heap.size, 3, none⟩ = some (.slice EA el EC) ∧ Hid (Below (w.alloc (.cells #[.int .i64 k, .string s, .int .i64 n, .slice EA el EC] 25)).heap.size (w.alloc (.cells #[.int .i64 k, .string s, .int .i64 n, .slice EA el EC] 25)) w')) := fun w' hw => by
    have a := (At.new w #[.int .i64 k, .string s, .int .i64 n, .slice EA el EC] 25).below hw (At.new w _ _).lt
    exact ⟨(a.cell 0).trans rfl, (a.cell 1).trans rfl, (a.cell 2).trans rfl, (a.cell 3).trans rfl, hw⟩
  go_enter Tryz.func3, Tryz.ntmps3
  go_wp2_with (first
    | (go_at_call 4; refine (FW.out _ HW1.out).mono ?_; rintro r w1 ⟨rfl, hb1⟩; have M1 : Hid (Below (w.alloc (.cells #[.int .i64 k, .string s, .int .i64 n, .slice EA el EC] 25)).heap.size (w.alloc (.cells #[.int .i64 k, .string s, .int .i64 n, .slice EA el EC] 25)) w1) := hb1; clear hb1)
    | (go_at_call 5; refine (CK.out _ (below_next HW1.out M1.out)).mono ?_; rintro r w2 ⟨rfl, hb2⟩; have M2 : Hid (Below (w.alloc (.cells #[.int .i64 k, .string s, .int .i64 n, .slice EA el EC] 25)).heap.size (w.alloc (.cells #[.int .i64 k, .string s, .int .i64 n, .slice EA el EC] 25)) w2) := below_next M1.out hb2; clear hb2)
    | (go_at_call 6; refine (RK.out _ (below_next HW1.out M2.out)).mono ?_; rintro r w3 ⟨rfl, hb3⟩; have M3 : Hid (Below (w.alloc (.cells #[.int .i64 k, .string s, .int .i64 n, .slice EA el EC] 25)).heap.size (w.alloc (.cells #[.int .i64 k, .string s, .int .i64 n, .slice EA el EC] 25)) w3) := below_next M2.out hb3; clear hb3))
  generalize w.alloc (.cells #[.int .i64 k, .string s, .int .i64 n, .slice EA el EC] 25) = w0 at HW1 CL M1 M2 M3
  go_region_held3 (fun w' => w'.cell? ⟨w.heap.size, 0, none⟩ = some (.int .i64 k) ∧ w'.cell? ⟨w.heap.size, 1, none⟩ = some (.string s) ∧ w'.cell? ⟨w.heap.size, 2, none⟩ = some (.int .i64 n) ∧ w'.cell? ⟨w.heap.size, 3, none⟩ = some (.slice EA el EC) ∧ Hid (Below w0.heap.size w0 w'))
    (first
      | exact CL.out _ (M3.out.drew)
      | exact CL.out _ OO.out)
    (first
      | (go_at_call 7; refine (NT.out _ _ (below_next HW1.out (Hid.out (And.right (And.right (And.right (And.right (by assumption)))))))).mono ?_; rintro r w5 ⟨rfl, hb5⟩; have OO : Hid (Below w0.heap.size w0 w5) := below_next (Hid.out (And.right (And.right (And.right (And.right (by assumption)))))) hb5; clear hb5)
      | (go_at_call 8; refine (RT.out _ _ (below_next HW1.out (Hid.out (And.right (And.right (And.right (And.right (by assumption)))))))).mono ?_; rintro r w5 ⟨rfl, hb5⟩; have OO : Hid (Below w0.heap.size w0 w5) := below_next (Hid.out (And.right (And.right (And.right (And.right (by assumption)))))) hb5; clear hb5)
      | (go_at_call 9; refine (TK.out _).mono ?_; rintro r w5 ⟨rfl, hb5⟩; have OO : Hid (Below w0.heap.size w0 w5) := below_next (Hid.out (And.right (And.right (And.right (And.right (by assumption)))))) hb5; clear hb5)
      | (go_at_call 10; refine (RTK.out _).mono ?_; rintro r w5 ⟨rfl, hb5⟩; have OO : Hid (Below w0.heap.size w0 w5) := below_next (Hid.out (And.right (And.right (And.right (And.right (by assumption)))))) hb5; clear hb5)
      | (go_at_call 11; refine (NB.out _).mono ?_; rintro r w5 ⟨rfl, rfl⟩))
  all_goals (go_wp2_with fail)
  all_goals go_ret
  all_goals exact ⟨rfl, below_next HW1.out OO.out⟩


theorem few_ps {js : List Jt} (h : (its js).length + ((its js).map cost).sum < 300) : js.length ≤ 300 ∧ ∀ j ∈ js, j.ps.length ≤ 300 := by
  rw [its_len] at h
  refine ⟨by omega, fun j hj => ?_⟩
  have : ∀ l : List Jt, j ∈ l → j.ps.length ≤ ((its l).map cost).sum := by
    intro l
    induction l with
    | nil => intro h; cases h
    | cons x l ih =>
      intro h
      simp only [its, List.map_cons, List.sum_cons] at ih ⊢
      rcases List.mem_cons.1 h with rfl | h
      · simp only [cost, Jt.it, List.length_map]
        omega
      · have := ih h
        omega
  have := this js hj
  omega

set_option maxRecDepth 100000 in
set_option maxHeartbeats 1600000 in
theorem ncheck_short (k : Int) (s : ByteArray) (n : Int) (EA : Option Addr) (el EC l C : Nat) (A : Option Addr) (nm : ByteArray) (w : World)
    (FW : Hid (∀ w', Below w.heap.size w w' → Calls Tryz.prog 4 #[.slice A l C] w' fun e w'' => e = .returned (.bool false) ∧ Below w'.heap.size w' w'')) :
    Calls Tryz.prog 3 #[.slice A l C, .agg #[.int .i64 k, .string s, .int .i64 n, .slice EA el EC], .string nm] w fun r w' => r = .returned (.bool true) ∧ Below w.heap.size w w' := by
  have HW1 : Hid (Below w.heap.size w (w.alloc (.cells #[.int .i64 k, .string s, .int .i64 n, .slice EA el EC] 25))) := below_alloc w _
  go_enter Tryz.func3, Tryz.ntmps3
  go_wp2_with (first
    | (go_at_call 4; refine (FW.out _ HW1.out).mono ?_; rintro r w1 ⟨rfl, hb1⟩; have M1 : Hid (Below (w.alloc (.cells #[.int .i64 k, .string s, .int .i64 n, .slice EA el EC] 25)).heap.size (w.alloc (.cells #[.int .i64 k, .string s, .int .i64 n, .slice EA el EC] 25)) w1) := hb1; clear hb1))
  all_goals go_ret
  all_goals exact ⟨rfl, below_next HW1.out M1.out⟩

theorem ncheck_all (js : List Jt) (t : T) (k : Int) (s : ByteArray) (n : Int) (EA : Option Addr) (el EC C : Nat) (A : Option Addr) (nm : ByteArray) (w : World)
    (hT : Tab w) (hS : Shp w) (hE : Eht w) (hi : JsIn w js A) (hz : SizJ js) (hC : js.length ≤ C) (hd : ∀ j ∈ js, ∀ p ∈ j.ps, dep p.t ≤ 9223372036854775807)
    (ht : TIn w t [.int .i64 k, .string s, .int .i64 n, .slice EA el EC]) (hdt : dep t ≤ 9223372036854775807) :
    Calls Tryz.prog 3 #[.slice A js.length C, .agg #[.int .i64 k, .string s, .int .i64 n, .slice EA el EC], .string nm] w fun r w' => r = .returned (.bool true) ∧ Below w.heap.size w w' := by
  have FW : ∀ w', Below w.heap.size w w' → Calls Tryz.prog 4 #[.slice A js.length C] w' fun e w'' => e = .returned (.bool (decide ((its js).length + ((its js).map cost).sum < 300))) ∧ Below w'.heap.size w' w'' := fun w' hw => by
    have := few_c (its js) A C w' (hi.below hw).is hz.siz
    rw [its_len js] at this
    exact this.mono fun e w'' h => ⟨by have h1 := h.1; unfold FewA at h1; exact h1, h.2⟩
  by_cases hfw : (its js).length + ((its js).map cost).sum < 300
  · rw [decide_eq_true hfw] at FW
    obtain ⟨_, hps⟩ := few_ps hfw
    have CK : ∀ w', Below w.heap.size w w' → Calls Tryz.prog 5 #[.slice A js.length C] w' fun r w'' => r = .returned (chkV (chk js)) ∧ Below w'.heap.size w' w'' := fun w' hw =>
      Check_c A js hps C w' (hT.below hw) (hS.below hw) (hE.below hw) (hi.below hw)
    have RK : ∀ w', Below w.heap.size w w' → Calls Tryz.prog 6 #[.slice A js.length C] w' fun r w'' => r = .returned (chkV (chk js)) ∧ Below w'.heap.size w' w'' := fun w' hw =>
      rCheck_c A js hfw hps hd C hC w' (hi.below hw)
    have NT : ∀ b w', Below w.heap.size w w' → Calls Tryz.prog 7 #[.slice A js.length C, .agg #[.int .i64 k, .string s, .int .i64 n, .slice EA el EC], .bool b] w' fun r w'' => r = .returned (.int .i64 (if b = true then tyE (its js) t true else tyE (its js) t false)) ∧ Below w'.heap.size w' w'' := fun b w' hw => by
      have := type_c (its js) t _ b A C w' (hT.below hw) (hi.below hw).is (ht.stays hw)
      rw [its_len js] at this
      refine this.mono fun e w'' h => ⟨?_, h.2⟩
      cases b <;> exact h.1
    have RT : ∀ b w', Below w.heap.size w w' → Calls Tryz.prog 8 #[.slice A js.length C, .agg #[.int .i64 k, .string s, .int .i64 n, .slice EA el EC], .bool b] w' fun r w'' => r = .returned (.int .i64 (if b = true then tyE (its js) t true else tyE (its js) t false)) ∧ Below w'.heap.size w' w'' := fun b w' hw => by
      have := rType_c (its js) hfw t _ b A C w' (hi.below hw).is (ht.stays hw)
      rw [its_len js, rT_eq (its js) t b (fun _ => hdt)] at this
      refine this.mono fun e w'' h => ⟨?_, h.2⟩
      cases b <;> exact h.1
    cases hX : chk js with
    | none =>
      rw [hX] at CK RK
      exact ncheck_walk k s n EA el EC js.length C A nm w 0 0 _ _ _ FW CK RK NT RT (fun w' => taken_c nm w') (fun w' => rTaken_c nm w')
    | some ae =>
      obtain ⟨a, e⟩ := ae
      rw [hX] at CK RK
      exact ncheck_walk k s n EA el EC js.length C A nm w a e _ _ _ FW CK RK NT RT (fun w' => taken_c nm w') (fun w' => rTaken_c nm w')
  · rw [decide_eq_false hfw] at FW
    exact ncheck_short k s n EA el EC js.length C A nm w FW

end

section
open Go.ChangeShapes Go.WideShapes Go.ChangeAt Go.RowKit

theorem laidOutA : laidOutB Tryz.prog = true := by kernel_rfl

def zeroArgs : Array Value := #[.slice none 0 0, .agg #[.int .i64 0, .string ⟨#[]⟩, .int .i64 0, .slice none 0 0], .string ⟨#[]⟩]

def zT {H : Type} : DataW H := .agg [.lit (.int .i64 0), .lit (.string []), .lit (.int .i64 0), .nil]

theorem reads (os : Os) {H : Type} (enc : TypeId × Value → H) : ∃ places, DataW.whole enc Tryz.prog ((World.doorLaid Tryz.prog 400 os).forCall (fun _ _ => 0) ⟨#[], zeroArgs, []⟩).memory Tryz.f3.params.toList Rows.namesCheckSpec.vars false zeroArgs.toList 8 = some ([.nil, zT, .lit (.string [])], [], places) :=
  ⟨[], by kernel_rfl⟩

theorem laid_eq : Rows.namesCheckUptoRow.laid = laid3 := rfl

set_option maxRecDepth 100000 in
theorem contract (H : Type) (enc : TypeId × Value → H) (W : World) (base : Nat) (args : Array Value) (ds gs : List (DataW H)) (before : List MemPlace)
    (hval : ∀ (j : Nat) t v, Tryz.f3.params[j]? = some t → args[j]? = some v → Value.okWide Tryz.prog W .any base t v)
    (hW : DataW.Whole enc Tryz.prog Tryz.f3.params.toList Rows.namesCheckSpec.vars false W args.toList ds gs before) (hk : Rows.uptoSmall H (ds ++ gs) = true) (hL : laidMetH Tryz.prog laid3 W) :
    Calls Tryz.prog 3 args W fun e W' => ∃ v, e = .returned v ∧ Rows.namesCheckSpec.post enc Tryz.prog Tryz.f3 false true false false W args v W' := by
  have hW' := hW
  obtain ⟨p, q, hA0, hV, rfl, hfz, hnd⟩ := hW
  have hA : DataW.TrodAll enc Tryz.prog W 0 (fun _ => true) true Tryz.f3.params.toList args.toList ds p := hA0
  rw [Tryz.params3] at hA hval
  obtain ⟨v0, vs0, d0, ds0, p0, q0, hargs, rfl, rfl, h0, r0⟩ := trodAll_cons hA
  obtain ⟨v1, vs1, d1, ds1, p1, q1, rfl, rfl, rfl, h1, r1⟩ := trodAll_cons r0
  obtain ⟨v2, vs2, d2, ds2, p2, q2, rfl, rfl, rfl, h2, r2⟩ := trodAll_cons r1
  obtain ⟨rfl, rfl, rfl⟩ := trodAll_nil r2
  obtain rfl : args = #[v0, v1, v2] := by cases args; simp_all
  obtain ⟨rfl, rfl⟩ := trodVars_none hV
  have h0k := h0
  have h1k := h1
  have h2k := h2
  obtain ⟨A, l, C, rfl⟩ := okWide_slice Tryz.underlying22 (hval 0 22 v0 rfl rfl)
  obtain ⟨cs1, rfl, _⟩ := okWide_struct Tryz.underlying25 (hval 1 25 v1 rfl rfl)
  obtain ⟨nm, rfl⟩ := okWide_string Tryz.underlying9 (hval 2 9 v2 rfl rfl)
  clear hA0
  simp only [List.append_nil] at hW' hk
  have hbulk : Rows.uptoBulkAll [d0, d1, d2] ≤ 1048576 := of_decide_eq_true hk
  simp only [Rows.uptoBulkAll] at hbulk
  obtain ⟨fuel0, hf0⟩ := h0
  obtain ⟨fuel1, hf1⟩ := h1
  obtain ⟨A', C', js, e0, hi, hs, hC, hd⟩ := open_JsU hf0 (by show Rows.uptoBulk d0 ≤ _; omega)
  have e0 : [Value.slice A l C] = [.slice A' js.length C'] := e0
  simp at e0
  obtain ⟨rfl, rfl, rfl⟩ := e0
  obtain ⟨t, ht, hdt⟩ := open_TU fuel1 _ _ hf1
  have hdt' : dep t ≤ Rows.uptoBulk d1 := hdt
  obtain ⟨kt, st, nt, At, lt, Ct, e1⟩ := open_T4 hf1
  have e1' : cs1.toList = _ := e1
  rw [e1] at ht
  have g1 : cs1 = #[.int .i64 kt, .string st, .int .i64 nt, .slice At lt Ct] := by rw [← Array.toArray_toList (xs := cs1), e1']
  subst g1
  obtain ⟨hT, hS, hE⟩ := of_laid3 hL
  refine (ncheck_all js t kt st nt At lt Ct C A nm W hT hS hE hi hs hC hd ht (by omega)).mono fun e W' ⟨he, hg⟩ => ?_
  subst he
  have hlt : ∀ x ∈ p0 ++ (p1 ++ p2), x.block < W.heap.size := fun x hx => hW'.lt x hx
  exact ⟨_, rfl, _, _, _, [], _, [], hW', (trodAll_mk1 (shut_bool Tryz.underlying4 _)),
    trodAll_cons_mk (Below.trod laidOutA (by kernel_rfl) (of_decide_eq_true (by kernel_rfl)) h0k hg (fun x hx => hlt x (by simp [hx])))
      (trodAll_cons_mk (Below.trod laidOutA (by kernel_rfl) (of_decide_eq_true (by kernel_rfl)) h1k hg (fun x hx => hlt x (by simp [hx])))
        (trodAll_cons_mk (Below.trod laidOutA (by kernel_rfl) (of_decide_eq_true (by kernel_rfl)) h2k hg (fun x hx => hlt x (by simp [hx]))) trodAll_mk0)), rfl, hg.frame _, fun h => by cases h⟩

set_option maxRecDepth 100000 in
theorem liftedUpto (os : Os) (started : os.Started) (H : Type) (enc : TypeId × Value → H) (F : Stop.Interp) :
    ReturnsInHanded {} Tryz.checked os 3 .any ((Rows.OpenSpec.upto Rows.namesCheckSpec).preRow enc Tryz.prog Tryz.f3 Rows.namesCheckUptoRow.domain false Rows.namesCheckUptoRow.laid) (((Rows.OpenSpec.upto Rows.namesCheckSpec).at F).post enc Tryz.prog Tryz.f3 false true false false) := by
  obtain ⟨places, hx⟩ := reads os enc
  refine returnsInHanded_of_row (C := Tryz.checked) (s := Rows.OpenSpec.upto Rows.namesCheckSpec) own3 started (by kernel_rfl) Tryz.func3
    (witness_row_at (enc := enc) (C := Tryz.checked) false (World.doorLaid Tryz.prog 400 os) zeroArgs rfl (by kernel_rfl) (by kernel_rfl) (by kernel_rfl)
      (OpenSpec.preRow_of_cond 8 hx (by kernel_rfl) (fun k hk => by cases hk; kernel_rfl) (by kernel_rfl) (door_met3 os _))) ?_
  intro W base args ds gs before hval hW _ hcond _ hL _ _
  exact contract H enc W base args ds gs before hval hW (hcond _ rfl) hL

theorem saidUpto : Rows.NamesCheckUptoSaid :=
  OpenClaim.holds_of_cond 3 Tryz.f3 rfl rfl rfl rfl rfl rfl rfl ⟨rfl, rfl, rfl, rfl, rfl⟩ rfl rfl rfl rfl rfl (by kernel_rfl) Tryz.func3 (by kernel_rfl)
    (of_decide_eq_true (by kernel_rfl)) (by unfold Func.isWrapper; first | (rw [if_pos (by decide +kernel)]; kernel_rfl) | (rw [if_neg (by decide +kernel)]; exact ⟨rfl, rfl⟩))
    (fun os started H enc _ F => by rw [OpenClaim.pre_eq_preRow]; exact liftedUpto os started H enc F)

theorem plain (f : FuncId) (fn : Func) (hf : Tryz.pinned.checked.prog.funcNamed "ferrule/ferrulelaw06.NamesCheck" = some f) (hfn : Tryz.pinned.checked.prog.funcs[f]? = some fn) :
    true = Tryz.pinned.checked.prog.looks [] ∧ ∀ (j : Nat) t, fn.params[j]? = some t → Tryz.pinned.checked.prog.wantsStandIn t = false := by
  obtain rfl : f = 3 := Option.some.inj ((show Tryz.prog.funcNamed "ferrule/ferrulelaw06.NamesCheck" = some 3 by kernel_rfl).symm.trans hf) |>.symm
  obtain rfl : fn = Tryz.f3 := (Option.some.inj (Tryz.func3.symm.trans hfn)).symm
  refine ⟨by kernel_rfl, fun j t ht => ?_⟩
  rw [Tryz.params3] at ht
  have hm : t ∈ [22, 25, 9] := by simpa using Array.mem_of_getElem? ht
  have hall : ([22, 25, 9].all fun u => !Tryz.prog.wantsStandIn u) = true := by kernel_rfl
  exact (show Tryz.prog.wantsStandIn t = false by simpa using List.all_eq_true.1 hall t hm)

theorem namesCheck_holds : Rows.NamesCheckUptoCardSaid :=
  Claim7.holds_tied_plain_at .later [] _ _ _ _ saidUpto (fun _ h => by cases h) (by kernel_rfl) (fun _ h => by cases h) namesCheckUpto_row_tie rfl ⟨rfl, rfl⟩ (by kernel_rfl) rfl plain (by kernel_rfl)

#print axioms namesCheck_holds
end
end Go.Proofs.YtjdkoahbahecoaaGreatDoor
