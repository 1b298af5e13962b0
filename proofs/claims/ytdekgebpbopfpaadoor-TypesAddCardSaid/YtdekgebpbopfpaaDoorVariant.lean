/-
  Proved: types.Variant tells an enum's variant: which one it is, and as many types as it has.
-/
import Derived.Test.YtdekgebpbopfpaaDoorCopies
namespace Go.Proofs.YtdekgebpbopfpaaDoor
open Go.RowKit

/-- Where the first variant of a name stands. -/
def vfd (q : ByteArray) : List (ByteArray × List T) → Nat → Option Nat
  | [], _ => none
  | v :: vs, k => if v.1 = q then some k else vfd q vs (k + 1)

theorem vfd_drop (q : ByteArray) (vs : List (ByteArray × List T)) (i : Nat) (h : i < vs.length) : vfd q (vs.drop i) i = if (vs[i]'h).1 = q then some i else vfd q (vs.drop (i + 1)) (i + 1) := by
  rw [List.drop_eq_getElem_cons h, vfd]

/-- What is answered. -/
def VarA (vs : List (ByteArray × List T)) (R : Option Nat) (e : Ending) : Prop :=
  match R with
  | none => e = .returned (.tuple #[.int .i64 0, .slice none 0 0, .bool false])
  | some i => ∃ A' C', e = .returned (.tuple #[.int .i64 (i : Int), .slice A' ((vs[i]?.map (·.2.length)).getD 0) C', .bool true])

theorem field4 (k : Int) (s : ByteArray) (P : Option Addr) (pl pc : Nat) (V : Option Addr) (vl vc : Nat) (r : Rst) (w : World) : (Instr.field 38 (.agg (icells k s P pl pc V vl vc r).toArray) 4).run Tryd.prog w = .ok (.slice V vl vc) w := by kernel_rfl

set_option maxRecDepth 100000 in
set_option maxHeartbeats 4000000 in
theorem variant_walk (vs : List (ByteArray × List T)) (l C : Nat) (A : Option Addr) (s : ByteArray) (n : Int) (EA : Option Addr) (el EC : Nat) (q : ByteArray) (w : World) (VI : Value) (V : Option Addr) (vc : Nat)
    (hfd : ∀ w', (Instr.field 38 VI 4).run Tryd.prog w' = .ok (.slice V vs.length vc) w') (hv : VsIn w vs V) (CP : Hid (∀ i (h : i < vs.length), CopiesC (vs[i]'h).2))
    (IT : Hid (∀ w', Below w.heap.size w w' → Calls Tryd.prog 16 #[.slice A l C, .agg #[.int .i64 9, .string s, .int .i64 n, .slice EA el EC], .int .i64 3] w' fun e w'' => e = .returned VI ∧ Below w'.heap.size w' w'')) :
    Calls Tryd.prog 13 #[.slice A l C, .agg #[.int .i64 9, .string s, .int .i64 n, .slice EA el EC], .string q] w
      fun e' w' => VarA vs (vfd q vs 0) e' ∧ Below w.heap.size w w' := by
  have HV : Hid (VsIn w vs V) := hv
  have hl := hv.1
  generalize hR : vfd q vs 0 = R
  have HR : Hid (vfd q (vs.drop 0) 0 = R) := hR
  have HW1 : Hid (∀ a, Below w.heap.size w (w.alloc a)) := below_alloc w
  clear hv hR
  go_enter Tryd.func13, Tryd.ntmps13
  go_wp2_with (go_at_call 16; refine (IT.out _ (HW1.out _)).mono ?_; rintro e w1 ⟨rfl, hb1⟩; have B1 : Hid (Below w.heap.size w w1) := below_next (HW1.out _) hb1; clear hb1)
  go_loopw [16] (fun i wr => ∃ k : Nat, k ≤ vs.length ∧ i = .int .i64 (k : Int) ∧ Hid (vfd q (vs.drop k) k = R) ∧ Hid (Below w.heap.size w wr)) (fun i _ => vs.length - (intOf i).toNat)
  case atStart => exact ⟨0, Nat.zero_le _, rfl, HR, B1⟩
  case round =>
    obtain ⟨k, hk, rfl, HK, HW⟩ := hrel
    by_cases hlt : k < vs.length
    · have hlt' : (k : Int) < (vs.length : Int) := by omega
      obtain ⟨b, o, VB, vcap, at', rfl, hrow, hts⟩ := (HV.out.below HW.out).2 k hlt
      have hdr := vfd_drop q vs k hlt
      have cp := CP.out k hlt
      have hln : (vs[k]?.map (·.2.length)).getD 0 = (vs[k]'hlt).2.length := by simp [List.getElem?_eq_getElem hlt]
      generalize vs[k]'hlt = v at hrow hts hdr cp hln
      obtain ⟨vn, vts⟩ := v
      simp only at hrow hts hdr cp hln
      have c0 := hrow.2 0 _ rfl
      have c1 := hrow.2 1 _ rfl
      have c2 := hrow.2 2 _ rfl
      simp only [Nat.add_zero] at c0
      have HD : Hid (vfd q (vs.drop k) k = if vn = q then some k else vfd q (vs.drop (k + 1)) (k + 1)) := hdr
      have HB1 : Hid (∀ o, Below wr.heap.size wr (wr.alloc o)) := below_alloc wr
      have CC : Hid (∀ w', Below wr.heap.size wr w' → Calls Tryd.prog 18 #[.slice VB vts.length vcap] w' fun e w'' => (∃ A' C', e = .returned (.slice A' vts.length C')) ∧ Below w'.heap.size w' w'') := fun w' hw => cp w' VB vcap (hts.below hw)
      have HL : Hid ((vs[k]?.map (·.2.length)).getD 0 = vts.length) := hln
      clear hrow hts hdr cp hln
      by_cases hs : vn = q
      · subst hs
        go_wp2_with (go_at_call 18; refine (CC.out _ (HB1.out _)).mono ?_; rintro e w2 ⟨⟨A', C', rfl⟩, hb1⟩; have M : Hid (Below wr.heap.size wr w2) := below_next (HB1.out _) hb1; clear hb1)
        refine bodyPost_ret (v := .tuple #[.int .i64 (k : Int), .slice A' vts.length C', .bool true]) (by simp [results, Tryd.results13, go_sem]) rfl ⟨?_, HW.out.trans (M.out.mono HW.out.size)⟩
        have h1 := HK.out
        rw [HD.out] at h1
        simp only [if_true] at h1
        rw [← h1]
        exact ⟨A', C', by rw [HL.out]⟩
      · obtain ⟨h1, h2⟩ := str_ne hs
        have HS : Hid (¬ vn = q) := hs
        clear hs
        go_wp2
        go_roundw
        case rel => exact ⟨k + 1, by omega, by go_num, by have h1 := HK.out; rw [HD.out, if_neg HS.out] at h1; exact h1, HW.out.alloc HW.out.size _⟩
        case measure => simp [intOf]; omega
    · go_wp2
      refine bodyPost_ret (v := .tuple #[.int .i64 0, .slice none 0 0, .bool false]) (by simp [results, Tryd.results13, go_sem]) rfl ⟨?_, HW.out⟩
      have h1 := HK.out
      rw [List.drop_eq_nil_of_le (by omega), vfd] at h1
      rw [← h1]
      rfl

theorem variant_c (is : List It) (s : ByteArray) (n : Int) (EA : Option Addr) (el EC C : Nat) (A : Option Addr) (q : ByteArray) (w : World) (hi : IsIn w is A) (j : Nat) (hf : fst s is 0 = some j) (hj : j < is.length) (hk : (is[j]'hj).k = 3)
    (CP : ∀ i (h : i < (is[j]'hj).vs.length), CopiesC ((is[j]'hj).vs[i]'h).2) :
    Calls Tryd.prog 13 #[.slice A is.length C, .agg #[.int .i64 9, .string s, .int .i64 n, .slice EA el EC], .string q] w
      fun e' w' => VarA (is[j]'hj).vs (vfd q (is[j]'hj).vs 0) e' ∧ Below w.heap.size w w' := by
  obtain ⟨b, o, P, pc, V, vc, r, rfl, hrow, hps, hvs⟩ := hi.2 j hj
  rw [hk] at hrow
  refine variant_walk (is[j]'hj).vs is.length C (some ⟨b, o, none⟩) s n EA el EC q w (.agg (icells 3 (is[j]'hj).s P (is[j]'hj).ps.length pc V (is[j]'hj).vs.length vc r).toArray) V vc (field4 _ _ _ _ _ _ _ _ _) hvs CP (fun w' hw => ?_)
  refine itemOf_walk is.length C b o j hj s n EA el EC 3 _ w' (fun w'' hw' => ?_) (fun w'' hw' => ⟨(celI ((hrow.below hw).below hw')).1, load_item ((hrow.below hw).below hw')⟩) (fun w'' hw' hc => ?_)
  · have := first_c is s (some ⟨b, o, none⟩) C w'' ((hi.below hw).below hw')
    rw [hf] at this
    exact this
  · obtain ⟨cs, h1, h2⟩ := hc
    exact store_item (by omega) hw' h2 h1 _ _ _ _ _ _ _ _ _
end Go.Proofs.YtdekgebpbopfpaaDoor
