/-
  Proved: the document's own parts tells a type's own parts.
-/
import Derived.Test.YtjdkoahbahecoaaGreatDoorRowP
import Derived.Test.YtjdkoahbahecoaaGreatDoorRefItem
import Derived.Test.YtjdkoahbahecoaaGreatDoorLookP
import Derived.Test.YtjdkoahbahecoaaGreatDoorFew
namespace Go.Proofs.YtjdkoahbahecoaaGreatDoor
open Go.RowKit

/-- What parts answers. -/
def PtsA (r : Option (List T)) (e : Ending) (w' : World) : Prop :=
  match r with
  | none => ∃ A' l' C', e = .returned (.tuple #[.slice A' l' C', .bool false])
  | some ps => ∃ A' C', e = .returned (.tuple #[.slice A' ps.length C', .bool true]) ∧ TsIn w' ps A'

theorem C4.single {w : World} {t : T} {cs : List Value} (h : TIn w t cs) : C4 w [t] cs := ⟨cs, [], (List.append_nil _).symm, h, rfl⟩

set_option maxRecDepth 100000 in
set_option maxHeartbeats 4000000 in
theorem parts_struct (is : List It) (s : ByteArray) (n : Int) (EA : Option Addr) (el EC C : Nat) (A : Option Addr) (w : World) (hi : IsIn w is A) (j : Nat) (hf : fst s is 0 = some j) (hj : j < is.length) (hk : (is[j]'hj).k = 2) (hfew : (is[j]'hj).ps.length < 300) :
    Calls Tryz.prog 83 #[.slice A is.length C, .agg #[.int .i64 9, .string s, .int .i64 n, .slice EA el EC]] w fun e w' => PtsA (some ((is[j]'hj).ps.map (·.2))) e w' ∧ Below w.heap.size w w' := by
  obtain ⟨b, o, P, pc, V, vc, r, rfl, hrow, hps, hvs⟩ := hi.2 j hj
  have RI : Hid (∀ w', Below w.heap.size w w' → Calls Tryz.prog 19 #[.slice (some ⟨b, o, none⟩) is.length C, .string s] w' fun e w'' => e = .returned (.int .i64 (j : Int)) ∧ Below w'.heap.size w' w'') := fun w' hw => by
    have := ritem_c is s (some ⟨b, o, none⟩) C w' (hi.below hw)
    rw [hf] at this
    exact this
  have hl := hi.1
  generalize is[j]'hj = it at hrow hps hvs hk hfew
  obtain ⟨ik, is', ps, vs⟩ := it
  simp only at hrow hps hvs hk hfew ⊢
  subst hk
  have HC : Hid (∀ w', Below w.heap.size w w' → w'.cell? ⟨b, o + j * 20, none⟩ = some (.int .i64 2) ∧ w'.cell? ⟨b, o + j * 20 + 3, none⟩ = some (.slice P ps.length pc) ∧ w'.cell? ⟨b, o + j * 20 + 4, none⟩ = some (.slice V vs.length vc) ∧ b < w'.heap.size) := fun w' hw => by
    have h := hrow.below hw
    exact ⟨h.2 0 _ rfl, h.2 3 _ rfl, h.2 4 _ rfl, h.1⟩
  have HP : Hid (PsIn w ps P) := hps
  have hvl := hvs.1
  have hlt' : (j : Int) < (is.length : Int) := by omega
  have HW1 : Hid (∀ a, Below w.heap.size w (w.alloc a)) := below_alloc w
  clear hrow hps hvs hi hf
  go_enter Tryz.func83, Tryz.ntmps83
  go_wp2_with (go_at_call 19; refine (RI.out _ (HW1.out _)).mono ?_; rintro e w1 ⟨rfl, hb1⟩; have B1 : Hid (Below (w.alloc (.cells #[.int .i64 9, .string s, .int .i64 n, .slice EA el EC] 25)).heap.size (w.alloc (.cells #[.int .i64 9, .string s, .int .i64 n, .slice EA el EC] 25)) w1) := hb1; clear hb1)
  generalize hw0 : w.alloc (.cells #[.int .i64 9, .string s, .int .i64 n, .slice EA el EC] 25) = w0 at B1
  have W0 : Hid (Below w.heap.size w w0) := by rw [← hw0]; exact HW1.out _
  clear hw0
  go_loopw [7, 8] (fun v iv wr => ∃ k : Nat, k ≤ ps.length ∧ iv = .int .i64 (k : Int) ∧ Hid (LP w0 ((ps.map (·.2)).take k) v wr)) (fun _ iv _ => ps.length - (intOf iv).toNat)
  case atStart => exact ⟨0, Nat.zero_le _, rfl, LP.start B1.out⟩
  case round =>
    obtain ⟨k, hk, rfl, HL⟩ := hrel
    have HB : Hid (Below w.heap.size w wr) := below_next W0.out HL.out.1
    obtain ⟨c0, c3, c4, hb⟩ := HC.out wr HB.out
    by_cases hlt : k < ps.length
    · have hlt2 : (k : Int) < (ps.length : Int) := by omega
      obtain ⟨pb, po, mu, at', cs1, rfl, prow, ht1⟩ := HP.out.2 k hlt
      have hts : (ps.map (·.2)).take (k + 1) = (ps.map (·.2)).take k ++ [(ps[k]'hlt).2] := by rw [List.take_add_one]; simp [List.getElem?_eq_getElem hlt]
      have hlen : ((ps.map (·.2)).take k).length = k := by simp; omega
      generalize ps[k]'hlt = p at prow ht1 hts
      obtain ⟨pn, pt⟩ := p
      obtain ⟨tk, tn, tm, tes⟩ := pt
      simp only at prow ht1 hts
      have HT : Hid (TIn w0 (.mk tk tn tm tes) cs1) := ht1.stays W0.out
      have prow := prow.below HB.out
      obtain ⟨TA, TC, rfl, _⟩ := ht1.inv
      have d2 := prow.2 2 _ rfl
      have d3 := prow.2 3 _ rfl
      have d4 := prow.2 4 _ rfl
      have d5 := prow.2 5 _ rfl
      have HTS : Hid ((ps.map (·.2)).take (k + 1) = (ps.map (·.2)).take k ++ [.mk tk tn tm tes]) := hts
      have HLEN : Hid (((ps.map (·.2)).take k).length + ([.mk tk tn tm tes] : List T).length ≤ 1000) := by show ((ps.map (·.2)).take k).length + 1 ≤ 1000; omega
      clear prow ht1 hts hlen
      go_wp2_with (at_builtin; refine append_ts _ rfl _ _ rfl _ rfl w0 _ [.mk tk tn tm tes] (HL.out.below (below_alloc _ _)) (some ⟨wr.heap.size, 0, none⟩) 1 _ (C4.single HT.out) rfl (Or.inr ⟨_, rfl, cells_new _ _ _⟩) HLEN.out ?_; intro v5 w5 h5; have S5 : Hid (LP w0 ((ps.map (·.2)).take (k + 1)) v5 w5) := (by rw [HTS.out]; exact h5); clear h5)
      go_roundw
      case rel => exact ⟨k + 1, by omega, by go_num, S5.out⟩
      case measure => simp [intOf]; omega
    · have hke : k = ps.length := by omega
      subst hke
      have HL2 : Hid (LP w0 (ps.map (·.2)) u7 wr) := by have h := HL.out; rw [List.take_of_length_le (by simp)] at h; exact h
      clear HL
      rename World => w2
      go_wp2
      go_loopw [7, 9] (fun v iv wr => iv = .int .i64 0 ∧ Hid (LP w0 (ps.map (·.2)) v wr)) (fun _ _ _ => 0)
      case atStart => exact ⟨rfl, HL2.out⟩
      case round =>
        obtain ⟨rfl, HL3⟩ := hrel
        obtain ⟨d0, d3, d4, db⟩ := HC.out wr (below_next W0.out HL3.out.1)
        have FIN : Hid (∃ A' C', u7 = .slice A' (ps.map (·.2)).length C' ∧ TsIn wr (ps.map (·.2)) A') := HL3.out.done (by simp; omega)
        by_cases hv : 0 < vs.length
        · have hv' : (0 : Int) < (vs.length : Int) := by omega
          go_wp2
          obtain ⟨A', C', rfl, hts⟩ := FIN.out
          refine bodyPost_ret (v := .tuple #[.slice A' (ps.map (·.2)).length C', .bool true]) (by simp [results, Tryz.results83, go_sem]) rfl ⟨⟨A', C', rfl, hts⟩, below_next W0.out HL3.out.1⟩
        · have hv' : ¬ (0 : Int) < (vs.length : Int) := by omega
          go_wp2
          obtain ⟨A', C', rfl, hts⟩ := FIN.out
          refine bodyPost_ret (v := .tuple #[.slice A' (ps.map (·.2)).length C', .bool true]) (by simp [results, Tryz.results83, go_sem]) rfl ⟨⟨A', C', rfl, hts⟩, below_next W0.out HL3.out.1⟩

end Go.Proofs.YtjdkoahbahecoaaGreatDoor
