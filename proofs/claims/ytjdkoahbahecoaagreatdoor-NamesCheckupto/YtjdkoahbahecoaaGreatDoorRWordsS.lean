/-
  Proved: the document's own words of a struct: those of its fields together.
-/
import Derived.Test.YtjdkoahbahecoaaGreatDoorRWordsA
namespace Go.Proofs.YtjdkoahbahecoaaGreatDoor
open Go.RowKit

attribute [local go_sem ↓] fold38 foldS

/-- What several types have, step by step. -/
theorem tog_step {f : T → Nat → Option Am} {room : Nat} {a b : Am} {t : T} {ts : List T} (h : tog f room a (t :: ts) = some b) : ∃ o, f t (room - a.p) = some o ∧ tog f room ⟨a.p + o.p, a.w + o.w, a.m + o.m⟩ ts = some b := by
  rw [tog] at h
  cases hf : f t (room - a.p) with
  | none => rw [hf] at h; cases h
  | some o => rw [hf] at h; exact ⟨o, rfl, h⟩

set_option maxRecDepth 100000 in
set_option maxHeartbeats 1200000 in
theorem rw_struct (is : List It) (N room : Nat) (hN : N ≤ 511) (hroom : room ≤ N + 1) (hroom1 : 1 ≤ room) (s : ByteArray) (n : Int) (EA : Option Addr) (el EC C : Nat) (A : Option Addr) (w : World) (hi : IsIn w is A) (j : Nat) (hf : fst s is 0 = some j) (hj : j < is.length) (hk : (is[j]'hj).k = 2) (am0 : Am)
    (ha : tog (am is N) room ⟨1, 0, 0⟩ ((is[j]'hj).ps.map (·.2)) = some am0)
    (KEY : Hid (∀ t q o, q ≤ N → am is N t q = some o → ∀ w' cs, Below w.heap.size w w' → TIn w' t cs → Calls Tryz.prog 45 #[.slice A is.length C, .agg cs.toArray] w' fun e w'' => e = .returned (.int .i64 (o.w : Int)) ∧ Below w'.heap.size w' w'')) :
    Calls Tryz.prog 45 #[.slice A is.length C, .agg #[.int .i64 9, .string s, .int .i64 n, .slice EA el EC]] w fun e w' => e = .returned (.int .i64 (am0.w : Int)) ∧ Below w.heap.size w w' := by
  obtain ⟨b, o, P, pc, V, vc, r, rfl, hrow, hps, hvs⟩ := hi.2 j hj
  have RI : Hid (∀ w', Below w.heap.size w w' → Calls Tryz.prog 19 #[.slice (some ⟨b, o, none⟩) is.length C, .string s] w' fun e w'' => e = .returned (.int .i64 (j : Int)) ∧ Below w'.heap.size w' w'') := fun w' hw => by
    have := ritem_c is s (some ⟨b, o, none⟩) C w' (hi.below hw)
    rw [hf] at this
    exact this
  have hl := hi.1
  generalize is[j]'hj = it at hrow hps hvs hk ha
  obtain ⟨ik, is', ps, vs⟩ := it
  simp only at hrow hps hvs hk ha
  subst hk
  have h20 := icells_20 2 is' P ps.length pc V vs.length vc r
  have HLD : Hid (∀ w', Below w.heap.size w w' → (ldI (.pointer (some ⟨b, o + j * 20, none⟩))).run Tryz.prog w' = .ok (.agg (icells 2 is' P ps.length pc V vs.length vc r).toArray) w') := fun w' hw => load20 h20 (hrow.below hw)
  have HST : Hid (∀ w1 : World, ∃ W2, (stI (.pointer (some ⟨w1.heap.size, 0, none⟩)) (.agg (icells 2 is' P ps.length pc V vs.length vc r).toArray)).run Tryz.prog (w1.alloc (.cells (icells 0 ⟨#[]⟩ none 0 0 none 0 0 zr).toArray 43)) = .ok () W2 ∧ Below w1.heap.size w1 W2 ∧ w1.heap.size < W2.heap.size ∧ Hid (∀ w', Below W2.heap.size W2 w' → w'.cell? ⟨w1.heap.size, 0, none⟩ = some (.int .i64 2) ∧ w'.cell? ⟨w1.heap.size, 3, none⟩ = some (.slice P ps.length pc))) := fun w1 => by
    obtain ⟨W2, st, at2, bl2⟩ := store20 (At.new w1 (icells 0 ⟨#[]⟩ none 0 0 none 0 0 zr).toArray 43) rfl h20
    refine ⟨W2, st, bl2 _ _ (below_alloc _ _) (Nat.le_refl _), at2.lt, fun w' hw => ?_⟩
    have a := at2.below hw at2.lt
    exact ⟨(a.cell 0).trans rfl, (a.cell 3).trans rfl⟩
  have HP : Hid (PsIn w ps P) := hps
  have hpl := hps.1
  have hlt' : (j : Int) < (is.length : Int) := by omega
  have HW1 : Hid (∀ a, Below w.heap.size w (w.alloc a)) := below_alloc w
  have HTG : Hid (tog (am is N) room ⟨1, 0, 0⟩ ((ps.map (·.2)).drop 0) = some am0) := ha
  have FIN : Hid (Fine (am is N)) := am_ok is N
  generalize (Value.agg (icells 2 is' P ps.length pc V vs.length vc r).toArray) = VI at HLD HST
  simp only [icells, zr] at HST
  clear hrow hps hvs hi hf ha h20
  go_enter Tryz.func45, Tryz.ntmps45
  go_wp2_with (first
    | (go_at_call 19; refine (RI.out _ (HW1.out _)).mono ?_; rintro e w1 ⟨rfl, hb1⟩; have B1 : Hid (Below w.heap.size w w1) := below_next (HW1.out _) hb1; clear hb1; have ld := HLD.out w1 B1.out; obtain ⟨W2, st, bl2, sz2, CC⟩ := HST.out w1; have B2 : Hid (Below w.heap.size w W2) := below_next B1.out bl2; have c0 := (CC.out _ (Below.refl _ _)).1; clear bl2))
  go_loopw [6, 7] (fun sv iv wz => ∃ (i p q m : Nat), i ≤ ps.length ∧ iv = .int .i64 (i : Int) ∧ sv = .int .i64 (q : Int) ∧ q + 1 ≤ p ∧ p ≤ room ∧ Hid (tog (am is N) room ⟨p, q, m⟩ ((ps.map (·.2)).drop i) = some am0) ∧ Hid (Below W2.heap.size W2 wz)) (fun _ iv _ => ps.length - (intOf iv).toNat)
  case atStart => exact ⟨0, 1, 0, 0, Nat.zero_le _, rfl, rfl, by omega, hroom1, HTG.out, Below.refl _ _⟩
  case round =>
    obtain ⟨i, p, q, m, hil, rfl, rfl, hqp, hpr, HT, HZ⟩ := hrel
    obtain ⟨g0, g3⟩ := CC.out wr HZ.out
    have hz2 : w1.heap.size < wr.heap.size := Nat.lt_of_lt_of_le sz2 HZ.out.size
    have HBW : Hid (Below w.heap.size w wr) := below_next B2.out HZ.out
    by_cases hlt : i < ps.length
    · have hlt2 : (i : Int) < (ps.length : Int) := by omega
      obtain ⟨pb, po, mu, at', cs1, rfl, prow, ht1⟩ := HP.out.2 i hlt
      have hts : (ps.map (·.2)).drop i = (ps[i]'hlt).2 :: (ps.map (·.2)).drop (i + 1) := by
        rw [List.drop_eq_getElem_cons (by simpa using hlt)]
        simp
      have h1 := HT.out
      rw [hts] at h1
      obtain ⟨o1, ho1, h2⟩ := tog_step h1
      have fine := FIN.out _ _ _ ho1
      have key := KEY.out _ (room - p) _ (by omega) ho1 wr cs1 HBW.out (ht1.stays HBW.out)
      generalize ps[i]'hlt = pp at prow ht1 
      obtain ⟨pn, pt⟩ := pp
      obtain ⟨tk, tn, tm, tes⟩ := pt
      simp only at prow ht1
      have prow := prow.below HBW.out
      obtain ⟨TA, TC, rfl, _⟩ := ht1.inv
      have d2 := prow.2 2 _ rfl
      have d3 := prow.2 3 _ rfl
      have d4 := prow.2 4 _ rfl
      have d5 := prow.2 5 _ rfl
      obtain ⟨op, ow, om⟩ := o1
      simp only at fine key h2
      have HT2 : Hid (tog (am is N) room ⟨p + op, q + ow, m + om⟩ ((ps.map (·.2)).drop (i + 1)) = some am0) := h2
      have K : Hid (Calls Tryz.prog 45 #[.slice (some ⟨b, o, none⟩) is.length C, .agg #[.int .i64 tk, .string tn, .int .i64 tm, .slice TA tes.length TC]] wr fun e w'' => e = .returned (.int .i64 (ow : Int)) ∧ Below wr.heap.size wr w'') := key
      obtain ⟨f1, f2, f3, f4⟩ := fine
      have hpb := prow.1
      clear prow ht1 hts h1 h2 key ho1 HT
      go_wp2_with (go_at_call 45; refine K.out.mono ?_; rintro e w4 ⟨rfl, hb4⟩; have H4 : Hid (Below W2.heap.size W2 w4) := below_next HZ.out hb4; clear hb4)
      go_roundw
      case rel => exact ⟨i + 1, p + op, q + ow, m + om, by omega, by go_num, by go_num, by omega, by omega, HT2.out, H4.out⟩
      case measure => simp [intOf]; omega
    · obtain rfl : i = ps.length := by omega
      have h1 := HT.out
      rw [List.drop_eq_nil_of_le (by simp), tog] at h1
      have HE : Hid (q = am0.w) := by cases h1; rfl
      clear h1 HT
      go_wp2
      go_ret
      exact ⟨by rw [← HE.out]; rfl, HBW.out⟩

end Go.Proofs.YtjdkoahbahecoaaGreatDoor
