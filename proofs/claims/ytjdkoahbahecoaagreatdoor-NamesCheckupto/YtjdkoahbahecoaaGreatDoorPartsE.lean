/-
  Proved: the document's own parts tells an enum's own parts.
-/
import Derived.Test.YtjdkoahbahecoaaGreatDoorParts
namespace Go.Proofs.YtjdkoahbahecoaaGreatDoor
open Go.RowKit

theorem addr_addE (b o m : Nat) : (⟨b, o, none⟩ : Addr).add m = ⟨b, o + m, none⟩ := by unfold Addr.add; split <;> simp_all

theorem TsIn.c4 {w : World} {us : List T} {B : Option Addr} (h : TsIn w us B) : ∃ ys, C4 w us ys ∧ ((us.length = 0 ∧ B = none) ∨ ∃ ad, B = some ad ∧ ∀ j u, ys[j]? = some u → w.cell? (ad.add j) = some u) := by
  cases us with
  | nil =>
    refine ⟨[], rfl, ?_⟩
    cases B with
    | none => exact Or.inl ⟨rfl, rfl⟩
    | some ad => exact Or.inr ⟨ad, rfl, fun j u hj => by simp at hj⟩
  | cons t us =>
    obtain ⟨b, o, cs, rfl, h1, h2⟩ := h.2 0 (by simp)
    obtain ⟨ys, h3, h4⟩ := C4.of (w := w) (b := b) (us := t :: us) (o := o) (fun i hi => by
      obtain ⟨b', o', cs', e, k1, k2⟩ := h.2 i hi
      cases e
      exact ⟨cs', k1, k2⟩)
    refine ⟨ys, h3, Or.inr ⟨_, rfl, fun j u hj => ?_⟩⟩
    rw [addr_addE]
    exact h4 j u hj

theorem C4.stays {w w' : World} (hb : Below w.heap.size w w') : ∀ {ts : List T} {xs : List Value}, C4 w ts xs → C4 w' ts xs
  | [], xs, h => h
  | t :: ts, xs, h => by
    obtain ⟨cs, ys, e, h1, h2⟩ := h
    exact ⟨cs, ys, e, h1.stays hb, C4.stays hb h2⟩

theorem c4_below {w w' : World} (hb : Below w.heap.size w w') {us : List T} {B : Option Addr} {ys : List Value} (h : (us.length = 0 ∧ B = none) ∨ ∃ ad, B = some ad ∧ ∀ j u, ys[j]? = some u → w.cell? (ad.add j) = some u) : (us.length = 0 ∧ B = none) ∨ ∃ ad, B = some ad ∧ ∀ j u, ys[j]? = some u → w'.cell? (ad.add j) = some u := by
  rcases h with h | ⟨ad, e, h⟩
  · exact Or.inl h
  · refine Or.inr ⟨ad, e, fun j u hj => ?_⟩
    have h1 := h j u hj
    exact (hb.cell (World.block_lt_of_cell? (h := h1))).trans h1

theorem flat_take (vs : List (ByteArray × List T)) (k : Nat) (h : k < vs.length) : ((vs.map (·.2)).take (k + 1)).flatten = ((vs.map (·.2)).take k).flatten ++ (vs[k]'h).2 := by
  rw [List.take_add_one]; simp [List.getElem?_eq_getElem h]

theorem flat_len (vs : List (ByteArray × List T)) (k : Nat) : ((vs.map (·.2)).take k).flatten.length ≤ (vs.map (·.2.length)).sum := by
  rw [List.length_flatten, ← List.map_take, List.map_map]
  have h : (vs.map (·.2.length)).sum = ((vs.take k).map (·.2.length)).sum + ((vs.drop k).map (·.2.length)).sum := by
    rw [← List.sum_append, ← List.map_append, List.take_append_drop]
  rw [h]
  exact Nat.le_add_right _ _

set_option maxRecDepth 100000 in
set_option maxHeartbeats 4000000 in
theorem parts_enum (is : List It) (s : ByteArray) (n : Int) (EA : Option Addr) (el EC C : Nat) (A : Option Addr) (w : World) (hi : IsIn w is A) (j : Nat) (hf : fst s is 0 = some j) (hj : j < is.length) (hk : (is[j]'hj).k = 3) (hfew : ((is[j]'hj).vs.map (·.2.length)).sum < 300) :
    Calls Tryz.prog 83 #[.slice A is.length C, .agg #[.int .i64 9, .string s, .int .i64 n, .slice EA el EC]] w fun e w' => PtsA (some ((is[j]'hj).vs.map (·.2)).flatten) e w' ∧ Below w.heap.size w w' := by
  obtain ⟨b, o, P, pc, V, vc, r, rfl, hrow, hps, hvs⟩ := hi.2 j hj
  have RI : Hid (∀ w', Below w.heap.size w w' → Calls Tryz.prog 19 #[.slice (some ⟨b, o, none⟩) is.length C, .string s] w' fun e w'' => e = .returned (.int .i64 (j : Int)) ∧ Below w'.heap.size w' w'') := fun w' hw => by
    have := ritem_c is s (some ⟨b, o, none⟩) C w' (hi.below hw)
    rw [hf] at this
    exact this
  have hl := hi.1
  generalize is[j]'hj = it at hrow hps hvs hk hfew
  obtain ⟨ik, is', ps, vs⟩ := it
  simp only at hrow hps hvs hk hfew ⊢
  subst hk
  have HC : Hid (∀ w', Below w.heap.size w w' → w'.cell? ⟨b, o + j * 20, none⟩ = some (.int .i64 3) ∧ w'.cell? ⟨b, o + j * 20 + 3, none⟩ = some (.slice P ps.length pc) ∧ w'.cell? ⟨b, o + j * 20 + 4, none⟩ = some (.slice V vs.length vc) ∧ b < w'.heap.size) := fun w' hw => by
    have h := hrow.below hw
    exact ⟨h.2 0 _ rfl, h.2 3 _ rfl, h.2 4 _ rfl, h.1⟩
  have HV : Hid (VsIn w vs V) := hvs
  have hvl := hvs.1
  have hpl := hps.1
  have hlt' : (j : Int) < (is.length : Int) := by omega
  have HW1 : Hid (∀ a, Below w.heap.size w (w.alloc a)) := below_alloc w
  have FEW : Hid ((vs.map (·.2.length)).sum < 300) := hfew
  clear hrow hps hvs hi hf hfew
  go_enter Tryz.func83, Tryz.ntmps83
  go_wp2_with (go_at_call 19; refine (RI.out _ (HW1.out _)).mono ?_; rintro e w1 ⟨rfl, hb1⟩; have B1 : Hid (Below (w.alloc (.cells #[.int .i64 9, .string s, .int .i64 n, .slice EA el EC] 25)).heap.size (w.alloc (.cells #[.int .i64 9, .string s, .int .i64 n, .slice EA el EC] 25)) w1) := hb1; clear hb1)
  generalize hw0 : w.alloc (.cells #[.int .i64 9, .string s, .int .i64 n, .slice EA el EC] 25) = w0 at B1
  have W0 : Hid (Below w.heap.size w w0) := by rw [← hw0]; exact HW1.out _
  clear hw0
  go_loopw [7, 8] (fun v iv wr => iv = .int .i64 0 ∧ v = .slice none 0 0 ∧ Hid (Below w0.heap.size w0 wr)) (fun _ _ _ => 0)
  case atStart => exact ⟨rfl, rfl, B1.out⟩
  case round =>
    obtain ⟨rfl, rfl, HB⟩ := hrel
    obtain ⟨c0, c3, c4, hb⟩ := HC.out wr (below_next W0.out HB.out)
    rename World => w2
    by_cases hp : 0 < ps.length
    · have hp' : (0 : Int) < (ps.length : Int) := by omega
      go_wp2
      go_loopw [7, 9] (fun v iv wr => ∃ k : Nat, k ≤ vs.length ∧ iv = .int .i64 (k : Int) ∧ Hid (LP w0 ((vs.map (·.2)).take k).flatten v wr)) (fun _ iv _ => vs.length - (intOf iv).toNat)
      case atStart => exact ⟨0, Nat.zero_le _, rfl, LP.start HB.out⟩
      case round =>
        obtain ⟨k, hk, rfl, HL⟩ := hrel
        have HBW : Hid (Below w.heap.size w wr) := below_next W0.out HL.out.1
        obtain ⟨e0, e3, e4, eb⟩ := HC.out wr HBW.out
        by_cases hlt : k < vs.length
        · have hlt2 : (k : Int) < (vs.length : Int) := by omega
          obtain ⟨vb, vo, VB, vcap, at', rfl, vrow, ht1⟩ := HV.out.2 k hlt
          have hts := flat_take vs k hlt
          have hlen := flat_len vs (k + 1)
          rw [hts, List.length_append] at hlen
          generalize vs[k]'hlt = p at vrow ht1 hts hlen
          obtain ⟨vn, us⟩ := p
          simp only at vrow ht1 hts hlen
          have vrow := vrow.below HBW.out
          have d1 := vrow.2 1 _ rfl
          obtain ⟨ys, hy1, hy2⟩ := ht1.c4
          have HY1 : Hid (C4 w0 us ys) := hy1.stays W0.out
          have HY2 : Hid ((us.length = 0 ∧ VB = none) ∨ ∃ ad, VB = some ad ∧ ∀ j u, ys[j]? = some u → wr.cell? (ad.add j) = some u) := c4_below HBW.out hy2
          have HTS : Hid (((vs.map (·.2)).take (k + 1)).flatten = ((vs.map (·.2)).take k).flatten ++ us) := hts
          have HLEN : Hid (((vs.map (·.2)).take k).flatten.length + us.length ≤ 1000) := by have := FEW.out; show _ ≤ _; omega
          clear vrow ht1 hts hlen hy1 hy2
          go_wp2_with (at_builtin; refine append_ts _ rfl _ _ rfl _ rfl w0 _ us HL.out VB vcap ys HY1.out rfl HY2.out HLEN.out ?_; intro v5 w5 h5; have S5 : Hid (LP w0 ((vs.map (·.2)).take (k + 1)).flatten v5 w5) := (by rw [HTS.out]; exact h5); clear h5)
          go_roundw
          case rel => exact ⟨k + 1, by omega, by go_num, S5.out⟩
          case measure => simp [intOf]; omega
        · have hke : k = vs.length := by omega
          subst hke
          have HL2 : Hid (LP w0 (vs.map (·.2)).flatten u7 wr) := by have h := HL.out; rw [List.take_of_length_le (by simp)] at h; exact h
          have FIN : Hid (∃ A' C', u7 = .slice A' (vs.map (·.2)).flatten.length C' ∧ TsIn wr (vs.map (·.2)).flatten A') := HL2.out.done (by have h := flat_len vs vs.length; rw [List.take_of_length_le (by simp)] at h; have := FEW.out; omega)
          go_wp2
          obtain ⟨A', C', rfl, hts⟩ := FIN.out
          refine bodyPost_ret (v := .tuple #[.slice A' (vs.map (·.2)).flatten.length C', .bool true]) (by simp [results, Tryz.results83, go_sem]) rfl ⟨⟨A', C', rfl, hts⟩, HBW.out⟩
    · have hp' : ¬ (0 : Int) < (ps.length : Int) := by omega
      go_wp2
      go_loopw [7, 9] (fun v iv wr => ∃ k : Nat, k ≤ vs.length ∧ iv = .int .i64 (k : Int) ∧ Hid (LP w0 ((vs.map (·.2)).take k).flatten v wr)) (fun _ iv _ => vs.length - (intOf iv).toNat)
      case atStart => exact ⟨0, Nat.zero_le _, rfl, LP.start HB.out⟩
      case round =>
        obtain ⟨k, hk, rfl, HL⟩ := hrel
        have HBW : Hid (Below w.heap.size w wr) := below_next W0.out HL.out.1
        obtain ⟨e0, e3, e4, eb⟩ := HC.out wr HBW.out
        by_cases hlt : k < vs.length
        · have hlt2 : (k : Int) < (vs.length : Int) := by omega
          obtain ⟨vb, vo, VB, vcap, at', rfl, vrow, ht1⟩ := HV.out.2 k hlt
          have hts := flat_take vs k hlt
          have hlen := flat_len vs (k + 1)
          rw [hts, List.length_append] at hlen
          generalize vs[k]'hlt = p at vrow ht1 hts hlen
          obtain ⟨vn, us⟩ := p
          simp only at vrow ht1 hts hlen
          have vrow := vrow.below HBW.out
          have d1 := vrow.2 1 _ rfl
          obtain ⟨ys, hy1, hy2⟩ := ht1.c4
          have HY1 : Hid (C4 w0 us ys) := hy1.stays W0.out
          have HY2 : Hid ((us.length = 0 ∧ VB = none) ∨ ∃ ad, VB = some ad ∧ ∀ j u, ys[j]? = some u → wr.cell? (ad.add j) = some u) := c4_below HBW.out hy2
          have HTS : Hid (((vs.map (·.2)).take (k + 1)).flatten = ((vs.map (·.2)).take k).flatten ++ us) := hts
          have HLEN : Hid (((vs.map (·.2)).take k).flatten.length + us.length ≤ 1000) := by have := FEW.out; show _ ≤ _; omega
          clear vrow ht1 hts hlen hy1 hy2
          go_wp2_with (at_builtin; refine append_ts _ rfl _ _ rfl _ rfl w0 _ us HL.out VB vcap ys HY1.out rfl HY2.out HLEN.out ?_; intro v5 w5 h5; have S5 : Hid (LP w0 ((vs.map (·.2)).take (k + 1)).flatten v5 w5) := (by rw [HTS.out]; exact h5); clear h5)
          go_roundw
          case rel => exact ⟨k + 1, by omega, by go_num, S5.out⟩
          case measure => simp [intOf]; omega
        · have hke : k = vs.length := by omega
          subst hke
          have HL2 : Hid (LP w0 (vs.map (·.2)).flatten u7 wr) := by have h := HL.out; rw [List.take_of_length_le (by simp)] at h; exact h
          have FIN : Hid (∃ A' C', u7 = .slice A' (vs.map (·.2)).flatten.length C' ∧ TsIn wr (vs.map (·.2)).flatten A') := HL2.out.done (by have h := flat_len vs vs.length; rw [List.take_of_length_le (by simp)] at h; have := FEW.out; omega)
          go_wp2
          obtain ⟨A', C', rfl, hts⟩ := FIN.out
          refine bodyPost_ret (v := .tuple #[.slice A' (vs.map (·.2)).flatten.length C', .bool true]) (by simp [results, Tryz.results83, go_sem]) rfl ⟨⟨A', C', rfl, hts⟩, HBW.out⟩

end Go.Proofs.YtjdkoahbahecoaaGreatDoor
