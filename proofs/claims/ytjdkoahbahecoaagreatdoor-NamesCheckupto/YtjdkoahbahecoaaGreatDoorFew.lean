/-
  Proved: few answers; where it says yes, items, fields, variants and their types are fewer than 300 together.
-/
import Derived.Test.YtjdkoahbahecoaaGreatDoorAs
import Derived.Deep.QuietTactic
import Derived.BigQuiet
namespace Go.Proofs.YtjdkoahbahecoaaGreatDoor
open Go.RowKit

/-- How much an item counts. -/
def cost (it : It) : Nat := it.ps.length + it.vs.length + (it.vs.map (·.2.length)).sum

def Few (is : List It) : Prop := is.length + (is.map cost).sum < 300

/-- Lists are as long as memory lets them be. -/
def Siz (is : List It) : Prop := is.length ≤ 140737488355328 ∧ ∀ i (h : i < is.length), (is[i]'h).ps.length ≤ 140737488355328 ∧ (is[i]'h).vs.length ≤ 140737488355328 ∧ ∀ j (h' : j < (is[i]'h).vs.length), ((is[i]'h).vs[j]'h').2.length ≤ 140737488355328

theorem sum_take {α : Type} (f : α → Nat) (l : List α) (k : Nat) (h : k < l.length) : ((l.take (k + 1)).map f).sum = ((l.take k).map f).sum + f (l[k]'h) := by
  rw [List.take_add_one, List.getElem?_eq_getElem h, List.map_append, List.sum_append]
  simp

theorem sum_le {α : Type} (f : α → Nat) (l : List α) (k : Nat) : ((l.take k).map f).sum ≤ (l.map f).sum := by
  have : (l.map f).sum = ((l.take k).map f).sum + ((l.drop k).map f).sum := by rw [← List.sum_append, ← List.map_append, List.take_append_drop]
  omega

theorem drew_below {w wr : World} (h : Below w.heap.size w wr) (n : Nat) : Below w.heap.size w (wr.drewN n) := ⟨h.os, h.tape, h.output, h.size, h.block⟩

/-- What few answers. -/
def FewA (is : List It) (e : Ending) : Prop := e = .returned (.bool (decide (is.length + (is.map cost).sum < 300)))

set_option maxRecDepth 100000 in
set_option maxHeartbeats 4000000 in
theorem few_c (is : List It) (A : Option Addr) (C : Nat) (w : World) (hi : IsIn w is A) (hs : Siz is) :
    Calls Tryz.prog 4 #[.slice A is.length C] w fun e w' => FewA is e ∧ Below w.heap.size w w' := by
  have HI : Hid (IsIn w is A) := hi
  have HS : Hid (Siz is) := hs
  have hl := hs.1
  clear hi hs
  go_enter Tryz.func4, Tryz.ntmps4
  go_wp2
  go_loopw [3, 4] (fun nv iv wr => ∃ k m : Nat, k ≤ is.length ∧ iv = .int .i64 (k : Int) ∧ nv = .int .i64 (m : Int) ∧ m ≤ 281474976710956 ∧ Hid ((m < 300 → is.length + ((is.take k).map cost).sum ≤ m) ∧ m ≤ is.length + ((is.take k).map cost).sum) ∧ Hid (Below w.heap.size w wr)) (fun _ iv _ => is.length - (intOf iv).toNat)
  case atStart => exact ⟨0, is.length, Nat.zero_le _, rfl, rfl, by omega, ⟨fun _ => by simp, by simp⟩, Below.refl _ _⟩
  case round =>
    rename World => wi
    obtain ⟨k, m, hk, rfl, rfl, hm, HM, HW⟩ := hrel
    by_cases hm3 : m < 300
    · have hm3' : (m : Int) < 300 := by omega
      by_cases hlt : k < is.length
      · have hlt' : (k : Int) < (is.length : Int) := by omega
        obtain ⟨b, o, P, pc, V, vc, r, rfl, hrow, _, hvs⟩ := (HI.out.below HW.out).2 k hlt
        obtain ⟨z1, z2, z3⟩ := HS.out.2 k hlt
        have hst := sum_take cost is k hlt
        generalize is[k] = it at hrow hvs z1 z2 z3 hst
        obtain ⟨ik, is', ips, ivs⟩ := it
        simp only at hrow hvs z1 z2 z3
        have HST : Hid (((is.take (k + 1)).map cost).sum = ((is.take k).map cost).sum + (ips.length + ivs.length + (ivs.map (·.2.length)).sum)) := hst
        have HV : Hid (∀ w', Below wi.heap.size wi w' → VsIn w' ivs V) := fun w' hw => hvs.below hw
        have HZ : Hid (∀ j (h' : j < ivs.length), (ivs[j]'h').2.length ≤ 140737488355328) := z3
        have c3 := hrow.2 3 _ rfl
        have c4 := hrow.2 4 _ rfl
        have HC4 : Hid (∀ w', Below wi.heap.size wi w' → w'.cell? ⟨b, o + k * 20 + 4, none⟩ = some (.slice V ivs.length vc) ∧ b < w'.heap.size) := fun w' hw => ⟨(hw.cell (p := ⟨b, o + k * 20 + 4, none⟩) hrow.1).trans c4, Nat.lt_of_lt_of_le hrow.1 hw.size⟩
        clear hrow hvs z3 hst
        go_wp2
        go_quiet (fail)
        go_wp2
        go_loopw [3, 5] (fun nv qv wz => ∃ q m2 : Nat, q ≤ ivs.length ∧ qv = .int .i64 (q : Int) ∧ nv = .int .i64 (m2 : Int) ∧ m2 ≤ 281474976710956 ∧ Hid ((m2 < 300 → m + ips.length + ivs.length + ((ivs.take q).map (·.2.length)).sum ≤ m2) ∧ m2 ≤ m + ips.length + ivs.length + ((ivs.take q).map (·.2.length)).sum) ∧ Hid (Below wi.heap.size wi wz)) (fun _ qv _ => ivs.length - (intOf qv).toNat)
        case atStart => exact ⟨0, m + ips.length + ivs.length, Nat.zero_le _, rfl, by go_num, by omega, ⟨fun _ => by simp, by simp⟩, drew_below (Below.refl _ _) _⟩
        case round =>
          obtain ⟨q, m2, hq, rfl, rfl, hm2, HM2, HWZ⟩ := hrel
          obtain ⟨c4z, hbz⟩ := HC4.out wr HWZ.out
          by_cases hm23 : m2 < 300
          · have hm23' : (m2 : Int) < 300 := by omega
            by_cases hqt : q < ivs.length
            · have hqt' : (q : Int) < (ivs.length : Int) := by omega
              obtain ⟨vb, vo, VB, vcap, at', rfl, vrow, _⟩ := (HV.out wr HWZ.out).2 q hqt
              have z4 := HZ.out q hqt
              have hst2 := sum_take (fun v : ByteArray × List T => v.2.length) ivs q hqt
              generalize ivs[q] = v at vrow z4 hst2
              obtain ⟨vn, vts⟩ := v
              simp only at vrow z4
              have HST2 : Hid (((ivs.take (q + 1)).map (·.2.length)).sum = ((ivs.take q).map (·.2.length)).sum + vts.length) := hst2
              have d1 := vrow.2 1 _ rfl
              clear vrow hst2
              go_wp2
              go_roundw
              case rel => exact ⟨q + 1, m2 + vts.length, by omega, by go_num, by go_num, by omega, ⟨fun _ => by have h1 := HM2.out.1 (by omega); have h2 := HST2.out; omega, by have h1 := HM2.out.2; have h2 := HST2.out; omega⟩, HWZ.out⟩
              case measure => simp [intOf]; omega
            · have hqe : q = ivs.length := by omega
              subst hqe
              go_wp2
              go_roundw
              case rel => exact ⟨k + 1, m2, by omega, by go_num, rfl, by omega, ⟨fun _ => by have h1 := HM2.out.1 (by omega); have h2 := HST.out; have h3 := HM.out.1 (by omega); rw [List.take_length] at h1; omega, by have h1 := HM2.out.2; have h2 := HST.out; have h3 := HM.out.2; rw [List.take_length] at h1; omega⟩, below_next HW.out HWZ.out⟩
              case measure => simp [intOf]; omega
          · have hm24 : ¬ (m2 : Int) < 300 := by omega
            by_cases hqt : q < ivs.length
            · have hqt' : (q : Int) < (ivs.length : Int) := by omega
              go_wp2
              go_roundw
              case rel => exact ⟨k + 1, m2, by omega, by go_num, rfl, by omega, ⟨fun h => absurd h (by omega), by have h1 := HM2.out.2; have h2 := HST.out; have h3 := HM.out.2; have h4 := sum_le (fun v : ByteArray × List T => v.2.length) ivs q; omega⟩, below_next HW.out HWZ.out⟩
              case measure => simp [intOf]; omega
            · have hqe : q = ivs.length := by omega
              subst hqe
              go_wp2
              go_roundw
              case rel => exact ⟨k + 1, m2, by omega, by go_num, rfl, by omega, ⟨fun h => absurd h (by omega), by have h1 := HM2.out.2; have h2 := HST.out; have h3 := HM.out.2; have h4 := sum_le (fun v : ByteArray × List T => v.2.length) ivs ivs.length; omega⟩, below_next HW.out HWZ.out⟩
              case measure => simp [intOf]; omega
      · have hke : k = is.length := by omega
        subst hke
        go_wp2
        go_ret
        exact ⟨by have h := HM.out.1 hm3; rw [List.take_length] at h; unfold FewA; rw [decide_eq_true (by omega)]; rfl, HW.out⟩
    · have hm3' : ¬ (m : Int) < 300 := by omega
      by_cases hlt : k < is.length
      · have hlt' : (k : Int) < (is.length : Int) := by omega
        go_wp2
        go_ret
        exact ⟨by have h := HM.out.2; have h4 := sum_le cost is k; unfold FewA; rw [decide_eq_false (by omega)]; rfl, HW.out⟩
      · have hke : k = is.length := by omega
        subst hke
        go_wp2
        go_ret
        exact ⟨by have h := HM.out.2; have h4 := sum_le cost is is.length; unfold FewA; rw [decide_eq_false (by omega)]; rfl, HW.out⟩

end Go.Proofs.YtjdkoahbahecoaaGreatDoor
