/-
  Proved: what layout.together and the closure of layout.Layout answer.
-/
import Derived.Test.YtligjglleomeeaaDoorFplain
import Derived.Test.YtligjglleomeeaaDoorPn
namespace Go.Proofs.YtligjglleomeeaaDoor
open Go.RowKit

/-- How many words a frame has with one local more. -/
def tgh (x l : Int) : Int := x + min (max l 0) (9223372036854775807 - x)

theorem tgh_in (x l : Int) (h0 : 0 ≤ x) (h1 : x ≤ 9223372036854775807) : x ≤ tgh x l ∧ tgh x l ≤ 9223372036854775807 := by
  unfold tgh
  omega

theorem tog_c (x l : Int) (h0 : 0 ≤ x) (h1 : x ≤ 9223372036854775807) (w : World) : Calls Tryd.prog 9 #[.int .i64 x, .int .i64 l] w fun e w' => e = .returned (.int .i64 (tgh x l)) ∧ w' = w := by
  unfold tgh
  go_enter Tryd.func9, Tryd.ntmps9
  go_wp2
  all_goals go_ret
  all_goals exact ⟨congrArg (fun z => Ending.returned (.int .i64 z)) (by omega), rfl⟩

theorem cf_lies (args : Array Value) (w : World) : (callFunc 8 args).run Tryd.prog w = .ok (.enter 8 args) w := by kernel_rfl

set_option maxHeartbeats 1000000 in
theorem lies_c (k n : Nat) (hk : k < n) (px rb wx fx b o LC : Nat) (pl : Nat → Bool) (x lk : Int) (h0 : 0 ≤ x) (h1 : x ≤ 9223372036854775807) (w : World)
    (hp : PB w px rb n pl) (hw : At w wx #[.int .i64 x] 3) (hfx : fx < w.heap.size) (hf : w.cell? ⟨fx, 1, none⟩ = some (.slice (some ⟨b, o, none⟩) n LC)) (hb : b < w.heap.size) (ck : w.cell? ⟨b, o + k, none⟩ = some (.int .i64 lk)) :
    Calls Tryd.prog 8 #[.int .i64 (k : Int), .pointer (some ⟨px, 0, none⟩), .pointer (some ⟨wx, 0, none⟩), .pointer (some ⟨fx, 0, none⟩)] w fun e w' =>
      e = .returned (.int .i64 (if pl k then -1 else x)) ∧ At w' wx #[.int .i64 (if pl k then x else tgh x lk)] 3 ∧ Kp (fun c => c = wx) w w' := by
  have hkz : (k : Int) < (n : Int) := by omega
  have cx : w.cell? ⟨px, 0, none⟩ = some (.slice (some ⟨rb, 0, none⟩) n n) := hp.1.cell 0
  have hpx := hp.1.lt
  have cj := hp.2.cell k hk
  have hrb := hp.2.lt
  have wx0 : w.cell? ⟨wx, 0, none⟩ = some (.int .i64 x) := hw.cell 0
  have hwx := hw.lt
  have fz : w.frozen? ⟨wx, 0, none⟩ = false := hw.frozen 0
  have AW : Hid (At w wx #[.int .i64 x] 3) := hw
  clear hp hw
  cases h : pl k with
  | true =>
    rw [h] at cj
    go_enter Tryd.func8, Tryd.ntmps8
    go_wp2
    go_ret
    exact ⟨rfl, AW.out, Kp.refl _ _⟩
  | false =>
    rw [h] at cj
    have TC := fun w => tog_c x lk h0 h1 w
    have mixed : Tryd.prog.follows Departure.mixedOrders = true := by kernel_rfl
    have SE : Hid (At (w.drew.setCell ⟨wx, 0, none⟩ (.int .i64 (tgh x lk))) wx #[.int .i64 (tgh x lk)] 3) := At.set (j := 0) (AW.out.below (below_drew _) hwx) _
    have KE : Hid (Kp (fun c => c = wx) w (w.drew.setCell ⟨wx, 0, none⟩ (.int .i64 (tgh x lk)))) := (Kp.refl _ w).drew.trans (Kp.set _ _ _ rfl)
    clear AW
    go_enter Tryd.func8, Tryd.ntmps8
    go_wp2
    refine wp_region_N (fun w' => w'.cell? ⟨wx, 0, none⟩ = some (.int .i64 x) ∧ w'.cell? ⟨fx, 1, none⟩ = some (.slice (some ⟨b, o, none⟩) n LC) ∧ w'.cell? ⟨b, o + k, none⟩ = some (.int .i64 lk) ∧ fx < w'.heap.size ∧ b < w'.heap.size ∧ wx < w'.heap.size) (fun j => j != 7) mixed (⟨wx0, hf, ck, hfx, hb, hwx⟩) ?_
    intro S0
    refine wpAnyN_take (i := 0) (v := .int .i64 x) rfl (by kernel_rfl) (by kernel_rfl) (by kernel_rfl) (by kernel_rfl) (fun _ _ _ h => h) (Or.inl ⟨by rfl, ?_⟩) S0 ?_
    · intro w' hS'
      obtain ⟨h0, h1, h2, h3, h4, h5⟩ := hS'
      go_simp
    (try simp only [Act.put, List.getElem_toArray, List.getElem_cons_zero, List.setIfInBounds_toArray, List.set_cons_zero, List.set_cons_succ])
    refine wpAnyN_take (i := 1) (v := .pointer (some ⟨fx, 1, none⟩)) rfl (by kernel_rfl) (by kernel_rfl) (by kernel_rfl) (by kernel_rfl) (fun _ _ _ h => h) (Or.inl ⟨by rfl, ?_⟩) S0 ?_
    · intro w' hS'
      obtain ⟨h0, h1, h2, h3, h4, h5⟩ := hS'
      go_simp
    (try simp only [Act.put, List.getElem_toArray, List.getElem_cons_succ, List.getElem_cons_zero, List.setIfInBounds_toArray, List.set_cons_zero, List.set_cons_succ])
    refine wpAnyN_take (i := 2) (v := .slice (some ⟨b, o, none⟩) n LC) rfl (by kernel_rfl) (by kernel_rfl) (by kernel_rfl) (by kernel_rfl) (fun _ _ _ h => h) (Or.inl ⟨by rfl, ?_⟩) S0 ?_
    · intro w' hS'
      obtain ⟨h0, h1, h2, h3, h4, h5⟩ := hS'
      go_simp
    (try simp only [Act.put, List.getElem_toArray, List.getElem_cons_succ, List.getElem_cons_zero, List.setIfInBounds_toArray, List.set_cons_zero, List.set_cons_succ])
    refine wpAnyN_take (i := 3) (v := .int .i64 (k : Int)) rfl (by kernel_rfl) (by kernel_rfl) (by kernel_rfl) (by kernel_rfl) (fun _ _ _ h => h) (Or.inl ⟨by rfl, ?_⟩) S0 ?_
    · intro w' hS'
      obtain ⟨h0, h1, h2, h3, h4, h5⟩ := hS'
      go_simp
    (try simp only [Act.put, List.getElem_toArray, List.getElem_cons_succ, List.getElem_cons_zero, List.setIfInBounds_toArray, List.set_cons_zero, List.set_cons_succ])
    refine wpAnyN_take (i := 4) (v := .pointer (some ⟨b, o + k, none⟩)) rfl (by kernel_rfl) (by kernel_rfl) (by kernel_rfl) (by kernel_rfl) (fun _ _ _ h => h) (Or.inl ⟨by rfl, ?_⟩) S0 ?_
    · intro w' hS'
      obtain ⟨h0, h1, h2, h3, h4, h5⟩ := hS'
      go_simp
    (try simp only [Act.put, List.getElem_toArray, List.getElem_cons_succ, List.getElem_cons_zero, List.setIfInBounds_toArray, List.set_cons_zero, List.set_cons_succ])
    refine wpAnyN_take (i := 5) (v := .int .i64 lk) rfl (by kernel_rfl) (by kernel_rfl) (by kernel_rfl) (by kernel_rfl) (fun _ _ _ h => h) (Or.inl ⟨by rfl, ?_⟩) S0 ?_
    · intro w' hS'
      obtain ⟨h0, h1, h2, h3, h4, h5⟩ := hS'
      go_simp
    (try simp only [Act.put, List.getElem_toArray, List.getElem_cons_succ, List.getElem_cons_zero, List.setIfInBounds_toArray, List.set_cons_zero, List.set_cons_succ])
    refine wpAnyN_one (i := 6) (by kernel_rfl) rfl (fun K hK => ?_)
    go_simp
    (go_at_call 9; refine (TC _).mono ?_; rintro e w1 ⟨rfl, hw⟩; rw [hw]; clear hw w1)
    go_wp2_with fail
    refine hK _ _ (fun _ => S0) ?_
    clear hK K
    (try simp only [Act.put, List.getElem_toArray, List.getElem_cons_succ, List.getElem_cons_zero, List.setIfInBounds_toArray, List.set_cons_zero, List.set_cons_succ])
    refine wpAnyN_one (i := 7) (by kernel_rfl) rfl (fun K hK => ?_)
    go_simp
    go_wp2_with fail
    refine hK _ _ (fun h => absurd h (by decide)) ?_
    clear hK K
    (try simp only [Act.put, List.getElem_toArray, List.getElem_cons_succ, List.getElem_cons_zero, List.setIfInBounds_toArray, List.set_cons_zero, List.set_cons_succ])
    refine wpAnyN_done (by kernel_rfl) ?_ _
    go_wp2
    go_ret
    exact ⟨rfl, SE.out, KE.out⟩
end Go.Proofs.YtligjglleomeeaaDoor
