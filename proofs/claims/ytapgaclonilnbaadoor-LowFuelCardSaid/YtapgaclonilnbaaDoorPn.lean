/-
  Proved: in a region of which Go leaves the order open a load may be taken first, if all that could come ahead of it leave its cell as it is: what waits for it may turn it.
-/
import Derived.Test.YtapgaclonilnbaaDoorKit
import Derived.OrdersHeld
namespace Go.Proofs.YtapgaclonilnbaaDoor

section
variable {P : Program} {ops : Array Oper} {Q : Exit → Act → World → Prop} {md : Region.Mode}

/-- Whichever comes next: behind operation i stands R i. -/
def anyR (P : Program) (md : Region.Mode) (ops : Array Oper) (Q : Exit → Act → World → Prop) (R : Nat → World → Prop) : Nat → Array Bool → Act → World → Prop
  | 0, l, a, w => Region.ready md ops l = [] ∧ Q .normal a w
  | f + 1, l, a, w => (Region.ready md ops l = [] → Q .normal a w) ∧ ∀ i, i ∈ Region.ready md ops l → wpOp P ops Q i (fun a' w' => R i w' ∧ anyR P md ops Q R f (l.setIfInBounds i true) a' w') a w

variable {R : Nat → World → Prop}

theorem anyR.any {f : Nat} : ∀ {l : Array Bool} {a : Act} {w : World}, anyR P md ops Q R f l a w → wpAny P md ops Q f l a w := by
  induction f with
  | zero => exact fun h => h
  | succ f ih => exact fun h => ⟨h.1, fun i hi => wpOp_mono (fun _ _ k => ih k.2) (h.2 i hi)⟩

/-- One that may come next does so. -/
theorem anyR.next {f : Nat} {l : Array Bool} {a : Act} {w : World} (h : anyR P md ops Q R f l a w) {j : Nat} (hj : j ∈ Region.ready md ops l) : ∃ g, f = g + 1 ∧ wpOp P ops Q j (fun a' w' => R j w' ∧ anyR P md ops Q R g (l.setIfInBounds j true) a' w') a w := by
  cases f with
  | zero =>
    have := h.1
    rw [this] at hj
    cases hj
  | succ g => exact ⟨g, rfl, h.2 j hj⟩

/-- Of two that may come next none waits for the other. -/
theorem not_on {l : Array Bool} {i j : Nat} {oj : Oper} (hi : i ∈ Region.ready md ops l) (hj : j ∈ Region.ready md ops l) (ho : ops[j]? = some oj) : ∀ e ∈ oj.after, Region.binds md e = true → e.on ≠ i := by
  rintro e he hb rfl
  obtain ⟨_, o, h1, h2⟩ := mem_ready.1 hj
  rw [ho] at h1
  cases h1
  have h3 := h2 e he hb
  have h4 := (mem_ready.1 hi).1
  by_cases h : e.on < l.size
  · simp [h] at h3 h4
    rw [h4] at h3
    cases h3
  · simp [Array.getElem?_eq_none (Nat.le_of_not_lt h)] at h3

/-- Who was not listed and does not wait for i has nothing to do with it. -/
def Away (md : Region.Mode) (ops : Array Oper) (i : Nat) (oi : Oper) (l : Array Bool) : Prop :=
  ∀ j oj, ops[j]? = some oj → j ≠ i → l.getD j true = false → (∀ e ∈ oj.after, Region.binds md e = true → e.on ≠ i) → oi.apart ops oj = true

theorem Away.more {i j : Nat} {oi : Oper} {l : Array Bool} (h : Away md ops i oi l) : Away md ops i oi (l.setIfInBounds j true) := by
  intro k ok hk hki hun hno
  by_cases e : j = k
  · subst e
    by_cases hs : j < l.size
    · simp [hs] at hun
    · refine h j ok hk hki ?_ hno
      simp at hun
  · exact h k ok hk hki (by rwa [getD_set_ne true e] at hun) hno

theorem anyR.first {S : World → Prop} {i : Nat} {oi : Oper} {v : Value} (hi : ops[i]? = some oi) (hsel : ∀ (j : Nat) (o : Oper) cs b, ops[j]? = some o → o.op ≠ .select cs b)
    (hQ : ∀ c a w, Q (.panic c) (a.put oi.dst v) w → Q (.panic c) a w) (hRi : ∀ w, S w → R i w) (hR : ∀ j oj, ops[j]? = some oj → (∀ e ∈ oj.after, Region.binds md e = true → e.on ≠ i) → ∀ w, R j w → S w) (f : Nat) :
    ∀ (l : Array Bool) (a : Act) (w : World), Away md ops i oi l → i ∈ Region.ready md ops l → YieldsIf P ops S oi v a → S w → anyR P md ops Q R f (l.setIfInBounds i true) (a.put oi.dst v) w → anyR P md ops Q R (f + 1) l a w := by
  induction f using Nat.strongRecOn with
  | _ f ih =>
    intro l a w hA hr hy hS H
    refine ⟨fun h => (by rw [h] at hr; cases hr), fun j hj => ?_⟩
    by_cases e : j = i
    · subst e
      exact hy.wpOp hi hS ⟨hRi w hS, H⟩
    · obtain ⟨g, rfl, h1⟩ := H.next (ready_mono hj e)
      obtain ⟨hun, oj, ho, _⟩ := mem_ready.1 hj
      have hno := not_on hr hj ho
      have h2 := wpOp_putIf ho (hA j oj ho e hun hno) (fun cs b => hsel i oi cs b hi) (fun cs b => hsel j oj cs b ho) hQ hy h1
      refine wpOp_mono (fun a' w' k => ⟨k.2.1, ?_⟩) h2
      refine ih g (Nat.lt_succ_self g) _ a' w' hA.more (ready_mono hr fun h => e h.symm) k.1 (hR j oj ho hno w' k.2.1) ?_
      have hc : (l.setIfInBounds j true).setIfInBounds i true = (l.setIfInBounds i true).setIfInBounds j true := Array.setIfInBounds_comm _ _ e
      rw [hc]
      exact k.2.2

/-- S is asked behind those that 'need' names. -/
def wpAnyN (P : Program) (md : Region.Mode) (ops : Array Oper) (Q : Exit → Act → World → Prop) (S : World → Prop) (need : Nat → Bool) : Nat → Array Bool → Act → World → Prop := anyR P md ops Q fun i w => need i = true → S w

variable {S : World → Prop} {need : Nat → Bool}

/-- Who does not need it waits. -/
def waits (md : Region.Mode) (ops : Array Oper) (need : Nat → Bool) (i : Nat) : Bool := (List.range ops.size).all fun j => need j || ((ops[j]?).map (·.after.any fun e => Region.binds md e && e.on == i)).getD true

theorem waits_spec {i : Nat} (h : waits md ops need i = true) : ∀ j oj, ops[j]? = some oj → need j = false → ∃ e ∈ oj.after, Region.binds md e = true ∧ e.on = i := by
  intro j oj hj hn
  have hlt : j < ops.size := (Array.getElem?_eq_some_iff.1 hj).1
  have h1 := List.all_eq_true.1 h j (by simpa using hlt)
  rw [hn, hj] at h1
  simp only [Bool.false_or, Option.map_some, Option.getD_some] at h1
  obtain ⟨e, he, h2⟩ := Array.any_eq_true'.1 h1
  simp only [Bool.and_eq_true, beq_iff_eq] at h2
  exact ⟨e, he, h2.1, h2.2⟩

theorem wpAnyN_take {i : Nat} {oi : Oper} {v : Value} {fuel : Nat} {listed : Array Bool} {a : Act} {w : World} (hi : ops[i]? = some oi)
    (hs : Region.noSelect ops = true) (hf : Region.free md ops listed i = true) (hr : (Region.ready md ops listed).contains i = true) (hn : waits md ops need i = true)
    (hQ : ∀ c a w, Q (.panic c) (a.put oi.dst v) w → Q (.panic c) a w) (hy : YieldsIf P ops S oi v a) (hS : S w)
    (h : wpAnyN P md ops Q S need fuel (listed.setIfInBounds i true) (a.put oi.dst v) w) : wpAnyN P md ops Q S need (fuel + 1) listed a w :=
  anyR.first hi (Region.noSelect_spec hs) hQ (fun _ hS _ => hS) (fun j oj ho hno w' hR => hR (by
    cases e : need j with
    | true => rfl
    | false =>
      obtain ⟨x, hx1, hx2, hx3⟩ := waits_spec hn j oj ho e
      exact absurd hx3 (hno x hx1 hx2))) fuel listed a w (Region.free_spec hi hf) (by simpa using hr) hy hS h

/-- The one that comes up. -/
theorem wpAnyN_one {i : Nat} {o : Oper} {fuel : Nat} {listed : Array Bool} {a : Act} {w : World} (hr : Region.ready md ops listed = [i]) (ho : ops[i]? = some o)
    (h : ∀ K' : Act → World → Prop, (∀ a w, (need i = true → S w) → wpAnyN P md ops Q S need fuel (listed.setIfInBounds i true) a w → K' a w) → if Region.wanted o (yielded ops a.tmps) = true then Oper.wp P o a w K' Q else K' (a.put o.dst undef) w) : wpAnyN P md ops Q S need (fuel + 1) listed a w := by
  refine ⟨fun h0 => (by rw [hr] at h0; cases h0), fun j hj => ?_⟩
  rw [hr] at hj
  obtain rfl := List.mem_singleton.1 hj
  exact wpOp_step ho (fun K' hK => h K' (fun a w h1 h2 => hK a w ⟨h1, h2⟩))

theorem wpAnyN_done {listed : Array Bool} {a : Act} {w : World} (hr : Region.ready md ops listed = []) (h : Q .normal a w) (fuel : Nat) : wpAnyN P md ops Q S need fuel listed a w := by
  cases fuel with
  | zero => exact ⟨hr, h⟩
  | succ f => exact ⟨fun _ => h, fun i hi => by rw [hr] at hi; cases hi⟩

theorem wp_region_N {id : Nat} {a : Act} {w : World} (S : World → Prop) (need : Nat → Bool) (hm : P.follows .mixedOrders = true) (hS : S w.drew)
    (h : S w.drew → wpAnyN P .any ops Q S need ops.size (Array.replicate ops.size false) a w.drew) : (Code.region id ops true).wp P Q a w :=
  wp_region_any hm (anyR.any (h hS))
end
end Go.Proofs.YtapgaclonilnbaaDoor
