/-
  Proved: in a region of which Go leaves the order open a load may be taken first, if all that could come ahead of it leave its cell as it is: what waits for it, through others too, may turn it.
-/
import Derived.Test.YtapgaclonilnbaaDoorPn
namespace Go.Proofs.YtapgaclonilnbaaDoor
set_option linter.unusedVariables false
set_option linter.unusedSimpArgs false

section
variable {P : Program} {ops : Array Oper} {Q : Exit → Act → World → Prop} {md : Region.Mode}

/-- j waits for i, through others too. -/
def reach (md : Region.Mode) (ops : Array Oper) : Nat → Nat → Nat → Bool
  | 0, _, _ => false
  | f + 1, j, i => ((ops[j]?).map (·.after.any fun e => Region.binds md e && (e.on == i || reach md ops f e.on i))).getD false

/-- All that the listed ones wait for is listed. -/
def closedB (md : Region.Mode) (ops : Array Oper) (l : Array Bool) : Bool := (List.range ops.size).all fun j => !(l.getD j true) || ((ops[j]?).map (·.after.all fun e => !(Region.binds md e) || l.getD e.on true)).getD true

def Closed (md : Region.Mode) (ops : Array Oper) (l : Array Bool) : Prop := ∀ j oj, ops[j]? = some oj → l.getD j true = true → ∀ e ∈ oj.after, Region.binds md e = true → l.getD e.on true = true

theorem closed_of {l : Array Bool} (h : closedB md ops l = true) : Closed md ops l := by
  intro j oj hj hl e he hb
  have hlt : j < ops.size := (Array.getElem?_eq_some_iff.1 hj).1
  have h1 := List.all_eq_true.1 h j (by simpa using hlt)
  rw [hj, hl] at h1
  simp only [Bool.not_true, Bool.false_or, Option.map_some, Option.getD_some] at h1
  have := Array.all_eq_true'.1 h1 e he
  rw [hb] at this
  simpa using this

theorem reach_listed {l : Array Bool} (hc : Closed md ops l) (i : Nat) : ∀ f j oj, ops[j]? = some oj → (∀ e ∈ oj.after, Region.binds md e = true → l.getD e.on true = true) → reach md ops f j i = true → l.getD i true = true := by
  intro f
  induction f with
  | zero => intro j oj _ _ h; cases h
  | succ f ih =>
    intro j oj hj hp h
    unfold reach at h
    rw [hj] at h
    simp only [Option.map_some, Option.getD_some] at h
    obtain ⟨e, he, h2⟩ := Array.any_eq_true'.1 h
    simp only [Bool.and_eq_true, Bool.or_eq_true, beq_iff_eq] at h2
    obtain ⟨hb, h3⟩ := h2
    have hl := hp e he hb
    rcases h3 with h3 | h3
    · rwa [h3] at hl
    · cases ho : ops[e.on]? with
      | none =>
        cases f with
        | zero => cases h3
        | succ f => unfold reach at h3; rw [ho] at h3; cases h3
      | some ok => exact ih e.on ok ho (hc e.on ok ho hl) h3

theorem getD_up {l : Array Bool} {k : Nat} (h : l.getD k false = true) : l.getD k true = true := by
  by_cases hs : k < l.size
  · simpa [hs] using h
  · simp [hs] at h

theorem Closed.next {l : Array Bool} (hc : Closed md ops l) {j : Nat} (hj : j ∈ Region.ready md ops l) : Closed md ops (l.setIfInBounds j true) := by
  obtain ⟨_, oj, ho, hp⟩ := mem_ready.1 hj
  have mono : ∀ k, l.getD k true = true → (l.setIfInBounds j true).getD k true = true := fun k hk => by
    by_cases e : j = k
    · subst e
      by_cases hs : j < l.size
      · simp [hs]
      · simp [Array.getElem?_eq_none (Nat.le_of_not_lt hs)]
    · rw [getD_set_ne true e]; exact hk
  intro k ok hk hl e he hb
  by_cases e2 : j = k
  · subst e2
    rw [ho] at hk
    cases hk
    exact mono _ (getD_up (hp e he hb))
  · rw [getD_set_ne true e2] at hl
    exact mono _ (hc k ok hk hl e he hb)

variable {R : Nat → World → Prop}

theorem anyR.firstT {S : World → Prop} {i : Nat} {oi : Oper} {v : Value} (N : Nat) (hi : ops[i]? = some oi) (hsel : ∀ (j : Nat) (o : Oper) cs b, ops[j]? = some o → o.op ≠ .select cs b)
    (hQ : ∀ c a w, Q (.panic c) (a.put oi.dst v) w → Q (.panic c) a w) (hRi : ∀ w, S w → R i w) (hR : ∀ j oj, ops[j]? = some oj → reach md ops N j i = false → ∀ w, R j w → S w) (f : Nat) :
    ∀ (l : Array Bool) (a : Act) (w : World), Closed md ops l → Away md ops i oi l → i ∈ Region.ready md ops l → YieldsIf P ops S oi v a → S w → anyR P md ops Q R f (l.setIfInBounds i true) (a.put oi.dst v) w → anyR P md ops Q R (f + 1) l a w := by
  induction f using Nat.strongRecOn with
  | _ f ih =>
    intro l a w hC hA hr hy hS H
    refine ⟨fun h => (by rw [h] at hr; cases hr), fun j hj => ?_⟩
    by_cases e : j = i
    · subst e
      exact hy.wpOp hi hS ⟨hRi w hS, H⟩
    · obtain ⟨g, rfl, h1⟩ := H.next (ready_mono hj e)
      obtain ⟨hun, oj, ho, hp⟩ := mem_ready.1 hj
      have hno := not_on hr hj ho
      have hnr : reach md ops N j i = false := by
        cases h : reach md ops N j i with
        | false => rfl
        | true =>
          have h3 := reach_listed hC i N j oj ho (fun e he hb => getD_up (hp e he hb)) h
          have h4 := (mem_ready.1 hr).1
          by_cases hs : i < l.size
          · simp [hs] at h3 h4
            rw [h4] at h3
            cases h3
          · simp [Array.getElem?_eq_none (Nat.le_of_not_lt hs)] at h4
      have h2 := wpOp_putIf ho (hA j oj ho e hun hno) (fun cs b => hsel i oi cs b hi) (fun cs b => hsel j oj cs b ho) hQ hy h1
      refine wpOp_mono (fun a' w' k => ⟨k.2.1, ?_⟩) h2
      refine ih g (Nat.lt_succ_self g) _ a' w' (hC.next hj) hA.more (ready_mono hr fun h => e h.symm) k.1 (hR j oj ho hnr w' k.2.1) ?_
      have hc : (l.setIfInBounds j true).setIfInBounds i true = (l.setIfInBounds i true).setIfInBounds j true := Array.setIfInBounds_comm _ _ e
      rw [hc]
      exact k.2.2

variable {S : World → Prop} {need : Nat → Bool}

/-- Who does not need it waits, through others too. -/
def waitsT (md : Region.Mode) (ops : Array Oper) (need : Nat → Bool) (i : Nat) : Bool := (List.range ops.size).all fun j => need j || reach md ops 6 j i

theorem wpAnyN_takeT {i : Nat} {oi : Oper} {v : Value} {fuel : Nat} {listed : Array Bool} {a : Act} {w : World} (hi : ops[i]? = some oi)
    (hs : Region.noSelect ops = true) (hf : Region.free md ops listed i = true) (hr : (Region.ready md ops listed).contains i = true) (hn : waitsT md ops need i = true) (hc : closedB md ops listed = true)
    (hQ : ∀ c a w, Q (.panic c) (a.put oi.dst v) w → Q (.panic c) a w) (hy : YieldsIf P ops S oi v a) (hS : S w)
    (h : wpAnyN P md ops Q S need fuel (listed.setIfInBounds i true) (a.put oi.dst v) w) : wpAnyN P md ops Q S need (fuel + 1) listed a w :=
  anyR.firstT 6 hi (Region.noSelect_spec hs) hQ (fun _ hS _ => hS) (fun j oj ho hno w' hR => hR (by
    cases e : need j with
    | true => rfl
    | false =>
      have hlt : j < ops.size := (Array.getElem?_eq_some_iff.1 ho).1
      have h1 := List.all_eq_true.1 hn j (by simpa using hlt)
      rw [e, hno] at h1
      cases h1)) fuel listed a w (closed_of hc) (Region.free_spec hi hf) (by simpa using hr) hy hS h
end
end Go.Proofs.YtapgaclonilnbaaDoor
