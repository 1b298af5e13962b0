/-
  Proved: Assemble of lines that nothing is against; a branch over so many words, ahead and behind: how many words it has.
-/
import Derived.Test.YtcdeckbobabdkaaAasm
import Derived.Test.YtcdeckbobabdkaaMath
namespace Go.Proofs.Ytcdeckbobabdkaa
open Go.RowKit
set_option linter.unusedVariables false
set_option linter.unusedSimpArgs false
set_option maxRecDepth 20000

/-- Lines that nothing is against. -/
structure Fine (l : List Ln) (L : Nat → Bool) : Prop where
  f : frmB l = true
  b : labOk l
  g : l.all leg = true
  s : Lst l L
  z : atP l L l.length ≤ 65536
theorem Fine.err {l : List Ln} {L : Nat → Bool} (h : Fine l L) : errP l = 0 := errP_0 h.f h.b h.g ⟨L, h.s, h.z⟩
theorem fine_of {l : List Ln} (h : errP l = 0) : ∃ L, Fine l L := by
  rcases errP_cases l with ⟨he, _⟩ | ⟨he, _⟩ | ⟨he, _⟩ | ⟨he, _⟩ | ⟨he, h1, h2, h3, L, h4, h5⟩
  · rw [he] at h; cases h
  · rw [he] at h; cases h
  · rw [he] at h; cases h
  · rw [he] at h; cases h
  · exact ⟨L, h1, h2, h3, h4, h5⟩
theorem assemble_ok {l : List Ln} {L : Nat → Bool} (hF : Fine l L) (v : Value) (w : World) (h : LsIn w l v) (hl : l.length ≤ 1000) (hok : ∀ y ∈ l, LOk y) :
    Calls Try.prog 7 #[v] w fun e w' => ∃ A C, e = .returned (.tuple #[.slice A (asmW l L l.length).length C, .int .i64 0]) ∧ RowsIn w' 1 wdC (asmW l L l.length) A ∧ Below w.heap.size w w' :=
  (assemble_c l v w h hl hok).mono fun e w' ⟨h1, h2⟩ => by
    rcases h1 with ⟨h3, _⟩ | ⟨_, A, C, M, h4, _, h6, h7⟩
    · exact absurd hF.err h3
    · obtain rfl := hF.s.one h4
      exact ⟨A, C, h6, h7, h2⟩

theorem lnC_len (a : Ln) : (lnC a).length = 8 := rfl
/-- Lines in a block of their own. -/
theorem ls_at {w : World} {g : Nat} {l : List Ln} {t : TypeId} {C : Nat} (h : At w g (l.flatMap lnC).toArray t) : LsIn w l (.slice (some ⟨g, 0, none⟩) l.length C) := by
  refine ⟨_, C, rfl, fun i hi => ⟨g, 0, rfl, h.lt, fun j v hj => ?_⟩⟩
  have := flat_get lnC_len l i hi j v hj
  rw [h.cell, show 0 + i * 8 + j = i * 8 + j by omega]
  simpa using this

def bI : Ins := ⟨0, 3, 4, 0⟩
def zI : Ins := ⟨0, 0, 0, 0⟩
def brE : Ln := ⟨3, ⟨#[98, 108, 116, 117]⟩, bI, ⟨#[120]⟩, 0⟩
def pdE (n : Int) : Ln := ⟨5, ⟨#[]⟩, zI, ⟨#[]⟩, n⟩
def lbE : Ln := ⟨2, ⟨#[]⟩, zI, ⟨#[120]⟩, 0⟩
def edF (n : Int) : List Ln := [brE, pdE n, lbE]
def edB (n : Int) : List Ln := [lbE, pdE n, brE]

theorem leg_br : leg brE = true := by decide +kernel
theorem leg_lb : leg lbE = true := by decide +kernel
theorem leg_pd (n : Int) : leg (pdE n) = true := by simp [leg, pdE]
theorem isB_F (n : Int) (j : Nat) : isB (edF n) j = true ↔ j = 0 := by
  match j with
  | 0 => simp [isB, edF, brE]
  | 1 => simp [isB, edF, pdE]
  | 2 => simp [isB, edF, lbE]
  | j + 3 => simp [isB, edF]
theorem isB_B (n : Int) (j : Nat) : isB (edB n) j = true ↔ j = 2 := by
  match j with
  | 0 => simp [isB, edB, lbE]
  | 1 => simp [isB, edB, pdE]
  | 2 => simp [isB, edB, brE]
  | j + 3 => simp [isB, edB]
theorem goal_F (n : Int) : goal (edF n) 0 = 2 := by simp [goal, edF, lbOf, isL, brE, pdE, lbE, List.findIdx?_cons]
theorem goal_B (n : Int) : goal (edB n) 2 = 0 := by simp [goal, edB, lbOf, isL, brE, pdE, lbE, List.findIdx?_cons]
theorem sh_F (n : Int) : shA (edF n) 0 = 4 ∧ shA (edF n) 1 = 4 * max n 0 ∧ shA (edF n) 2 = 0 := by simp [shA, edF, shB, brE, pdE, lbE]
theorem sh_B (n : Int) : shA (edB n) 0 = 0 ∧ shA (edB n) 1 = 4 * max n 0 ∧ shA (edB n) 2 = 4 := by simp [shA, edB, shB, brE, pdE, lbE]

theorem edF_fine (n : Int) (h0 : 1000 ≤ n) (h1 : n ≤ 1063) (L : Nat → Bool) (hL : L = fun j => decide (j = 0) && decide (1022 < n)) : Fine (edF n) L ∧ ((asmW (edF n) L 3).length : Int) = if 1022 < n then n + 2 else n + 1 := by
  obtain ⟨s0, s1, s2⟩ := sh_F n
  have hmx : max n 0 = n := by omega
  rw [hmx] at s1
  have hfr : frmB (edF n) = true := by
    simp [frmB, frm, edF, brE, pdE, lbE]
    omega
  have hA : ∀ M : Nat → Bool, atP (edF n) M 3 = 4 + 4 * n + ((if M 0 then 4 else 0) + (if M 1 then 4 else 0) + (if M 2 then 4 else 0)) := fun M => by
    show 0 + (shA (edF n) 0 + if M 0 then 4 else 0) + (shA (edF n) 1 + if M 1 then 4 else 0) + (shA (edF n) 2 + if M 2 then 4 else 0) = _
    rw [s0, s1, s2]
    omega
  have hW : ∀ M : Nat → Bool, way (edF n) M 0 = 4 + 4 * n + ((if M 0 then 4 else 0) + (if M 1 then 4 else 0)) := fun M => by
    unfold way
    rw [goal_F]
    show 0 + (shA (edF n) 0 + if M 0 then 4 else 0) + (shA (edF n) 1 + if M 1 then 4 else 0) - 0 = _
    rw [s0, s1]
    omega
  have hlow : Low (edF n) L := by
    refine (Low.none _).grow fun j hj => Or.inr ?_
    rw [hL] at hj
    simp only [Bool.and_eq_true, decide_eq_true_eq] at hj
    obtain ⟨rfl, hj⟩ := hj
    refine ⟨(isB_F n 0).2 rfl, ?_⟩
    unfold far
    rw [hW]
    simp
    omega
  have hclo : Clo (edF n) L := fun j hb hLj hf => by
    obtain rfl := (isB_F n j).1 hb
    unfold far at hf
    rw [hW] at hf
    rw [hL] at hLj
    simp only [decide_true, Bool.true_and, decide_eq_false_iff_not] at hLj
    rw [hL] at hf
    simp [hLj] at hf
    omega
  have hat : atP (edF n) L 3 = if 1022 < n then 4 * (n + 2) else 4 * (n + 1) := by
    rw [hA, hL]
    by_cases e : 1022 < n
    · simp [e]; omega
    · simp [e]; omega
  have hlen := asmW_len (L := L) hfr hlow.1 3 (by simp [edF])
  refine ⟨⟨hfr, ⟨fun i y hy hk => ?_, fun y hy hg => ?_⟩, ?_, ⟨hlow, hclo⟩, ?_⟩, ?_⟩
  · match i, hy with
    | 0, hy => simp [edF] at hy; subst hy; simp [brE] at hk
    | 1, hy => simp [edF] at hy; subst hy; simp [pdE] at hk
    | 2, hy => simp [edF] at hy; subst hy; simp [lbOf, edF, isL, brE, pdE, lbE, List.findIdx?_cons]
  · simp [edF] at hy
    rcases hy with rfl | rfl | rfl
    · simp [edF, lbOf, isL, brE, pdE, lbE, List.findIdx?_cons]
    · simp [goes, pdE] at hg
    · simp [goes, lbE] at hg
  · simp [edF, leg_br, leg_pd, leg_lb]
  · show atP (edF n) L 3 ≤ _
    rw [hat]
    split <;> omega
  · rw [hat] at hlen
    split at hlen <;> split <;> omega

theorem edB_fine (n : Int) (h0 : 1000 ≤ n) (h1 : n ≤ 1063) (L : Nat → Bool) (hL : L = fun j => decide (j = 2) && decide (1024 < n)) : Fine (edB n) L ∧ ((asmW (edB n) L 3).length : Int) = if 1024 < n then n + 2 else n + 1 := by
  obtain ⟨s0, s1, s2⟩ := sh_B n
  have hmx : max n 0 = n := by omega
  rw [hmx] at s1
  have hfr : frmB (edB n) = true := by
    simp [frmB, frm, edB, brE, pdE, lbE]
    omega
  have hA : ∀ M : Nat → Bool, atP (edB n) M 3 = 4 + 4 * n + ((if M 0 then 4 else 0) + (if M 1 then 4 else 0) + (if M 2 then 4 else 0)) := fun M => by
    show 0 + (shA (edB n) 0 + if M 0 then 4 else 0) + (shA (edB n) 1 + if M 1 then 4 else 0) + (shA (edB n) 2 + if M 2 then 4 else 0) = _
    rw [s0, s1, s2]
    omega
  have hW : ∀ M : Nat → Bool, way (edB n) M 2 = -(4 * n + ((if M 0 then 4 else 0) + (if M 1 then 4 else 0))) := fun M => by
    unfold way
    rw [goal_B]
    show 0 - (0 + (shA (edB n) 0 + if M 0 then 4 else 0) + (shA (edB n) 1 + if M 1 then 4 else 0)) = _
    rw [s0, s1]
    omega
  have hlow : Low (edB n) L := by
    refine (Low.none _).grow fun j hj => Or.inr ?_
    rw [hL] at hj
    simp only [Bool.and_eq_true, decide_eq_true_eq] at hj
    obtain ⟨rfl, hj⟩ := hj
    refine ⟨(isB_B n 2).2 rfl, ?_⟩
    unfold far
    rw [hW]
    simp
    omega
  have hclo : Clo (edB n) L := fun j hb hLj hf => by
    obtain rfl := (isB_B n j).1 hb
    unfold far at hf
    rw [hW] at hf
    rw [hL] at hLj
    simp only [decide_true, Bool.true_and, decide_eq_false_iff_not] at hLj
    rw [hL] at hf
    simp [hLj] at hf
    omega
  have hat : atP (edB n) L 3 = if 1024 < n then 4 * (n + 2) else 4 * (n + 1) := by
    rw [hA, hL]
    by_cases e : 1024 < n
    · simp [e]; omega
    · simp [e]; omega
  have hlen := asmW_len (L := L) hfr hlow.1 3 (by simp [edB])
  refine ⟨⟨hfr, ⟨fun i y hy hk => ?_, fun y hy hg => ?_⟩, ?_, ⟨hlow, hclo⟩, ?_⟩, ?_⟩
  · match i, hy with
    | 0, hy => simp [edB] at hy; subst hy; simp [lbOf]
    | 1, hy => simp [edB] at hy; subst hy; simp [pdE] at hk
    | 2, hy => simp [edB] at hy; subst hy; simp [brE] at hk
  · simp [edB] at hy
    rcases hy with rfl | rfl | rfl
    · simp [goes, lbE] at hg
    · simp [goes, pdE] at hg
    · simp [edB, lbOf, isL, brE, pdE, lbE, List.findIdx?_cons]
  · simp [edB, leg_br, leg_pd, leg_lb]
  · show atP (edB n) L 3 ≤ _
    rw [hat]
    split <;> omega
  · rw [hat] at hlen
    split at hlen <;> split <;> omega
end Go.Proofs.Ytcdeckbobabdkaa
