/-
  Proved: what the checker's instr answers.
-/
import Derived.Test.YtapgaclonilnbaaDoorCins1
import Derived.Test.YtapgaclonilnbaaDoorCins2
import Derived.Test.YtapgaclonilnbaaDoorCins3
import Derived.Test.YtapgaclonilnbaaDoorCins4
namespace Go.Proofs.YtapgaclonilnbaaDoor
open Go.RowKit
set_option linter.unusedVariables false
set_option linter.unusedSimpArgs false

set_option maxRecDepth 20000 in
theorem ins7 (l : List Lf) (LA : Option Addr) (LC mb n fb fo ib io : Nat) (rg : Int) (x : Lo) (av dv : Value) (w : World) (hop : x.op = 7) (hl : LfsIn w l (.slice LA l.length LC)) (hm : MapS w mb n (byN l)) (hr : w.cell? ⟨fb, fo + 1, none⟩ = some (.int .i64 rg))
    (hx : RowAt w ib io (loC x av dv)) (ht : x.tx.size ≤ maxLen) (ha : NosIn w x.args av) (hd : NosIn w x.dsts dv) :
    Calls Tryd.prog 22 #[.agg #[.slice LA l.length LC, .map (some mb), .pointer (some ⟨fb, fo, none⟩)], .pointer (some ⟨ib, io, none⟩)] w fun e w' => e = .returned (.bool (callB l rg x)) ∧ Below w.heap.size w w' := by
  have B0 : Hid (Below w.heap.size w (w.alloc (.cells #[.slice LA l.length LC, .map (some mb), .pointer (some ⟨fb, fo, none⟩)] 62))) := below_alloc _ _
  have CC : Hid (Calls Tryd.prog 33 #[.agg #[.slice LA l.length LC, .map (some mb), .pointer (some ⟨fb, fo, none⟩)], .pointer (some ⟨ib, io, none⟩)] (w.alloc (.cells #[.slice LA l.length LC, .map (some mb), .pointer (some ⟨fb, fo, none⟩)] 62)) fun e w' => e = .returned (.bool (callB l rg x)) ∧ Below (w.alloc (.cells #[.slice LA l.length LC, .map (some mb), .pointer (some ⟨fb, fo, none⟩)] 62)).heap.size (w.alloc (.cells #[.slice LA l.length LC, .map (some mb), .pointer (some ⟨fb, fo, none⟩)] 62)) w') :=
    call_c l LA LC mb n fb fo ib io rg x av dv _ (hl.below B0.out) (hm.below B0.out) (kp_cell hr B0.out) (hx.below B0.out) ht (ha.below B0.out) (hd.below B0.out)
  have c0 : (w.alloc (.cells #[.slice LA l.length LC, .map (some mb), .pointer (some ⟨fb, fo, none⟩)] 62)).cell? ⟨ib, io, none⟩ = some (.int .i64 x.op) := kp_cell (hx.at 0 rfl) B0.out
  rw [hop] at c0
  generalize callB l rg x = q at *
  clear hl hm hr hx ht ha hd hop
  go_enter Tryd.func22, Tryd.ntmps22
  go_wp2_with (go_at_call 33; refine CC.out.mono ?_; rintro e w1 ⟨rfl, hw⟩; have B1 : Hid (Below w.heap.size w w1) := below_next B0.out hw; clear hw)
  go_ret
  exact ⟨rfl, B1.out⟩

set_option maxRecDepth 20000 in
theorem ins_else (lv mv : Value) (fb fo ib io : Nat) (x : Lo) (av dv : Value) (w : World) (h1 : ¬ x.op = 1) (h2 : ¬ x.op = 2) (h3 : ¬ x.op = 3) (h4 : ¬ x.op = 4) (h5 : ¬ x.op = 5) (h6 : ¬ x.op = 6) (h7 : ¬ x.op = 7) (h8 : ¬ x.op = 8) (h9 : ¬ x.op = 9) (h10 : ¬ x.op = 10) (h11 : ¬ x.op = 11) (hx : RowAt w ib io (loC x av dv)) :
    Calls Tryd.prog 22 #[.agg #[lv, mv, .pointer (some ⟨fb, fo, none⟩)], .pointer (some ⟨ib, io, none⟩)] w fun e w' => e = .returned (.bool false) ∧ Below w.heap.size w w' := by
  have c0 : (w.alloc (.cells #[lv, mv, .pointer (some ⟨fb, fo, none⟩)] 62)).cell? ⟨ib, io, none⟩ = some (.int .i64 x.op) := kp_cell (hx.at 0 rfl) (below_alloc w _)
  clear hx
  generalize x.op = k at *
  have e1 : (k == 1) = false := by simpa using h1
  have e2 : (k == 2) = false := by simpa using h2
  have e3 : (k == 3) = false := by simpa using h3
  have e4 : (k == 4) = false := by simpa using h4
  have e5 : (k == 5) = false := by simpa using h5
  have e6 : (k == 6) = false := by simpa using h6
  have e7 : (k == 7) = false := by simpa using h7
  have e8 : (k == 8) = false := by simpa using h8
  have e9 : (k == 9) = false := by simpa using h9
  have e10 : (k == 10) = false := by simpa using h10
  have e11 : (k == 11) = false := by simpa using h11
  go_enter Tryd.func22, Tryd.ntmps22
  go_wp2
  go_ret
  exact ⟨rfl, below_alloc _ _⟩

theorem instr_c (l : List Lf) (LA : Option Addr) (LC mb n fb fo ib io : Nat) (rg : Int) (x : Lo) (av dv : Value) (w : World) (hl : LfsIn w l (.slice LA l.length LC)) (hm : MapS w mb n (byN l)) (hr : w.cell? ⟨fb, fo + 1, none⟩ = some (.int .i64 rg))
    (hx : RowAt w ib io (loC x av dv)) (ht : x.tx.size ≤ maxLen) (ha : NosIn w x.args av) (hd : NosIn w x.dsts dv) :
    Calls Tryd.prog 22 #[.agg #[.slice LA l.length LC, .map (some mb), .pointer (some ⟨fb, fo, none⟩)], .pointer (some ⟨ib, io, none⟩)] w fun e w' => e = .returned (.bool (instrB l rg x)) ∧ Below w.heap.size w w' := by
  unfold instrB
  by_cases h1 : x.op = 1
  · rw [if_pos (Or.inl h1)]
    exact ins1_x _ _ fb fo ib io rg x av dv w h1 hr hx
  by_cases h9 : x.op = 9
  · rw [if_pos (Or.inr h9)]
    exact ins9_x _ _ fb fo ib io rg x av dv w h9 hr hx
  rw [if_neg (fun h => h.elim h1 h9)]
  by_cases h2 : x.op = 2
  · rw [if_pos h2]
    cases g0 : rgB rg x.d with
    | false => simpa only [Bool.false_and] using ins2_f _ _ fb fo ib io rg x av dv w h2 hr hx g0
    | true =>
      rw [Bool.true_and]
      exact ins2_tx _ _ fb fo ib io rg x av dv w h2 hr hx g0
  rw [if_neg h2]
  by_cases h3 : x.op = 3
  · rw [if_pos h3]
    rw [show (doB x.tx && rgB rg x.d && rdB rg x.a && rdB rg x.b) = (doB x.tx && rgB rg x.d && readsB rg [x.a, x.b]) by rw [readsB_two, Bool.and_assoc (doB x.tx && rgB rg x.d)]]
    cases g0 : doB x.tx with
    | false => simpa only [Bool.false_and] using ins3_f _ _ fb fo ib io rg x av dv w h3 hr hx g0
    | true =>
      rw [Bool.true_and]
      cases g1 : rgB rg x.d with
      | false => simpa only [Bool.false_and] using ins3_tf _ _ fb fo ib io rg x av dv w h3 hr hx g0 g1
      | true =>
        rw [Bool.true_and]
        exact ins3_ttx _ _ fb fo ib io rg x av dv w h3 hr hx g0 g1
  rw [if_neg h3]
  by_cases h4 : x.op = 4
  · rw [if_pos h4]
    cases g0 : immB x.tx x.n with
    | false => simpa only [Bool.false_and] using ins4_f _ _ fb fo ib io rg x av dv w h4 hr hx g0
    | true =>
      rw [Bool.true_and]
      cases g1 : rgB rg x.d with
      | false => simpa only [Bool.false_and] using ins4_tf _ _ fb fo ib io rg x av dv w h4 hr hx g0 g1
      | true =>
        rw [Bool.true_and]
        exact ins4_ttx _ _ fb fo ib io rg x av dv w h4 hr hx g0 g1
  rw [if_neg h4]
  by_cases h5 : x.op = 5
  · rw [if_pos h5]
    cases g0 : fitB x.n false with
    | false => simpa only [Bool.false_and] using ins5_f _ _ fb fo ib io rg x av dv w h5 hr hx g0
    | true =>
      rw [Bool.true_and]
      cases g1 : rgB rg x.d with
      | false => simpa only [Bool.false_and] using ins5_tf _ _ fb fo ib io rg x av dv w h5 hr hx g0 g1
      | true =>
        rw [Bool.true_and]
        exact ins5_ttx _ _ fb fo ib io rg x av dv w h5 hr hx g0 g1
  rw [if_neg h5]
  by_cases h6 : x.op = 6
  · rw [if_pos h6]
    cases g0 : fitB x.n false with
    | false => simpa only [Bool.false_and] using ins6_f _ _ fb fo ib io rg x av dv w h6 hr hx g0
    | true =>
      rw [Bool.true_and]
      cases g1 : bgB rg x.a with
      | false => simpa only [Bool.false_and] using ins6_tf _ _ fb fo ib io rg x av dv w h6 hr hx g0 g1
      | true =>
        rw [Bool.true_and]
        exact ins6_ttx _ _ fb fo ib io rg x av dv w h6 hr hx g0 g1
  rw [if_neg h6]
  by_cases h7 : x.op = 7
  · rw [if_pos h7]
    exact ins7 l LA LC mb n fb fo ib io rg x av dv w h7 hl hm hr hx ht ha hd
  rw [if_neg h7]
  by_cases h8 : x.op = 8
  · rw [if_pos (Or.inl h8)]
    exact ins8_x _ _ fb fo ib io rg x av dv w h8 hr hx
  by_cases h11 : x.op = 11
  · rw [if_pos (Or.inr h11)]
    exact ins11_x _ _ fb fo ib io rg x av dv w h11 hr hx
  rw [if_neg (fun h => h.elim h8 h11)]
  by_cases h10 : x.op = 10
  · rw [if_pos h10]
    cases g0 : upB x.n 128 with
    | false => simpa only [Bool.false_and] using ins10_f _ _ fb fo ib io rg x av dv w h10 hr hx g0
    | true =>
      rw [Bool.true_and]
      exact ins10_tx _ _ fb fo ib io rg x av dv w h10 hr hx g0
  rw [if_neg h10]
  exact ins_else _ _ fb fo ib io x av dv w h1 h2 h3 h4 h5 h6 h7 h8 h9 h10 h11 hx

end Go.Proofs.YtapgaclonilnbaaDoor
