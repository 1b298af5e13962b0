/-
  Proved: what the checker's instr answers.
-/
import Derived.Test.YtapgaclonilnbaaDoorGo
import Derived.Test.YtapgaclonilnbaaDoorGp
import Derived.Test.YtapgaclonilnbaaDoorGq
import Derived.Test.YtapgaclonilnbaaDoorGr
import Derived.Test.YtapgaclonilnbaaDoorGs
namespace Go.Proofs.YtapgaclonilnbaaDoor
open Go.RowKit
set_option linter.unusedVariables false
set_option linter.unusedSimpArgs false

set_option maxRecDepth 20000 in
theorem ins7 (l : List Lf) (LA : Option Addr) (LC mb n fb fo ib io : Nat) (rg : Int) (x : Lo) (av dv : Value) (w : World) (hop : x.op = 7) (hl : LfsIn w l (.slice LA l.length LC)) (hm : MapS w mb n (byN l)) (hr : w.cell? ⟨fb, fo + 1, none⟩ = some (.int .i64 rg))
    (hx : RowAt w ib io (loC x av dv)) (ht : x.tx.size ≤ maxLen) (ha : NosIn w x.args av) (hd : NosIn w x.dsts dv) :
    Calls Tryd.prog 22 #[.agg #[.slice LA l.length LC, .map (some mb), .pointer (some ⟨fb, fo, none⟩)], .pointer (some ⟨ib, io, none⟩)] w fun e w' => e = .returned (.bool (callB l rg x)) ∧ Below w.heap.size w w' := by
  have B0 : Hid (Below w.heap.size w (w.alloc (.cells #[.slice LA l.length LC, .map (some mb), .pointer (some ⟨fb, fo, none⟩)] 62))) := below_alloc _ _
  have CC : Hid (Calls Tryd.prog 33 #[.agg #[.slice LA l.length LC, .map (some mb), .pointer (some ⟨fb, fo, none⟩)], .pointer (some ⟨ib, io, none⟩)] (w.alloc (.cells #[.slice LA l.length LC, .map (some mb), .pointer (some ⟨fb, fo, none⟩)] 62)) fun e w' => e = .returned (.bool (callB l rg x)) ∧ Below (w.alloc (.cells #[.slice LA l.length LC, .map (some mb), .pointer (some ⟨fb, fo, none⟩)] 62)).heap.size (w.alloc (.cells #[.slice LA l.length LC, .map (some mb), .pointer (some ⟨fb, fo, none⟩)] 62)) w') :=
    call_c l LA LC mb n fb fo ib io rg x av dv _ (hl.below B0.out) (hm.below B0.out) (kp_cell hr B0.out) (hx.below B0.out) ht (ha.below B0.out) (hd.below B0.out)
  have c0 : (w.alloc (.cells #[.slice LA l.length LC, .map (some mb), .pointer (some ⟨fb, fo, none⟩)] 62)).cell? ⟨ib, io, none⟩ = some (.int .i64 x.op) := kp_cell (hx.at 0 rfl) B0.out
  rw [hop] at c0
  generalize callB l rg x = q at *
  clear hl hm hr hx ht ha hd hop
  go_enter Tryd.func22, Tryd.ntmps22
  go_wp2_with (go_at_call 33; refine CC.out.mono ?_; rintro e w1 ⟨rfl, hw⟩; have B1 : Hid (Below w.heap.size w w1) := below_next B0.out hw; clear hw)
  go_ret
  exact ⟨rfl, B1.out⟩

set_option maxRecDepth 20000 in
theorem ins_else (lv mv : Value) (fb fo ib io : Nat) (x : Lo) (av dv : Value) (w : World) (h1 : ¬ x.op = 1) (h2 : ¬ x.op = 2) (h3 : ¬ x.op = 3) (h4 : ¬ x.op = 4) (h5 : ¬ x.op = 5) (h6 : ¬ x.op = 6) (h7 : ¬ x.op = 7) (h8 : ¬ x.op = 8) (h9 : ¬ x.op = 9) (h10 : ¬ x.op = 10) (h11 : ¬ x.op = 11) (hx : RowAt w ib io (loC x av dv)) :
    Calls Tryd.prog 22 #[.agg #[lv, mv, .pointer (some ⟨fb, fo, none⟩)], .pointer (some ⟨ib, io, none⟩)] w fun e w' => e = .returned (.bool false) ∧ Below w.heap.size w w' := by
  have c0 : (w.alloc (.cells #[lv, mv, .pointer (some ⟨fb, fo, none⟩)] 62)).cell? ⟨ib, io, none⟩ = some (.int .i64 x.op) := kp_cell (hx.at 0 rfl) (below_alloc w _)
  clear hx
  generalize x.op = k at *
  have e1 : (k == 1) = false := by simpa using h1
  have e2 : (k == 2) = false := by simpa using h2
  have e3 : (k == 3) = false := by simpa using h3
  have e4 : (k == 4) = false := by simpa using h4
  have e5 : (k == 5) = false := by simpa using h5
  have e6 : (k == 6) = false := by simpa using h6
  have e7 : (k == 7) = false := by simpa using h7
  have e8 : (k == 8) = false := by simpa using h8
  have e9 : (k == 9) = false := by simpa using h9
  have e10 : (k == 10) = false := by simpa using h10
  have e11 : (k == 11) = false := by simpa using h11
  go_enter Tryd.func22, Tryd.ntmps22
  go_wp2
  go_ret
  exact ⟨rfl, below_alloc _ _⟩

theorem instr_c (l : List Lf) (LA : Option Addr) (LC mb n fb fo ib io : Nat) (rg : Int) (x : Lo) (av dv : Value) (w : World) (hl : LfsIn w l (.slice LA l.length LC)) (hm : MapS w mb n (byN l)) (hr : w.cell? ⟨fb, fo + 1, none⟩ = some (.int .i64 rg))
    (hx : RowAt w ib io (loC x av dv)) (ht : x.tx.size ≤ maxLen) (ha : NosIn w x.args av) (hd : NosIn w x.dsts dv) :
    Calls Tryd.prog 22 #[.agg #[.slice LA l.length LC, .map (some mb), .pointer (some ⟨fb, fo, none⟩)], .pointer (some ⟨ib, io, none⟩)] w fun e w' => e = .returned (.bool (instrB l rg x)) ∧ Below w.heap.size w w' := by
  unfold instrB
  by_cases h1 : x.op = 1
  · rw [if_pos (Or.inl h1)]
    exact ins1_x _ _ fb fo ib io rg x av dv w h1 hr hx
  by_cases h9 : x.op = 9
  · rw [if_pos (Or.inr h9)]
    exact ins9_x _ _ fb fo ib io rg x av dv w h9 hr hx
  rw [if_neg (fun h => h.elim h1 h9)]
  by_cases h2 : x.op = 2
  · rw [if_pos h2]
    cases g0 : rgB rg x.d with
    | false => simpa only [Bool.false_and] using ins2_f _ _ fb fo ib io rg x av dv w h2 hr hx g0
    | true =>
      rw [Bool.true_and]
      exact ins2_tx _ _ fb fo ib io rg x av dv w h2 hr hx g0
  rw [if_neg h2]
  by_cases h3 : x.op = 3
  · rw [if_pos h3]
    rw [show (doB x.tx && rgB rg x.d && rdB rg x.a && rdB rg x.b) = (doB x.tx && rgB rg x.d && readsB rg [x.a, x.b]) by rw [readsB_two, Bool.and_assoc (doB x.tx && rgB rg x.d)]]
    cases g0 : doB x.tx with
    | false => simpa only [Bool.false_and] using ins3_f _ _ fb fo ib io rg x av dv w h3 hr hx g0
    | true =>
      rw [Bool.true_and]
      cases g1 : rgB rg x.d with
      | false => simpa only [Bool.false_and] using ins3_tf _ _ fb fo ib io rg x av dv w h3 hr hx g0 g1
      | true =>
        rw [Bool.true_and]
        exact ins3_ttx _ _ fb fo ib io rg x av dv w h3 hr hx g0 g1
  rw [if_neg h3]
  by_cases h4 : x.op = 4
  · rw [if_pos h4]
    cases g0 : immB x.tx x.n with
    | false => simpa only [Bool.false_and] using ins4_f _ _ fb fo ib io rg x av dv w h4 hr hx g0
    | true =>
      rw [Bool.true_and]
      cases g1 : rgB rg x.d with
      | false => simpa only [Bool.false_and] using ins4_tf _ _ fb fo ib io rg x av dv w h4 hr hx g0 g1
      | true =>
        rw [Bool.true_and]
        exact ins4_ttx _ _ fb fo ib io rg x av dv w h4 hr hx g0 g1
  rw [if_neg h4]
  by_cases h5 : x.op = 5
  · rw [if_pos h5]
    cases g0 : fitB x.n false with
    | false => simpa only [Bool.false_and] using ins5_f _ _ fb fo ib io rg x av dv w h5 hr hx g0
    | true =>
      rw [Bool.true_and]
      cases g1 : rgB rg x.d with
      | false => simpa only [Bool.false_and] using ins5_tf _ _ fb fo ib io rg x av dv w h5 hr hx g0 g1
      | true =>
        rw [Bool.true_and]
        exact ins5_ttx _ _ fb fo ib io rg x av dv w h5 hr hx g0 g1
  rw [if_neg h5]
  by_cases h6 : x.op = 6
  · rw [if_pos h6]
    cases g0 : fitB x.n false with
    | false => simpa only [Bool.false_and] using ins6_f _ _ fb fo ib io rg x av dv w h6 hr hx g0
    | true =>
      rw [Bool.true_and]
      cases g1 : bgB rg x.a with
      | false => simpa only [Bool.false_and] using ins6_tf _ _ fb fo ib io rg x av dv w h6 hr hx g0 g1
      | true =>
        rw [Bool.true_and]
        exact ins6_ttx _ _ fb fo ib io rg x av dv w h6 hr hx g0 g1
  rw [if_neg h6]
  by_cases h7 : x.op = 7
  · rw [if_pos h7]
    exact ins7 l LA LC mb n fb fo ib io rg x av dv w h7 hl hm hr hx ht ha hd
  rw [if_neg h7]
  by_cases h8 : x.op = 8
  · rw [if_pos (Or.inl h8)]
    exact ins8_x _ _ fb fo ib io rg x av dv w h8 hr hx
  by_cases h11 : x.op = 11
  · rw [if_pos (Or.inr h11)]
    exact ins11_x _ _ fb fo ib io rg x av dv w h11 hr hx
  rw [if_neg (fun h => h.elim h8 h11)]
  by_cases h10 : x.op = 10
  · rw [if_pos h10]
    cases g0 : upB x.n 128 with
    | false => simpa only [Bool.false_and] using ins10_f _ _ fb fo ib io rg x av dv w h10 hr hx g0
    | true =>
      rw [Bool.true_and]
      exact ins10_tx _ _ fb fo ib io rg x av dv w h10 hr hx g0
  rw [if_neg h10]
  exact ins_else _ _ fb fo ib io x av dv w h1 h2 h3 h4 h5 h6 h7 h8 h9 h10 h11 hx

end Go.Proofs.YtapgaclonilnbaaDoor

/-
  Proved: what the checker's blocks answers.
-/
namespace Go.Proofs.YtapgaclonilnbaaDoor
open Go.RowKit
set_option linter.unusedVariables false
set_option linter.unusedSimpArgs false

theorem all_step {α : Type} (p : α → Bool) (l : List α) (k : Nat) (h : k < l.length) : (l.take (k + 1)).all p = ((l.take k).all p && p l[k]) := by
  rw [List.take_succ_eq_append_getElem h, List.all_append]
  simp
theorem all_false {α : Type} {p : α → Bool} {l : List α} {k : Nat} (h : k < l.length) (hf : p l[k] = false) : l.all p = false := by
  rw [List.all_eq_false]
  exact ⟨l[k], List.getElem_mem h, by simpa using hf⟩
theorem RowAt.tail {w : World} {b o : Nat} {c : Value} {cs : List Value} (h : RowAt w b o (c :: cs)) : RowAt w b (o + 1) cs :=
  ⟨h.1, fun j v hj => by have := h.2 (j + 1) v (by simpa using hj); rwa [show o + (j + 1) = o + 1 + j by omega] at this⟩

set_option maxRecDepth 20000 in
set_option maxHeartbeats 2000000 in
theorem blocks_c (l : List Lf) (LA : Option Addr) (LC mb n fb fo : Nat) (f : Lf) (pv bv : Value) (w : World) (hl : LfsIn w l (.slice LA l.length LC)) (hm : MapS w mb n (byN l)) (hx : RowAt w fb fo (lfC f pv bv)) (hp : NosIn w f.pa pv) (hb : LbsIn w f.bs bv) :
    Calls Tryd.prog 14 #[.agg #[.slice LA l.length LC, .map (some mb), .pointer (some ⟨fb, fo, none⟩)]] w fun e w' => e = .returned (.bool (blocksB l f)) ∧ Below w.heap.size w w' := by
  obtain ⟨_, PA, PC, rfl, _⟩ := hp.cells
  obtain ⟨hb0, BA, BC, rfl, hbs⟩ := hb
  have B0 : Hid (Below w.heap.size w (w.alloc (.cells #[.slice LA l.length LC, .map (some mb), .pointer (some ⟨fb, fo, none⟩)] 62))) := below_alloc _ _
  have HS : Hid (∀ w', Below (w.alloc (.cells #[.slice LA l.length LC, .map (some mb), .pointer (some ⟨fb, fo, none⟩)] 62)).heap.size (w.alloc (.cells #[.slice LA l.length LC, .map (some mb), .pointer (some ⟨fb, fo, none⟩)] 62)) w' → w'.cell? ⟨w.heap.size, 0, none⟩ = some (.slice LA l.length LC) ∧ w'.cell? ⟨w.heap.size, 1, none⟩ = some (.map (some mb)) ∧ w'.cell? ⟨w.heap.size, 2, none⟩ = some (.pointer (some ⟨fb, fo, none⟩)) ∧ w'.cell? ⟨fb, fo + 2, none⟩ = some (.slice PA f.pa.length PC) ∧ w'.cell? ⟨fb, fo + 6, none⟩ = some (.slice BA f.bs.length BC)) := fun w' hb => by
    have hb2 := below_next B0.out hb
    have hA := (At.new w #[.slice LA l.length LC, .map (some mb), .pointer (some ⟨fb, fo, none⟩)] 62).below hb (by simp)
    exact ⟨hA.cell 0, hA.cell 1, hA.cell 2, kp_cell (hx.at 2 rfl) hb2, kp_cell (hx.at 6 rfl) hb2⟩
  have HL : Hid (LfsIn w l (.slice LA l.length LC)) := hl
  have HM : Hid (MapS w mb n (byN l)) := hm
  have HP : Hid (NosIn w f.pa (.slice PA f.pa.length PC)) := hp
  have HR : Hid (w.cell? ⟨fb, fo + 1, none⟩ = some (.int .i64 f.rg)) := hx.at 1 rfl
  have HN : Hid (w.cell? ⟨fb, fo + 3, none⟩ = some (.int .i64 f.an)) := hx.at 3 rfl
  have HB : Hid (w.cell? ⟨fb, fo + 6, none⟩ = some (.slice BA f.bs.length BC)) := hx.at 6 rfl
  have HE : Hid (∀ i (h : i < f.bs.length), ∃ b o cs, BA = some ⟨b, o, none⟩ ∧ RowAt w b (o + i * 8) cs ∧ LbIn w (f.bs[i]'h) cs) := hbs
  have AS : Hid (∀ k (h : k < f.bs.length), (f.bs.take (k + 1)).all (blockB l f.rg f.an f.bs.length) = ((f.bs.take k).all (blockB l f.rg f.an f.bs.length) && blockB l f.rg f.an f.bs.length f.bs[k])) := fun k h => all_step _ _ k h
  clear hl hm hx hp hbs
  cases hq : setsB f.rg f.pa with
  | false =>
    have EE : Hid (blocksB l f = false) := (by unfold blocksB; rw [hq, Bool.false_and] : blocksB l f = false)
    have HQ : Hid (setsB f.rg f.pa = false) := hq
    clear hq
    go_enter Tryd.func14, Tryd.ntmps14
    go_wp2
    generalize w.alloc (.cells #[.slice LA l.length LC, .map (some mb), .pointer (some ⟨fb, fo, none⟩)] 62) = w1 at *
    refine wp_region_N (fun w' => w'.cell? ⟨w.heap.size, 0, none⟩ = some (.slice LA l.length LC) ∧ w'.cell? ⟨w.heap.size, 1, none⟩ = some (.map (some mb)) ∧ w'.cell? ⟨w.heap.size, 2, none⟩ = some (.pointer (some ⟨fb, fo, none⟩)) ∧ w'.cell? ⟨fb, fo + 2, none⟩ = some (.slice PA f.pa.length PC) ∧ w'.cell? ⟨fb, fo + 6, none⟩ = some (.slice BA f.bs.length BC)) (fun _ => true) mixed (HS.out _ (below_next (Below.refl _ _) (below_drew _))) ?_
    intro S0
    have BL : Below w1.heap.size w1 w1.drew := below_next (Below.refl _ _) (below_drew _)
    generalize w1.drew = wd at *
    refine tkO (i := 0) (v := ?_) rfl (Or.inl ⟨by rfl, ?_⟩) S0 ?_
    rotate_left
    · intro w' hS'
      obtain ⟨h0, h1, h2, h3, h4⟩ := hS'
      (try go_simp)
      first | done | exact rfl | exact ⟨rfl, rfl⟩
    (try simp only [Act.put, qA, qC, qD, qE, qF])
    refine tkO (i := 1) (v := ?_) rfl (Or.inl ⟨by rfl, ?_⟩) S0 ?_
    rotate_left
    · intro w' hS'
      obtain ⟨h0, h1, h2, h3, h4⟩ := hS'
      (try go_simp)
      first | done | exact rfl | exact ⟨rfl, rfl⟩
    (try simp only [Act.put, qA, qB, qC, qD, qE, qF])
    refine tkO (i := 2) (v := ?_) rfl (Or.inl ⟨by rfl, ?_⟩) S0 ?_
    rotate_left
    · intro w' hS'
      obtain ⟨h0, h1, h2, h3, h4⟩ := hS'
      (try go_simp)
      first | done | exact rfl | exact ⟨rfl, rfl⟩
    (try simp only [Act.put, qA, qB, qC, qD, qE, qF])
    refine tkO (i := 3) (v := ?_) rfl (Or.inl ⟨by rfl, ?_⟩) S0 ?_
    rotate_left
    · intro w' hS'
      obtain ⟨h0, h1, h2, h3, h4⟩ := hS'
      (try go_simp)
      first | done | exact rfl | exact ⟨rfl, rfl⟩
    (try simp only [Act.put, qA, qB, qC, qD, qE, qF])
    refine tkO (i := 4) (v := ?_) rfl (Or.inl ⟨by rfl, ?_⟩) S0 ?_
    rotate_left
    · intro w' hS'
      obtain ⟨h0, h1, h2, h3, h4⟩ := hS'
      (try go_simp)
      first | done | exact rfl | exact ⟨rfl, rfl⟩
    (try simp only [Act.put, qA, qB, qC, qD, qE, qF])
    refine tkO (i := 5) (v := ?_) rfl (Or.inl ⟨by rfl, ?_⟩) S0 ?_
    rotate_left
    · intro w' hS'
      obtain ⟨h0, h1, h2, h3, h4⟩ := hS'
      (try go_simp)
      first | done | exact rfl | exact ⟨rfl, rfl⟩
    (try simp only [Act.put, qA, qB, qC, qD, qE, qF])
    refine wpAnyN_one (i := 6) (by kernel_rfl) rfl (fun K hK => ?_)
    go_simp
    (go_at_call 21; refine Calls.mono (sets_c _ _ fb fo f.rg f.pa _ _ (kp_cell HR.out (below_next B0.out BL)) (HP.out.below (below_next B0.out BL))) ?_; rintro e w106 ⟨rfl, hb6⟩)
    rw [HQ.out]
    have BL := below_next BL hb6
    have S7 := HS.out _ BL
    clear hb6
    go_wp2_with fail
    refine hK _ _ (fun _ => S7) ?_
    clear hK K
    (try simp only [Act.put, qA, qB, qC, qD, qE, qF])
    refine tkO (i := 7) (v := ?_) rfl (Or.inl ⟨by rfl, ?_⟩) S7 ?_
    rotate_left
    · intro w' hS'
      obtain ⟨h0, h1, h2, h3, h4⟩ := hS'
      (try go_simp)
      first | done | exact rfl | exact ⟨rfl, rfl⟩
    (try simp only [Act.put, qA, qB, qC, qD, qE, qF])
    refine wpAnyN_done (by kernel_rfl) ?_ _
    have BE : Hid (Below w.heap.size w w106) := below_next B0.out BL
    clear BL S0 S7
    go_wp2
    go_ret
    exact ⟨by rw [EE.out]; rfl, BE.out⟩
  | true =>
    have EQ : Hid (blocksB l f = f.bs.all (blockB l f.rg f.an f.bs.length)) := (by unfold blocksB; rw [hq, Bool.true_and] : blocksB l f = f.bs.all (blockB l f.rg f.an f.bs.length))
    have HQ : Hid (setsB f.rg f.pa = true) := hq
    clear hq
    go_enter Tryd.func14, Tryd.ntmps14
    go_wp2
    generalize w.alloc (.cells #[.slice LA l.length LC, .map (some mb), .pointer (some ⟨fb, fo, none⟩)] 62) = w1 at *
    refine wp_region_N (fun w' => w'.cell? ⟨w.heap.size, 0, none⟩ = some (.slice LA l.length LC) ∧ w'.cell? ⟨w.heap.size, 1, none⟩ = some (.map (some mb)) ∧ w'.cell? ⟨w.heap.size, 2, none⟩ = some (.pointer (some ⟨fb, fo, none⟩)) ∧ w'.cell? ⟨fb, fo + 2, none⟩ = some (.slice PA f.pa.length PC) ∧ w'.cell? ⟨fb, fo + 6, none⟩ = some (.slice BA f.bs.length BC)) (fun _ => true) mixed (HS.out _ (below_next (Below.refl _ _) (below_drew _))) ?_
    intro S0
    have BL : Below w1.heap.size w1 w1.drew := below_next (Below.refl _ _) (below_drew _)
    generalize w1.drew = wd at *
    refine tkO (i := 0) (v := ?_) rfl (Or.inl ⟨by rfl, ?_⟩) S0 ?_
    rotate_left
    · intro w' hS'
      obtain ⟨h0, h1, h2, h3, h4⟩ := hS'
      (try go_simp)
      first | done | exact rfl | exact ⟨rfl, rfl⟩
    (try simp only [Act.put, qA, qC, qD, qE, qF])
    refine tkO (i := 1) (v := ?_) rfl (Or.inl ⟨by rfl, ?_⟩) S0 ?_
    rotate_left
    · intro w' hS'
      obtain ⟨h0, h1, h2, h3, h4⟩ := hS'
      (try go_simp)
      first | done | exact rfl | exact ⟨rfl, rfl⟩
    (try simp only [Act.put, qA, qB, qC, qD, qE, qF])
    refine tkO (i := 2) (v := ?_) rfl (Or.inl ⟨by rfl, ?_⟩) S0 ?_
    rotate_left
    · intro w' hS'
      obtain ⟨h0, h1, h2, h3, h4⟩ := hS'
      (try go_simp)
      first | done | exact rfl | exact ⟨rfl, rfl⟩
    (try simp only [Act.put, qA, qB, qC, qD, qE, qF])
    refine tkO (i := 3) (v := ?_) rfl (Or.inl ⟨by rfl, ?_⟩) S0 ?_
    rotate_left
    · intro w' hS'
      obtain ⟨h0, h1, h2, h3, h4⟩ := hS'
      (try go_simp)
      first | done | exact rfl | exact ⟨rfl, rfl⟩
    (try simp only [Act.put, qA, qB, qC, qD, qE, qF])
    refine tkO (i := 4) (v := ?_) rfl (Or.inl ⟨by rfl, ?_⟩) S0 ?_
    rotate_left
    · intro w' hS'
      obtain ⟨h0, h1, h2, h3, h4⟩ := hS'
      (try go_simp)
      first | done | exact rfl | exact ⟨rfl, rfl⟩
    (try simp only [Act.put, qA, qB, qC, qD, qE, qF])
    refine tkO (i := 5) (v := ?_) rfl (Or.inl ⟨by rfl, ?_⟩) S0 ?_
    rotate_left
    · intro w' hS'
      obtain ⟨h0, h1, h2, h3, h4⟩ := hS'
      (try go_simp)
      first | done | exact rfl | exact ⟨rfl, rfl⟩
    (try simp only [Act.put, qA, qB, qC, qD, qE, qF])
    refine wpAnyN_one (i := 6) (by kernel_rfl) rfl (fun K hK => ?_)
    go_simp
    (go_at_call 21; refine Calls.mono (sets_c _ _ fb fo f.rg f.pa _ _ (kp_cell HR.out (below_next B0.out BL)) (HP.out.below (below_next B0.out BL))) ?_; rintro e w106 ⟨rfl, hb6⟩)
    rw [HQ.out]
    have BL := below_next BL hb6
    have S7 := HS.out _ BL
    clear hb6
    go_wp2_with fail
    refine hK _ _ (fun _ => S7) ?_
    clear hK K
    (try simp only [Act.put, qA, qB, qC, qD, qE, qF])
    refine tkO (i := 7) (v := ?_) rfl (Or.inl ⟨by rfl, ?_⟩) S7 ?_
    rotate_left
    · intro w' hS'
      obtain ⟨h0, h1, h2, h3, h4⟩ := hS'
      (try go_simp)
      first | done | exact rfl | exact ⟨rfl, rfl⟩
    (try simp only [Act.put, qA, qB, qC, qD, qE, qF])
    refine wpAnyN_done (by kernel_rfl) ?_ _
    have BE : Hid (Below w1.heap.size w1 w106) := BL
    obtain ⟨d0, d1, d2, d3, d4⟩ := S7
    clear BL S0
    go_wp2
    clear d0 d1 d2 d3 d4
    go_loopw [20] (fun i wr => ∃ k : Nat, k ≤ f.bs.length ∧ i = .int .i64 (k : Int) ∧ (f.bs.take k).all (blockB l f.rg f.an f.bs.length) = true ∧ Below w1.heap.size w1 wr) (fun i _ => f.bs.length - (intOf i).toNat)
    case atStart => exact ⟨0, by omega, rfl, rfl, BE.out⟩
    case round =>
      obtain ⟨k, hk, rfl, hs, hB⟩ := hrel
      have BB : Hid (Below w1.heap.size w1 wr) := hB
      have KS : Hid ((f.bs.take k).all (blockB l f.rg f.an f.bs.length) = true) := hs
      obtain ⟨d0, d1, d2, d3, d4⟩ := HS.out _ hB
      clear hs hB BE
      rcases Nat.lt_or_ge k f.bs.length with hk' | hk'
      · have hkz : (k : Int) < f.bs.length := by omega
        obtain ⟨bb, bo, cs, rfl, hrow, lv2, av2, rfl, hli, hav⟩ := HE.out k hk'
        have AS' := AS.out k hk'
        have AF : Hid (blockB l f.rg f.an f.bs.length f.bs[k] = false → blocksB l f = false) := fun h => by rw [EQ.out]; exact all_false hk' h
        generalize f.bs[k] = b at *
        have AT : Hid ((f.bs.take (k + 1)).all (blockB l f.rg f.an f.bs.length) = ((f.bs.take k).all (blockB l f.rg f.an f.bs.length) && blockB l f.rg f.an f.bs.length b)) := AS'
        obtain ⟨hl1, IA, IC, rfl, hel⟩ := hli
        have HI : Hid (∀ i (h : i < b.li.length), ∃ b' o cs, IA = some ⟨b', o, none⟩ ∧ RowAt w b' (o + i * 8) cs ∧ LoIn w (b.li[i]'h) cs) := hel
        have HW : Hid (RowAt w bb (bo + k * 8 + 1) (leC b.tm av2)) := hrow.tail
        have HV : Hid (NosIn w b.tm.args av2) := hav
        have HC : Hid (∀ w', Below w1.heap.size w1 w' → w'.cell? ⟨bb, bo + k * 8, none⟩ = some (.slice IA b.li.length IC)) := fun w' hb => kp_cell (hrow.at 0 rfl) (below_next B0.out hb)
        have c0 := HC.out _ BB.out
        have IS : Hid (∀ j (h : j < b.li.length), (b.li.take (j + 1)).all (instrB l f.rg) = ((b.li.take j).all (instrB l f.rg) && instrB l f.rg b.li[j])) := fun j h => all_step _ _ j h
        clear hrow hav hel AS'
        go_wp2
        clear d0 d1 d2 d3 d4 c0
        go_loopw [35] (fun i wi => ∃ j : Nat, j ≤ b.li.length ∧ i = .int .i64 (j : Int) ∧ (b.li.take j).all (instrB l f.rg) = true ∧ Below w1.heap.size w1 wi) (fun i _ => b.li.length - (intOf i).toNat)
        case atStart => exact ⟨0, by omega, rfl, rfl, BB.out⟩
        case round =>
          obtain ⟨j, hj, rfl, hs, hB⟩ := hrel
          rename World => wi
          have BI : Hid (Below w1.heap.size w1 wi) := hB
          have JS : Hid ((b.li.take j).all (instrB l f.rg) = true) := hs
          clear hs hB
          rcases Nat.lt_or_ge j b.li.length with hj' | hj'
          · have hjz : (j : Int) < b.li.length := by omega
            obtain ⟨ib, io, cs2, rfl, hrow2, av3, dv3, rfl, ht3, ha3, hd3⟩ := HI.out j hj'
            have JT : Hid ((b.li.take (j + 1)).all (instrB l f.rg) = ((b.li.take j).all (instrB l f.rg) && instrB l f.rg b.li[j])) := IS.out j hj'
            have JF : Hid (instrB l f.rg b.li[j] = false → blocksB l f = false) := fun h => AF.out (by unfold blockB; rw [all_false hj' h, Bool.false_and])
            generalize b.li[j] = x at *
            have XR : Hid (RowAt w ib (io + j * 8) (loC x av3 dv3)) := hrow2
            have XA : Hid (NosIn w x.args av3) := ha3
            have XD : Hid (NosIn w x.dsts dv3) := hd3
            have XT : Hid (x.tx.size ≤ maxLen) := ht3
            clear hrow2 ha3 hd3 ht3
            cases hq : instrB l f.rg x with
            | true =>
              have HQ2 : Hid (instrB l f.rg x = true) := hq
              clear hq
              go_wp2
              refine wp_region_N (fun w' => w'.cell? ⟨w.heap.size, 0, none⟩ = some (.slice LA l.length LC) ∧ w'.cell? ⟨w.heap.size, 1, none⟩ = some (.map (some mb)) ∧ w'.cell? ⟨w.heap.size, 2, none⟩ = some (.pointer (some ⟨fb, fo, none⟩)) ∧ w'.cell? ⟨bb, bo + k * 8, none⟩ = some (.slice (some ⟨ib, io, none⟩) b.li.length IC)) (fun _ => true) mixed (have a := HS.out _ (below_next BI.out (below_drew _)); And.intro a.1 (And.intro a.2.1 (And.intro a.2.2.1 (HC.out _ (below_next BI.out (below_drew _)))))) ?_
              intro S0
              have BL : Below w1.heap.size w1 wi.drew := below_next BI.out (below_drew _)
              generalize wi.drew = wd at *
              refine tkO (i := 0) (v := ?_) rfl (Or.inl ⟨by rfl, ?_⟩) S0 ?_
              rotate_left
              · intro w' hS'
                obtain ⟨h0, h1, h2, h3⟩ := hS'
                (try go_simp)
                first | done | exact rfl | exact ⟨rfl, rfl⟩
              (try simp only [Act.put, qA, qC, qD, qE, qF])
              refine tkO (i := 1) (v := ?_) rfl (Or.inl ⟨by rfl, ?_⟩) S0 ?_
              rotate_left
              · intro w' hS'
                obtain ⟨h0, h1, h2, h3⟩ := hS'
                (try go_simp)
                first | done | exact rfl | exact ⟨rfl, rfl⟩
              (try simp only [Act.put, qA, qB, qC, qD, qE, qF])
              refine tkO (i := 2) (v := ?_) rfl (Or.inl ⟨by rfl, ?_⟩) S0 ?_
              rotate_left
              · intro w' hS'
                obtain ⟨h0, h1, h2, h3⟩ := hS'
                (try go_simp)
                first | done | exact rfl | exact ⟨rfl, rfl⟩
              (try simp only [Act.put, qA, qB, qC, qD, qE, qF])
              refine tkO (i := 3) (v := ?_) rfl (Or.inl ⟨by rfl, ?_⟩) S0 ?_
              rotate_left
              · intro w' hS'
                obtain ⟨h0, h1, h2, h3⟩ := hS'
                (try go_simp)
                first | done | exact rfl | exact ⟨rfl, rfl⟩
              (try simp only [Act.put, qA, qB, qC, qD, qE, qF])
              refine tkO (i := 4) (v := ?_) rfl (Or.inl ⟨by rfl, ?_⟩) S0 ?_
              rotate_left
              · intro w' hS'
                obtain ⟨h0, h1, h2, h3⟩ := hS'
                (try go_simp)
                first | done | exact rfl | exact ⟨rfl, rfl⟩
              (try simp only [Act.put, qA, qB, qC, qD, qE, qF])
              refine tkO (i := 5) (v := ?_) rfl (Or.inl ⟨by rfl, ?_⟩) S0 ?_
              rotate_left
              · intro w' hS'
                obtain ⟨h0, h1, h2, h3⟩ := hS'
                (try go_simp)
                first | done | exact rfl | exact ⟨rfl, rfl⟩
              (try simp only [Act.put, qA, qB, qC, qD, qE, qF])
              refine tkO (i := 6) (v := ?_) rfl (Or.inl ⟨by rfl, ?_⟩) S0 ?_
              rotate_left
              · intro w' hS'
                obtain ⟨h0, h1, h2, h3⟩ := hS'
                (try go_simp)
                first | done | exact rfl | exact ⟨rfl, rfl⟩
              (try simp only [Act.put, qA, qB, qC, qD, qE, qF])
              refine wpAnyN_one (i := 7) (by kernel_rfl) rfl (fun K hK => ?_)
              go_simp
              (go_at_call 22; refine Calls.mono (instr_c l LA LC mb n fb fo ib (io + j * 8) f.rg x av3 dv3 _ (HL.out.below (below_next B0.out BL)) (HM.out.below (below_next B0.out BL)) (kp_cell HR.out (below_next B0.out BL)) (XR.out.below (below_next B0.out BL)) XT.out (XA.out.below (below_next B0.out BL)) (XD.out.below (below_next B0.out BL))) ?_; rintro e w107 ⟨rfl, hb7⟩)
              rw [HQ2.out]
              have BL := below_next BL hb7
              have S8 := (have a := HS.out _ (BL); And.intro a.1 (And.intro a.2.1 (And.intro a.2.2.1 (HC.out _ (BL)))))
              clear hb7
              go_wp2_with fail
              refine hK _ _ (fun _ => S8) ?_
              clear hK K
              (try simp only [Act.put, qA, qB, qC, qD, qE, qF])
              refine tkO (i := 8) (v := ?_) rfl (Or.inl ⟨by rfl, ?_⟩) S8 ?_
              rotate_left
              · intro w' hS'
                obtain ⟨h0, h1, h2, h3⟩ := hS'
                (try go_simp)
                first | done | exact rfl | exact ⟨rfl, rfl⟩
              (try simp only [Act.put, qA, qB, qC, qD, qE, qF])
              refine wpAnyN_done (by kernel_rfl) ?_ _
              have BE : Hid (Below w1.heap.size w1 w107) := BL
              clear BL S0 S8
              go_wp2
              go_roundw
              case rel => exact ⟨j + 1, by omega, by go_num, by rw [JT.out, JS.out, HQ2.out]; rfl, BE.out⟩
              case measure => simp [intOf]; omega
            | false =>
              have HQ2 : Hid (instrB l f.rg x = false) := hq
              have EE : Hid (blocksB l f = false) := JF.out hq
              clear hq
              go_wp2
              refine wp_region_N (fun w' => w'.cell? ⟨w.heap.size, 0, none⟩ = some (.slice LA l.length LC) ∧ w'.cell? ⟨w.heap.size, 1, none⟩ = some (.map (some mb)) ∧ w'.cell? ⟨w.heap.size, 2, none⟩ = some (.pointer (some ⟨fb, fo, none⟩)) ∧ w'.cell? ⟨bb, bo + k * 8, none⟩ = some (.slice (some ⟨ib, io, none⟩) b.li.length IC)) (fun _ => true) mixed (have a := HS.out _ (below_next BI.out (below_drew _)); And.intro a.1 (And.intro a.2.1 (And.intro a.2.2.1 (HC.out _ (below_next BI.out (below_drew _)))))) ?_
              intro S0
              have BL : Below w1.heap.size w1 wi.drew := below_next BI.out (below_drew _)
              generalize wi.drew = wd at *
              refine tkO (i := 0) (v := ?_) rfl (Or.inl ⟨by rfl, ?_⟩) S0 ?_
              rotate_left
              · intro w' hS'
                obtain ⟨h0, h1, h2, h3⟩ := hS'
                (try go_simp)
                first | done | exact rfl | exact ⟨rfl, rfl⟩
              (try simp only [Act.put, qA, qC, qD, qE, qF])
              refine tkO (i := 1) (v := ?_) rfl (Or.inl ⟨by rfl, ?_⟩) S0 ?_
              rotate_left
              · intro w' hS'
                obtain ⟨h0, h1, h2, h3⟩ := hS'
                (try go_simp)
                first | done | exact rfl | exact ⟨rfl, rfl⟩
              (try simp only [Act.put, qA, qB, qC, qD, qE, qF])
              refine tkO (i := 2) (v := ?_) rfl (Or.inl ⟨by rfl, ?_⟩) S0 ?_
              rotate_left
              · intro w' hS'
                obtain ⟨h0, h1, h2, h3⟩ := hS'
                (try go_simp)
                first | done | exact rfl | exact ⟨rfl, rfl⟩
              (try simp only [Act.put, qA, qB, qC, qD, qE, qF])
              refine tkO (i := 3) (v := ?_) rfl (Or.inl ⟨by rfl, ?_⟩) S0 ?_
              rotate_left
              · intro w' hS'
                obtain ⟨h0, h1, h2, h3⟩ := hS'
                (try go_simp)
                first | done | exact rfl | exact ⟨rfl, rfl⟩
              (try simp only [Act.put, qA, qB, qC, qD, qE, qF])
              refine tkO (i := 4) (v := ?_) rfl (Or.inl ⟨by rfl, ?_⟩) S0 ?_
              rotate_left
              · intro w' hS'
                obtain ⟨h0, h1, h2, h3⟩ := hS'
                (try go_simp)
                first | done | exact rfl | exact ⟨rfl, rfl⟩
              (try simp only [Act.put, qA, qB, qC, qD, qE, qF])
              refine tkO (i := 5) (v := ?_) rfl (Or.inl ⟨by rfl, ?_⟩) S0 ?_
              rotate_left
              · intro w' hS'
                obtain ⟨h0, h1, h2, h3⟩ := hS'
                (try go_simp)
                first | done | exact rfl | exact ⟨rfl, rfl⟩
              (try simp only [Act.put, qA, qB, qC, qD, qE, qF])
              refine tkO (i := 6) (v := ?_) rfl (Or.inl ⟨by rfl, ?_⟩) S0 ?_
              rotate_left
              · intro w' hS'
                obtain ⟨h0, h1, h2, h3⟩ := hS'
                (try go_simp)
                first | done | exact rfl | exact ⟨rfl, rfl⟩
              (try simp only [Act.put, qA, qB, qC, qD, qE, qF])
              refine wpAnyN_one (i := 7) (by kernel_rfl) rfl (fun K hK => ?_)
              go_simp
              (go_at_call 22; refine Calls.mono (instr_c l LA LC mb n fb fo ib (io + j * 8) f.rg x av3 dv3 _ (HL.out.below (below_next B0.out BL)) (HM.out.below (below_next B0.out BL)) (kp_cell HR.out (below_next B0.out BL)) (XR.out.below (below_next B0.out BL)) XT.out (XA.out.below (below_next B0.out BL)) (XD.out.below (below_next B0.out BL))) ?_; rintro e w107 ⟨rfl, hb7⟩)
              rw [HQ2.out]
              have BL := below_next BL hb7
              have S8 := (have a := HS.out _ (BL); And.intro a.1 (And.intro a.2.1 (And.intro a.2.2.1 (HC.out _ (BL)))))
              clear hb7
              go_wp2_with fail
              refine hK _ _ (fun _ => S8) ?_
              clear hK K
              (try simp only [Act.put, qA, qB, qC, qD, qE, qF])
              refine tkO (i := 8) (v := ?_) rfl (Or.inl ⟨by rfl, ?_⟩) S8 ?_
              rotate_left
              · intro w' hS'
                obtain ⟨h0, h1, h2, h3⟩ := hS'
                (try go_simp)
                first | done | exact rfl | exact ⟨rfl, rfl⟩
              (try simp only [Act.put, qA, qB, qC, qD, qE, qF])
              refine wpAnyN_done (by kernel_rfl) ?_ _
              have BE : Hid (Below w1.heap.size w1 w107) := BL
              clear BL S0 S8
              go_wp2
              go_ret
              exact ⟨by rw [EE.out]; rfl, below_next B0.out BE.out⟩
          · have hjz : ¬ (j : Int) < b.li.length := by omega
            obtain rfl : j = b.li.length := by omega
            have JA : Hid (b.li.all (instrB l f.rg) = true) := (by have := JS.out; rwa [List.take_length] at this : b.li.all (instrB l f.rg) = true)
            cases hq : termB f.rg f.an f.bs.length b.tm with
            | true =>
              have HQ2 : Hid (termB f.rg f.an f.bs.length b.tm = true) := hq
              clear hq
              go_wp2
              refine wp_region_N (fun w' => w'.cell? ⟨w.heap.size, 0, none⟩ = some (.slice LA l.length LC) ∧ w'.cell? ⟨w.heap.size, 1, none⟩ = some (.map (some mb)) ∧ w'.cell? ⟨w.heap.size, 2, none⟩ = some (.pointer (some ⟨fb, fo, none⟩))) (fun _ => true) mixed (have a := HS.out _ (below_next BI.out (below_drew _)); And.intro a.1 (And.intro a.2.1 a.2.2.1)) ?_
              intro S0
              have BL : Below w1.heap.size w1 wi.drew := below_next BI.out (below_drew _)
              generalize wi.drew = wd at *
              refine tkO (i := 0) (v := ?_) rfl (Or.inl ⟨by rfl, ?_⟩) S0 ?_
              rotate_left
              · intro w' hS'
                obtain ⟨h0, h1, h2⟩ := hS'
                (try go_simp)
                first | done | exact rfl | exact ⟨rfl, rfl⟩
              (try simp only [Act.put, qA, qC, qD, qE, qF])
              refine tkO (i := 1) (v := ?_) rfl (Or.inl ⟨by rfl, ?_⟩) S0 ?_
              rotate_left
              · intro w' hS'
                obtain ⟨h0, h1, h2⟩ := hS'
                (try go_simp)
                first | done | exact rfl | exact ⟨rfl, rfl⟩
              (try simp only [Act.put, qA, qB, qC, qD, qE, qF])
              refine tkO (i := 2) (v := ?_) rfl (Or.inl ⟨by rfl, ?_⟩) S0 ?_
              rotate_left
              · intro w' hS'
                obtain ⟨h0, h1, h2⟩ := hS'
                (try go_simp)
                first | done | exact rfl | exact ⟨rfl, rfl⟩
              (try simp only [Act.put, qA, qB, qC, qD, qE, qF])
              refine tkO (i := 3) (v := ?_) rfl (Or.inl ⟨by rfl, ?_⟩) S0 ?_
              rotate_left
              · intro w' hS'
                obtain ⟨h0, h1, h2⟩ := hS'
                (try go_simp)
                first | done | exact rfl | exact ⟨rfl, rfl⟩
              (try simp only [Act.put, qA, qB, qC, qD, qE, qF])
              refine wpAnyN_one (i := 4) (by kernel_rfl) rfl (fun K hK => ?_)
              go_simp
              (go_at_call 23; refine Calls.mono (term_c _ _ fb fo bb (bo + k * 8 + 1) f.bs.length BC _ f.rg f.an b.tm av2 _ (kp_cell HR.out (below_next B0.out BL)) (kp_cell HN.out (below_next B0.out BL)) (kp_cell HB.out (below_next B0.out BL)) (HW.out.below (below_next B0.out BL)) (HV.out.below (below_next B0.out BL))) ?_; rintro e w104 ⟨rfl, hb4⟩)
              rw [HQ2.out]
              have BL := below_next BL hb4
              have S5 := (have a := HS.out _ (BL); And.intro a.1 (And.intro a.2.1 a.2.2.1))
              clear hb4
              go_wp2_with fail
              refine hK _ _ (fun _ => S5) ?_
              clear hK K
              (try simp only [Act.put, qA, qB, qC, qD, qE, qF])
              refine tkO (i := 5) (v := ?_) rfl (Or.inl ⟨by rfl, ?_⟩) S5 ?_
              rotate_left
              · intro w' hS'
                obtain ⟨h0, h1, h2⟩ := hS'
                (try go_simp)
                first | done | exact rfl | exact ⟨rfl, rfl⟩
              (try simp only [Act.put, qA, qB, qC, qD, qE, qF])
              refine wpAnyN_done (by kernel_rfl) ?_ _
              have BE : Hid (Below w1.heap.size w1 w104) := BL
              clear BL S0 S5
              go_wp2
              go_roundw
              case rel => exact ⟨k + 1, by omega, by go_num, by rw [AT.out, KS.out]; unfold blockB; rw [JA.out, HQ2.out]; rfl, BE.out⟩
              case measure => simp [intOf]; omega
            | false =>
              have HQ2 : Hid (termB f.rg f.an f.bs.length b.tm = false) := hq
              have EE : Hid (blocksB l f = false) := AF.out (by unfold blockB; rw [hq, Bool.and_false])
              clear hq
              go_wp2
              refine wp_region_N (fun w' => w'.cell? ⟨w.heap.size, 0, none⟩ = some (.slice LA l.length LC) ∧ w'.cell? ⟨w.heap.size, 1, none⟩ = some (.map (some mb)) ∧ w'.cell? ⟨w.heap.size, 2, none⟩ = some (.pointer (some ⟨fb, fo, none⟩))) (fun _ => true) mixed (have a := HS.out _ (below_next BI.out (below_drew _)); And.intro a.1 (And.intro a.2.1 a.2.2.1)) ?_
              intro S0
              have BL : Below w1.heap.size w1 wi.drew := below_next BI.out (below_drew _)
              generalize wi.drew = wd at *
              refine tkO (i := 0) (v := ?_) rfl (Or.inl ⟨by rfl, ?_⟩) S0 ?_
              rotate_left
              · intro w' hS'
                obtain ⟨h0, h1, h2⟩ := hS'
                (try go_simp)
                first | done | exact rfl | exact ⟨rfl, rfl⟩
              (try simp only [Act.put, qA, qC, qD, qE, qF])
              refine tkO (i := 1) (v := ?_) rfl (Or.inl ⟨by rfl, ?_⟩) S0 ?_
              rotate_left
              · intro w' hS'
                obtain ⟨h0, h1, h2⟩ := hS'
                (try go_simp)
                first | done | exact rfl | exact ⟨rfl, rfl⟩
              (try simp only [Act.put, qA, qB, qC, qD, qE, qF])
              refine tkO (i := 2) (v := ?_) rfl (Or.inl ⟨by rfl, ?_⟩) S0 ?_
              rotate_left
              · intro w' hS'
                obtain ⟨h0, h1, h2⟩ := hS'
                (try go_simp)
                first | done | exact rfl | exact ⟨rfl, rfl⟩
              (try simp only [Act.put, qA, qB, qC, qD, qE, qF])
              refine tkO (i := 3) (v := ?_) rfl (Or.inl ⟨by rfl, ?_⟩) S0 ?_
              rotate_left
              · intro w' hS'
                obtain ⟨h0, h1, h2⟩ := hS'
                (try go_simp)
                first | done | exact rfl | exact ⟨rfl, rfl⟩
              (try simp only [Act.put, qA, qB, qC, qD, qE, qF])
              refine wpAnyN_one (i := 4) (by kernel_rfl) rfl (fun K hK => ?_)
              go_simp
              (go_at_call 23; refine Calls.mono (term_c _ _ fb fo bb (bo + k * 8 + 1) f.bs.length BC _ f.rg f.an b.tm av2 _ (kp_cell HR.out (below_next B0.out BL)) (kp_cell HN.out (below_next B0.out BL)) (kp_cell HB.out (below_next B0.out BL)) (HW.out.below (below_next B0.out BL)) (HV.out.below (below_next B0.out BL))) ?_; rintro e w104 ⟨rfl, hb4⟩)
              rw [HQ2.out]
              have BL := below_next BL hb4
              have S5 := (have a := HS.out _ (BL); And.intro a.1 (And.intro a.2.1 a.2.2.1))
              clear hb4
              go_wp2_with fail
              refine hK _ _ (fun _ => S5) ?_
              clear hK K
              (try simp only [Act.put, qA, qB, qC, qD, qE, qF])
              refine tkO (i := 5) (v := ?_) rfl (Or.inl ⟨by rfl, ?_⟩) S5 ?_
              rotate_left
              · intro w' hS'
                obtain ⟨h0, h1, h2⟩ := hS'
                (try go_simp)
                first | done | exact rfl | exact ⟨rfl, rfl⟩
              (try simp only [Act.put, qA, qB, qC, qD, qE, qF])
              refine wpAnyN_done (by kernel_rfl) ?_ _
              have BE : Hid (Below w1.heap.size w1 w104) := BL
              clear BL S0 S5
              go_wp2
              go_ret
              exact ⟨by rw [EE.out]; rfl, below_next B0.out BE.out⟩
      · have hkz : ¬ (k : Int) < f.bs.length := by omega
        obtain rfl : k = f.bs.length := by omega
        have EE : Hid (blocksB l f = true) := (by have := KS.out; rw [EQ.out]; rwa [List.take_length] at this : blocksB l f = true)
        go_wp2
        go_ret
        exact ⟨by rw [EE.out]; rfl, below_next B0.out BB.out⟩
end Go.Proofs.YtapgaclonilnbaaDoor

/-
  Proved: what low's Check answers: OK just if functions are formed.
-/
namespace Go.Proofs.YtapgaclonilnbaaDoor
open Go.RowKit
set_option linter.unusedVariables false
set_option linter.unusedSimpArgs false

set_option maxRecDepth 20000 in
set_option maxHeartbeats 1000000 in
theorem hasForm_c (fb fo : Nat) (f : Lf) (pv bv : Value) (w : World) (hx : RowAt w fb fo (lfC f pv bv)) (hp : NosIn w f.pa pv) (hb : LbsIn w f.bs bv) :
    Calls Tryd.prog 13 #[.pointer (some ⟨fb, fo, none⟩)] w fun e w' => e = .returned (.bool (formB f)) ∧ Below w.heap.size w w' := by
  obtain ⟨_, PA, PC, rfl, _⟩ := hp.cells
  obtain ⟨hb0, BA, BC, rfl, hbs⟩ := hb
  have c1 := hx.at 1 (v := .int .i64 f.rg) rfl
  have c2 := hx.at 2 (v := .slice PA f.pa.length PC) rfl
  have c3 := hx.at 3 (v := .int .i64 f.an) rfl
  have c4 := hx.at 4 (v := .int .i64 f.fr) rfl
  have c6 := hx.at 6 (v := .slice BA f.bs.length BC) rfl
  have e0 : formB f = (decide (0 < f.bs.length) && upB f.rg 65536 && upB f.fr 65536 && upB f.an 8 && decide (f.pa.length ≤ 8)) := rfl
  clear hx hp hbs
  by_cases h1 : 0 < f.bs.length
  · have h1z : (0 : Int) < f.bs.length := by omega
    rw [decide_eq_true h1, Bool.true_and] at e0
    cases g1 : upB f.rg 65536 with
    | false =>
      rw [g1] at e0
      have EE : Hid (formB f = false) := (by simpa using e0 : formB f = false)
      clear e0
      go_enter Tryd.func13, Tryd.ntmps13
      go_wp2_with (go_at_call 20; refine Calls.mono (upTo_c _ _ _) ?_; rintro e w1 ⟨rfl, hw⟩; rw [hw, g1]; clear hw w1)
      go_ret
      exact ⟨by rw [EE.out]; rfl, Below.refl _ _⟩
    | true =>
      rw [g1, Bool.true_and] at e0
      cases g2 : upB f.fr 65536 with
      | false =>
        rw [g2] at e0
        have EE : Hid (formB f = false) := (by simpa using e0 : formB f = false)
        clear e0
        go_enter Tryd.func13, Tryd.ntmps13
        go_wp2_with (go_at_call 20; refine Calls.mono (upTo_c _ _ _) ?_; rintro e w1 ⟨rfl, hw⟩; rw [hw]; (try rw [g1]); (try rw [g2]); clear hw w1)
        go_ret
        exact ⟨by rw [EE.out]; rfl, Below.refl _ _⟩
      | true =>
        rw [g2, Bool.true_and] at e0
        cases g3 : upB f.an 8 with
        | false =>
          rw [g3] at e0
          have EE : Hid (formB f = false) := (by simpa using e0 : formB f = false)
          clear e0
          go_enter Tryd.func13, Tryd.ntmps13
          go_wp2_with (go_at_call 20; refine Calls.mono (upTo_c _ _ _) ?_; rintro e w1 ⟨rfl, hw⟩; rw [hw]; (try rw [g1]); (try rw [g2]); (try rw [g3]); clear hw w1)
          go_ret
          exact ⟨by rw [EE.out]; rfl, Below.refl _ _⟩
        | true =>
          rw [g3, Bool.true_and] at e0
          have EE : Hid (formB f = decide (f.pa.length ≤ 8)) := e0
          clear e0
          by_cases h5 : f.pa.length ≤ 8
          · have h5z : (f.pa.length : Int) ≤ 8 := by omega
            go_enter Tryd.func13, Tryd.ntmps13
            go_wp2_with (go_at_call 20; refine Calls.mono (upTo_c _ _ _) ?_; rintro e w1 ⟨rfl, hw⟩; rw [hw]; (try rw [g1]); (try rw [g2]); (try rw [g3]); clear hw w1)
            go_ret
            exact ⟨by rw [EE.out, decide_eq_true h5]; rfl, Below.refl _ _⟩
          · have h5z : ¬ (f.pa.length : Int) ≤ 8 := by omega
            go_enter Tryd.func13, Tryd.ntmps13
            go_wp2_with (go_at_call 20; refine Calls.mono (upTo_c _ _ _) ?_; rintro e w1 ⟨rfl, hw⟩; rw [hw]; (try rw [g1]); (try rw [g2]); (try rw [g3]); clear hw w1)
            go_ret
            exact ⟨by rw [EE.out, decide_eq_false h5]; show Ending.returned (.bool (decide ((f.pa.length : Int) ≤ 8))) = _; simp; omega, Below.refl _ _⟩
  · have h1z : ¬ (0 : Int) < f.bs.length := by omega
    have EE : Hid (formB f = false) := (by rw [e0, decide_eq_false h1]; rfl : formB f = false)
    clear e0
    go_enter Tryd.func13, Tryd.ntmps13
    go_wp2
    go_ret
    exact ⟨by rw [EE.out]; rfl, Below.refl _ _⟩

theorem cnN_step (l : List Lf) (k : Nat) (h : k < l.length) : cnN l (k + 1) = if (byN (l.take k) (nmOf l[k])).isSome then cnN l k else cnN l k + 1 := by
  rw [cnN, List.getD_eq_getElem?_getD, List.getElem?_eq_getElem h]
  rfl

set_option maxHeartbeats 1000000 in
theorem byNames_c (l : List Lf) (LA : Option Addr) (LC : Nat) (w : World) (hl : LfsIn w l (.slice LA l.length LC)) :
    Calls Tryd.prog 12 #[.slice LA l.length LC] w fun e w' => e = .returned (.tuple #[.map (some w.heap.size), .bool (decide (cnN l l.length = l.length))]) ∧ Below w.heap.size w w' ∧ MapS w' w.heap.size (cnN l l.length) (byN l) := by
  obtain ⟨hl0, LA', LC', eL, hL⟩ := hl
  cases eL
  have HE : Hid (∀ i (h : i < l.length), ∃ b o cs, LA = some ⟨b, o, none⟩ ∧ RowAt w b (o + i * 7) cs ∧ LfIn w (l[i]'h) cs) := hL
  have BT : Hid (∀ k (h : k < l.length), byN (l.take (k + 1)) = updS (byN (l.take k)) (nmOf l[k]) (some (k : Int)) ∧ cnN l (k + 1) = if (byN (l.take k) (nmOf l[k])).isSome then cnN l k else cnN l k + 1) := fun k h => ⟨byN_take l k h, cnN_step l k h⟩
  have hmm := @run_makeMap Tryd.prog
  clear hL
  go_enter Tryd.func12, Tryd.ntmps12
  go_wp2
  clear hmm
  go_loopw [9] (fun i wr => ∃ k : Nat, k ≤ l.length ∧ i = .int .i64 (k : Int) ∧ Below w.heap.size w wr ∧ MapS wr w.heap.size (cnN l k) (byN (l.take k))) (fun i _ => l.length - (intOf i).toNat)
  case atStart => exact ⟨0, by omega, rfl, below_alloc _ _, MapS.made w⟩
  case round =>
    obtain ⟨k, hk, rfl, hB, hM⟩ := hrel
    have BB : Hid (Below w.heap.size w wr) := hB
    have MM : Hid (MapS wr w.heap.size (cnN l k) (byN (l.take k))) := hM
    clear hB hM
    rcases Nat.lt_or_ge k l.length with hk' | hk'
    · have hkz : (k : Int) < l.length := by omega
      obtain ⟨b, o, cs, rfl, hrow, pv, bv, rfl, hnm, _, _⟩ := HE.out k hk'
      obtain ⟨t1, t2⟩ := BT.out k hk'
      generalize l[k] = f at *
      have T1 : Hid (byN (l.take (k + 1)) = updS (byN (l.take k)) (nmOf f) (some (k : Int))) := t1
      have T2 : Hid (cnN l (k + 1) = if (byN (l.take k) (nmOf f)).isSome then cnN l k else cnN l k + 1) := t2
      have c0 : wr.cell? ⟨b, o + k * 7, none⟩ = some (.string f.nm) := kp_cell (hrow.at 0 rfl) BB.out
      have hn1 := cnN_le l k
      obtain ⟨w2, hrun, hput, hkp, hsz⟩ := MM.out.put (x := f.nm) (v := (k : Int)) hnm ⟨by omega, by omega⟩ (by omega)
      have M2 : Hid (MapS w2 w.heap.size (if (byN (l.take k) f.nm.data.toList).isSome then cnN l k else cnN l k + 1) (updS (byN (l.take k)) f.nm.data.toList (some (k : Int)))) := hput
      have K2 : Hid (Below w.heap.size w w2) := BB.out.trans (hkp.below BB.out.size (fun b hb => by subst hb; exact Nat.le_refl _))
      clear hput hkp hsz hrow hn1 t1 t2
      go_wp2
      go_roundw
      case rel => exact ⟨k + 1, by omega, by go_num, K2.out, by rw [T1.out, T2.out]; exact M2.out⟩
      case measure => simp [intOf]; omega
    · have hkz : ¬ (k : Int) < l.length := by omega
      obtain rfl : k = l.length := by omega
      have M1 : Hid (MapS wr w.heap.size (cnN l l.length) (byN l)) := (by have := MM.out; rwa [List.take_length] at this : MapS wr w.heap.size (cnN l l.length) (byN l))
      have hlen := fun ty => MM.out.len ty
      have hq : ((cnN l l.length : Int) == l.length) = decide (cnN l l.length = l.length) := by
        by_cases h : cnN l l.length = l.length
        · simp [h]
        · have h2 : ¬ (cnN l l.length : Int) = l.length := by omega
          simp [h, h2]
      have HQ : Hid (((cnN l l.length : Int) == l.length) = decide (cnN l l.length = l.length)) := hq
      clear hq
      go_wp2
      go_ret2
      exact ⟨by rw [← HQ.out]; rfl, BB.out, M1.out⟩

/-- Check: 0, or 10 (ErrForm). -/
def chkE (l : List Lf) : Int := if chk l then 0 else 10

set_option maxHeartbeats 1000000 in
theorem check_c (l : List Lf) (LA : Option Addr) (LC : Nat) (w : World) (hl : LfsIn w l (.slice LA l.length LC)) :
    Calls Tryd.prog 8 #[.slice LA l.length LC] w fun e w' => e = .returned (.int .i64 (chkE l)) ∧ Below w.heap.size w w' := by
  have BN := byNames_c l LA LC w hl
  have HL : Hid (LfsIn w l (.slice LA l.length LC)) := hl
  obtain ⟨hl0, LA', LC', eL, hL⟩ := hl
  cases eL
  have HE : Hid (∀ i (h : i < l.length), ∃ b o cs, LA = some ⟨b, o, none⟩ ∧ RowAt w b (o + i * 7) cs ∧ LfIn w (l[i]'h) cs) := hL
  clear hL
  cases hq : decide (cnN l l.length = l.length) with
  | false =>
    have EE : Hid (chkE l = 10) := (by unfold chkE chk; rw [hq]; rfl : chkE l = 10)
    rw [hq] at BN
    have BN : Hid _ := BN
    clear hq
    go_enter Tryd.func8, Tryd.ntmps8
    go_wp2_with (go_at_call 12; refine Calls.mono (Hid.out BN) ?_; rintro e w1 ⟨rfl, hb1, _⟩)
    go_ret
    exact ⟨by rw [EE.out]; rfl, hb1⟩
  | true =>
    rw [hq] at BN
    have BN : Hid _ := BN
    have EQ : Hid (chk l = (l.all formB && l.all (blocksB l))) := (by unfold chk; rw [hq, Bool.true_and] : chk l = (l.all formB && l.all (blocksB l)))
    have AF : Hid (∀ k (h : k < l.length), (l.take (k + 1)).all formB = ((l.take k).all formB && formB l[k])) := fun k h => all_step _ _ k h
    have AB : Hid (∀ k (h : k < l.length), (l.take (k + 1)).all (blocksB l) = ((l.take k).all (blocksB l) && blocksB l l[k])) := fun k h => all_step _ _ k h
    clear hq
    go_enter Tryd.func8, Tryd.ntmps8
    go_wp2_with (go_at_call 12; refine Calls.mono (Hid.out BN) ?_; rintro e w1 ⟨rfl, hb1, hm1⟩; have B1 : Hid (Below w.heap.size w w1) := hb1; have M1 : Hid (MapS w1 w.heap.size (cnN l l.length) (byN l)) := hm1; clear hb1 hm1)
    go_loopw [16] (fun i wr => ∃ k : Nat, k ≤ l.length ∧ i = .int .i64 (k : Int) ∧ (l.take k).all formB = true ∧ Below w1.heap.size w1 wr) (fun i _ => l.length - (intOf i).toNat)
    case atStart => exact ⟨0, by omega, rfl, rfl, Below.refl _ _⟩
    case round =>
      obtain ⟨k, hk, rfl, hs, hB⟩ := hrel
      have BB : Hid (Below w1.heap.size w1 wr) := hB
      have HS : Hid ((l.take k).all formB = true) := hs
      clear hB hs
      rcases Nat.lt_or_ge k l.length with hk' | hk'
      · have hkz : (k : Int) < l.length := by omega
        obtain ⟨b, o, cs, rfl, hrow, pv, bv, rfl, hnm, hpa, hbs⟩ := HE.out k hk'
        have BW : Hid (Below w.heap.size w wr) := below_next B1.out BB.out
        have AT : Hid ((l.take (k + 1)).all formB = ((l.take k).all formB && formB l[k])) := AF.out k hk'
        have AN : Hid (formB l[k] = false → chkE l = 10) := fun h => by unfold chkE; rw [EQ.out, all_false hk' h, Bool.false_and]; rfl
        generalize l[k] = f at *
        have CC : Hid (Calls Tryd.prog 13 #[.pointer (some ⟨b, o + k * 7, none⟩)] wr fun e w' => e = .returned (.bool (formB f)) ∧ Below wr.heap.size wr w') := hasForm_c b (o + k * 7) f pv bv wr (hrow.below BW.out) (hpa.below BW.out) (hbs.below BW.out)
        clear hrow hpa hbs
        cases hq : formB f with
        | true =>
          rw [hq] at CC
          go_wp2_with (go_at_call 13; refine Calls.mono (Hid.out CC) ?_; rintro e w2 ⟨rfl, hw⟩; have B2 : Hid (Below w1.heap.size w1 w2) := below_next BB.out hw; clear hw)
          go_roundw
          case rel => exact ⟨k + 1, by omega, by go_num, by rw [AT.out, HS.out, hq]; rfl, B2.out⟩
          case measure => simp [intOf]; omega
        | false =>
          rw [hq] at CC
          have EE : Hid (chkE l = 10) := AN.out hq
          go_wp2_with (go_at_call 13; refine Calls.mono (Hid.out CC) ?_; rintro e w2 ⟨rfl, hw⟩; have B2 : Hid (Below w1.heap.size w1 w2) := below_next BB.out hw; clear hw)
          go_ret
          exact ⟨by rw [EE.out]; rfl, below_next B1.out B2.out⟩
      · have hkz : ¬ (k : Int) < l.length := by omega
        obtain rfl : k = l.length := by omega
        have FA : Hid (l.all formB = true) := (by have := HS.out; rwa [List.take_length] at this : l.all formB = true)
        clear HS
        go_wp2
        go_loopw [27] (fun i wi => ∃ k : Nat, k ≤ l.length ∧ i = .int .i64 (k : Int) ∧ (l.take k).all (blocksB l) = true ∧ Below w1.heap.size w1 wi) (fun i _ => l.length - (intOf i).toNat)
        case atStart => exact ⟨0, by omega, rfl, rfl, BB.out⟩
        case round =>
          obtain ⟨k, hk, rfl, hs, hB⟩ := hrel
          rename World => wi
          have BI : Hid (Below w1.heap.size w1 wi) := hB
          have HS : Hid ((l.take k).all (blocksB l) = true) := hs
          clear hB hs
          rcases Nat.lt_or_ge k l.length with hk' | hk'
          · have hkz : (k : Int) < l.length := by omega
            obtain ⟨b, o, cs, rfl, hrow, pv, bv, rfl, hnm, hpa, hbs⟩ := HE.out k hk'
            have BW : Hid (Below w.heap.size w wi) := below_next B1.out BI.out
            have AT : Hid ((l.take (k + 1)).all (blocksB l) = ((l.take k).all (blocksB l) && blocksB l l[k])) := AB.out k hk'
            have AN : Hid (blocksB l l[k] = false → chkE l = 10) := fun h => by unfold chkE; rw [EQ.out, all_false hk' h, Bool.and_false]; rfl
            generalize l[k] = f at *
            have CC : Hid (Calls Tryd.prog 14 #[.agg #[.slice (some ⟨b, o, none⟩) l.length LC, .map (some w.heap.size), .pointer (some ⟨b, o + k * 7, none⟩)]] wi fun e w' => e = .returned (.bool (blocksB l f)) ∧ Below wi.heap.size wi w') :=
              blocks_c l _ LC w.heap.size _ b (o + k * 7) f pv bv wi (HL.out.below BW.out) (M1.out.below BI.out) (hrow.below BW.out) (hpa.below BW.out) (hbs.below BW.out)
            clear hrow hpa hbs
            cases hq : blocksB l f with
            | true =>
              rw [hq] at CC
              go_wp2_with (go_at_call 14; refine Calls.mono (Hid.out CC) ?_; rintro e w2 ⟨rfl, hw⟩; have B2 : Hid (Below w1.heap.size w1 w2) := below_next BI.out hw; clear hw)
              go_roundw
              case rel => exact ⟨k + 1, by omega, by go_num, by rw [AT.out, HS.out, hq]; rfl, B2.out⟩
              case measure => simp [intOf]; omega
            | false =>
              rw [hq] at CC
              have EE : Hid (chkE l = 10) := AN.out hq
              go_wp2_with (go_at_call 14; refine Calls.mono (Hid.out CC) ?_; rintro e w2 ⟨rfl, hw⟩; have B2 : Hid (Below w1.heap.size w1 w2) := below_next BI.out hw; clear hw)
              go_ret
              exact ⟨by rw [EE.out]; rfl, below_next B1.out B2.out⟩
          · have hkz : ¬ (k : Int) < l.length := by omega
            obtain rfl : k = l.length := by omega
            have EE : Hid (chkE l = 0) := (by have := HS.out; unfold chkE; rw [EQ.out, FA.out]; rw [List.take_length] at this; rw [this]; rfl : chkE l = 0)
            go_wp2
            go_ret
            exact ⟨by rw [EE.out]; rfl, below_next B1.out BI.out⟩
end Go.Proofs.YtapgaclonilnbaaDoor
