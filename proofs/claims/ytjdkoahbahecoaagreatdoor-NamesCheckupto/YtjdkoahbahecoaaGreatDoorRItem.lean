/-
  Proved: the document's own item tells the first error of an item.
-/
import Derived.Test.YtjdkoahbahecoaaGreatDoorRVariants
import Derived.Test.YtjdkoahbahecoaaGreatDoorItems
namespace Go.Proofs.YtjdkoahbahecoaaGreatDoor
open Go.RowKit

attribute [local go_sem ↓] fold38 foldS

theorem nz_ne {a e a' e' : Int} (h : nz a e = some (a', e')) : ¬ e' = 0 := by
  unfold nz at h
  split at h
  · cases h
  · cases h; assumption

theorem fo_ne {R : Nat → Option (Int × Int)} (hR : ∀ k a e, R k = some (a, e) → ¬ e = 0) : ∀ {m k : Nat} {a e : Int}, fo R k m = some (a, e) → ¬ e = 0
  | 0, _, _, _, h => by cases h
  | m + 1, k, a, e, h => by
    rw [fo] at h
    cases hk : R k with
    | some x => rw [hk] at h; cases h; exact hR k a e hk
    | none => rw [hk] at h; exact fo_ne hR h

theorem or_ne {x y : Option (Int × Int)} {a e : Int} (hx : x = some (a, e) → ¬ e = 0) (hy : y = some (a, e) → ¬ e = 0) (h : x.or y = some (a, e)) : ¬ e = 0 := by
  cases x with
  | none => exact hy h
  | some z => exact hx h

theorem twice_ne {c : Bool} {b a e : Int} (h : (if c = true then some (b, (40 : Int)) else none) = some (a, e)) : ¬ e = 0 := by
  split at h
  · cases h; decide
  · cases h

theorem pck_ne {is : List It} {rf : Bool} {ps : List Pj} {a e : Int} (h : pck is rf ps = some (a, e)) : ¬ e = 0 :=
  fo_ne (fun k a e hk => by
    unfold prmAt at hk
    split at hk
    · exact or_ne twice_ne nz_ne hk
    · cases hk) h

theorem vck_ne {is : List It} {vs : List Vj} {a e : Int} (h : vck is vs = some (a, e)) : ¬ e = 0 :=
  fo_ne (fun k a e hk => by
    unfold vrtAt at hk
    split at hk
    · exact or_ne twice_ne (fun h2 => fo_ne (fun k a e hk => by
        unfold tskAt at hk
        split at hk
        · exact nz_ne hk
        · cases hk) h2) hk
    · cases hk) h


set_option maxRecDepth 100000 in
set_option maxHeartbeats 800000 in
theorem ritem_other (A : Option Addr) (is : List It) (_hfew : Few is) (C : Nat) (j : Jt) (cs : List Value) (w : World) (_hi : IsIn w is A) (hj : JIn w j cs) (h1 : ¬ j.k = 1) (h2 : ¬ j.k = 2) (h3 : ¬ j.k = 3) (h4 : ¬ j.k = 4) :
    Calls Tryz.prog 15 #[.slice A is.length C, .agg cs.toArray] w fun e w' => e = .returned (chkV (ick is j)) ∧ Below w.heap.size w w' := by
  obtain ⟨P, PC, V, VC, tk, ts, tn, TA, tl, TC, e1, e2, e3, e5, e4⟩ := hj.cel
  have HA : Hid (∀ w', Below (w.alloc (.cells cs.toArray 43)).heap.size (w.alloc (.cells cs.toArray 43)) w' → w'.cell? ⟨w.heap.size, 0, none⟩ = some (.int .i64 j.k) ∧ w'.cell? ⟨w.heap.size, 1, none⟩ = some (.string j.s) ∧ w'.cell? ⟨w.heap.size, 2, none⟩ = some (.int .i64 j.a) ∧ w'.cell? ⟨w.heap.size, 3, none⟩ = some (.slice P j.ps.length PC) ∧ w'.cell? ⟨w.heap.size, 5, none⟩ = some (.int .i64 tk) ∧ w'.cell? ⟨w.heap.size, 6, none⟩ = some (.string ts) ∧ w'.cell? ⟨w.heap.size, 7, none⟩ = some (.int .i64 tn) ∧ w'.cell? ⟨w.heap.size, 8, none⟩ = some (.slice TA tl TC) ∧ w'.cell? ⟨w.heap.size, 9, none⟩ = some (.int .i64 j.n) ∧ w.heap.size < w'.heap.size) := fun w' hw => by
    have a := (At.new w cs.toArray 43).below hw (At.new w cs.toArray 43).lt
    have c := e4 w' w.heap.size a
    exact ⟨c.c0, c.c1, c.c2, c.c3, c.c5, c.c6, c.c7, c.c8, c.c9, a.lt⟩
  have LD : Hid (∀ w', Below (w.alloc (.cells cs.toArray 43)).heap.size (w.alloc (.cells cs.toArray 43)) w' → (ldI (.pointer (some ⟨w.heap.size, 0, none⟩))).run Tryz.prog w' = .ok (.agg cs.toArray) w') := fun w' hw => loadBox hj.twenty ((At.new w cs.toArray 43).below hw (At.new w cs.toArray 43).lt)
  have HB0 : Hid (∀ w', Below (w.alloc (.cells cs.toArray 43)).heap.size (w.alloc (.cells cs.toArray 43)) w' → Below w.heap.size w w') := fun w' hw => below_next (below_alloc _ _) hw
  have HX : Hid (ick is j = some (j.a, 10)) := (show ick is j = some (j.a, 10) by unfold ick; rw [if_neg h1, if_neg h2, if_neg h3, if_neg h4])
  generalize ick is j = X at HX
  generalize j.a = ja at HA HX
  generalize j.s = jn at HA
  generalize j.ps.length = jl at HA
  generalize j.n = jm at HA
  generalize j.k = jk at HA h1 h2 h3 h4
  generalize cs.toArray = ca at HA LD HB0 
  have g1 : (jk == 1) = false := by simpa using h1
  have g2 : (jk == 2) = false := by simpa using h2
  have g3 : (jk == 3) = false := by simpa using h3
  have g4 : (jk == 4) = false := by simpa using h4
  obtain ⟨c0, c1, c2, c3, c5, c6, c7, c8, c9, cz⟩ := HA.out _ (Below.refl _ _); have cl := LD.out _ (Below.refl _ _)
  clear hj e1 e2 e3 e4 e5
  go_enter Tryz.func15, Tryz.ntmps15
  go_wp2
  exact bodyPost_ret (v := .tuple #[.int .i64 ja, .int .i64 10]) (by simp [results, Tryz.results15, go_sem]) rfl ⟨by rw [HX.out]; rfl, HB0.out _ (Below.refl _ _)⟩

set_option maxRecDepth 100000 in
set_option maxHeartbeats 800000 in
theorem ritem_struct (A : Option Addr) (is : List It) (hfew : Few is) (C : Nat) (j : Jt) (cs : List Value) (w : World) (hi : IsIn w is A) (hj : JIn w j cs) (hk : j.k = 2) :
    Calls Tryz.prog 15 #[.slice A is.length C, .agg cs.toArray] w fun e w' => e = .returned (chkV (ick is j)) ∧ Below w.heap.size w w' := by
  obtain ⟨P, PC, V, VC, tk, ts, tn, TA, tl, TC, e1, e2, e3, e5, e4⟩ := hj.cel
  have HA : Hid (∀ w', Below (w.alloc (.cells cs.toArray 43)).heap.size (w.alloc (.cells cs.toArray 43)) w' → w'.cell? ⟨w.heap.size, 0, none⟩ = some (.int .i64 j.k) ∧ w'.cell? ⟨w.heap.size, 1, none⟩ = some (.string j.s) ∧ w'.cell? ⟨w.heap.size, 2, none⟩ = some (.int .i64 j.a) ∧ w'.cell? ⟨w.heap.size, 3, none⟩ = some (.slice P j.ps.length PC) ∧ w'.cell? ⟨w.heap.size, 5, none⟩ = some (.int .i64 tk) ∧ w'.cell? ⟨w.heap.size, 6, none⟩ = some (.string ts) ∧ w'.cell? ⟨w.heap.size, 7, none⟩ = some (.int .i64 tn) ∧ w'.cell? ⟨w.heap.size, 8, none⟩ = some (.slice TA tl TC) ∧ w'.cell? ⟨w.heap.size, 9, none⟩ = some (.int .i64 j.n) ∧ w.heap.size < w'.heap.size) := fun w' hw => by
    have a := (At.new w cs.toArray 43).below hw (At.new w cs.toArray 43).lt
    have c := e4 w' w.heap.size a
    exact ⟨c.c0, c.c1, c.c2, c.c3, c.c5, c.c6, c.c7, c.c8, c.c9, a.lt⟩
  have LD : Hid (∀ w', Below (w.alloc (.cells cs.toArray 43)).heap.size (w.alloc (.cells cs.toArray 43)) w' → (ldI (.pointer (some ⟨w.heap.size, 0, none⟩))).run Tryz.prog w' = .ok (.agg cs.toArray) w') := fun w' hw => loadBox hj.twenty ((At.new w cs.toArray 43).below hw (At.new w cs.toArray 43).lt)
  have HB0 : Hid (∀ w', Below (w.alloc (.cells cs.toArray 43)).heap.size (w.alloc (.cells cs.toArray 43)) w' → Below w.heap.size w w') := fun w' hw => below_next (below_alloc _ _) hw
  have RS : Hid (∀ w', Below (w.alloc (.cells cs.toArray 43)).heap.size (w.alloc (.cells cs.toArray 43)) w' → Calls Tryz.prog 21 #[.slice A is.length C, .agg #[.int .i64 9, .string j.s, .int .i64 0, .slice none 0 0]] w' fun e w'' => e = .returned (wrdV (wrd is (.mk 9 j.s 0 []))) ∧ Below w'.heap.size w' w'') := fun w' hw => by
    have hleaf : TIn w' (.mk 9 j.s 0 []) [.int .i64 9, .string j.s, .int .i64 0, .slice none 0 0] := TIn.of (es := []) ⟨by simp, fun i hi => absurd hi (Nat.not_lt_zero _)⟩
    exact rWords_c is hfew _ _ A C w' (hi.below (HB0.out w' hw)) hleaf
  have RP : Hid (∀ w', Below (w.alloc (.cells cs.toArray 43)).heap.size (w.alloc (.cells cs.toArray 43)) w' → Calls Tryz.prog 35 #[.slice A is.length C, .agg cs.toArray] w' fun e w'' => e = .returned (chkV (pck is false j.ps)) ∧ Below w'.heap.size w' w'') := fun w' hw => rparams_c A is hfew C j cs w' (hi.below (HB0.out w' hw)) (hj.stays (HB0.out w' hw)) false (by rw [hk]; rfl) (fun h => by cases h)
  have HI : Hid (ick is j = (pck is false j.ps).or (slf is j)) := (show _ = _ by unfold ick; rw [hk]; rfl)
  have HS : Hid (slf is j = if (wrd is (.mk 9 j.s 0 [])).isSome = true then none else some (j.a, 43)) := rfl
  generalize ick is j = X at HI
  generalize slf is j = S at HI HS
  have hne : ∀ a e, pck is false j.ps = some (a, e) → ¬ e = 0 := fun a e h => pck_ne h
  generalize pck is false j.ps = Y at RP HI hne
  generalize wrd is (.mk 9 j.s 0 []) = R at RS HS
  generalize j.a = ja at HA HS
  generalize j.s = jn at HA RS
  generalize j.ps.length = jl at HA
  generalize j.n = jm at HA
  rw [hk] at HA
  generalize cs.toArray = ca at HA LD HB0 RP RS
  obtain ⟨c0, c1, c2, c3, c5, c6, c7, c8, c9, cz⟩ := HA.out _ (Below.refl _ _); have cl := LD.out _ (Below.refl _ _)
  clear hi hj e1 e2 e3 e4 e5 hk
  go_enter Tryz.func15, Tryz.ntmps15
  cases Y with
  | some ae =>
    obtain ⟨a, e⟩ := ae
    have he := hne a e rfl
    have he1 : (e == 0) = false := by simpa using he
    have he2 : (e != 0) = true := by simpa using he
    have HX : Hid (X = some (a, e)) := HI.out
    simp only [chkV] at RP
    clear HI HS hne
    go_wp2_with (go_at_call 35; refine (RP.out _ (Below.refl _ _)).mono ?_; rintro e w1 ⟨rfl, hw1⟩; have Bw1 : Hid (Below (w.alloc (.cells ca 43)).heap.size (w.alloc (.cells ca 43)) w1) := hw1; obtain ⟨d0, d1, d2, d3, d5, d6, d7, d8, d9, dz⟩ := HA.out _ Bw1.out; have dl := LD.out _ Bw1.out; clear hw1)
    exact bodyPost_ret (v := .tuple #[.int .i64 a, .int .i64 e]) (by simp [results, Tryz.results15, go_sem]) rfl ⟨by rw [HX.out]; rfl, HB0.out _ Bw1.out⟩
  | none =>
    simp only [chkV] at RP
    clear hne
    cases R with
    | none =>
      have HX : Hid (X = some (ja, 43)) := (show X = _ by rw [HI.out, HS.out]; rfl)
      simp only [wrdV] at RS
      clear HI HS
      go_wp2_with (first
        | (go_at_call 35; refine (RP.out _ (Below.refl _ _)).mono ?_; rintro e w1 ⟨rfl, hw1⟩; have Bw1 : Hid (Below (w.alloc (.cells ca 43)).heap.size (w.alloc (.cells ca 43)) w1) := hw1; obtain ⟨d0, d1, d2, d3, d5, d6, d7, d8, d9, dz⟩ := HA.out _ Bw1.out; have dl := LD.out _ Bw1.out; clear hw1)
        | (go_at_call 21; refine (RS.out _ Bw1.out).mono ?_; rintro e w2 ⟨rfl, hw2⟩; have Bw2 : Hid (Below (w.alloc (.cells ca 43)).heap.size (w.alloc (.cells ca 43)) w2) := below_next Bw1.out hw2; obtain ⟨f0, f1, f2, f3, f5, f6, f7, f8, f9, fz⟩ := HA.out _ Bw2.out; have fl := LD.out _ Bw2.out; clear hw2))
      exact bodyPost_ret (v := .tuple #[.int .i64 ja, .int .i64 43]) (by simp [results, Tryz.results15, go_sem]) rfl ⟨by rw [HX.out]; rfl, HB0.out _ Bw2.out⟩
    | some v =>
      have HX : Hid (X = none) := (show X = _ by rw [HI.out, HS.out]; rfl)
      simp only [wrdV] at RS
      clear HI HS
      go_wp2_with (first
        | (go_at_call 35; refine (RP.out _ (Below.refl _ _)).mono ?_; rintro e w1 ⟨rfl, hw1⟩; have Bw1 : Hid (Below (w.alloc (.cells ca 43)).heap.size (w.alloc (.cells ca 43)) w1) := hw1; obtain ⟨d0, d1, d2, d3, d5, d6, d7, d8, d9, dz⟩ := HA.out _ Bw1.out; have dl := LD.out _ Bw1.out; clear hw1)
        | (go_at_call 21; refine (RS.out _ Bw1.out).mono ?_; rintro e w2 ⟨rfl, hw2⟩; have Bw2 : Hid (Below (w.alloc (.cells ca 43)).heap.size (w.alloc (.cells ca 43)) w2) := below_next Bw1.out hw2; obtain ⟨f0, f1, f2, f3, f5, f6, f7, f8, f9, fz⟩ := HA.out _ Bw2.out; have fl := LD.out _ Bw2.out; clear hw2))
      exact bodyPost_ret (v := .tuple #[.int .i64 0, .int .i64 0]) (by simp [results, Tryz.results15, go_sem]) rfl ⟨by rw [HX.out]; rfl, HB0.out _ Bw2.out⟩

set_option maxRecDepth 100000 in
set_option maxHeartbeats 800000 in
theorem ritem_enum (A : Option Addr) (is : List It) (hfew : Few is) (C : Nat) (j : Jt) (cs : List Value) (w : World) (hi : IsIn w is A) (hj : JIn w j cs) (hk : j.k = 3) :
    Calls Tryz.prog 15 #[.slice A is.length C, .agg cs.toArray] w fun e w' => e = .returned (chkV (ick is j)) ∧ Below w.heap.size w w' := by
  obtain ⟨P, PC, V, VC, tk, ts, tn, TA, tl, TC, e1, e2, e3, e5, e4⟩ := hj.cel
  have HA : Hid (∀ w', Below (w.alloc (.cells cs.toArray 43)).heap.size (w.alloc (.cells cs.toArray 43)) w' → w'.cell? ⟨w.heap.size, 0, none⟩ = some (.int .i64 j.k) ∧ w'.cell? ⟨w.heap.size, 1, none⟩ = some (.string j.s) ∧ w'.cell? ⟨w.heap.size, 2, none⟩ = some (.int .i64 j.a) ∧ w'.cell? ⟨w.heap.size, 3, none⟩ = some (.slice P j.ps.length PC) ∧ w'.cell? ⟨w.heap.size, 5, none⟩ = some (.int .i64 tk) ∧ w'.cell? ⟨w.heap.size, 6, none⟩ = some (.string ts) ∧ w'.cell? ⟨w.heap.size, 7, none⟩ = some (.int .i64 tn) ∧ w'.cell? ⟨w.heap.size, 8, none⟩ = some (.slice TA tl TC) ∧ w'.cell? ⟨w.heap.size, 9, none⟩ = some (.int .i64 j.n) ∧ w.heap.size < w'.heap.size) := fun w' hw => by
    have a := (At.new w cs.toArray 43).below hw (At.new w cs.toArray 43).lt
    have c := e4 w' w.heap.size a
    exact ⟨c.c0, c.c1, c.c2, c.c3, c.c5, c.c6, c.c7, c.c8, c.c9, a.lt⟩
  have LD : Hid (∀ w', Below (w.alloc (.cells cs.toArray 43)).heap.size (w.alloc (.cells cs.toArray 43)) w' → (ldI (.pointer (some ⟨w.heap.size, 0, none⟩))).run Tryz.prog w' = .ok (.agg cs.toArray) w') := fun w' hw => loadBox hj.twenty ((At.new w cs.toArray 43).below hw (At.new w cs.toArray 43).lt)
  have HB0 : Hid (∀ w', Below (w.alloc (.cells cs.toArray 43)).heap.size (w.alloc (.cells cs.toArray 43)) w' → Below w.heap.size w w') := fun w' hw => below_next (below_alloc _ _) hw
  have RS : Hid (∀ w', Below (w.alloc (.cells cs.toArray 43)).heap.size (w.alloc (.cells cs.toArray 43)) w' → Calls Tryz.prog 21 #[.slice A is.length C, .agg #[.int .i64 9, .string j.s, .int .i64 0, .slice none 0 0]] w' fun e w'' => e = .returned (wrdV (wrd is (.mk 9 j.s 0 []))) ∧ Below w'.heap.size w' w'') := fun w' hw => by
    have hleaf : TIn w' (.mk 9 j.s 0 []) [.int .i64 9, .string j.s, .int .i64 0, .slice none 0 0] := TIn.of (es := []) ⟨by simp, fun i hi => absurd hi (Nat.not_lt_zero _)⟩
    exact rWords_c is hfew _ _ A C w' (hi.below (HB0.out w' hw)) hleaf
  have RV : Hid (∀ w', Below (w.alloc (.cells cs.toArray 43)).heap.size (w.alloc (.cells cs.toArray 43)) w' → Calls Tryz.prog 36 #[.slice A is.length C, .agg cs.toArray] w' fun e w'' => e = .returned (chkV (vck is j.vs)) ∧ Below w'.heap.size w' w'') := fun w' hw => rvariants_c A is hfew C j cs w' (hi.below (HB0.out w' hw)) (hj.stays (HB0.out w' hw))
  have HI : Hid (ick is j = (vck is j.vs).or (slf is j)) := (show _ = _ by unfold ick; rw [hk]; rfl)
  have HS : Hid (slf is j = if (wrd is (.mk 9 j.s 0 [])).isSome = true then none else some (j.a, 43)) := rfl
  generalize ick is j = X at HI
  generalize slf is j = S at HI HS
  have hne : ∀ a e, vck is j.vs = some (a, e) → ¬ e = 0 := fun a e h => vck_ne h
  generalize vck is j.vs = Y at RV HI hne
  generalize wrd is (.mk 9 j.s 0 []) = R at RS HS
  generalize j.a = ja at HA HS
  generalize j.s = jn at HA RS
  generalize j.ps.length = jl at HA
  generalize j.n = jm at HA
  rw [hk] at HA
  generalize cs.toArray = ca at HA LD HB0 RV RS
  obtain ⟨c0, c1, c2, c3, c5, c6, c7, c8, c9, cz⟩ := HA.out _ (Below.refl _ _); have cl := LD.out _ (Below.refl _ _)
  clear hi hj e1 e2 e3 e4 e5 hk
  go_enter Tryz.func15, Tryz.ntmps15
  cases Y with
  | some ae =>
    obtain ⟨a, e⟩ := ae
    have he := hne a e rfl
    have he1 : (e == 0) = false := by simpa using he
    have he2 : (e != 0) = true := by simpa using he
    have HX : Hid (X = some (a, e)) := HI.out
    simp only [chkV] at RV
    clear HI HS hne
    go_wp2_with (go_at_call 36; refine (RV.out _ (Below.refl _ _)).mono ?_; rintro e w1 ⟨rfl, hw1⟩; have Bw1 : Hid (Below (w.alloc (.cells ca 43)).heap.size (w.alloc (.cells ca 43)) w1) := hw1; obtain ⟨d0, d1, d2, d3, d5, d6, d7, d8, d9, dz⟩ := HA.out _ Bw1.out; have dl := LD.out _ Bw1.out; clear hw1)
    exact bodyPost_ret (v := .tuple #[.int .i64 a, .int .i64 e]) (by simp [results, Tryz.results15, go_sem]) rfl ⟨by rw [HX.out]; rfl, HB0.out _ Bw1.out⟩
  | none =>
    simp only [chkV] at RV
    clear hne
    cases R with
    | none =>
      have HX : Hid (X = some (ja, 43)) := (show X = _ by rw [HI.out, HS.out]; rfl)
      simp only [wrdV] at RS
      clear HI HS
      go_wp2_with (first
        | (go_at_call 36; refine (RV.out _ (Below.refl _ _)).mono ?_; rintro e w1 ⟨rfl, hw1⟩; have Bw1 : Hid (Below (w.alloc (.cells ca 43)).heap.size (w.alloc (.cells ca 43)) w1) := hw1; obtain ⟨d0, d1, d2, d3, d5, d6, d7, d8, d9, dz⟩ := HA.out _ Bw1.out; have dl := LD.out _ Bw1.out; clear hw1)
        | (go_at_call 21; refine (RS.out _ Bw1.out).mono ?_; rintro e w2 ⟨rfl, hw2⟩; have Bw2 : Hid (Below (w.alloc (.cells ca 43)).heap.size (w.alloc (.cells ca 43)) w2) := below_next Bw1.out hw2; obtain ⟨f0, f1, f2, f3, f5, f6, f7, f8, f9, fz⟩ := HA.out _ Bw2.out; have fl := LD.out _ Bw2.out; clear hw2))
      exact bodyPost_ret (v := .tuple #[.int .i64 ja, .int .i64 43]) (by simp [results, Tryz.results15, go_sem]) rfl ⟨by rw [HX.out]; rfl, HB0.out _ Bw2.out⟩
    | some v =>
      have HX : Hid (X = none) := (show X = _ by rw [HI.out, HS.out]; rfl)
      simp only [wrdV] at RS
      clear HI HS
      go_wp2_with (first
        | (go_at_call 36; refine (RV.out _ (Below.refl _ _)).mono ?_; rintro e w1 ⟨rfl, hw1⟩; have Bw1 : Hid (Below (w.alloc (.cells ca 43)).heap.size (w.alloc (.cells ca 43)) w1) := hw1; obtain ⟨d0, d1, d2, d3, d5, d6, d7, d8, d9, dz⟩ := HA.out _ Bw1.out; have dl := LD.out _ Bw1.out; clear hw1)
        | (go_at_call 21; refine (RS.out _ Bw1.out).mono ?_; rintro e w2 ⟨rfl, hw2⟩; have Bw2 : Hid (Below (w.alloc (.cells ca 43)).heap.size (w.alloc (.cells ca 43)) w2) := below_next Bw1.out hw2; obtain ⟨f0, f1, f2, f3, f5, f6, f7, f8, f9, fz⟩ := HA.out _ Bw2.out; have fl := LD.out _ Bw2.out; clear hw2))
      exact bodyPost_ret (v := .tuple #[.int .i64 0, .int .i64 0]) (by simp [results, Tryz.results15, go_sem]) rfl ⟨by rw [HX.out]; rfl, HB0.out _ Bw2.out⟩

set_option maxRecDepth 100000 in
set_option maxHeartbeats 800000 in
theorem ritem_const (A : Option Addr) (is : List It) (hfew : Few is) (C : Nat) (j : Jt) (cs : List Value) (w : World) (hi : IsIn w is A) (hj : JIn w j cs) (hk : j.k = 4) :
    Calls Tryz.prog 15 #[.slice A is.length C, .agg cs.toArray] w fun e w' => e = .returned (chkV (ick is j)) ∧ Below w.heap.size w w' := by
  obtain ⟨P, PC, V, VC, tk, ts, tn, TA, tl, TC, e1, e2, e3, e5, e4⟩ := hj.cel
  have HA : Hid (∀ w', Below (w.alloc (.cells cs.toArray 43)).heap.size (w.alloc (.cells cs.toArray 43)) w' → w'.cell? ⟨w.heap.size, 0, none⟩ = some (.int .i64 j.k) ∧ w'.cell? ⟨w.heap.size, 1, none⟩ = some (.string j.s) ∧ w'.cell? ⟨w.heap.size, 2, none⟩ = some (.int .i64 j.a) ∧ w'.cell? ⟨w.heap.size, 3, none⟩ = some (.slice P j.ps.length PC) ∧ w'.cell? ⟨w.heap.size, 5, none⟩ = some (.int .i64 tk) ∧ w'.cell? ⟨w.heap.size, 6, none⟩ = some (.string ts) ∧ w'.cell? ⟨w.heap.size, 7, none⟩ = some (.int .i64 tn) ∧ w'.cell? ⟨w.heap.size, 8, none⟩ = some (.slice TA tl TC) ∧ w'.cell? ⟨w.heap.size, 9, none⟩ = some (.int .i64 j.n) ∧ w.heap.size < w'.heap.size) := fun w' hw => by
    have a := (At.new w cs.toArray 43).below hw (At.new w cs.toArray 43).lt
    have c := e4 w' w.heap.size a
    exact ⟨c.c0, c.c1, c.c2, c.c3, c.c5, c.c6, c.c7, c.c8, c.c9, a.lt⟩
  have LD : Hid (∀ w', Below (w.alloc (.cells cs.toArray 43)).heap.size (w.alloc (.cells cs.toArray 43)) w' → (ldI (.pointer (some ⟨w.heap.size, 0, none⟩))).run Tryz.prog w' = .ok (.agg cs.toArray) w') := fun w' hw => loadBox hj.twenty ((At.new w cs.toArray 43).below hw (At.new w cs.toArray 43).lt)
  have HB0 : Hid (∀ w', Below (w.alloc (.cells cs.toArray 43)).heap.size (w.alloc (.cells cs.toArray 43)) w' → Below w.heap.size w w') := fun w' hw => below_next (below_alloc _ _) hw
  have RT : Hid (∀ w', Below (w.alloc (.cells cs.toArray 43)).heap.size (w.alloc (.cells cs.toArray 43)) w' → Calls Tryz.prog 8 #[.slice A is.length C, .agg #[.int .i64 tk, .string ts, .int .i64 tn, .slice TA tl TC], .bool false] w' fun e w'' => e = .returned (.int .i64 (tyE is j.t false)) ∧ Below w'.heap.size w' w'') := fun w' hw => by
    have hb := HB0.out w' hw
    have := rType_c is hfew j.t _ false A C w' (hi.below hb) (e1.stays hb)
    rw [rT_eq is j.t false (fun h => by cases h)] at this
    exact this
  have HI : Hid (ick is j = nz j.a (if tyE is j.t false ≠ 0 then tyE is j.t false else if ¬ (3 ≤ tk ∧ tk ≤ 8) then 50 else if j.n < (rng tk).1 ∨ (rng tk).2 < j.n then 56 else 0)) := (show _ = _ by unfold ick cst cstE; rw [hk, e5]; rfl)
  generalize ick is j = X at HI
  generalize tyE is j.t false = E at RT HI
  generalize j.a = ja at HA HI
  generalize j.s = jn at HA
  generalize j.ps.length = jl at HA
  generalize j.n = jm at HA HI
  rw [hk] at HA
  generalize cs.toArray = ca at HA LD HB0 RT
  have NT : Hid (∀ w', Calls Tryz.prog 37 #[.int .i64 tk] w' fun e w'' => e = .returned (.bool (decide (3 ≤ tk ∧ tk ≤ 8))) ∧ w'' = w') := rInt_c tk
  obtain ⟨c0, c1, c2, c3, c5, c6, c7, c8, c9, cz⟩ := HA.out _ (Below.refl _ _); have cl := LD.out _ (Below.refl _ _)
  clear hi hj e1 e2 e3 e4 e5 hk
  go_enter Tryz.func15, Tryz.ntmps15
  by_cases hE : E = 0
  · subst hE
    by_cases hT : 3 ≤ tk ∧ tk ≤ 8
    · have RG : Hid (∀ w', Calls Tryz.prog 38 #[.int .i64 tk] w' fun e w'' => e = .returned (.tuple #[.int .i64 (rng tk).1, .int .i64 (rng tk).2]) ∧ w'' = w') := fun w' => rRange_c tk w' (by omega)
      rw [decide_eq_true hT] at NT
      have HI2 : Hid (X = nz ja (if jm < (rng tk).1 ∨ (rng tk).2 < jm then 56 else 0)) := (show X = _ by rw [HI.out, if_neg (by simp), if_neg (fun h => h hT)])
      generalize (rng tk).1 = lo at RG HI2
      generalize (rng tk).2 = hi' at RG HI2
      clear HI hT
      by_cases hl : jm < lo
      · have HX : Hid (X = some (ja, 56)) := (show X = _ by rw [HI2.out, if_pos (.inl hl)]; rfl)
        clear HI2
        go_wp2_with (first
          | (go_at_call 8; refine (RT.out _ (Below.refl _ _)).mono ?_; rintro e w1 ⟨rfl, hw1⟩; have Bw1 : Hid (Below (w.alloc (.cells ca 43)).heap.size (w.alloc (.cells ca 43)) w1) := hw1; obtain ⟨d0, d1, d2, d3, d5, d6, d7, d8, d9, dz⟩ := HA.out _ Bw1.out; have dl := LD.out _ Bw1.out; clear hw1)
          | (go_at_call 37; refine (NT.out _).mono ?_; rintro e w2 ⟨rfl, rfl⟩)
          | (go_at_call 38; refine (RG.out _).mono ?_; rintro e w3 ⟨rfl, rfl⟩))
        try go_quiet (fail)
        try go_wp2
        exact bodyPost_ret (v := .tuple #[.int .i64 ja, .int .i64 56]) (by simp [results, Tryz.results15, go_sem]) rfl ⟨by rw [HX.out]; rfl, HB0.out _ Bw1.out⟩
      · by_cases hm : hi' < jm
        · have HX : Hid (X = some (ja, 56)) := (show X = _ by rw [HI2.out, if_pos (.inr hm)]; rfl)
          clear HI2
          go_wp2_with (first
            | (go_at_call 8; refine (RT.out _ (Below.refl _ _)).mono ?_; rintro e w1 ⟨rfl, hw1⟩; have Bw1 : Hid (Below (w.alloc (.cells ca 43)).heap.size (w.alloc (.cells ca 43)) w1) := hw1; obtain ⟨d0, d1, d2, d3, d5, d6, d7, d8, d9, dz⟩ := HA.out _ Bw1.out; have dl := LD.out _ Bw1.out; clear hw1)
            | (go_at_call 37; refine (NT.out _).mono ?_; rintro e w2 ⟨rfl, rfl⟩)
            | (go_at_call 38; refine (RG.out _).mono ?_; rintro e w3 ⟨rfl, rfl⟩))
          try go_quiet (fail)
          try go_wp2
          exact bodyPost_ret (v := .tuple #[.int .i64 ja, .int .i64 56]) (by simp [results, Tryz.results15, go_sem]) rfl ⟨by rw [HX.out]; rfl, HB0.out _ Bw1.out⟩
        · have HX : Hid (X = none) := (show X = _ by rw [HI2.out, if_neg (fun h => h.elim hl hm)]; rfl)
          clear HI2
          go_wp2_with (first
            | (go_at_call 8; refine (RT.out _ (Below.refl _ _)).mono ?_; rintro e w1 ⟨rfl, hw1⟩; have Bw1 : Hid (Below (w.alloc (.cells ca 43)).heap.size (w.alloc (.cells ca 43)) w1) := hw1; obtain ⟨d0, d1, d2, d3, d5, d6, d7, d8, d9, dz⟩ := HA.out _ Bw1.out; have dl := LD.out _ Bw1.out; clear hw1)
            | (go_at_call 37; refine (NT.out _).mono ?_; rintro e w2 ⟨rfl, rfl⟩)
            | (go_at_call 38; refine (RG.out _).mono ?_; rintro e w3 ⟨rfl, rfl⟩))
          try go_quiet (fail)
          try go_wp2
          exact bodyPost_ret (v := .tuple #[.int .i64 0, .int .i64 0]) (by simp [results, Tryz.results15, go_sem]) rfl ⟨by rw [HX.out]; rfl, HB0.out _ Bw1.out⟩
    · rw [decide_eq_false hT] at NT
      have HX : Hid (X = some (ja, 50)) := (show X = _ by rw [HI.out, if_neg (by simp), if_pos hT]; rfl)
      clear HI hT
      go_wp2_with (first
        | (go_at_call 8; refine (RT.out _ (Below.refl _ _)).mono ?_; rintro e w1 ⟨rfl, hw1⟩; have Bw1 : Hid (Below (w.alloc (.cells ca 43)).heap.size (w.alloc (.cells ca 43)) w1) := hw1; obtain ⟨d0, d1, d2, d3, d5, d6, d7, d8, d9, dz⟩ := HA.out _ Bw1.out; have dl := LD.out _ Bw1.out; clear hw1)
        | (go_at_call 37; refine (NT.out _).mono ?_; rintro e w2 ⟨rfl, rfl⟩))
      exact bodyPost_ret (v := .tuple #[.int .i64 ja, .int .i64 50]) (by simp [results, Tryz.results15, go_sem]) rfl ⟨by rw [HX.out]; rfl, HB0.out _ Bw1.out⟩
  · have he1 : (E == 0) = false := by simpa using hE
    have he2 : (E != 0) = true := by simpa using hE
    have HX : Hid (X = some (ja, E)) := (show X = _ by rw [HI.out, if_pos hE, nz, if_neg hE])
    clear HI
    go_wp2_with (go_at_call 8; refine (RT.out _ (Below.refl _ _)).mono ?_; rintro e w1 ⟨rfl, hw1⟩; have Bw1 : Hid (Below (w.alloc (.cells ca 43)).heap.size (w.alloc (.cells ca 43)) w1) := hw1; obtain ⟨d0, d1, d2, d3, d5, d6, d7, d8, d9, dz⟩ := HA.out _ Bw1.out; have dl := LD.out _ Bw1.out; clear hw1)
    exact bodyPost_ret (v := .tuple #[.int .i64 ja, .int .i64 E]) (by simp [results, Tryz.results15, go_sem]) rfl ⟨by rw [HX.out]; rfl, HB0.out _ Bw1.out⟩

set_option maxRecDepth 100000 in
set_option maxHeartbeats 800000 in
theorem ritem_fn (A : Option Addr) (is : List It) (hfew : Few is) (C : Nat) (j : Jt) (cs : List Value) (w : World) (hi : IsIn w is A) (hj : JIn w j cs) (hk : j.k = 1) (h300 : j.ps.length ≤ 300) (hd : true = true → ∀ p ∈ j.ps, dep p.t ≤ 9223372036854775807) :
    Calls Tryz.prog 15 #[.slice A is.length C, .agg cs.toArray] w fun e w' => e = .returned (chkV (ick is j)) ∧ Below w.heap.size w w' := by
  obtain ⟨P, PC, V, VC, tk, ts, tn, TA, tl, TC, e1, e2, e3, e5, e4⟩ := hj.cel
  have HA : Hid (∀ w', Below (w.alloc (.cells cs.toArray 43)).heap.size (w.alloc (.cells cs.toArray 43)) w' → w'.cell? ⟨w.heap.size, 0, none⟩ = some (.int .i64 j.k) ∧ w'.cell? ⟨w.heap.size, 1, none⟩ = some (.string j.s) ∧ w'.cell? ⟨w.heap.size, 2, none⟩ = some (.int .i64 j.a) ∧ w'.cell? ⟨w.heap.size, 3, none⟩ = some (.slice P j.ps.length PC) ∧ w'.cell? ⟨w.heap.size, 5, none⟩ = some (.int .i64 tk) ∧ w'.cell? ⟨w.heap.size, 6, none⟩ = some (.string ts) ∧ w'.cell? ⟨w.heap.size, 7, none⟩ = some (.int .i64 tn) ∧ w'.cell? ⟨w.heap.size, 8, none⟩ = some (.slice TA tl TC) ∧ w'.cell? ⟨w.heap.size, 9, none⟩ = some (.int .i64 j.n) ∧ w.heap.size < w'.heap.size) := fun w' hw => by
    have a := (At.new w cs.toArray 43).below hw (At.new w cs.toArray 43).lt
    have c := e4 w' w.heap.size a
    exact ⟨c.c0, c.c1, c.c2, c.c3, c.c5, c.c6, c.c7, c.c8, c.c9, a.lt⟩
  have LD : Hid (∀ w', Below (w.alloc (.cells cs.toArray 43)).heap.size (w.alloc (.cells cs.toArray 43)) w' → (ldI (.pointer (some ⟨w.heap.size, 0, none⟩))).run Tryz.prog w' = .ok (.agg cs.toArray) w') := fun w' hw => loadBox hj.twenty ((At.new w cs.toArray 43).below hw (At.new w cs.toArray 43).lt)
  have HB0 : Hid (∀ w', Below (w.alloc (.cells cs.toArray 43)).heap.size (w.alloc (.cells cs.toArray 43)) w' → Below w.heap.size w w') := fun w' hw => below_next (below_alloc _ _) hw
  have RT : Hid (∀ w', Below (w.alloc (.cells cs.toArray 43)).heap.size (w.alloc (.cells cs.toArray 43)) w' → Calls Tryz.prog 8 #[.slice A is.length C, .agg #[.int .i64 tk, .string ts, .int .i64 tn, .slice TA tl TC], .bool false] w' fun e w'' => e = .returned (.int .i64 (tyE is j.t false)) ∧ Below w'.heap.size w' w'') := fun w' hw => by
    have hb := HB0.out w' hw
    have := rType_c is hfew j.t _ false A C w' (hi.below hb) (e1.stays hb)
    rw [rT_eq is j.t false (fun h => by cases h)] at this
    exact this
  have RW : Hid (∀ w', Below (w.alloc (.cells cs.toArray 43)).heap.size (w.alloc (.cells cs.toArray 43)) w' → Calls Tryz.prog 21 #[.slice A is.length C, .agg #[.int .i64 tk, .string ts, .int .i64 tn, .slice TA tl TC]] w' fun e w'' => e = .returned (wrdV (wrd is j.t)) ∧ Below w'.heap.size w' w'') := fun w' hw => rWords_c is hfew j.t _ A C w' (hi.below (HB0.out w' hw)) (e1.stays (HB0.out w' hw))
  have WP : Hid (∀ q (hq : q < j.ps.length), ∃ pb po mu pk pn pm PA pl PC', P = some ⟨pb, po, none⟩ ∧ ∀ w', Below (w.alloc (.cells cs.toArray 43)).heap.size (w.alloc (.cells cs.toArray 43)) w' → RowAt w' pb (po + q * 7) [.string (j.ps[q]'hq).s, .bool mu, .int .i64 pk, .string pn, .int .i64 pm, .slice PA pl PC', .int .i64 (j.ps[q]'hq).a] ∧ Calls Tryz.prog 21 #[.slice A is.length C, .agg #[.int .i64 pk, .string pn, .int .i64 pm, .slice PA pl PC']] w' fun e w'' => e = .returned (wrdV (wrd is (j.ps[q]'hq).t)) ∧ Below w'.heap.size w' w'') := fun q hq => by
    obtain ⟨pb, po, pcs, p1, p2, mu, ct, p3, p4⟩ := e2.2 q hq
    have key : ∀ w', Below (w.alloc (.cells cs.toArray 43)).heap.size (w.alloc (.cells cs.toArray 43)) w' → Calls Tryz.prog 21 #[.slice A is.length C, .agg ct.toArray] w' fun e w'' => e = .returned (wrdV (wrd is (j.ps[q]'hq).t)) ∧ Below w'.heap.size w' w'' := fun w' hw => rWords_c is hfew _ ct A C w' (hi.below (HB0.out w' hw)) (p4.stays (HB0.out w' hw))
    generalize (j.ps[q]'hq) = p at p3 p4 key ⊢
    obtain ⟨s, t, a⟩ := p
    obtain ⟨pk, pn, pm, pes⟩ := t
    obtain ⟨PA, PC', rfl, _⟩ := p4.inv
    subst p3
    exact ⟨pb, po, mu, pk, pn, pm, PA, pes.length, PC', p1, fun w' hw => ⟨p2.below (HB0.out w' hw), key w' hw⟩⟩
  have hpl := e2.1
  have RP : Hid (∀ w', Below (w.alloc (.cells cs.toArray 43)).heap.size (w.alloc (.cells cs.toArray 43)) w' → Calls Tryz.prog 35 #[.slice A is.length C, .agg cs.toArray] w' fun e w'' => e = .returned (chkV (pck is true j.ps)) ∧ Below w'.heap.size w' w'') := fun w' hw => rparams_c A is hfew C j cs w' (hi.below (HB0.out w' hw)) (hj.stays (HB0.out w' hw)) true (by rw [hk]; rfl) hd
  have HI : Hid (ick is j = ((pck is true j.ps).or (nz j.a (tyE is j.t false))).or (if 8 < sumW is j.ps ∨ 8 < (wrd is j.t).getD 0 then some (j.a, 73) else none)) := (show _ = _ by unfold ick; rw [hk]; rfl)
  have SL : Hid (∀ q, q ≤ j.ps.length → sumW is (j.ps.take q) ≤ 40000) := fun q hq => by
    have h1 := sumW_le is (j.ps.take q)
    rw [List.length_take] at h1
    omega
  have SN : Hid (∀ q (hq : q < j.ps.length), sumW is (j.ps.take (q + 1)) = sumW is (j.ps.take q) + (wrd is (j.ps[q]'hq).t).getD 0) := fun q hq => sumW_snoc is j.ps q hq
  generalize ick is j = X at HI
  have hne : ∀ a e, pck is true j.ps = some (a, e) → ¬ e = 0 := fun a e h => pck_ne h
  generalize pck is true j.ps = Y at RP HI hne
  generalize tyE is j.t false = E at RT HI
  have hR : ∀ v, wrd is j.t = some v → v ≤ 128 := fun v h => by have := wds_le is j.t; rw [wds, h] at this; exact this
  generalize wrd is j.t = R at RW HI hR
  generalize j.a = ja at HA HI
  generalize j.s = jn at HA
  generalize j.n = jm at HA
  rw [hk] at HA
  generalize j.ps = ps at HA HI SL SN WP hpl h300
  generalize cs.toArray = ca at HA LD HB0 RT RP RW WP
  obtain ⟨c0, c1, c2, c3, c5, c6, c7, c8, c9, cz⟩ := HA.out _ (Below.refl _ _); have cl := LD.out _ (Below.refl _ _)
  clear hi hj e1 e2 e3 e4 e5 hk hd
  go_enter Tryz.func15, Tryz.ntmps15
  cases Y with
  | some ae =>
    obtain ⟨a, e⟩ := ae
    have he := hne a e rfl
    have he1 : (e == 0) = false := by simpa using he
    have he2 : (e != 0) = true := by simpa using he
    have HX : Hid (X = some (a, e)) := HI.out
    simp only [chkV] at RP
    clear HI hne
    go_wp2_with (go_at_call 35; refine (RP.out _ (Below.refl _ _)).mono ?_; rintro e w1 ⟨rfl, hw1⟩; have Bw1 : Hid (Below (w.alloc (.cells ca 43)).heap.size (w.alloc (.cells ca 43)) w1) := hw1; obtain ⟨d0, d1, d2, d3, d5, d6, d7, d8, d9, dz⟩ := HA.out _ Bw1.out; have dl := LD.out _ Bw1.out; clear hw1)
    exact bodyPost_ret (v := .tuple #[.int .i64 a, .int .i64 e]) (by simp [results, Tryz.results15, go_sem]) rfl ⟨by rw [HX.out]; rfl, HB0.out _ Bw1.out⟩
  | none =>
    simp only [chkV] at RP
    clear hne
    by_cases hE : E = 0
    · subst hE
      have HI2 : Hid (X = if 8 < sumW is ps ∨ 8 < R.getD 0 then some (ja, 73) else none) := HI.out
      clear HI
      go_wp2_with (first
        | (go_at_call 35; refine (RP.out _ (Below.refl _ _)).mono ?_; rintro e w1 ⟨rfl, hw1⟩; have Bw1 : Hid (Below (w.alloc (.cells ca 43)).heap.size (w.alloc (.cells ca 43)) w1) := hw1; obtain ⟨d0, d1, d2, d3, d5, d6, d7, d8, d9, dz⟩ := HA.out _ Bw1.out; have dl := LD.out _ Bw1.out; clear hw1)
        | (go_at_call 8; refine (RT.out _ Bw1.out).mono ?_; rintro e w2 ⟨rfl, hw2⟩; have Bw2 : Hid (Below (w.alloc (.cells ca 43)).heap.size (w.alloc (.cells ca 43)) w2) := below_next Bw1.out hw2; obtain ⟨f0, f1, f2, f3, f5, f6, f7, f8, f9, fz⟩ := HA.out _ Bw2.out; have fl := LD.out _ Bw2.out; clear hw2))
      go_loopw [9, 10] (fun sv qv wz => ∃ q : Nat, q ≤ ps.length ∧ qv = .int .i64 (q : Int) ∧ sv = .int .i64 (sumW is (ps.take q) : Int) ∧ Hid (Below (w.alloc (.cells ca 43)).heap.size (w.alloc (.cells ca 43)) wz)) (fun _ qv _ => ps.length - (intOf qv).toNat)
      case atStart => exact ⟨0, Nat.zero_le _, rfl, rfl, Bw2.out⟩
      case round =>
        obtain ⟨q, hql, rfl, rfl, HZ⟩ := hrel
        have sl := SL.out q hql
        obtain ⟨g0, g1, g2, g3, g5, g6, g7, g8, g9, gz⟩ := HA.out _ HZ.out; have gl := LD.out _ HZ.out
        by_cases hq : q < ps.length
        · have hq' : (q : Int) < (ps.length : Int) := by omega
          obtain ⟨pb, po, mu, pk, pn, pm, PA, pl, PC', hP, hrw⟩ := WP.out q hq
          subst hP
          have hr := (hrw wr HZ.out).1
          have d2' := hr.2 2 _ rfl
          have d3' := hr.2 3 _ rfl
          have d4' := hr.2 4 _ rfl
          have d5' := hr.2 5 _ rfl
          have dz' := hr.1
          have PW : Hid (Calls Tryz.prog 21 #[.slice A is.length C, .agg #[.int .i64 pk, .string pn, .int .i64 pm, .slice PA pl PC']] wr fun e w'' => e = .returned (wrdV (wrd is (ps[q]'hq).t)) ∧ Below wr.heap.size wr w'') := (hrw wr HZ.out).2
          have sl2 := SL.out (q + 1) (by omega)
          have hsn := SN.out q hq
          rw [hsn] at sl2
          have HN : Hid (sumW is (ps.take (q + 1)) = sumW is (ps.take q) + (wrd is (ps[q]'hq).t).getD 0) := hsn
          generalize wrd is (ps[q]'hq).t = Q at PW HN sl2
          generalize sumW is (ps.take q) = S at sl sl2 HN ⊢
          clear hrw hsn hr
          cases Q with
          | none =>
            simp only [wrdV] at PW
            go_wp2_with (go_at_call 21; refine PW.out.mono ?_; rintro e w4 ⟨rfl, hb4⟩; have H4 : Hid (Below (w.alloc (.cells ca 43)).heap.size (w.alloc (.cells ca 43)) w4) := below_next HZ.out hb4; clear hb4)
            go_roundw
            case rel => exact ⟨q + 1, by omega, by go_num, by rw [HN.out]; simp [go_sem], H4.out⟩
            case measure => simp [intOf]; omega
          | some v =>
            simp only [wrdV] at PW
            simp only [Option.getD_some] at sl2 HN
            go_wp2_with (go_at_call 21; refine PW.out.mono ?_; rintro e w4 ⟨rfl, hb4⟩; have H4 : Hid (Below (w.alloc (.cells ca 43)).heap.size (w.alloc (.cells ca 43)) w4) := below_next HZ.out hb4; clear hb4)
            go_roundw
            case rel => exact ⟨q + 1, by omega, by go_num, by rw [HN.out]; go_num, H4.out⟩
            case measure => simp [intOf]; omega
        · obtain rfl : q = ps.length := by omega
          rw [List.take_length] at sl ⊢
          have RW2 := RW.out wr HZ.out
          have RWW : Hid (Calls Tryz.prog 21 #[.slice A is.length C, .agg #[.int .i64 tk, .string ts, .int .i64 tn, .slice TA tl TC]] wr fun e w'' => e = .returned (wrdV R) ∧ Below wr.heap.size wr w'') := RW2
          obtain ⟨rv, rb, hRV, hrv⟩ : ∃ (rv : Nat) (rb : Bool), wrdV R = .tuple #[.int .i64 (rv : Int), .bool rb] ∧ R.getD 0 = rv := by cases R with
            | none => exact ⟨0, false, rfl, rfl⟩
            | some v => exact ⟨v, true, rfl, rfl⟩
          rw [hRV] at RWW
          have HI3 : Hid (X = if 8 < sumW is ps ∨ 8 < rv then some (ja, 73) else none) := (show X = _ by rw [← hrv]; exact HI2.out)
          generalize sumW is ps = S at sl HI3 ⊢
          clear RW2 hRV hrv HI2 SL SN WP
          have aW : True := trivial
          by_cases hS : 8 < S
          · have hS' : (8 : Int) < (S : Int) := by omega
            have HX : Hid (X = some (ja, 73)) := (show X = _ by rw [HI3.out, if_pos (.inl hS)])
            go_wp2_with (go_at_call 21; refine (RWW.out).mono ?_; rintro e w5 ⟨rfl, hw5⟩; have Bw5 : Hid (Below (w.alloc (.cells ca 43)).heap.size (w.alloc (.cells ca 43)) w5) := below_next HZ.out hw5; obtain ⟨m0, m1, m2, m3, m5, m6, m7, m8, m9, mz⟩ := HA.out _ Bw5.out; have ml := LD.out _ Bw5.out; clear hw5)
            exact bodyPost_ret (v := .tuple #[.int .i64 ja, .int .i64 73]) (by simp [results, Tryz.results15, go_sem]) rfl ⟨by rw [HX.out]; rfl, HB0.out _ Bw5.out⟩
          · have hS' : ¬ (8 : Int) < (S : Int) := by omega
            by_cases hv : 8 < rv
            · have hv' : (8 : Int) < (rv : Int) := by omega
              have HX : Hid (X = some (ja, 73)) := (show X = _ by rw [HI3.out, if_pos (.inr hv)])
              go_wp2_with (go_at_call 21; refine (RWW.out).mono ?_; rintro e w5 ⟨rfl, hw5⟩; have Bw5 : Hid (Below (w.alloc (.cells ca 43)).heap.size (w.alloc (.cells ca 43)) w5) := below_next HZ.out hw5; obtain ⟨m0, m1, m2, m3, m5, m6, m7, m8, m9, mz⟩ := HA.out _ Bw5.out; have ml := LD.out _ Bw5.out; clear hw5)
              exact bodyPost_ret (v := .tuple #[.int .i64 ja, .int .i64 73]) (by simp [results, Tryz.results15, go_sem]) rfl ⟨by rw [HX.out]; rfl, HB0.out _ Bw5.out⟩
            · have hv' : ¬ (8 : Int) < (rv : Int) := by omega
              have HX : Hid (X = none) := (show X = _ by rw [HI3.out, if_neg (fun h => h.elim hS hv)])
              go_wp2_with (go_at_call 21; refine (RWW.out).mono ?_; rintro e w5 ⟨rfl, hw5⟩; have Bw5 : Hid (Below (w.alloc (.cells ca 43)).heap.size (w.alloc (.cells ca 43)) w5) := below_next HZ.out hw5; obtain ⟨m0, m1, m2, m3, m5, m6, m7, m8, m9, mz⟩ := HA.out _ Bw5.out; have ml := LD.out _ Bw5.out; clear hw5)
              exact bodyPost_ret (v := .tuple #[.int .i64 0, .int .i64 0]) (by simp [results, Tryz.results15, go_sem]) rfl ⟨by rw [HX.out]; rfl, HB0.out _ Bw5.out⟩
    · have he1 : (E == 0) = false := by simpa using hE
      have he2 : (E != 0) = true := by simpa using hE
      have HX : Hid (X = some (ja, E)) := (show X = _ by rw [HI.out, nz, if_neg hE]; rfl)
      clear HI
      go_wp2_with (first
        | (go_at_call 35; refine (RP.out _ (Below.refl _ _)).mono ?_; rintro e w1 ⟨rfl, hw1⟩; have Bw1 : Hid (Below (w.alloc (.cells ca 43)).heap.size (w.alloc (.cells ca 43)) w1) := hw1; obtain ⟨d0, d1, d2, d3, d5, d6, d7, d8, d9, dz⟩ := HA.out _ Bw1.out; have dl := LD.out _ Bw1.out; clear hw1)
        | (go_at_call 8; refine (RT.out _ Bw1.out).mono ?_; rintro e w2 ⟨rfl, hw2⟩; have Bw2 : Hid (Below (w.alloc (.cells ca 43)).heap.size (w.alloc (.cells ca 43)) w2) := below_next Bw1.out hw2; obtain ⟨f0, f1, f2, f3, f5, f6, f7, f8, f9, fz⟩ := HA.out _ Bw2.out; have fl := LD.out _ Bw2.out; clear hw2))
      exact bodyPost_ret (v := .tuple #[.int .i64 ja, .int .i64 E]) (by simp [results, Tryz.results15, go_sem]) rfl ⟨by rw [HX.out]; rfl, HB0.out _ Bw2.out⟩

theorem ritem_all (A : Option Addr) (is : List It) (hfew : Few is) (C : Nat) (j : Jt) (cs : List Value) (w : World) (hi : IsIn w is A) (hj : JIn w j cs) (h300 : j.ps.length ≤ 300) (hd : ∀ p ∈ j.ps, dep p.t ≤ 9223372036854775807) :
    Calls Tryz.prog 15 #[.slice A is.length C, .agg cs.toArray] w fun e w' => e = .returned (chkV (ick is j)) ∧ Below w.heap.size w w' := by
  by_cases h1 : j.k = 1
  · exact ritem_fn A is hfew C j cs w hi hj h1 h300 (fun _ => hd)
  by_cases h2 : j.k = 2
  · exact ritem_struct A is hfew C j cs w hi hj h2
  by_cases h3 : j.k = 3
  · exact ritem_enum A is hfew C j cs w hi hj h3
  by_cases h4 : j.k = 4
  · exact ritem_const A is hfew C j cs w hi hj h4
  exact ritem_other A is hfew C j cs w hi hj h1 h2 h3 h4

end Go.Proofs.YtjdkoahbahecoaaGreatDoor
