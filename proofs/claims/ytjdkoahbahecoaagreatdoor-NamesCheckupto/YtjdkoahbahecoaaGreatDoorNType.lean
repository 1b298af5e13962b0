/-
  Proved: what names.Type answers of any type, given any items.
-/
import Derived.Test.YtjdkoahbahecoaaGreatDoorInw
namespace Go.Proofs.YtjdkoahbahecoaaGreatDoor
open Go.RowKit Go.Shelf

attribute [local go_sem] Oper.semAt_some

/-- The first thing that is wrong with types by themselves. -/
def bad1 (is : List It) (refs : Bool) : List (Int × T) → Int
  | [] => 0
  | (d, t) :: r => if frm is t (refs && decide (d = 0)) = 0 then bad1 is refs r else frm is t (refs && decide (d = 0))

/-- Has each one words? -/
def bad2 (is : List It) : List (Int × T) → Bool
  | [] => true
  | (_, t) :: r => (wrd is t).isSome && bad2 is r

/-- What Type answers. -/
def tyE (is : List It) (t : T) (refs : Bool) : Int :=
  if bad1 is refs (ins t 0) = 0 then (if bad2 is (ins t 0) then 0 else 43) else bad1 is refs (ins t 0)

theorem bad1_app (is : List It) (refs : Bool) : ∀ (l r : List (Int × T)), bad1 is refs l = 0 → bad1 is refs (l ++ r) = bad1 is refs r
  | [], _, _ => rfl
  | (d, t) :: l, r, h => by
    rw [bad1] at h
    rw [List.cons_append, bad1]
    split at h
    · rename_i h0
      rw [if_pos h0]
      exact bad1_app is refs l r h
    · rename_i h0
      exact absurd h h0

theorem bad1_one (is : List It) (refs : Bool) (d : Int) (t : T) (r : List (Int × T)) (h : ¬ frm is t (refs && decide (d = 0)) = 0) : bad1 is refs ((d, t) :: r) = frm is t (refs && decide (d = 0)) := by
  rw [bad1, if_neg h]

theorem bad2_app (is : List It) : ∀ (l r : List (Int × T)), bad2 is (l ++ r) = (bad2 is l && bad2 is r)
  | [], _ => by simp [bad2]
  | (d, t) :: l, r => by rw [List.cons_append, bad2, bad2, bad2_app is l r, Bool.and_assoc]

theorem keepB_t {w : World} {Bt : Nat} {A B C : World} (h : KeepB w Bt A B) (k : KeepB w Bt B C) : KeepB w Bt A C := ⟨h.1.trans k.1, fun cs hc => k.2 cs (h.2 cs hc)⟩

theorem keepB_b {w w2 : World} {Bt : Nat} (hn : w.heap.size ≤ w2.heap.size) (W : World) (l : Nat) (o o' : Obj) (hl : w2.heap.size ≤ l) (h : W.heap[l]? = some o) (h1 : o.isCells = false) (h2 : o.isWalk = false) : KeepB w Bt W (W.putObj l o') :=
  ⟨belowK_b hn W l o o' hl h h1 h2, fun _ hc => hc.grown (grownBy_putObj' W l o') (fun r e => by cases e; exact ⟨o, h, h1⟩)⟩

theorem keepB_below {w : World} {Bt : Nat} {W W' : World} (hw : w.heap.size ≤ W.heap.size) (h : Below W.heap.size W W') : KeepB w Bt W W' := ⟨h.mono hw, fun _ hc => hc.below h hc.lt⟩

theorem bad1_pre {is : List It} {refs : Bool} {pre l : List (Int × T)} (h : pre <+: l) (hb : ¬ bad1 is refs pre = 0) : bad1 is refs l = bad1 is refs pre := by
  obtain ⟨r, rfl⟩ := h
  induction pre with
  | nil => exact absurd rfl hb
  | cons x pre ih =>
    obtain ⟨d, t⟩ := x
    rw [bad1] at hb
    rw [List.cons_append, bad1, bad1]
    by_cases h0 : frm is t (refs && decide (d = 0)) = 0
    · rw [if_pos h0] at hb
      rw [if_pos h0, if_pos h0]
      exact ih hb
    · rw [if_neg h0, if_neg h0]

theorem bad2_pre {is : List It} {pre l : List (Int × T)} (h : pre <+: l) (hb : bad2 is pre = false) : bad2 is l = false := by
  obtain ⟨r, rfl⟩ := h
  rw [bad2_app, hb, Bool.false_and]

theorem free_and {α : Type} {b : Nat} {I J : List α → World → Prop} (h : Free b I) (k : Free b J) : Free b (fun s W => I s W ∧ J s W) := fun s W j v hs => ⟨h s W j v hs.1, k s W j v hs.2⟩

set_option maxRecDepth 100000 in
set_option maxHeartbeats 8000000 in
theorem type_in (F : Fence) (n : Nat) (up : ∀ m f args w R, Calls Tryz.prog f args w R → CallsIn F m Tryz.prog f args w R) (hro : F.round = none) (hn : 6 ≤ n) (h9 : F.fn 7) (h14 : F.fn 16) (h15 : F.fn 17) (h16 : F.fn 18) (h30 : F.fn 39) (h31 : F.fn 40)
    (is : List It) (t : T) (cs : List Value) (refs : Bool) (A : Option Addr) (C : Nat) (w : World) (ht : Tab w) (hi : IsIn w is A) (hx : TIn w t cs) :
    CallsIn F n Tryz.prog 7 #[.slice A is.length C, .agg cs.toArray, .bool refs] w fun e w' => e = .returned (.int .i64 (tyE is t refs)) ∧ Below w.heap.size w w' := by
  have h1 : 1 ≤ n := by omega
  have h2 : 1 ≤ n - 1 := by omega
  have HT : Hid (Tab w) := ht
  have HI : Hid (IsIn w is A) := hi
  have HX : Hid (TIn w t cs) := hx
  obtain ⟨k, s, m, es⟩ := t
  obtain ⟨EA, EC, rfl, _⟩ := hx.inv
  have IW : Hid (∀ w', Calls Tryz.prog 16 #[.agg #[.int .i64 k, .string s, .int .i64 m, .slice EA es.length EC]] w' fun e w'' => e = .returned (.func (.func 39) #[] #[.pointer (some ⟨w'.heap.size, 0, none⟩)]) ∧ w'' = w'.alloc (.cells #[.int .i64 k, .string s, .int .i64 m, .slice EA es.length EC] 25)) := inwards_c k s m EA es.length EC
  clear ht hi hx
  refine callsIn_of_wp_marks Tryz.func7 rfl h9 ?_ hro
  simp only [Tryz.ntmps7, List.size_toArray, List.length_cons, List.length_nil, Nat.reduceAdd, Nat.reduceSub, Array.replicate_succ, Array.replicate_zero, List.push_toArray, List.append_toArray, List.nil_append, List.cons_append]
  gi_wp2_with (gi_at_call 16; go_loud (refine (up _ _ _ _ _ (IW.out _)).mono ?_); rintro e' w1 ⟨rfl, rfl⟩)
  obtain ⟨W0, hW0⟩ : ∃ W0, ((((w.alloc (.cells #[.int .i64 k, .string s, .int .i64 m, .slice EA es.length EC] 25)).alloc (.cells #[.bool refs] 4)).alloc (.cells #[.int .i64 0] 27)).alloc (.cells #[.slice A is.length C] 51)).alloc (.cells #[.int .i64 k, .string s, .int .i64 m, .slice EA es.length EC] 25) = W0 := ⟨_, rfl⟩
  rw [hW0]
  have sz : W0.heap.size = w.heap.size + 5 := by subst hW0; simp
  have B0 : Below w.heap.size w W0 := by subst hW0; exact below_next (below_next (three_alloc _ _ _ _) (below_alloc _ _)) (below_alloc _ _)
  have A0 : At W0 w.heap.size #[.int .i64 k, .string s, .int .i64 m, .slice EA es.length EC] 25 := by subst hW0; exact ((((At.new _ _ _).alloc _).alloc _).alloc _).alloc _
  have A1 : At W0 (w.heap.size + 1) #[.bool refs] 4 := by
    subst hW0
    have := (((At.new (w.alloc (.cells #[.int .i64 k, .string s, .int .i64 m, .slice EA es.length EC] 25)) #[.bool refs] 4).alloc (.cells #[.int .i64 0] 27)).alloc (.cells #[.slice A is.length C] 51)).alloc (.cells #[.int .i64 k, .string s, .int .i64 m, .slice EA es.length EC] 25)
    simpa using this
  have A2 : At W0 (w.heap.size + 2) #[.int .i64 0] 27 := by
    subst hW0
    have := ((At.new ((w.alloc (.cells #[.int .i64 k, .string s, .int .i64 m, .slice EA es.length EC] 25)).alloc (.cells #[.bool refs] 4)) #[.int .i64 0] 27).alloc (.cells #[.slice A is.length C] 51)).alloc (.cells #[.int .i64 k, .string s, .int .i64 m, .slice EA es.length EC] 25)
    simpa using this
  have A3 : At W0 (w.heap.size + 3) #[.slice A is.length C] 51 := by
    subst hW0
    have := (At.new (((w.alloc (.cells #[.int .i64 k, .string s, .int .i64 m, .slice EA es.length EC] 25)).alloc (.cells #[.bool refs] 4)).alloc (.cells #[.int .i64 0] 27)) #[.slice A is.length C] 51).alloc (.cells #[.int .i64 k, .string s, .int .i64 m, .slice EA es.length EC] 25)
    simpa using this
  have A4 : At W0 (w.heap.size + 4) #[.int .i64 k, .string s, .int .i64 m, .slice EA es.length EC] 25 := by
    subst hW0
    have := At.new ((((w.alloc (.cells #[.int .i64 k, .string s, .int .i64 m, .slice EA es.length EC] 25)).alloc (.cells #[.bool refs] 4)).alloc (.cells #[.int .i64 0] 27)).alloc (.cells #[.slice A is.length C] 51)) #[.int .i64 k, .string s, .int .i64 m, .slice EA es.length EC] 25
    simpa using this
  clear hW0
  refine range_sets (b := w.heap.size + 4) (by omega) hro h1 (gf := 39) (lb := #[.pointer (some ⟨w.heap.size + 4, 0, none⟩)]) rfl h30 (enters_of Tryz.func39 (by kernel_rfl) rfl)
    (inw_seq F (n - 1) up h30 h31 hro (by omega) (w.heap.size + 4) w W0 (by omega) (.mk k s m es) _ HX.out B0 A4) keepB_t (keepB_b (by omega)) (Below.refl _ _) (fun _ => rfl)
    (fun pre W => (bad1 is refs (prs pre) = 0 ∧ At W w.heap.size #[.int .i64 k, .string s, .int .i64 m, .slice EA es.length EC] 25 ∧ At W (w.heap.size + 1) #[.bool refs] 4 ∧ At W (w.heap.size + 2) #[.int .i64 0] 27 ∧ At W (w.heap.size + 3) #[.slice A is.length C] 51) ∧ Below w.heap.size w W)
    (fun c pre W => ((c = .ret ∧ ¬ bad1 is refs (prs pre) = 0) ∧ At W (w.heap.size + 2) #[.int .i64 (bad1 is refs (prs pre))] 27) ∧ Below w.heap.size w W)
    (OwnFrom.and (fun s X Y row hs hg hr => ⟨hs.1, hs.2.1.grown hg (fun r e => (hr r e).2), hs.2.2.1.grown hg (fun r e => (hr r e).2), hs.2.2.2.1.grown hg (fun r e => (hr r e).2), hs.2.2.2.2.grown hg (fun r e => (hr r e).2)⟩) (ownFrom_below (Nat.le_refl _) (by omega)))
    (free_and (fun s W j v hs => ⟨hs.1, hs.2.1.far (by omega) v, hs.2.2.1.far (by omega) v, hs.2.2.2.1.far (by omega) v, hs.2.2.2.2.far (by omega) v⟩) (fun s W j v hs => hs.setCell (p := ⟨_, j, none⟩) (by simp only; omega) v))
    (fun c => OwnFrom.and (fun s X Y row hs hg hr => ⟨hs.1, hs.2.grown hg (fun r e => (hr r e).2)⟩) (ownFrom_below (Nat.le_refl _) (by omega)))
    ⟨⟨rfl, A0, A1, A2, A3⟩, B0⟩
    (fun x a' W => ∃ Bx, w.heap.size + 3 < Bx ∧ At W Bx x.1.2.2.toArray 25 ∧ a' = { tmps := #[.slice A is.length C, .agg #[.int .i64 k, .string s, .int .i64 m, .slice EA es.length EC], .bool refs, undef, .pointer (some ⟨w.heap.size, 0, none⟩), .pointer (some ⟨w.heap.size + 1, 0, none⟩), .pointer (some ⟨w.heap.size + 2, 0, none⟩), .pointer (some ⟨w.heap.size + 3, 0, none⟩), .int .i64 x.1.1, .pointer (some ⟨Bx, 0, none⟩), undef, undef, undef, .slice A is.length C, .agg #[.int .i64 k, .string s, .int .i64 m, .slice EA es.length EC], .func (.func 39) #[] #[.pointer (some ⟨w.heap.size + 4, 0, none⟩)], .int .i64 x.1.1, .agg x.1.2.2.toArray, undef, undef, undef, undef, undef, undef, undef, undef, undef, undef, undef, undef, undef, undef, undef, undef, undef, undef, undef], defers := [] })
    (fun x a' s X Y row hs hg hr => by obtain ⟨Bx, h1, h2, h3⟩ := hs; exact ⟨Bx, h1, h2.grown hg (fun r e => (hr r e).2), h3⟩)
    ?assign ?body ?done ?stop
  case assign =>
    rintro l pre ⟨⟨d, t, cs⟩, hx⟩ W K ⟨⟨hz, b0, b1, b2, b3⟩, hB⟩ hK
    obtain ⟨tk, tn, tm, tes⟩ := t
    obtain ⟨A', C', e1, _⟩ := hx.inv
    simp only at e1
    subst e1
    have hs := hB.size
    have hlt := b3.lt
    gi_wp2
    refine hK _ _ ((KeepsOthers.alloc _ _).from _) (keepB_below hs (below_alloc _ _)) ⟨⟨hz, b0.alloc _, b1.alloc _, b2.alloc _, b3.alloc _⟩, hB.alloc (by omega) _⟩ ⟨W.heap.size, hlt, At.new _ _ _, ?_⟩
    simp
  case body =>
    rintro l pre ⟨⟨d, t, cs⟩, hx⟩ a' W ⟨⟨hz, b0, b1, b2, b3⟩, hB⟩ ⟨Bx, hBx, bX, rfl⟩
    have hsn := prs_snoc pre ⟨(d, t, cs), hx⟩
    have HTX : Hid (TIn w t cs) := hx
    obtain ⟨may, hmay⟩ : ∃ may, (refs && decide (d = 0)) = may := ⟨_, rfl⟩
    generalize hE : frm is t may = E
    have HE0 : Hid (E = 0 → bad1 is refs (prs (pre ++ [⟨(d, t, cs), hx⟩])) = 0) := fun h => by
      rw [hsn, bad1_app is refs _ _ hz, bad1]
      simp only
      rw [hmay, hE, if_pos h, bad1]
    have HE2 : Hid (¬ E = 0 → bad1 is refs (prs (pre ++ [⟨(d, t, cs), hx⟩])) = E) := fun h => by
      rw [hsn, bad1_app is refs _ _ hz, bad1_one _ _ _ _ _ (by simp only; rw [hmay, hE]; exact h)]
      simp only
      rw [hmay, hE]
    have HE1 : Hid (¬ E = 0 → ¬ bad1 is refs (prs (pre ++ [⟨(d, t, cs), hx⟩])) = 0) := fun h => by rw [HE2.out h]; exact h
    generalize hq : pre ++ [(⟨(d, t, cs), hx⟩ : El w)] = zs at HE0 HE1 HE2 ⊢
    clear hsn hz hq
    obtain ⟨tk, tn, tm, tes⟩ := t
    obtain ⟨A', C', e1, _⟩ := hx.inv
    simp only at e1
    subst e1
    simp only at bX
    have HB : Hid (Below w.heap.size w W) := hB
    have H0 : Hid (At W w.heap.size #[.int .i64 k, .string s, .int .i64 m, .slice EA es.length EC] 25) := b0
    have H1 : Hid (At W (w.heap.size + 1) #[.bool refs] 4) := b1
    have H2 : Hid (At W (w.heap.size + 2) #[.int .i64 0] 27) := b2
    have H3 : Hid (At W (w.heap.size + 3) #[.slice A is.length C] 51) := b3
    have d1 : W.cell? ⟨w.heap.size + 1, 0, none⟩ = some (.bool refs) := (b1.cell 0).trans rfl
    have d3 : W.cell? ⟨w.heap.size + 3, 0, none⟩ = some (.slice A is.length C) := (b3.cell 0).trans rfl
    obtain ⟨x0, x1, x2, x3, xz⟩ := cells4 (show At W Bx #[.int .i64 tk, .string tn, .int .i64 tm, .slice A' tes.length C'] 25 from bX)
    have hd2 : 1 ≤ n - 1 - 1 := by omega
    dsimp only
    clear hB b0 b1 b2 b3 bX hx
    have hc : (refs = false ∧ may = false) ∨ (refs = true ∧ d = 0 ∧ may = true) ∨ (refs = true ∧ ¬ d = 0 ∧ may = false) := by
      subst hmay
      cases refs with
      | false => exact .inl ⟨rfl, rfl⟩
      | true =>
        by_cases hd : d = 0
        · exact .inr (.inl ⟨rfl, hd, by simp [hd]⟩)
        · exact .inr (.inr ⟨rfl, hd, by simp [hd]⟩)
    clear hmay
    rcases hc with ⟨rfl, rfl⟩ | ⟨rfl, rfl, rfl⟩ | ⟨rfl, hd, rfl⟩
    · have KEY : Hid (∀ w', Below w.heap.size w w' → Calls Tryz.prog 17 #[.slice A is.length C, .agg #[.int .i64 tk, .string tn, .int .i64 tm, .slice A' tes.length C'], .bool false] w' fun e w'' => e = .returned (.int .i64 E) ∧ Below w'.heap.size w' w'') := fun w' hw => by
        rw [← hE]
        exact form_c is (.mk tk tn tm tes) _ false A C w' (HI.out.below hw) (HTX.out.stays hw)
      clear hE
      by_cases hz0 : E = 0
      · subst hz0
        gi_wp2_with (gi_at_call 17; go_loud (refine (CallsIn.inRound l (up _ _ _ _ _ (KEY.out _ HB.out))).mono ?_); rintro e w1 ⟨rfl, hb1⟩; have MB : Hid (Below W.heap.size W w1) := hb1; clear hb1)
        refine ⟨(others_below MB.out).from _, keepB_below HB.out.size MB.out, ⟨HE0.out (by trivial), H0.out.below MB.out H0.out.lt, H1.out.below MB.out H1.out.lt, H2.out.below MB.out H2.out.lt, H3.out.below MB.out H3.out.lt⟩, HB.out.trans (MB.out.mono HB.out.size)⟩
      · have hz1 : (E == 0) = false := by simpa using hz0
        gi_wp2_with (gi_at_call 17; go_loud (refine (CallsIn.inRound l (up _ _ _ _ _ (KEY.out _ HB.out))).mono ?_); rintro e w1 ⟨rfl, hb1⟩; have MB : Hid (Below W.heap.size W w1) := hb1; have G2 : Hid (At w1 (w.heap.size + 2) #[.int .i64 0] 27) := H2.out.below hb1 H2.out.lt; have g0 : w1.cell? ⟨w.heap.size + 2, 0, none⟩ = some (.int .i64 0) := (G2.out.cell 0).trans rfl; have g1 : w1.frozen? ⟨w.heap.size + 2, 0, none⟩ = false := G2.out.frozen 0; have gz := G2.out.lt; clear hb1)
        exact ⟨((others_below MB.out).trans (KeepsOthers.setCell _ _ _)).from _, ⟨⟨rfl, HE1.out hz0⟩, by rw [HE2.out hz0]; exact G2.out.set (j := 0) _⟩, (HB.out.trans (MB.out.mono HB.out.size)).setCell (p := ⟨_, 0, none⟩) (by simp only; omega) _⟩
    · have KEY : Hid (∀ w', Below w.heap.size w w' → Calls Tryz.prog 17 #[.slice A is.length C, .agg #[.int .i64 tk, .string tn, .int .i64 tm, .slice A' tes.length C'], .bool true] w' fun e w'' => e = .returned (.int .i64 E) ∧ Below w'.heap.size w' w'') := fun w' hw => by
        rw [← hE]
        exact form_c is (.mk tk tn tm tes) _ true A C w' (HI.out.below hw) (HTX.out.stays hw)
      clear hE
      by_cases hz0 : E = 0
      · subst hz0
        gi_wp2_with (gi_at_call 17; go_loud (refine (CallsIn.inRound l (up _ _ _ _ _ (KEY.out _ HB.out))).mono ?_); rintro e w1 ⟨rfl, hb1⟩; have MB : Hid (Below W.heap.size W w1) := hb1; clear hb1)
        refine ⟨(others_below MB.out).from _, keepB_below HB.out.size MB.out, ⟨HE0.out (by trivial), H0.out.below MB.out H0.out.lt, H1.out.below MB.out H1.out.lt, H2.out.below MB.out H2.out.lt, H3.out.below MB.out H3.out.lt⟩, HB.out.trans (MB.out.mono HB.out.size)⟩
      · have hz1 : (E == 0) = false := by simpa using hz0
        gi_wp2_with (gi_at_call 17; go_loud (refine (CallsIn.inRound l (up _ _ _ _ _ (KEY.out _ HB.out))).mono ?_); rintro e w1 ⟨rfl, hb1⟩; have MB : Hid (Below W.heap.size W w1) := hb1; have G2 : Hid (At w1 (w.heap.size + 2) #[.int .i64 0] 27) := H2.out.below hb1 H2.out.lt; have g0 : w1.cell? ⟨w.heap.size + 2, 0, none⟩ = some (.int .i64 0) := (G2.out.cell 0).trans rfl; have g1 : w1.frozen? ⟨w.heap.size + 2, 0, none⟩ = false := G2.out.frozen 0; have gz := G2.out.lt; clear hb1)
        exact ⟨((others_below MB.out).trans (KeepsOthers.setCell _ _ _)).from _, ⟨⟨rfl, HE1.out hz0⟩, by rw [HE2.out hz0]; exact G2.out.set (j := 0) _⟩, (HB.out.trans (MB.out.mono HB.out.size)).setCell (p := ⟨_, 0, none⟩) (by simp only; omega) _⟩
    · have hd' : (d == 0) = false := by simpa using hd
      have KEY : Hid (∀ w', Below w.heap.size w w' → Calls Tryz.prog 17 #[.slice A is.length C, .agg #[.int .i64 tk, .string tn, .int .i64 tm, .slice A' tes.length C'], .bool false] w' fun e w'' => e = .returned (.int .i64 E) ∧ Below w'.heap.size w' w'') := fun w' hw => by
        rw [← hE]
        exact form_c is (.mk tk tn tm tes) _ false A C w' (HI.out.below hw) (HTX.out.stays hw)
      clear hE
      by_cases hz0 : E = 0
      · subst hz0
        gi_wp2_with (gi_at_call 17; go_loud (refine (CallsIn.inRound l (up _ _ _ _ _ (KEY.out _ HB.out))).mono ?_); rintro e w1 ⟨rfl, hb1⟩; have MB : Hid (Below W.heap.size W w1) := hb1; clear hb1)
        refine ⟨(others_below MB.out).from _, keepB_below HB.out.size MB.out, ⟨HE0.out (by trivial), H0.out.below MB.out H0.out.lt, H1.out.below MB.out H1.out.lt, H2.out.below MB.out H2.out.lt, H3.out.below MB.out H3.out.lt⟩, HB.out.trans (MB.out.mono HB.out.size)⟩
      · have hz1 : (E == 0) = false := by simpa using hz0
        gi_wp2_with (gi_at_call 17; go_loud (refine (CallsIn.inRound l (up _ _ _ _ _ (KEY.out _ HB.out))).mono ?_); rintro e w1 ⟨rfl, hb1⟩; have MB : Hid (Below W.heap.size W w1) := hb1; have G2 : Hid (At w1 (w.heap.size + 2) #[.int .i64 0] 27) := H2.out.below hb1 H2.out.lt; have g0 : w1.cell? ⟨w.heap.size + 2, 0, none⟩ = some (.int .i64 0) := (G2.out.cell 0).trans rfl; have g1 : w1.frozen? ⟨w.heap.size + 2, 0, none⟩ = false := G2.out.frozen 0; have gz := G2.out.lt; clear hb1)
        exact ⟨((others_below MB.out).trans (KeepsOthers.setCell _ _ _)).from _, ⟨⟨rfl, HE1.out hz0⟩, by rw [HE2.out hz0]; exact G2.out.set (j := 0) _⟩, (HB.out.trans (MB.out.mono HB.out.size)).setCell (p := ⟨_, 0, none⟩) (by simp only; omega) _⟩
  case done =>
    rintro D xs W hD hxs ⟨⟨hz, b0, b1, b2, b3⟩, hB⟩ hK
    rw [hxs] at hz
    have HZ : Hid (bad1 is refs (ins (.mk k s m es) 0) = 0) := hz
    have H0 : Hid (At W w.heap.size #[.int .i64 k, .string s, .int .i64 m, .slice EA es.length EC] 25) := b0
    have H2 : Hid (At W (w.heap.size + 2) #[.int .i64 0] 27) := b2
    have H3 : Hid (At W (w.heap.size + 3) #[.slice A is.length C] 51) := b3
    have HB : Hid (Below w.heap.size w W) := hB
    have HK : Hid (W.heap[D]? = some (.deferred (some []))) := hK
    have HD : Hid (W0.heap.size ≤ D) := hD
    have hDl : D < W.heap.size := (Array.getElem?_eq_some_iff.1 hK).1
    obtain ⟨x0, x1, x2, x3, xz⟩ := cells4 (show At W w.heap.size #[.int .i64 k, .string s, .int .i64 m, .slice EA es.length EC] 25 from b0)
    clear hz b0 b1 b2 b3 hB hK hD hxs A0 A1 A2 A3 A4 B0
    gi_wp2_with (gi_at_call 16; go_loud (refine (up _ _ _ _ _ (IW.out _)).mono ?_); rintro e' w1 ⟨rfl, rfl⟩)
    obtain ⟨V, hV⟩ : ∃ V, W.alloc (.cells #[.int .i64 k, .string s, .int .i64 m, .slice EA es.length EC] 25) = V := ⟨_, rfl⟩
    rw [hV]
    have vz : V.heap.size = W.heap.size + 1 := by subst hV; simp
    have VB : Below w.heap.size w V := by subst hV; exact HB.out.alloc HB.out.size _
    have V2 : At V (w.heap.size + 2) #[.int .i64 0] 27 := by subst hV; exact H2.out.alloc _
    have V3 : At V (w.heap.size + 3) #[.slice A is.length C] 51 := by subst hV; exact H3.out.alloc _
    have VT : At V W.heap.size #[.int .i64 k, .string s, .int .i64 m, .slice EA es.length EC] 25 := by subst hV; exact At.new _ _ _
    have VK : V.heap[D]? = some (.deferred (some [])) := by subst hV; exact (Below.heap_alloc _ _ _ hDl).trans HK.out
    have hsw : w.heap.size + 3 < W.heap.size := H3.out.lt
    clear hV
    refine range_sets (b := W.heap.size) (by omega) hro h1 (gf := 39) (lb := #[.pointer (some ⟨W.heap.size, 0, none⟩)]) rfl h30 (enters_of Tryz.func39 (by kernel_rfl) rfl)
      (inw_seq F (n - 1) up h30 h31 hro (by omega) W.heap.size w V (by omega) (.mk k s m es) _ HX.out VB VT) keepB_t (keepB_b (by omega)) (Below.refl _ _) (fun _ => rfl)
      (fun pre U => (bad2 is (prs pre) = true ∧ At U (w.heap.size + 2) #[.int .i64 0] 27 ∧ At U (w.heap.size + 3) #[.slice A is.length C] 51 ∧ U.heap[D]? = some (.deferred (some []))) ∧ Below w.heap.size w U)
      (fun c pre U => ((c = .ret ∧ bad2 is (prs pre) = false) ∧ At U (w.heap.size + 2) #[.int .i64 43] 27 ∧ U.heap[D]? = some (.deferred (some []))) ∧ Below w.heap.size w U)
      (OwnFrom.and (fun s X Y row hs hg hr => ⟨hs.1, hs.2.1.grown hg (fun r e => (hr r e).2), hs.2.2.1.grown hg (fun r e => (hr r e).2), (hg.block D (Array.getElem?_eq_some_iff.1 hs.2.2.2).1 (fun e => by have := (hr D e.symm).1; omega)).trans hs.2.2.2⟩) (ownFrom_below (Nat.le_refl _) (by omega)))
      (free_and (fun s W j v hs => ⟨hs.1, hs.2.1.far (by omega) v, hs.2.2.1.far (by omega) v, (heap_far _ _ _ _ _ (by omega)).trans hs.2.2.2⟩) (fun s W j v hs => hs.setCell (p := ⟨_, j, none⟩) (by simp only; omega) v))
      (fun c => OwnFrom.and (fun s X Y row hs hg hr => ⟨hs.1, hs.2.1.grown hg (fun r e => (hr r e).2), (hg.block D (Array.getElem?_eq_some_iff.1 hs.2.2).1 (fun e => by have := (hr D e.symm).1; omega)).trans hs.2.2⟩) (ownFrom_below (Nat.le_refl _) (by omega)))
      ⟨⟨rfl, V2, V3, VK⟩, VB⟩
      (fun x a' U => ∃ Bx, w.heap.size + 3 < Bx ∧ At U Bx x.1.2.2.toArray 25 ∧ a' = { tmps := #[.slice A is.length C, .agg #[.int .i64 k, .string s, .int .i64 m, .slice EA es.length EC], .bool refs, undef, .pointer (some ⟨w.heap.size, 0, none⟩), .pointer (some ⟨w.heap.size + 1, 0, none⟩), .pointer (some ⟨w.heap.size + 2, 0, none⟩), .pointer (some ⟨w.heap.size + 3, 0, none⟩), undef, undef, undef, undef, .pointer (some ⟨Bx, 0, none⟩), .slice A is.length C, .agg #[.int .i64 k, .string s, .int .i64 m, .slice EA es.length EC], .func (.func 39) #[] #[.pointer (some ⟨w.heap.size + 4, 0, none⟩)], undef, undef, undef, undef, undef, undef, undef, undef, undef, undef, undef, undef, undef, .agg #[.int .i64 k, .string s, .int .i64 m, .slice EA es.length EC], .func (.func 39) #[] #[.pointer (some ⟨W.heap.size, 0, none⟩)], .int .i64 x.1.1, .agg x.1.2.2.toArray, undef, undef, undef, undef], defers := [] })
      (fun x a' s X Y row hs hg hr => by obtain ⟨Bx, h1, h2, h3⟩ := hs; exact ⟨Bx, h1, h2.grown hg (fun r e => (hr r e).2), h3⟩)
      ?assign2 ?body2 ?done2 ?stop2
    case assign2 =>
      rintro l pre ⟨⟨d, t, cs⟩, hx⟩ U K ⟨⟨hz, b2, b3, bD⟩, hB⟩ hK
      obtain ⟨tk, tn, tm, tes⟩ := t
      obtain ⟨A', C', e1, _⟩ := hx.inv
      simp only at e1
      subst e1
      have hs := hB.size
      have hlt := b3.lt
      have hDl := (Array.getElem?_eq_some_iff.1 bD).1
      gi_wp2
      refine hK _ _ ((KeepsOthers.alloc _ _).from _) (keepB_below hs (below_alloc _ _)) ⟨⟨hz, b2.alloc _, b3.alloc _, (Below.heap_alloc _ _ _ hDl).trans bD⟩, hB.alloc (by omega) _⟩ ⟨U.heap.size, hlt, At.new _ _ _, ?_⟩
      simp
    case body2 =>
      rintro l pre ⟨⟨d, t, cs⟩, hx⟩ a' U ⟨⟨hz, b2, b3, bD⟩, hB⟩ ⟨Bx, hBx, bX, rfl⟩
      have hsn := prs_snoc pre ⟨(d, t, cs), hx⟩
      have HTX : Hid (TIn w t cs) := hx
      have HE0 : Hid (bad2 is (prs (pre ++ [⟨(d, t, cs), hx⟩])) = (wrd is t).isSome) := by
        show bad2 is (prs (pre ++ [⟨(d, t, cs), hx⟩])) = (wrd is t).isSome
        rw [hsn, bad2_app, hz, Bool.true_and, bad2, bad2, Bool.and_true]
      have KEY : Hid (∀ w', Below w.heap.size w w' → Calls Tryz.prog 18 #[.slice A is.length C, .agg cs.toArray] w' fun e w'' => e = .returned (.bool (wrd is t).isSome) ∧ Below w'.heap.size w' w'') := fun w' hw => sized_c is t _ A C w' (HT.out.below hw) (HI.out.below hw) (HTX.out.stays hw)
      generalize (wrd is t).isSome = R at HE0 KEY
      generalize hq : pre ++ [(⟨(d, t, cs), hx⟩ : El w)] = zs at HE0 ⊢
      clear hsn hz hq
      obtain ⟨tk, tn, tm, tes⟩ := t
      obtain ⟨A', C', e1, _⟩ := hx.inv
      simp only at e1
      subst e1
      simp only at bX
      have HB' : Hid (Below w.heap.size w U) := hB
      have G2 : Hid (At U (w.heap.size + 2) #[.int .i64 0] 27) := b2
      have G3 : Hid (At U (w.heap.size + 3) #[.slice A is.length C] 51) := b3
      have GD : Hid (U.heap[D]? = some (.deferred (some []))) := bD
      have hDl := (Array.getElem?_eq_some_iff.1 bD).1
      have d3 : U.cell? ⟨w.heap.size + 3, 0, none⟩ = some (.slice A is.length C) := (b3.cell 0).trans rfl
      obtain ⟨y0, y1, y2, y3, yz⟩ := cells4 (show At U Bx #[.int .i64 tk, .string tn, .int .i64 tm, .slice A' tes.length C'] 25 from bX)
      have hd2 : 1 ≤ n - 1 - 1 := by omega
      dsimp only
      clear hB b2 b3 bD bX hx
      cases R with
      | true =>
        gi_wp2_with (gi_at_call 18; go_loud (refine (CallsIn.inRound l (up _ _ _ _ _ (KEY.out _ HB'.out))).mono ?_); rintro e w1 ⟨rfl, hb1⟩; have MB : Hid (Below U.heap.size U w1) := hb1; clear hb1)
        refine ⟨(others_below MB.out).from _, keepB_below HB'.out.size MB.out, ⟨HE0.out, G2.out.below MB.out G2.out.lt, G3.out.below MB.out G3.out.lt, (MB.out.block D hDl).trans GD.out⟩, HB'.out.trans (MB.out.mono HB'.out.size)⟩
      | false =>
        gi_wp2_with (gi_at_call 18; go_loud (refine (CallsIn.inRound l (up _ _ _ _ _ (KEY.out _ HB'.out))).mono ?_); rintro e w1 ⟨rfl, hb1⟩; have MB : Hid (Below U.heap.size U w1) := hb1; have G4 : Hid (At w1 (w.heap.size + 2) #[.int .i64 0] 27) := G2.out.below hb1 G2.out.lt; have g0 : w1.cell? ⟨w.heap.size + 2, 0, none⟩ = some (.int .i64 0) := (G4.out.cell 0).trans rfl; have g1 : w1.frozen? ⟨w.heap.size + 2, 0, none⟩ = false := G4.out.frozen 0; have gz := G4.out.lt; clear hb1)
        have hDn : D ≠ w.heap.size + 2 := by have := HD.out; omega
        exact ⟨((others_below MB.out).trans (KeepsOthers.setCell _ _ _)).from _, ⟨⟨rfl, HE0.out⟩, G4.out.set (j := 0) _, (heap_far _ _ _ _ _ hDn).trans ((MB.out.block D hDl).trans GD.out)⟩, (HB'.out.trans (MB.out.mono HB'.out.size)).setCell (p := ⟨_, 0, none⟩) (by simp only; omega) _⟩
    case done2 =>
      rintro D2 xs U hD2 hxs ⟨⟨hz, b2, b3, bD⟩, hB⟩ hK2
      rw [hxs] at hz
      have HN : Hid (tyE is (.mk k s m es) refs = 0) := by
        show tyE _ _ _ = _
        rw [tyE, if_pos HZ.out, if_pos hz]
      have G2 : Hid (At U (w.heap.size + 2) #[.int .i64 0] 27) := b2
      have HB' : Hid (Below w.heap.size w U) := hB
      have GD : Hid (U.heap[D]? = some (.deferred (some []))) := bD
      have GK : Hid (U.heap[D2]? = some (.deferred (some []))) := hK2
      have HD2 : Hid (V.heap.size ≤ D2) := hD2
      have g0 : U.cell? ⟨w.heap.size + 2, 0, none⟩ = some (.int .i64 0) := (b2.cell 0).trans rfl
      have g1 : U.frozen? ⟨w.heap.size + 2, 0, none⟩ = false := b2.frozen 0
      have gz := b2.lt
      clear hz b2 b3 bD hB hK2 hxs hD2
      gi_wp2
      have hDn : D ≠ w.heap.size + 2 := by have := HD.out; omega
      have hD2n : D2 ≠ w.heap.size + 2 := by have := HD2.out; omega
      have hDD : D ≠ D2 := by have := HD2.out; omega
      have k2 : (U.setCell ⟨w.heap.size + 2, 0, none⟩ (.int .i64 0)).heap[D2]? = some (.deferred (some [])) := (heap_far _ _ _ _ _ hD2n).trans GK.out
      have k1 : (U.setCell ⟨w.heap.size + 2, 0, none⟩ (.int .i64 0)).heap[D]? = some (.deferred (some [])) := (heap_far _ _ _ _ _ hDn).trans GD.out
      have k3 : ((U.setCell ⟨w.heap.size + 2, 0, none⟩ (.int .i64 0)).putObj D2 (.deferred none)).heap[D]? = some (.deferred (some [])) := (World.putObj_heap_other hDD).trans k1
      refine ⟨by simp, .inl ⟨_, _, rfl, run_takeDeferred k2, ⟨by simp, .inl ⟨_, _, rfl, run_takeDeferred k3, ?_⟩⟩⟩⟩
      have hA := ((G2.out.set (j := 0) (.int .i64 0)).grown (grownBy_putObj' _ D2 (.deferred none)) (fun r e => by cases e; exact ⟨_, k2, rfl⟩)).grown (grownBy_putObj' _ D (.deferred none)) (fun r e => by cases e; exact ⟨_, k3, rfl⟩)
      have k0 := hA.cell 0
      refine ⟨.int .i64 0, ?_, by rw [HN.out], ?_⟩
      · simp [results, Tryz.results7, go_sem, k0]
      · have s1 : w.heap.size ≤ D := by have := HD.out; omega
        have s2 : w.heap.size ≤ D2 := by have := HD2.out; omega
        exact ((HB'.out.setCell (p := ⟨_, 0, none⟩) (by simp only; omega) _).trans (belowK_b (w := w) (Nat.le_refl _) _ D2 _ _ s2 k2 rfl rfl)).trans (belowK_b (w := w) (Nat.le_refl _) _ D _ _ s1 k3 rfl rfl)
    case stop2 =>
      rintro D2 c pre U hD2 hpre ⟨⟨⟨rfl, hno⟩, b2, bD⟩, hB⟩ hK2
      have HN : Hid (tyE is (.mk k s m es) refs = 43) := by
        show tyE _ _ _ = _
        rw [tyE, if_pos HZ.out, if_neg (by rw [bad2_pre hpre hno]; simp)]
      have G2 : Hid (At U (w.heap.size + 2) #[.int .i64 43] 27) := b2
      have HB' : Hid (Below w.heap.size w U) := hB
      have GD : Hid (U.heap[D]? = some (.deferred (some []))) := bD
      have GK : Hid (U.heap[D2]? = some (.deferred (some []))) := hK2
      have HD2 : Hid (V.heap.size ≤ D2) := hD2
      clear hno b2 bD hB hK2 hpre hD2
      gi_wp2
      have hDD : D ≠ D2 := by have := HD2.out; omega
      have k3 : (U.putObj D2 (.deferred none)).heap[D]? = some (.deferred (some [])) := (World.putObj_heap_other hDD).trans GD.out
      refine ⟨by simp, .inl ⟨_, _, rfl, run_takeDeferred GK.out, ⟨by simp, .inl ⟨_, _, rfl, run_takeDeferred k3, ?_⟩⟩⟩⟩
      have hA := (G2.out.grown (grownBy_putObj' _ D2 (.deferred none)) (fun r e => by cases e; exact ⟨_, GK.out, rfl⟩)).grown (grownBy_putObj' _ D (.deferred none)) (fun r e => by cases e; exact ⟨_, k3, rfl⟩)
      have k0 := hA.cell 0
      refine ⟨.int .i64 43, ?_, by rw [HN.out], ?_⟩
      · simp [results, Tryz.results7, go_sem, k0]
      · have s1 : w.heap.size ≤ D := by have := HD.out; omega
        have s2 : w.heap.size ≤ D2 := by have := HD2.out; omega
        exact (HB'.out.trans (belowK_b (w := w) (Nat.le_refl _) _ D2 _ _ s2 GK.out rfl rfl)).trans (belowK_b (w := w) (Nat.le_refl _) _ D _ _ s1 k3 rfl rfl)
  case stop =>
    rintro D c pre W hD hpre ⟨⟨⟨rfl, hno⟩, b2⟩, hB⟩ hK
    have HN : Hid (tyE is (.mk k s m es) refs = bad1 is refs (prs pre)) := by
      have h := bad1_pre hpre hno
      show tyE _ _ _ = _
      rw [tyE, h, if_neg hno]
    generalize bad1 is refs (prs pre) = E at b2 HN
    have H2 : Hid (At W (w.heap.size + 2) #[.int .i64 E] 27) := b2
    have HB : Hid (Below w.heap.size w W) := hB
    have HK : Hid (W.heap[D]? = some (.deferred (some []))) := hK
    have HD : Hid (W0.heap.size ≤ D) := hD
    clear hno b2 hB hK hpre hD
    gi_wp2
    refine ⟨by simp, .inl ⟨_, _, rfl, run_takeDeferred HK.out, ?_⟩⟩
    have hA := H2.out.grown (grownBy_putObj' _ D (.deferred none)) (fun r e => by cases e; exact ⟨_, HK.out, rfl⟩)
    have k0 := hA.cell 0
    refine ⟨.int .i64 E, ?_, by rw [HN.out], ?_⟩
    · simp [results, Tryz.results7, go_sem, k0]
    · have hsz : w.heap.size ≤ D := by have := HD.out; omega
      exact HB.out.trans (belowK_b (w := w) (Nat.le_refl _) W D _ _ hsz HK.out rfl rfl)

theorem type_c (is : List It) (t : T) (cs : List Value) (refs : Bool) (A : Option Addr) (C : Nat) (w : World) (ht : Tab w) (hi : IsIn w is A) (hx : TIn w t cs) :
    Calls Tryz.prog 7 #[.slice A is.length C, .agg cs.toArray, .bool refs] w fun e w' => e = .returned (.int .i64 (tyE is t refs)) ∧ Below w.heap.size w w' :=
  (callsIn_wide (n := 6)).1 (type_in Fence.wide 6 (fun _ _ _ _ _ h => callsIn_wide.2 h) rfl (Nat.le_refl _) trivial trivial trivial trivial trivial trivial is t cs refs A C w ht hi hx)

end Go.Proofs.YtjdkoahbahecoaaGreatDoor
