/-
  Proved: types.together adds what is counted of each type that an iterator hands on, in the room that is left.
-/
import Derived.Test.YtjdkoahbahecoaaGreatDoorEq
namespace Go.Proofs.YtjdkoahbahecoaaGreatDoor
open Go.RowKit Go.Shelf

attribute [local go_sem] Oper.semAt_some

/-- What the program measures, so many parts at most. -/
def OfC (is : List It) (N : Nat) : Prop := ∀ (room : Nat) (t : T) (w : World) (cs : List Value) (A : Option Addr) (C : Nat), room ≤ N → Tab w → IsIn w is A → TIn w t cs →
  Calls Tryz.prog 82 #[.agg #[.slice A is.length C], .agg cs.toArray, .int .i64 (room : Int)] w fun e w' => e = .returned (amV (am is N t room)) ∧ Below w.heap.size w w'

theorem cells3 {w : World} {x : Nat} {a b c : Value} {t : TypeId} (h : At w x #[a, b, c] t) :
    (w.cell? ⟨x, 0, none⟩ = some a ∧ w.cell? ⟨x, 1, none⟩ = some b ∧ w.cell? ⟨x, 2, none⟩ = some c) ∧ (w.frozen? ⟨x, 0, none⟩ = false ∧ w.frozen? ⟨x, 1, none⟩ = false ∧ w.frozen? ⟨x, 2, none⟩ = false) ∧ x < w.heap.size :=
  ⟨⟨(h.cell 0).trans rfl, (h.cell 1).trans rfl, (h.cell 2).trans rfl⟩, ⟨h.frozen 0, h.frozen 1, h.frozen 2⟩, h.lt⟩

theorem At.set3 {W : World} {B : Nat} {a b c : Value} {t : TypeId} (h : At W B #[a, b, c] t) (x y z : Value) : At (((W.setCell ⟨B, 0, none⟩ x).setCell ⟨B, 1, none⟩ y).setCell ⟨B, 2, none⟩ z) B #[x, y, z] t :=
  ((h.set (j := 0) x).set (j := 1) y).set (j := 2) z

theorem At.far3 {W : World} {B B' : Nat} {cs : Array Value} {t : TypeId} (h : At W B cs t) (hne : B ≠ B') (x y z : Value) : At (((W.setCell ⟨B', 0, none⟩ x).setCell ⟨B', 1, none⟩ y).setCell ⟨B', 2, none⟩ z) B cs t :=
  ((h.far hne x).far hne y).far hne z

theorem others3 (W : World) (B : Nat) (x y z : Value) : KeepsOthers W (((W.setCell ⟨B, 0, none⟩ x).setCell ⟨B, 1, none⟩ y).setCell ⟨B, 2, none⟩ z) :=
  ((KeepsOthers.setCell _ _ _).trans (KeepsOthers.setCell _ _ _)).trans (KeepsOthers.setCell _ _ _)

set_option maxRecDepth 100000 in
set_option maxHeartbeats 4000000 in
theorem together_in (F : Fence) (n : Nat) (up : ∀ m f args w R, Calls Tryz.prog f args w R → CallsIn F m Tryz.prog f args w R) (hro : F.round = none) (hn : 6 ≤ n) (h26 : F.fn 94) (h19 : F.fn 82) (h29 : F.fn 97)
    (is : List It) (N : Nat) (ih : OfC is N) (room : Nat) (hr : room ≤ N + 1) (hr2 : room ≤ 512) (a0 : Am) (ha1 : 1 ≤ a0.p) (ha2 : a0.p ≤ room) (ha3 : a0.w ≤ 1000) (ha4 : a0.m ≤ 1000) (ts : List T) (A : Option Addr) (C : Nat)
    (w : World) (ht : Tab w) (hi : IsIn w is A) (gf : Nat) (hgf : F.fn gf) (eg : ∀ args w, (callFunc gf args).run Tryz.prog w = .ok (.enter gf args) w) (lb : Array Value)
    (hseq : ∀ w0, Below w.heap.size w w0 → SeqStopsK F (n - 1) Tryz.prog gf lb (fun x : Al w => #[Value.agg x.1.2.toArray]) (Below w.heap.size) (fun ys => tys ys = ts) (fun pre => tys pre <+: ts) ts.length w0) :
    CallsIn F n Tryz.prog 94 #[amV (some a0), .func (.func gf) #[] lb, .int .i64 (room : Int), .func (.func 82) #[.agg #[.slice A is.length C]] #[]] w
      fun e w' => e = .returned (amV (tog (am is N) room a0 ts)) ∧ Below w.heap.size w w' := by
  have h1 : 1 ≤ n := by omega
  obtain ⟨p0, q0, m0⟩ := a0
  simp only at ha1 ha2 ha3 ha4
  have HT : Hid (Tab w) := ht
  have HI : Hid (IsIn w is A) := hi
  have HQ : Hid (∀ w0, Below w.heap.size w w0 → SeqStopsK F (n - 1) Tryz.prog gf lb (fun x : Al w => #[Value.agg x.1.2.toArray]) (Below w.heap.size) (fun ys => tys ys = ts) (fun pre => tys pre <+: ts) ts.length w0) := hseq
  clear ht hi hseq
  rw [show amV (some ⟨p0, q0, m0⟩) = .agg #[.int .i64 (p0 : Int), .int .i64 (q0 : Int), .int .i64 (m0 : Int)] from rfl]
  refine callsIn_of_wp_marks Tryz.func94 rfl h26 ?_ hro
  simp only [Tryz.ntmps94, List.size_toArray, List.length_cons, List.length_nil, Nat.reduceAdd, Nat.reduceSub, Array.replicate_succ, Array.replicate_zero, List.push_toArray, List.append_toArray, List.nil_append, List.cons_append]
  gi_wp2
  obtain ⟨W0, hW0⟩ : ∃ W0, (((w.alloc (.cells #[.int .i64 (p0 : Int), .int .i64 (q0 : Int), .int .i64 (m0 : Int)] 113)).alloc (.cells #[.int .i64 (room : Int)] 3)).alloc (.cells #[.func (.func 82) #[.agg #[.slice A is.length C]] #[]] 126)).alloc (.cells #[.int .i64 0, .int .i64 0, .int .i64 0] 113) = W0 := ⟨_, rfl⟩
  rw [hW0]
  have sz : W0.heap.size = w.heap.size + 4 := by subst hW0; simp
  have B0 : Below w.heap.size w W0 := by subst hW0; exact below_next (three_alloc _ _ _ _) (below_alloc _ _)
  have A0 : At W0 w.heap.size #[.int .i64 (p0 : Int), .int .i64 (q0 : Int), .int .i64 (m0 : Int)] 113 := by subst hW0; exact (((At.new _ _ _).alloc _).alloc _).alloc _
  have A1 : At W0 (w.heap.size + 1) #[.int .i64 (room : Int)] 3 := by
    subst hW0
    have := ((At.new (w.alloc (.cells #[.int .i64 (p0 : Int), .int .i64 (q0 : Int), .int .i64 (m0 : Int)] 113)) #[.int .i64 (room : Int)] 3).alloc (.cells #[.func (.func 82) #[.agg #[.slice A is.length C]] #[]] 126)).alloc (.cells #[.int .i64 0, .int .i64 0, .int .i64 0] 113)
    simpa using this
  have A2 : At W0 (w.heap.size + 2) #[.func (.func 82) #[.agg #[.slice A is.length C]] #[]] 126 := by
    subst hW0
    have := (At.new ((w.alloc (.cells #[.int .i64 (p0 : Int), .int .i64 (q0 : Int), .int .i64 (m0 : Int)] 113)).alloc (.cells #[.int .i64 (room : Int)] 3)) #[.func (.func 82) #[.agg #[.slice A is.length C]] #[]] 126).alloc (.cells #[.int .i64 0, .int .i64 0, .int .i64 0] 113)
    simpa using this
  have A3 : At W0 (w.heap.size + 3) #[.int .i64 0, .int .i64 0, .int .i64 0] 113 := by
    subst hW0
    have := At.new (((w.alloc (.cells #[.int .i64 (p0 : Int), .int .i64 (q0 : Int), .int .i64 (m0 : Int)] 113)).alloc (.cells #[.int .i64 (room : Int)] 3)).alloc (.cells #[.func (.func 82) #[.agg #[.slice A is.length C]] #[]] 126)) #[.int .i64 0, .int .i64 0, .int .i64 0] 113
    simpa using this
  clear hW0
  refine wpIn_rangeFunc_ownH hro h1 (gf := gf) (lb := lb) rfl hgf eg (HQ.out W0 B0) belowK_t (belowK_b (by omega)) (Below.refl _ _) (fun _ => rfl)
    (fun pre W => ((∃ a : Am, tog (am is N) room ⟨p0, q0, m0⟩ (tys pre) = some a ∧ At W w.heap.size #[.int .i64 (a.p : Int), .int .i64 (a.w : Int), .int .i64 (a.m : Int)] 113) ∧ At W (w.heap.size + 1) #[.int .i64 (room : Int)] 3 ∧ At W (w.heap.size + 2) #[.func (.func 82) #[.agg #[.slice A is.length C]] #[]] 126 ∧ At W (w.heap.size + 3) #[.int .i64 0, .int .i64 0, .int .i64 0] 113) ∧ Below w.heap.size w W)
    (fun c pre W => ((c = .ret ∧ tog (am is N) room ⟨p0, q0, m0⟩ (tys pre) = none) ∧ At W (w.heap.size + 3) #[.int .i64 513, .int .i64 0, .int .i64 0] 113) ∧ Below w.heap.size w W)
    (OwnFrom.and (fun s X Y row hs hg hr => ⟨by obtain ⟨a, h1, h2⟩ := hs.1; exact ⟨a, h1, h2.grown hg (fun r e => (hr r e).2)⟩, hs.2.1.grown hg (fun r e => (hr r e).2), hs.2.2.1.grown hg (fun r e => (hr r e).2), hs.2.2.2.grown hg (fun r e => (hr r e).2)⟩) (ownFrom_below (Nat.le_refl _) (by omega)))
    (fun c => OwnFrom.and (fun s X Y row hs hg hr => ⟨hs.1, hs.2.grown hg (fun r e => (hr r e).2)⟩) (ownFrom_below (Nat.le_refl _) (by omega)))
    ⟨⟨⟨⟨p0, q0, m0⟩, rfl, A0⟩, A1, A2, A3⟩, B0⟩
    (fun x a' W => ∃ Bx, w.heap.size + 3 < Bx ∧ At W Bx x.1.2.toArray 25 ∧ a' = { tmps := #[.agg #[.int .i64 (p0 : Int), .int .i64 (q0 : Int), .int .i64 (m0 : Int)], .func (.func gf) #[] lb, .int .i64 (room : Int), .func (.func 82) #[.agg #[.slice A is.length C]] #[], .pointer (some ⟨w.heap.size, 0, none⟩), undef, .pointer (some ⟨w.heap.size + 1, 0, none⟩), .pointer (some ⟨w.heap.size + 2, 0, none⟩), .pointer (some ⟨w.heap.size + 3, 0, none⟩), .pointer (some ⟨Bx, 0, none⟩), undef, .func (.func gf) #[] lb, .agg x.1.2.toArray, undef, undef, undef, undef, undef, undef, undef, undef, undef, undef, undef, undef, undef, undef, undef], defers := [] })
    (fun x a' s X Y row hs hg hr => by obtain ⟨Bx, h1, h2, h3⟩ := hs; exact ⟨Bx, h1, h2.grown hg (fun r e => (hr r e).2), h3⟩)
    ?assign ?body ?done ?stop
  case assign =>
    rintro l pre ⟨⟨t, cs⟩, hx⟩ W K ⟨⟨⟨a, hta, b0⟩, b1, b2, b3⟩, hB⟩ hK
    obtain ⟨tk, tn, tm, tes⟩ := t
    obtain ⟨A', C', e1, _⟩ := hx.inv
    simp only at e1
    subst e1
    have hlt := b3.lt
    have hs := hB.size
    gi_wp2
    refine hK _ _ ((KeepsOthers.alloc _ _).from _) ((Below.refl _ W).alloc (by omega) _) ⟨⟨⟨a, hta, b0.alloc _⟩, b1.alloc _, b2.alloc _, b3.alloc _⟩, hB.alloc (by omega) _⟩ ⟨W.heap.size, hlt, At.new _ _ _, ?_⟩
    simp
  case body =>
    rintro l pre ⟨⟨t, cs⟩, hx⟩ a' W hl _ ⟨⟨⟨a, hta, b0⟩, b1, b2, b3⟩, hB⟩ ⟨Bx, hBx, bX, rfl⟩ hlt
    have hok := tog_ok (am_ok is N) hta ha2
    simp only at hok
    have hsn := tog_snoc (am is N) room t (tys pre) ⟨p0, q0, m0⟩
    rw [hta, Option.bind_some] at hsn
    have KEY : Hid (∀ w', Below w.heap.size w w' → Calls Tryz.prog 82 #[.agg #[.slice A is.length C], .agg cs.toArray, .int .i64 ((room : Int) - (a.p : Int))] w' fun e w'' => e = .returned (amV (am is N t (room - a.p))) ∧ Below w'.heap.size w' w'') := fun w' hw' => by
      have := ih (room - a.p) t w' cs A C (by omega) (HT.out.below hw') (HI.out.below hw') (hx.stays hw')
      rw [Int.ofNat_sub (by omega)] at this
      exact this
    have hfi := am_ok is N t (room - a.p)
    generalize am is N t (room - a.p) = R at hsn KEY hfi
    have HS : Hid (tog (am is N) room ⟨p0, q0, m0⟩ (tys (pre ++ [⟨(t, cs), hx⟩])) = R.map fun o => ⟨a.p + o.p, a.w + o.w, a.m + o.m⟩) := by rw [tys_snoc]; exact hsn
    generalize hz : pre ++ [(⟨(t, cs), hx⟩ : Al w)] = zs at HS ⊢
    clear hsn hz hlt hta
    obtain ⟨tk, tn, tm, tes⟩ := t
    obtain ⟨A', C', e1, _⟩ := hx.inv
    simp only at e1
    subst e1
    simp only at bX KEY
    obtain ⟨ap, aw, am'⟩ := a
    simp only at hok b0 KEY HS
    have HB : Hid (Below w.heap.size w W) := hB
    have H0 : Hid (At W w.heap.size #[.int .i64 (ap : Int), .int .i64 (aw : Int), .int .i64 (am' : Int)] 113) := b0
    have H1 : Hid (At W (w.heap.size + 1) #[.int .i64 (room : Int)] 3) := b1
    have H2 : Hid (At W (w.heap.size + 2) #[.func (.func 82) #[.agg #[.slice A is.length C]] #[]] 126) := b2
    have H3 : Hid (At W (w.heap.size + 3) #[.int .i64 0, .int .i64 0, .int .i64 0] 113) := b3
    have d0 : W.cell? ⟨w.heap.size, 0, none⟩ = some (.int .i64 (ap : Int)) := (b0.cell 0).trans rfl
    have d1 : W.cell? ⟨w.heap.size + 1, 0, none⟩ = some (.int .i64 (room : Int)) := (b1.cell 0).trans rfl
    have d2 : W.cell? ⟨w.heap.size + 2, 0, none⟩ = some (.func (.func 82) #[.agg #[.slice A is.length C]] #[]) := (b2.cell 0).trans rfl
    have x0 : W.cell? ⟨Bx, 0, none⟩ = some (.int .i64 tk) := (bX.cell 0).trans rfl
    have x1 : W.cell? ⟨Bx, 1, none⟩ = some (.string tn) := (bX.cell 1).trans rfl
    have x2 : W.cell? ⟨Bx, 2, none⟩ = some (.int .i64 tm) := (bX.cell 2).trans rfl
    have x3 : W.cell? ⟨Bx, 3, none⟩ = some (.slice A' tes.length C') := (bX.cell 3).trans rfl
    have hd2 : 1 ≤ n - 1 - 1 := by omega
    dsimp only
    clear hB b0 b1 b2 b3 bX hx
    cases R with
    | none =>
      simp only [amV, Option.map_none] at KEY HS
      have en := eq_none
      gi_wp2_with (gi_at_call 82; go_loud (refine (CallsIn.inRound l (up _ _ _ _ _ (KEY.out _ HB.out))).mono ?_); rintro e w1 ⟨rfl, hb1⟩; have T1 := HT.out.below (HB.out.trans (hb1.mono HB.out.size)); have t0 := T1.c0; have t1 := T1.c1; have t2 := T1.c2; have tz := T1.z; obtain ⟨⟨g30, g31, g32⟩, ⟨f30, f31, f32⟩, z3⟩ := cells3 (H3.out.below hb1 H3.out.lt); have MB : Hid (Below W.heap.size W w1) := hb1; clear hb1 T1)
      have G3 := H3.out.below MB.out H3.out.lt
      have hle : w.heap.size ≤ w.heap.size + 3 := by omega
      have hB3 := below_set3 (HB.out.trans (MB.out.mono HB.out.size)) hle (.int .i64 513) (.int .i64 0) (.int .i64 0)
      exact ⟨(((others_below MB.out).trans (others3 _ _ _ _ _)).trans (KeepsOthers.alloc _ _)).from _, ⟨⟨rfl, HS.out⟩, (G3.set3 _ _ _).alloc _⟩, hB3.alloc hB3.size _⟩
    | some o =>
      obtain ⟨op, ow, om⟩ := o
      obtain ⟨hf1, hf2, hf3, hf4⟩ := hfi _ rfl
      simp only at hf1 hf2 hf3 hf4
      simp only [amV, Option.map_some] at KEY HS
      have en := eq_some op ow om (by omega)
      have PL : Hid (∀ w', Calls Tryz.prog 97 #[.agg #[.int .i64 (ap : Int), .int .i64 (aw : Int), .int .i64 (am' : Int)], .agg #[.int .i64 (op : Int), .int .i64 (ow : Int), .int .i64 (om : Int)]] w' fun e w'' => e = .returned (.agg #[.int .i64 ((ap + op : Nat) : Int), .int .i64 ((aw + ow : Nat) : Int), .int .i64 ((am' + om : Nat) : Int)]) ∧ Below w'.heap.size w' w'') :=
        fun w' => plus_c ⟨ap, aw, am'⟩ ⟨op, ow, om⟩ w' (by simp only; omega) (by simp only; omega) (by simp only; omega)
      gi_wp2_with (first
        | (gi_at_call 82; go_loud (refine (CallsIn.inRound l (up _ _ _ _ _ (KEY.out _ HB.out))).mono ?_); rintro e w1 ⟨rfl, hb1⟩; have T1 := HT.out.below (HB.out.trans (hb1.mono HB.out.size)); have t0 := T1.c0; have t1 := T1.c1; have t2 := T1.c2; have tz := T1.z; obtain ⟨⟨g00, g01, g02⟩, ⟨f00, f01, f02⟩, z0⟩ := cells3 (H0.out.below hb1 H0.out.lt); have MB : Hid (Below W.heap.size W w1) := hb1; clear hb1 T1)
        | (gi_at_call 97; go_loud (refine (CallsIn.inRound l (up _ _ _ _ _ (PL.out _))).mono ?_); rintro e w2 ⟨rfl, hb2⟩; have MC : Hid (Below W.heap.size W w2) := below_next (below_next MB.out (below_alloc _ _)) hb2; obtain ⟨⟨g10, g11, g12⟩, ⟨f10, f11, f12⟩, z1⟩ := cells3 (H0.out.below MC.out H0.out.lt); clear hb2))
      have hne1 : w.heap.size + 1 ≠ w.heap.size := by omega
      have hne2 : w.heap.size + 2 ≠ w.heap.size := by omega
      have hne3 : w.heap.size + 3 ≠ w.heap.size := by omega
      refine ⟨((others_below MC.out).trans (others3 _ _ _ _ _)).from _, below_set3 (MC.out.mono HB.out.size) (Nat.le_refl _) _ _ _, ⟨⟨⟨ap + op, aw + ow, am' + om⟩, HS.out, (H0.out.below MC.out H0.out.lt).set3 _ _ _⟩, (H1.out.below MC.out H1.out.lt).far3 hne1 _ _ _, (H2.out.below MC.out H2.out.lt).far3 hne2 _ _ _, (H3.out.below MC.out H3.out.lt).far3 hne3 _ _ _⟩, below_set3 (HB.out.trans (MC.out.mono HB.out.size)) (Nat.le_refl _) _ _ _⟩
  case done =>
    rintro D ys W hD hys ⟨⟨⟨a, hta, b0⟩, _, _, b3⟩, hB⟩ hK
    rw [hys] at hta
    obtain ⟨⟨d0, d1, d2⟩, _, z0⟩ := cells3 b0
    obtain ⟨⟨g0, g1, g2⟩, ⟨f0, f1, f2⟩, z3⟩ := cells3 b3
    have HTA : Hid (tog (am is N) room ⟨p0, q0, m0⟩ ts = some a) := hta
    have H3 : Hid (At W (w.heap.size + 3) #[.int .i64 0, .int .i64 0, .int .i64 0] 113) := b3
    have HB : Hid (Below w.heap.size w W) := hB
    have HK : Hid (W.heap[D]? = some (.deferred (some []))) := hK
    have HD : Hid (W0.heap.size ≤ D) := hD
    clear hta b3 b0 hB hK hys hD
    gi_wp2
    have hK' := (others3 W (w.heap.size + 3) (.int .i64 (a.p : Int)) (.int .i64 (a.w : Int)) (.int .i64 (a.m : Int))).same D _ HK.out rfl
    refine ⟨by simp, .inl ⟨_, _, rfl, run_takeDeferred hK', ?_⟩⟩
    have hA := (H3.out.set3 (.int .i64 (a.p : Int)) (.int .i64 (a.w : Int)) (.int .i64 (a.m : Int))).grown (grownBy_putObj' _ D (.deferred none)) (fun r e => by cases e; exact ⟨_, hK', rfl⟩)
    obtain ⟨⟨k0, k1, k2⟩, _, _⟩ := cells3 hA
    refine ⟨.agg #[.int .i64 (a.p : Int), .int .i64 (a.w : Int), .int .i64 (a.m : Int)], ?_, by rw [HTA.out]; rfl, ?_⟩
    · simp [results, Tryz.results94, go_sem, k0, k1, k2]
    · have hsz : w.heap.size ≤ D := by have := HD.out; omega
      exact (below_set3 HB.out (by omega) _ _ _).trans (belowK_b (w := w) (Nat.le_refl _) _ D _ _ hsz hK' rfl rfl)
  case stop =>
    rintro D c pre W hD hpre ⟨⟨⟨rfl, hno⟩, b3⟩, hB⟩ hK
    have HN : Hid (tog (am is N) room ⟨p0, q0, m0⟩ ts = none) := tog_prefix hpre hno
    have H3 : Hid (At W (w.heap.size + 3) #[.int .i64 513, .int .i64 0, .int .i64 0] 113) := b3
    have HB : Hid (Below w.heap.size w W) := hB
    have HK : Hid (W.heap[D]? = some (.deferred (some []))) := hK
    have HD : Hid (W0.heap.size ≤ D) := hD
    clear hno b3 hB hK hpre hD
    gi_wp2
    refine ⟨by simp, .inl ⟨_, _, rfl, run_takeDeferred HK.out, ?_⟩⟩
    have hA := H3.out.grown (grownBy_putObj' _ D (.deferred none)) (fun r e => by cases e; exact ⟨_, HK.out, rfl⟩)
    obtain ⟨⟨k0, k1, k2⟩, _, _⟩ := cells3 hA
    refine ⟨.agg #[.int .i64 513, .int .i64 0, .int .i64 0], ?_, by rw [HN.out]; rfl, ?_⟩
    · simp [results, Tryz.results94, go_sem, k0, k1, k2]
    · have hsz : w.heap.size ≤ D := by have := HD.out; omega
      exact HB.out.trans (belowK_b (w := w) (Nat.le_refl _) W D _ _ hsz HK.out rfl rfl)

theorem together_fields (is : List It) (N : Nat) (ih : OfC is N) (room : Nat) (hr : room ≤ N + 1) (hr2 : room ≤ 512) (a0 : Am) (ha1 : 1 ≤ a0.p) (ha2 : a0.p ≤ room) (ha3 : a0.w ≤ 1000) (ha4 : a0.m ≤ 1000) (ps : List (ByteArray × T)) (A : Option Addr) (C : Nat)
    (w : World) (ht : Tab w) (hi : IsIn w is A) (Bs : Nat) (P : Option Addr) (cap : Nat) (hp : PsIn w ps P) (hBs : w.cell? ⟨Bs, 3, none⟩ = some (.slice P ps.length cap)) :
    Calls Tryz.prog 94 #[amV (some a0), .func (.func 99) #[] #[.pointer (some ⟨Bs, 0, none⟩)], .int .i64 (room : Int), .func (.func 82) #[.agg #[.slice A is.length C]] #[]] w
      fun e w' => e = .returned (amV (tog (am is N) room a0 (ps.map (·.2)))) ∧ Below w.heap.size w w' :=
  (callsIn_wide (n := 6)).1 (together_in Fence.wide 6 (fun _ _ _ _ _ h => callsIn_wide.2 h) rfl (Nat.le_refl _) trivial trivial trivial is N ih room hr hr2 a0 ha1 ha2 ha3 ha4 (ps.map (·.2)) A C w ht hi 99 trivial (enters_of Tryz.func99 (by kernel_rfl) rfl) _
    (fun w0 hw => fields_stops Fence.wide 5 trivial rfl (by decide) Bs w w0 P cap ps hp hw ((hw.cell (p := ⟨Bs, 3, none⟩) (World.block_lt_of_cell? _ _ hBs)).trans hBs)))

theorem together_values (is : List It) (N : Nat) (ih : OfC is N) (room : Nat) (hr : room ≤ N + 1) (hr2 : room ≤ 512) (a0 : Am) (ha1 : 1 ≤ a0.p) (ha2 : a0.p ≤ room) (ha3 : a0.w ≤ 1000) (ha4 : a0.m ≤ 1000) (ts : List T) (A : Option Addr) (C : Nat)
    (w : World) (ht : Tab w) (hi : IsIn w is A) (Bs : Nat) (P : Option Addr) (cap : Nat) (hp : TsIn w ts P) (hBs : w.cell? ⟨Bs, 0, none⟩ = some (.slice P ts.length cap)) :
    Calls Tryz.prog 94 #[amV (some a0), .func (.func 101) #[] #[.pointer (some ⟨Bs, 0, none⟩)], .int .i64 (room : Int), .func (.func 82) #[.agg #[.slice A is.length C]] #[]] w
      fun e w' => e = .returned (amV (tog (am is N) room a0 ts)) ∧ Below w.heap.size w w' :=
  (callsIn_wide (n := 6)).1 (together_in Fence.wide 6 (fun _ _ _ _ _ h => callsIn_wide.2 h) rfl (Nat.le_refl _) trivial trivial trivial is N ih room hr hr2 a0 ha1 ha2 ha3 ha4 ts A C w ht hi 101 trivial (enters_of Tryz.func101 (by kernel_rfl) rfl) _
    (fun w0 hw => values_stops Fence.wide 5 trivial rfl (by decide) Bs w w0 P cap ts hp hw ((hw.cell (p := ⟨Bs, 0, none⟩) (World.block_lt_of_cell? _ _ hBs)).trans hBs)))

end Go.Proofs.YtjdkoahbahecoaaGreatDoor
