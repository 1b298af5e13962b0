/-
  Proved: names.inwards hands a type and what it holds on, from the outermost one on, each with how many it stands in.
-/
import Derived.Test.YtjdkoahbahecoaaGreatDoorSets
namespace Go.Proofs.YtjdkoahbahecoaaGreatDoor
open Go.RowKit Go.Shelf

attribute [local go_sem] Oper.semAt_some

/-- A type and what it holds, from the outermost one on, each with how many it stands in (as an int of the program's). -/
def ins : T → Int → List (Int × T)
  | .mk k s n [], d => [(d, .mk k s n [])]
  | .mk k s n (e :: es), d => (d, .mk k s n (e :: es)) :: (if 10 ≤ k ∧ k ≤ 13 then ins e (wrap64 (d + 1)) else [])

theorem ins_none (k : Int) (s : ByteArray) (n : Int) (es : List T) (d : Int) (h : ¬ (10 ≤ k ∧ k ≤ 13)) : ins (.mk k s n es) d = [(d, .mk k s n es)] := by
  cases es with
  | nil => rw [ins]
  | cons e es => rw [ins, if_neg h]

theorem ins_one (k : Int) (s : ByteArray) (n : Int) (e : T) (es : List T) (d : Int) (h : 10 ≤ k ∧ k ≤ 13) : ins (.mk k s n (e :: es)) d = (d, .mk k s n (e :: es)) :: ins e (wrap64 (d + 1)) := by
  rw [ins, if_pos h]

theorem ins_head (t : T) (d : Int) : ∃ r, ins t d = (d, t) :: r := by
  obtain ⟨k, s, n, es⟩ := t
  cases es with
  | nil => exact ⟨_, by rw [ins]⟩
  | cons e es => exact ⟨_, by rw [ins]⟩

theorem TIn.row {w : World} {t t' : T} {c c' : List Value} {b o : Nat} (ht : TIn w t c) (ht' : TIn w t' c') (hr : RowAt w b o c) (hr' : RowAt w b o c') : c = c' := by
  obtain ⟨k1, s1, n1, es1⟩ := t
  obtain ⟨k2, s2, n2, es2⟩ := t'
  obtain ⟨A1, C1, rfl, _⟩ := ht.inv
  obtain ⟨A2, C2, rfl, _⟩ := ht'.inv
  have g : ∀ j v v', ([.int .i64 k1, .string s1, .int .i64 n1, .slice A1 es1.length C1] : List Value)[j]? = some v → ([.int .i64 k2, .string s2, .int .i64 n2, .slice A2 es2.length C2] : List Value)[j]? = some v' → v = v' := fun j v v' e e' =>
    Option.some.inj ((hr.2 j v e).symm.trans (hr'.2 j v' e'))
  rw [g 0 _ _ rfl rfl, g 1 _ _ rfl rfl, g 2 _ _ rfl rfl, g 3 _ _ rfl rfl]

/-- Cells tell one type alone. -/
theorem TIn.inj {w : World} {t t' : T} {cs : List Value} (h : TIn w t cs) (h' : TIn w t' cs) : t = t' := by
  have key : ∀ (N : Nat) (t t' : T) (cs : List Value), SizeOf.sizeOf t < N → TIn w t cs → TIn w t' cs → t = t' := by
    intro N
    induction N with
    | zero => intro t t' cs hN _ _; omega
    | succ N ih =>
      intro t t' cs hN h h'
      obtain ⟨k, s, n, es⟩ := t
      obtain ⟨k', s', n', es'⟩ := t'
      obtain ⟨A, C, e1, h1, h2⟩ := h.inv
      obtain ⟨A', C', e2, h1', h2'⟩ := h'.inv
      rw [e1] at e2
      simp only [List.cons.injEq, Value.int.injEq, Value.string.injEq, Value.slice.injEq, and_true, true_and] at e2
      obtain ⟨rfl, rfl, rfl, rfl, hl, _⟩ := e2
      have : es = es' := List.ext_getElem hl fun i hi hi' => by
        obtain ⟨b, o, c1, ea, hr, ht⟩ := h2 i hi
        obtain ⟨b', o', c2, ea', hr', ht'⟩ := h2' i hi'
        rw [ea] at ea'
        simp only [Option.some.injEq, Addr.mk.injEq, and_true] at ea'
        obtain ⟨rfl, rfl⟩ := ea'
        have hc : c1 = c2 := ht.row ht' hr hr'
        subst hc
        exact ih _ _ c1 (by have := T.lt_mk k s n es i hi; omega) ht ht'
      rw [this]
  exact key _ t t' cs (Nat.lt_succ_self _) h h'

/-- A type that lies in a world, with its cells, and how many it stands in. -/
abbrev El (w : World) := { x : Int × T × List Value // TIn w x.2.1 x.2.2 }

/-- What comes, as plain data. -/
def prs {w : World} (xs : List (El w)) : List (Int × T) := xs.map fun x => (x.1.1, x.1.2.1)

theorem prs_snoc {w : World} (pre : List (El w)) (x : El w) : prs (pre ++ [x]) = prs pre ++ [(x.1.1, x.1.2.1)] := by simp [prs]

/-- What a round keeps: all that was there ahead of the call, and the iterator's own variable. -/
def KeepB (w : World) (Bt : Nat) (W W' : World) : Prop := Below w.heap.size W W' ∧ ∀ cs, At W Bt cs 25 → At W' Bt cs 25

/-- How great the type is that lies in a block. -/
noncomputable def muB (w : World) (Bt : Nat) (W : World) : Nat := Classical.epsilon fun m => ∃ t cs, TIn w t cs ∧ At W Bt cs.toArray 25 ∧ m = SizeOf.sizeOf t

theorem muB_eq {w : World} {Bt : Nat} {W : World} {t : T} {cs : List Value} (h : TIn w t cs) (ha : At W Bt cs.toArray 25) : muB w Bt W = SizeOf.sizeOf t := by
  have := Classical.epsilon_spec (p := fun m => ∃ t cs, TIn w t cs ∧ At W Bt cs.toArray 25 ∧ m = SizeOf.sizeOf t) ⟨_, t, cs, h, ha, rfl⟩
  obtain ⟨t', cs', h', ha', hm⟩ := this
  have e : cs' = cs := by
    have := Option.some.inj (ha'.symm.trans ha)
    simpa using this
  subst e
  rw [h.inj h']
  exact hm

theorem inwards_c (k : Int) (s : ByteArray) (n : Int) (A : Option Addr) (l C : Nat) (w : World) :
    Calls Tryz.prog 16 #[.agg #[.int .i64 k, .string s, .int .i64 n, .slice A l C]] w fun e w' => e = .returned (.func (.func 39) #[] #[.pointer (some ⟨w.heap.size, 0, none⟩)]) ∧ w' = w.alloc (.cells #[.int .i64 k, .string s, .int .i64 n, .slice A l C] 25) := by
  go_enter Tryz.func16, Tryz.ntmps16
  go_wp2
  go_ret
  exact ⟨rfl, rfl⟩

theorem At.set4 {W : World} {B : Nat} {a b c d : Value} {t : TypeId} (h : At W B #[a, b, c, d] t) (x y z u : Value) : At ((((W.setCell ⟨B, 0, none⟩ x).setCell ⟨B, 1, none⟩ y).setCell ⟨B, 2, none⟩ z).setCell ⟨B, 3, none⟩ u) B #[x, y, z, u] t :=
  (((h.set (j := 0) x).set (j := 1) y).set (j := 2) z).set (j := 3) u

theorem below_set4 {n : Nat} {w W : World} (h : Below n w W) {b : Nat} (hb : n ≤ b) (x y z u : Value) : Below n w ((((W.setCell ⟨b, 0, none⟩ x).setCell ⟨b, 1, none⟩ y).setCell ⟨b, 2, none⟩ z).setCell ⟨b, 3, none⟩ u) :=
  (((h.setCell (p := ⟨b, 0, none⟩) hb x).setCell (p := ⟨b, 1, none⟩) hb y).setCell (p := ⟨b, 2, none⟩) hb z).setCell (p := ⟨b, 3, none⟩) hb u

theorem frz4 {w : World} {x : Nat} {a b c d : Value} {t : TypeId} (h : At w x #[a, b, c, d] t) : w.frozen? ⟨x, 0, none⟩ = false ∧ w.frozen? ⟨x, 1, none⟩ = false ∧ w.frozen? ⟨x, 2, none⟩ = false ∧ w.frozen? ⟨x, 3, none⟩ = false :=
  ⟨h.frozen 0, h.frozen 1, h.frozen 2, h.frozen 3⟩

set_option maxRecDepth 100000 in
set_option maxHeartbeats 4000000 in
theorem inw1 (F : Fence) (n : Nat) (up : ∀ m f args w R, Calls Tryz.prog f args w R → CallsIn F m Tryz.prog f args w R) (h30 : F.fn 39) (h31 : F.fn 40) (hro : F.round = none) (hn : 2 ≤ n) (l Bt : Nat) (w : World) (hBw : w.heap.size ≤ Bt) (t : T) (cs : List Value) (ht : TIn w t cs) (J Jx : List (El w) → World → Prop) (hFr : Free Bt J)
    (hY : ∀ pre x W, J pre W → YieldAt F (n - 1) Tryz.prog l #[.int .i64 x.1.1, .agg x.1.2.2.toArray] W fun e W' =>
      (e = .returned (.bool true) ∧ J (pre ++ [x]) W' ∧ KeepB w Bt W W') ∨ (e = .returned (.bool false) ∧ Jx (pre ++ [x]) W'))
    (W : World) (hW : Below w.heap.size w W) (hBt : At W Bt cs.toArray 25) (h0 : J [] W) :
    CallsIn F n Tryz.prog 39 #[.func (.yield l) #[] #[], .pointer (some ⟨Bt, 0, none⟩)] W fun e W' => (∃ v, e = .returned v) ∧
      ((∃ ys, prs ys = ins t 0 ∧ J ys W') ∨ (∃ pre, prs pre <+: ins t 0 ∧ Jx pre W')) := by
  have h1n : 1 ≤ n := by omega
  have h2n : 1 ≤ n - 1 := by omega
  refine callsIn_of_wp Tryz.func39 rfl h30 ?_ hro
  simp only [Tryz.ntmps39, List.size_toArray, List.length_cons, List.length_nil, Nat.reduceAdd, Nat.reduceSub, Array.replicate_succ, Array.replicate_zero, List.push_toArray, List.append_toArray, List.nil_append, List.cons_append]
  gi_wp2
  gi_loopw [3] (fun i wr => ∃ (d : Int) (pre : List (El w)) (t' : T) (cs' : List Value), i = .int .i64 d ∧ prs pre ++ ins t' d = ins t 0 ∧ J pre wr ∧ At wr Bt cs'.toArray 25 ∧ TIn w t' cs' ∧ Below w.heap.size w wr) (fun _ wr => muB w Bt wr)
  case atStart => exact ⟨0, [], t, cs, rfl, rfl, h0, hBt, ht, hW⟩
  case round =>
    obtain ⟨d, pre, t', cs', rfl, hpre, hj, hat, htn, hbl⟩ := hrel
    have hy0 := hY pre ⟨(d, t', cs'), htn⟩ wr hj
    have hmu := muB_eq htn hat
    have HMU : Hid (muB w Bt wr = SizeOf.sizeOf t') := hmu
    have HSN := prs_snoc pre ⟨(d, t', cs'), htn⟩
    have HTN : Hid (TIn w t' cs') := htn
    have HBL : Hid (Below w.heap.size w wr) := hbl
    have HAT : Hid (At wr Bt cs'.toArray 25) := hat
    have HP : Hid (prs pre ++ ins t' d = ins t 0) := hpre
    clear hmu hbl hpre hj hW hBt h0 ht
    obtain ⟨k, s, m, es⟩ := t'
    have hinv := htn.inv
    obtain ⟨A1, C1, e1, hes⟩ := hinv
    subst e1
    dsimp only at hy0 HSN
    generalize hq : pre ++ [(⟨(d, .mk k s m es, [.int .i64 k, .string s, .int .i64 m, .slice A1 es.length C1]), htn⟩ : El w)] = ys at hy0 HSN
    have HS : Hid (prs ys = prs pre ++ [(d, .mk k s m es)]) := HSN
    have HES : Hid (TsIn w es A1) := hes
    clear HSN hq htn hes
    obtain ⟨a0, a1, a2, a3, az⟩ := cells4 (show At wr Bt #[.int .i64 k, .string s, .int .i64 m, .slice A1 es.length C1] 25 from hat)
    clear hat
    obtain ⟨fn, tmps, assign, body, hy, hR⟩ := hy0
    have HO : Hid (∀ w', Calls Tryz.prog 40 #[.int .i64 k] w' fun e w'' => e = .returned (.bool (decide (10 ≤ k ∧ k ≤ 13))) ∧ w'' = w') := holds_c k
    gi_wp2
    refine hR.mono ?_
    rintro e W3 (⟨rfl, hJ3, hk3, ha3⟩ | ⟨rfl, hJx3⟩)
    · have A3 := ha3 _ HAT.out
      have HA3 : Hid (At W3 Bt #[.int .i64 k, .string s, .int .i64 m, .slice A1 es.length C1] 25) := A3
      obtain ⟨b0, b1, b2, b3, bz⟩ := cells4 (show At W3 Bt #[.int .i64 k, .string s, .int .i64 m, .slice A1 es.length C1] 25 from A3)
      obtain ⟨f0, f1, f2, f3⟩ := frz4 (show At W3 Bt #[.int .i64 k, .string s, .int .i64 m, .slice A1 es.length C1] 25 from A3)
      have HB3 : Hid (Below w.heap.size w W3) := HBL.out.trans hk3
      clear hk3 ha3 A3 hR
      by_cases ho : 10 ≤ k ∧ k ≤ 13
      · rw [decide_eq_true ho] at HO
        have HH : Hid (10 ≤ k ∧ k ≤ 13) := ho
        clear ho
        cases es with
        | nil =>
          gi_wp2_with (gi_at_call 40; go_loud (refine (up _ _ _ _ _ (HO.out _)).mono ?_); rintro e' w1 ⟨rfl, rfl⟩)
          go_end0
          exact ⟨⟨_, rfl⟩, .inl ⟨ys, by rw [HS.out, ← HP.out, ins], hJ3⟩⟩
        | cons e2 es2 =>
          obtain ⟨b, o, c2, rfl, hrow, htc⟩ := HES.out.2 0 (by simp)
          have HTC : Hid (TIn w e2 c2) := htc
          have hrow' := hrow.below HB3.out
          obtain ⟨k2, s2, m2, es3⟩ := e2
          obtain ⟨A2, C2, rfl, _⟩ := htc.inv
          have c0 := hrow'.2 0 _ rfl
          have c1 := hrow'.2 1 _ rfl
          have c2 := hrow'.2 2 _ rfl
          have c3 := hrow'.2 3 _ rfl
          simp only [Nat.zero_mul, Nat.add_zero] at c0 c1 c2 c3
          have hpos : (0 : Int) < ((T.mk k2 s2 m2 es3 :: es2).length : Int) := by simp only [List.length_cons]; omega
          have hpos' : 0 < (T.mk k2 s2 m2 es3 :: es2).length := by simp
          clear hrow' hrow htc
          gi_wp2_with (gi_at_call 40; go_loud (refine (up _ _ _ _ _ (HO.out _)).mono ?_); rintro e' w1 ⟨rfl, rfl⟩)
          go_roundw
          case rel => exact ⟨_, ys, _, _, rfl, by rw [HS.out, ← HP.out, ins_one _ _ _ _ _ _ HH.out, List.append_assoc]; rfl, hFr _ _ _ _ (hFr _ _ _ _ (hFr _ _ _ _ (hFr _ _ _ _ hJ3))), HA3.out.set4 _ _ _ _, HTC.out, below_set4 HB3.out hBw _ _ _ _⟩
          case measure =>
            rw [HMU.out, muB_eq HTC.out (HA3.out.set4 _ _ _ _)]
            exact T.lt_mk k s m (T.mk k2 s2 m2 es3 :: es2) 0 (by simp)
      · rw [decide_eq_false ho] at HO
        have HH : Hid (¬ (10 ≤ k ∧ k ≤ 13)) := ho
        clear ho
        gi_wp2_with (gi_at_call 40; go_loud (refine (up _ _ _ _ _ (HO.out _)).mono ?_); rintro e' w1 ⟨rfl, rfl⟩)
        go_end0
        exact ⟨⟨_, rfl⟩, .inl ⟨ys, by rw [HS.out, ← HP.out, ins_none _ _ _ _ _ HH.out], hJ3⟩⟩
    · gi_wp2
      go_end0
      refine ⟨⟨_, rfl⟩, .inr ⟨ys, ?_, hJx3⟩⟩
      obtain ⟨r, hr⟩ := ins_head (.mk k s m es) d
      rw [HS.out, ← HP.out, hr]
      exact ⟨r, by simp⟩

/-- The types that a type holds come. -/
theorem inw_seq (F : Fence) (n : Nat) (up : ∀ m f args w R, Calls Tryz.prog f args w R → CallsIn F m Tryz.prog f args w R) (h30 : F.fn 39) (h31 : F.fn 40) (hro : F.round = none) (hn : 2 ≤ n) (Bt : Nat) (w w0 : World) (hBw : w.heap.size ≤ Bt) (t : T) (cs : List Value) (ht : TIn w t cs) (hw : Below w.heap.size w w0) (hBt : At w0 Bt cs.toArray 25) :
    SeqSets Bt F n Tryz.prog 39 #[.pointer (some ⟨Bt, 0, none⟩)] (fun x : El w => #[.int .i64 x.1.1, .agg x.1.2.2.toArray]) (KeepB w Bt) (fun ys => prs ys = ins t 0) (fun pre => prs pre <+: ins t 0) w0 := fun l J Jx W hW _ _ hFr hY h0 =>
  inw1 F n up h30 h31 hro hn l Bt w hBw t cs ht J Jx hFr hY W (hw.trans (hW.mono hw.size)) (hBt.below hW hBt.lt) h0

end Go.Proofs.YtjdkoahbahecoaaGreatDoor
