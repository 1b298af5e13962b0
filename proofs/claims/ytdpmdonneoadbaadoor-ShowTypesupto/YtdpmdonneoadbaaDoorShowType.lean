/-
  Proved: show.Type tells a type's text, wherever it is not too long.
-/
import Derived.Test.YtdpmdonneoadbaaDoorBack
import Derived.Maps.AppendAt
namespace Go.Proofs.YtdpmdonneoadbaaDoor
open Go.RowKit Go.Shelf

attribute [local go_sem] Oper.semAt_some

/-- The law of a range over a function, its loop's variable in one slot. -/
theorem range_law {F : Fence} {n : Nat} {P : Program} {α : Type} {g : Operand} {ps : Array Tmp} {assign body : Code} {Q : Exit → Act → World → Prop} {a : Act} {w : World}
    (hro : F.round = none) (h1 : 1 ≤ n) {gf : Nat} {lb : Array Value} (hg : a.eval g = .func (.func gf) #[] lb) (hFg : F.fn gf) (eg : ∀ args w, (callFunc gf args).run P w = .ok (.enter gf args) w)
    {encs : α → Array Value} {Kp : World → World → Prop} {S Sp : List α → Prop} {N : Nat} {w0 : World} (hseq : SeqStopsK F (n - 1) P gf lb encs Kp S Sp N w0)
    (hKt : ∀ {A B C : World}, Kp A B → Kp B C → Kp A C) (hKb : ∀ (W : World) (l : Nat) (o o' : Obj), w.heap.size ≤ l → W.heap[l]? = some o → o.isCells = false → o.isWalk = false → Kp W (W.putObj l o')) (hb0 : Below w0.heap.size w0 w) (hps : ∀ x, (encs x).size = ps.size)
    (I : List α → World → Prop) (Ix : Code → List α → World → Prop) (hI : OwnFrom w.heap.size I) (hIx : ∀ c, OwnFrom w.heap.size (Ix c)) (h0 : I [] w) (slot : Nat) (val : α → Value)
    (hassign : ∀ (l : Nat) (x : α) (W : World) (K : Act → World → Prop), K { tmps := ((ps.zip (encs x)).foldl (fun t (p, v) => t.setIfInBounds p v) a.tmps).setIfInBounds slot (val x), defers := [] } W →
      assign.wpIn (F.inRound l) (n - 1 - 1) P (Exit.then K (fun _ _ _ => False)) { tmps := (ps.zip (encs x)).foldl (fun t (p, v) => t.setIfInBounds p v) a.tmps, defers := [] } W)
    (hbody : ∀ (l : Nat) (pre : List α) (x : α) (W : World), I pre W → pre.length < N → body.wpIn (F.inRound l) (n - 1 - 1) P (ownPostK Kp I Ix (pre ++ [x]) W) { tmps := ((ps.zip (encs x)).foldl (fun t (p, v) => t.setIfInBounds p v) a.tmps).setIfInBounds slot (val x), defers := [] } W)
    (hdone : ∀ (D : Nat) (xs : List α) (W : World), w.heap.size ≤ D → S xs → I xs W → W.heap[D]? = some (.deferred (some [])) → Q .normal { a with defers := { target := .collected D, args := #[] } :: a.defers } W)
    (hstop : ∀ (D : Nat) (c : Code) (pre : List α) (W : World), w.heap.size ≤ D → Sp pre → Ix c pre W → W.heap[D]? = some (.deferred (some [])) → c.wpIn F n P Q { a with defers := { target := .collected D, args := #[] } :: a.defers } W) :
    (Code.rangeFunc g ps assign body).wpIn F n P Q a w :=
  wpIn_rangeFunc_ownF hro h1 hg hFg eg hseq hKt hKb hb0 hps I Ix hI hIx h0 (fun x => { tmps := ((ps.zip (encs x)).foldl (fun t (p, v) => t.setIfInBounds p v) a.tmps).setIfInBounds slot (val x), defers := [] }) hassign hbody hdone hstop

def sliceLen : Value → Nat | .slice _ l _ => l | _ => 0

theorem own_len {w : World} {B n : Nat} {v : Value} {xs : List Value} (h : w.ownsRow B 9 1 v n xs) : sliceLen v = n := by
  rcases h.2 with ⟨rfl, h0⟩ | ⟨g, cap, cur, rfl, _⟩
  · subst h0; rfl
  · rfl

/-- What holds in the loop. -/
structure Lp (w wr : World) (t t' : T) (acc : List UInt8) (cl : List (List UInt8)) (v : Value) : Prop where
  st : St w wr t' acc (cl.map ofL) v
  txt : t.text = acc ++ t'.text ++ cl.reverse.flatten
  dp : t.deepT = cl.length + t'.deepT
  fit : t'.fits
  sm : ∀ c ∈ cl, c.length ≤ 24

theorem Lp.start {w : World} {k : Int} {s : ByteArray} {n : Int} {es : List T} {A : Option Addr} {C : Nat} (ht : TsIn w es A) (hf : (T.mk k s n es).fits) :
    Lp w ((w.alloc (.cells #[.int .i64 k, .string s, .int .i64 n, .slice A es.length C] 24)).alloc (.cells #[.pointer none, .slice none 0 0] 35)) (.mk k s n es) (.mk k s n es) [] [] (.slice none 0 0) := by
  refine ⟨⟨⟨k, s, n, es, A, C, rfl, ?_, ht⟩, ?_, ?_, two_alloc _ _ _⟩, by simp, by simp, hf, by simp⟩
  · rw [Below.heap_alloc _ _ _ (by simp)]
    exact alloc_at _ _
  · refine Or.inl ⟨Nat.le_succ _, .slice none 0 0, ?_, ⟨rfl, Or.inl ⟨rfl, rfl⟩⟩, fun e => by cases e⟩
    have := alloc_at (w.alloc (.cells #[.int .i64 k, .string s, .int .i64 n, .slice A es.length C] 24)) (.cells #[.pointer none, .slice none 0 0] 35)
    rw [World.size_alloc] at this
    exact this
  · exact ⟨rfl, Or.inl ⟨rfl, rfl⟩⟩

theorem own_is {w : World} {B n : Nat} {v : Value} {xs : List Value} (h : w.ownsRow B 9 1 v n xs) : ∃ a l c, v = .slice a l c := by
  rcases h.2 with ⟨rfl, h0⟩ | ⟨g, cap, cur, rfl, _⟩
  · exact ⟨_, _, _, rfl⟩
  · exact ⟨_, _, _, rfl⟩

/-- The texts that have come, in a row. -/
def cat (pre : List (Nat × Sh)) : List UInt8 := (pre.map fun x => x.2.1.data.toList).flatten
theorem cat_snoc (pre : List (Nat × Sh)) (x : Nat × Sh) : cat (pre ++ [x]) = cat pre ++ x.2.1.data.toList := by simp [cat]
theorem cat_len (pre : List (Nat × Sh)) : (cat pre).length ≤ 100 * pre.length := by
  induction pre with
  | nil => simp [cat]
  | cons x pre ih =>
    have : x.2.1.data.toList.length = x.2.1.size := Array.length_toList
    have h2 := x.2.2
    simp only [cat, List.map_cons, List.flatten_cons, List.length_append, List.length_cons] at ih ⊢
    omega
theorem cat_all (ys : List (Nat × Sh)) (cl : List (List UInt8)) (h : ys.map (·.2.1) = (cl.map ofL).reverse) : cat ys = cl.reverse.flatten := by
  unfold cat
  congr 1
  have : ys.map (fun x => x.2.1.data.toList) = (ys.map (·.2.1)).map (fun s => s.data.toList) := by simp
  rw [this, h, ← List.map_reverse, List.map_map]
  have e : ((fun s : ByteArray => s.data.toList) ∘ ofL) = id := by funext l; simp [ofL]
  rw [e, List.map_id]

theorem bld_own {β : Type} (B b : Nat) (g : β → List Value) : Own (fun (pre : β) W => Lib.IsBuilderF 35 5 B b (g pre) W) := by
  intro s W W' row hs hg hr
  have no : ∀ t, Keeps t W W' := fun t => keeps_grown hg (fun r e c fz hc => by
    obtain ⟨o, ho, hc'⟩ := hr r e
    rw [ho] at hc
    cases hc
    cases hc')
  exact bld_keep hs (no 35) (no 5)

theorem cells4 {w : World} {x : Nat} {a b c d : Value} (h : w.heap[x]? = some (.cells #[a, b, c, d] 24 (0, 0))) :
    (w.cell? ⟨x, 0, none⟩ = some a ∧ w.cell? ⟨x, 1, none⟩ = some b ∧ w.cell? ⟨x, 2, none⟩ = some c ∧ w.cell? ⟨x, 3, none⟩ = some d) ∧ (w.frozen? ⟨x, 0, none⟩ = false ∧ w.frozen? ⟨x, 1, none⟩ = false ∧ w.frozen? ⟨x, 2, none⟩ = false ∧ w.frozen? ⟨x, 3, none⟩ = false) ∧ x < w.heap.size :=
  ⟨⟨(cell_at h 0).trans rfl, (cell_at h 1).trans rfl, (cell_at h 2).trans rfl, (cell_at h 3).trans rfl⟩, ⟨frozen_at h 0, frozen_at h 1, frozen_at h 2, frozen_at h 3⟩, (Array.getElem?_eq_some_iff.1 h).1⟩

theorem keeps_set4 {t : TypeId} {w : World} {x : Nat} {cs : Array Value} {fz : Nat × Nat} (h : w.heap[x]? = some (.cells cs 24 fz)) (ht : t ≠ 24) (a b c d : Value) :
    Keeps t w ((((w.setCell ⟨x, 0, none⟩ a).setCell ⟨x, 1, none⟩ b).setCell ⟨x, 2, none⟩ c).setCell ⟨x, 3, none⟩ d) := by
  have no : ∀ {w : World} {cs : Array Value}, w.heap[x]? = some (.cells cs 24 fz) → ∀ c' fz', w.heap[x]? ≠ some (Obj.cells c' t fz') := fun h c' fz' e => by
    rw [h] at e
    cases e
    exact ht rfl
  have h1 := setCell_at (j := 0) h a
  have h2 := setCell_at (j := 1) h1 b
  have h3 := setCell_at (j := 2) h2 c
  intro k c' fz' hk
  exact keeps_set (no h3) k c' fz' (keeps_set (no h2) k c' fz' (keeps_set (no h1) k c' fz' (keeps_set (no h) k c' fz' hk)))

/-- Down by one. -/
theorem Lp.down {w w4 : World} {tt : T} {k : Int} {s : ByteArray} {n : Int} {es : List T} {acc : List UInt8} {cl : List (List UInt8)} {v : Value} {e1 : T} {es1 : List T} (he : es = e1 :: es1) (hk : 10 ≤ k) (hk' : k ≤ 13)
    (txt : tt.text = acc ++ (T.mk k s n es).text ++ cl.reverse.flatten) (dp : tt.deepT = cl.length + (T.mk k s n es).deepT) (fit : (T.mk k s n es).fits) (sm : ∀ c ∈ cl, c.length ≤ 24)
    {cs : Array Value} (hh : w4.heap[w.heap.size]? = some (.cells cs 24 (0, 0))) (hsz : cs.size = 4) (st : St w w4 (.mk k s n es) (acc ++ opn k) (cl.map ofL ++ [ofL (cls k n)]) v)
    {k' : Int} {s' : ByteArray} {n' : Int} {ees : List T} {AA : Option Addr} {CC : Nat} (e1e : e1 = .mk k' s' n' ees) (hts : TsIn w ees AA) :
    Lp w ((((w4.setCell ⟨w.heap.size, 0, none⟩ (.int .i64 k')).setCell ⟨w.heap.size, 1, none⟩ (.string s')).setCell ⟨w.heap.size, 2, none⟩ (.int .i64 n')).setCell ⟨w.heap.size, 3, none⟩ (.slice AA ees.length CC)) tt e1 (acc ++ opn k) (cl ++ [cls k n]) v := by
  subst he
  refine ⟨?_, ?_, ?_, fit.2, ?_⟩
  · have hv : Var w ((((w4.setCell ⟨w.heap.size, 0, none⟩ (.int .i64 k')).setCell ⟨w.heap.size, 1, none⟩ (.string s')).setCell ⟨w.heap.size, 2, none⟩ (.int .i64 n')).setCell ⟨w.heap.size, 3, none⟩ (.slice AA ees.length CC)) w.heap.size e1 := by
      refine ⟨k', s', n', ees, AA, CC, e1e, ?_, hts⟩
      rw [setCell_at (setCell_at (setCell_at (setCell_at hh _) _) _) _]
      match cs, hsz with
      | ⟨[c0, c1, c2, c3]⟩, _ => rfl
    have := st.set (keeps_set4 hh (by decide) _ _ _ _) (keeps_set4 hh (by decide) _ _ _ _) (keeps_set4 hh (by decide) _ _ _ _) hv ((((st.low.setCell (Nat.le_refl _) _).setCell (Nat.le_refl _) _).setCell (Nat.le_refl _) _).setCell (Nat.le_refl _) _)
    simpa using this
  · rw [txt, text_held k s n e1 es1 hk hk']
    simp
  · rw [dp, T.deepT_cons]
    simp
    omega
  · intro c hc
    rcases List.mem_append.1 hc with hc | hc
    · exact sm c hc
    · have hn := T.fits_n fit
      obtain rfl : c = cls k n := by simpa using hc
      exact cls_len k n hn.1 hn.2

set_option maxRecDepth 100000 in
set_option maxHeartbeats 4000000 in
theorem type_in (F : Fence) (n : Nat) (up : ∀ m f args w R, Calls Tryd.prog f args w R → CallsIn F m Tryd.prog f args w R) (hro : F.round = none) (hn : 6 ≤ n) (h5 : F.fn 5) (h9 : F.fn 9) (h10 : F.fn 10) (h11 : F.fn 11) (h12 : F.fn 12) (h13 : F.fn 13) (h14 : F.fn 14) (h22 : F.fn 22)
    (t : T) (cs : List Value) (w : World) (h : TIn w t cs) (ht : Tab w) (hf : t.fits) (hd : t.deepT < 200) (hlen : t.text.length ≤ 1099511627776) :
    CallsIn F n Tryd.prog 5 #[.agg cs.toArray] w fun e w' => e = .returned (.string (ofL t.text)) ∧ Below w.heap.size w w' := by
  have h1 : 1 ≤ n := by omega
  obtain ⟨k, s, nn, es⟩ := t
  obtain ⟨A, C, rfl, ta⟩ := h.inv
  have L0 : Hid (Lp w _ _ _ _ _ _) := Lp.start (C := C) ta hf
  generalize hT : T.mk k s nn es = tt at hd hlen L0 ⊢
  have HT : Hid (Tab w) := ht
  clear h ta ht hf hT
  show CallsIn F n Tryd.prog 5 #[.agg #[.int .i64 k, .string s, .int .i64 nn, .slice A es.length C]] w _
  refine callsIn_of_wp_marks Tryd.func5 rfl h5 ?_ hro
  simp only [Tryd.ntmps5, List.size_toArray, List.length_cons, List.length_nil, Nat.reduceAdd, Nat.reduceSub, Array.replicate_succ, Array.replicate_zero, List.push_toArray, List.append_toArray, List.nil_append, List.cons_append]
  gi_wp2
  gi_loopw [4, 5, 6] (fun v _ _ wr => ∃ (t' : T) (acc : List UInt8) (cl : List (List UInt8)), Lp w wr tt t' acc cl v) (fun v _ _ _ => 200 - sliceLen v)
  case atStart => exact ⟨_, _, _, L0.out⟩
  case round =>
    obtain ⟨t', acc, cl, hL⟩ := hrel
    obtain ⟨k', s', n', es', A', C', rfl, hh, hts⟩ := hL.st.var.ex
    have HH : Hid (wr.heap[w.heap.size]? = some (.cells #[.int .i64 k', .string s', .int .i64 n', .slice A' es'.length C'] 24 (0, 0))) := hh
    have HTS : Hid (TsIn w es' A') := hts
    have S0 : Hid (St w wr (.mk k' s' n' es') acc (cl.map ofL) u4) := hL.st
    have TX : Hid (tt.text = acc ++ (T.mk k' s' n' es').text ++ cl.reverse.flatten) := hL.txt
    have DP : Hid (tt.deepT = cl.length + (T.mk k' s' n' es').deepT) := hL.dp
    have FT : Hid (T.mk k' s' n' es').fits := hL.fit
    have SM : Hid (∀ c ∈ cl, c.length ≤ 24) := hL.sm
    clear hL hh hts L0
    have hn' := T.fits_n FT.out
    obtain ⟨⟨c0, c1, c2, c3⟩, _, hz⟩ := cells4 HH.out
    by_cases hb : holdsB k' es'.length = true
    · have hb' : 10 ≤ k' ∧ k' ≤ 13 ∧ 0 < es'.length := by simpa [holdsB, and_assoc] using hb
      obtain ⟨hk1, hk2, hl0⟩ := hb'
      obtain ⟨e1, es1, hes⟩ : ∃ e1 es1, es' = e1 :: es1 := by
        cases es' with
        | nil => simp at hl0
        | cons e1 es1 => exact ⟨e1, es1, rfl⟩
      obtain ⟨b1, o1, cs1, hA', hr0, ht1⟩ := HTS.out.2 0 hl0
      have ht1 : TIn w e1 cs1 := by simpa [hes] using ht1
      obtain ⟨kk1, ss1, nn1, ees1⟩ := e1
      obtain ⟨AA1, CC1, rfl, tt1⟩ := ht1.inv
      have H9 : Hid (∀ w', Calls Tryd.prog 9 #[.agg #[.int .i64 k', .string s', .int .i64 n', .slice A' es'.length C']] w' fun e w'' => e = .returned (.bool true) ∧ Below w'.heap.size w' w'') := fun w' => by
        refine (holds_c k' s' n' A' es'.length C' w').mono ?_
        rintro e w'' ⟨rfl, rfl⟩
        exact ⟨by rw [hb], below_alloc _ _⟩
      have H10 : Hid (∀ w', Below w.heap.size w w' → Calls Tryd.prog 10 #[.agg #[.int .i64 k', .string s', .int .i64 n', .slice A' es'.length C']] w' fun e w'' => e = .returned (.tuple #[.string (ofL (opn k')), .string (ofL (cls k' n'))]) ∧ Below w'.heap.size w' w'') :=
        fun w' hw => around_c k' s' n' A' es'.length C' w' (HT.out.below hw) hk1 hk2 hn'
      have hal : acc.length + (opn k').length ≤ 1099511627776 := by
        have h1 := TX.out
        rw [hes, text_held k' s' n' _ es1 hk1 hk2] at h1
        rw [h1] at hlen
        simp at hlen
        omega
      have H11 : Hid (∀ w', St w w' (.mk k' s' n' es') acc (cl.map ofL) u4 → Calls Tryd.prog 11 #[.pointer (some ⟨w.heap.size + 1, 0, none⟩), .string (ofL (opn k'))] w' fun e w'' => e = .returned (.tuple #[.int .i64 (ofL (opn k')).size, .nilIface]) ∧ St w w'' (.mk k' s' n' es') (acc ++ opn k') (cl.map ofL) u4 ∧ Keeps 24 w' w'') := fun w' hs => by
        refine (write_k w.heap.size (w.heap.size + 1) _ (ofL (opn k')) w' hs.bld (by rw [byteCells_len, ofL_size]; omega) hs.low.size).mono ?_
        rintro e w'' ⟨rfl, k1, k2, k3⟩
        obtain ⟨cb, hcb⟩ := bld_at hs.bld
        exact ⟨rfl, hs.wrote k1 k2 k3, keeps_others k3 (by decide) (fun c' fz e => by rw [hcb] at e; cases e)⟩
      have ST4 : Hid (∀ w4 v, w4.heap[w.heap.size]? = some (.cells #[.int .i64 k', .string s', .int .i64 n', .slice A' es'.length C'] 24 (0, 0)) → St w w4 (.mk k' s' n' es') (acc ++ opn k') (cl.map ofL ++ [ofL (cls k' n')]) v → Lp w ((((w4.setCell ⟨w.heap.size, 0, none⟩ (.int .i64 kk1)).setCell ⟨w.heap.size, 1, none⟩ (.string ss1)).setCell ⟨w.heap.size, 2, none⟩ (.int .i64 nn1)).setCell ⟨w.heap.size, 3, none⟩ (.slice AA1 ees1.length CC1)) tt (.mk kk1 ss1 nn1 ees1) (acc ++ opn k') (cl ++ [cls k' n']) v) :=
        fun w4 v h1 h2 => Lp.down hes hk1 hk2 TX.out DP.out FT.out SM.out h1 rfl h2 rfl tt1
      have hcl : cl.length < 200 := by have := DP.out; omega
      obtain ⟨i0, hi, hz0, hz1, hz2⟩ : ∃ i, Tryd.prog.info? 9 = some i ∧ i.zero = some (.string ⟨#[]⟩) ∧ i.size = 1 ∧ i.bytes = 16 := ⟨_, rfl, rfl, rfl, rfl⟩
      have HI : Hid (Tryd.prog.info? 9 = some i0 ∧ i0.zero = some (.string ⟨#[]⟩) ∧ i0.size = 1 ∧ i0.bytes = 16) := ⟨hi, hz0, hz1, hz2⟩
      have RB : Hid (RowAt w b1 o1 [.int .i64 kk1, .string ss1, .int .i64 nn1, .slice AA1 ees1.length CC1]) := by
        have hr1 : RowAt w b1 o1 [.int .i64 kk1, .string ss1, .int .i64 nn1, .slice AA1 ees1.length CC1] := by simpa using hr0
        exact hr1
      subst hA'
      have hl1 : (0 : Int) < (es'.length : Int) := by omega
      clear hi hz0 hz1 hz2 hr0 ht1 tt1 hes hb hn' hal hk1 hk2 FT TX
      generalize ofL (opn k') = O at H10 H11
      have CL : Hid ((cl.map ofL).length < 200) := by show _ < _; simpa using hcl
      have LB : Hid ((cl.map ofL).length + 1 ≤ maxLen ∧ ((cl.map ofL).length + 1) * 16 ≤ 140737488355328) := by
        have h1 := CL.out
        have h2 : (200 : Nat) ≤ maxLen := by decide
        show _ ∧ _
        omega
      generalize hz' : ofL (cls k' n') = Z at H10 ST4
      clear hz'
      gi_wp2_with (first
        | (gi_at_builtin; go_loud (refine wpListIn_append_own _ rfl _ _ 36 rfl w.heap.size 9 i0 (.string ⟨#[]⟩) 1 16 Tryd.underlying36 HI.out.1 HI.out.2.1 HI.out.2.2.1 HI.out.2.2.2 rfl (by decide) _ _ _ rfl (S3.out.own.alloc _) ⟨w3.heap.size, 0, none⟩ 1 1 [.string Z] rfl rfl (cell_one_new _ _ _) (fun u hu => by cases hu with | head => rfl | tail _ h => cases h) LB.out.1 LB.out.2 (Nat.le_trans S3.out.low.size (below_alloc w3 (.cells #[.string Z] 9)).size) ?_); intro v4 w4 o4 g4 _; have S4 : Hid (St w w4 (.mk k' s' n' es') (acc ++ opn k') (cl.map ofL ++ [Z]) v4) := (S3.out.next (below_alloc _ _)).pushed o4 g4; have VV4 : Hid (w4.heap[w.heap.size]? = _) := keeps_grown (t := 24) g4 (fun g e c fz hc => by obtain ⟨c', hc'⟩ := own_at (S3.out.next (below_alloc w3 (.cells #[.string Z] 9))).own e; rw [hc'] at hc; cases hc) _ _ _ (keeps_below (t := 24) (below_alloc w3 (.cells #[.string Z] 9)) _ _ _ VV3.out); obtain ⟨⟨r0, r1, r2, r3⟩, ⟨f0, f1, f2, f3⟩, rz⟩ := cells4 VV4.out; have RR := RB.out.below S4.out.low; have x0 := RR.2 0 _ rfl; have x1 := RR.2 1 _ rfl; have x2 := RR.2 2 _ rfl; have x3 := RR.2 3 _ rfl; simp only [Nat.add_zero] at x0; clear RR o4 g4)
        | (gi_at_call 9; go_loud (refine (up _ _ _ _ _ (H9.out _)).mono ?_); rintro e w1 ⟨rfl, hb1⟩; have S1 : Hid (St w w1 (.mk k' s' n' es') acc (cl.map ofL) u4) := S0.out.next hb1; have V1 := keeps_below (t := 24) hb1 _ _ _ HH.out; have VV1 : Hid (w1.heap[w.heap.size]? = _) := V1; obtain ⟨⟨p0, p1, p2, p3⟩, _, pz⟩ := cells4 V1; clear hb1 V1)
        | (gi_at_call 10; go_loud (refine (up _ _ _ _ _ (H10.out _ S1.out.low)).mono ?_); rintro e w2 ⟨rfl, hb2⟩; have S2 : Hid (St w w2 (.mk k' s' n' es') acc (cl.map ofL) u4) := S1.out.next hb2; have VV2 : Hid (w2.heap[w.heap.size]? = _) := keeps_below (t := 24) hb2 _ _ _ VV1.out; clear hb2)
        | (gi_at_call 11; go_loud (refine (up _ _ _ _ _ (H11.out _ S2.out)).mono ?_); rintro e w3 ⟨rfl, s3, k3⟩; have S3 : Hid (St w w3 (.mk k' s' n' es') (acc ++ opn k') (cl.map ofL) u4) := s3; have VV3 : Hid (w3.heap[w.heap.size]? = _) := k3 _ _ _ VV2.out; clear s3 k3))
      go_roundw
      case rel => exact ⟨_, _, _, ST4.out _ _ VV4.out S4.out⟩
      case measure =>
        have e1 := own_len S4.out.own
        have e2 := own_len S0.out.own
        have e3 := CL.out
        simp at e1 e2 e3 ⊢
        omega
    · have hbf : holdsB k' es'.length = false := by simpa using hb
      have hti := text_inner k' s' n' es' hbf
      have TX2 : Hid (tt.text = (acc ++ inner k' s') ++ cl.reverse.flatten) := by
        have h1 := TX.out
        rw [hti] at h1
        exact h1
      have hal : (acc ++ inner k' s').length ≤ 1099511627776 := by
        have h1 := TX2.out
        rw [h1, List.length_append] at hlen
        omega
      have H9 : Hid (∀ w', Calls Tryd.prog 9 #[.agg #[.int .i64 k', .string s', .int .i64 n', .slice A' es'.length C']] w' fun e w'' => e = .returned (.bool false) ∧ Below w'.heap.size w' w'') := fun w' => by
        refine (holds_c k' s' n' A' es'.length C' w').mono ?_
        rintro e w'' ⟨rfl, rfl⟩
        exact ⟨by rw [hbf], below_alloc _ _⟩
      have H12 : Hid (∀ w', Below w.heap.size w w' → Calls Tryd.prog 12 #[.agg #[.int .i64 k', .string s', .int .i64 n', .slice A' es'.length C']] w' fun e w'' => e = .returned (.string (ofL (inner k' s'))) ∧ Below w'.heap.size w' w'') :=
        fun w' hw => innermost_c k' s' n' A' es'.length C' w' (HT.out.below hw)
      have H11 : Hid (∀ w', St w w' (.mk k' s' n' es') acc (cl.map ofL) u4 → Calls Tryd.prog 11 #[.pointer (some ⟨w.heap.size + 1, 0, none⟩), .string (ofL (inner k' s'))] w' fun e w'' => e = .returned (.tuple #[.int .i64 (ofL (inner k' s')).size, .nilIface]) ∧ St w w'' (.mk k' s' n' es') (acc ++ inner k' s') (cl.map ofL) u4) := fun w' hs => by
        refine (write_k w.heap.size (w.heap.size + 1) _ (ofL (inner k' s')) w' hs.bld (by rw [byteCells_len, ofL_size]; rw [List.length_append] at hal; omega) hs.low.size).mono ?_
        rintro e w'' ⟨rfl, k1, k2, k3⟩
        exact ⟨rfl, hs.wrote k1 k2 k3⟩
      have hcl : cl.length < 200 := by have := DP.out; omega
      have CL : Hid (cl.length < 200) := hcl
      have AL : Hid ((acc ++ inner k' s').length ≤ 1099511627776) := hal
      generalize hacc : acc ++ inner k' s' = acc2 at H11 AL TX2
      generalize ofL (inner k' s') = Y at H11 H12
      obtain ⟨va, vl, vc, rfl⟩ := own_is S0.out.own
      clear hacc hal hti hb hbf hn' TX hlen FT DP hcl
      gi_wp2_with (first
        | (gi_at_call 9; go_loud (refine (up _ _ _ _ _ (H9.out _)).mono ?_); rintro e w1 ⟨rfl, hb1⟩; have S1 : Hid (St w w1 (.mk k' s' n' es') acc (cl.map ofL) (.slice va vl vc)) := S0.out.next hb1; have V1 := keeps_below (t := 24) hb1 _ _ _ HH.out; obtain ⟨⟨p0, p1, p2, p3⟩, _, pz⟩ := cells4 V1; clear hb1 V1)
        | (gi_at_call 12; go_loud (refine (up _ _ _ _ _ (H12.out _ S1.out.low)).mono ?_); rintro e w2 ⟨rfl, hb2⟩; have S2 : Hid (St w w2 (.mk k' s' n' es') acc (cl.map ofL) (.slice va vl vc)) := S1.out.next hb2; clear hb2)
        | (gi_at_call 11; go_loud (refine (up _ _ _ _ _ (H11.out _ S2.out)).mono ?_); rintro e w3 ⟨rfl, s3⟩; have S3 : Hid (St w w3 (.mk k' s' n' es') acc2 (cl.map ofL) (.slice va vl vc)) := s3; clear s3)
        | (gi_at_call 13; go_loud (refine (back_in F _ h13 hro _ _ _ _).mono ?_); rintro e w4 ⟨rfl, hw4⟩; have S4 : Hid (St w w4 (.mk k' s' n' es') acc2 (cl.map ofL) (.slice va vl vc)) := S3.out.next (by rw [hw4]; exact below_alloc _ _); have B4 : Hid (w4.heap[w3.heap.size]? = some (.cells #[.slice va vl vc] 36 (0, 0))) := (by rw [hw4]; exact alloc_at _ _); clear hw4))
      have SH : Hid (∀ x ∈ cl.map ofL, x.size ≤ 100) := fun x hx => by
        obtain ⟨c, hc, rfl⟩ := List.mem_map.1 hx
        have := SM.out c hc
        rw [ofL_size]
        omega
      refine range_law hro h1 (gf := 22) (lb := #[.pointer (some ⟨w3.heap.size, 0, none⟩)]) rfl h22 (enters_of Tryd.func22 (by kernel_rfl) rfl)
        (back_stops F (n - 1) h22 hro (by omega) w3.heap.size w.heap.size (.slice va vl vc) (cl.map ofL) (by have := CL.out; simp; omega) SH.out w4 B4.out S4.out.own) Calm.trans calm_b (Below.refl _ _) (fun _ => rfl)
        (fun pre W => Lib.IsBuilderF 35 5 w.heap.size (w.heap.size + 1) (Lib.byteCells (acc2 ++ cat pre)) W ∧ Below w.heap.size w W)
        (fun _ _ _ => False)
        (OwnFrom.and (Own.from (bld_own w.heap.size (w.heap.size + 1) (fun pre => Lib.byteCells (acc2 ++ cat pre))) _) (ownFrom_below (Nat.le_refl _) S4.out.low.size))
        (fun _ _ _ _ _ hs _ _ => hs)
        ⟨by simpa [cat] using S4.out.bld, S4.out.low⟩ 8 (fun x => .string x.2.1) ?assign ?body ?done ?stop
      case assign =>
        intro l x W K hK
        gi_wp2
        simpa using hK
      case body =>
        rintro l pre x W ⟨hbld, hlow⟩ hpre
        have HBL : Hid (Lib.IsBuilderF 35 5 w.heap.size (w.heap.size + 1) (Lib.byteCells (acc2 ++ cat pre)) W) := hbld
        have HLW : Hid (Below w.heap.size w W) := hlow
        have HWR : Hid (Calls Tryd.prog 11 #[.pointer (some ⟨w.heap.size + 1, 0, none⟩), .string x.2.1] W fun e W' => e = .returned (.tuple #[.int .i64 x.2.1.size, .nilIface]) ∧ (KeepsOthers W W' ∧ Calm W W' ∧ Lib.IsBuilderF 35 5 w.heap.size (w.heap.size + 1) (Lib.byteCells (acc2 ++ cat (pre ++ [x]))) W' ∧ Below w.heap.size w W')) := by
          have hc := cat_len pre
          have h2 := x.2.2
          have h3 := AL.out
          have h4 := CL.out
          have h5 : pre.length < cl.length := by simpa using hpre
          refine (write_k w.heap.size (w.heap.size + 1) _ x.2.1 W hbld (by rw [byteCells_len, List.length_append]; omega) hlow.size).mono ?_
          rintro e W' ⟨rfl, k1, k2, k3⟩
          obtain ⟨cb, hcb⟩ := bld_at hbld
          refine ⟨rfl, ?_, ⟨keeps_others k3 (by decide) (fun c' fz e => by rw [hcb] at e; cases e), keeps_others k3 (by decide) (fun c' fz e => by rw [hcb] at e; cases e)⟩, Or.inr ?_, hlow.trans k2⟩
          · refine ⟨k2.size, fun j o hj hc => k3 j o hj (fun e => ?_) (fun c fz e => by subst e; cases hc)⟩
            cases e
            rw [hcb] at hj
            cases hj
            cases hc
          · have e : Lib.strCells x.2.1 = Lib.byteCells x.2.1.data.toList := by simp [Lib.strCells, Lib.byteCells]
            rw [e, byteCells_append, List.append_assoc, ← cat_snoc] at k1
            exact k1
        clear hbld hlow hpre
        have hd2 : 1 ≤ n - 1 - 1 := by omega
        gi_wp2_with (gi_at_call 11; go_loud (refine (CallsIn.inRound l (up _ _ _ _ _ HWR.out)).mono ?_); rintro e w6 ⟨rfl, q1, q2, q3, q4⟩; have QQ : Hid (KeepsOthers W w6 ∧ Calm W w6 ∧ Lib.IsBuilderF 35 5 w.heap.size (w.heap.size + 1) (Lib.byteCells (acc2 ++ cat (pre ++ [x]))) w6 ∧ Below w.heap.size w w6) := ⟨q1, q2, q3, q4⟩; clear q1 q2 q3 q4)
        exact ⟨QQ.out.1, QQ.out.2.1, QQ.out.2.2⟩
      case done =>
        rintro D ys W hD hys ⟨hbld, hlow⟩ hK
        have hcat := cat_all ys cl hys
        have HS : Hid (Calls Tryd.prog 14 #[.pointer (some ⟨w.heap.size + 1, 0, none⟩)] W fun e W' => e = .returned (.string (ofL tt.text)) ∧ (Below w.heap.size w W' ∧ W'.heap[D]? = some (.deferred (some [])))) := by
          refine (string_k w.heap.size (w.heap.size + 1) _ W hbld hlow.size).mono ?_
          rintro e W' ⟨rfl, k1, k2, k3⟩
          refine ⟨by rw [TX2.out, hcat], hlow.trans k2, k3 D _ hK ?_ (fun c fz e => by cases e)⟩
          intro e
          obtain ⟨cb, hcb⟩ := bld_at hbld
          cases e
          rw [hK] at hcb
          cases hcb
        have HDD : Hid (w.heap.size ≤ D) := Nat.le_trans S4.out.low.size hD
        clear hbld hlow hK hys hcat
        gi_wp2_with (gi_at_call 14; go_loud (refine (up _ _ _ _ _ HS.out).mono ?_); rintro e w7 ⟨rfl, q1, q2⟩; have Q1 : Hid (Below w.heap.size w w7) := q1; have Q2 : Hid (w7.heap[D]? = some (.deferred (some []))) := q2; clear q1 q2)
        refine ⟨by simp, .inl ⟨_, _, rfl, run_takeDeferred Q2.out, ?_⟩⟩
        exact ⟨_, results_tmp rfl _ _ _, rfl, Q1.out.trans (belowK_b (w := w) (Nat.le_refl _) w7 D _ _ HDD.out Q2.out rfl rfl)⟩
      case stop =>
        rintro D c pre W _ _ h _
        exact h.elim
end Go.Proofs.YtdpmdonneoadbaaDoor
