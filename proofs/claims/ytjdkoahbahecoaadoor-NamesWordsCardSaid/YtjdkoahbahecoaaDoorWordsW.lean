/-
  Proved: NamesWords answers true for all items.
-/
import Derived.Test.YtjdkoahbahecoaaDoorWordsP
namespace Go.Proofs.YtjdkoahbahecoaaDoor
open Go.RowKit

attribute [local go_sem ↓] fold38 foldS

/-- The rest of the item that the law makes. -/
def r0 : Rst := ⟨3, 2, ⟨#[]⟩, 0, none, 0, 0, 0, 0, 0, 0, ⟨#[]⟩, none, 0, 0, none, 0, 0, 0, ⟨#[]⟩, 0, none, 0, 0⟩

/-- A function main that answers a bool. -/
def m0 : Jt := ⟨1, mainS, 3, [], [], .mk 2 ⟨#[]⟩ 0 [], 0⟩

theorem m0_chk : chk [m0] = some (0, 42) := by decide +kernel

theorem m0_in (w : World) : JsIn (w.alloc (.cells (icells 1 mainS none 0 0 none 0 0 r0).toArray 36)) [m0] (some ⟨w.heap.size, 0, none⟩) := by
  refine ⟨by simp, fun i hi => ?_⟩
  have hi0 : i = 0 := by simpa using hi
  subst hi0
  refine ⟨_, _, icells 1 mainS none 0 0 none 0 0 r0, rfl, by rw [Nat.zero_mul]; exact at_row (At.new w (icells 1 mainS none 0 0 none 0 0 r0).toArray 36), none, 0, none, 0, r0, rfl, rfl, rfl, TIn.of (es := []) ⟨by simp, fun i hi => absurd hi (Nat.not_lt_zero _)⟩, ⟨by simp [m0], fun i hi => absurd hi (Nat.not_lt_zero _)⟩, ⟨by simp [m0], fun i hi => absurd hi (Nat.not_lt_zero _)⟩⟩

theorem main_list : (⟨#[109, 97, 105, 110]⟩ : ByteArray).toList = [109, 97, 105, 110] := by decide +kernel

theorem ne_main {s : ByteArray} (h : ¬ s = ⟨#[109, 97, 105, 110]⟩) : (¬ s.toList = [109, 97, 105, 110]) ∧ (s.toList == [109, 97, 105, 110]) = false := by
  have := str_ne h
  rw [main_list] at this
  exact this

theorem few_ps {js : List Jt} (h : (its js).length + ((its js).map cost).sum < 300) : js.length ≤ 300 ∧ ∀ j ∈ js, j.ps.length ≤ 300 := by
  rw [its_len] at h
  refine ⟨by omega, fun j hj => ?_⟩
  have : ∀ l : List Jt, j ∈ l → j.ps.length ≤ ((its l).map cost).sum := by
    intro l
    induction l with
    | nil => intro h; cases h
    | cons x l ih =>
      intro h
      simp only [its, List.map_cons, List.sum_cons] at ih ⊢
      rcases List.mem_cons.1 h with rfl | h
      · simp only [cost, Jt.it, List.length_map]
        omega
      · have := ih h
        omega
  have := this js hj
  omega


set_option maxRecDepth 100000 in
set_option maxHeartbeats 2000000 in
theorem words_walk (js : List Jt) (A : Option Addr) (C : Nat) (w : World) (hT : Tab w) (hS : Shp w) (hE : Eht w) (hi : JsIn w js A) (hz : SizJ js) :
    Calls Tryd.prog 3 #[.slice A js.length C] w fun e w' => e = .returned (.bool true) ∧ Below w.heap.size w w' := by
  have hlen := hi.1
  have FW : Hid (Calls Tryd.prog 5 #[.slice A js.length C] w fun e w' => e = .returned (.bool (decide ((its js).length + ((its js).map cost).sum < 300))) ∧ Below w.heap.size w w') := by
    have := few_c (its js) A C w hi.is hz.siz
    rw [its_len js] at this
    exact this.mono fun e w' h => ⟨by have h1 := h.1; unfold FewA at h1; rw [its_len js] at h1; rw [its_len js]; exact h1, h.2⟩
  by_cases hfw : (its js).length + ((its js).map cost).sum < 300
  · rw [decide_eq_true hfw] at FW
    obtain ⟨hl3, hps⟩ := few_ps hfw
    have CM : Hid (∀ w1, Below w.heap.size w w1 → Calls Tryd.prog 6 #[.slice (some ⟨w1.heap.size, 0, none⟩) 1 1] (w1.alloc (.cells (icells 1 ⟨#[109, 97, 105, 110]⟩ none 0 0 none 0 0 r0).toArray 36)) fun e w' => e = .returned (.tuple #[.int .i64 0, .int .i64 42]) ∧ Below w.heap.size w w') := fun w1 hw1 => by
      have hb := below_next hw1 (below_alloc w1 (.cells (icells 1 mainS none 0 0 none 0 0 r0).toArray 36))
      have := Check_c (some ⟨w1.heap.size, 0, none⟩) [m0] (by simp [m0]) 1 _ (hT.below hb) (hS.below hb) (hE.below hb) (m0_in w1)
      rw [m0_chk] at this
      exact this.mono fun e w' h => ⟨h.1, below_next hb h.2⟩
    have CL : Hid (∀ w1, Below w.heap.size w w1 → Calls Tryd.prog 6 #[.slice A js.length C] w1 fun e w' => e = .returned (chkV (chk js)) ∧ Below w.heap.size w w') := fun w1 hw1 =>
      (Check_c A js hps C w1 (hT.below hw1) (hS.below hw1) (hE.below hw1) (hi.below hw1)).mono fun e w' h => ⟨h.1, below_next hw1 h.2⟩
    simp only [icells, r0] at CM
    cases hX : chk js with
    | some ae =>
      obtain ⟨a, e⟩ := ae
      have he := chk_some hX
      have he' : (e == 0) = false := by simpa using he
      have he2 : (e != 0) = true := by simpa using he
      rw [hX] at CL
      simp only [chkV] at CL
      clear hT hS hE hi hz hX hps hfw
      go_enter Tryd.func3, Tryd.ntmps3
      go_wp2_with (first
        | (go_at_call 5; refine FW.out.mono ?_; rintro e w1 ⟨rfl, hb1⟩; have M1 : Hid (Below w.heap.size w w1) := hb1; clear hb1)
        | (go_at_call 6; have M2' := M2; refine (CL.out _ M2.out).mono ?_; rintro e w3 ⟨rfl, hb3⟩; have M3 : Hid (Below w.heap.size w w3) := hb3; clear hb3)
        | (go_at_call 6; refine (CM.out _ M1.out).mono ?_; rintro e w2 ⟨rfl, hb2⟩; have M2 : Hid (Below w.heap.size w w2) := hb2; clear hb2))
      go_ret
      exact ⟨rfl, M3.out⟩
    | none =>
      have hg := good_of hX
      rw [hX] at CL
      simp only [chkV] at CL
      have HG : Hid (Good js) := hg
      have HI : Hid (JsIn w js A) := hi
      have HT : Hid (Tab w) := hT
      clear hT hS hE hi hz hX hfw hg
      go_enter Tryd.func3, Tryd.ntmps3
      go_wp2_with (first
        | (go_at_call 5; refine FW.out.mono ?_; rintro e w1 ⟨rfl, hb1⟩; have M1 : Hid (Below w.heap.size w w1) := hb1; clear hb1)
        | (go_at_call 6; have M2' := M2; refine (CL.out _ M2.out).mono ?_; rintro e w3 ⟨rfl, hb3⟩; have M3 : Hid (Below w.heap.size w w3) := hb3; clear hb3)
        | (go_at_call 6; refine (CM.out _ M1.out).mono ?_; rintro e w2 ⟨rfl, hb2⟩; have M2 : Hid (Below w.heap.size w w2) := hb2; clear hb2))
      go_loopw [7, 8] (fun mv iv wr => ∃ i : Nat, i ≤ js.length ∧ iv = .int .i64 (i : Int) ∧ mv = .int .i64 (cntM (js.take i) : Int) ∧ Below w.heap.size w wr) (fun _ iv _ => js.length - (intOf iv).toNat)
      case atStart => exact ⟨0, Nat.zero_le _, rfl, rfl, M3.out⟩
      case round =>
        rename World => wi
        obtain ⟨i, hil, rfl, rfl, hbl⟩ := hrel
        have HB : Hid (Below w.heap.size w wi) := hbl
        clear hbl
        by_cases hlt : i < js.length
        · have hlt' : (i : Int) < (js.length : Int) := by omega
          obtain ⟨b, o, cs, hA, hrow, hj⟩ := HI.out.2 i hlt
          subst hA
          have ld := load20 hj.twenty (hrow.below HB.out)
          obtain ⟨W2, st, at2, bl2⟩ := store20 (At.new wi (icells 0 ⟨#[]⟩ none 0 0 none 0 0 zr).toArray 36) rfl hj.twenty
          simp only [icells, zr] at st
          have hB2 : Below w.heap.size w W2 := below_next HB.out (bl2 _ _ (below_alloc _ _) (Nat.le_refl _))
          have B2 : Hid (Below w.heap.size w W2) := hB2
          obtain ⟨P, PC, V, VC, tk, ts, tn, TA, tl, TC, _, e2, _, _, e4⟩ := hj.cel
          have HC : Hid (∀ w', Below W2.heap.size W2 w' → w'.cell? ⟨wi.heap.size, 0, none⟩ = some (.int .i64 (js[i]'hlt).k) ∧ w'.cell? ⟨wi.heap.size, 1, none⟩ = some (.string (js[i]'hlt).s) ∧ w'.cell? ⟨wi.heap.size, 3, none⟩ = some (.slice P (js[i]'hlt).ps.length PC)) := fun w' hw => by
            have c := e4 w' wi.heap.size (at2.below hw at2.lt)
            exact ⟨c.c0, c.c1, c.c3⟩
          have ZL : Hid (wi.heap.size < W2.heap.size) := at2.lt
          have WP : Hid (∀ q (hq : q < (js[i]'hlt).ps.length), ∃ pb po pk pn pm PA pl PC', ∃ N : Nat, P = some ⟨pb, po, none⟩ ∧ ((js[i]'hlt).k = 1 ∨ (js[i]'hlt).k = 2 → (∀ w', Below W2.heap.size W2 w' → (w'.cell? ⟨pb, po + q * 7 + 2, none⟩ = some (.int .i64 pk) ∧ w'.cell? ⟨pb, po + q * 7 + 2 + 1, none⟩ = some (.string pn) ∧ w'.cell? ⟨pb, po + q * 7 + 2 + 2, none⟩ = some (.int .i64 pm) ∧ w'.cell? ⟨pb, po + q * 7 + 2 + 3, none⟩ = some (.slice PA pl PC')) ∧ Calls Tryd.prog 7 #[.slice (some ⟨b, o, none⟩) js.length C, .agg #[.int .i64 pk, .string pn, .int .i64 pm, .slice PA pl PC']] w' fun e w'' => e = .returned (.tuple #[.int .i64 (N : Int), .bool true]) ∧ Below w'.heap.size w' w'') ∧ sumW (its js) ((js[i]'hlt).ps.take (q + 1)) = sumW (its js) ((js[i]'hlt).ps.take q) + N)) := fun q hq => by
            obtain ⟨pb, po, pcs, p1, p2, mu, ct, p3, p4⟩ := e2.2 q hq
            have key : ∀ w', Below w.heap.size w w' → Calls Tryd.prog 7 #[.slice (some ⟨b, o, none⟩) js.length C, .agg ct.toArray] w' fun e w'' => e = .returned (wrdV (wrd (its js) (js[i]'hlt).ps[q].t)) ∧ Below w'.heap.size w' w'' := fun w' hw => by
              have := words_c (its js) (js[i]'hlt).ps[q].t ct (some ⟨b, o, none⟩) C w' (HT.out.below hw) (HI.out.is.below hw) (p4.stays hw)
              rw [its_len] at this
              exact this
            have hsn := sumW_snoc (its js) (js[i]'hlt).ps q hq
            have hsome := fun hk => HG.out.words i hlt hk _ (List.getElem_mem hq)
            have hwd : wds (its js) (js[i]'hlt).ps[q].t = (wrd (its js) (js[i]'hlt).ps[q].t).getD 0 := rfl
            rw [hwd] at hsn
            generalize wrd (its js) (js[i]'hlt).ps[q].t = R at key hsn hsome
            generalize (js[i]'hlt).ps[q] = p at p3 p4
            obtain ⟨s, t, a⟩ := p
            obtain ⟨pk, pn, pm, pes⟩ := t
            obtain ⟨PA, PC', rfl, _⟩ := p4.inv
            subst p3
            refine ⟨pb, po, pk, pn, pm, PA, pes.length, PC', R.getD 0, p1, fun hk => ⟨fun w' hw => ?_, hsn⟩⟩
            have hw' := below_next hB2 hw
            have hr := (p2.below hw').2
            obtain ⟨N, rfl⟩ := Option.isSome_iff_exists.1 (hsome hk)
            exact ⟨⟨hr 2 _ rfl, hr 3 _ rfl, hr 4 _ rfl, hr 5 _ rfl⟩, key w' hw'⟩
          have SL : Hid (∀ q, q ≤ (js[i]'hlt).ps.length → sumW (its js) ((js[i]'hlt).ps.take q) ≤ 40000) := fun q hq => by
            have h1 := sumW_le (its js) ((js[i]'hlt).ps.take q)
            rw [List.length_take] at h1
            have h2 := hps _ (List.getElem_mem hlt)
            omega
          have NMS : Hid (∀ q, q < js.length → i + 1 ≤ q → ∃ nm : ByteArray, ¬ nm = (js[i]'hlt).s ∧ ∀ w', Below W2.heap.size W2 w' → w'.cell? ⟨b, o + q * 20 + 1, none⟩ = some (.string nm)) := fun q hq hiq => by
            obtain ⟨b', o', cs', q1, q2, q3⟩ := HI.out.2 q hq
            simp only [Option.some.injEq, Addr.mk.injEq, and_true] at q1
            obtain ⟨rfl, rfl⟩ := q1
            obtain ⟨P', C', V', D', r', rfl, _⟩ := q3
            exact ⟨(js[q]'hq).s, HG.out.apart i hlt q hq (by omega), fun w' hw => ((q2.below (below_next hB2 hw)).2 1 _ rfl)⟩
          have TK : Hid (∀ w', Calls Tryd.prog 8 #[.string (js[i]'hlt).s] w' fun e w'' => e = .returned (.bool false) ∧ Below w'.heap.size w' w'') := fun w' => by
            have := taken_c (js[i]'hlt).s w'
            rw [HG.out.own i hlt] at this
            exact this
          have CN : Hid (cntM (js.take (i + 1)) = cntM (js.take i) + (if (js[i]'hlt).k = 1 ∧ (js[i]'hlt).s = mainS then 1 else 0)) := cntM_snoc js i hlt
          have cle : cntM (js.take i) ≤ 300 := by
            have h1 := cntM_le (js.take i)
            rw [List.length_take] at h1
            omega
          have hkind := HG.out.kind i hlt
          have HP : Hid ((js[i]'hlt).k = 1 → sumW (its js) (js[i]'hlt).ps ≤ 8) := HG.out.pass i hlt
          have HST : Hid ((js[i]'hlt).k = 2 → sumW (its js) (js[i]'hlt).ps ≤ 128) := HG.out.struct i hlt
          have hpl : (js[i]'hlt).ps.length ≤ 300 := hps _ (List.getElem_mem hlt)
          generalize (js[i]'hlt) = j at HC WP SL NMS TK CN hkind HP HST hpl
          obtain ⟨kk, s, a, ps, vs, t, n⟩ := j
          simp only at HC WP SL NMS TK CN hkind HP HST hpl
          generalize cntM (js.take i) = cm at CN cle ⊢
          generalize (Value.agg cs.toArray) = VI at ld st
          clear hrow hj at2 bl2 e2 e4 hB2 hps
          by_cases h1 : kk = 1
          · subst h1
            have SLB := HP.out rfl
            by_cases hm : s = mainS
            · subst hm
              unfold mainS at HC TK NMS
              go_wp2
              go_loopw [10, 11] (fun sv qv wz => ∃ q : Nat, q ≤ ps.length ∧ qv = .int .i64 (q : Int) ∧ sv = .int .i64 (sumW (its js) (ps.take q) : Int) ∧ Hid (Below W2.heap.size W2 wz)) (fun _ qv _ => ps.length - (intOf qv).toNat)
              case atStart => exact ⟨0, Nat.zero_le _, rfl, rfl, Below.refl _ _⟩
              case round =>
                rename World => wz
                obtain ⟨q, hql, rfl, rfl, HZ⟩ := hrel
                have sl := SL.out q hql
                by_cases hq : q < ps.length
                · have hq' : (q : Int) < (ps.length : Int) := by omega
                  obtain ⟨pb, po, pk, pn, pm, PA, pl2, PC2, N, hP, hrw0⟩ := WP.out q hq
                  subst hP
                  obtain ⟨hrw, hsn⟩ := hrw0 (by simp)
                  have hr := (hrw wz HZ.out).1
                  have PW : Hid (Calls Tryd.prog 7 #[.slice (some ⟨b, o, none⟩) js.length C, .agg #[.int .i64 pk, .string pn, .int .i64 pm, .slice PA pl2 PC2]] wz fun e w'' => e = .returned (.tuple #[.int .i64 (N : Int), .bool true]) ∧ Below wz.heap.size wz w'') := (hrw wz HZ.out).2
                  obtain ⟨d2, d3, d4, d5⟩ := hr
                  have HN : Hid (sumW (its js) (ps.take (q + 1)) = sumW (its js) (ps.take q) + N) := hsn
                  have sl2 := SL.out (q + 1) (by omega)
                  rw [HN.out] at sl2
                  generalize sumW (its js) (ps.take q) = S at sl sl2 HN ⊢
                  obtain ⟨g0, g1, g3⟩ := HC.out wz HZ.out
                  have hz2 : wi.heap.size < wz.heap.size := Nat.lt_of_lt_of_le ZL.out HZ.out.size
                  clear hrw hsn
                  go_wp2_with (go_at_call 7; refine PW.out.mono ?_; rintro e w4 ⟨rfl, hb4⟩; have H4 : Hid (Below W2.heap.size W2 w4) := below_next HZ.out hb4; clear hb4)
                  go_roundw
                  case rel => exact ⟨q + 1, by omega, by go_num, by rw [HN.out]; go_num, H4.out⟩
                  case measure => simp [intOf]; omega
                · obtain rfl : q = ps.length := by omega
                  have sall : sumW (its js) (ps.take ps.length) = sumW (its js) ps := by rw [List.take_length]
                  rw [sall] at sl ⊢
                  generalize sumW (its js) ps = S at sl SLB ⊢
                  have sle := SLB
                  have hz2 : wi.heap.size < wz.heap.size := Nat.lt_of_lt_of_le ZL.out HZ.out.size
                  obtain ⟨g0, g1, g3⟩ := HC.out wz HZ.out
                  go_wp2_with (go_at_call 8; refine (TK.out wz).mono ?_; rintro e w5 ⟨rfl, hb5⟩; have H5 : Hid (Below W2.heap.size W2 w5) := below_next HZ.out hb5; obtain ⟨f0, f1, f3⟩ := HC.out w5 H5.out; have hz5 : wi.heap.size < w5.heap.size := Nat.lt_of_lt_of_le ZL.out H5.out.size; clear hb5)
                  go_loopw [14] (fun kv wy => ∃ q2 : Nat, i + 1 ≤ q2 ∧ q2 ≤ js.length ∧ kv = .int .i64 (q2 : Int) ∧ Hid (Below W2.heap.size W2 wy)) (fun kv _ => js.length - (intOf kv).toNat)
                  case atStart => exact ⟨i + 1, Nat.le_refl _, by omega, by go_num, H5.out⟩
                  case round =>
                    obtain ⟨q2, hq21, hq22, rfl, HY⟩ := hrel
                    obtain ⟨e0, e1, e3⟩ := HC.out wr HY.out
                    have hzy : wi.heap.size < wr.heap.size := Nat.lt_of_lt_of_le ZL.out HY.out.size
                    by_cases hl2 : q2 < js.length
                    · have hl2' : (q2 : Int) < (js.length : Int) := by omega
                      obtain ⟨nm, hnm1, hnm2⟩ := NMS.out q2 hl2 hq21
                      have c1q := hnm2 wr HY.out
                      obtain ⟨n1, n2⟩ := ne_main hnm1
                      clear hnm2
                      go_wp2
                      go_quiet (fail)
                      go_wp2
                      go_roundw
                      case rel => exact ⟨q2 + 1, by omega, by omega, by go_num, drew_below (w := W2) HY.out _⟩
                      case measure => simp [intOf]; omega
                    · obtain rfl : q2 = js.length := by omega
                      go_wp2
                      go_roundw
                      case rel => exact ⟨i + 1, by omega, by go_num, by rw [CN.out]; rw [if_pos (by simp)]; go_num, below_next B2.out HY.out⟩
                      case measure => simp [intOf]; omega
            · have NM : Hid (¬ s = mainS) := hm
              obtain ⟨hm1, hm2⟩ := ne_main hm
              clear hm
              go_wp2
              go_loopw [10, 11] (fun sv qv wz => ∃ q : Nat, q ≤ ps.length ∧ qv = .int .i64 (q : Int) ∧ sv = .int .i64 (sumW (its js) (ps.take q) : Int) ∧ Hid (Below W2.heap.size W2 wz)) (fun _ qv _ => ps.length - (intOf qv).toNat)
              case atStart => exact ⟨0, Nat.zero_le _, rfl, rfl, Below.refl _ _⟩
              case round =>
                rename World => wz
                obtain ⟨q, hql, rfl, rfl, HZ⟩ := hrel
                have sl := SL.out q hql
                by_cases hq : q < ps.length
                · have hq' : (q : Int) < (ps.length : Int) := by omega
                  obtain ⟨pb, po, pk, pn, pm, PA, pl2, PC2, N, hP, hrw0⟩ := WP.out q hq
                  subst hP
                  obtain ⟨hrw, hsn⟩ := hrw0 (by simp)
                  have hr := (hrw wz HZ.out).1
                  have PW : Hid (Calls Tryd.prog 7 #[.slice (some ⟨b, o, none⟩) js.length C, .agg #[.int .i64 pk, .string pn, .int .i64 pm, .slice PA pl2 PC2]] wz fun e w'' => e = .returned (.tuple #[.int .i64 (N : Int), .bool true]) ∧ Below wz.heap.size wz w'') := (hrw wz HZ.out).2
                  obtain ⟨d2, d3, d4, d5⟩ := hr
                  have HN : Hid (sumW (its js) (ps.take (q + 1)) = sumW (its js) (ps.take q) + N) := hsn
                  have sl2 := SL.out (q + 1) (by omega)
                  rw [HN.out] at sl2
                  generalize sumW (its js) (ps.take q) = S at sl sl2 HN ⊢
                  obtain ⟨g0, g1, g3⟩ := HC.out wz HZ.out
                  have hz2 : wi.heap.size < wz.heap.size := Nat.lt_of_lt_of_le ZL.out HZ.out.size
                  clear hrw hsn
                  go_wp2_with (go_at_call 7; refine PW.out.mono ?_; rintro e w4 ⟨rfl, hb4⟩; have H4 : Hid (Below W2.heap.size W2 w4) := below_next HZ.out hb4; clear hb4)
                  go_roundw
                  case rel => exact ⟨q + 1, by omega, by go_num, by rw [HN.out]; go_num, H4.out⟩
                  case measure => simp [intOf]; omega
                · obtain rfl : q = ps.length := by omega
                  have sall : sumW (its js) (ps.take ps.length) = sumW (its js) ps := by rw [List.take_length]
                  rw [sall] at sl ⊢
                  generalize sumW (its js) ps = S at sl SLB ⊢
                  have sle := SLB
                  have hz2 : wi.heap.size < wz.heap.size := Nat.lt_of_lt_of_le ZL.out HZ.out.size
                  obtain ⟨g0, g1, g3⟩ := HC.out wz HZ.out
                  go_wp2_with (go_at_call 8; refine (TK.out wz).mono ?_; rintro e w5 ⟨rfl, hb5⟩; have H5 : Hid (Below W2.heap.size W2 w5) := below_next HZ.out hb5; obtain ⟨f0, f1, f3⟩ := HC.out w5 H5.out; have hz5 : wi.heap.size < w5.heap.size := Nat.lt_of_lt_of_le ZL.out H5.out.size; clear hb5)
                  go_loopw [14] (fun kv wy => ∃ q2 : Nat, i + 1 ≤ q2 ∧ q2 ≤ js.length ∧ kv = .int .i64 (q2 : Int) ∧ Hid (Below W2.heap.size W2 wy)) (fun kv _ => js.length - (intOf kv).toNat)
                  case atStart => exact ⟨i + 1, Nat.le_refl _, by omega, by go_num, H5.out⟩
                  case round =>
                    obtain ⟨q2, hq21, hq22, rfl, HY⟩ := hrel
                    obtain ⟨e0, e1, e3⟩ := HC.out wr HY.out
                    have hzy : wi.heap.size < wr.heap.size := Nat.lt_of_lt_of_le ZL.out HY.out.size
                    by_cases hl2 : q2 < js.length
                    · have hl2' : (q2 : Int) < (js.length : Int) := by omega
                      obtain ⟨nm, hnm1, hnm2⟩ := NMS.out q2 hl2 hq21
                      have c1q := hnm2 wr HY.out
                      obtain ⟨n1, n2⟩ := str_ne hnm1
                      clear hnm2
                      go_wp2
                      go_quiet (fail)
                      go_wp2
                      go_roundw
                      case rel => exact ⟨q2 + 1, by omega, by omega, by go_num, drew_below (w := W2) HY.out _⟩
                      case measure => simp [intOf]; omega
                    · obtain rfl : q2 = js.length := by omega
                      go_wp2
                      go_roundw
                      case rel => exact ⟨i + 1, by omega, by go_num, by rw [CN.out]; rw [if_neg (fun h => NM.out h.2)]; go_num, below_next B2.out HY.out⟩
                      case measure => simp [intOf]; omega
          · by_cases h2 : kk = 2
            · subst h2
              have SLB := HST.out rfl
              go_wp2
              go_loopw [10, 11] (fun sv qv wz => ∃ q : Nat, q ≤ ps.length ∧ qv = .int .i64 (q : Int) ∧ sv = .int .i64 (sumW (its js) (ps.take q) : Int) ∧ Hid (Below W2.heap.size W2 wz)) (fun _ qv _ => ps.length - (intOf qv).toNat)
              case atStart => exact ⟨0, Nat.zero_le _, rfl, rfl, Below.refl _ _⟩
              case round =>
                rename World => wz
                obtain ⟨q, hql, rfl, rfl, HZ⟩ := hrel
                have sl := SL.out q hql
                by_cases hq : q < ps.length
                · have hq' : (q : Int) < (ps.length : Int) := by omega
                  obtain ⟨pb, po, pk, pn, pm, PA, pl2, PC2, N, hP, hrw0⟩ := WP.out q hq
                  subst hP
                  obtain ⟨hrw, hsn⟩ := hrw0 (by simp)
                  have hr := (hrw wz HZ.out).1
                  have PW : Hid (Calls Tryd.prog 7 #[.slice (some ⟨b, o, none⟩) js.length C, .agg #[.int .i64 pk, .string pn, .int .i64 pm, .slice PA pl2 PC2]] wz fun e w'' => e = .returned (.tuple #[.int .i64 (N : Int), .bool true]) ∧ Below wz.heap.size wz w'') := (hrw wz HZ.out).2
                  obtain ⟨d2, d3, d4, d5⟩ := hr
                  have HN : Hid (sumW (its js) (ps.take (q + 1)) = sumW (its js) (ps.take q) + N) := hsn
                  have sl2 := SL.out (q + 1) (by omega)
                  rw [HN.out] at sl2
                  generalize sumW (its js) (ps.take q) = S at sl sl2 HN ⊢
                  obtain ⟨g0, g1, g3⟩ := HC.out wz HZ.out
                  have hz2 : wi.heap.size < wz.heap.size := Nat.lt_of_lt_of_le ZL.out HZ.out.size
                  clear hrw hsn
                  go_wp2_with (go_at_call 7; refine PW.out.mono ?_; rintro e w4 ⟨rfl, hb4⟩; have H4 : Hid (Below W2.heap.size W2 w4) := below_next HZ.out hb4; clear hb4)
                  go_roundw
                  case rel => exact ⟨q + 1, by omega, by go_num, by rw [HN.out]; go_num, H4.out⟩
                  case measure => simp [intOf]; omega
                · obtain rfl : q = ps.length := by omega
                  have sall : sumW (its js) (ps.take ps.length) = sumW (its js) ps := by rw [List.take_length]
                  rw [sall] at sl ⊢
                  generalize sumW (its js) ps = S at sl SLB ⊢
                  have sle := SLB
                  have hz2 : wi.heap.size < wz.heap.size := Nat.lt_of_lt_of_le ZL.out HZ.out.size
                  obtain ⟨g0, g1, g3⟩ := HC.out wz HZ.out
                  go_wp2_with (go_at_call 8; refine (TK.out wz).mono ?_; rintro e w5 ⟨rfl, hb5⟩; have H5 : Hid (Below W2.heap.size W2 w5) := below_next HZ.out hb5; obtain ⟨f0, f1, f3⟩ := HC.out w5 H5.out; have hz5 : wi.heap.size < w5.heap.size := Nat.lt_of_lt_of_le ZL.out H5.out.size; clear hb5)
                  go_loopw [14] (fun kv wy => ∃ q2 : Nat, i + 1 ≤ q2 ∧ q2 ≤ js.length ∧ kv = .int .i64 (q2 : Int) ∧ Hid (Below W2.heap.size W2 wy)) (fun kv _ => js.length - (intOf kv).toNat)
                  case atStart => exact ⟨i + 1, Nat.le_refl _, by omega, by go_num, H5.out⟩
                  case round =>
                    obtain ⟨q2, hq21, hq22, rfl, HY⟩ := hrel
                    obtain ⟨e0, e1, e3⟩ := HC.out wr HY.out
                    have hzy : wi.heap.size < wr.heap.size := Nat.lt_of_lt_of_le ZL.out HY.out.size
                    by_cases hl2 : q2 < js.length
                    · have hl2' : (q2 : Int) < (js.length : Int) := by omega
                      obtain ⟨nm, hnm1, hnm2⟩ := NMS.out q2 hl2 hq21
                      have c1q := hnm2 wr HY.out
                      obtain ⟨n1, n2⟩ := str_ne hnm1
                      clear hnm2
                      go_wp2
                      go_quiet (fail)
                      go_wp2
                      go_roundw
                      case rel => exact ⟨q2 + 1, by omega, by omega, by go_num, drew_below (w := W2) HY.out _⟩
                      case measure => simp [intOf]; omega
                    · obtain rfl : q2 = js.length := by omega
                      go_wp2
                      go_roundw
                      case rel => exact ⟨i + 1, by omega, by go_num, by rw [CN.out]; rw [if_neg (by simp)]; go_num, below_next B2.out HY.out⟩
                      case measure => simp [intOf]; omega
            · have hk2 : ¬ kk ≤ 2 := by omega
              have g1 : (kk == 1) = false := by simpa using h1
              have g2 : (kk == 2) = false := by simpa using h2
              have NK : Hid (¬ kk = 1) := h1
              go_wp2
              go_loopw [10, 11] (fun sv qv wz => ∃ q : Nat, q ≤ ps.length ∧ q = 0 ∧ qv = .int .i64 (q : Int) ∧ sv = .int .i64 (sumW (its js) (ps.take q) : Int) ∧ Hid (Below W2.heap.size W2 wz)) (fun _ qv _ => ps.length - (intOf qv).toNat)
              case atStart => exact ⟨0, Nat.zero_le _, rfl, rfl, rfl, Below.refl _ _⟩
              case round =>
                rename World => wz
                obtain ⟨q, hql, hq0, rfl, rfl, HZ⟩ := hrel
                have sl := SL.out q hql
                subst hq0
                have SLB : True := trivial
                by_cases hq : 0 < ps.length
                · have hq' : ((0 : Nat) : Int) < (ps.length : Int) := by omega
                  have sle := SLB
                  have hz2 : wi.heap.size < wz.heap.size := Nat.lt_of_lt_of_le ZL.out HZ.out.size
                  obtain ⟨g0, g1, g3⟩ := HC.out wz HZ.out
                  go_wp2_with (go_at_call 8; refine (TK.out wz).mono ?_; rintro e w5 ⟨rfl, hb5⟩; have H5 : Hid (Below W2.heap.size W2 w5) := below_next HZ.out hb5; obtain ⟨f0, f1, f3⟩ := HC.out w5 H5.out; have hz5 : wi.heap.size < w5.heap.size := Nat.lt_of_lt_of_le ZL.out H5.out.size; clear hb5)
                  go_loopw [14] (fun kv wy => ∃ q2 : Nat, i + 1 ≤ q2 ∧ q2 ≤ js.length ∧ kv = .int .i64 (q2 : Int) ∧ Hid (Below W2.heap.size W2 wy)) (fun kv _ => js.length - (intOf kv).toNat)
                  case atStart => exact ⟨i + 1, Nat.le_refl _, by omega, by go_num, H5.out⟩
                  case round =>
                    obtain ⟨q2, hq21, hq22, rfl, HY⟩ := hrel
                    obtain ⟨e0, e1, e3⟩ := HC.out wr HY.out
                    have hzy : wi.heap.size < wr.heap.size := Nat.lt_of_lt_of_le ZL.out HY.out.size
                    by_cases hl2 : q2 < js.length
                    · have hl2' : (q2 : Int) < (js.length : Int) := by omega
                      obtain ⟨nm, hnm1, hnm2⟩ := NMS.out q2 hl2 hq21
                      have c1q := hnm2 wr HY.out
                      obtain ⟨n1, n2⟩ := str_ne hnm1
                      clear hnm2
                      go_wp2
                      go_quiet (fail)
                      go_wp2
                      go_roundw
                      case rel => exact ⟨q2 + 1, by omega, by omega, by go_num, drew_below (w := W2) HY.out _⟩
                      case measure => simp [intOf]; omega
                    · obtain rfl : q2 = js.length := by omega
                      go_wp2
                      go_roundw
                      case rel => exact ⟨i + 1, by omega, by go_num, by rw [CN.out]; rw [if_neg (fun h => NK.out h.1)]; go_num, below_next B2.out HY.out⟩
                      case measure => simp [intOf]; omega
                · have hq' : ¬ ((0 : Nat) : Int) < (ps.length : Int) := by omega
                  have sle := SLB
                  have hz2 : wi.heap.size < wz.heap.size := Nat.lt_of_lt_of_le ZL.out HZ.out.size
                  obtain ⟨g0, g1, g3⟩ := HC.out wz HZ.out
                  go_wp2_with (go_at_call 8; refine (TK.out wz).mono ?_; rintro e w5 ⟨rfl, hb5⟩; have H5 : Hid (Below W2.heap.size W2 w5) := below_next HZ.out hb5; obtain ⟨f0, f1, f3⟩ := HC.out w5 H5.out; have hz5 : wi.heap.size < w5.heap.size := Nat.lt_of_lt_of_le ZL.out H5.out.size; clear hb5)
                  go_loopw [14] (fun kv wy => ∃ q2 : Nat, i + 1 ≤ q2 ∧ q2 ≤ js.length ∧ kv = .int .i64 (q2 : Int) ∧ Hid (Below W2.heap.size W2 wy)) (fun kv _ => js.length - (intOf kv).toNat)
                  case atStart => exact ⟨i + 1, Nat.le_refl _, by omega, by go_num, H5.out⟩
                  case round =>
                    obtain ⟨q2, hq21, hq22, rfl, HY⟩ := hrel
                    obtain ⟨e0, e1, e3⟩ := HC.out wr HY.out
                    have hzy : wi.heap.size < wr.heap.size := Nat.lt_of_lt_of_le ZL.out HY.out.size
                    by_cases hl2 : q2 < js.length
                    · have hl2' : (q2 : Int) < (js.length : Int) := by omega
                      obtain ⟨nm, hnm1, hnm2⟩ := NMS.out q2 hl2 hq21
                      have c1q := hnm2 wr HY.out
                      obtain ⟨n1, n2⟩ := str_ne hnm1
                      clear hnm2
                      go_wp2
                      go_quiet (fail)
                      go_wp2
                      go_roundw
                      case rel => exact ⟨q2 + 1, by omega, by omega, by go_num, drew_below (w := W2) HY.out _⟩
                      case measure => simp [intOf]; omega
                    · obtain rfl : q2 = js.length := by omega
                      go_wp2
                      go_roundw
                      case rel => exact ⟨i + 1, by omega, by go_num, by rw [CN.out]; rw [if_neg (fun h => NK.out h.1)]; go_num, below_next B2.out HY.out⟩
                      case measure => simp [intOf]; omega
        · obtain rfl : i = js.length := by omega
          have hc1 : cntM (js.take js.length) = 1 := by rw [List.take_length]; exact cntM_one HG.out
          rw [hc1]
          go_wp2
          go_ret
          exact ⟨rfl, HB.out⟩
  · rw [decide_eq_false hfw] at FW
    clear hT hS hE hi hz hfw
    go_enter Tryd.func3, Tryd.ntmps3
    go_wp2_with (go_at_call 5; refine FW.out.mono ?_; rintro e w1 ⟨rfl, hb1⟩; have M1 : Hid (Below w.heap.size w w1) := hb1; clear hb1)
    go_ret
    exact ⟨rfl, M1.out⟩

end Go.Proofs.YtjdkoahbahecoaaDoor
