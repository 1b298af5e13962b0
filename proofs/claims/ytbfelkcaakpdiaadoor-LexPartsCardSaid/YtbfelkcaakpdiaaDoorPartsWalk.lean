/-
  Proved: what the law LexParts answers where its text lexes, and where it does not; the text no longer than 3000 bytes, or cut to them.
-/
import Derived.Test.YtbfelkcaakpdiaaDoorMany
import Derived.Test.YtbfelkcaakpdiaaDoorOne
namespace Go.Proofs.YtbfelkcaakpdiaaDoor
open Go.RowKit
def litL : Bs := [97, 32, 60, 61, 32, 49, 50, 117, 56, 32, 47, 47, 32, 120]
theorem litL_eq : ({ data := #[97, 32, 60, 61, 32, 49, 50, 117, 56, 32, 47, 47, 32, 120] } : ByteArray) = ofL litL := rfl
theorem litL_lex : lex litL = ([(1, [97], 0), (4, [60, 61], 2), (2, [49, 50, 117, 56], 5)], 0, 0) := by kernel_rfl

theorem lex_lit (w : World) (ht : Tab w) :
    Calls Tryd.prog 8 #[.string (ofL litL)] w fun r w' => (∃ g cap, r = .returned (.tuple #[.slice (some ⟨g, 0, none⟩) 3 cap, .int .i64 0, .int .i64 0]) ∧ w'.cell? ⟨g, 4, none⟩ = some (.string (ofL [60, 61]))) ∧ Below w.heap.size w w' := by
  refine (lex_many litL_lex (by decide) w ht).mono ?_
  rintro r w' ⟨⟨a, cap, rfl, h⟩, hb⟩
  obtain ⟨g, rfl, hT⟩ := h (by decide)
  exact ⟨⟨g, cap, rfl, (hT.cell 1 _ rfl).2.1⟩, hb⟩

theorem wrapEq (x : Int) : IntKind.i64.wrap x = wrap64 x := by rw [IntKind.wrap_i64]; simp only [wrap64]

theorem extract_mid (l : Bs) (a b : Nat) : (ofL l).extract a b = ofL ((l.drop a).take (b - a)) := by
  apply ByteArray.ext
  simp [ofL, ByteArray.data_extract]

theorem tok_block {w w' : World} {cs : Array Value} (hw : Below (w.alloc (.cells cs 37)).heap.size (w.alloc (.cells cs 37)) w') : w'.heap[w.heap.size]? = some (.cells cs 37) := by
  rw [hw.block _ (by simp)]
  show (w.heap.push _)[w.heap.size]? = _
  rw [Array.getElem?_push, if_pos rfl]

theorem tok_block_drew {w w' : World} {cs : Array Value} {n : Nat} (hw : Below ((w.alloc (.cells cs 37)).drewN n).heap.size ((w.alloc (.cells cs 37)).drewN n) w') : w'.heap[w.heap.size]? = some (.cells cs 37) :=
  tok_block (w := w) (cs := cs) ⟨hw.os, hw.tape, hw.output, hw.size, hw.block⟩

set_option maxHeartbeats 2000000 in
set_option maxRecDepth 20000 in
theorem parts_okA (l : Bs) (ts : List Tok) (hl : l.length < 4611686018427387904) (hb : l.length ≤ 3000) (hlex : lex l = (ts, 0, 0)) (hG : Good l 0 ts) (hn : ts.length ≤ 65536) (w : World) (t : Tab w) :
    Calls Tryd.prog 4 #[.string (ofL l)] w fun e w' => e = .returned (.bool true) ∧ Below w.heap.size w w' := by
  have T : Hid (Tab w) := t
  have X : Hid (lex l = (ts, 0, 0)) := hlex
  have GG : Hid (Good l 0 ts) := hG
  have hlit := litL_eq
  have hz := ofL_size l
  have htl := ofL_toList
  clear t hlex hG
  go_enter Tryd.func4, Tryd.ntmps4
  go_wp2_with (first
      | (go_at_call 8; have W1' := W1; refine (lex_many X.out hl _ (T.out.below W1.out)).mono ?_; rintro r w2 ⟨⟨a2, c2, rfl, h2⟩, hb2⟩; have W2 : Hid (Below w.heap.size w w2) := below_next W1'.out hb2; have R2 : Hid (0 < ts.length → ∃ g, a2 = some ⟨g, 0, none⟩ ∧ TR w2 g ts) := h2; clear hb2 h2)
      | (go_at_call 8; refine (lex_lit _ T.out).mono ?_; rintro r w1 ⟨⟨g1, c1, rfl, gc1⟩, hb1⟩; have W1 : Hid (Below w.heap.size w w1) := hb1; clear hb1))
  clear hlit
  go_loopw [8, 9] (fun x y wr => ∃ e i : Nat, x = .int .i64 (e : Int) ∧ y = .int .i64 (i : Int) ∧ i ≤ ts.length ∧ e ≤ l.length ∧ Good l e (ts.drop i) ∧ Below w2.heap.size w2 wr) (fun _ y _ => ts.length - (intOf y).toNat)
  case atStart => exact ⟨0, 0, rfl, rfl, Nat.zero_le _, Nat.zero_le _, GG.out, Below.refl _ _⟩
  case round =>
    obtain ⟨e, i, rfl, rfl, hi, he, hg, hw⟩ := hrel
    have G : Hid (Good l e (ts.drop i)) := hg
    have W : Hid (Below w2.heap.size w2 wr) := hw
    have WW : Hid (Below w.heap.size w wr) := below_next W2.out hw
    clear hg hw
    by_cases hlt : i < ts.length
    · obtain ⟨g, rfl, hT⟩ := R2.out (by omega)
      have hT' := hT.below W.out
      obtain ⟨⟨kd, x, q⟩, hq⟩ : ∃ u, ts[i]? = some u := ⟨ts[i], List.getElem?_eq_getElem hlt⟩
      have hdrop : ts.drop i = (kd, x, q) :: ts.drop (i + 1) := by
        rw [List.drop_eq_getElem_cons hlt]
        have := List.getElem?_eq_getElem hlt
        rw [hq] at this
        rw [← Option.some.inj this]
      obtain ⟨k0, k1, k2⟩ := hT'.cell i _ hq
      have hG2 := G.out
      rw [hdrop] at hG2
      obtain ⟨g1', g2', g3', g4', g5', g6', g7'⟩ := hG2
      simp only at g1' g2' g3' g4' g5' g6' g7' k0 k1 k2
      have TX : Hid (TR w2 g ts) := hT
      have LX : Hid (lex x = ([(kd, x, 0)], 0, 0)) := g5'
      have GX : Hid (lex ((l.drop e).take (q - e)) = ([], 0, 0)) := g6'
      have NX : Hid (Good l (q + x.length) (ts.drop (i + 1))) := g7'
      have zx := ofL_size x
      have xe : (ofL l).extract q (q + x.length) = ofL x := by rw [extract_mid]; rw [show q + x.length - q = x.length by omega, g4']
      have ye : (ofL l).extract e q = ofL ((l.drop e).take (q - e)) := extract_mid l e q
      have yl : ((l.drop e).take (q - e)).length ≤ 3000 := by simp; omega
      generalize (l.drop e).take (q - e) = y at ye yl GX
      have x1 : ¬ (q : Int) < (e : Int) := by omega
      have x2 : ¬ (l.length : Int) < (q : Int) + (x.length : Int) := by omega
      have x3 : ¬ (x.length : Int) = 0 := by omega
      have x4 : ((x.length : Int) == 0) = false := by simpa using x3
      have y1 : decide (q < e) = false := by simp; omega
      have wq : IntKind.i64.wrap ((q : Int) + (x.length : Int)) = (q : Int) + (x.length : Int) := by
        rw [wrapEq]
        exact wrap64_of (by omega) (by omega)
      have y3 : decide (l.length < q + x.length) = false := by simp; omega
      have y2 : decide ((l.length : Int) < (q : Int) + (x.length : Int)) = false := by simpa using x2
      clear gc1 hT hT' hdrop hq g4' g5' g6' g7' R2
      go_wp2
      go_quiet (fail)
      go_wp2_with (go_at_call 8; refine (lex_one LX.out ?_ _ (T.out.below (below_drewN (below_next WW.out (below_alloc _ _)) _))).mono ?_; (focus omega); rintro r w4 ⟨⟨g4, c4, rfl, gl4, ga4, gb4, gc4⟩, hb4⟩; have M1 : Hid (Below wr.heap.size wr w4) := below_next (below_drewN (below_alloc _ _) _) hb4; obtain ⟨c0, c1', c2', z0, z1, z2⟩ := cells3 (tok_block_drew hb4); have GL4 : Hid (wr.heap.size < w4.heap.size) := (Array.getElem?_eq_some_iff.1 (tok_block_drew hb4)).1; clear hb4 gc4 z0 z1 z2)
      have t1 : ((kd : Int) == (kd : Int)) = true := by simp
      go_quiet (fail)
      go_wp2_with (go_at_call 8; refine (lex_none GX.out ?_ _ (T.out.below (below_drewN (WW.out.trans (M1.out.mono WW.out.size)) _))).mono ?_; (focus omega); rintro r w5 ⟨⟨a5, c5, rfl⟩, hb5⟩; have M2 : Hid (Below wr.heap.size wr w5) := below_next (below_drewN M1.out _) hb5; have d0 := (hb5.cell (p := ⟨wr.heap.size, 1, none⟩) GL4.out).trans c1'; have d1 := (hb5.cell (p := ⟨wr.heap.size, 2, none⟩) GL4.out).trans c2'; clear hb5)
      go_roundw
      case rel => exact ⟨q + x.length, i + 1, by go_num, by go_num, by omega, by omega, NX.out, W.out.trans (M2.out.mono W.out.size)⟩
      case measure => simp [intOf]; omega
    · have hs : i = ts.length := by omega
      subst hs
      have hG2 := G.out
      rw [List.drop_length] at hG2
      have GY : Hid (lex (l.drop e) = ([], 0, 0)) := hG2
      have ye := extract_drop l e
      have yl : (l.drop e).length ≤ 3000 := by simp; omega
      clear hG2
      generalize l.drop e = y at ye yl GY
      go_wp2_with (go_at_call 8; refine (lex_none GY.out ?_ _ (T.out.below WW.out)).mono ?_; (focus omega); rintro r w5 ⟨⟨a5, c5, rfl⟩, hb5⟩; have M2 : Hid (Below w.heap.size w w5) := below_next WW.out hb5; clear hb5)
      go_ret
      exact ⟨rfl, M2.out⟩

set_option maxHeartbeats 2000000 in
set_option maxRecDepth 20000 in
theorem parts_okB (mm l : Bs) (ts : List Tok) (hl : l.length < 4611686018427387904) (hb : l.length ≤ 3000) (hbig : 3000 < mm.length) (hmm : mm.length < 4611686018427387904) (hx3 : (ofL mm).extract 0 3000 = ofL l) (hlex : lex l = (ts, 0, 0)) (hG : Good l 0 ts) (hn : ts.length ≤ 65536) (w : World) (t : Tab w) :
    Calls Tryd.prog 4 #[.string (ofL mm)] w fun e w' => e = .returned (.bool true) ∧ Below w.heap.size w w' := by
  have T : Hid (Tab w) := t
  have X : Hid (lex l = (ts, 0, 0)) := hlex
  have GG : Hid (Good l 0 ts) := hG
  have hlit := litL_eq
  have hz := ofL_size l
  have hzm := ofL_size mm
  have htl := ofL_toList
  clear t hlex hG
  go_enter Tryd.func4, Tryd.ntmps4
  go_wp2_with (first
      | (go_at_call 8; have W1' := W1; refine (lex_many X.out hl _ (T.out.below W1.out)).mono ?_; rintro r w2 ⟨⟨a2, c2, rfl, h2⟩, hb2⟩; have W2 : Hid (Below w.heap.size w w2) := below_next W1'.out hb2; have R2 : Hid (0 < ts.length → ∃ g, a2 = some ⟨g, 0, none⟩ ∧ TR w2 g ts) := h2; clear hb2 h2)
      | (go_at_call 8; refine (lex_lit _ T.out).mono ?_; rintro r w1 ⟨⟨g1, c1, rfl, gc1⟩, hb1⟩; have W1 : Hid (Below w.heap.size w w1) := hb1; clear hb1))
  clear hlit
  go_loopw [8, 9] (fun x y wr => ∃ e i : Nat, x = .int .i64 (e : Int) ∧ y = .int .i64 (i : Int) ∧ i ≤ ts.length ∧ e ≤ l.length ∧ Good l e (ts.drop i) ∧ Below w2.heap.size w2 wr) (fun _ y _ => ts.length - (intOf y).toNat)
  case atStart => exact ⟨0, 0, rfl, rfl, Nat.zero_le _, Nat.zero_le _, GG.out, Below.refl _ _⟩
  case round =>
    obtain ⟨e, i, rfl, rfl, hi, he, hg, hw⟩ := hrel
    have G : Hid (Good l e (ts.drop i)) := hg
    have W : Hid (Below w2.heap.size w2 wr) := hw
    have WW : Hid (Below w.heap.size w wr) := below_next W2.out hw
    clear hg hw
    by_cases hlt : i < ts.length
    · obtain ⟨g, rfl, hT⟩ := R2.out (by omega)
      have hT' := hT.below W.out
      obtain ⟨⟨kd, x, q⟩, hq⟩ : ∃ u, ts[i]? = some u := ⟨ts[i], List.getElem?_eq_getElem hlt⟩
      have hdrop : ts.drop i = (kd, x, q) :: ts.drop (i + 1) := by
        rw [List.drop_eq_getElem_cons hlt]
        have := List.getElem?_eq_getElem hlt
        rw [hq] at this
        rw [← Option.some.inj this]
      obtain ⟨k0, k1, k2⟩ := hT'.cell i _ hq
      have hG2 := G.out
      rw [hdrop] at hG2
      obtain ⟨g1', g2', g3', g4', g5', g6', g7'⟩ := hG2
      simp only at g1' g2' g3' g4' g5' g6' g7' k0 k1 k2
      have TX : Hid (TR w2 g ts) := hT
      have LX : Hid (lex x = ([(kd, x, 0)], 0, 0)) := g5'
      have GX : Hid (lex ((l.drop e).take (q - e)) = ([], 0, 0)) := g6'
      have NX : Hid (Good l (q + x.length) (ts.drop (i + 1))) := g7'
      have zx := ofL_size x
      have xe : (ofL l).extract q (q + x.length) = ofL x := by rw [extract_mid]; rw [show q + x.length - q = x.length by omega, g4']
      have ye : (ofL l).extract e q = ofL ((l.drop e).take (q - e)) := extract_mid l e q
      have yl : ((l.drop e).take (q - e)).length ≤ 3000 := by simp; omega
      generalize (l.drop e).take (q - e) = y at ye yl GX
      have x1 : ¬ (q : Int) < (e : Int) := by omega
      have x2 : ¬ (l.length : Int) < (q : Int) + (x.length : Int) := by omega
      have x3 : ¬ (x.length : Int) = 0 := by omega
      have x4 : ((x.length : Int) == 0) = false := by simpa using x3
      have y1 : decide (q < e) = false := by simp; omega
      have wq : IntKind.i64.wrap ((q : Int) + (x.length : Int)) = (q : Int) + (x.length : Int) := by
        rw [wrapEq]
        exact wrap64_of (by omega) (by omega)
      have y3 : decide (l.length < q + x.length) = false := by simp; omega
      have y2 : decide ((l.length : Int) < (q : Int) + (x.length : Int)) = false := by simpa using x2
      clear gc1 hT hT' hdrop hq g4' g5' g6' g7' R2
      go_wp2
      go_quiet (fail)
      go_wp2_with (go_at_call 8; refine (lex_one LX.out ?_ _ (T.out.below (below_drewN (below_next WW.out (below_alloc _ _)) _))).mono ?_; (focus omega); rintro r w4 ⟨⟨g4, c4, rfl, gl4, ga4, gb4, gc4⟩, hb4⟩; have M1 : Hid (Below wr.heap.size wr w4) := below_next (below_drewN (below_alloc _ _) _) hb4; obtain ⟨c0, c1', c2', z0, z1, z2⟩ := cells3 (tok_block_drew hb4); have GL4 : Hid (wr.heap.size < w4.heap.size) := (Array.getElem?_eq_some_iff.1 (tok_block_drew hb4)).1; clear hb4 gc4 z0 z1 z2)
      have t1 : ((kd : Int) == (kd : Int)) = true := by simp
      go_quiet (fail)
      go_wp2_with (go_at_call 8; refine (lex_none GX.out ?_ _ (T.out.below (below_drewN (WW.out.trans (M1.out.mono WW.out.size)) _))).mono ?_; (focus omega); rintro r w5 ⟨⟨a5, c5, rfl⟩, hb5⟩; have M2 : Hid (Below wr.heap.size wr w5) := below_next (below_drewN M1.out _) hb5; have d0 := (hb5.cell (p := ⟨wr.heap.size, 1, none⟩) GL4.out).trans c1'; have d1 := (hb5.cell (p := ⟨wr.heap.size, 2, none⟩) GL4.out).trans c2'; clear hb5)
      go_roundw
      case rel => exact ⟨q + x.length, i + 1, by go_num, by go_num, by omega, by omega, NX.out, W.out.trans (M2.out.mono W.out.size)⟩
      case measure => simp [intOf]; omega
    · have hs : i = ts.length := by omega
      subst hs
      have hG2 := G.out
      rw [List.drop_length] at hG2
      have GY : Hid (lex (l.drop e) = ([], 0, 0)) := hG2
      have ye := extract_drop l e
      have yl : (l.drop e).length ≤ 3000 := by simp; omega
      clear hG2
      generalize l.drop e = y at ye yl GY
      go_wp2_with (go_at_call 8; refine (lex_none GY.out ?_ _ (T.out.below WW.out)).mono ?_; (focus omega); rintro r w5 ⟨⟨a5, c5, rfl⟩, hb5⟩; have M2 : Hid (Below w.heap.size w w5) := below_next WW.out hb5; clear hb5)
      go_ret
      exact ⟨rfl, M2.out⟩

set_option maxHeartbeats 1000000 in
set_option maxRecDepth 20000 in
theorem parts_errA (l : Bs) (p e : Nat) (hl : l.length < 4611686018427387904) (hb : l.length ≤ 3000) (hlex : lex l = ([], p, e)) (he : e ≠ 0) (hp : p < l.length) (w : World) (t : Tab w) :
    Calls Tryd.prog 4 #[.string (ofL l)] w fun e w' => e = .returned (.bool true) ∧ Below w.heap.size w w' := by
  have T : Hid (Tab w) := t
  have X : Hid (lex l = ([], p, e)) := hlex
  have e1 : ¬ (e : Int) = 0 := by omega
  have e2 : ((e : Int) == 0) = false := by simpa using e1
  have hlit := litL_eq
  have hz := ofL_size l
  have htl := ofL_toList
  clear t hlex
  go_enter Tryd.func4, Tryd.ntmps4
  go_wp2_with (first
      | (go_at_call 8; have W1' := W1; refine (lex_many X.out hl _ (T.out.below W1.out)).mono ?_; rintro r w2 ⟨⟨a2, c2, rfl, h2⟩, hb2⟩; have W2 : Hid (Below w.heap.size w w2) := below_next W1'.out hb2; clear hb2 h2)
      | (go_at_call 8; refine (lex_lit _ T.out).mono ?_; rintro r w1 ⟨⟨g1, c1, rfl, gc1⟩, hb1⟩; have W1 : Hid (Below w.heap.size w w1) := hb1; clear hb1))
  go_ret
  exact ⟨rfl, W2.out⟩

set_option maxHeartbeats 1000000 in
set_option maxRecDepth 20000 in
theorem parts_errB (mm l : Bs) (p e : Nat) (hl : l.length < 4611686018427387904) (_hb : l.length ≤ 3000) (hbig : 3000 < mm.length) (hmm : mm.length < 4611686018427387904) (hx3 : (ofL mm).extract 0 3000 = ofL l) (hlex : lex l = ([], p, e)) (he : e ≠ 0) (hp : p < l.length) (w : World) (t : Tab w) :
    Calls Tryd.prog 4 #[.string (ofL mm)] w fun e w' => e = .returned (.bool true) ∧ Below w.heap.size w w' := by
  have T : Hid (Tab w) := t
  have X : Hid (lex l = ([], p, e)) := hlex
  have e1 : ¬ (e : Int) = 0 := by omega
  have e2 : ((e : Int) == 0) = false := by simpa using e1
  have hlit := litL_eq
  have hz := ofL_size l
  have hzm := ofL_size mm
  have htl := ofL_toList
  clear t hlex
  go_enter Tryd.func4, Tryd.ntmps4
  go_wp2_with (first
      | (go_at_call 8; have W1' := W1; refine (lex_many X.out hl _ (T.out.below W1.out)).mono ?_; rintro r w2 ⟨⟨a2, c2, rfl, h2⟩, hb2⟩; have W2 : Hid (Below w.heap.size w w2) := below_next W1'.out hb2; clear hb2 h2)
      | (go_at_call 8; refine (lex_lit _ T.out).mono ?_; rintro r w1 ⟨⟨g1, c1, rfl, gc1⟩, hb1⟩; have W1 : Hid (Below w.heap.size w w1) := hb1; clear hb1))
  go_ret
  exact ⟨rfl, W2.out⟩

end Go.Proofs.YtbfelkcaakpdiaaDoor
