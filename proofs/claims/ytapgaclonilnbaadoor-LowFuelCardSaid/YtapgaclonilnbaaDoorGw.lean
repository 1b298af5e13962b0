/-
  Proved: the program that LowFuel begins with lies in memory; how its run ends.
-/
import Derived.Test.YtapgaclonilnbaaDoorGv
import Derived.Test.YtapgaclonilnbaaDoorGt
namespace Go.Proofs.YtapgaclonilnbaaDoor
open Go.RowKit
set_option linter.unusedVariables false
set_option linter.unusedSimpArgs false

def litF : List Lf := [⟨mainT, 1, [], 0, 0, false, [⟨[⟨1, 0, 0, 0, -1, ⟨#[]⟩, [], []⟩, ⟨8, 0, 0, 0, 1, ⟨#[]⟩, [], []⟩], ⟨4, 0, 0, 0, 0, ⟨#[]⟩, []⟩⟩]⟩]

theorem lit_run : runE litF [] 5 = ((1, 101), [4294967295], 3) := by decide +kernel

theorem At.row {w : World} {b : Nat} {cs : Array Value} {t : TypeId} (h : At w b cs t) (o : Nat) (ds : List Value) (e : ∀ j v, ds[j]? = some v → cs[o + j]? = some v) : RowAt w b o ds :=
  ⟨h.lt, fun j v q => by rw [h.cell]; exact e j v q⟩

theorem nos_nil (w : World) : NosIn w [] (.slice none 0 0) := ⟨by simp, none, 0, rfl, fun i hi => absurd hi (by simp)⟩

def losC : Array Value := #[.int .i64 1, .int .i64 0, .int .i64 0, .int .i64 0, .int .i64 (-1), .string ⟨#[]⟩, .slice none 0 0, .slice none 0 0, .int .i64 8, .int .i64 0, .int .i64 0, .int .i64 0, .int .i64 1, .string ⟨#[]⟩, .slice none 0 0, .slice none 0 0]
def lbsC (b : Nat) : Array Value := #[.slice (some ⟨b, 0, none⟩) 2 2, .int .i64 4, .int .i64 0, .int .i64 0, .int .i64 0, .int .i64 0, .string ⟨#[]⟩, .slice none 0 0]
def lfsC (b : Nat) : Array Value := #[.string mainT, .int .i64 1, .slice none 0 0, .int .i64 0, .int .i64 0, .bool false, .slice (some ⟨b, 0, none⟩) 1 1]

theorem lit_in {w : World} {b1 b2 b3 : Nat} {t1 t2 t3 : TypeId} (h1 : At w b1 losC t1) (h2 : At w b2 (lbsC b1) t2) (h3 : At w b3 (lfsC b2) t3) : LfsIn w litF (.slice (some ⟨b3, 0, none⟩) litF.length 1) := by
  have L1 : LiIn w [⟨1, 0, 0, 0, -1, ⟨#[]⟩, [], []⟩, ⟨8, 0, 0, 0, 1, ⟨#[]⟩, [], []⟩] (.slice (some ⟨b1, 0, none⟩) 2 2) := by
    refine ⟨by simp, _, _, rfl, fun i hi => ?_⟩
    have hi : i < 2 := hi
    rcases i with _ | _ | i
    · refine ⟨b1, 0, loC ⟨1, 0, 0, 0, -1, ⟨#[]⟩, [], []⟩ (.slice none 0 0) (.slice none 0 0), rfl, h1.row _ _ fun j v e => ?_, _, _, rfl, (show (⟨#[]⟩ : ByteArray).size ≤ maxLen by decide), nos_nil w, nos_nil w⟩
      rcases j with _ | _ | _ | _ | _ | _ | _ | _ | j
      all_goals first | exact e | (simp [loC] at e)
    · refine ⟨b1, 0, loC ⟨8, 0, 0, 0, 1, ⟨#[]⟩, [], []⟩ (.slice none 0 0) (.slice none 0 0), rfl, h1.row _ _ fun j v e => ?_, _, _, rfl, (show (⟨#[]⟩ : ByteArray).size ≤ maxLen by decide), nos_nil w, nos_nil w⟩
      rcases j with _ | _ | _ | _ | _ | _ | _ | _ | j
      all_goals first | exact e | (simp [loC] at e)
    · omega
  have L2 : LbsIn w [⟨[⟨1, 0, 0, 0, -1, ⟨#[]⟩, [], []⟩, ⟨8, 0, 0, 0, 1, ⟨#[]⟩, [], []⟩], ⟨4, 0, 0, 0, 0, ⟨#[]⟩, []⟩⟩] (.slice (some ⟨b2, 0, none⟩) 1 1) := by
    refine ⟨by simp, _, _, rfl, fun i hi => ?_⟩
    have hi : i < 1 := hi
    obtain rfl : i = 0 := by omega
    refine ⟨b2, 0, _, rfl, h2.row _ _ fun j v e => ?_, .slice (some ⟨b1, 0, none⟩) 2 2, .slice none 0 0, rfl, L1, nos_nil w⟩
    rcases j with _ | _ | _ | _ | _ | _ | _ | _ | j
    all_goals first | exact e | (simp [leC] at e)
  refine ⟨by simp [litF], _, _, rfl, fun i hi => ?_⟩
  have hi : i < 1 := hi
  obtain rfl : i = 0 := by omega
  refine ⟨b3, 0, _, rfl, h3.row _ _ fun j v e => ?_, .slice none 0 0, .slice (some ⟨b2, 0, none⟩) 1 1, rfl, (show mainT.size ≤ maxLen by decide), nos_nil w, L2⟩
  rcases j with _ | _ | _ | _ | _ | _ | _ | j
  all_goals first | exact e | (simp [lfC] at e)
end Go.Proofs.YtapgaclonilnbaaDoor

/-
  Proved: LowFuel answers true.
-/
namespace Go.Proofs.YtapgaclonilnbaaDoor
open Go.RowKit
set_option linter.unusedVariables false
set_option linter.unusedSimpArgs false

/-- The run of the literal. -/
theorem lit_call (w W : World) (ht : Tab w) (hb : Below w.heap.size w W) {b1 b2 b3 : Nat} {t1 t2 t3 : TypeId} (h1 : At W b1 losC t1) (h2 : At W b2 (lbsC b1) t2) (h3 : At W b3 (lfsC b2) t3) :
    Calls Tryd.prog 6 #[.slice (some ⟨b3, 0, none⟩) 1 1, .slice none 0 0, .int .i64 5] W fun e w' => ∃ A C, e = .returned (.tuple #[.agg #[.int .i64 1, .int .i64 101, .slice A 1 C], .int .i64 3]) ∧ Below W.heap.size W w' ∧ PrI w' [4294967295] (.slice A 1 C) := by
  have := prun_c litF (some ⟨b3, 0, none⟩) 1 [] (.slice none 0 0) 5 (by omega) W (ht.below hb ht.lt) (lit_in h1 h2 h3) ⟨none, 0, rfl, by simp, by simp, fun i hi => absurd hi (by simp)⟩
  rw [lit_run] at this
  refine this.mono ?_
  rintro e w' ⟨pv, rfl, hb2, ho⟩
  have hp := PrI.own ho
  obtain ⟨A, C, rfl, h4⟩ := hp
  exact ⟨A, C, rfl, hb2, A, C, rfl, h4⟩

set_option maxRecDepth 20000 in
set_option maxHeartbeats 4000000 in
theorem lowFuel_walk (l : List Lf) (lA : Option Addr) (lC : Nat) (ip : List Int) (iv : Value) (x y : Int) (w : World) (ht : Tab w) (hl : LfsIn w l (.slice lA l.length lC)) (hi : InpIn w ip iv) :
    Calls Tryd.prog 3 #[.slice lA l.length lC, iv, .agg #[.int .i64 x, .int .i64 y]] w fun e w' => e = .returned (.bool true) ∧ Below w.heap.size w w' := by
  obtain ⟨IA, IC, rfl, hi2⟩ := id hi
  have HT : Hid (Tab w) := ht
  have HL : Hid (LfsIn w l (.slice lA l.length lC)) := hl
  have HI : Hid (InpIn w ip (.slice IA ip.length IC)) := hi
  have RL : Hid (∀ W, W = (((w.alloc (.cells #[.int .i64 x, .int .i64 y] 24)).alloc (.cells losC 30)).alloc (.cells (lbsC (w.heap.size + 1)) 35)).alloc (.cells (lfsC (w.heap.size + 1 + 1)) 38) →
      Calls Tryd.prog 6 #[.slice (some ⟨w.heap.size + 1 + 1 + 1, 0, none⟩) 1 1, .slice none 0 0, .int .i64 5] W fun e w' => ∃ A C, e = .returned (.tuple #[.agg #[.int .i64 1, .int .i64 101, .slice A 1 C], .int .i64 3]) ∧ Below w.heap.size w w' ∧ PrI w' [4294967295] (.slice A 1 C) ∧ w'.cell? ⟨w.heap.size, 0, none⟩ = some (.int .i64 x) ∧ w'.cell? ⟨w.heap.size, 1, none⟩ = some (.int .i64 y)) := fun W hW => by
    have s1 : (w.alloc (.cells #[.int .i64 x, .int .i64 y] 24)).heap.size = w.heap.size + 1 := by simp
    have s2 : ((w.alloc (.cells #[.int .i64 x, .int .i64 y] 24)).alloc (.cells losC 30)).heap.size = w.heap.size + 1 + 1 := by simp
    have s3 : (((w.alloc (.cells #[.int .i64 x, .int .i64 y] 24)).alloc (.cells losC 30)).alloc (.cells (lbsC (w.heap.size + 1)) 35)).heap.size = w.heap.size + 1 + 1 + 1 := by simp
    have B1 := below_alloc w (.cells #[.int .i64 x, .int .i64 y] 24)
    have A1 := At.new w #[.int .i64 x, .int .i64 y] 24
    generalize w.alloc (.cells #[.int .i64 x, .int .i64 y] 24) = w1 at *
    have B2 := below_alloc w1 (.cells losC 30)
    have A2 := At.new w1 losC 30
    generalize w1.alloc (.cells losC 30) = w2 at *
    have B3 := below_alloc w2 (.cells (lbsC (w.heap.size + 1)) 35)
    have A3 := At.new w2 (lbsC (w.heap.size + 1)) 35
    generalize w2.alloc (.cells (lbsC (w.heap.size + 1)) 35) = w3 at *
    have B4 := below_alloc w3 (.cells (lfsC (w.heap.size + 1 + 1)) 38)
    have A4 := At.new w3 (lfsC (w.heap.size + 1 + 1)) 38
    rw [← hW] at B4 A4
    rw [s1] at A2
    rw [s2] at A3
    rw [s3] at A4
    have q2 := ((A2.below B3 A2.lt).below B4 (A2.below B3 A2.lt).lt)
    have q3 := A3.below B4 A3.lt
    have q1 := ((A1.below B2 A1.lt).below B3 (A1.below B2 A1.lt).lt).below B4 ((A1.below B2 A1.lt).below B3 (A1.below B2 A1.lt).lt).lt
    have hB : Below w.heap.size w W := below_next (below_next (below_next B1 B2) B3) B4
    refine (lit_call w W HT.out hB q2 q3 A4).mono ?_
    rintro e w' ⟨A, C, rfl, hb, hp⟩
    have q9 := q1.below hb q1.lt
    exact ⟨A, C, rfl, below_next hB hb, hp, by rw [q9.cell]; rfl, by rw [q9.cell]; rfl⟩
  have SM : Hid (∀ w2 A C, PrI w2 [4294967295] (.slice A 1 C) → Calls Tryd.prog 7 #[.agg #[.int .i64 1, .int .i64 101, .slice A 1 C], .agg #[.int .i64 1, .int .i64 101, .slice (some ⟨w2.heap.size + 1, 0, none⟩) 1 1]] ((w2.alloc (.cells #[.int .i64 1, .int .i64 101, .slice A 1 C] 26)).alloc (.cells #[.int .i64 4294967295] 3)) fun e w' => e = .returned (.bool true) ∧ Below w2.heap.size w2 w') := fun w2 A C hp => by
    have b2 := below_next (below_alloc w2 (.cells #[.int .i64 1, .int .i64 101, .slice A 1 C] 26)) (below_alloc _ (.cells #[.int .i64 4294967295] 3))
    have a2 := At.new (w2.alloc (.cells #[.int .i64 1, .int .i64 101, .slice A 1 C] 26)) #[.int .i64 4294967295] 3
    have e2 : (w2.alloc (.cells #[.int .i64 1, .int .i64 101, .slice A 1 C] 26)).heap.size = w2.heap.size + 1 := by simp
    rw [e2] at a2
    refine (same_c 1 101 1 101 [4294967295] [4294967295] _ _ _ (hp.below b2) ⟨some ⟨w2.heap.size + 1, 0, none⟩, 1, rfl, fun i hi => ?_⟩ (by simp)).mono ?_
    · have hi : i < 1 := hi
      obtain rfl : i = 0 := by omega
      exact ⟨_, _, rfl, a2.lt, by rw [a2.cell]; rfl⟩
    · rintro e w' ⟨rfl, hb⟩
      exact ⟨by simp, below_next b2 hb⟩
  obtain ⟨a, hxa⟩ : ∃ a : Nat, (a : Int) = x % 4096 := ⟨(x % 4096).toNat, by omega⟩
  obtain ⟨b, hb⟩ : ∃ b : Nat, (b : Int) = y % 4096 := ⟨(y % 4096).toNat, by omega⟩
  have mx : bits .and .i64 x 4095 = (a : Int) := (and_mask x 12 (by decide)).trans hxa.symm
  have my : bits .and .i64 y 4095 = (b : Int) := (and_mask y 12 (by decide)).trans hb.symm
  have ha4 : a ≤ 4096 := by omega
  have hb4 : b ≤ 4096 := by omega
  clear hxa hb
  obtain ⟨c, hc⟩ : ∃ c, c = a + b := ⟨_, rfl⟩
  have hw : IntKind.i64.wrap ((a : Int) + (b : Int)) = (c : Int) := by rw [IntKind.wrap_i64]; omega
  have RN : ∀ n : Nat, n ≤ 10000 → Hid (∀ W, Below w.heap.size w W → Calls Tryd.prog 6 #[.slice lA l.length lC, .slice IA ip.length IC, .int .i64 (n : Int)] W fun e w' => ∃ A C, e = .returned (.tuple #[.agg #[.int .i64 (runE l ip n).1.1, .int .i64 (runE l ip n).1.2, .slice A (runE l ip n).2.1.length C], .int .i64 ((runE l ip n).2.2 : Int)]) ∧ Below W.heap.size W w' ∧ PrI w' (runE l ip n).2.1 (.slice A (runE l ip n).2.1.length C)) := fun n hn W hB => by
    refine (prun_c l lA lC ip _ n (by omega) W (HT.out.below hB HT.out.lt) (HL.out.below hB) (by obtain ⟨A, C, e, h1, h2, h3⟩ := HI.out; exact ⟨A, C, e, h1, h2, h3.below hB fun _ _ => id⟩)).mono ?_
    rintro e w' ⟨pv, rfl, hb2, ho⟩
    have hp := PrI.own ho
    obtain ⟨A, C, rfl, h4⟩ := hp
    exact ⟨A, C, rfl, hb2, A, C, rfl, h4⟩
  have RX := RN a (by omega)
  have RY := RN c (by omega)
  have CK : Hid (∀ W, Below w.heap.size w W → Calls Tryd.prog 8 #[.slice lA l.length lC] W fun e w' => e = .returned (.int .i64 (chkE l)) ∧ Below W.heap.size W w') := fun W hB => check_c l lA lC W (HL.out.below hB)
  have l1 := runE_le l ip a
  have l2 := runE_le l ip c
  have l6 := runE_out l ip a
  have l7 := runE_out l ip c
  have l3 : (runE l ip a).1.1 ≠ 0 → runE l ip c = runE l ip a := by rw [hc]; exact runE_more l ip a b
  obtain ⟨t9, l4⟩ : ∃ t, (runE l ip c).2.1 = (runE l ip a).2.1 ++ t := by rw [hc]; exact runE_less l ip a b
  have l5 : ¬ chk l = true → runE l ip a = ((5, 0), [], 0) := fun h => by unfold runE; rw [if_neg h]
  have hlen : l.length ≤ 281474976710656 := HL.out.1
  clear RN hc
  generalize runE l ip a = rX at *
  generalize runE l ip c = rY at *
  obtain ⟨⟨kX, cX⟩, oX, nX⟩ := rX
  obtain ⟨⟨kY, cY⟩, oY, nY⟩ := rY
  dsimp only at RX RY l1 l2 l3 l4 l6 l7
  clear hl hi ht hi2
  go_enter Tryd.func3, Tryd.ntmps3
  go_wp2_with (first
    | (go_at_call 6; refine (RL.out _ rfl).mono ?_; rintro e w2 ⟨A1, C1, rfl, hb2, hp2, hx, hy⟩; have B2 : Hid (Below w.heap.size w w2 ∧ PrI w2 [4294967295] (.slice A1 1 C1) ∧ w2.cell? ⟨w.heap.size, 0, none⟩ = some (.int .i64 x) ∧ w2.cell? ⟨w.heap.size, 1, none⟩ = some (.int .i64 y)) := ⟨hb2, hp2, hx, hy⟩; clear hb2 hp2 hx hy)
    | (go_at_call 7; refine (SM.out w2 A1 C1 B2.out.2.1).mono ?_; rintro e w3 ⟨rfl, hb3⟩; have B3 : Hid (Below w2.heap.size w2 w3) := hb3; clear hb3))
  have b3 : Below w.heap.size w w3 := below_next B2.out.1 B3.out
  have x0 : w3.cell? ⟨w.heap.size, 0, none⟩ = some (.int .i64 x) := (B3.out.cell (p := ⟨w.heap.size, 0, none⟩) (World.block_lt_of_cell? _ _ B2.out.2.2.1)).trans B2.out.2.2.1
  have y0 : w3.cell? ⟨w.heap.size, 1, none⟩ = some (.int .i64 y) := (B3.out.cell (p := ⟨w.heap.size, 1, none⟩) (World.block_lt_of_cell? _ _ B2.out.2.2.2)).trans B2.out.2.2.2
  have BW : Hid (Below w.heap.size w w3) := b3
  clear b3 B3 B2 RL SM
  go_loopw [9] (fun i wr => ∃ j : Nat, j ≤ l.length ∧ i = .int .i64 (j : Int) ∧ wr = w3) (fun i _ => l.length - (intOf i).toNat)
  case atStart => exact ⟨0, by omega, rfl, rfl⟩
  case round =>
    obtain ⟨j, hj, rfl, rfl⟩ := hrel
    rcases Nat.lt_or_ge j l.length with hj' | hj'
    · have hjz : (j : Int) < l.length := by omega
      obtain ⟨_, lAA, lCC, elA, hlr⟩ := HL.out
      obtain ⟨fb0, fo, csx, hlA, hrow, pv, bv, ecs, -, hpn, -⟩ := hlr j hj'
      cases elA
      cases ecs
      have c4 : wr.cell? ⟨fb0, fo + j * 7 + 4, none⟩ = some (.int .i64 l[j].fr) := (BW.out.cell (p := ⟨fb0, fo + j * 7 + 4, none⟩) hrow.1).trans (hrow.at 4 rfl)
      have c1 : wr.cell? ⟨fb0, fo + j * 7 + 1, none⟩ = some (.int .i64 l[j].rg) := (BW.out.cell (p := ⟨fb0, fo + j * 7 + 1, none⟩) hrow.1).trans (hrow.at 1 rfl)
      subst hlA
      have wj : IntKind.i64.wrap ((j : Int) + 1) = (j : Int) + 1 := by rw [IntKind.wrap_i64]; omega
      clear hlr hrow hpn HT HL HI RX RY CK l1 l2 l3 l4 l5 l6 l7
      generalize l[j].fr = fr at *
      generalize l[j].rg = rg at *
      generalize l.length = n at *
      by_cases g1 : 2000 < fr
      · go_wp2
        go_ret
        exact ⟨rfl, BW.out⟩
      · by_cases g2 : 2000 < rg
        · go_wp2
          go_ret
          exact ⟨rfl, BW.out⟩
        · go_wp2
          go_roundw
          case rel => exact ⟨j + 1, by omega, by go_num, trivial⟩
          case measure => simp [intOf]; omega
    · have hjz : ¬ (j : Int) < l.length := by omega
      by_cases hck : chk l = true
      · have ek : chkE l = 0 := by unfold chkE; rw [if_pos hck]
        rw [ek] at CK
        have hX1 : ¬ (a : Int) < (nX : Int) := by omega
        have hY1 : ¬ (c : Int) < (nY : Int) := by omega
        have hXY : ¬ ((oY.length : Nat) : Int) < ((oX.length : Nat) : Int) := by rw [l4]; simp; omega
        clear l5 hck ek l1 l2
        by_cases h0 : kX = 0
        · clear l3
          have HO : Hid (oY = oX ++ t9) := l4
          clear l4
          subst h0
          go_wp2
          go_region
          go_wp2_with (first
          | (go_at_call 6; refine (RX.out _ BW.out.drew).mono ?_; rintro e w4 ⟨A4, C4, rfl, hb4, hp4⟩; have X4 : Hid (Below w.heap.size w w4 ∧ PrI w4 oX (.slice A4 oX.length C4)) := ⟨below_next BW.out.drew hb4, hp4⟩; clear hb4 hp4 RX)
          | (go_at_call 6; refine (RY.out _ (below_next X4.out.1 (below_alloc _ _))).mono ?_; rintro e w5 ⟨A5, C5, rfl, hb5, hp5⟩; have Y5 : Hid (Below w.heap.size w w5 ∧ At w5 w4.heap.size #[.int .i64 0, .int .i64 cX, .slice A4 oX.length C4] 26 ∧ PrI w5 oX (.slice A4 oX.length C4) ∧ PrI w5 oY (.slice A5 oY.length C5)) := ⟨below_next (below_next X4.out.1 (below_alloc _ _)) hb5, (At.new w4 _ _).below hb5 (At.new w4 _ _).lt, (X4.out.2.below (below_alloc _ _)).below hb5, hp5⟩; clear hb5 hp5 RY)
          | (go_at_call 8; refine (CK.out _ (below_next Y5.out.1 (below_alloc _ _))).mono ?_; rintro e w6 ⟨rfl, hb6⟩; have a4 := (Y5.out.2.1.below (below_alloc w5 (.cells #[.int .i64 kY, .int .i64 cY, .slice A5 oY.length C5] 26)) Y5.out.2.1.lt).below hb6 (Y5.out.2.1.below (below_alloc w5 (.cells #[.int .i64 kY, .int .i64 cY, .slice A5 oY.length C5] 26)) Y5.out.2.1.lt).lt; have a5 := (At.new w5 #[.int .i64 kY, .int .i64 cY, .slice A5 oY.length C5] 26).below hb6 (At.new w5 #[.int .i64 kY, .int .i64 cY, .slice A5 oY.length C5] 26).lt; have d0 : w6.cell? ⟨w4.heap.size, 0, none⟩ = some (.int .i64 0) := (by rw [a4.cell]; rfl); have d1 : w6.cell? ⟨w4.heap.size, 1, none⟩ = some (.int .i64 cX) := (by rw [a4.cell]; rfl); have d2 : w6.cell? ⟨w4.heap.size, 2, none⟩ = some (.slice A4 oX.length C4) := (by rw [a4.cell]; rfl); have f0 : w6.cell? ⟨w5.heap.size, 0, none⟩ = some (.int .i64 kY) := (by rw [a5.cell]; rfl); have f1 : w6.cell? ⟨w5.heap.size, 1, none⟩ = some (.int .i64 cY) := (by rw [a5.cell]; rfl); have f2 : w6.cell? ⟨w5.heap.size, 2, none⟩ = some (.slice A5 oY.length C5) := (by rw [a5.cell]; rfl); have Z6 : Hid (Below w.heap.size w w6 ∧ PrI w6 oX (.slice A4 oX.length C4) ∧ PrI w6 oY (.slice A5 oY.length C5)) := ⟨below_next (below_next Y5.out.1 (below_alloc _ _)) hb6, (Y5.out.2.2.1.below (below_alloc _ _)).below hb6, (Y5.out.2.2.2.below (below_alloc _ _)).below hb6⟩; clear hb6 CK a4 a5 Y5 X4))
          have BL : Hid (oX.length ≤ 4096) := (by omega : oX.length ≤ 4096)
          clear l6 l7
          go_loopw [15] (fun i wr => ∃ q : Nat, q ≤ oX.length ∧ i = .int .i64 (q : Int) ∧ Below w6.heap.size w6 wr) (fun i _ => oX.length - (intOf i).toNat)
          case atStart => exact ⟨0, by omega, rfl, Below.refl _ _⟩
          case round =>
            obtain ⟨q, hq, rfl, hB⟩ := hrel
            have B9 : Hid (Below w6.heap.size w6 wr) := hB
            have d2' : wr.cell? ⟨w4.heap.size, 2, none⟩ = some (.slice A4 oX.length C4) := (hB.cell (p := ⟨w4.heap.size, 2, none⟩) (World.block_lt_of_cell? _ _ d2)).trans d2
            have f2' : wr.cell? ⟨w5.heap.size, 2, none⟩ = some (.slice A5 oY.length C5) := (hB.cell (p := ⟨w5.heap.size, 2, none⟩) (World.block_lt_of_cell? _ _ f2)).trans f2
            clear d0 d1 d2 f0 f1 f2 hB
            obtain ⟨-, ⟨A4', C4', e4, p4⟩, ⟨A5', C5', e5, p5⟩⟩ := Z6.out
            cases e4
            cases e5
            rcases Nat.lt_or_ge q oX.length with hq' | hq'
            · have hqz : (q : Int) < ((oX.length : Nat) : Int) := by omega
              have hq2 : q < oY.length := by rw [HO.out]; simp; omega
              have hqz2 : (q : Int) < ((oY.length : Nat) : Int) := by omega
              obtain ⟨g1, o1, rfl, r1, r2⟩ := p4 q hq'
              obtain ⟨g2, o2, rfl, s1, s2⟩ := p5 q hq2
              have c0 := (B9.out.cell (p := ⟨g1, o1 + q, none⟩) r1).trans r2
              have c0' := (B9.out.cell (p := ⟨g2, o2 + q, none⟩) s1).trans s2
              have ey : oY[q] = oX[q] := by simp only [HO.out]; exact List.getElem_append_left hq'
              rw [ey] at c0'
              have wq : IntKind.i64.wrap ((q : Int) + 1) = (q : Int) + 1 := by have := BL.out; rw [IntKind.wrap_i64]; omega
              clear p4 p5 r1 r2 s1 s2 ey hXY hX1 hY1 mx my hw x0 y0
              generalize oX[q] = yy at *
              generalize oX.length = n1 at *
              generalize oY.length = n2 at *
              go_wp2
              go_region
              all_goals go_wp2
              all_goals go_roundw
              case rel => exact ⟨q + 1, by omega, by go_num, B9.out.drew⟩
              case measure => simp [intOf]; omega
            · have hqz : ¬ (q : Int) < ((oX.length : Nat) : Int) := by omega
              clear p4 p5
              go_wp2
              go_ret
              exact ⟨rfl, below_next Z6.out.1 B9.out⟩
        · have l3 := l3 h0
          have q1 : kY = kX := by injection l3 with q1 q2; injection q1
          have q2 : cY = cX := by injection l3 with q1 q2; injection q1
          have q3 : oY = oX := by injection l3 with q1 q2; injection q2
          have q4 : nY = nX := by injection l3 with q1 q2; injection q2
          subst q1 q2 q3 q4
          clear l3 l4 hXY
          have hXY : ¬ ((oY.length : Nat) : Int) < ((oY.length : Nat) : Int) := by omega
          have hol : Hid (oY.length ≤ 9223372036854775806) := (by omega : oY.length ≤ 9223372036854775806)
          clear l6 l7
          go_wp2
          go_region
          go_wp2_with (first
          | (go_at_call 6; refine (RX.out _ BW.out.drew).mono ?_; rintro e w4 ⟨A4, C4, rfl, hb4, hp4⟩; have X4 : Hid (Below w.heap.size w w4 ∧ PrI w4 oY (.slice A4 oY.length C4)) := ⟨below_next BW.out.drew hb4, hp4⟩; clear hb4 hp4 RX)
          | (go_at_call 6; refine (RY.out _ (below_next X4.out.1 (below_alloc _ _))).mono ?_; rintro e w5 ⟨A5, C5, rfl, hb5, hp5⟩; have Y5 : Hid (Below w.heap.size w w5 ∧ At w5 w4.heap.size #[.int .i64 kY, .int .i64 cY, .slice A4 oY.length C4] 26 ∧ PrI w5 oY (.slice A4 oY.length C4) ∧ PrI w5 oY (.slice A5 oY.length C5)) := ⟨below_next (below_next X4.out.1 (below_alloc _ _)) hb5, (At.new w4 _ _).below hb5 (At.new w4 _ _).lt, (X4.out.2.below (below_alloc _ _)).below hb5, hp5⟩; clear hb5 hp5 RY)
          | (go_at_call 8; refine (CK.out _ (below_next Y5.out.1 (below_alloc _ _))).mono ?_; rintro e w6 ⟨rfl, hb6⟩; have a4 := (Y5.out.2.1.below (below_alloc w5 (.cells #[.int .i64 kY, .int .i64 cY, .slice A5 oY.length C5] 26)) Y5.out.2.1.lt).below hb6 (Y5.out.2.1.below (below_alloc w5 (.cells #[.int .i64 kY, .int .i64 cY, .slice A5 oY.length C5] 26)) Y5.out.2.1.lt).lt; have a5 := (At.new w5 #[.int .i64 kY, .int .i64 cY, .slice A5 oY.length C5] 26).below hb6 (At.new w5 #[.int .i64 kY, .int .i64 cY, .slice A5 oY.length C5] 26).lt; have d0 : w6.cell? ⟨w4.heap.size, 0, none⟩ = some (.int .i64 kY) := (by rw [a4.cell]; rfl); have d1 : w6.cell? ⟨w4.heap.size, 1, none⟩ = some (.int .i64 cY) := (by rw [a4.cell]; rfl); have d2 : w6.cell? ⟨w4.heap.size, 2, none⟩ = some (.slice A4 oY.length C4) := (by rw [a4.cell]; rfl); have f0 : w6.cell? ⟨w5.heap.size, 0, none⟩ = some (.int .i64 kY) := (by rw [a5.cell]; rfl); have f1 : w6.cell? ⟨w5.heap.size, 1, none⟩ = some (.int .i64 cY) := (by rw [a5.cell]; rfl); have f2 : w6.cell? ⟨w5.heap.size, 2, none⟩ = some (.slice A5 oY.length C5) := (by rw [a5.cell]; rfl); have Z6 : Hid (Below w.heap.size w w6 ∧ PrI w6 oY (.slice A4 oY.length C4) ∧ PrI w6 oY (.slice A5 oY.length C5)) := ⟨below_next (below_next Y5.out.1 (below_alloc _ _)) hb6, (Y5.out.2.2.1.below (below_alloc _ _)).below hb6, (Y5.out.2.2.2.below (below_alloc _ _)).below hb6⟩; clear hb6 CK a4 a5 Y5 X4)
          | (go_at_call 7; refine (same_c kY cY kY cY oY oY _ _ w6 Z6.out.2.1 Z6.out.2.2 hol.out).mono ?_; rintro e w7 ⟨rfl, hb7⟩; have Z7 : Hid (Below w.heap.size w w7) := below_next Z6.out.1 hb7; (try simp only [and_self, decide_true]); clear hb7))
          go_ret
          exact ⟨rfl, Z7.out⟩
      · have ek : chkE l = 10 := by unfold chkE; rw [if_neg hck]
        rw [ek] at CK
        have e5 := l5 hck
        have k5 : kX = 5 := by injection e5 with q1 q2; injection q1
        have o5 : oX = [] := by injection e5 with q1 q2; injection q2
        have n5 : nX = 0 := by injection e5 with q1 q2; injection q2
        subst k5 o5 n5
        have CK2 := CK
        clear l1 l2 l3 l4 l5 l6 l7 e5 hck ek
        go_wp2
        go_region
        go_wp2_with (first
          | (go_at_call 6; refine (RX.out _ BW.out.drew).mono ?_; rintro e w4 ⟨A4, C4, rfl, hb4, hp4⟩; have X4 : Hid (Below w.heap.size w w4) := below_next BW.out.drew hb4; clear hb4 hp4 RX)
          | (go_at_call 6; refine (RY.out _ (below_next X4.out (below_alloc _ _))).mono ?_; rintro e w5 ⟨A5, C5, rfl, hb5, hp5⟩; have Y5 : Hid (Below w.heap.size w w5 ∧ At w5 w4.heap.size #[.int .i64 5, .int .i64 cX, .slice A4 0 C4] 26) := ⟨below_next (below_next X4.out (below_alloc _ _)) hb5, (At.new w4 _ _).below hb5 (At.new w4 _ _).lt⟩; clear hb5 hp5)
          | (go_at_call 8; refine (CK.out _ (below_next Y5.out.1 (below_alloc _ _))).mono ?_; rintro e w6 ⟨rfl, hb6⟩; have Z6 : Hid (Below w.heap.size w w6 ∧ At w6 w4.heap.size #[.int .i64 5, .int .i64 cX, .slice A4 0 C4] 26) := ⟨below_next (below_next Y5.out.1 (below_alloc _ _)) hb6, (Y5.out.2.below (below_alloc _ _) Y5.out.2.lt).below hb6 (Y5.out.2.below (below_alloc _ _) Y5.out.2.lt).lt⟩; clear hb6 CK)
          | (go_at_call 8; refine (CK2.out _ Z6.out.1).mono ?_; rintro e w7 ⟨rfl, hb7⟩; have Z7 : Hid (Below w.heap.size w w7) := below_next Z6.out.1 hb7; have a7 := Z6.out.2.below hb7 Z6.out.2.lt; have d0 : w7.cell? ⟨w4.heap.size, 0, none⟩ = some (.int .i64 5) := (by rw [a7.cell]; rfl); have d2 : w7.cell? ⟨w4.heap.size, 2, none⟩ = some (.slice A4 0 C4) := (by rw [a7.cell]; rfl); clear a7 hb7))
        go_ret
        exact ⟨rfl, Z7.out⟩
end Go.Proofs.YtapgaclonilnbaaDoor

/-
  Proved: LowFuel's walk over what was handed in; two numbers in a row as an argument.
-/
namespace Go.Proofs.YtapgaclonilnbaaDoor
open Go.RowKit Go.ChangeShapes Go.WideShapes Go.Deep
set_option linter.unusedVariables false
set_option maxRecDepth 20000

theorem lowFuel_walk2 (l : List Lf) (v : Value) (ip : List Int) (iv : Value) (x y : Int) (w : World) (ht : Tab w) (hl : LfsIn w l v) (hi : InpIn w ip iv) :
    Calls Tryd.prog 3 #[v, iv, .agg #[.int .i64 x, .int .i64 y]] w fun e w' => e = .returned (.bool true) ∧ Below w.heap.size w w' := by
  obtain ⟨-, A, C, rfl, -⟩ := id hl
  exact lowFuel_walk l A C ip iv x y w ht hl hi

theorem okWide_two {P : Program} {w : World} {r : Reach} {base : Nat} {t e : TypeId} {n : Nat} {v : Value} (ht : P.underlying t = some (.array n e)) (h : Value.okWide P w r base t v) : ∃ cs, v = .agg cs ∧ cs.size = P.cellsOf t := by
  simp only [Value.okWide, ht] at h
  obtain ⟨cs, h1, h2, _⟩ := h
  exact ⟨cs, h1, h2⟩

theorem cellsTwo : Tryd.prog.cellsOf 24 = 2 := by kernel_rfl

theorem open_two {H : Type} {enc : TypeId × Value → H} {w : World} {spare : Nat → Bool} {held : Bool} {fuel : Nat} {cs : List Value} {x : DataW H × List MemPlace} (h : DataW.trod enc Tryd.prog w 0 spare held fuel 24 cs = some x) :
    ∃ a b : Int, cs = [.int .i64 a, .int .i64 b] := by
  obtain ⟨xs, m, rfl, hx, hl, hn, hel⟩ := DataW.trod_array Tryd.underlying24 h
  rw [cellsTwo] at hl
  rw [cellsInt] at hel
  match cs, hl with
  | [c0, c1], _ =>
  match xs, hn with
  | [y0, y1], _ =>
  have f0 : DataW.trod enc Tryd.prog w 0 spare held m 3 (([c0, c1].drop (0 * 1)).take 1) = some y0 := hel 0 (by omega)
  have f1 : DataW.trod enc Tryd.prog w 0 spare held m 3 (([c0, c1].drop (1 * 1)).take 1) = some y1 := hel 1 (by omega)
  obtain ⟨a0, e0, _, _⟩ := DataW.trod_int Tryd.underlying3 f0
  obtain ⟨a1, e1, _, _⟩ := DataW.trod_int Tryd.underlying3 f1
  simp at e0 e1
  exact ⟨a0, a1, by rw [e0, e1]⟩
end Go.Proofs.YtapgaclonilnbaaDoor
