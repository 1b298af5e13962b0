/-
  Proved: what the document's own Plain answers of any function: of each local whether it is plain.
-/
import Derived.Test.YtjhgpddpkbgjeaaDoorRplain
namespace Go.Proofs.YtjhgpddpkbgjeaaDoor
open Go.RowKit

def bV (x : Bool) : List Value := [.bool x]
theorem bV_len (a : Bool) : (bV a).length = 1 := rfl
theorem bV_one (a : Bool) : ∀ u ∈ bV a, u.oneCell' = true := by intro u hu; simp [bV] at hu; subst hu; rfl
theorem infoBool : (Tryd.prog.info? 4).map (fun i => (i.zero, i.size, i.bytes)) = some (some (.bool false), 1, 1) := by kernel_rfl

/-- A row of truths of one's own. -/
def OB (base : Nat) (l : List Bool) (v : Value) (w : World) : Prop := OwnB 4 1 bV base l v w

theorem OB.app {base : Nat} {l : List Bool} (w : World) {ops : Array Oper} {rest : List Oper} {o : Oper} {a : Act} {Q : Exit → Act → World → Prop} (hgd : o.guard = none) (s x : Operand)
    (ho : o.op = .call { callee := .builtin .append, args := #[s, x], argTypes := #[23, 23] })
    (v : Value) (hs : a.eval s = v) (y : Bool) (hown : OB base l v w) (ad : Addr) (C : Nat) (hx : a.eval x = .slice (some ad) 1 C)
    (hc : ∀ j u, (bV y)[j]? = some u → w.cell? (ad.add j) = some u) (hl : l.length ≤ 10000)
    (h : ∀ v' w', OB base (l ++ [y]) v' w' → Below base w w' → (∀ k, k < w.heap.size → v.ownBlock ≠ some k → w'.heap[k]? = w.heap[k]?) → (∀ b, v'.ownBlock = some b → v.ownBlock = some b ∨ w.heap.size ≤ b) → wpList Tryd.prog ops Q rest (a.put o.dst v') w') : wpList Tryd.prog ops Q (o :: rest) a w :=
  OwnB.appendNL 23 4 bV _ 1 1 infoBool Tryd.underlying23 rfl (by decide) (by decide) bV_len bV_one w hgd s x ho v hs y hown ad C hx hc hl h

theorem OB.empty {base : Nat} {w : World} (h : base ≤ w.heap.size) : OB base [] (.slice none 0 0) w := ⟨h, by simp, Or.inl ⟨rfl, rfl⟩⟩
theorem OB.below {base : Nat} {l : List Bool} {v : Value} {w w' : World} (h : OB base l v w) (k : Below w.heap.size w w') : OB base l v w' := OwnB.below h k
theorem OB.shape {base : Nat} {l : List Bool} {v : Value} {w : World} (h : OB base l v w) : ∃ A C, v = .slice A l.length C ∧ (0 < l.length → ∃ B, A = some ⟨B, 0, none⟩ ∧ base ≤ B ∧ B < w.heap.size ∧ l.length ≤ C ∧ ∀ i (hi : i < l.length), w.cell? ⟨B, i, none⟩ = some (.bool l[i])) := by
  obtain ⟨A, C, e, h1⟩ := OwnB.shape bV_len h
  refine ⟨A, C, e, fun h2 => ?_⟩
  obtain ⟨B, e1, e2, e3, e4, e5⟩ := h1 h2
  refine ⟨B, e1, e2, e3, e4, fun i hi => ?_⟩
  have := RowsIn.cell (j := 0) (u := .bool l[i]) e5 i hi rfl
  simpa using this

/-- Is a local's own memory a place of an instruction? -/
def tch (x : Ins) (k : Int) : Bool := ((decide (x.op = 3) || decide (x.op = 4) || decide (x.op = 5) || decide (x.op = 6) || decide (x.op = 9)) && mdf x.p k) || (decide (x.op = 5) && mdf x.q k)
def clr (k : Int) (l : List Ins) : Bool := l.all fun x => !tch x k
def clrs (k : Int) (l : List Bk) : Bool := l.all fun b => clr k b.li
/-- Is a local plain? -/
def pln (f : Fm) (k : Nat) : Bool := decide (f.lo.getD k 0 = 1) && clrs k f.bs

theorem clr_step (k : Int) (l : List Ins) (j : Nat) (h : j < l.length) : clr k (l.take (j + 1)) = (clr k (l.take j) && !tch l[j] k) := by
  unfold clr
  rw [List.take_succ_eq_append_getElem h, List.all_append]
  simp
theorem clrs_step (k : Int) (l : List Bk) (j : Nat) (h : j < l.length) : clrs k (l.take (j + 1)) = (clrs k (l.take j) && clr k l[j].li) := by
  unfold clrs
  rw [List.take_succ_eq_append_getElem h, List.all_append]
  simp

set_option maxRecDepth 20000 in
set_option maxHeartbeats 2000000 in
theorem plain_c (f : Fm) (cs : List Value) (w : World) (h : FmIn w f cs) (hn : f.lo.length ≤ 1000) :
    Calls Tryd.prog 5 #[.agg cs.toArray] w fun e w' => ∃ v, e = .returned v ∧ OB w.heap.size ((List.range f.lo.length).map (pln f)) v w' ∧ Below w.heap.size w w' := by
  obtain ⟨lv, bv, rfl, hlo, hbs⟩ := h
  obtain ⟨_, LA, LC, rfl, -⟩ := id hlo
  obtain ⟨hbl, BA, BC, rfl, -⟩ := id hbs
  have LO : Hid (NosIn w f.lo (.slice LA f.lo.length LC)) := hlo
  have BS : Hid (BksIn w f.bs (.slice BA f.bs.length BC)) := hbs
  clear hlo hbs
  have PL : Hid (∀ k, pln f k = (decide (f.lo.getD k 0 = 1) && clrs k f.bs)) := fun _ => rfl
  generalize pln f = pl at *
  obtain ⟨nm, lo, pa, an, qu, bs⟩ := f
  simp only [fmC] at *
  go_enter Tryd.func5, Tryd.ntmps5
  go_wp2
  have AF0 : Hid (At (w.alloc (.cells #[.string nm, .slice LA lo.length LC, .int .i64 pa, .int .i64 an, .bool qu, .slice BA bs.length BC] 28)) w.heap.size #[.string nm, .slice LA lo.length LC, .int .i64 pa, .int .i64 an, .bool qu, .slice BA bs.length BC] 28) := At.new _ _ _
  have B0 : Hid (Below w.heap.size w (w.alloc (.cells #[.string nm, .slice LA lo.length LC, .int .i64 pa, .int .i64 an, .bool qu, .slice BA bs.length BC] 28))) := below_alloc _ _
  have Z0 : Hid ((w.alloc (.cells #[.string nm, .slice LA lo.length LC, .int .i64 pa, .int .i64 an, .bool qu, .slice BA bs.length BC] 28)).heap.size = w.heap.size + 1) := (show _ = _ by simp)
  generalize hW0 : w.alloc (.cells #[.string nm, .slice LA lo.length LC, .int .i64 pa, .int .i64 an, .bool qu, .slice BA bs.length BC] 28) = W0 at *
  clear hW0
  go_loopw [3, 4] (fun ov kv wr => ∃ k : Nat, k ≤ lo.length ∧ kv = .int .i64 (k : Int) ∧ OB (w.heap.size + 1) ((List.range k).map pl) ov wr ∧ Below (w.heap.size + 1) W0 wr) (fun _ kv _ => lo.length - (intOf kv).toNat)
  case atStart => exact ⟨0, by omega, rfl, OB.empty (by rw [Z0.out]; exact Nat.le_refl _), Below.refl _ _⟩
  case round =>
    obtain ⟨k, hk, rfl, hO, hB⟩ := hrel
    have O1 : Hid (OB (w.heap.size + 1) ((List.range k).map pl) _ wr) := hO
    have N1 : Hid (Below (w.heap.size + 1) W0 wr) := hB
    have NW : Hid (Below w.heap.size w wr) := B0.out.trans (hB.mono (by omega))
    have AF : Hid (At wr w.heap.size #[.string nm, .slice LA lo.length LC, .int .i64 pa, .int .i64 an, .bool qu, .slice BA bs.length BC] 28) := AF0.out.below hB (by omega)
    have LB : Hid (BksIn wr bs (.slice BA bs.length BC)) := BS.out.below NW.out
    have LL : Hid (NosIn wr lo (.slice LA lo.length LC)) := LO.out.below NW.out
    have ZS : w.heap.size < wr.heap.size := AF.out.lt
    have f1 : wr.cell? ⟨w.heap.size, 1, none⟩ = some (.slice LA lo.length LC) := AF.out.cell 1
    have f5 : wr.cell? ⟨w.heap.size, 5, none⟩ = some (.slice BA bs.length BC) := AF.out.cell 5
    obtain ⟨Ao, Co, eo, -⟩ := hO.shape
    rw [List.length_map, List.length_range] at eo
    subst eo
    clear hO hB
    rcases Nat.lt_or_ge k lo.length with hk' | hk'
    · have hkz : (k : Int) < lo.length := by omega
      have PK : Hid (pl k = (decide (lo[k] = 1) && clrs k bs)) := (by have := PL.out k; rwa [List.getD_eq_getElem?_getD, List.getElem?_eq_getElem hk'] at this : pl k = (decide (lo[k] = 1) && clrs k bs))
      obtain ⟨_, A', C', e', hr⟩ := LL.out
      obtain ⟨b, o, cs, e2, hrow, e3⟩ := hr k hk'
      cases e'
      cases e2
      cases e3
      have ck := hrow.2 0 _ rfl
      have hb := hrow.1
      simp only [Nat.mul_one, Nat.add_zero] at ck
      clear hr hrow
      generalize lo[k] = lk at *
      have E1 : (lk == 1) = decide (lk = 1) := by rw [Bool.eq_iff_iff]; simp
      go_wp2
      go_loopw [5, 6] (fun bv iv wz => ∃ i : Nat, i ≤ bs.length ∧ iv = .int .i64 (i : Int) ∧ bv = .bool (decide (lk = 1) && clrs k (bs.take i)) ∧ Below wr.heap.size wr wz) (fun _ iv _ => bs.length - (intOf iv).toNat)
      case atStart => exact ⟨0, by omega, rfl, by simp [clrs], Below.refl _ _⟩
      case round =>
        rename World => wy
        obtain ⟨i, hi, rfl, rfl, hB⟩ := hrel
        have N2 : Hid (Below wr.heap.size wr wy) := hB
        have ZY : w.heap.size < wy.heap.size := Nat.lt_of_lt_of_le ZS hB.size
        have AY : Hid (At wy w.heap.size #[.string nm, .slice (some ⟨b, o, none⟩) lo.length LC, .int .i64 pa, .int .i64 an, .bool qu, .slice BA bs.length BC] 28) := AF.out.below hB ZS
        have f1 : wy.cell? ⟨w.heap.size, 1, none⟩ = some (.slice (some ⟨b, o, none⟩) lo.length LC) := AY.out.cell 1
        have f5 : wy.cell? ⟨w.heap.size, 5, none⟩ = some (.slice BA bs.length BC) := AY.out.cell 5
        rcases Nat.lt_or_ge i bs.length with hi' | hi'
        · have hiz : (i : Int) < bs.length := by omega
          have S1 : Hid (clrs k (bs.take (i + 1)) = (clrs k (bs.take i) && clr k bs[i].li)) := clrs_step _ _ _ hi'
          obtain ⟨_, A', C', e', hr⟩ := LB.out.below N2.out
          obtain ⟨b2, o2, cs, e2, hrow, hbk⟩ := hr i hi'
          cases e'
          cases e2
          obtain ⟨lv, av, e3, hli, -⟩ := hbk
          subst e3
          have c0 := hrow.2 0 _ rfl
          have hb2 := hrow.1
          simp only [Nat.add_zero] at c0
          clear hr hrow
          obtain ⟨hll, IA, IC, rfl, -⟩ := id hli
          have LI : Hid (LiIn wy bs[i].li (.slice IA bs[i].li.length IC)) := hli
          clear hli hB
          generalize bs[i].li = li at *
          generalize clrs k (bs.take i) = q1 at *
          go_wp2
          go_loopw [5, 8] (fun bv jv wz => ∃ j : Nat, j ≤ li.length ∧ jv = .int .i64 (j : Int) ∧ bv = .bool ((decide (lk = 1) && q1) && clr k (li.take j)) ∧ Below wy.heap.size wy wz) (fun _ jv _ => li.length - (intOf jv).toNat)
          case atStart => exact ⟨0, by omega, rfl, by simp [clr], Below.refl _ _⟩
          case round =>
            rename World => wz
            obtain ⟨j, hj, rfl, rfl, hB⟩ := hrel
            have N3 : Hid (Below wy.heap.size wy wz) := hB
            rcases Nat.lt_or_ge j li.length with hj' | hj'
            · have hjz : (j : Int) < li.length := by omega
              have S2 : Hid (clr k (li.take (j + 1)) = (clr k (li.take j) && !tch li[j] k)) := clr_step _ _ _ hj'
              obtain ⟨_, A', C', e', hr⟩ := LI.out.below hB
              obtain ⟨b3, o3, cs, e2, hrow, hin⟩ := hr j hj'
              cases e'
              cases e2
              obtain ⟨pv, qv, tv, dv1, dv2, e3, hp, hq, -⟩ := hin
              subst e3
              have hb3 := hrow.1
              have d0 := hrow.2 0 _ rfl
              have d6 := hrow.2 6 _ rfl
              have d7 := hrow.2 7 _ rfl
              have d8 := hrow.2 8 _ rfl
              have d9 := hrow.2 9 _ rfl
              simp only [Nat.add_zero] at d0
              clear hr hrow
              obtain ⟨hpl, PA, PC, rfl, -⟩ := id hp
              obtain ⟨hql, QA, QC, rfl, -⟩ := id hq
              have TC : Hid (tch li[j] k = (((decide (li[j].op = 3) || decide (li[j].op = 4) || decide (li[j].op = 5) || decide (li[j].op = 6) || decide (li[j].op = 9)) && mdf li[j].p k) || (decide (li[j].op = 5) && mdf li[j].q k))) := rfl
              have MP : Hid (∀ w', Below wz.heap.size wz w' → Calls Tryd.prog 9 #[.agg #[.int .i64 li[j].p.l, .slice PA li[j].p.st.length PC], .int .i64 (k : Int)] w' fun e w'' => e = .returned (.bool (mdf li[j].p k)) ∧ Below w'.heap.size w' w'') := fun w' hw => made_c _ _ _ _ (StsIn.below hp hw)
              have MQ : Hid (∀ w', Below wz.heap.size wz w' → Calls Tryd.prog 9 #[.agg #[.int .i64 li[j].q.l, .slice QA li[j].q.st.length QC], .int .i64 (k : Int)] w' fun e w'' => e = .returned (.bool (mdf li[j].q k)) ∧ Below w'.heap.size w' w'') := fun w' hw => made_c _ _ _ _ (StsIn.below hq hw)
              clear hp hq hB
              generalize tch li[j] k = tc at *
              generalize mdf li[j].p k = mp at *
              generalize mdf li[j].q k = mq at *
              generalize li[j].p.l = pl' at *
              generalize li[j].q.l = ql' at *
              generalize li[j].p.st.length = ps' at *
              generalize li[j].q.st.length = qs' at *
              generalize li[j].op = op at *
              generalize clr k (li.take j) = q2 at *
              have BZ : Hid (Below wz.heap.size wz wz) := Below.refl _ _
              by_cases e3 : op = 3
              · subst e3
                cases mp
                · have S5 : Hid (clr k (li.take (j + 1)) = q2) := (show _ = _ by rw [S2.out, TC.out]; simp)
                  go_wp2_with (go_at_call 9; refine (MP.out _ BZ.out).mono ?_; rintro e1 w1 ⟨rfl, hb1⟩; have N5 : Hid (Below wz.heap.size wz w1) := hb1; have Z5 := hb1.size; have d0 : w1.cell? ⟨b3, o3 + j * 18, none⟩ = some (.int .i64 3) := (hb1.cell (p := ⟨b3, o3 + j * 18, none⟩) hb3).trans d0; have d8 : w1.cell? ⟨b3, o3 + j * 18 + 8, none⟩ = some (.int .i64 ql') := (hb1.cell (p := ⟨b3, o3 + j * 18 + 8, none⟩) hb3).trans d8; have d9 : w1.cell? ⟨b3, o3 + j * 18 + 9, none⟩ = some (.slice QA qs' QC) := (hb1.cell (p := ⟨b3, o3 + j * 18 + 9, none⟩) hb3).trans d9; have hb4 : b3 < w1.heap.size := Nat.lt_of_lt_of_le hb3 Z5; clear hb1)
                  go_roundw
                  case rel => exact ⟨j + 1, by omega, by go_num, by rw [S5.out], below_next N3.out N5.out⟩
                  case measure => simp [intOf]; omega
                · have S5 : Hid (clr k (li.take (j + 1)) = false) := (show _ = _ by rw [S2.out, TC.out]; simp)
                  go_wp2_with (go_at_call 9; refine (MP.out _ BZ.out).mono ?_; rintro e1 w1 ⟨rfl, hb1⟩; have N5 : Hid (Below wz.heap.size wz w1) := hb1; have Z5 := hb1.size; have d0 : w1.cell? ⟨b3, o3 + j * 18, none⟩ = some (.int .i64 3) := (hb1.cell (p := ⟨b3, o3 + j * 18, none⟩) hb3).trans d0; have d8 : w1.cell? ⟨b3, o3 + j * 18 + 8, none⟩ = some (.int .i64 ql') := (hb1.cell (p := ⟨b3, o3 + j * 18 + 8, none⟩) hb3).trans d8; have d9 : w1.cell? ⟨b3, o3 + j * 18 + 9, none⟩ = some (.slice QA qs' QC) := (hb1.cell (p := ⟨b3, o3 + j * 18 + 9, none⟩) hb3).trans d9; have hb4 : b3 < w1.heap.size := Nat.lt_of_lt_of_le hb3 Z5; clear hb1)
                  go_roundw
                  case rel => exact ⟨j + 1, by omega, by go_num, by rw [S5.out]; simp, below_next N3.out N5.out⟩
                  case measure => simp [intOf]; omega
              · have g3 : (op == 3) = false := by simpa using e3
                by_cases e4 : op = 4
                · subst e4
                  cases mp
                  · have S5 : Hid (clr k (li.take (j + 1)) = q2) := (show _ = _ by rw [S2.out, TC.out]; simp)
                    go_wp2_with (go_at_call 9; refine (MP.out _ BZ.out).mono ?_; rintro e1 w1 ⟨rfl, hb1⟩; have N5 : Hid (Below wz.heap.size wz w1) := hb1; have Z5 := hb1.size; have d0 : w1.cell? ⟨b3, o3 + j * 18, none⟩ = some (.int .i64 4) := (hb1.cell (p := ⟨b3, o3 + j * 18, none⟩) hb3).trans d0; have d8 : w1.cell? ⟨b3, o3 + j * 18 + 8, none⟩ = some (.int .i64 ql') := (hb1.cell (p := ⟨b3, o3 + j * 18 + 8, none⟩) hb3).trans d8; have d9 : w1.cell? ⟨b3, o3 + j * 18 + 9, none⟩ = some (.slice QA qs' QC) := (hb1.cell (p := ⟨b3, o3 + j * 18 + 9, none⟩) hb3).trans d9; have hb4 : b3 < w1.heap.size := Nat.lt_of_lt_of_le hb3 Z5; clear hb1)
                    go_roundw
                    case rel => exact ⟨j + 1, by omega, by go_num, by rw [S5.out], below_next N3.out N5.out⟩
                    case measure => simp [intOf]; omega
                  · have S5 : Hid (clr k (li.take (j + 1)) = false) := (show _ = _ by rw [S2.out, TC.out]; simp)
                    go_wp2_with (go_at_call 9; refine (MP.out _ BZ.out).mono ?_; rintro e1 w1 ⟨rfl, hb1⟩; have N5 : Hid (Below wz.heap.size wz w1) := hb1; have Z5 := hb1.size; have d0 : w1.cell? ⟨b3, o3 + j * 18, none⟩ = some (.int .i64 4) := (hb1.cell (p := ⟨b3, o3 + j * 18, none⟩) hb3).trans d0; have d8 : w1.cell? ⟨b3, o3 + j * 18 + 8, none⟩ = some (.int .i64 ql') := (hb1.cell (p := ⟨b3, o3 + j * 18 + 8, none⟩) hb3).trans d8; have d9 : w1.cell? ⟨b3, o3 + j * 18 + 9, none⟩ = some (.slice QA qs' QC) := (hb1.cell (p := ⟨b3, o3 + j * 18 + 9, none⟩) hb3).trans d9; have hb4 : b3 < w1.heap.size := Nat.lt_of_lt_of_le hb3 Z5; clear hb1)
                    go_roundw
                    case rel => exact ⟨j + 1, by omega, by go_num, by rw [S5.out]; simp, below_next N3.out N5.out⟩
                    case measure => simp [intOf]; omega
                · have g4 : (op == 4) = false := by simpa using e4
                  by_cases e5 : op = 5
                  · subst e5
                    cases mp
                    · cases mq
                      · have S5 : Hid (clr k (li.take (j + 1)) = q2) := (show _ = _ by rw [S2.out, TC.out]; simp)
                        go_wp2_with (first | (go_at_call 9; refine (MQ.out _ N5.out).mono ?_; rintro e2 w2 ⟨rfl, hb2⟩; have N6 : Hid (Below wz.heap.size wz w2) := below_next N5.out hb2; clear hb2) | (go_at_call 9; refine (MP.out _ BZ.out).mono ?_; rintro e1 w1 ⟨rfl, hb1⟩; have N5 : Hid (Below wz.heap.size wz w1) := hb1; have Z5 := hb1.size; have d0 : w1.cell? ⟨b3, o3 + j * 18, none⟩ = some (.int .i64 5) := (hb1.cell (p := ⟨b3, o3 + j * 18, none⟩) hb3).trans d0; have d8 : w1.cell? ⟨b3, o3 + j * 18 + 8, none⟩ = some (.int .i64 ql') := (hb1.cell (p := ⟨b3, o3 + j * 18 + 8, none⟩) hb3).trans d8; have d9 : w1.cell? ⟨b3, o3 + j * 18 + 9, none⟩ = some (.slice QA qs' QC) := (hb1.cell (p := ⟨b3, o3 + j * 18 + 9, none⟩) hb3).trans d9; have hb4 : b3 < w1.heap.size := Nat.lt_of_lt_of_le hb3 Z5; clear hb1))
                        go_roundw
                        case rel => exact ⟨j + 1, by omega, by go_num, by rw [S5.out], below_next N3.out N6.out⟩
                        case measure => simp [intOf]; omega
                      · have S5 : Hid (clr k (li.take (j + 1)) = false) := (show _ = _ by rw [S2.out, TC.out]; simp)
                        go_wp2_with (first | (go_at_call 9; refine (MQ.out _ N5.out).mono ?_; rintro e2 w2 ⟨rfl, hb2⟩; have N6 : Hid (Below wz.heap.size wz w2) := below_next N5.out hb2; clear hb2) | (go_at_call 9; refine (MP.out _ BZ.out).mono ?_; rintro e1 w1 ⟨rfl, hb1⟩; have N5 : Hid (Below wz.heap.size wz w1) := hb1; have Z5 := hb1.size; have d0 : w1.cell? ⟨b3, o3 + j * 18, none⟩ = some (.int .i64 5) := (hb1.cell (p := ⟨b3, o3 + j * 18, none⟩) hb3).trans d0; have d8 : w1.cell? ⟨b3, o3 + j * 18 + 8, none⟩ = some (.int .i64 ql') := (hb1.cell (p := ⟨b3, o3 + j * 18 + 8, none⟩) hb3).trans d8; have d9 : w1.cell? ⟨b3, o3 + j * 18 + 9, none⟩ = some (.slice QA qs' QC) := (hb1.cell (p := ⟨b3, o3 + j * 18 + 9, none⟩) hb3).trans d9; have hb4 : b3 < w1.heap.size := Nat.lt_of_lt_of_le hb3 Z5; clear hb1))
                        go_roundw
                        case rel => exact ⟨j + 1, by omega, by go_num, by rw [S5.out]; simp, below_next N3.out N6.out⟩
                        case measure => simp [intOf]; omega
                    · have S5 : Hid (clr k (li.take (j + 1)) = false) := (show _ = _ by rw [S2.out, TC.out]; simp)
                      go_wp2_with (go_at_call 9; refine (MP.out _ BZ.out).mono ?_; rintro e1 w1 ⟨rfl, hb1⟩; have N5 : Hid (Below wz.heap.size wz w1) := hb1; have Z5 := hb1.size; have d0 : w1.cell? ⟨b3, o3 + j * 18, none⟩ = some (.int .i64 5) := (hb1.cell (p := ⟨b3, o3 + j * 18, none⟩) hb3).trans d0; have d8 : w1.cell? ⟨b3, o3 + j * 18 + 8, none⟩ = some (.int .i64 ql') := (hb1.cell (p := ⟨b3, o3 + j * 18 + 8, none⟩) hb3).trans d8; have d9 : w1.cell? ⟨b3, o3 + j * 18 + 9, none⟩ = some (.slice QA qs' QC) := (hb1.cell (p := ⟨b3, o3 + j * 18 + 9, none⟩) hb3).trans d9; have hb4 : b3 < w1.heap.size := Nat.lt_of_lt_of_le hb3 Z5; clear hb1)
                      go_roundw
                      case rel => exact ⟨j + 1, by omega, by go_num, by rw [S5.out]; simp, below_next N3.out N5.out⟩
                      case measure => simp [intOf]; omega
                  · have g5 : (op == 5) = false := by simpa using e5
                    by_cases e6 : op = 6
                    · subst e6
                      cases mp
                      · have S5 : Hid (clr k (li.take (j + 1)) = q2) := (show _ = _ by rw [S2.out, TC.out]; simp)
                        go_wp2_with (go_at_call 9; refine (MP.out _ BZ.out).mono ?_; rintro e1 w1 ⟨rfl, hb1⟩; have N5 : Hid (Below wz.heap.size wz w1) := hb1; have Z5 := hb1.size; have d0 : w1.cell? ⟨b3, o3 + j * 18, none⟩ = some (.int .i64 6) := (hb1.cell (p := ⟨b3, o3 + j * 18, none⟩) hb3).trans d0; have d8 : w1.cell? ⟨b3, o3 + j * 18 + 8, none⟩ = some (.int .i64 ql') := (hb1.cell (p := ⟨b3, o3 + j * 18 + 8, none⟩) hb3).trans d8; have d9 : w1.cell? ⟨b3, o3 + j * 18 + 9, none⟩ = some (.slice QA qs' QC) := (hb1.cell (p := ⟨b3, o3 + j * 18 + 9, none⟩) hb3).trans d9; have hb4 : b3 < w1.heap.size := Nat.lt_of_lt_of_le hb3 Z5; clear hb1)
                        go_roundw
                        case rel => exact ⟨j + 1, by omega, by go_num, by rw [S5.out], below_next N3.out N5.out⟩
                        case measure => simp [intOf]; omega
                      · have S5 : Hid (clr k (li.take (j + 1)) = false) := (show _ = _ by rw [S2.out, TC.out]; simp)
                        go_wp2_with (go_at_call 9; refine (MP.out _ BZ.out).mono ?_; rintro e1 w1 ⟨rfl, hb1⟩; have N5 : Hid (Below wz.heap.size wz w1) := hb1; have Z5 := hb1.size; have d0 : w1.cell? ⟨b3, o3 + j * 18, none⟩ = some (.int .i64 6) := (hb1.cell (p := ⟨b3, o3 + j * 18, none⟩) hb3).trans d0; have d8 : w1.cell? ⟨b3, o3 + j * 18 + 8, none⟩ = some (.int .i64 ql') := (hb1.cell (p := ⟨b3, o3 + j * 18 + 8, none⟩) hb3).trans d8; have d9 : w1.cell? ⟨b3, o3 + j * 18 + 9, none⟩ = some (.slice QA qs' QC) := (hb1.cell (p := ⟨b3, o3 + j * 18 + 9, none⟩) hb3).trans d9; have hb4 : b3 < w1.heap.size := Nat.lt_of_lt_of_le hb3 Z5; clear hb1)
                        go_roundw
                        case rel => exact ⟨j + 1, by omega, by go_num, by rw [S5.out]; simp, below_next N3.out N5.out⟩
                        case measure => simp [intOf]; omega
                    · have g6 : (op == 6) = false := by simpa using e6
                      by_cases e9 : op = 9
                      · subst e9
                        cases mp
                        · have S5 : Hid (clr k (li.take (j + 1)) = q2) := (show _ = _ by rw [S2.out, TC.out]; simp)
                          go_wp2_with (go_at_call 9; refine (MP.out _ BZ.out).mono ?_; rintro e1 w1 ⟨rfl, hb1⟩; have N5 : Hid (Below wz.heap.size wz w1) := hb1; have Z5 := hb1.size; have d0 : w1.cell? ⟨b3, o3 + j * 18, none⟩ = some (.int .i64 9) := (hb1.cell (p := ⟨b3, o3 + j * 18, none⟩) hb3).trans d0; have d8 : w1.cell? ⟨b3, o3 + j * 18 + 8, none⟩ = some (.int .i64 ql') := (hb1.cell (p := ⟨b3, o3 + j * 18 + 8, none⟩) hb3).trans d8; have d9 : w1.cell? ⟨b3, o3 + j * 18 + 9, none⟩ = some (.slice QA qs' QC) := (hb1.cell (p := ⟨b3, o3 + j * 18 + 9, none⟩) hb3).trans d9; have hb4 : b3 < w1.heap.size := Nat.lt_of_lt_of_le hb3 Z5; clear hb1)
                          go_roundw
                          case rel => exact ⟨j + 1, by omega, by go_num, by rw [S5.out], below_next N3.out N5.out⟩
                          case measure => simp [intOf]; omega
                        · have S5 : Hid (clr k (li.take (j + 1)) = false) := (show _ = _ by rw [S2.out, TC.out]; simp)
                          go_wp2_with (go_at_call 9; refine (MP.out _ BZ.out).mono ?_; rintro e1 w1 ⟨rfl, hb1⟩; have N5 : Hid (Below wz.heap.size wz w1) := hb1; have Z5 := hb1.size; have d0 : w1.cell? ⟨b3, o3 + j * 18, none⟩ = some (.int .i64 9) := (hb1.cell (p := ⟨b3, o3 + j * 18, none⟩) hb3).trans d0; have d8 : w1.cell? ⟨b3, o3 + j * 18 + 8, none⟩ = some (.int .i64 ql') := (hb1.cell (p := ⟨b3, o3 + j * 18 + 8, none⟩) hb3).trans d8; have d9 : w1.cell? ⟨b3, o3 + j * 18 + 9, none⟩ = some (.slice QA qs' QC) := (hb1.cell (p := ⟨b3, o3 + j * 18 + 9, none⟩) hb3).trans d9; have hb4 : b3 < w1.heap.size := Nat.lt_of_lt_of_le hb3 Z5; clear hb1)
                          go_roundw
                          case rel => exact ⟨j + 1, by omega, by go_num, by rw [S5.out]; simp, below_next N3.out N5.out⟩
                          case measure => simp [intOf]; omega
                      · have g9 : (op == 9) = false := by simpa using e9
                        have S5 : Hid (clr k (li.take (j + 1)) = q2) := (show _ = _ by rw [S2.out, TC.out]; simp [e3, e4, e5, e6, e9])
                        go_wp2
                        go_roundw
                        case rel => exact ⟨j + 1, by omega, by go_num, by rw [S5.out], N3.out⟩
                        case measure => simp [intOf]; omega
            · have hjz : ¬ (j : Int) < li.length := by omega
              have ET : Hid (clr k (li.take j) = clr k li) := (show _ = _ by rw [List.take_of_length_le (by omega)])
              generalize clr k (li.take j) = q2 at *
              go_wp2
              go_roundw
              case rel => exact ⟨i + 1, by omega, by go_num, by rw [S1.out, ← ET.out, Bool.and_assoc], below_next N2.out N3.out⟩
              case measure => simp [intOf]; omega
        · have hiz : ¬ (i : Int) < bs.length := by omega
          have ET : Hid ((decide (lk = 1) && clrs k (bs.take i)) = pl k) := (show _ = _ by rw [PK.out, List.take_of_length_le (by omega)])
          have O4 : Hid (OB (w.heap.size + 1) ((List.range k).map pl) (.slice Ao k Co) wy) := O1.out.below N2.out
          have N4 : Hid (Below (w.heap.size + 1) W0 wy) := N1.out.trans (N2.out.mono (by omega))
          have E4 : Hid ((List.range (k + 1)).map pl = (List.range k).map pl ++ [pl k]) := (show _ = _ by rw [List.range_succ, List.map_append]; rfl)
          have LL : Hid (((List.range k).map pl).length ≤ 10000) := (show _ ≤ _ by simp; omega)
          rw [ET.out]
          generalize pl k = q at *
          go_wp2_with (at_builtin; refine OB.app _ rfl _ _ rfl _ rfl q (O4.out.below (below_alloc _ _)) ⟨wy.heap.size, 0, none⟩ 1 rfl (fun j u hj => cells_new _ (bV q) 4 j u hj) LL.out ?_; intro v5 w5 ho hb _ _; have O5 : Hid (OB (w.heap.size + 1) ((List.range k).map pl ++ [q]) v5 w5) := ho; have N5 : Hid (Below (w.heap.size + 1) W0 w5) := (N4.out.trans ((below_alloc wy _).mono (by omega))).trans hb; clear ho hb)
          go_roundw
          case rel => exact ⟨k + 1, by omega, by go_num, by rw [E4.out]; exact O5.out, N5.out⟩
          case measure => simp [intOf]; omega
    · have hkz : ¬ (k : Int) < lo.length := by omega
      obtain rfl : k = lo.length := by omega
      go_wp2
      go_ret
      exact ⟨_, rfl, OwnB.lower O1.out (by omega), NW.out⟩
end Go.Proofs.YtjhgpddpkbgjeaaDoor
