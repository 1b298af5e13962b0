/-
  Proved: what asm.Assemble and asm.Place answer: the document's words and places, or its error.
-/
import Derived.Test.YtcdeckbobabdkaaAwlong
import Derived.Laws.MakeOwn
namespace Go.Proofs.Ytcdeckbobabdkaa
open Go.RowKit
set_option linter.unusedVariables false
set_option linter.unusedSimpArgs false
set_option maxRecDepth 20000

theorem OwnB.append_any {α : Type} (t e : TypeId) (enc : α → List Value) (z : Value) (size bytes : Nat) (hinfo : (Try.prog.info? e).map (fun i => (i.zero, i.size, i.bytes)) = some (some z, size, bytes)) (ht : Try.prog.underlying t = some (.slice e)) (hzs : z.cells.size = size) (hsz : 0 < size) (hb : bytes ≤ 1000)
    (he : ∀ a, (enc a).length = size) (hone : ∀ a, ∀ u ∈ enc a, u.oneCell' = true)
    (w : World) {ops : Array Oper} {rest : List Oper} {o : Oper} {a : Act} {Q : Exit → Act → World → Prop} (hgd : o.guard = none) (s x : Operand)
    (ho : o.op = .call { callee := .builtin .append, args := #[s, x], argTypes := #[t, t] })
    (v : Value) (hs : a.eval s = v) (base : Nat) (l m : List α) (hown : OwnB e size enc base l v w) (A : Option Addr) (C : Nat) (hx : a.eval x = .slice A m.length C)
    (hr : RowsIn w size enc m A) (hl : l.length + m.length ≤ 100000)
    (h : ∀ v' w', OwnB e size enc base (l ++ m) v' w' → Below base w w' → wpList Try.prog ops Q rest (a.put o.dst v') w') : wpList Try.prog ops Q (o :: rest) a w := by
  refine wpList_plain hgd fun K hK => ?_
  cases A with
  | none =>
    cases m with
    | nil => exact OwnB.append_nil t e enc z size bytes hinfo ht w s x ho v hs base l hown C hx (hK _ _ (h v w (by rw [List.append_nil]; exact hown) (Below.refl _ _)))
    | cons y m =>
      obtain ⟨b, o, e, _⟩ := hr 0 (by simp)
      cases e
  | some ad =>
    refine OwnB.append t e enc z size bytes hinfo ht hzs hsz hb he hone w s x ho v hs base l m hown ad C hx (fun j u hj => ?_) (by omega) fun v' w' h1 h2 => hK _ _ (h v' w' h1 h2)
    by_cases e : m.length = 0
    · rw [List.length_eq_zero_iff.1 e] at hj
      simp at hj
    · obtain ⟨b, o, e1, h2⟩ := rows_all he hr (by omega)
      cases e1
      exact h2 j u hj

theorem make_wc (n : Nat) (hn : n ≤ 100000) (w : World) : ∃ cs, (Instr.makeSlice 23 (.int .i64 0) (.int .i64 (n : Int))).run Try.prog w = .ok (.slice (some ⟨w.heap.size, 0, none⟩) 0 n) (w.alloc (.cells cs 36)) ∧ OwnB 36 1 wdC w.heap.size [] (.slice (some ⟨w.heap.size, 0, none⟩) 0 n) (w.alloc (.cells cs 36)) := by
  obtain ⟨i, hi, hz, hs, hb⟩ := info_parts' infoWd
  have hr := run_make (P := Try.prog) (w := w) 23 36 i _ Try.underlying23 hi hz .i64 .i64 0 n (by omega) (by omega) (by rw [hb]; omega) (by omega)
  rw [hs] at hr
  simp only [Int.toNat_natCast, Int.toNat_zero] at hr
  refine ⟨_, hr, by simp, ?_⟩
  refine ⟨rfl, Or.inr ⟨w.heap.size, n, _, rfl, Nat.le_refl _, At.new w _ _, Nat.zero_le _, by unfold maxLen; omega, size_madeCells _ _, by simp⟩⟩

theorem frm_kinds : ∀ (l : List Ln) (r : Int), frm r l = true → ∀ y ∈ l, 1 ≤ y.k ∧ y.k ≤ 5
  | [], _, _ => by simp
  | y :: t, r, h => by
    simp only [frm] at h
    by_cases e1 : y.k < 1 ∨ 5 < y.k
    · rw [if_pos e1] at h; cases h
    rw [if_neg e1] at h
    have ht : ∀ z ∈ t, 1 ≤ z.k ∧ z.k ≤ 5 := by
      by_cases e2 : y.k ≠ 5 ∨ y.n ≤ 0
      · rw [if_pos e2] at h
        exact frm_kinds t r h
      · rw [if_neg e2] at h
        by_cases e3 : r < y.n
        · rw [if_pos e3] at h; cases h
        · rw [if_neg e3] at h
          exact frm_kinds t _ h
    intro z hz
    rcases List.mem_cons.1 hz with rfl | hz
    · omega
    · exact ht z hz

/-- A line's words are as many as its bytes tell. -/
theorem wds_len {l : List Ln} {L : Nat → Bool} (hf : frmB l = true) (hL : ∀ j, L j = true → isB l j = true) {k : Nat} (hk : k < l.length) : 4 * ((wdsP l L k).length : Int) = atP l L (k + 1) - atP l L k := by
  have hy : l[k]? = some l[k] := List.getElem?_eq_getElem hk
  have hkk := frm_kinds l _ hf l[k] (List.getElem_mem hk)
  have hst : atP l L (k + 1) = atP l L k + (shB l[k] + if L k then 4 else 0) := by
    show atP l L k + (shA l k + if L k then 4 else 0) = _
    unfold shA
    rw [hy]
    rfl
  have hLb : L k = true → l[k].k = 3 := fun h => by
    have := hL k h
    rw [isB_at hy] at this
    simpa using this
  rw [hst]
  unfold wdsP shB
  rw [hy]
  simp only
  by_cases e1 : l[k].k = 1
  · have : L k = false := by cases h : L k with | false => rfl | true => have := hLb h; omega
    simp [e1, this]; omega
  by_cases e5 : l[k].k = 5
  · have : L k = false := by cases h : L k with | false => rfl | true => have := hLb h; omega
    simp [e5, this]; omega
  by_cases e4 : l[k].k = 4
  · have : L k = false := by cases h : L k with | false => rfl | true => have := hLb h; omega
    simp [e4, this]; omega
  by_cases e3 : l[k].k = 3
  · cases h : L k <;> simp [e3, h] <;> omega
  · have e2 : l[k].k = 2 := by omega
    have : L k = false := by cases h : L k with | false => rfl | true => have := hLb h; omega
    simp [e2, this]

/-- All words. -/
def asmW (l : List Ln) (L : Nat → Bool) (n : Nat) : List Int := (List.range n).flatMap (wdsP l L)
theorem asmW_succ (l : List Ln) (L : Nat → Bool) (n : Nat) : asmW l L (n + 1) = asmW l L n ++ wdsP l L n := by
  unfold asmW
  rw [List.range_succ, List.flatMap_append]
  simp
theorem asmW_len {l : List Ln} {L : Nat → Bool} (hf : frmB l = true) (hL : ∀ j, L j = true → isB l j = true) : ∀ n, n ≤ l.length → 4 * ((asmW l L n).length : Int) = atP l L n
  | 0, _ => rfl
  | n + 1, h => by
    rw [asmW_succ, List.length_append]
    have h1 := asmW_len hf hL n (by omega)
    have h2 := wds_len hf hL (k := n) (by omega)
    omega

theorem words_c (l : List Ln) (mb ab k : Nat) (L : Nat → Bool) (y : Ln) (hy : l[k]? = some y) (ok : LOk y) (w : World) (h : PlIn w l mb ab L) (hsm : Sml l) (hl : l.length ≤ 1000) (hk : 1 ≤ y.k ∧ y.k ≤ 5) (hn : y.k = 5 → y.n ≤ 20000) :
    Calls Try.prog 11 #[plV l mb ab, .int .i64 (k : Int), .agg (lnC y).toArray] w (WdR w (wdsP l L k)) := by
  unfold wdsP
  rw [hy]
  simp only
  by_cases e1 : y.k = 1
  · rw [if_pos e1]; exact words_insn l mb ab k L y hy ok w h hsm hl e1
  rw [if_neg e1]
  by_cases e5 : y.k = 5
  · rw [if_pos e5]; exact words_pad l mb ab k L y hy ok w h hsm hl e5 (hn e5)
  rw [if_neg e5]
  by_cases e4 : y.k = 4
  · rw [if_pos e4]; exact words_jump l mb ab k L y hy ok w h hsm hl e4
  rw [if_neg e4]
  by_cases e3 : y.k = 3
  · rw [if_pos e3]
    cases hL : L k with
    | false => exact words_short l mb ab k L y hy ok w h hsm hl e3 hL
    | true => exact words_long l mb ab k L y hy ok w h hsm hl e3 hL
  · rw [if_neg e3]; exact words_lab l mb ab k L y hy ok w h hsm hl (by omega)

/-- What Assemble tells. -/
def AsmR (l : List Ln) (w : World) (e : Ending) (w' : World) : Prop :=
  ((errP l ≠ 0 ∧ e = .returned (.tuple #[.slice none 0 0, .int .i64 (errP l)])) ∨
   (errP l = 0 ∧ ∃ A C L, Lst l L ∧ atP l L l.length ≤ 65536 ∧ e = .returned (.tuple #[.slice A (asmW l L l.length).length C, .int .i64 0]) ∧ RowsIn w' 1 wdC (asmW l L l.length) A)) ∧ Below w.heap.size w w'
/-- What Place tells. -/
def PlaR (l : List Ln) (w : World) (e : Ending) (w' : World) : Prop :=
  ((errP l ≠ 0 ∧ e = .returned (.tuple #[.slice none 0 0, .int .i64 0, .int .i64 (errP l)])) ∨
   (errP l = 0 ∧ ∃ ab L, Lst l L ∧ atP l L l.length ≤ 65536 ∧ e = .returned (.tuple #[.slice (some ⟨ab, 0, none⟩) l.length l.length, .int .i64 (atP l L l.length), .int .i64 0]) ∧ IZ w' ab (l.length + 1) (atP l L))) ∧ Below w.heap.size w w'

theorem err_frm {l : List Ln} (h : errP l = 0) : frmB l = true := by
  rcases errP_cases l with ⟨he, _⟩ | ⟨he, _⟩ | ⟨he, _⟩ | ⟨he, _⟩ | ⟨he, h1, _⟩
  · rw [he] at h; cases h
  · rw [he] at h; cases h
  · rw [he] at h; cases h
  · rw [he] at h; cases h
  · exact h1

set_option maxHeartbeats 4000000 in
theorem assemble_c (l : List Ln) (v : Value) (w : World) (h : LsIn w l v) (hl : l.length ≤ 1000) (hok : ∀ y ∈ l, LOk y) :
    Calls Try.prog 7 #[v] w (AsmR l w) := by
  have PC : Hid (Calls Try.prog 10 #[v] w fun e w' => ∃ pv, e = .returned (.tuple #[pv, .int .i64 (errP l)]) ∧ PlcR l w.heap.size pv w' ∧ Below w.heap.size w w') := place_c l v w h hl hok
  obtain ⟨A, C, rfl, hr⟩ := h
  have R : Hid (RowsIn w 8 lnC l A) := hr
  have OK : Hid (∀ y ∈ l, LOk y) := hok
  clear hr hok
  by_cases he : errP l = 0
  · have HE : Hid (errP l = 0) := he
    have PC2 : Hid (Calls Try.prog 10 #[.slice A l.length C] w fun e w' => ∃ mb ab L, e = .returned (.tuple #[plV l mb ab, .int .i64 0]) ∧ PlIn w' l mb ab L ∧ Lst l L ∧ atP l L l.length ≤ 65536 ∧ Below w.heap.size w w') := PC.out.mono fun e w' ⟨pv, h1, h2, h3⟩ => by
      rcases h2 with ⟨h4, _⟩ | ⟨h4, mb, ab, L, h5, h6, h7, h8, h9, _⟩
      · exact absurd he h4
      · rw [he, h5] at h1
        exact ⟨mb, ab, L, h1, ⟨h6, h7⟩, h8, h9, h3⟩
    have FR := err_frm he
    have SM := frm_sml FR
    clear PC he
    go_enter Try.func7, Try.ntmps7
    have FF : Hid (frmB l = true) := FR
    have SS : Hid (Sml l) := SM
    clear FR SM
    go_wp2_with (go_at_call 10; refine PC2.out.mono ?_; rintro e w1 ⟨mb, ab, L, rfl, hpl, hls, hsz, hb⟩; unfold plV; have B1 : Hid (Below w.heap.size w w1) := hb; have P1 : Hid (PlIn w1 l mb ab L) := hpl; have LS : Hid (Lst l L) := hls; have SZ : Hid (atP l L l.length ≤ 65536) := hsz; have cN : w1.cell? ⟨ab, l.length, none⟩ = some (.int .i64 (atP l L l.length)) := GZ.cell hpl.2 l.length (by omega); have zA : ab < w1.heap.size := GZ.lt hpl.2; have hlen : 4 * ((asmW l L l.length).length : Int) = atP l L l.length := asmW_len FF.out hls.1.1 l.length (Nat.le_refl _); have hq : wrap64 ((atP l L l.length).tdiv 4) = ((asmW l L l.length).length : Int) := (by rw [← hlen, Int.mul_tdiv_cancel_left _ (by decide)]; unfold wrap64; omega); obtain ⟨cs, hmk, hown⟩ := make_wc (asmW l L l.length).length (by omega) (w1.alloc (.cells #[.map (some mb), .slice (some ⟨ab, 0, none⟩) (l.length + 1) (l.length + 1)] 42)); have OW : Hid (OwnB 36 1 wdC (w1.alloc (.cells #[.map (some mb), .slice (some ⟨ab, 0, none⟩) (l.length + 1) (l.length + 1)] 42)).heap.size [] (.slice (some ⟨(w1.alloc (.cells #[.map (some mb), .slice (some ⟨ab, 0, none⟩) (l.length + 1) (l.length + 1)] 42)).heap.size, 0, none⟩) 0 (asmW l L l.length).length) ((w1.alloc (.cells #[.map (some mb), .slice (some ⟨ab, 0, none⟩) (l.length + 1) (l.length + 1)] 42)).alloc (.cells cs 36))) := hown; clear hb hpl hls hsz hown hlen)
    have AP : Hid (At (w1.alloc (.cells #[.map (some mb), .slice (some ⟨ab, 0, none⟩) (l.length + 1) (l.length + 1)] 42)) w1.heap.size #[.map (some mb), .slice (some ⟨ab, 0, none⟩) (l.length + 1) (l.length + 1)] 42) := At.new _ _ _
    have PI : Hid (PlIn (w1.alloc (.cells #[.map (some mb), .slice (some ⟨ab, 0, none⟩) (l.length + 1) (l.length + 1)] 42)) l mb ab L) := P1.out.below (below_alloc _ _)
    have B2 : Hid (Below w.heap.size w (w1.alloc (.cells #[.map (some mb), .slice (some ⟨ab, 0, none⟩) (l.length + 1) (l.length + 1)] 42))) := B1.out.trans ((below_alloc _ _).mono B1.out.size)
    have BX : Hid (Below (w1.alloc (.cells #[.map (some mb), .slice (some ⟨ab, 0, none⟩) (l.length + 1) (l.length + 1)] 42)).heap.size (w1.alloc (.cells #[.map (some mb), .slice (some ⟨ab, 0, none⟩) (l.length + 1) (l.length + 1)] 42)) ((w1.alloc (.cells #[.map (some mb), .slice (some ⟨ab, 0, none⟩) (l.length + 1) (l.length + 1)] 42)).alloc (.cells cs 36))) := below_alloc _ _
    have hsz2 : (w1.alloc (.cells #[.map (some mb), .slice (some ⟨ab, 0, none⟩) (l.length + 1) (l.length + 1)] 42)).heap.size = w1.heap.size + 1 := by simp
    have HS2 : Hid ((w1.alloc (.cells #[.map (some mb), .slice (some ⟨ab, 0, none⟩) (l.length + 1) (l.length + 1)] 42)).heap.size = w1.heap.size + 1) := hsz2
    rw [hsz2] at OW BX
    clear hsz2 hmk hq cN P1
    generalize w1.alloc (.cells #[.map (some mb), .slice (some ⟨ab, 0, none⟩) (l.length + 1) (l.length + 1)] 42) = W2 at *
    generalize W2.alloc (.cells cs 36) = W3 at *
    generalize hbase : w1.heap.size + 1 = base at *
    generalize hpb : w1.heap.size = pb at *
    generalize hntw : (asmW l L l.length).length = ntw at *
    have HNT : Hid ((asmW l L l.length).length = ntw) := hntw
    clear hntw
    have WLB : Hid (∀ i, i ≤ l.length → (asmW l L i).length ≤ 16384) := fun i hi => by
      have h1 := asmW_len FF.out LS.out.1.1 i hi
      have h2 := SZ.out
      have h3 := atP_step l L hi
      omega
    have WC : Hid (∀ (i : Nat) (y : Ln) (w' : World), l[i]? = some y → Below base W2 w' → Calls Try.prog 11 #[.agg #[.map (some mb), .slice (some ⟨ab, 0, none⟩) (l.length + 1) (l.length + 1)], .int .i64 (i : Int), .agg (lnC y).toArray] w' (WdR w' (wdsP l L i))) := fun i y w' hy hb => by
      refine words_c l mb ab i L y hy (OK.out y (List.mem_of_getElem? hy)) w' (PI.out.below (by rw [HS2.out]; exact hb)) SS.out hl (frm_kinds l _ FF.out y (List.mem_of_getElem? hy)) fun h5 => ?_
      have hi := (List.getElem?_eq_some_iff.1 hy).1
      have h2 := SZ.out
      have h3 := atP_step l L (show i + 1 ≤ l.length from hi)
      have h4 := atP_step l L (Nat.zero_le i)
      have h6 : atP l L (i + 1) = atP l L i + (shB y + if L i then 4 else 0) := by
        show atP l L i + (shA l i + if L i then 4 else 0) = _
        unfold shA
        rw [hy]
        rfl
      have h7 : shB y = 4 * max y.n 0 := by unfold shB; rw [if_neg (by omega), if_pos h5]
      simp only [atP] at h4
      have h8 : (0 : Int) ≤ if L i then 4 else 0 := by split <;> omega
      omega
    have BSZ : Hid (w.heap.size ≤ base) := (show _ ≤ _ by have := B2.out.size; have := HS2.out; omega)
    have PB : Hid (pb < base) := (show _ < _ by omega)
    clear hbase PC2 SS FF PI hpb HS2
    go_loopw [6, 27] (fun rv iv wr => ∃ i : Nat, i ≤ l.length ∧ iv = .int .i64 (i : Int) ∧ OwnB 36 1 wdC base (asmW l L i) rv wr ∧ Below base W2 wr) (fun _ iv _ => l.length - (intOf iv).toNat)
    case atStart => exact ⟨0, by omega, rfl, OW.out, BX.out⟩
    case round =>
      obtain ⟨i, hi, rfl, hown, hbl⟩ := hrel
      obtain ⟨Av, Cv, rfl, -⟩ := OwnB.shape wdC_len hown
      have hbw : Below w.heap.size w wr := B2.out.trans (hbl.mono BSZ.out)
      rcases Nat.lt_or_ge i l.length with hlt | hge
      · have hiz : (i : Int) < l.length := by omega
        obtain ⟨y, hy⟩ : ∃ y, l[i]? = some y := ⟨l[i], List.getElem?_eq_getElem hlt⟩
        obtain ⟨b1, o1, rfl, hb1, c0, c1, c2, c3, c4, c5, c6, c7⟩ := ln_cells R.out hbw i y hy
        have ap := AP.out.below hbl PB.out
        have d0 : wr.cell? ⟨pb, 0, none⟩ = some (.map (some mb)) := ap.cell 0
        have d1 : wr.cell? ⟨pb, 1, none⟩ = some (.slice (some ⟨ab, 0, none⟩) (l.length + 1) (l.length + 1)) := ap.cell 1
        have zp : pb < wr.heap.size := ap.lt
        have zb : base ≤ wr.heap.size := hown.1
        have BL : Hid (∀ o, Below base W2 (wr.alloc o)) := fun o => hbl.trans ((below_alloc _ _).mono zb)
        have ON : Hid (∀ o, OwnB 36 1 wdC base (asmW l L i) (.slice Av (asmW l L i).length Cv) (wr.alloc o)) := fun o => hown.below (below_alloc _ _)
        have WCi : Hid (∀ w', Below base W2 w' → Calls Try.prog 11 #[.agg #[.map (some mb), .slice (some ⟨ab, 0, none⟩) (l.length + 1) (l.length + 1)], .int .i64 (i : Int), .agg (lnC y).toArray] w' (WdR w' (wdsP l L i))) := fun w' hb => WC.out i y w' hy hb
        have LB : Hid ((asmW l L i).length + (wdsP l L i).length ≤ 16384) := (show _ ≤ _ by
          have := WLB.out (i + 1) hlt
          rw [asmW_succ, List.length_append] at this
          exact this)
        clear hown hbl hbw R OK AP WC ap hy WLB
        obtain ⟨k0, s, ⟨rd, q1, q2, im⟩, lb, n0⟩ := y
        simp only [lnC] at *
        go_wp2_with (first | (go_at_call 11; refine (WCi.out _ (BL.out _)).mono ?_; rintro e w5 ⟨A5, C5, rfl, hr5, hb5⟩; have R5 : Hid (RowsIn w5 1 wdC (wdsP l L i) A5) := hr5; have B5 : Hid (Below base W2 w5) := (BL.out _).trans (hb5.mono (by simp; omega)); have O5 : Hid (OwnB 36 1 wdC base (asmW l L i) (.slice Av (asmW l L i).length Cv) w5) := (ON.out _).below hb5; clear hr5 hb5) | (at_builtin; refine OwnB.append_any 23 36 wdC _ 1 4 infoWd Try.underlying23 rfl (by decide) (by decide) wdC_len wdC_one _ rfl _ _ rfl _ rfl base (asmW l L i) (wdsP l L i) O5.out A5 C5 rfl R5.out (by have := LB.out; omega) ?_; intro v6 w6 ho6 hb6; have O6 : Hid (OwnB 36 1 wdC base (asmW l L (i + 1)) v6 w6) := (show OwnB _ _ _ _ _ _ _ by rw [asmW_succ]; exact ho6); have B6 : Hid (Below base W2 w6) := B5.out.trans hb6; obtain ⟨A6, C6, rfl, -⟩ := OwnB.shape wdC_len ho6; clear ho6 hb6))
        go_roundw
        case rel => exact ⟨i + 1, by omega, by congr 1, (by have h9 := O6.out; rw [List.length_append] at h9; exact h9), B6.out⟩
        case measure => simp [intOf]; omega
      · have hiz : ¬ (i : Int) < l.length := by omega
        obtain rfl : i = l.length := by omega
        have RW : Hid (RowsIn wr 1 wdC (asmW l L l.length) Av) := OwnB.rows wdC_len hown
        have BW : Hid (Below w.heap.size w wr) := hbw
        clear hown hbl hbw R OK AP WC WLB
        go_wp2
        go_ret2
        exact ⟨Or.inr ⟨HE.out, Av, Cv, L, LS.out, SZ.out, rfl, RW.out⟩, BW.out⟩
  · have PC2 : Hid (Calls Try.prog 10 #[.slice A l.length C] w fun e w' => e = .returned (.tuple #[.agg #[.map none, .slice none 0 0], .int .i64 (errP l)]) ∧ Below w.heap.size w w') := PC.out.mono fun e w' ⟨pv, h1, h2, h3⟩ => by
      rcases h2 with ⟨h4, h5⟩ | ⟨h4, _⟩
      · rw [h5] at h1
        exact ⟨h1, h3⟩
      · exact absurd h4 he
    have HE : Hid (errP l ≠ 0) := he
    have he' : ¬ errP l = 0 := he
    generalize hee : errP l = ee at *
    have EE : Hid (errP l = ee) := hee
    clear PC he hee
    go_enter Try.func7, Try.ntmps7
    go_wp2_with (go_at_call 10; refine PC2.out.mono ?_; rintro e w1 ⟨rfl, hb⟩; have B1 : Hid (Below w.heap.size w w1) := hb; clear hb)
    go_ret2
    exact ⟨Or.inl ⟨by rw [EE.out]; exact HE.out, by rw [EE.out]; rfl⟩, B1.out.trans ((below_alloc _ _).mono B1.out.size)⟩

set_option maxHeartbeats 2000000 in
theorem pplace_c (l : List Ln) (v : Value) (w : World) (h : LsIn w l v) (hl : l.length ≤ 1000) (hok : ∀ y ∈ l, LOk y) :
    Calls Try.prog 8 #[v] w (PlaR l w) := by
  have PC : Hid (Calls Try.prog 10 #[v] w fun e w' => ∃ pv, e = .returned (.tuple #[pv, .int .i64 (errP l)]) ∧ PlcR l w.heap.size pv w' ∧ Below w.heap.size w w') := place_c l v w h hl hok
  obtain ⟨A, C, rfl, hr⟩ := h
  clear hr hok
  by_cases he : errP l = 0
  · have HE : Hid (errP l = 0) := he
    have PC2 : Hid (Calls Try.prog 10 #[.slice A l.length C] w fun e w' => ∃ mb ab L, e = .returned (.tuple #[plV l mb ab, .int .i64 0]) ∧ PlIn w' l mb ab L ∧ Lst l L ∧ atP l L l.length ≤ 65536 ∧ Below w.heap.size w w') := PC.out.mono fun e w' ⟨pv, h1, h2, h3⟩ => by
      rcases h2 with ⟨h4, _⟩ | ⟨h4, mb, ab, L, h5, h6, h7, h8, h9, _⟩
      · exact absurd he h4
      · rw [he, h5] at h1
        exact ⟨mb, ab, L, h1, ⟨h6, h7⟩, h8, h9, h3⟩
    clear PC he
    go_enter Try.func8, Try.ntmps8
    go_wp2_with (go_at_call 10; refine PC2.out.mono ?_; rintro e w1 ⟨mb, ab, L, rfl, hpl, hls, hsz, hb⟩; unfold plV; have B1 : Hid (Below w.heap.size w w1) := hb; have P1 : Hid (PlIn w1 l mb ab L) := hpl; have LS : Hid (Lst l L) := hls; have SZ : Hid (atP l L l.length ≤ 65536) := hsz; have cN : w1.cell? ⟨ab, l.length, none⟩ = some (.int .i64 (atP l L l.length)) := GZ.cell hpl.2 l.length (by omega); have zA : ab < w1.heap.size := GZ.lt hpl.2; clear hb hpl hls hsz)
    have hiz : (l.length : Int) < (l.length : Int) + 1 := by omega
    have hiz2 : (l.length : Int) ≤ (l.length : Int) + 1 := by omega
    have PI : Hid (∀ o nq, PlIn ((w1.alloc o).drewN nq) l mb ab L) := fun o nq => (P1.out.below (below_alloc _ _)).below (below_drewN _ _)
    have BB : Hid (∀ o nq, Below w.heap.size w ((w1.alloc o).drewN nq)) := fun o nq => drew_below (B1.out.trans ((below_alloc _ _).mono B1.out.size)) nq
    go_quiet (fail)
    go_wp2
    refine bodyPost_ret (v := .tuple #[.slice (some ⟨ab, 0, none⟩) l.length l.length, .int .i64 (atP l L l.length), .int .i64 0]) ?_ rfl ?_
    · simp only [results, show Try.f8.results = #[.tmp 2, .tmp 3, .tmp 4] from rfl]
      go_simp
    · exact ⟨Or.inr ⟨HE.out, ab, L, LS.out, SZ.out, rfl, (PI.out _ _).2⟩, BB.out _ _⟩
  · have PC2 : Hid (Calls Try.prog 10 #[.slice A l.length C] w fun e w' => e = .returned (.tuple #[.agg #[.map none, .slice none 0 0], .int .i64 (errP l)]) ∧ Below w.heap.size w w') := PC.out.mono fun e w' ⟨pv, h1, h2, h3⟩ => by
      rcases h2 with ⟨h4, h5⟩ | ⟨h4, _⟩
      · rw [h5] at h1
        exact ⟨h1, h3⟩
      · exact absurd h4 he
    have HE : Hid (errP l ≠ 0) := he
    have he' : ¬ errP l = 0 := he
    generalize hee : errP l = ee at *
    have EE : Hid (errP l = ee) := hee
    clear PC he hee
    go_enter Try.func8, Try.ntmps8
    go_wp2_with (go_at_call 10; refine PC2.out.mono ?_; rintro e w1 ⟨rfl, hb⟩; have B1 : Hid (Below w.heap.size w w1) := hb; clear hb)
    refine bodyPost_ret (v := .tuple #[.slice none 0 0, .int .i64 0, .int .i64 ee]) ?_ rfl ?_
    · simp only [results, show Try.f8.results = #[.tmp 2, .tmp 3, .tmp 4] from rfl]
      go_simp
    · exact ⟨Or.inl ⟨by rw [EE.out]; exact HE.out, by rw [EE.out]⟩, B1.out.trans ((below_alloc _ _).mono B1.out.size)⟩
end Go.Proofs.Ytcdeckbobabdkaa
