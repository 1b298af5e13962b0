/-
  Proved: what branchesOf answers: which lines are branches, how far they go while all are short, and how many stand ahead of their labels.
-/
import Derived.Test.YtcdeckbobabdkaaAplc
import Derived.Test.YtcdeckbobabdkaaAlab
import Derived.Laws.MakeOwn
namespace Go.Proofs.Ytcdeckbobabdkaa
open Go.RowKit
set_option linter.unusedVariables false
set_option linter.unusedSimpArgs false
set_option maxRecDepth 20000

theorem IZ.below {n : Nat} {w w' : World} {B m : Nat} {f : Nat → Int} (h : IZ w B m f) (k : Below n w w') (hn : B < n) : IZ w' B m f := GZ.below h k hn
theorem BZ.below {n : Nat} {w w' : World} {B m : Nat} {f : Nat → Bool} (h : BZ w B m f) (k : Below n w w') (hn : B < n) : BZ w' B m f := GZ.below h k hn

/-- A branch's cells. -/
def brC (l : List Ln) (j : Nat) : List Value := [.int .i64 (j : Int), .int .i64 (way l (fun _ => false) j), .int .i64 (cn (isB l) (goal l j) : Int)]
theorem brC_len (l : List Ln) (j : Nat) : (brC l j).length = 3 := rfl
theorem brC_one (l : List Ln) (j : Nat) : ∀ u ∈ brC l j, u.oneCell' = true := by
  intro u hu
  simp only [brC, List.mem_cons, List.not_mem_nil, or_false] at hu
  rcases hu with rfl | rfl | rfl <;> rfl
theorem infoBr : (Try.prog.info? 77).map (fun i => (i.zero, i.size, i.bytes)) = some (some (.agg #[.int .i64 0, .int .i64 0, .int .i64 0]), 3, 24) := by kernel_rfl
theorem make_br (n : Nat) (hn : n ≤ 100000) (w : World) : ∃ cs, (Instr.makeSlice 73 (.int .i64 0) (.int .i64 (n : Int))).run Try.prog w = .ok (.slice (some ⟨w.heap.size, 0, none⟩) 0 n) (w.alloc (.cells cs 77)) ∧ ∀ l, OwnB 77 3 (brC l) w.heap.size [] (.slice (some ⟨w.heap.size, 0, none⟩) 0 n) (w.alloc (.cells cs 77)) := by
  obtain ⟨i, hi, hz, hs, hb⟩ := info_parts' infoBr
  have hr := run_make (P := Try.prog) (w := w) 73 77 i _ Try.underlying73 hi hz .i64 .i64 0 n (by omega) (by omega) (by rw [hb]; omega) (by omega)
  rw [hs] at hr
  simp only [Int.toNat_natCast, Int.toNat_zero] at hr
  refine ⟨_, hr, fun l => ⟨by simp, ?_⟩⟩
  have := World.ownsRow_made (base := w.heap.size) (e := 77) (size := 3) w (madeCells (Value.agg #[.int .i64 0, .int .i64 0, .int .i64 0]).cells (n * 3)) n (Nat.le_refl _) (by unfold maxLen; omega) (size_madeCells _ _)
  refine ⟨rfl, Or.inr ⟨w.heap.size, n, _, rfl, Nat.le_refl _, At.new w _ _, Nat.zero_le _, by unfold maxLen; omega, size_madeCells _ _, by simp⟩⟩

theorem goal_in (l : List Ln) (j : Nat) (hj : j < l.length) : goal l j < l.length := by
  unfold goal
  cases e : (l[j]?).bind fun y => lbOf l y.lb.data.toList with
  | none => show 0 < _; omega
  | some g =>
    show g < _
    obtain ⟨y, _, h⟩ := Option.bind_eq_some_iff.1 e
    obtain ⟨z, hz, _⟩ := lbOf_lt h
    exact (List.getElem?_eq_some_iff.1 hz).1
theorem goal_at {l : List Ln} {j : Nat} {y : Ln} (hy : l[j]? = some y) : (((lbF l y.lb.data.toList).getD 0 : Int)) = (goal l j : Int) := by
  unfold goal lbF
  rw [hy]
  simp only [Option.bind_some]
  cases lbOf l y.lb.data.toList <;> rfl
theorem isB_at {l : List Ln} {j : Nat} {y : Ln} (hy : l[j]? = some y) : isB l j = decide (y.k = 3) := by
  unfold isB
  rw [hy]
  rfl
theorem filt_len (q : Nat → Bool) (p : Nat) : ((List.range p).filter q).length = cn q p := by
  induction p with
  | zero => rfl
  | succ p ih =>
    rw [List.range_succ, List.filter_append, List.length_append, ih]
    show cn q p + _ = cn q p + _
    congr 1
    cases h : q p <;> simp [h]

/-- Branches in memory. -/
def BrIn (w : World) (l : List Ln) (A : Option Addr) : Prop := RowsIn w 3 (brC l) ((List.range l.length).filter (isB l)) A

set_option maxHeartbeats 8000000 in
theorem branchesOf_c (l : List Ln) (v : Value) (mb : Nat) (w : World) (h : LsIn w l v) (hM : MapL w mb 1000 (lbF l)) (hl : l.length ≤ 1000) (hsm : Sml l) (hok : ∀ y ∈ l, LOk y) :
    Calls Try.prog 31 #[v, .map (some mb)] w fun e w' => ∃ A C, e = .returned (.tuple #[.slice A (cn (isB l) l.length) C, .int .i64 (atP l (fun _ => false) l.length)]) ∧ BrIn w' l A ∧ Below w.heap.size w w' := by
  obtain ⟨A, C, rfl, hr⟩ := h
  have R : Hid (RowsIn w 8 lnC l A) := hr
  have LV : Hid (LsIn w l (.slice A l.length C)) := ⟨A, C, rfl, hr⟩
  have MM : Hid (MapL w mb 1000 (lbF l)) := hM
  have SM : Hid (Sml l) := hsm
  have OK : Hid (∀ y ∈ l, LOk y) := hok
  clear hr hM hsm hok
  have hmb := make_b l.length (by omega)
  have hmk := make_i (l.length + 1) (by omega)
  have hc1 : ((l.length + 1 : Nat) : Int) = (l.length : Int) + 1 := by omega
  rw [hc1] at hmk
  go_enter Try.func31, Try.ntmps31
  go_wp2_with (go_at_call 19; refine (placesOf_c l _ w.heap.size l.length (fun _ => false) _ (LV.out.below (below_alloc _ _)) (BZ.made w _) (by omega) SM.out).mono ?_; rintro e w1 ⟨ab, rfl, hab, hz, hb⟩; have BW : Hid (Below w.heap.size w w1) := below_next (below_alloc _ _) hb; have A1 : Hid (IZ w1 ab (l.length + 1) (atP l (fun _ => false))) := hz; have LO : Hid (w.heap.size < ab) := (show _ < _ by have h5 := hab; simp at h5; omega); clear hb hz hab)
  have I0 : Hid (IZ (w1.alloc (.cells (madeCells #[.int .i64 0] (l.length + 1)) 3)) w1.heap.size (l.length + 1) (fun j => if j ≤ 0 then (cn (isB l) j : Int) else 0)) := (IZ.made w1 _).ext fun j _ => by
    split
    · obtain rfl : j = 0 := by omega
      rfl
    · rfl
  have W0 : Hid (Below w1.heap.size w1 (w1.alloc (.cells (madeCells #[.int .i64 0] (l.length + 1)) 3))) := below_alloc _ _
  have BS : Hid (w.heap.size ≤ w1.heap.size) := BW.out.size
  have ABL : Hid (ab < w1.heap.size) := GZ.lt A1.out
  generalize w1.alloc (.cells (madeCells #[.int .i64 0] (l.length + 1)) 3) = wa at *
  generalize hhb : w1.heap.size = hb at *
  clear hmk hmb
  go_loopw [25] (fun iv wr => ∃ i : Nat, i ≤ l.length ∧ iv = .int .i64 (i : Int) ∧ IZ wr hb (l.length + 1) (fun j => if j ≤ i then (cn (isB l) j : Int) else 0) ∧ Below hb w1 wr) (fun iv _ => l.length - (intOf iv).toNat)
  case atStart => exact ⟨0, by omega, rfl, I0.out, W0.out⟩
  case round =>
    obtain ⟨i, hi, rfl, hz, hbl⟩ := hrel
    have hbw : Below w.heap.size w wr := BW.out.trans (hbl.mono (by have := BS.out; omega))
    rcases Nat.lt_or_ge i l.length with hlt | hge
    · have hiz : (i : Int) < l.length := by omega
      obtain ⟨y, hy⟩ : ∃ y, l[i]? = some y := ⟨l[i], List.getElem?_eq_getElem hlt⟩
      obtain ⟨b1, o1, rfl, hb1, c0, c1, c2, c3, c4, c5, c6, c7⟩ := ln_cells R.out hbw i y hy
      have hq := isB_at hy
      have hcn : cn (isB l) (i + 1) = cn (isB l) i + if isB l i then 1 else 0 := rfl
      have hcl := cn_le (isB l) i
      have z1 : hb < wr.heap.size := GZ.lt hz
      have k1 := hz.below (below_alloc wr (.cells (lnC y).toArray 30)) z1
      have d0 := k1.cell i (by omega)
      have d1 := k1.cell (i + 1) (by omega)
      have hn : ¬ i + 1 ≤ i := by omega
      simp only [Nat.le_refl, hn, if_true, if_false] at d0 d1
      have f1 := k1.frozen (i + 1)
      have a1 : At (wr.alloc (.cells (lnC y).toArray 30)) wr.heap.size (lnC y).toArray 30 := At.new _ _ _
      have KB : Hid (∀ x, IZ (wr.setCell ⟨hb, i + 1, none⟩ (.int .i64 x)) hb (l.length + 1) (pu (fun j => if j ≤ i then (cn (isB l) j : Int) else 0) (i + 1) x) ∧ Below hb w1 (wr.setCell ⟨hb, i + 1, none⟩ (.int .i64 x))) := fun x =>
        ⟨hz.set (i + 1) (by omega) x, hbl.trans (Kp.below (Kp.set (F := fun c => c = hb) wr (b := hb) (i + 1) (.int .i64 x) rfl) (by omega) fun b hb => by omega)⟩
      have NX : Hid (∀ j, j < l.length + 1 → pu (fun j => if j ≤ i then (cn (isB l) j : Int) else 0) (i + 1) ((cn (isB l) i : Int) + if isB l i then 1 else 0) j = if j ≤ i + 1 then (cn (isB l) j : Int) else 0) := fun j hj => by
        unfold pu
        by_cases e : j = i + 1
        · subst e
          rw [if_pos rfl, if_pos (Nat.le_refl _), hcn]
          split <;> omega
        · rw [if_neg e]
          have : (j ≤ i) = (j ≤ i + 1) := by rw [eq_iff_iff]; omega
          simp only [this]
      have HQ : Hid (isB l i = decide (y.k = 3)) := hq
      have hiz3 : (i : Int) < (l.length : Int) + 1 := by omega
      have hiz4 : (i : Int) + 1 < (l.length : Int) + 1 := by omega
      clear hz hbl hbw R LV OK MM SM A1 BW hq hcn k1 a1 hy hn
      obtain ⟨k0, s, ⟨rd, q1, q2, im⟩, lb, n0⟩ := y
      simp only [lnC] at *
      generalize cn (isB l) i = c at *
      by_cases e3 : k0 = 3
      · subst e3
        have hQ : isB l i = true := HQ.out
        rw [hQ] at NX
        simp only [if_true] at NX
        obtain ⟨g1, g3⟩ := KB.out (c : Int)
        have zs : (wr.setCell ⟨hb, i + 1, none⟩ (.int .i64 (c : Int))).heap.size = wr.heap.size := by simp [World.setCell]
        have ZZ : Hid (IZ (((wr.setCell ⟨hb, i + 1, none⟩ (.int .i64 (c : Int))).setCell ⟨hb, i + 1, none⟩ (.int .i64 ((c : Int) + 1))).alloc (.cells #[.int .i64 3, .string s, .int .i64 rd, .int .i64 q1, .int .i64 q2, .int .i64 im, .string lb, .int .i64 n0] 30)) hb (l.length + 1) (fun j => if j ≤ i + 1 then (cn (isB l) j : Int) else 0)) := ((IZ.set g1 (i + 1) (by omega) _).below (below_alloc _ _) (by simp [World.setCell]; omega)).ext fun j hj => by
          rw [← NX.out j hj]
          unfold pu
          split <;> rfl
        have BB : Hid (Below hb w1 (((wr.setCell ⟨hb, i + 1, none⟩ (.int .i64 (c : Int))).setCell ⟨hb, i + 1, none⟩ (.int .i64 ((c : Int) + 1))).alloc (.cells #[.int .i64 3, .string s, .int .i64 rd, .int .i64 q1, .int .i64 q2, .int .i64 im, .string lb, .int .i64 n0] 30))) := (g3.trans (Kp.below (Kp.set (F := fun c => c = hb) _ (b := hb) (i + 1) _ rfl) (by simp [World.setCell]; omega) fun b hb => by omega)).trans ((below_alloc _ _).mono (by simp [World.setCell]; omega))
        have g4 := g1.below (below_alloc _ (.cells #[.int .i64 3, .string s, .int .i64 rd, .int .i64 q1, .int .i64 q2, .int .i64 im, .string lb, .int .i64 n0] 30)) (by rw [zs]; exact z1)
        have e1 : ((wr.setCell ⟨hb, i + 1, none⟩ (.int .i64 (c : Int))).alloc (.cells #[.int .i64 3, .string s, .int .i64 rd, .int .i64 q1, .int .i64 q2, .int .i64 im, .string lb, .int .i64 n0] 30)).cell? ⟨hb, i + 1, none⟩ = some (.int .i64 (c : Int)) := by
          have := GZ.cell g4 (i + 1) (by omega)
          simpa [pu] using this
        have f2 := GZ.frozen g4 (i + 1)
        clear g4 zs
        clear KB g1 g3 NX HQ hQ
        go_wp2
        go_roundw
        case rel => exact ⟨i + 1, by omega, by congr 1, ZZ.out, BB.out⟩
        case measure => simp [intOf]; omega
      · have hQ : isB l i = false := by rw [HQ.out]; simp [e3]
        rw [hQ] at NX
        simp only [Bool.false_eq_true, if_false] at NX
        obtain ⟨g1, g3⟩ := KB.out (c : Int)
        have ZZ : Hid (IZ ((wr.setCell ⟨hb, i + 1, none⟩ (.int .i64 (c : Int))).alloc (.cells #[.int .i64 k0, .string s, .int .i64 rd, .int .i64 q1, .int .i64 q2, .int .i64 im, .string lb, .int .i64 n0] 30)) hb (l.length + 1) (fun j => if j ≤ i + 1 then (cn (isB l) j : Int) else 0)) := (g1.below (below_alloc _ _) (by simp [World.setCell]; omega)).ext fun j hj => by
          rw [← NX.out j hj]
          unfold pu
          split
          · simp
          · rfl
        have BB : Hid (Below hb w1 ((wr.setCell ⟨hb, i + 1, none⟩ (.int .i64 (c : Int))).alloc (.cells #[.int .i64 k0, .string s, .int .i64 rd, .int .i64 q1, .int .i64 q2, .int .i64 im, .string lb, .int .i64 n0] 30))) := g3.trans ((below_alloc _ _).mono (by simp [World.setCell]; omega))
        clear KB g1 g3 NX HQ hQ
        go_wp2
        go_roundw
        case rel => exact ⟨i + 1, by omega, by congr 1, ZZ.out, BB.out⟩
        case measure => simp [intOf]; omega
    · have hiz : ¬ (i : Int) < l.length := by omega
      obtain rfl : i = l.length := by omega
      have hz2 : IZ wr hb (l.length + 1) (fun j => (cn (isB l) j : Int)) := hz.ext fun j hj => by
        have : j ≤ l.length := by omega
        simp [this]
      have HZ : Hid (IZ wr hb (l.length + 1) (fun j => (cn (isB l) j : Int))) := hz2
      have AZ : Hid (IZ wr ab (l.length + 1) (atP l (fun _ => false))) := A1.out.below hbl ABL.out
      have BV : Hid (Below w.heap.size w wr) := hbw
      have cN : wr.cell? ⟨hb, l.length, none⟩ = some (.int .i64 (cn (isB l) l.length : Int)) := GZ.cell hz2 l.length (by omega)
      have hcl : cn (isB l) l.length ≤ l.length := cn_le _ _
      have HBL : Hid (hb < wr.heap.size) := GZ.lt hz2
      have ABL2 : Hid (ab < wr.heap.size) := GZ.lt AZ.out
      obtain ⟨cs, hmk3, hown⟩ := make_br (cn (isB l) l.length) (by omega) wr
      have OW : Hid (OwnB 77 3 (brC l) wr.heap.size [] (.slice (some ⟨wr.heap.size, 0, none⟩) 0 (cn (isB l) l.length)) (wr.alloc (.cells cs 77))) := hown l
      have hiz3 : (l.length : Int) < (l.length : Int) + 1 := by omega
      have HCN : Hid (cn (isB l) l.length ≤ l.length) := hcl
      clear hz hz2 hbl hbw A1 BW hown hcl I0 W0
      generalize hm : cn (isB l) l.length = m at *
      have HMM : Hid (cn (isB l) l.length = m) := hm
      clear hm
      go_wp2
      have BX : Hid (Below wr.heap.size wr (wr.alloc (.cells cs 77))) := below_alloc _ _
      generalize wr.alloc (.cells cs 77) = wz0 at *
      generalize hbase : wr.heap.size = base at *
      have HBS : Hid (wr.heap.size = base) := hbase
      clear hbase cN hmk3
      generalize hW : wr = W2 at *
      clear hW
      go_loopw [10, 57] (fun rv iv wr => ∃ i : Nat, i ≤ l.length ∧ iv = .int .i64 (i : Int) ∧ OwnB 77 3 (brC l) base ((List.range i).filter (isB l)) rv wr ∧ Below base W2 wr) (fun _ iv _ => l.length - (intOf iv).toNat)
      case atStart => exact ⟨0, by omega, rfl, OW.out, BX.out⟩
      case round =>
        obtain ⟨i, hi, rfl, hown, hbl⟩ := hrel
        obtain ⟨Av, Cv, rfl, -⟩ := OwnB.shape (brC_len l) hown
        have hbw : Below w.heap.size w wr := BV.out.trans (hbl.mono (by have := HBS.out; have := BV.out.size; omega))
        rw [filt_len] at *
        rcases Nat.lt_or_ge i l.length with hlt | hge
        · have hiz : (i : Int) < l.length := by omega
          obtain ⟨y, hy⟩ : ∃ y, l[i]? = some y := ⟨l[i], List.getElem?_eq_getElem hlt⟩
          obtain ⟨b1, o1, rfl, hb1, c0, c1, c2, c3, c4, c5, c6, c7⟩ := ln_cells R.out hbw i y hy
          have hlb := (OK.out y (List.mem_of_getElem? hy)).2
          have hq := isB_at hy
          have hrg : (List.range (i + 1)).filter (isB l) = (List.range i).filter (isB l) ++ if isB l i then [i] else [] := by
            rw [List.range_succ, List.filter_append]
            congr 1
            cases hbq : isB l i <;> simp [hbq]
          have hfl := filt_len (isB l) i
          have hcl := cn_le (isB l) i
          have z1 : base ≤ wr.heap.size := by have := hbl.size; have := HBS.out; omega
          have BWL : Hid (Below base W2 (wr.alloc (.cells (lnC y).toArray 30))) := hbl.trans ((below_alloc _ _).mono z1)
          have OWL : Hid (OwnB 77 3 (brC l) base ((List.range i).filter (isB l)) (.slice Av (cn (isB l) i) Cv) (wr.alloc (.cells (lnC y).toArray 30))) := hown.below (below_alloc _ _)
          by_cases e3 : y.k = 3
          · have hQ : isB l i = true := by rw [hq]; simp [e3]
            rw [hQ, if_pos rfl] at hrg
            have hrg2 : Hid ((List.range (i + 1)).filter (isB l) = (List.range i).filter (isB l) ++ [i]) := hrg
            have lk := ((MM.out.below hbw).below (below_alloc wr (.cells (lnC y).toArray 30))).look1 hlb
            rw [goal_at hy] at lk
            have hgl := goal_in l i hlt
            have p1 := atP_in SM.out (fun _ => false) (p := goal l i) (by omega)
            have p2 := atP_in SM.out (fun _ => false) (p := i) (by omega)
            have hcg := cn_le (isB l) (goal l i)
            have wz1 : IntKind.i64.wrap (atP l (fun _ => false) (goal l i) - atP l (fun _ => false) i) = atP l (fun _ => false) (goal l i) - atP l (fun _ => false) i := wrap_in _ (by omega)
            have SG0 : Hid (∀ w', Below base W2 w' → w'.cell? ⟨ab, goal l i, none⟩ = some (.int .i64 (atP l (fun _ => false) (goal l i))) ∧ w'.cell? ⟨ab, i, none⟩ = some (.int .i64 (atP l (fun _ => false) i)) ∧ w'.cell? ⟨hb, goal l i, none⟩ = some (.int .i64 (cn (isB l) (goal l i) : Int))) := fun w' hw' => by
              have a1 : IZ w' ab _ _ := AZ.out.below hw' (by have := ABL2.out; have := HBS.out; omega)
              have a2 : IZ w' hb _ _ := HZ.out.below hw' (by have := HBL.out; have := HBS.out; omega)
              exact ⟨GZ.cell a1 _ (by omega), GZ.cell a1 _ (by omega), GZ.cell a2 _ (by omega)⟩
            have SF : Hid (∀ w', Below (wr.alloc (.cells (lnC y).toArray 30)).drew.heap.size (wr.alloc (.cells (lnC y).toArray 30)).drew w' → w'.cell? ⟨ab, goal l i, none⟩ = some (.int .i64 (atP l (fun _ => false) (goal l i))) ∧ w'.cell? ⟨ab, i, none⟩ = some (.int .i64 (atP l (fun _ => false) i)) ∧ w'.cell? ⟨hb, goal l i, none⟩ = some (.int .i64 (cn (isB l) (goal l i) : Int))) := fun w' hw' => SG0.out w' (((BWL.out).trans ((below_drew _).mono (by simp; omega))).trans (hw'.mono (by simp [World.drew]; omega)))
            have SG : Hid (∀ w5 o, Below base ((wr.alloc (.cells (lnC y).toArray 30)).drew.alloc o) w5 → Below base W2 w5) := fun w5 o h5 => ((BWL.out.trans ((below_drew _).mono (by simp; omega))).trans ((below_alloc _ _).mono (by simp [World.drew]; omega))).trans h5
            have ON : Hid (∀ o, OwnB 77 3 (brC l) base ((List.range i).filter (isB l)) (.slice Av (cn (isB l) i) Cv) ((wr.alloc (.cells (lnC y).toArray 30)).drew.alloc o)) := fun o => (OWL.out.below (below_drew _)).below (below_alloc _ _)
            have BE : Hid (brC l i = [.int .i64 (i : Int), .int .i64 (atP l (fun _ => false) (goal l i) - atP l (fun _ => false) i), .int .i64 (cn (isB l) (goal l i) : Int)]) := rfl
            have BL : Hid (((List.range i).filter (isB l)).length ≤ 1000) := (show _ ≤ _ by rw [hfl]; omega)
            have hiz3 : (i : Int) < (l.length : Int) + 1 := by omega
            have hiz5 : (goal l i : Int) < (l.length : Int) + 1 := by omega
            clear hown hbl hbw R LV OK MM SM BWL OWL hq hQ hfl hcl hrg hy HZ AZ BV
            obtain ⟨k0, s, ⟨rd, q1, q2, im⟩, lb, n0⟩ := y
            simp only [lnC] at *
            subst e3
            generalize hgg : goal l i = g at *
            generalize hcgg : (cn (isB l) g : Int) = cg at *
            generalize hpg : atP l (fun _ => false) g = pg at *
            generalize hpi : atP l (fun _ => false) i = pi at *
            generalize cn (isB l) i = bn at *
            clear hgg hcgg hpg hpi
            go_wp2
            generalize hwd0 : wr.alloc (.cells #[.int .i64 3, .string s, .int .i64 rd, .int .i64 q1, .int .i64 q2, .int .i64 im, .string lb, .int .i64 n0] 30) = wl at *
            clear hwd0
            refine wp_region_N (fun w' => w'.cell? ⟨ab, g, none⟩ = some (.int .i64 pg) ∧ w'.cell? ⟨ab, i, none⟩ = some (.int .i64 pi) ∧ w'.cell? ⟨hb, g, none⟩ = some (.int .i64 cg)) (fun _ => true) mixedA (SF.out _ (Below.refl _ _)) ?_
            intro S0
            generalize wl.drew = wd at *
            refine wpAnyN_take (i := 0) (v := ?_) rfl (by kernel_rfl) (by kernel_rfl) (by kernel_rfl) (by kernel_rfl) (fun _ _ _ h => h) (Or.inl ⟨by rfl, ?_⟩) S0 ?_
            rotate_left
            · intro w' hS'
              obtain ⟨h0, h1, h2⟩ := hS'
              (try go_simp)
              first | done | exact rfl | exact ⟨rfl, rfl⟩
            (try simp only [Act.put, List.getElem_toArray, List.getElem_cons_zero, List.setIfInBounds_toArray, List.set_cons_zero, List.set_cons_succ])
            refine wpAnyN_take (i := 1) (v := ?_) rfl (by kernel_rfl) (by kernel_rfl) (by kernel_rfl) (by kernel_rfl) (fun _ _ _ h => h) (Or.inl ⟨by rfl, ?_⟩) S0 ?_
            rotate_left
            · intro w' hS'
              obtain ⟨h0, h1, h2⟩ := hS'
              (try go_simp)
              first | done | exact rfl | exact ⟨rfl, rfl⟩
            (try simp only [Act.put, List.getElem_toArray, List.getElem_cons_succ, List.getElem_cons_zero, List.setIfInBounds_toArray, List.set_cons_zero, List.set_cons_succ])
            refine wpAnyN_take (i := 2) (v := ?_) rfl (by kernel_rfl) (by kernel_rfl) (by kernel_rfl) (by kernel_rfl) (fun _ _ _ h => h) (Or.inl ⟨by rfl, ?_⟩) S0 ?_
            rotate_left
            · intro w' hS'
              obtain ⟨h0, h1, h2⟩ := hS'
              (try go_simp)
              first | done | exact rfl | exact ⟨rfl, rfl⟩
            (try simp only [Act.put, List.getElem_toArray, List.getElem_cons_succ, List.getElem_cons_zero, List.setIfInBounds_toArray, List.set_cons_zero, List.set_cons_succ])
            refine wpAnyN_take (i := 3) (v := ?_) rfl (by kernel_rfl) (by kernel_rfl) (by kernel_rfl) (by kernel_rfl) (fun _ _ _ h => h) (Or.inl ⟨by rfl, ?_⟩) S0 ?_
            rotate_left
            · intro w' hS'
              obtain ⟨h0, h1, h2⟩ := hS'
              (try go_simp)
              first | done | exact rfl | exact ⟨rfl, rfl⟩
            (try simp only [Act.put, List.getElem_toArray, List.getElem_cons_succ, List.getElem_cons_zero, List.setIfInBounds_toArray, List.set_cons_zero, List.set_cons_succ])
            refine wpAnyN_take (i := 4) (v := ?_) rfl (by kernel_rfl) (by kernel_rfl) (by kernel_rfl) (by kernel_rfl) (fun _ _ _ h => h) (Or.inl ⟨by rfl, ?_⟩) S0 ?_
            rotate_left
            · intro w' hS'
              obtain ⟨h0, h1, h2⟩ := hS'
              (try go_simp)
              first | done | exact rfl | exact ⟨rfl, rfl⟩
            (try simp only [Act.put, List.getElem_toArray, List.getElem_cons_succ, List.getElem_cons_zero, List.setIfInBounds_toArray, List.set_cons_zero, List.set_cons_succ])
            refine wpAnyN_take (i := 5) (v := ?_) rfl (by kernel_rfl) (by kernel_rfl) (by kernel_rfl) (by kernel_rfl) (fun _ _ _ h => h) (Or.inl ⟨by rfl, ?_⟩) S0 ?_
            rotate_left
            · intro w' hS'
              obtain ⟨h0, h1, h2⟩ := hS'
              (try go_simp)
              first | done | exact rfl | exact ⟨rfl, rfl⟩
            (try simp only [Act.put, List.getElem_toArray, List.getElem_cons_succ, List.getElem_cons_zero, List.setIfInBounds_toArray, List.set_cons_zero, List.set_cons_succ])
            refine wpAnyN_take (i := 6) (v := ?_) rfl (by kernel_rfl) (by kernel_rfl) (by kernel_rfl) (by kernel_rfl) (fun _ _ _ h => h) (Or.inl ⟨by rfl, ?_⟩) S0 ?_
            rotate_left
            · intro w' hS'
              obtain ⟨h0, h1, h2⟩ := hS'
              (try go_simp)
              first | done | exact rfl | exact ⟨rfl, rfl⟩
            (try simp only [Act.put, List.getElem_toArray, List.getElem_cons_succ, List.getElem_cons_zero, List.setIfInBounds_toArray, List.set_cons_zero, List.set_cons_succ])
            refine wpAnyN_take (i := 7) (v := ?_) rfl (by kernel_rfl) (by kernel_rfl) (by kernel_rfl) (by kernel_rfl) (fun _ _ _ h => h) (Or.inl ⟨by rfl, ?_⟩) S0 ?_
            rotate_left
            · intro w' hS'
              obtain ⟨h0, h1, h2⟩ := hS'
              (try go_simp)
              first | done | exact rfl | exact ⟨rfl, rfl⟩
            (try simp only [Act.put, List.getElem_toArray, List.getElem_cons_succ, List.getElem_cons_zero, List.setIfInBounds_toArray, List.set_cons_zero, List.set_cons_succ])
            refine wpAnyN_take (i := 8) (v := ?_) rfl (by kernel_rfl) (by kernel_rfl) (by kernel_rfl) (by kernel_rfl) (fun _ _ _ h => h) (Or.inl ⟨by rfl, ?_⟩) S0 ?_
            rotate_left
            · intro w' hS'
              obtain ⟨h0, h1, h2⟩ := hS'
              (try go_simp)
              first | done | exact rfl | exact ⟨rfl, rfl⟩
            (try simp only [Act.put, List.getElem_toArray, List.getElem_cons_succ, List.getElem_cons_zero, List.setIfInBounds_toArray, List.set_cons_zero, List.set_cons_succ])
            refine wpAnyN_take (i := 9) (v := ?_) rfl (by kernel_rfl) (by kernel_rfl) (by kernel_rfl) (by kernel_rfl) (fun _ _ _ h => h) (Or.inl ⟨by rfl, ?_⟩) S0 ?_
            rotate_left
            · intro w' hS'
              obtain ⟨h0, h1, h2⟩ := hS'
              (try go_simp)
              first | done | exact rfl | exact ⟨rfl, rfl⟩
            (try simp only [Act.put, List.getElem_toArray, List.getElem_cons_succ, List.getElem_cons_zero, List.setIfInBounds_toArray, List.set_cons_zero, List.set_cons_succ])
            refine wpAnyN_take (i := 10) (v := ?_) rfl (by kernel_rfl) (by kernel_rfl) (by kernel_rfl) (by kernel_rfl) (fun _ _ _ h => h) (Or.inl ⟨by rfl, ?_⟩) S0 ?_
            rotate_left
            · intro w' hS'
              obtain ⟨h0, h1, h2⟩ := hS'
              (try go_simp)
              first | done | exact rfl | exact ⟨rfl, rfl⟩
            (try simp only [Act.put, List.getElem_toArray, List.getElem_cons_succ, List.getElem_cons_zero, List.setIfInBounds_toArray, List.set_cons_zero, List.set_cons_succ])
            refine wpAnyN_take (i := 11) (v := ?_) rfl (by kernel_rfl) (by kernel_rfl) (by kernel_rfl) (by kernel_rfl) (fun _ _ _ h => h) (Or.inl ⟨by rfl, ?_⟩) S0 ?_
            rotate_left
            · intro w' hS'
              obtain ⟨h0, h1, h2⟩ := hS'
              (try go_simp)
              first | done | exact rfl | exact ⟨rfl, rfl⟩
            (try simp only [Act.put, List.getElem_toArray, List.getElem_cons_succ, List.getElem_cons_zero, List.setIfInBounds_toArray, List.set_cons_zero, List.set_cons_succ])
            refine wpAnyN_take (i := 12) (v := ?_) rfl (by kernel_rfl) (by kernel_rfl) (by kernel_rfl) (by kernel_rfl) (fun _ _ _ h => h) (Or.inl ⟨by rfl, ?_⟩) S0 ?_
            rotate_left
            · intro w' hS'
              obtain ⟨h0, h1, h2⟩ := hS'
              (try go_simp)
              first | done | exact rfl | exact ⟨rfl, rfl⟩
            (try simp only [Act.put, List.getElem_toArray, List.getElem_cons_succ, List.getElem_cons_zero, List.setIfInBounds_toArray, List.set_cons_zero, List.set_cons_succ])
            refine wpAnyN_take (i := 13) (v := ?_) rfl (by kernel_rfl) (by kernel_rfl) (by kernel_rfl) (by kernel_rfl) (fun _ _ _ h => h) (Or.inl ⟨by rfl, ?_⟩) S0 ?_
            rotate_left
            · intro w' hS'
              obtain ⟨h0, h1, h2⟩ := hS'
              (try go_simp)
              first | done | exact rfl | exact ⟨rfl, rfl⟩
            (try simp only [Act.put, List.getElem_toArray, List.getElem_cons_succ, List.getElem_cons_zero, List.setIfInBounds_toArray, List.set_cons_zero, List.set_cons_succ])
            refine wpAnyN_take (i := 14) (v := ?_) rfl (by kernel_rfl) (by kernel_rfl) (by kernel_rfl) (by kernel_rfl) (fun _ _ _ h => h) (Or.inl ⟨by rfl, ?_⟩) S0 ?_
            rotate_left
            · intro w' hS'
              obtain ⟨h0, h1, h2⟩ := hS'
              (try go_simp)
              first | done | exact rfl | exact ⟨rfl, rfl⟩
            (try simp only [Act.put, List.getElem_toArray, List.getElem_cons_succ, List.getElem_cons_zero, List.setIfInBounds_toArray, List.set_cons_zero, List.set_cons_succ])
            refine wpAnyN_take (i := 15) (v := ?_) rfl (by kernel_rfl) (by kernel_rfl) (by kernel_rfl) (by kernel_rfl) (fun _ _ _ h => h) (Or.inl ⟨by rfl, ?_⟩) S0 ?_
            rotate_left
            · intro w' hS'
              obtain ⟨h0, h1, h2⟩ := hS'
              (try go_simp)
              first | done | exact rfl | exact ⟨rfl, rfl⟩
            (try simp only [Act.put, List.getElem_toArray, List.getElem_cons_succ, List.getElem_cons_zero, List.setIfInBounds_toArray, List.set_cons_zero, List.set_cons_succ])
            refine wpAnyN_one (i := 16) (by kernel_rfl) rfl (fun K hK => ?_)
            go_simp
            have BZ : Below wd.heap.size wd (wd.alloc (.cells #[.int .i64 (i : Int), .int .i64 (pg - pi), .int .i64 cg] 77)) := below_alloc _ _
            refine hK _ _ (fun _ => SF.out _ BZ) ?_
            clear hK K
            (try simp only [Act.put, List.getElem_toArray, List.getElem_cons_succ, List.getElem_cons_zero, List.setIfInBounds_toArray, List.set_cons_zero, List.set_cons_succ])
            refine wpAnyN_one (i := 17) (by kernel_rfl) rfl (fun K hK => ?_)
            rw [if_pos (by rfl)]
            refine OwnB.appendN 73 77 (brC l) _ 3 24 infoBr Try.underlying73 rfl (by decide) (by decide) (brC_len l) (brC_one l) _ _ _ rfl (.slice Av bn Cv) (by rfl) base ((List.range i).filter (isB l)) [i] (ON.out _) ⟨wd.heap.size, 0, none⟩ 1 (by rfl) (fun j u hj => cells_new _ _ 77 j u (by rw [← BE.out]; simpa using hj)) (by have := BL.out; simp; omega) ?_
            intro v5 w5 ho hb5 hk5 hv5
            have S5 := SG0.out w5 (SG.out _ _ hb5)
            have O5 : Hid (OwnB 77 3 (brC l) base ((List.range i).filter (isB l) ++ [i]) v5 w5) := ho
            have B5 : Hid (Below base (wd.alloc (.cells #[.int .i64 (i : Int), .int .i64 (pg - pi), .int .i64 cg] 77)) w5) := hb5
            clear ho hb5 hk5 hv5
            refine hK _ _ (fun _ => S5) ?_
            clear hK K
            (try simp only [Act.put, List.getElem_toArray, List.getElem_cons_succ, List.getElem_cons_zero, List.setIfInBounds_toArray, List.set_cons_zero, List.set_cons_succ])
            refine wpAnyN_take (i := 18) (v := ?_) rfl (by kernel_rfl) (by kernel_rfl) (by kernel_rfl) (by kernel_rfl) (fun _ _ _ h => h) (Or.inl ⟨by rfl, ?_⟩) S5 ?_
            rotate_left
            · intro w' hS'
              obtain ⟨h0, h1, h2⟩ := hS'
              (try go_simp)
              first | done | exact rfl | exact ⟨rfl, rfl⟩
            (try simp only [Act.put, List.getElem_toArray, List.getElem_cons_succ, List.getElem_cons_zero, List.setIfInBounds_toArray, List.set_cons_zero, List.set_cons_succ])
            refine wpAnyN_done (by kernel_rfl) ?_ _
            have O6 : Hid (OwnB 77 3 (brC l) base ((List.range (i + 1)).filter (isB l)) v5 w5) := (show OwnB _ _ _ _ _ _ _ by rw [hrg2.out]; exact O5.out)
            obtain ⟨A5, C5, rfl, -⟩ := OwnB.shape (brC_len l) O5.out
            have B6 : Hid (Below base W2 w5) := SG.out _ _ B5.out
            clear O5 B5 S5 SF SG SG0 ON BE BL BZ hrg2 S0
            go_wp2
            go_roundw
            case rel => exact ⟨i + 1, by omega, by congr 1, O6.out, B6.out⟩
            case measure => simp [intOf]; omega
          · have hQ : isB l i = false := by rw [hq]; simp [e3]
            rw [hQ] at hrg
            simp only [Bool.false_eq_true, if_false, List.append_nil] at hrg
            have O6 : Hid (OwnB 77 3 (brC l) base ((List.range (i + 1)).filter (isB l)) (.slice Av (cn (isB l) i) Cv) (wr.alloc (.cells (lnC y).toArray 30))) := (show OwnB _ _ _ _ _ _ _ by rw [hrg]; exact OWL.out)
            clear hown hbl hbw R LV OK MM SM OWL hq hQ hfl hcl hrg hy HZ AZ BV
            obtain ⟨k0, s, ⟨rd, q1, q2, im⟩, lb, n0⟩ := y
            simp only [lnC] at *
            generalize cn (isB l) i = bn at *
            go_wp2
            go_roundw
            case rel => exact ⟨i + 1, by omega, by congr 1, O6.out, BWL.out⟩
            case measure => simp [intOf]; omega
        · have hiz : ¬ (i : Int) < l.length := by omega
          obtain rfl : i = l.length := by omega
          have cN2 : ∀ nq, (wr.drewN nq).cell? ⟨ab, l.length, none⟩ = some (.int .i64 (atP l (fun _ => false) l.length)) := fun nq => GZ.cell (AZ.out.below (drew_below hbl nq) (by have := ABL2.out; have := HBS.out; omega)) l.length (by omega)
          have cN3 : wr.cell? ⟨ab, l.length, none⟩ = some (.int .i64 (atP l (fun _ => false) l.length)) := cN2 0
          have RW : Hid (∀ nq, BrIn (wr.drewN nq) l Av) := fun nq => (OwnB.rows (brC_len l) hown).below (below_drewN _ _)
          have BWW : Hid (∀ nq, Below w.heap.size w (wr.drewN nq)) := fun nq => drew_below hbw nq
          have HM : Hid (cn (isB l) l.length = m) := HMM.out
          clear hown hbl hbw R LV OK MM SM HZ AZ BV cN2
          go_wp2
          go_quiet (fail)
          go_wp2
          go_ret2
          exact ⟨_, _, by rw [HM.out]; rfl, Hid.out RW _, BWW.out _⟩
end Go.Proofs.Ytcdeckbobabdkaa
