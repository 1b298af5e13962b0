/-
  Proved: what the reference's takes and word answer of a row of the table.
-/
import Derived.Test.YtiiebppcamaliaaRtk
import Derived.Test.YtiiebppcamaliaaRwo
import Derived.Test.YtiiebppcamaliaaRall
import Derived.Test.YtiiebppcamaliaaIspec
namespace Go.Proofs.Ytiiebppcamaliaa
open Go.RowKit
set_option linter.unusedVariables false
set_option linter.unusedSimpArgs false

theorem nb {b : Bool} {P : Prop} (h : b = true ↔ P) (hn : ¬ P) : b = false := by
  cases b
  · rfl
  · exact (hn (h.1 rfl)).elim
theorem inB_t {n lo hi : Int} (h : inB n lo hi = true) : lo ≤ n ∧ n ≤ hi := by simpa [inB] using h
theorem inB_f {n lo hi : Int} (h : inB n lo hi = false) : ¬ (lo ≤ n ∧ n ≤ hi) := by
  intro hh
  rw [inB, decide_eq_true hh.1, decide_eq_true hh.2] at h
  cases h

theorem rtakes_c {r : Rw} (RK : Rok r) (nm s : Value) (i : Ins) (w : World) :
    Calls Try.prog 20 #[.agg #[nm, .string (fmS r.fm), .int .i64 r.op, .int .i64 r.f3, .int .i64 r.f7], .agg #[s, .int .i64 i.rd, .int .i64 i.r1, .int .i64 i.r2, .int .i64 i.im]] w fun e w' => e = .returned (.bool (takB r i)) ∧ Below w.heap.size w w' := by
  have hc := fm_cases RK
  have TI := takB_iff RK i
  clear RK
  obtain ⟨fm, op, f3, f7⟩ := r
  obtain ⟨rd, r1, r2, im⟩ := i
  simp only at hc
  cases h1 : inB rd 0 31 with
  | false =>
    have g1 := inB_f h1
    rw [nb TI (fun t => g1 t.1.1)]
    exact tkr_0 _ _ _ _ _ _ rd r1 r2 im h1 w
  | true =>
    have g1 := inB_t h1
    cases h2 : inB r1 0 31 with
    | false =>
      have g2 := inB_f h2
      rw [nb TI (fun t => g2 t.1.2.1)]
      exact tkr_1 _ _ _ _ _ _ rd r1 r2 im h1 h2 w
    | true =>
      have g2 := inB_t h2
      cases h3 : inB r2 0 31 with
      | false =>
        have g3 := inB_f h3
        rw [nb TI (fun t => g3 t.1.2.2)]
        exact tkr_2 _ _ _ _ _ _ rd r1 r2 im h1 h2 h3 w
      | true =>
        have g3 := inB_t h3
        rcases hc with rfl | rfl | rfl | rfl | rfl | rfl | rfl | rfl | rfl
        · cases q0 : (r1 == 0) with
          | false =>
            have p0 : ¬ r1 = 0 := by simpa using q0
            rw [nb TI (by simp only [tk, regs]; omega)]
            exact tk_0_0 _ _ _ _ _ rd r1 r2 im h1 h2 h3 q0 w
          | true =>
            have p0 : r1 = 0 := by simpa using q0
            cases q1 : (r2 == 0) with
            | false =>
              have p1 : ¬ r2 = 0 := by simpa using q1
              rw [nb TI (by simp only [tk, regs]; omega)]
              exact tk_0_1 _ _ _ _ _ rd r1 r2 im h1 h2 h3 q0 q1 w
            | true =>
              have p1 : r2 = 0 := by simpa using q1
              cases q2 : inB im 0 1048575 with
              | false =>
                have p2 := inB_f q2
                rw [nb TI (by simp only [tk, regs]; omega)]
                exact tk_0_2 _ _ _ _ _ rd r1 r2 im h1 h2 h3 q0 q1 q2 w
              | true =>
                have p2 := inB_t q2
                rw [TI.2 (by simp only [tk, regs]; omega)]
                exact tk_0_3 _ _ _ _ _ rd r1 r2 im h1 h2 h3 q0 q1 q2 w
        · cases q0 : (r1 == 0) with
          | false =>
            have p0 : ¬ r1 = 0 := by simpa using q0
            rw [nb TI (by simp only [tk, regs]; omega)]
            exact tk_1_0 _ _ _ _ _ rd r1 r2 im h1 h2 h3 q0 w
          | true =>
            have p0 : r1 = 0 := by simpa using q0
            cases q1 : (r2 == 0) with
            | false =>
              have p1 : ¬ r2 = 0 := by simpa using q1
              rw [nb TI (by simp only [tk, regs]; omega)]
              exact tk_1_1 _ _ _ _ _ rd r1 r2 im h1 h2 h3 q0 q1 w
            | true =>
              have p1 : r2 = 0 := by simpa using q1
              cases q2 : inB im (-1048576) 1048574 with
              | false =>
                have p2 := inB_f q2
                rw [nb TI (by simp only [tk, regs]; omega)]
                exact tk_1_2 _ _ _ _ _ rd r1 r2 im h1 h2 h3 q0 q1 q2 w
              | true =>
                have p2 := inB_t q2
                cases q3 : (im.tmod 2 == 0) with
                | false =>
                  have p3 : ¬ im % 2 = 0 := by rw [← tmod_two]; simpa using q3
                  rw [nb TI (by simp only [tk, regs]; omega)]
                  exact tk_1_3 _ _ _ _ _ rd r1 r2 im h1 h2 h3 q0 q1 q2 q3 w
                | true =>
                  have p3 : im % 2 = 0 := by rw [← tmod_two]; simpa using q3
                  rw [TI.2 (by simp only [tk, regs]; omega)]
                  exact tk_1_4 _ _ _ _ _ rd r1 r2 im h1 h2 h3 q0 q1 q2 q3 w
        · cases q0 : (r2 == 0) with
          | false =>
            have p0 : ¬ r2 = 0 := by simpa using q0
            rw [nb TI (by simp only [tk, regs]; omega)]
            exact tk_2_0 _ _ _ _ _ rd r1 r2 im h1 h2 h3 q0 w
          | true =>
            have p0 : r2 = 0 := by simpa using q0
            cases q1 : inB im (-2048) 2047 with
            | false =>
              have p1 := inB_f q1
              rw [nb TI (by simp only [tk, regs]; omega)]
              exact tk_2_1 _ _ _ _ _ rd r1 r2 im h1 h2 h3 q0 q1 w
            | true =>
              have p1 := inB_t q1
              rw [TI.2 (by simp only [tk, regs]; omega)]
              exact tk_2_2 _ _ _ _ _ rd r1 r2 im h1 h2 h3 q0 q1 w
        · cases q0 : (r2 == 0) with
          | false =>
            have p0 : ¬ r2 = 0 := by simpa using q0
            rw [nb TI (by simp only [tk, regs]; omega)]
            exact tk_3_0 _ _ _ _ _ rd r1 r2 im h1 h2 h3 q0 w
          | true =>
            have p0 : r2 = 0 := by simpa using q0
            cases q1 : inB im 0 31 with
            | false =>
              have p1 := inB_f q1
              rw [nb TI (by simp only [tk, regs]; omega)]
              exact tk_3_1 _ _ _ _ _ rd r1 r2 im h1 h2 h3 q0 q1 w
            | true =>
              have p1 := inB_t q1
              rw [TI.2 (by simp only [tk, regs]; omega)]
              exact tk_3_2 _ _ _ _ _ rd r1 r2 im h1 h2 h3 q0 q1 w
        · cases q0 : (rd == 0) with
          | false =>
            have p0 : ¬ rd = 0 := by simpa using q0
            rw [nb TI (by simp only [tk, regs]; omega)]
            exact tk_4_0 _ _ _ _ _ rd r1 r2 im h1 h2 h3 q0 w
          | true =>
            have p0 : rd = 0 := by simpa using q0
            cases q1 : inB im (-4096) 4094 with
            | false =>
              have p1 := inB_f q1
              rw [nb TI (by simp only [tk, regs]; omega)]
              exact tk_4_1 _ _ _ _ _ rd r1 r2 im h1 h2 h3 q0 q1 w
            | true =>
              have p1 := inB_t q1
              cases q2 : (im.tmod 2 == 0) with
              | false =>
                have p2 : ¬ im % 2 = 0 := by rw [← tmod_two]; simpa using q2
                rw [nb TI (by simp only [tk, regs]; omega)]
                exact tk_4_2 _ _ _ _ _ rd r1 r2 im h1 h2 h3 q0 q1 q2 w
              | true =>
                have p2 : im % 2 = 0 := by rw [← tmod_two]; simpa using q2
                rw [TI.2 (by simp only [tk, regs]; omega)]
                exact tk_4_3 _ _ _ _ _ rd r1 r2 im h1 h2 h3 q0 q1 q2 w
        · cases q0 : (rd == 0) with
          | false =>
            have p0 : ¬ rd = 0 := by simpa using q0
            rw [nb TI (by simp only [tk, regs]; omega)]
            exact tk_5_0 _ _ _ _ _ rd r1 r2 im h1 h2 h3 q0 w
          | true =>
            have p0 : rd = 0 := by simpa using q0
            cases q1 : inB im (-2048) 2047 with
            | false =>
              have p1 := inB_f q1
              rw [nb TI (by simp only [tk, regs]; omega)]
              exact tk_5_1 _ _ _ _ _ rd r1 r2 im h1 h2 h3 q0 q1 w
            | true =>
              have p1 := inB_t q1
              rw [TI.2 (by simp only [tk, regs]; omega)]
              exact tk_5_2 _ _ _ _ _ rd r1 r2 im h1 h2 h3 q0 q1 w
        · cases q0 : (im == 0) with
          | false =>
            have p0 : ¬ im = 0 := by simpa using q0
            rw [nb TI (by simp only [tk, regs]; omega)]
            exact tk_6_0 _ _ _ _ _ rd r1 r2 im h1 h2 h3 q0 w
          | true =>
            have p0 : im = 0 := by simpa using q0
            rw [TI.2 (by simp only [tk, regs]; omega)]
            exact tk_6_1 _ _ _ _ _ rd r1 r2 im h1 h2 h3 q0 w
        · cases q0 : (rd == 0) with
          | false =>
            have p0 : ¬ rd = 0 := by simpa using q0
            rw [nb TI (by simp only [tk, regs]; omega)]
            exact tk_7_0 _ _ _ _ _ rd r1 r2 im h1 h2 h3 q0 w
          | true =>
            have p0 : rd = 0 := by simpa using q0
            cases q1 : (r1 == 0) with
            | false =>
              have p1 : ¬ r1 = 0 := by simpa using q1
              rw [nb TI (by simp only [tk, regs]; omega)]
              exact tk_7_1 _ _ _ _ _ rd r1 r2 im h1 h2 h3 q0 q1 w
            | true =>
              have p1 : r1 = 0 := by simpa using q1
              cases q2 : (r2 == 0) with
              | false =>
                have p2 : ¬ r2 = 0 := by simpa using q2
                rw [nb TI (by simp only [tk, regs]; omega)]
                exact tk_7_2 _ _ _ _ _ rd r1 r2 im h1 h2 h3 q0 q1 q2 w
              | true =>
                have p2 : r2 = 0 := by simpa using q2
                cases q3 : (im == 0) with
                | false =>
                  have p3 : ¬ im = 0 := by simpa using q3
                  rw [nb TI (by simp only [tk, regs]; omega)]
                  exact tk_7_3 _ _ _ _ _ rd r1 r2 im h1 h2 h3 q0 q1 q2 q3 w
                | true =>
                  have p3 : im = 0 := by simpa using q3
                  rw [TI.2 (by simp only [tk, regs]; omega)]
                  exact tk_7_4 _ _ _ _ _ rd r1 r2 im h1 h2 h3 q0 q1 q2 q3 w
        · cases q0 : (rd == 0) with
          | false =>
            have p0 : ¬ rd = 0 := by simpa using q0
            rw [nb TI (by simp only [tk, regs]; omega)]
            exact tk_7_0 _ _ _ _ _ rd r1 r2 im h1 h2 h3 q0 w
          | true =>
            have p0 : rd = 0 := by simpa using q0
            cases q1 : (r1 == 0) with
            | false =>
              have p1 : ¬ r1 = 0 := by simpa using q1
              rw [nb TI (by simp only [tk, regs]; omega)]
              exact tk_7_1 _ _ _ _ _ rd r1 r2 im h1 h2 h3 q0 q1 w
            | true =>
              have p1 : r1 = 0 := by simpa using q1
              cases q2 : (r2 == 0) with
              | false =>
                have p2 : ¬ r2 = 0 := by simpa using q2
                rw [nb TI (by simp only [tk, regs]; omega)]
                exact tk_7_2 _ _ _ _ _ rd r1 r2 im h1 h2 h3 q0 q1 q2 w
              | true =>
                have p2 : r2 = 0 := by simpa using q2
                cases q3 : (im == 0) with
                | false =>
                  have p3 : ¬ im = 0 := by simpa using q3
                  rw [nb TI (by simp only [tk, regs]; omega)]
                  exact tk_7_3 _ _ _ _ _ rd r1 r2 im h1 h2 h3 q0 q1 q2 q3 w
                | true =>
                  have p3 : im = 0 := by simpa using q3
                  rw [TI.2 (by simp only [tk, regs]; omega)]
                  exact tk_7_4 _ _ _ _ _ rd r1 r2 im h1 h2 h3 q0 q1 q2 q3 w

theorem e_all : (insT.all fun x => (x.2.fm != 7 || x.1 == [101, 99, 97, 108, 108]) && (x.2.fm != 8 || x.1 == [101, 98, 114, 101, 97, 107])) = true := by decide +kernel
theorem e_name {a : Nat} {x : List UInt8 × Rw} (h : insT[a]? = some x) : (x.2.fm = 7 → x.1 = [101, 99, 97, 108, 108]) ∧ (x.2.fm = 8 → x.1 = [101, 98, 114, 101, 97, 107]) := by
  have := List.all_eq_true.1 e_all x (List.mem_of_getElem? h)
  simp only [Bool.and_eq_true, Bool.or_eq_true, bne_iff_ne, beq_iff_eq, ne_eq] at this
  exact ⟨fun h => this.1.resolve_left (fun q => q h), fun h => this.2.resolve_left (fun q => q h)⟩

set_option maxRecDepth 20000 in
theorem rwo_7 (s : Value) (op f3 f7 rd r1 r2 im : Int) (o : 0 ≤ op ∧ op < 128) (a : 0 ≤ f3 ∧ f3 < 8) (w : World) :
    Calls Try.prog 21 #[.agg #[.string ⟨#[101, 99, 97, 108, 108]⟩, .string ⟨#[69]⟩, .int .i64 op, .int .i64 f3, .int .i64 f7], .agg #[s, .int .i64 rd, .int .i64 r1, .int .i64 r2, .int .i64 im]] w fun e w' => e = .returned (.int .i64 115) ∧ Below w.heap.size w w' := by
  go_enter Try.func21, Try.ntmps21
  go_wp2
  go_quiet ((go_at_call 32; exact Calls.quiet_of_same (rat_g _ _ (by rfl) (by omega) (by omega) _)))
  go_wp2
  go_ret
  exact ⟨rfl, drew_below (w_al2 _ _ _) _⟩

set_option maxRecDepth 20000 in
theorem rwo_8 (s : Value) (op f3 f7 rd r1 r2 im : Int) (o : 0 ≤ op ∧ op < 128) (a : 0 ≤ f3 ∧ f3 < 8) (w : World) :
    Calls Try.prog 21 #[.agg #[.string ⟨#[101, 98, 114, 101, 97, 107]⟩, .string ⟨#[69]⟩, .int .i64 op, .int .i64 f3, .int .i64 f7], .agg #[s, .int .i64 rd, .int .i64 r1, .int .i64 r2, .int .i64 im]] w fun e w' => e = .returned (.int .i64 1048691) ∧ Below w.heap.size w w' := by
  go_enter Try.func21, Try.ntmps21
  go_wp2
  go_quiet ((go_at_call 32; exact Calls.quiet_of_same (rat_g _ _ (by rfl) (by omega) (by omega) _)))
  go_wp2
  go_ret
  exact ⟨rfl, drew_below (w_al2 _ _ _) _⟩

theorem rword_c {x : List UInt8 × Rw} {k : Nat} (hx : insT[k]? = some x) (s : Value) (i : Ins) (ht : tk x.2 i) (w : World) :
    Calls Try.prog 21 #[.agg #[.string ⟨x.1.toArray⟩, .string (fmS x.2.fm), .int .i64 x.2.op, .int .i64 x.2.f3, .int .i64 x.2.f7], .agg #[s, .int .i64 i.rd, .int .i64 i.r1, .int .i64 i.r2, .int .i64 i.im]] w fun e w' => e = .returned (.int .i64 (wo x.2 i)) ∧ Below w.heap.size w w' := by
  have RK := rok hx
  have hc := fm_cases RK
  have hE := e_name hx
  obtain ⟨⟨o, a, b, _, _⟩, _, _⟩ := RK
  obtain ⟨n, fm, op, f3, f7⟩ := x
  obtain ⟨rd, r1, r2, im⟩ := i
  obtain ⟨⟨d, e, g⟩, ht⟩ := ht
  simp only at hc hE o a b d e g
  rcases hc with rfl | rfl | rfl | rfl | rfl | rfl | rfl | rfl | rfl
  · exact rwo_0 _ s op f3 f7 rd r1 r2 im _ o a b d e g ⟨ht.2.2.1, ht.2.2.2⟩ (by simp only [wo]) w
  · exact rwo_1 _ s op f3 f7 rd r1 r2 im _ o a b d e g (by simp only [wo]) w
  · exact rwo_2 _ s op f3 f7 rd r1 r2 im _ o a b d e g (by simp only [wo]) w
  · exact rwo_3 _ s op f3 f7 rd r1 r2 im _ o a b d e g ⟨ht.2.1, Int.le_trans ht.2.2 (by decide)⟩ (by simp only [wo]) w
  · exact rwo_4 _ s op f3 f7 rd r1 r2 im _ o a b d e g (by simp only [wo]) w
  · exact rwo_5 _ s op f3 f7 rd r1 r2 im _ o a b d e g (by simp only [wo]) w
  · exact rwo_6 _ s op f3 f7 rd r1 r2 im _ o a b d e g (by simp only [wo]) w
  · rw [hE.1 rfl]
    exact rwo_7 s op f3 f7 rd r1 r2 im o a w
  · rw [hE.2 rfl]
    exact rwo_8 s op f3 f7 rd r1 r2 im o a w
end Go.Proofs.Ytiiebppcamaliaa
