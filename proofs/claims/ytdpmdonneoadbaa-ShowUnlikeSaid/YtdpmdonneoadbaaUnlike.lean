/-
  Proved: ShowUnlike's own walk.
-/
import Derived.Test.YtdpmdonneoadbaaFour
import Derived.Deep.DeepCutAuto
import Derived.Laws.AppendOwnNone
namespace Go.Proofs.Ytdpmdonneoadbaa
open Go.RowKit

/-- The four variables, each in a block of its own. -/
structure Vars (w1 w : World) (a b c d : Nat) (Va Vb Vc Vd : Array Value) : Prop where
  at_a : w.heap[a]? = some (.cells Va 27 (0, 0))
  at_b : w.heap[b]? = some (.cells Vb 27 (0, 0))
  at_c : w.heap[c]? = some (.cells Vc 27 (0, 0))
  at_d : w.heap[d]? = some (.cells Vd 27 (0, 0))
  low : Below w1.heap.size w1 w

theorem setCell_at {w : World} {g j : Nat} {cs : Array Value} {e : TypeId} {fr : Nat × Nat} (h : w.heap[g]? = some (.cells cs e fr)) (v : Value) : (w.setCell ⟨g, j, none⟩ v).heap[g]? = some (.cells (cs.setIfInBounds j v) e fr) := by
  have hlt : g < w.heap.size := (Array.getElem?_eq_some_iff.1 h).1
  have hv : w.heap[g] = .cells cs e fr := (Array.getElem?_eq_some_iff.1 h).2
  unfold World.setCell
  rw [Array.getElem?_eq_getElem (by simpa using hlt), Array.getElem_modify]
  simp [hv]

theorem setCell_other {w : World} {g j k : Nat} (v : Value) (h : k ≠ g) : (w.setCell ⟨g, j, none⟩ v).heap[k]? = w.heap[k]? := Below.heap_setCell w ⟨g, j, none⟩ v k h

variable {w1 w : World} {a b c d : Nat} {Va Vb Vc Vd : Array Value}

theorem Vars.set_a (h : Vars w1 w a b c d Va Vb Vc Vd) (hl : w1.heap.size ≤ a) (n1 : a ≠ b) (n2 : a ≠ c) (n3 : a ≠ d) (j : Nat) (v : Value) : Vars w1 (w.setCell ⟨a, j, none⟩ v) a b c d (Va.setIfInBounds j v) Vb Vc Vd :=
  ⟨setCell_at h.at_a v, (setCell_other v n1.symm).trans h.at_b, (setCell_other v n2.symm).trans h.at_c, (setCell_other v n3.symm).trans h.at_d, h.low.setCell hl v⟩
theorem Vars.set_b (h : Vars w1 w a b c d Va Vb Vc Vd) (hl : w1.heap.size ≤ b) (n1 : b ≠ a) (n2 : b ≠ c) (n3 : b ≠ d) (j : Nat) (v : Value) : Vars w1 (w.setCell ⟨b, j, none⟩ v) a b c d Va (Vb.setIfInBounds j v) Vc Vd :=
  ⟨(setCell_other v n1.symm).trans h.at_a, setCell_at h.at_b v, (setCell_other v n2.symm).trans h.at_c, (setCell_other v n3.symm).trans h.at_d, h.low.setCell hl v⟩
theorem Vars.set_c (h : Vars w1 w a b c d Va Vb Vc Vd) (hl : w1.heap.size ≤ c) (n1 : c ≠ a) (n2 : c ≠ b) (n3 : c ≠ d) (j : Nat) (v : Value) : Vars w1 (w.setCell ⟨c, j, none⟩ v) a b c d Va Vb (Vc.setIfInBounds j v) Vd :=
  ⟨(setCell_other v n1.symm).trans h.at_a, (setCell_other v n2.symm).trans h.at_b, setCell_at h.at_c v, (setCell_other v n3.symm).trans h.at_d, h.low.setCell hl v⟩
theorem Vars.set_d (h : Vars w1 w a b c d Va Vb Vc Vd) (hl : w1.heap.size ≤ d) (n1 : d ≠ a) (n2 : d ≠ b) (n3 : d ≠ c) (j : Nat) (v : Value) : Vars w1 (w.setCell ⟨d, j, none⟩ v) a b c d Va Vb Vc (Vd.setIfInBounds j v) :=
  ⟨(setCell_other v n1.symm).trans h.at_a, (setCell_other v n2.symm).trans h.at_b, (setCell_other v n3.symm).trans h.at_c, setCell_at h.at_d v, h.low.setCell hl v⟩
theorem Vars.next (h : Vars w1 w a b c d Va Vb Vc Vd) {w' : World} (k : Below w.heap.size w w') : Vars w1 w' a b c d Va Vb Vc Vd := by
  have lt : ∀ {g : Nat} {o : Obj}, w.heap[g]? = some o → g < w.heap.size := fun e => (Array.getElem?_eq_some_iff.1 e).1
  exact ⟨(k.block _ (lt h.at_a)).trans h.at_a, (k.block _ (lt h.at_b)).trans h.at_b, (k.block _ (lt h.at_c)).trans h.at_c, (k.block _ (lt h.at_d)).trans h.at_d, below_next h.low k⟩

theorem cell_at {w : World} {g : Nat} {cs : Array Value} {e : TypeId} {fr : Nat × Nat} (h : w.heap[g]? = some (.cells cs e fr)) (j : Nat) : w.cell? ⟨g, j, none⟩ = cs[j]? := by simp [World.cell?, h]
theorem frozen_at {w : World} {g : Nat} {cs : Array Value} {e : TypeId} (h : w.heap[g]? = some (.cells cs e (0, 0))) (j : Nat) : w.frozen? ⟨g, j, none⟩ = false := by simp [World.frozen?, h]

theorem own_block {w : World} {base : Nat} {e : TypeId} {size : Nat} {v : Value} {n : Nat} {xs : List Value} (h : w.ownsRow base e size v n xs) {k : Nat} (hk : v.ownBlock = some k) : base ≤ k := by
  rcases h.2 with ⟨rfl, _⟩ | ⟨g, cap, cur, rfl, hg, _⟩
  · cases hk
  · cases hk; exact hg

theorem own_shape {w : World} {base : Nat} {e : TypeId} {size : Nat} {v : Value} {n : Nat} {xs : List Value} (h : w.ownsRow base e size v (0 + n + 1) xs) : ∃ g cap, v = .slice (some ⟨g, 0, none⟩) (n + 1) cap := by
  rcases h.2 with ⟨rfl, h0⟩ | ⟨g, cap, cur, rfl, hg, _⟩
  · omega
  · exact ⟨g, cap, by rw [Nat.zero_add]⟩

theorem len_room {m : Nat} (h : (m + 1) * 144 ≤ 140737488355328) : (0 + m ≤ maxLen ∧ (0 + m) * 144 ≤ 140737488355328) ∧ (0 + m + 1 ≤ maxLen ∧ (0 + m + 1) * 144 ≤ 140737488355328) := by
  simp only [maxLen]
  omega

def NewX : List Value := [.int .i64 3, .int .i64 0, .int .i64 0, .string ⟨#[]⟩, .slice none 0 0, .slice none 0 0, .int .i64 0, .string ⟨#[]⟩, .int .i64 0, .slice none 0 0]

theorem newX_one : ∀ u ∈ NewX, u.oneCell' = true := fun u hu => List.all_eq_true.1 (rfl : NewX.all (·.oneCell') = true) u hu

theorem cells_new (w : World) (cs : List Value) (e : TypeId) (j : Nat) (u : Value) (h : cs[j]? = some u) : (w.alloc (.cells cs.toArray e)).cell? ((⟨w.heap.size, 0, none⟩ : Addr).add j) = some u := by
  have e1 : ((⟨w.heap.size, 0, none⟩ : Addr).add j) = ⟨w.heap.size, j, none⟩ := by unfold Addr.add; split <;> simp_all
  rw [e1, cell_at (alloc_at _ _)]
  simpa using h

/-- Two of the trees, whichever. -/
theorem uni_c (k : Int) (ks : List X) (ts : List T) (A B : Option Addr) (D : Nat) (w0 : World) (xk : XsIn w0 ks A) (tk : TsIn w0 ts B) (w' : World) (hw : Below w0.heap.size w0 w')
    (at1 n1 : Int) (s1 : ByteArray) (A1 : Option Addr) (L1 C1 : Nat) (p1 : Int) (q1 : ByteArray) (r1 : Int) (Z1 : Option Addr) (zl1 zc1 : Nat)
    (at2 n2 : Int) (s2 : ByteArray) (A2 : Option Addr) (L2 C2 : Nat) (p2 : Int) (q2 : ByteArray) (r2 : Int) (Z2 : Option Addr) (zl2 zc2 : Nat) (h : (A1 = A ∧ L1 = ks.length ∧ A2 = A ∧ L2 = ks.length) ∨ L1 ≠ L2) :
    Calls Try.prog 5 #[.agg #[.int .i64 k, .int .i64 at1, .int .i64 n1, .string s1, .slice A1 L1 C1, .slice B ts.length D, .int .i64 p1, .string q1, .int .i64 r1, .slice Z1 zl1 zc1], .agg #[.int .i64 k, .int .i64 at2, .int .i64 n2, .string s2, .slice A2 L2 C2, .slice B ts.length D, .int .i64 p2, .string q2, .int .i64 r2, .slice Z2 zl2 zc2]] w'
      fun e w'' => e = .returned (.bool (decide (n1 = n2) && decide (s1 = s2) && decide (L1 = L2))) ∧ Below w'.heap.size w' w'' := by
  have := alike_cells k at1 n1 s1 ts A1 L1 C1 B D p1 q1 r1 Z1 zl1 zc1 k at2 n2 s2 ts A2 L2 C2 B D p2 q2 r2 Z2 zl2 zc2 w' (tk.below hw) (tk.below hw) (decide (L1 = L2)) (by
    intro w'' hw''
    rcases h with ⟨e1, e2, e3, e4⟩ | h
    · have := eqXs_c ks ks A A C1 C2 w'' ((xk.below hw).below hw'') ((xk.below hw).below hw'')
      rw [X.alikes_self] at this
      rw [e1, e2, e3, e4, decide_eq_true rfl]
      exact this
    · rw [decide_eq_false h]
      refine (eqX_len L1 L2 h A1 A2 C1 C2 w'').mono ?_
      rintro e w3 ⟨rfl, rfl⟩
      exact ⟨rfl, Below.refl _ _⟩)
  have e : (decide (k = k) && decide (n1 = n2) && decide (s1 = s2) && T.sames ts ts && decide (L1 = L2)) = (decide (n1 = n2) && decide (s1 = s2) && decide (L1 = L2)) := by rw [T.sames_self]; simp
  rw [e] at this
  exact this

theorem wrap_ne (n : Int) : ¬ n = wrap64 (n + 1) := by
  intro e
  simp only [wrap64] at e
  omega

theorem app_ne (s : ByteArray) : ¬ s ++ ⟨#[122]⟩ = s := by
  intro e
  have := congrArg ByteArray.size e
  rw [ByteArray.size_append] at this
  have h1 : (⟨#[122]⟩ : ByteArray).size = 1 := rfl
  omega

set_option maxRecDepth 20000 in
set_option maxHeartbeats 2000000 in
theorem unlike_walk (k at1 n : Int) (s : ByteArray) (ks : List X) (ts : List T) (A : Option Addr) (C : Nat) (B : Option Addr) (D : Nat) (p : Int) (q : ByteArray) (r : Int) (Z : Option Addr) (zl zc : Nat) (y : Int) (w : World)
    (h : XIn w (.mk k n s ks ts) [.int .i64 k, .int .i64 at1, .int .i64 n, .string s, .slice A ks.length C, .slice B ts.length D, .int .i64 p, .string q, .int .i64 r, .slice Z zl zc]) (hA : A = none → ks.length = 0 ∧ C = 0) (hL : (ks.length + 1) * 144 ≤ 140737488355328) (hS : s.size < 4611686018427387904) :
    Calls Try.prog 3 #[.agg #[.int .i64 k, .int .i64 at1, .int .i64 n, .string s, .slice A ks.length C, .slice B ts.length D, .int .i64 p, .string q, .int .i64 r, .slice Z zl zc], .int .i64 y] w fun e w' => e = .returned (.bool true) ∧ Below w.heap.size w w' := by
  have HX : Hid (XIn w (.mk k n s ks ts) [.int .i64 k, .int .i64 at1, .int .i64 n, .string s, .slice A ks.length C, .slice B ts.length D, .int .i64 p, .string q, .int .i64 r, .slice Z zl zc]) := h
  have HA : Hid (A = none → ks.length = 0 ∧ C = 0) := hA
  have HL : Hid ((ks.length + 1) * 144 ≤ 140737488355328) := hL
  have hK : Hid (XsIn w ks A) ∧ Hid (TsIn w ts B) := by
    obtain ⟨at', A', C', B', D', p', q', r', Z', zl', zc', e, xk, tk⟩ := h.inv
    cases e
    exact ⟨xk, tk⟩
  obtain ⟨XK, TK⟩ := hK
  clear h hA hL
  go_enter Try.func3, Try.ntmps3
  go_wp2_with (go_at_call 4; refine (deep_c _ _ _ _ _ _ _ _ _ _ _ _ _ _ _ _ _ _ (HX.out.stays (below_alloc _ _))).mono ?_; rintro e w1 ⟨⟨rr, rfl⟩, hb1⟩; have M : Hid (Below w.heap.size w w1) := below_next (below_alloc _ _) hb1; have cz := hb1.size; have HB : Hid (w1.heap[w.heap.size]? = some (.cells #[.int .i64 k, .int .i64 at1, .int .i64 n, .string s, .slice A ks.length C, .slice B ts.length D, .int .i64 p, .string q, .int .i64 r, .slice Z zl zc] 27 (0, 0))) := (hb1.block _ (by simp)).trans (alloc_at _ _); clear hb1)
  · go_ret
    exact ⟨rfl, M.out⟩
  · have hz : w.heap.size < w1.heap.size := by simp at cz; omega
    clear cz
    go_cut [5, 6, 7, 8] (fun p5 p6 p7 p8 wx => ∃ a b c d : Nat, p5 = .pointer (some ⟨a, 0, none⟩) ∧ p6 = .pointer (some ⟨b, 0, none⟩) ∧ p7 = .pointer (some ⟨c, 0, none⟩) ∧ p8 = .pointer (some ⟨d, 0, none⟩) ∧ (w1.heap.size ≤ a ∧ w1.heap.size ≤ b ∧ w1.heap.size ≤ c ∧ w1.heap.size ≤ d) ∧ (a ≠ b ∧ a ≠ c ∧ a ≠ d ∧ b ≠ c ∧ b ≠ d ∧ c ≠ d) ∧
      Vars w1 wx a b c d #[.int .i64 k, .int .i64 at1, .int .i64 n, .string s, .slice A ks.length C, .slice B ts.length D, .int .i64 p, .string q, .int .i64 r, .slice Z zl zc] #[.int .i64 k, .int .i64 at1, .int .i64 n, .string s, .slice A ks.length C, .slice B ts.length D, .int .i64 p, .string q, .int .i64 r, .slice Z zl zc] #[.int .i64 k, .int .i64 at1, .int .i64 n, .string s, .slice A ks.length C, .slice B ts.length D, .int .i64 p, .string q, .int .i64 r, .slice Z zl zc] #[.int .i64 k, .int .i64 at1, .int .i64 n, .string s, .slice A ks.length C, .slice B ts.length D, .int .i64 p, .string q, .int .i64 r, .slice Z zl zc])
    case first =>
      refine four_s (V := #[.int .i64 k, .int .i64 at1, .int .i64 n, .string s, .slice A ks.length C, .slice B ts.length D, .int .i64 p, .string q, .int .i64 r, .slice Z zl zc]) w.heap.size (0, 0) rfl HB.out rfl (by simp [Value.oneCell']) ?_
      intro q0 q1 q2 q3 v0 v1 v2 v3 a b c d w2 hb e0 e1 e2 e3 hle hne hcs
      subst e0 e1 e2 e3
      go_wp2_with fail
      go_meet
      case rel => exact ⟨a, b, c, d, rfl, rfl, rfl, rfl, hle, hne, ⟨hcs.1, hcs.2.1, hcs.2.2.1, hcs.2.2.2, hb⟩⟩
    case rest =>
      obtain ⟨a, b, c, d, rfl, rfl, rfl, rfl, ⟨la, lb, lc, ld⟩, ⟨n1, n2, n3, n4, n5, n6⟩, h0⟩ := hcut
      have H0 : Hid (Vars w1 wc a b c d #[.int .i64 k, .int .i64 at1, .int .i64 n, .string s, .slice A ks.length C, .slice B ts.length D, .int .i64 p, .string q, .int .i64 r, .slice Z zl zc] #[.int .i64 k, .int .i64 at1, .int .i64 n, .string s, .slice A ks.length C, .slice B ts.length D, .int .i64 p, .string q, .int .i64 r, .slice Z zl zc] #[.int .i64 k, .int .i64 at1, .int .i64 n, .string s, .slice A ks.length C, .slice B ts.length D, .int .i64 p, .string q, .int .i64 r, .slice Z zl zc] #[.int .i64 k, .int .i64 at1, .int .i64 n, .string s, .slice A ks.length C, .slice B ts.length D, .int .i64 p, .string q, .int .i64 r, .slice Z zl zc]) := h0
      have LE : Hid (w1.heap.size ≤ a ∧ w1.heap.size ≤ b ∧ w1.heap.size ≤ c ∧ w1.heap.size ≤ d) := ⟨la, lb, lc, ld⟩
      have NE : Hid (a ≠ b ∧ a ≠ c ∧ a ≠ d ∧ b ≠ c ∧ b ≠ d ∧ c ≠ d) := ⟨n1, n2, n3, n4, n5, n6⟩
      clear h0 la lb lc ld n1 n2 n3 n4 n5 n6
      go_upto_region 4 with fail
      go_cut [] (fun wx => Vars w1 wx a b c d #[.int .i64 k, .int .i64 at1, .int .i64 (wrap64 (n + 1)), .string s, .slice A ks.length C, .slice B ts.length D, .int .i64 p, .string q, .int .i64 r, .slice Z zl zc] #[.int .i64 k, .int .i64 at1, .int .i64 n, .string s, .slice A ks.length C, .slice B ts.length D, .int .i64 p, .string q, .int .i64 r, .slice Z zl zc] #[.int .i64 k, .int .i64 at1, .int .i64 n, .string s, .slice A ks.length C, .slice B ts.length D, .int .i64 p, .string q, .int .i64 r, .slice Z zl zc] #[.int .i64 k, .int .i64 at1, .int .i64 n, .string s, .slice A ks.length C, .slice B ts.length D, .int .i64 p, .string q, .int .i64 r, .slice Z zl zc])
      case first =>
        have c1 : wc.cell? ⟨a, 2, none⟩ = some (.int .i64 n) := (cell_at H0.out.at_a 2).trans rfl
        have c2 : wc.frozen? ⟨a, 2, none⟩ = false := frozen_at H0.out.at_a 2
        go_wp2
        go_meet
        case rel => exact H0.out.set_a LE.out.1 NE.out.1 NE.out.2.1 NE.out.2.2.1 2 _
      case rest =>
        have H1 : Hid (Vars w1 wc a b c d #[.int .i64 k, .int .i64 at1, .int .i64 (wrap64 (n + 1)), .string s, .slice A ks.length C, .slice B ts.length D, .int .i64 p, .string q, .int .i64 r, .slice Z zl zc] #[.int .i64 k, .int .i64 at1, .int .i64 n, .string s, .slice A ks.length C, .slice B ts.length D, .int .i64 p, .string q, .int .i64 r, .slice Z zl zc] #[.int .i64 k, .int .i64 at1, .int .i64 n, .string s, .slice A ks.length C, .slice B ts.length D, .int .i64 p, .string q, .int .i64 r, .slice Z zl zc] #[.int .i64 k, .int .i64 at1, .int .i64 n, .string s, .slice A ks.length C, .slice B ts.length D, .int .i64 p, .string q, .int .i64 r, .slice Z zl zc]) := hcut
        clear hcut
        go_upto_region 5 with fail
        go_cut [] (fun wx => Vars w1 wx a b c d #[.int .i64 k, .int .i64 at1, .int .i64 (wrap64 (n + 1)), .string s, .slice A ks.length C, .slice B ts.length D, .int .i64 p, .string q, .int .i64 r, .slice Z zl zc] #[.int .i64 k, .int .i64 at1, .int .i64 n, .string (s ++ ⟨#[122]⟩), .slice A ks.length C, .slice B ts.length D, .int .i64 p, .string q, .int .i64 r, .slice Z zl zc] #[.int .i64 k, .int .i64 at1, .int .i64 n, .string s, .slice A ks.length C, .slice B ts.length D, .int .i64 p, .string q, .int .i64 r, .slice Z zl zc] #[.int .i64 k, .int .i64 at1, .int .i64 n, .string s, .slice A ks.length C, .slice B ts.length D, .int .i64 p, .string q, .int .i64 r, .slice Z zl zc])
        case first =>
          have c1 : wc.cell? ⟨b, 3, none⟩ = some (.string s) := (cell_at H1.out.at_b 3).trans rfl
          have c2 : wc.frozen? ⟨b, 3, none⟩ = false := frozen_at H1.out.at_b 3
          go_wp2
          go_meet
          case rel => exact H1.out.set_b LE.out.2.1 NE.out.1.symm NE.out.2.2.2.1 NE.out.2.2.2.2.1 3 _
        case rest =>
          have H2 : Hid (Vars w1 wc a b c d #[.int .i64 k, .int .i64 at1, .int .i64 (wrap64 (n + 1)), .string s, .slice A ks.length C, .slice B ts.length D, .int .i64 p, .string q, .int .i64 r, .slice Z zl zc] #[.int .i64 k, .int .i64 at1, .int .i64 n, .string (s ++ ⟨#[122]⟩), .slice A ks.length C, .slice B ts.length D, .int .i64 p, .string q, .int .i64 r, .slice Z zl zc] #[.int .i64 k, .int .i64 at1, .int .i64 n, .string s, .slice A ks.length C, .slice B ts.length D, .int .i64 p, .string q, .int .i64 r, .slice Z zl zc] #[.int .i64 k, .int .i64 at1, .int .i64 n, .string s, .slice A ks.length C, .slice B ts.length D, .int .i64 p, .string q, .int .i64 r, .slice Z zl zc]) := hcut
          clear hcut
          go_upto_region 6 with fail
          go_cut [] (fun wx => ∃ g cap, Vars w1 wx a b c d #[.int .i64 k, .int .i64 at1, .int .i64 (wrap64 (n + 1)), .string s, .slice A ks.length C, .slice B ts.length D, .int .i64 p, .string q, .int .i64 r, .slice Z zl zc] #[.int .i64 k, .int .i64 at1, .int .i64 n, .string (s ++ ⟨#[122]⟩), .slice A ks.length C, .slice B ts.length D, .int .i64 p, .string q, .int .i64 r, .slice Z zl zc] #[.int .i64 k, .int .i64 at1, .int .i64 n, .string s, .slice (some ⟨g, 0, none⟩) (ks.length + 1) cap, .slice B ts.length D, .int .i64 p, .string q, .int .i64 r, .slice Z zl zc] #[.int .i64 k, .int .i64 at1, .int .i64 n, .string s, .slice A ks.length C, .slice B ts.length D, .int .i64 p, .string q, .int .i64 r, .slice Z zl zc])
          case first =>
            have c1 : wc.cell? ⟨c, 4, none⟩ = some (.slice A ks.length C) := (cell_at H2.out.at_c 4).trans rfl
            have c2 : wc.frozen? ⟨c, 4, none⟩ = false := frozen_at H2.out.at_c 4
            have hc1 : c < wc.heap.size := (Array.getElem?_eq_some_iff.1 H2.out.at_c).1
            have hc2 : ¬ c = wc.heap.size := by omega
            obtain ⟨i0, hi, hz0, hz1, hz2⟩ : ∃ i, Try.prog.info? 27 = some i ∧ i.zero = some (.agg zeroX) ∧ i.size = 10 ∧ i.bytes = 144 := ⟨_, rfl, rfl, rfl, rfl⟩
            have O0 : Hid ((wc.alloc (.cells #[] 27)).ownsRow wc.heap.size 27 10 (.slice (some ⟨wc.heap.size, 0, none⟩) 0 0) 0 []) := ⟨rfl, Or.inr ⟨wc.heap.size, 0, #[], rfl, Nat.le_refl _, alloc_at _ _, Nat.le_refl _, Nat.zero_le _, rfl, rfl⟩⟩
            have K3 : Hid (Below w.heap.size w wc) := below_next M.out H2.out.low
            rcases hA' : A with _ | ad
            · obtain ⟨l0, l1⟩ := HA.out hA'
              have L0 : Hid (ks.length = 0 ∧ C = 0) := ⟨l0, l1⟩
              have HI : Hid (Try.prog.info? 27 = some i0) := hi
              have HZ : Hid (i0.zero = some (.agg zeroX) ∧ i0.size = 10 ∧ i0.bytes = 144) := ⟨hz0, hz1, hz2⟩
              have G1 : Hid (Below wc.heap.size wc (wc.alloc (.cells #[] 27))) := below_alloc _ _
              have LR := (show Hid _ from len_room (m := 0) (by decide))
              obtain ⟨w2, hw2⟩ : ∃ w2, wc.alloc (.cells #[] 27) = w2 := ⟨_, rfl⟩
              have WW : Hid (wc.alloc (.cells #[] 27) = w2) := hw2
              rw [hw2] at O0 G1
              have SZ : Hid (∀ {o : Obj}, wc.heap.size ≤ (w2.alloc o).heap.size) := fun {o} => Nat.le_trans G1.out.size (by simp)
              subst hA'
              clear hi hz0 hz1 hz2 l0 l1 hw2
              go_wp2_with (first
                | (at_builtin; have O1' := O1; go_loud (refine wpList_append_own _ rfl _ _ 22 rfl wc.heap.size 27 i0 (.agg zeroX) 10 144 Try.underlying22 HI.out HZ.out.1 HZ.out.2.1 HZ.out.2.2 rfl (by decide) _ _ _ rfl (O1.out.alloc _) ⟨w2.heap.size, 0, none⟩ 1 1 NewX rfl rfl (cells_new w2 NewX 27) newX_one LR.out.2.1 LR.out.2.2 SZ.out ?_); intro v3 w3 o2 g2 _; obtain ⟨g, cap, hv3⟩ := own_shape (n := 0) o2; subst hv3; go_loud (have G2 : Hid (Below wc.heap.size wc w3) := (below_next G1.out (below_alloc w2 _)).grown g2 SZ.out (fun k hk => own_block O1.out hk)); have c3 : w3.cell? ⟨c, 4, none⟩ = some (.slice none ks.length C) := (G2.out.cell (p := ⟨c, 4, none⟩) hc1).trans c1; have c4 : w3.frozen? ⟨c, 4, none⟩ = false := (G2.out.frozen (p := ⟨c, 4, none⟩) hc1).trans c2; clear o2 g2)
                | (at_builtin; go_loud (refine wpList_append_own_none rfl _ _ 22 rfl wc.heap.size 27 i0 10 Try.underlying22 HI.out _ _ _ rfl (WW.out.symm ▸ O0.out) (by go_loud (show Value.slice none ks.length C = _; rw [L0.out.1, L0.out.2])) ?_); go_loud (rw [WW.out]); have O1 := O0))
              go_meet
              case rel =>
                refine ⟨g, cap, ?_⟩
                rw [show ks.length + 1 = 0 + 1 by rw [L0.out.1]]
                exact (H2.out.next G2.out).set_c LE.out.2.2.1 NE.out.2.1.symm NE.out.2.2.2.1.symm NE.out.2.2.2.2.2 4 _
            · have xs1 : XsIn (wc.alloc (.cells #[] 27)) ks (some ad) := by rw [← hA']; exact (XK.out.below K3.out).below (below_alloc _ _)
              obtain ⟨news, hn1, hn2, hn3⟩ := kids_src xs1
              have N1 : Hid (news.length = ks.length * 10) := hn1
              have N2 : Hid (∀ j u, news[j]? = some u → (wc.alloc (.cells #[] 27)).cell? (ad.add j) = some u) := hn2
              have N3 : Hid (∀ u ∈ news, u.oneCell' = true) := hn3
              have HI : Hid (Try.prog.info? 27 = some i0) := hi
              have HZ : Hid (i0.zero = some (.agg zeroX) ∧ i0.size = 10 ∧ i0.bytes = 144) := ⟨hz0, hz1, hz2⟩
              have LR := (Hid.out HL |> fun h => (show Hid _ from len_room h))
              have SY : Hid (wc.heap.size ≤ (wc.alloc (.cells #[] 27)).heap.size) := by show wc.heap.size ≤ _; simp
              subst hA'
              clear hn1 hn2 hn3 xs1 hi hz0 hz1 hz2
              go_wp2_with (first
                | (at_builtin; have O1' := O1; go_loud (refine wpList_append_own _ rfl _ _ 22 rfl wc.heap.size 27 i0 (.agg zeroX) 10 144 Try.underlying22 HI.out HZ.out.1 HZ.out.2.1 HZ.out.2.2 rfl (by decide) _ _ _ rfl (O1.out.alloc _) ⟨w2.heap.size, 0, none⟩ 1 1 NewX rfl rfl (cells_new w2 NewX 27) newX_one LR.out.2.1 LR.out.2.2 SZ.out ?_); intro v3 w3 o2 g2 _; obtain ⟨g, cap, hv3⟩ := own_shape o2; subst hv3; go_loud (have G2 : Hid (Below wc.heap.size wc w3) := (below_next G1.out (below_alloc w2 _)).grown g2 SZ.out (fun k hk => own_block O1.out hk)); have c3 : w3.cell? ⟨c, 4, none⟩ = some (.slice (some ad) ks.length C) := (G2.out.cell (p := ⟨c, 4, none⟩) hc1).trans c1; have c4 : w3.frozen? ⟨c, 4, none⟩ = false := (G2.out.frozen (p := ⟨c, 4, none⟩) hc1).trans c2; clear o2 g2)
                | (at_builtin; go_loud (refine wpList_append_own _ rfl _ _ 22 rfl wc.heap.size 27 i0 (.agg zeroX) 10 144 Try.underlying22 HI.out HZ.out.1 HZ.out.2.1 HZ.out.2.2 rfl (by decide) _ _ _ rfl O0.out ad ks.length C news rfl N1.out N2.out N3.out LR.out.1.1 LR.out.1.2 SY.out ?_); intro v2 w2 o1 g1 _; have O1 : Hid (w2.ownsRow wc.heap.size 27 10 v2 (0 + ks.length) ([] ++ news)) := o1; have G1 : Hid (Below wc.heap.size wc w2) := below_alloc wc (.cells #[] 27) |>.grown g1 (by simp) (by intro k hk; cases hk; exact Nat.le_refl _); have SZ : Hid (∀ {o : Obj}, wc.heap.size ≤ (w2.alloc o).heap.size) := fun {o} => Nat.le_trans G1.out.size (by simp); clear o1 g1))
              go_meet
              case rel => exact ⟨g, cap, (H2.out.next G2.out).set_c LE.out.2.2.1 NE.out.2.1.symm NE.out.2.2.2.1.symm NE.out.2.2.2.2.2 4 _⟩
          case rest =>
            obtain ⟨g, cap, h3⟩ := hcut
            have H3 : Hid (Vars w1 wc a b c d #[.int .i64 k, .int .i64 at1, .int .i64 (wrap64 (n + 1)), .string s, .slice A ks.length C, .slice B ts.length D, .int .i64 p, .string q, .int .i64 r, .slice Z zl zc] #[.int .i64 k, .int .i64 at1, .int .i64 n, .string (s ++ ⟨#[122]⟩), .slice A ks.length C, .slice B ts.length D, .int .i64 p, .string q, .int .i64 r, .slice Z zl zc] #[.int .i64 k, .int .i64 at1, .int .i64 n, .string s, .slice (some ⟨g, 0, none⟩) (ks.length + 1) cap, .slice B ts.length D, .int .i64 p, .string q, .int .i64 r, .slice Z zl zc] #[.int .i64 k, .int .i64 at1, .int .i64 n, .string s, .slice A ks.length C, .slice B ts.length D, .int .i64 p, .string q, .int .i64 r, .slice Z zl zc]) := h3
            clear h3
            go_upto_region 7 with fail
            go_cut [] (fun wx => ∃ at2, Vars w1 wx a b c d #[.int .i64 k, .int .i64 at1, .int .i64 (wrap64 (n + 1)), .string s, .slice A ks.length C, .slice B ts.length D, .int .i64 p, .string q, .int .i64 r, .slice Z zl zc] #[.int .i64 k, .int .i64 at1, .int .i64 n, .string (s ++ ⟨#[122]⟩), .slice A ks.length C, .slice B ts.length D, .int .i64 p, .string q, .int .i64 r, .slice Z zl zc] #[.int .i64 k, .int .i64 at1, .int .i64 n, .string s, .slice (some ⟨g, 0, none⟩) (ks.length + 1) cap, .slice B ts.length D, .int .i64 p, .string q, .int .i64 r, .slice Z zl zc] #[.int .i64 k, .int .i64 at2, .int .i64 n, .string s, .slice A ks.length C, .slice B ts.length D, .int .i64 p, .string q, .int .i64 r, .slice Z zl zc])
            case first =>
              have c1 : wc.cell? ⟨d, 1, none⟩ = some (.int .i64 at1) := (cell_at H3.out.at_d 1).trans rfl
              have c2 : wc.frozen? ⟨d, 1, none⟩ = false := frozen_at H3.out.at_d 1
              go_wp2
              go_meet
              case rel => exact ⟨_, H3.out.set_d LE.out.2.2.2 NE.out.2.2.1.symm NE.out.2.2.2.2.1.symm NE.out.2.2.2.2.2.symm 1 _⟩
            case rest =>
              obtain ⟨at2, h4⟩ := hcut
              have H4 : Hid (Vars w1 wc a b c d #[.int .i64 k, .int .i64 at1, .int .i64 (wrap64 (n + 1)), .string s, .slice A ks.length C, .slice B ts.length D, .int .i64 p, .string q, .int .i64 r, .slice Z zl zc] #[.int .i64 k, .int .i64 at1, .int .i64 n, .string (s ++ ⟨#[122]⟩), .slice A ks.length C, .slice B ts.length D, .int .i64 p, .string q, .int .i64 r, .slice Z zl zc] #[.int .i64 k, .int .i64 at1, .int .i64 n, .string s, .slice (some ⟨g, 0, none⟩) (ks.length + 1) cap, .slice B ts.length D, .int .i64 p, .string q, .int .i64 r, .slice Z zl zc] #[.int .i64 k, .int .i64 at2, .int .i64 n, .string s, .slice A ks.length C, .slice B ts.length D, .int .i64 p, .string q, .int .i64 r, .slice Z zl zc]) := h4
              clear h4
              go_upto_region 8 with fail
              go_cut [] (fun wx => Vars w1 wx a b c d #[.int .i64 k, .int .i64 at1, .int .i64 (wrap64 (n + 1)), .string s, .slice A ks.length C, .slice B ts.length D, .int .i64 p, .string q, .int .i64 r, .slice Z zl zc] #[.int .i64 k, .int .i64 at1, .int .i64 n, .string (s ++ ⟨#[122]⟩), .slice A ks.length C, .slice B ts.length D, .int .i64 p, .string q, .int .i64 r, .slice Z zl zc] #[.int .i64 k, .int .i64 at1, .int .i64 n, .string s, .slice (some ⟨g, 0, none⟩) (ks.length + 1) cap, .slice B ts.length D, .int .i64 p, .string q, .int .i64 r, .slice Z zl zc] #[.int .i64 k, .int .i64 at2, .int .i64 n, .string s, .slice A ks.length C, .slice B ts.length D, .int .i64 11, .string ⟨#[]⟩, .int .i64 0, .slice none 0 0])
              case first =>
                have c1 : wc.cell? ⟨d, 6, none⟩ = some (.int .i64 p) := (cell_at H4.out.at_d 6).trans rfl
                have c2 : wc.cell? ⟨d, 7, none⟩ = some (.string q) := (cell_at H4.out.at_d 7).trans rfl
                have c3 : wc.cell? ⟨d, 8, none⟩ = some (.int .i64 r) := (cell_at H4.out.at_d 8).trans rfl
                have c4 : wc.cell? ⟨d, 9, none⟩ = some (.slice Z zl zc) := (cell_at H4.out.at_d 9).trans rfl
                have f1 : wc.frozen? ⟨d, 6, none⟩ = false := frozen_at H4.out.at_d 6
                have f2 : wc.frozen? ⟨d, 7, none⟩ = false := frozen_at H4.out.at_d 7
                have f3 : wc.frozen? ⟨d, 8, none⟩ = false := frozen_at H4.out.at_d 8
                have f4 : wc.frozen? ⟨d, 9, none⟩ = false := frozen_at H4.out.at_d 9
                go_wp2
                go_meet
                case rel =>
                  have st := fun {w Vd} (h : Vars w1 w a b c d #[.int .i64 k, .int .i64 at1, .int .i64 (wrap64 (n + 1)), .string s, .slice A ks.length C, .slice B ts.length D, .int .i64 p, .string q, .int .i64 r, .slice Z zl zc] #[.int .i64 k, .int .i64 at1, .int .i64 n, .string (s ++ ⟨#[122]⟩), .slice A ks.length C, .slice B ts.length D, .int .i64 p, .string q, .int .i64 r, .slice Z zl zc] #[.int .i64 k, .int .i64 at1, .int .i64 n, .string s, .slice (some ⟨g, 0, none⟩) (ks.length + 1) cap, .slice B ts.length D, .int .i64 p, .string q, .int .i64 r, .slice Z zl zc] Vd) j v => h.set_d LE.out.2.2.2 NE.out.2.2.1.symm NE.out.2.2.2.2.1.symm NE.out.2.2.2.2.2.symm j v
                  exact st (st (st (st H4.out 6 _) 7 _) 8 _) 9 _
              case rest =>
                have H5 : Hid (Vars w1 wc a b c d #[.int .i64 k, .int .i64 at1, .int .i64 (wrap64 (n + 1)), .string s, .slice A ks.length C, .slice B ts.length D, .int .i64 p, .string q, .int .i64 r, .slice Z zl zc] #[.int .i64 k, .int .i64 at1, .int .i64 n, .string (s ++ ⟨#[122]⟩), .slice A ks.length C, .slice B ts.length D, .int .i64 p, .string q, .int .i64 r, .slice Z zl zc] #[.int .i64 k, .int .i64 at1, .int .i64 n, .string s, .slice (some ⟨g, 0, none⟩) (ks.length + 1) cap, .slice B ts.length D, .int .i64 p, .string q, .int .i64 r, .slice Z zl zc] #[.int .i64 k, .int .i64 at2, .int .i64 n, .string s, .slice A ks.length C, .slice B ts.length D, .int .i64 11, .string ⟨#[]⟩, .int .i64 0, .slice none 0 0]) := hcut
                clear hcut
                have hx : wc.heap[w.heap.size]? = some (.cells #[.int .i64 k, .int .i64 at1, .int .i64 n, .string s, .slice A ks.length C, .slice B ts.length D, .int .i64 p, .string q, .int .i64 r, .slice Z zl zc] 27 (0, 0)) := (H5.out.low.block _ hz).trans HB.out
                have vx0 : wc.cell? ⟨w.heap.size, 0, none⟩ = some (.int .i64 k) := (cell_at hx 0).trans rfl
                have vx1 : wc.cell? ⟨w.heap.size, 1, none⟩ = some (.int .i64 at1) := (cell_at hx 1).trans rfl
                have vx2 : wc.cell? ⟨w.heap.size, 2, none⟩ = some (.int .i64 n) := (cell_at hx 2).trans rfl
                have vx3 : wc.cell? ⟨w.heap.size, 3, none⟩ = some (.string s) := (cell_at hx 3).trans rfl
                have vx4 : wc.cell? ⟨w.heap.size, 4, none⟩ = some (.slice A ks.length C) := (cell_at hx 4).trans rfl
                have vx5 : wc.cell? ⟨w.heap.size, 5, none⟩ = some (.slice B ts.length D) := (cell_at hx 5).trans rfl
                have vx6 : wc.cell? ⟨w.heap.size, 6, none⟩ = some (.int .i64 p) := (cell_at hx 6).trans rfl
                have vx7 : wc.cell? ⟨w.heap.size, 7, none⟩ = some (.string q) := (cell_at hx 7).trans rfl
                have vx8 : wc.cell? ⟨w.heap.size, 8, none⟩ = some (.int .i64 r) := (cell_at hx 8).trans rfl
                have vx9 : wc.cell? ⟨w.heap.size, 9, none⟩ = some (.slice Z zl zc) := (cell_at hx 9).trans rfl
                have va0 : wc.cell? ⟨a, 0, none⟩ = some (.int .i64 k) := (cell_at H5.out.at_a 0).trans rfl
                have va1 : wc.cell? ⟨a, 1, none⟩ = some (.int .i64 at1) := (cell_at H5.out.at_a 1).trans rfl
                have va2 : wc.cell? ⟨a, 2, none⟩ = some (.int .i64 (wrap64 (n + 1))) := (cell_at H5.out.at_a 2).trans rfl
                have va3 : wc.cell? ⟨a, 3, none⟩ = some (.string s) := (cell_at H5.out.at_a 3).trans rfl
                have va4 : wc.cell? ⟨a, 4, none⟩ = some (.slice A ks.length C) := (cell_at H5.out.at_a 4).trans rfl
                have va5 : wc.cell? ⟨a, 5, none⟩ = some (.slice B ts.length D) := (cell_at H5.out.at_a 5).trans rfl
                have va6 : wc.cell? ⟨a, 6, none⟩ = some (.int .i64 p) := (cell_at H5.out.at_a 6).trans rfl
                have va7 : wc.cell? ⟨a, 7, none⟩ = some (.string q) := (cell_at H5.out.at_a 7).trans rfl
                have va8 : wc.cell? ⟨a, 8, none⟩ = some (.int .i64 r) := (cell_at H5.out.at_a 8).trans rfl
                have va9 : wc.cell? ⟨a, 9, none⟩ = some (.slice Z zl zc) := (cell_at H5.out.at_a 9).trans rfl
                have vb0 : wc.cell? ⟨b, 0, none⟩ = some (.int .i64 k) := (cell_at H5.out.at_b 0).trans rfl
                have vb1 : wc.cell? ⟨b, 1, none⟩ = some (.int .i64 at1) := (cell_at H5.out.at_b 1).trans rfl
                have vb2 : wc.cell? ⟨b, 2, none⟩ = some (.int .i64 n) := (cell_at H5.out.at_b 2).trans rfl
                have vb3 : wc.cell? ⟨b, 3, none⟩ = some (.string (s ++ ⟨#[122]⟩)) := (cell_at H5.out.at_b 3).trans rfl
                have vb4 : wc.cell? ⟨b, 4, none⟩ = some (.slice A ks.length C) := (cell_at H5.out.at_b 4).trans rfl
                have vb5 : wc.cell? ⟨b, 5, none⟩ = some (.slice B ts.length D) := (cell_at H5.out.at_b 5).trans rfl
                have vb6 : wc.cell? ⟨b, 6, none⟩ = some (.int .i64 p) := (cell_at H5.out.at_b 6).trans rfl
                have vb7 : wc.cell? ⟨b, 7, none⟩ = some (.string q) := (cell_at H5.out.at_b 7).trans rfl
                have vb8 : wc.cell? ⟨b, 8, none⟩ = some (.int .i64 r) := (cell_at H5.out.at_b 8).trans rfl
                have vb9 : wc.cell? ⟨b, 9, none⟩ = some (.slice Z zl zc) := (cell_at H5.out.at_b 9).trans rfl
                have vc0 : wc.cell? ⟨c, 0, none⟩ = some (.int .i64 k) := (cell_at H5.out.at_c 0).trans rfl
                have vc1 : wc.cell? ⟨c, 1, none⟩ = some (.int .i64 at1) := (cell_at H5.out.at_c 1).trans rfl
                have vc2 : wc.cell? ⟨c, 2, none⟩ = some (.int .i64 n) := (cell_at H5.out.at_c 2).trans rfl
                have vc3 : wc.cell? ⟨c, 3, none⟩ = some (.string s) := (cell_at H5.out.at_c 3).trans rfl
                have vc4 : wc.cell? ⟨c, 4, none⟩ = some (.slice (some ⟨g, 0, none⟩) (ks.length + 1) cap) := (cell_at H5.out.at_c 4).trans rfl
                have vc5 : wc.cell? ⟨c, 5, none⟩ = some (.slice B ts.length D) := (cell_at H5.out.at_c 5).trans rfl
                have vc6 : wc.cell? ⟨c, 6, none⟩ = some (.int .i64 p) := (cell_at H5.out.at_c 6).trans rfl
                have vc7 : wc.cell? ⟨c, 7, none⟩ = some (.string q) := (cell_at H5.out.at_c 7).trans rfl
                have vc8 : wc.cell? ⟨c, 8, none⟩ = some (.int .i64 r) := (cell_at H5.out.at_c 8).trans rfl
                have vc9 : wc.cell? ⟨c, 9, none⟩ = some (.slice Z zl zc) := (cell_at H5.out.at_c 9).trans rfl
                have vd0 : wc.cell? ⟨d, 0, none⟩ = some (.int .i64 k) := (cell_at H5.out.at_d 0).trans rfl
                have vd1 : wc.cell? ⟨d, 1, none⟩ = some (.int .i64 at2) := (cell_at H5.out.at_d 1).trans rfl
                have vd2 : wc.cell? ⟨d, 2, none⟩ = some (.int .i64 n) := (cell_at H5.out.at_d 2).trans rfl
                have vd3 : wc.cell? ⟨d, 3, none⟩ = some (.string s) := (cell_at H5.out.at_d 3).trans rfl
                have vd4 : wc.cell? ⟨d, 4, none⟩ = some (.slice A ks.length C) := (cell_at H5.out.at_d 4).trans rfl
                have vd5 : wc.cell? ⟨d, 5, none⟩ = some (.slice B ts.length D) := (cell_at H5.out.at_d 5).trans rfl
                have vd6 : wc.cell? ⟨d, 6, none⟩ = some (.int .i64 11) := (cell_at H5.out.at_d 6).trans rfl
                have vd7 : wc.cell? ⟨d, 7, none⟩ = some (.string ⟨#[]⟩) := (cell_at H5.out.at_d 7).trans rfl
                have vd8 : wc.cell? ⟨d, 8, none⟩ = some (.int .i64 0) := (cell_at H5.out.at_d 8).trans rfl
                have vd9 : wc.cell? ⟨d, 9, none⟩ = some (.slice none 0 0) := (cell_at H5.out.at_d 9).trans rfl
                have zwx : w.heap.size < wc.heap.size := (Array.getElem?_eq_some_iff.1 hx).1
                have zax : a < wc.heap.size := (Array.getElem?_eq_some_iff.1 H5.out.at_a).1
                have zbx : b < wc.heap.size := (Array.getElem?_eq_some_iff.1 H5.out.at_b).1
                have zcx : c < wc.heap.size := (Array.getElem?_eq_some_iff.1 H5.out.at_c).1
                have zdx : d < wc.heap.size := (Array.getElem?_eq_some_iff.1 H5.out.at_d).1
                have M0 : Hid (Below wc.heap.size wc wc) := Below.refl _ _
                have K5 : Hid (Below w.heap.size w wc) := below_next M.out H5.out.low
                have e1 := wrap_ne n
                have e2 := app_ne s
                have e3 : decide (n = wrap64 (n + 1)) = false := by simpa using e1
                have e4 : decide (s ++ ⟨#[122]⟩ = s) = false := by simpa using e2
                have U1 : Hid (XsIn wc ks A) := XK.out.below K5.out
                have U2 : Hid (TsIn wc ts B) := TK.out.below K5.out
                clear hx H5
                go_wp2_with (go_at_call 5; refine (uni_c k ks ts A B D wc U1.out U2.out _ (Hid.out (by assumption)) _ _ _ _ _ _ _ _ _ _ _ _ _ _ _ _ _ _ _ _ _ _ _ _ (by first | exact Or.inl ⟨rfl, rfl, rfl, rfl⟩ | exact Or.inr (by omega))).mono ?_; rintro e w6 ⟨rfl, hb6⟩; have R : Hid (Below wc.heap.size wc w6) := below_next (Hid.out (by assumption)) hb6; have cc := (bcell R.out).1; clear hb6)
                all_goals go_ret
                all_goals exact ⟨rfl, below_next K5.out (Hid.out (by assumption))⟩
end Go.Proofs.Ytdpmdonneoadbaa
