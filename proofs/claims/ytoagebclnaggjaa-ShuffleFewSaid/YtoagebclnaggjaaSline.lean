/-
  Proved: what Line answers of any moves: ErrForm, or just the moves of the plain telling.
-/
import Derived.Test.YtoagebclnaggjaaSwof
import Derived.Laws.EntriesVeiled
set_option linter.unusedVariables false
namespace Go.Proofs.Ytoagebclnaggjaa
open Go.RowKit Go.Maps

theorem line_no (l : List Mv) (spare : Int) (v : Value) (w : World) (h : LI w l v) (ha : Al l) (hl : l.length ≤ 1000) (hb : ¬ OKf l spare) :
    Calls Try.prog 8 #[v, .int .i64 spare] w fun e w' => e = .returned (.tuple #[.slice none 0 0, .int .i64 10]) ∧ Below w.heap.size w w' := by
  have F : Hid (Calls Try.prog 12 #[v, .int .i64 spare] w fun e w' => e = .returned (.bool false) ∧ Below w.heap.size w w') := areFormed_c l spare false ⟨fun h => Bool.noConfusion h, fun h => absurd h hb⟩ v w h ha hl
  clear h ha hl hb
  go_enter Try.func8, Try.ntmps8
  go_wp2_with (go_at_call 12; refine F.out.mono ?_; rintro e w1 ⟨rfl, hb⟩; have HB : Hid (Below w.heap.size w w1) := hb; clear hb)
  go_ret2
  exact ⟨rfl, HB.out⟩

/-- Where a chain stands: g rounds are left at most. -/
def IZ (B X : Nat) (pf tf : List Mv) (w0 : World) (v : Value) (wr : World) (g : Nat) : Prop :=
  ∃ x p t r, v = .int .i64 x ∧ In x ∧ p.length ≤ g ∧ (chase g p x).1 = pf ∧ t ++ (chase g p x).2 = tf ∧ ND p ∧ Al p ∧ RdOf r p ∧ WT B (2000 - p.length) (lk p) r t wr ∧ At wr X #[.pointer (some ⟨B + 2, 0, none⟩)] 35 ∧ Below B w0 wr ∧ t.length + p.length ≤ 1000 ∧ p.length ≤ 1000

/-- Where the first loop stands. -/
def OZ1 (B X : Nat) (l : List Mv) (S : List Mv × List Mv) (w0 : World) (i : Nat) (wr : World) : Prop :=
  ∃ p t r, ph1 (l.drop i) (p, t) = S ∧ ND p ∧ Al p ∧ RdOf r p ∧ WT B (2000 - p.length) (lk p) r t wr ∧ At wr X #[.pointer (some ⟨B + 2, 0, none⟩)] 35 ∧ Below B w0 wr ∧ t.length + p.length ≤ 1000 ∧ p.length ≤ 1000

/-- Where the second one does. -/
def OZ2 (B X : Nat) (l : List Mv) (spare : Int) (S : List Mv × List Mv) (w0 : World) (i : Nat) (wr : World) : Prop :=
  ∃ p t r nr, ph2 spare (l.drop i) (p, t) = some S ∧ Al p ∧ WT B nr (lk p) r t wr ∧ At wr X #[.pointer (some ⟨B + 2, 0, none⟩)] 35 ∧ Below B w0 wr ∧ t.length + 2 * p.length ≤ 3000 ∧ nr + p.length ≤ 3000

theorem chase_step {g : Nat} {p : List Mv} {x y : Int} (h : lk p x = some y) (hr : rd p x = 0) : chase (g + 1) p x = ((chase g (rem p x) y).1, (x, y) :: (chase g (rem p x) y).2) := by
  rw [chase, h]
  simp [hr]
theorem chase_none {g : Nat} {p : List Mv} {x : Int} (h : lk p x = none) : chase g p x = (p, []) := by
  cases g with
  | zero => rfl
  | succ g => rw [chase, h]
theorem chase_read {g : Nat} {p : List Mv} {x : Int} (hr : rd p x ≠ 0) : chase g p x = (p, []) := by
  cases g with
  | zero => rfl
  | succ g =>
    rw [chase]
    split
    · rfl
    · rw [if_neg hr]

theorem lk_len {p : List Mv} {x y : Int} (h : lk p x = some y) : 0 < p.length := by
  cases p with
  | nil => cases h
  | cons _ _ => simp

theorem circ_al {spare first : Int} {g : Nat} {p : List Mv} {x : Int} {r : List Mv × List Mv} (h : circ spare first g p x = some r) (ha : Al p) : Al r.1 := by
  induction g generalizing p x r with
  | zero => cases h
  | succ g ih =>
    obtain ⟨k, y, hk, _, h | ⟨_, s, hs, rfl⟩⟩ := circ_some h
    · rw [h.2]; exact ha.rem x
    · obtain rfl : g = k := by omega
      exact ih (r := s) hs (ha.rem x)

/-- One round of a chain. -/
theorem IZ.next {B X : Nat} {pf tf : List Mv} {w0 : World} {x y : Int} {p t : List Mv} {r : Int → Option Int} {k : Nat} (hy : lk p x = some y) (hr : rd p x = 0) (hg : p.length ≤ k + 1) (e1 : (chase (k + 1) p x).1 = pf) (e2 : t ++ (chase (k + 1) p x).2 = tf) (hn : ND p) (ha : Al p) (hrd : RdOf r p) (hlen : t.length + p.length ≤ 1000) (h10 : p.length ≤ 1000)
    {w2 : World} (hw : WT B (2000 - p.length + 1) (upd (lk p) x none) (upd r y (some (IntKind.i64.wrap ((r y).getD 0 - 1)))) (t ++ [(x, y)]) w2) (hX : At w2 X #[.pointer (some ⟨B + 2, 0, none⟩)] 35) (hb : Below B w0 w2) : IZ B X pf tf w0 (.int .i64 y) w2 k := by
  rw [chase_step hy hr] at e1 e2
  have hsh := rem_len hy
  rw [lk_rem'] at hw
  refine ⟨y, rem p x, t ++ [(x, y)], upd r y (some (IntKind.i64.wrap ((r y).getD 0 - 1))), rfl, (ha.lk hy).2, by omega, e1, by rw [← e2]; simp, hn.rem x, ha.rem x, fun z => ?_, ?_, hX, hb, by simp; omega, by omega⟩
  rotate_left
  · obtain ⟨tv, k1, k2, k3, k4⟩ := hw
    exact ⟨tv, k1, k2, k3.mono (by omega), k4⟩
  · have h1 := rd_rem hn hy z
    have h2 := hrd z
    unfold upd
    by_cases e : z = y
    · subst e
      rw [if_pos rfl] at h1
      have h3 := rd_le p z
      rw [if_pos rfl, Option.getD_some, wrap_id (by unfold In; omega), h2]
      omega
    · rw [if_neg e] at h1
      rw [if_neg e, h2, h1]
      simp

set_option maxRecDepth 20000 in
set_option maxHeartbeats 4000000 in
theorem line_c (l out : List Mv) (spare : Int) (v : Value) (w : World) (h : LI w l v) (ha : Al l) (hs : In spare) (hl : l.length ≤ 1000) (hb : OKf l spare) (ho : lineP l spare = some out) :
    Calls Try.prog 8 #[v, .int .i64 spare] w fun e w' => ∃ u, e = .returned (.tuple #[u, .int .i64 0]) ∧ LI w' out u ∧ Below w.heap.size w w' := by
  have F : Hid (Calls Try.prog 12 #[v, .int .i64 spare] w fun e w' => e = .returned (.bool true) ∧ Below w.heap.size w w') := areFormed_c l spare true ⟨fun _ => hb, fun _ => rfl⟩ v w h ha hl
  have G : Hid (∀ w1, Below w.heap.size w w1 → Calls Try.prog 13 #[v] w1 fun e w' => e = .returned (.pointer (some ⟨w1.heap.size + 2, 0, none⟩)) ∧ ∃ r, RdOf r (mvs l) ∧ WT w1.heap.size 1000 (lk (mvs l)) r [] w' ∧ Below w1.heap.size w1 w') := fun w1 k => waitingOf_c l v w1 (h.below k) ha hb.1 hl
  obtain ⟨pe, hout⟩ : ∃ pe, ph2 spare l (ph1 l (mvs l, [])) = some (pe, out) := by
    unfold lineP at ho
    cases e : ph2 spare l (ph1 l (mvs l, [])) with
    | none => rw [e] at ho; cases ho
    | some r =>
      rw [e] at ho
      cases ho
      exact ⟨r.1, rfl⟩
  obtain ⟨A, C, rfl, hr⟩ := h
  have R : Hid (RowsIn w 2 mC l A) := hr
  have HA : Hid (Al l) := ha
  have HS : Hid (In spare) := hs
  have ml : (mvs l).length ≤ l.length := List.length_filter_le _ _
  have ST : Hid (∀ w1 w2 r, Below w.heap.size w w1 → RdOf r (mvs l) → WT w1.heap.size 1000 (lk (mvs l)) r [] w2 → Below w1.heap.size w1 w2 → OZ1 w1.heap.size w2.heap.size l (ph1 l (mvs l, [])) w1 0 (w2.alloc (.cells #[.pointer (some ⟨w1.heap.size + 2, 0, none⟩)] 35))) := fun w1 w2 r k1 k2 k3 k4 => by
    have k5 := k3.below (below_alloc w2 (.cells #[.pointer (some ⟨w1.heap.size + 2, 0, none⟩)] 35))
    refine ⟨mvs l, [], r, rfl, ?_, fun m hm => ha m (List.mem_filter.1 hm).1, k2, ?_, At.new _ _ _, below_next k4 (below_alloc _ _), by simp; omega, by omega⟩
    · have := hb.1
      unfold ND at *
      exact this.sublist (List.filter_sublist.map _)
    · obtain ⟨tv, j1, j2, j3, j4⟩ := k5
      exact ⟨tv, j1, j2, j3.mono (by omega), j4⟩
  have E2 : Hid (ph2 spare l (ph1 l (mvs l, [])) = some (pe, out)) := hout
  clear hr ha hs hb ho hout ml
  generalize ph1 l (mvs l, []) = S1 at *
  go_enter Try.func8, Try.ntmps8
  go_wp2_with (first
    | (go_at_call 12; refine F.out.mono ?_; rintro e w1 ⟨rfl, hb⟩; have HB : Hid (Below w.heap.size w w1) := hb; clear hb)
    | (go_at_call 13; refine (G.out w1 HB.out).mono ?_; rintro e w2 ⟨rfl, r, k2, k3, k4⟩; have Z0 : Hid _ := ST.out w1 w2 r HB.out k2 k3 k4; clear k2 k3 k4))
  have BB : Hid (Below w.heap.size w w1) := HB.out
  have HSZ : Hid (w.heap.size ≤ w1.heap.size) := HB.out.size
  generalize hX : w2.heap.size = X at *
  generalize hBB : w1.heap.size = B at *
  go_loopw [24] (fun iv wr => ∃ i : Nat, i ≤ l.length ∧ iv = .int .i64 (i : Int) ∧ OZ1 B X l S1 w1 i wr) (fun iv _ => l.length - (intOf iv).toNat)
  case atStart => exact ⟨0, by omega, rfl, Z0.out⟩
  case round =>
    obtain ⟨i, hi, rfl, hz⟩ := hrel
    clear Z0 F G ST
    rcases Nat.lt_or_ge i l.length with hlt | hge
    · have hiz : (i : Int) < l.length := by omega
      obtain ⟨p, t, r, e1, k1, k2, k3, k4, k5, k6, k7, k8⟩ := hz
      have BW : Below w.heap.size w wr := BB.out.trans (k6.mono HSZ.out)
      obtain ⟨b1, o1, rfl, hb1, c1, c2⟩ := rows_cells R.out BW i hlt
      have hx := (HA.out l[i] (List.getElem_mem hlt)).1
      rw [List.drop_eq_getElem_cons hlt, ph1] at e1
      have hwB : B ≤ wr.heap.size := by have := k4.lt; omega
      have I0 : Hid (∀ y2, In l[i].1 → IZ B X (chase p.length p l[i].1).1 (t ++ (chase p.length p l[i].1).2) w1 (.int .i64 l[i].1) (wr.alloc (.cells #[.int .i64 l[i].1, .int .i64 y2] 28)) p.length) := fun y2 hx => ⟨l[i].1, p, t, r, rfl, hx, Nat.le_refl _, rfl, rfl, k1, k2, k3, k4.below (below_alloc _ _), k5.below (below_alloc _ _) k5.lt, k6.trans ((below_alloc _ _).mono hwB), k7, k8⟩
      have E1 : Hid (ph1 (l.drop (i + 1)) ((chase p.length p l[i].1).1, t ++ (chase p.length p l[i].1).2) = S1) := e1
      generalize (chase p.length p l[i].1).1 = pf at *
      generalize t ++ (chase p.length p l[i].1).2 = tf at *
      generalize l[i].1 = x0 at *
      generalize l[i].2 = y0 at *
      have I1 : Hid _ := I0.out y0 hx
      clear e1 k1 k2 k3 k4 k5 k6 k7 k8 BW hx I0 hwB
      generalize p.length = g0 at I1
      clear p t r
      go_wp2
      go_loopw [11] (fun v wz => ∃ g, IZ B X pf tf w1 v wz g) (fun v wz => lst (IZ B X pf tf w1 v wz))
      case atStart => exact ⟨_, I1.out⟩
      case round =>
        clear I1
        have hz := lst_spec hrel
        clear hrel
        obtain ⟨g, hg⟩ : ∃ g, g = lst (IZ B X pf tf w1 u11 wr) := ⟨_, rfl⟩
        rw [← hg] at hz
        have MM : Hid (g = lst (IZ B X pf tf w1 u11 wr)) := hg
        clear hg
        obtain ⟨x, p, t, r, rfl, hx, hgl, e1, e2, k1, k2, k3, k4, k5, k6, k7, k8⟩ := hz
        have cX : wr.cell? ⟨X, 0, none⟩ = some (.pointer (some ⟨B + 2, 0, none⟩)) := k5.cell 0
        have WC := waits_c B _ X _ _ t x hx wr k4 k5
        have RC := isRead_c B _ X _ _ t x hx wr k4 k5
        rw [k3 x] at RC
        have NX : Hid (chase g p x = (p, []) → OZ1 B X l S1 w1 (i + 1) wr) := fun hc => by
          rw [hc] at e1 e2
          simp only [List.append_nil] at e1 e2
          subst e1 e2
          exact ⟨p, t, r, E1.out, k1, k2, k3, k4, k5, k6, k7, k8⟩
        cases hy : lk p x with
        | none =>
          rw [hy] at WC
          have W1 : Hid (Calls Try.prog 14 #[.int .i64 x, .pointer (some ⟨X, 0, none⟩)] wr fun e w' => e = .returned (.bool false) ∧ w' = wr) := WC
          have N1 : Hid (OZ1 B X l S1 w1 (i + 1) wr) := NX.out (chase_none hy)
          clear WC RC NX hy e1 e2 k1 k2 k3 k4 k5 k6 k7 k8 hgl hx
          go_wp2_with (go_at_call 14; refine W1.out.mono ?_; rintro e w3 ⟨rfl, hw⟩; rw [hw]; clear hw w3)
          go_roundw
          case rel => exact ⟨i + 1, by omega, by go_num, N1.out⟩
          case measure => simp [intOf]; omega
        | some y =>
          rw [hy] at WC
          have W1 : Hid (Calls Try.prog 14 #[.int .i64 x, .pointer (some ⟨X, 0, none⟩)] wr fun e w' => e = .returned (.bool true) ∧ w' = wr) := WC
          by_cases hr : rd p x = 0
          · rw [hr] at RC
            have R1 : Hid (Calls Try.prog 15 #[.int .i64 x, .pointer (some ⟨X, 0, none⟩)] wr fun e w' => e = .returned (.bool false) ∧ w' = wr) := RC
            have hgp := lk_len hy
            obtain ⟨k, rfl⟩ : ∃ k, g = k + 1 := ⟨g - 1, by omega⟩
            have SC : Hid (Calls Try.prog 16 #[.pointer (some ⟨B + 2, 0, none⟩), .int .i64 x] wr fun e w' => e = .returned (.int .i64 y) ∧ WT B (2000 - p.length + 1) (upd (lk p) x none) (upd r y (some (IntKind.i64.wrap ((r y).getD 0 - 1)))) (t ++ [(x, y)]) w' ∧ Fr B wr w') := settle_c B _ _ r t x y _ wr k4 hx (k2.lk hy).2 (by rw [hy]; rfl) rfl (by omega) (by omega)
            have NN : Hid (∀ w4, WT B (2000 - p.length + 1) (upd (lk p) x none) (upd r y (some (IntKind.i64.wrap ((r y).getD 0 - 1)))) (t ++ [(x, y)]) w4 → Fr B wr w4 → IZ B X pf tf w1 (.int .i64 y) w4 k) := fun w4 g1 g2 => IZ.next hy hr hgl e1 e2 k1 k2 k3 k7 k8 g1 (g2.2 _ _ k5) (k6.trans g2.1)
            clear WC RC NX hy e1 e2 k1 k2 k3 k4 k5 k6 k7 k8 hgl hx hr hgp
            go_wp2_with (first
              | (go_at_call 14; refine W1.out.mono ?_; rintro e w3 ⟨rfl, hw⟩; rw [hw]; clear hw w3)
              | (go_at_call 15; refine R1.out.mono ?_; rintro e w3 ⟨rfl, hw⟩; rw [hw]; clear hw w3)
              | (go_at_call 16; refine SC.out.mono ?_; rintro e w4 ⟨rfl, g1, g2⟩; have N4 : Hid _ := NN.out w4 g1 g2; clear g1 g2))
            go_roundw
            case rel => exact ⟨_, N4.out⟩
            case measure => rw [← MM.out]; exact Nat.lt_of_le_of_lt (lst_le N4.out) (Nat.lt_succ_self _)
          · have hq : decide ((0 : Int) < (rd p x : Int)) = true := by simp; omega
            rw [hq] at RC
            have R1 : Hid (Calls Try.prog 15 #[.int .i64 x, .pointer (some ⟨X, 0, none⟩)] wr fun e w' => e = .returned (.bool true) ∧ w' = wr) := RC
            have N1 : Hid (OZ1 B X l S1 w1 (i + 1) wr) := NX.out (chase_read hr)
            clear WC RC NX hy e1 e2 k1 k2 k3 k4 k5 k6 k7 k8 hgl hx hr hq
            go_wp2_with (first
              | (go_at_call 14; refine W1.out.mono ?_; rintro e w3 ⟨rfl, hw⟩; rw [hw]; clear hw w3)
              | (go_at_call 15; refine R1.out.mono ?_; rintro e w3 ⟨rfl, hw⟩; rw [hw]; clear hw w3))
            go_roundw
            case rel => exact ⟨i + 1, by omega, by go_num, N1.out⟩
            case measure => simp [intOf]; omega
    · have hiz : ¬ (i : Int) < l.length := by omega
      have S2 : Hid (OZ2 B X l spare (pe, out) w1 0 wr) := by
        obtain ⟨p, t, r, e1, k1, k2, k3, k4, k5, k6, k7, k8⟩ := hz
        rw [List.drop_eq_nil_of_le hge, ph1] at e1
        subst e1
        exact ⟨p, t, r, _, E2.out, k2, k4, k5, k6, by omega, by omega⟩
      clear hz E2
      go_wp2
      go_loopw [45] (fun iv wr => ∃ i : Nat, i ≤ l.length ∧ iv = .int .i64 (i : Int) ∧ OZ2 B X l spare (pe, out) w1 i wr) (fun iv _ => l.length - (intOf iv).toNat)
      case atStart => exact ⟨0, by omega, rfl, S2.out⟩
      case round =>
        clear S2
        obtain ⟨j, hj, rfl, hz⟩ := hrel
        obtain ⟨p, t, r, nr, e1, k2, k4, k5, k6, k7, k8⟩ := hz
        have BW : Below w.heap.size w wr := BB.out.trans (k6.mono HSZ.out)
        have hwB : B ≤ wr.heap.size := by have := k4.lt; omega
        rcases Nat.lt_or_ge j l.length with hlt | hge2
        · have hjz : (j : Int) < l.length := by omega
          obtain ⟨b1, o1, rfl, hb1, c1, c2⟩ := rows_cells R.out BW j hlt
          have hx := (HA.out l[j] (List.getElem_mem hlt)).1
          rw [List.drop_eq_getElem_cons hlt, ph2] at e1
          generalize l[j].1 = x at *
          generalize l[j].2 = y0 at *
          simp only at e1
          have m4 := k4.below (below_alloc wr (.cells #[.int .i64 x, .int .i64 y0] 28))
          have m5 := k5.below (below_alloc wr (.cells #[.int .i64 x, .int .i64 y0] 28)) k5.lt
          have m6 := k6.trans ((below_alloc wr (.cells #[.int .i64 x, .int .i64 y0] 28)).mono hwB)
          have cX : (wr.alloc (.cells #[.int .i64 x, .int .i64 y0] 28)).cell? ⟨X, 0, none⟩ = some (.pointer (some ⟨B + 2, 0, none⟩)) := m5.cell 0
          have WC := waits_c B _ X _ _ t x hx _ m4 m5
          cases hy : lk p x with
          | none =>
            rw [hy] at e1 WC
            have W1 : Hid (Calls Try.prog 14 #[.int .i64 x, .pointer (some ⟨X, 0, none⟩)] (wr.alloc (.cells #[.int .i64 x, .int .i64 y0] 28)) fun e w' => e = .returned (.bool false) ∧ w' = wr.alloc (.cells #[.int .i64 x, .int .i64 y0] 28)) := WC
            have N1 : Hid (OZ2 B X l spare (pe, out) w1 (j + 1) (wr.alloc (.cells #[.int .i64 x, .int .i64 y0] 28))) := ⟨p, t, r, nr, e1, k2, m4, m5, m6, k7, k8⟩
            clear WC hy e1 k2 k4 k5 k6 k7 k8 m4 m5 m6 hx BW
            go_wp2_with (go_at_call 14; refine W1.out.mono ?_; rintro e w3 ⟨rfl, hw⟩; rw [hw]; clear hw w3)
            go_roundw
            case rel => exact ⟨j + 1, by omega, by go_num, N1.out⟩
            case measure => simp [intOf]; omega
          | some y =>
            rw [hy] at e1 WC
            have W1 : Hid (Calls Try.prog 14 #[.int .i64 x, .pointer (some ⟨X, 0, none⟩)] (wr.alloc (.cells #[.int .i64 x, .int .i64 y0] 28)) fun e w' => e = .returned (.bool true) ∧ w' = wr.alloc (.cells #[.int .i64 x, .int .i64 y0] 28)) := WC
            simp only at e1
            cases hc : circ spare x p.length p x with
            | none => rw [hc] at e1; cases e1
            | some rr =>
              rw [hc] at e1
              obtain ⟨p', c⟩ := rr
              simp only at e1
              have CC : Hid (Calls Try.prog 17 #[.pointer (some ⟨B + 2, 0, none⟩), .int .i64 x, .int .i64 spare] (wr.alloc (.cells #[.int .i64 x, .int .i64 y0] 28)) fun e w' => e = .returned (.tuple #[]) ∧ ∃ nr' r', nr' + p'.length ≤ nr + p.length ∧ (t ++ (spare, x) :: c).length + 2 * p'.length ≤ t.length + 2 * p.length ∧ WT B nr' (lk p') r' (t ++ (spare, x) :: c) w' ∧ Fr B (wr.alloc (.cells #[.int .i64 x, .int .i64 y0] 28)) w') := circle_c B nr p.length r p p' t c x spare _ m4 k2 hc (by omega) (by omega)
              have AP : Hid (Al p') := circ_al hc k2
              have NN : Hid (∀ w4 nr' r', nr' + p'.length ≤ nr + p.length → (t ++ (spare, x) :: c).length + 2 * p'.length ≤ t.length + 2 * p.length → WT B nr' (lk p') r' (t ++ (spare, x) :: c) w4 → Fr B (wr.alloc (.cells #[.int .i64 x, .int .i64 y0] 28)) w4 → OZ2 B X l spare (pe, out) w1 (j + 1) w4) := fun w4 nr' r' g1 g2 g3 g4 => ⟨p', _, r', nr', e1, AP.out, g3, g4.2 _ _ m5, m6.trans g4.1, by omega, by omega⟩
              clear WC hy e1 k2 k4 k5 k6 k7 k8 m4 m5 m6 hx BW hc AP
              go_wp2_with (first
                | (go_at_call 14; refine W1.out.mono ?_; rintro e w3 ⟨rfl, hw⟩; rw [hw]; clear hw w3)
                | (go_at_call 17; refine CC.out.mono ?_; rintro e w4 ⟨rfl, nr', r', g1, g2, g3, g4⟩; have N4 : Hid _ := NN.out w4 nr' r' g1 g2 g3 g4; clear g1 g2 g3 g4))
              go_roundw
              case rel => exact ⟨j + 1, by omega, by go_num, N4.out⟩
              case measure => simp [intOf]; omega
        · have hjz : ¬ (j : Int) < l.length := by omega
          have HB2 : Hid (Below w.heap.size w wr) := BW
          rw [List.drop_eq_nil_of_le hge2, ph2] at e1
          injection e1 with e1
          injection e1 with e1 e2
          subst e1 e2
          obtain ⟨tv, j1, j2, j3, j4⟩ := k4
          obtain ⟨Av, Cv, ev, hrows⟩ := OwnB.done mC_len j4
          subst ev
          have cX : wr.cell? ⟨X, 0, none⟩ = some (.pointer (some ⟨B + 2, 0, none⟩)) := k5.cell 0
          have c2 : wr.cell? ⟨B + 2, 2, none⟩ = some (.slice Av t.length Cv) := j1.cell 2
          have LL : Hid (LI wr t (.slice Av t.length Cv)) := ⟨Av, Cv, rfl, hrows⟩
          clear j1 j2 j3 j4 k2 k5 k6 k7 k8 hrows BW
          go_wp2
          go_ret2
          exact ⟨_, rfl, LL.out, HB2.out⟩
end Go.Proofs.Ytoagebclnaggjaa
