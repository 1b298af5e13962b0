/-
  Proved: what settleCircle tells of a circle; what the two closures of Line answer.
-/
import Derived.Test.YtoagebclnaggjaaSdef
set_option linter.unusedVariables false
namespace Go.Proofs.Ytoagebclnaggjaa
open Go.RowKit Go.Maps

/-- The least one. -/
theorem least_ex (p : Nat → Prop) (h : ∃ m, p m) : ∃ m, p m ∧ ∀ k, p k → m ≤ k := by
  obtain ⟨m, hm⟩ := h
  induction m using Nat.strongRecOn with
  | _ m ih =>
    by_cases e : ∃ k, k < m ∧ p k
    · obtain ⟨k, h1, h2⟩ := e
      exact ih k h1 h2
    · exact ⟨m, hm, fun k hk => Nat.le_of_not_lt fun h => e ⟨k, h, hk⟩⟩

noncomputable def lst (p : Nat → Prop) : Nat := @dite _ (∃ m, p m) (Classical.propDecidable _) (fun h => Classical.choose (least_ex p h)) (fun _ => 0)

theorem lst_spec {p : Nat → Prop} (h : ∃ m, p m) : p (lst p) := by
  unfold lst
  rw [dif_pos h]
  exact (Classical.choose_spec (least_ex p h)).1

theorem lst_le {p : Nat → Prop} {m : Nat} (h : p m) : lst p ≤ m := by
  have h' : ∃ m, p m := ⟨m, h⟩
  unfold lst
  rw [dif_pos h']
  exact (Classical.choose_spec (least_ex p h')).2 m h

/-- All numbers are numbers. -/
def Al (p : List Mv) : Prop := ∀ m ∈ p, In m.1 ∧ In m.2
theorem Al.rem {p : List Mv} (h : Al p) (x : Int) : Al (rem p x) := fun m hm => h m (List.mem_filter.1 hm).1
theorem Al.lk {p : List Mv} (h : Al p) {x y : Int} (e : lk p x = some y) : In x ∧ In y := h _ (lk_mem e)

theorem waits_c (B nr X : Nat) (q r : Int → Option Int) (t : List Mv) (x : Int) (hx : In x) (w : World) (h : WT B nr q r t w) (hX : At w X #[.pointer (some ⟨B + 2, 0, none⟩)] 35) :
    Calls Try.prog 14 #[.int .i64 x, .pointer (some ⟨X, 0, none⟩)] w fun e w' => e = .returned (.bool (q x).isSome) ∧ w' = w := by
  obtain ⟨tv, h1, h2, h3, h4⟩ := h
  have c0 : w.cell? ⟨B + 2, 0, none⟩ = some (.map (some B)) := h1.cell 0
  have cX : w.cell? ⟨X, 0, none⟩ = some (.pointer (some ⟨B + 2, 0, none⟩)) := hX.cell 0
  have l2 := h2.look2 hx
  clear h1 h2 h3 h4 hX hx
  generalize (q x).getD 0 = a at *
  generalize (q x).isSome = b at *
  go_enter Try.func14, Try.ntmps14
  go_wp2
  go_ret
  exact ⟨rfl, rfl⟩

theorem isRead_c (B nr X : Nat) (q r : Int → Option Int) (t : List Mv) (x : Int) (hx : In x) (w : World) (h : WT B nr q r t w) (hX : At w X #[.pointer (some ⟨B + 2, 0, none⟩)] 35) :
    Calls Try.prog 15 #[.int .i64 x, .pointer (some ⟨X, 0, none⟩)] w fun e w' => e = .returned (.bool (decide (0 < (r x).getD 0))) ∧ w' = w := by
  obtain ⟨tv, h1, h2, h3, h4⟩ := h
  have c0 : w.cell? ⟨B + 2, 1, none⟩ = some (.map (some (B + 1))) := h1.cell 1
  have cX : w.cell? ⟨X, 0, none⟩ = some (.pointer (some ⟨B + 2, 0, none⟩)) := hX.cell 0
  have l2 := h3.look1 hx
  clear h1 h2 h3 h4 hX hx
  generalize (r x).getD 0 = a at *
  go_enter Try.func15, Try.ntmps15
  go_wp2
  go_ret
  exact ⟨rfl, rfl⟩

/-- Where the loop stands: g rounds are left. -/
def CZ (B nr f : Nat) (spare first : Int) (p' c : List Mv) (w0 : World) (v : Value) (wr : World) (g : Nat) : Prop :=
  ∃ x p t nr2 r c2, v = .int .i64 x ∧ circ spare first g p x = some (p', c2) ∧ t ++ c2 = c ∧ Al p ∧ WT B nr2 (lk p) r t wr ∧ nr2 + p.length ≤ nr ∧ t.length + 2 * p.length ≤ f + 1 ∧ Fr B w0 wr

theorem circ_some {spare first : Int} {g : Nat} {p : List Mv} {x : Int} {r : List Mv × List Mv} (h : circ spare first g p x = some r) : ∃ k y, g = k + 1 ∧ lk p x = some y ∧ ((y = first ∧ r = (rem p x, [(x, spare)])) ∨ (y ≠ first ∧ ∃ s, circ spare first k (rem p x) y = some s ∧ r = (s.1, (x, y) :: s.2))) := by
  cases g with
  | zero => cases h
  | succ k =>
    unfold circ at h
    cases e : lk p x with
    | none => rw [e] at h; cases h
    | some y =>
      rw [e] at h
      simp only at h
      refine ⟨k, y, rfl, rfl, ?_⟩
      split at h
      · cases h; rename_i e2; exact Or.inl ⟨e2, rfl⟩
      · rename_i e2
        split at h
        · cases h
        · rename_i s hs
          cases h
          exact Or.inr ⟨e2, s, hs, rfl⟩

theorem lk_rem' (p : List Mv) (x : Int) : upd (lk p) x none = lk (rem p x) := funext fun y => (lk_rem p x y).symm

set_option maxRecDepth 20000 in
set_option maxHeartbeats 1000000 in
theorem circle_c (B nr f : Nat) (r : Int → Option Int) (p p' t c : List Mv) (first spare : Int) (w : World) (h : WT B nr (lk p) r t w) (ha : Al p) (he : circ spare first f p first = some (p', c)) (hl : t.length + 2 * p.length ≤ 4000) (hn : nr + p.length ≤ 4000) :
    Calls Try.prog 17 #[.pointer (some ⟨B + 2, 0, none⟩), .int .i64 first, .int .i64 spare] w fun e w' => e = .returned (.tuple #[]) ∧ ∃ nr' r', nr' + p'.length ≤ nr + p.length ∧ (t ++ (spare, first) :: c).length + 2 * p'.length ≤ t.length + 2 * p.length ∧ WT B nr' (lk p') r' (t ++ (spare, first) :: c) w' ∧ Fr B w w' := by
  have T : Hid (Calls Try.prog 19 #[.pointer (some ⟨B + 2, 0, none⟩), .int .i64 spare, .int .i64 first] w fun e w' => e = .returned (.tuple #[]) ∧ WT B nr (lk p) r (t ++ [(spare, first)]) w' ∧ Fr B w w') := tell_c B nr _ r t spare first w h (by omega)
  have ST : Hid (∀ w1, WT B nr (lk p) r (t ++ [(spare, first)]) w1 → Fr B w w1 → CZ B (nr + p.length) (t.length + 2 * p.length) spare first p' (t ++ (spare, first) :: c) w (.int .i64 first) w1 f) := fun w1 h1 h2 => ⟨first, p, t ++ [(spare, first)], nr, r, c, rfl, he, by simp, ha, h1, by omega, by simp; omega, h2⟩
  have HL : Hid (nr + p.length ≤ 4000) := hn
  have HT : Hid (t.length + 2 * p.length ≤ 4000) := hl
  clear h ha he hl hn
  generalize t ++ (spare, first) :: c = c0 at *
  generalize nr + p.length = NR at *
  generalize t.length + 2 * p.length = TL at *
  go_enter Try.func17, Try.ntmps17
  go_wp2_with (go_at_call 19; refine T.out.mono ?_; rintro e w1 ⟨rfl, g1, g2⟩; have S1 : Hid _ := ST.out w1 g1 g2; clear g1 g2)
  go_loopw [6] (fun v wr => ∃ m, CZ B NR TL spare first p' c0 w v wr m) (fun v wr => lst (CZ B NR TL spare first p' c0 w v wr))
  case atStart => exact ⟨_, S1.out⟩
  case round =>
    clear S1 ST T
    have hz := lst_spec hrel
    clear hrel
    obtain ⟨g, hg⟩ : ∃ g, g = lst (CZ B NR TL spare first p' c0 w u6 wr) := ⟨_, rfl⟩
    rw [← hg] at hz
    have MM : Hid (g = lst (CZ B NR TL spare first p' c0 w u6 wr)) := hg
    clear hg
    obtain ⟨x, p2, t2, nr2, r2, c2, rfl, e1, e2, h3, h4, h5, h6, h8⟩ := hz
    obtain ⟨k, y, rfl, hy, hcase⟩ := circ_some e1
    obtain ⟨hx1, hy1⟩ := h3.lk hy
    have c0' : wr.cell? ⟨B + 2, 0, none⟩ = some (.map (some B)) := by
      obtain ⟨tv, a1, _⟩ := h4
      exact a1.cell 0
    have lk1 : (Instr.lookup 38 (.map (some B)) (.int .i64 x) false).run Try.prog wr = .ok (.int .i64 y) wr := by
      obtain ⟨tv, a1, a2, _⟩ := h4
      have := a2.look1 hx1
      rwa [hy] at this
    rcases hcase with ⟨rfl, hr⟩ | ⟨hne, s, hs, hr⟩
    · injection hr with r1 r2'
      subst r1 r2'
      have hq : (y != y) = false := by simp
      have T2 : Hid (Calls Try.prog 19 #[.pointer (some ⟨B + 2, 0, none⟩), .int .i64 x, .int .i64 spare] wr fun e w' => e = .returned (.tuple #[]) ∧ WT B nr2 (lk p2) r2 (t2 ++ [(x, spare)]) w' ∧ Fr B wr w') := tell_c B nr2 _ r2 t2 x spare wr h4 (by have := HT.out; omega)
      have DD : Hid (∀ w2, WT B nr2 (lk p2) r2 (t2 ++ [(x, spare)]) w2 → ∃ w3, w2.cell? ⟨B + 2, 0, none⟩ = some (.map (some B)) ∧ (∀ ty, (Builtin.delete_ #[38, 3] ty #[.map (some B), .int .i64 x]).run Try.prog w2 = .ok (.tuple #[]) w3) ∧ WT B nr2 (lk (rem p2 x)) r2 (t2 ++ [(x, spare)]) w3 ∧ Fr B w2 w3) := by
        intro w2 hw2
        have h0 := hw2
        obtain ⟨tv, a1, a2, a3, a4⟩ := hw2
        obtain ⟨w3, d1, d2, d3, d4⟩ := a2.del hx1 0
        obtain ⟨g1, g2⟩ := h0.from d2 d3
        rw [lk_rem'] at g1
        exact ⟨w3, a1.cell 0, fun ty => d1, g1, g2⟩
      have F0 : Hid (Fr B w wr) := h8
      have EE : Hid (t2 ++ [(x, spare)] = c0) := e2
      have hsh := rem_len hy
      have NN : Hid (nr2 + (rem p2 x).length ≤ NR) := (show nr2 + (rem p2 x).length ≤ NR by omega)
      have N3 : Hid (c0.length + 2 * (rem p2 x).length ≤ TL) := (show c0.length + 2 * (rem p2 x).length ≤ TL by rw [← e2, List.length_append]; simp; omega)
      have H41 : Hid True := trivial
      clear e1 e2 h3 h4 h5 h6 h8 hy hx1 hy1 MM hsh H41
      go_wp2_with (go_at_call 19; refine T2.out.mono ?_; rintro e w2 ⟨rfl, g1, g2⟩; obtain ⟨w3, a1, a2, a3, a4⟩ := DD.out w2 g1; have A3 : Hid _ := a3; have A4 : Hid (Fr B w w3) := (F0.out.trans g2).trans a4; clear a3 a4 g1 g2)
      go_end0
      have a3 := A3.out
      rw [EE.out] at a3
      exact ⟨rfl, nr2, _, NN.out, N3.out, a3, A4.out⟩
    · injection hr with r1 r2'
      have hq : (y != first) = true := by simpa using hne
      have SC : Hid (Calls Try.prog 16 #[.pointer (some ⟨B + 2, 0, none⟩), .int .i64 x] wr fun e w' => e = .returned (.int .i64 y) ∧ WT B (nr2 + 1) (upd (lk p2) x none) (upd r2 y (some (IntKind.i64.wrap ((r2 y).getD 0 - 1)))) (t2 ++ [(x, y)]) w' ∧ Fr B wr w') := settle_c B nr2 _ r2 t2 x y _ wr h4 hx1 hy1 (by rw [hy]; rfl) rfl (by have := HT.out; omega) (by have := HL.out; omega)
      have hsh := rem_len hy
      have NX : Hid (∀ w2, WT B (nr2 + 1) (upd (lk p2) x none) (upd r2 y (some (IntKind.i64.wrap ((r2 y).getD 0 - 1)))) (t2 ++ [(x, y)]) w2 → Fr B wr w2 → CZ B NR TL spare first p' c0 w (.int .i64 y) w2 k) := fun w2 g1 g2 => by
        rw [lk_rem'] at g1
        refine ⟨y, rem p2 x, t2 ++ [(x, y)], nr2 + 1, _, s.2, rfl, ?_, ?_, h3.rem x, g1, by omega, by simp; omega, h8.trans g2⟩
        · rw [hs, r1]
        · rw [← e2, r2']; simp
      clear e1 e2 h3 h4 h5 h6 h8 hy hx1 hy1 r1 r2' hs hne hsh
      go_wp2_with (go_at_call 16; refine SC.out.mono ?_; rintro e w2 ⟨rfl, g1, g2⟩; have N2 : Hid _ := NX.out w2 g1 g2; clear g1 g2)
      go_roundw
      case rel => exact ⟨_, N2.out⟩
      case measure => rw [← MM.out]; exact Nat.lt_of_le_of_lt (lst_le N2.out) (Nat.lt_succ_self _)
end Go.Proofs.Ytoagebclnaggjaa
