/-
  Proved: what is still to be moved, in memory: its two maps and the moves that were told; telling one more; settling a place.
-/
import Derived.Test.YtoagebclnaggjaaSmap
import Derived.Test.YtoagebclnaggjaaPn
namespace Go.Proofs.Ytoagebclnaggjaa
open Go.RowKit Go.Maps

abbrev Mv := Int × Int
def mC (m : Mv) : List Value := [.int .i64 m.1, .int .i64 m.2]
theorem mC_len (a : Mv) : (mC a).length = 2 := rfl
theorem mC_one (a : Mv) : ∀ u ∈ mC a, u.oneCell' = true := by
  intro u hu
  simp [mC] at hu
  rcases hu with rfl | rfl <;> rfl
theorem infoMv : (Try.prog.info? 28).map (fun i => (i.zero, i.size, i.bytes)) = some (some (.agg #[.int .i64 0, .int .i64 0]), 2, 16) := by kernel_rfl

/-- Moves, a row of one's own. -/
def OM (base : Nat) (l : List Mv) (v : Value) (w : World) : Prop := OwnB 28 2 mC base l v w

theorem OM.app {base : Nat} {l : List Mv} (w : World) {ops : Array Oper} {rest : List Oper} {o : Oper} {a : Act} {Q : Exit → Act → World → Prop} (hgd : o.guard = none) (s x : Operand)
    (ho : o.op = .call { callee := .builtin .append, args := #[s, x], argTypes := #[22, 22] })
    (v : Value) (hs : a.eval s = v) (y : Mv) (hown : OM base l v w) (ad : Addr) (C : Nat) (hx : a.eval x = .slice (some ad) 1 C)
    (hc : ∀ j u, (mC y)[j]? = some u → w.cell? (ad.add j) = some u) (hl : l.length ≤ 10000)
    (h : ∀ v' w', OM base (l ++ [y]) v' w' → Below base w w' → (∀ k, k < w.heap.size → v.ownBlock ≠ some k → w'.heap[k]? = w.heap[k]?) → (∀ b, v'.ownBlock = some b → v.ownBlock = some b ∨ w.heap.size ≤ b) → wpList Try.prog ops Q rest (a.put o.dst v') w') : wpList Try.prog ops Q (o :: rest) a w :=
  OwnB.appendNL 22 28 mC _ 2 16 infoMv Try.underlying22 rfl (by decide) (by decide) mC_len mC_one w hgd s x ho v hs y hown ad C hx hc hl h

theorem OM.empty {base : Nat} {w : World} (h : base ≤ w.heap.size) : OM base [] (.slice none 0 0) w := ⟨h, by simp, Or.inl ⟨rfl, rfl⟩⟩

/-- The maps in B and B + 1, the struct in B + 2, what was told behind. -/
def WT (B nr : Nat) (q r : Int → Option Int) (t : List Mv) (w : World) : Prop :=
  ∃ tv, At w (B + 2) #[.map (some B), .map (some (B + 1)), tv] 40 ∧ MapF w B 1000 q ∧ MapF w (B + 1) nr r ∧ OM (B + 3) t tv w

/-- Below B all stays, and so do variables of pointers to a waiting. -/
def Fr (B : Nat) (w w' : World) : Prop := Below B w w' ∧ ∀ k v, At w k #[v] 35 → At w' k #[v] 35

theorem Fr.refl (B : Nat) (w : World) : Fr B w w := ⟨Below.refl _ _, fun _ _ h => h⟩
theorem Fr.trans {B : Nat} {w w' w'' : World} (h : Fr B w w') (k : Fr B w' w'') : Fr B w w'' := ⟨h.1.trans k.1, fun b v hb => k.2 b v (h.2 b v hb)⟩
theorem Fr.below {B : Nat} {w w' : World} (h : Below w.heap.size w w') (hB : B ≤ w.heap.size) : Fr B w w' := ⟨h.mono hB, fun _ _ hk => hk.below h hk.lt⟩

theorem WT.lt {B nr : Nat} {q r : Int → Option Int} {t : List Mv} {w : World} (h : WT B nr q r t w) : B + 2 < w.heap.size := by
  obtain ⟨tv, h1, _⟩ := h
  exact h1.lt

theorem WT.below {B nr : Nat} {q r : Int → Option Int} {t : List Mv} {w w' : World} (h : WT B nr q r t w) (k : Below w.heap.size w w') : WT B nr q r t w' := by
  obtain ⟨tv, h1, h2, h3, h4⟩ := h
  exact ⟨tv, h1.below k h1.lt, h2.below k, h3.below k, OwnB.below h4 k⟩

theorem map_at {w : World} {b n k : Nat} {f : Int → Option Int} {cs : Array Value} {t : TypeId} (h : MapF w b n f) (hk : At w k cs t) : k ≠ b := by
  rintro rfl
  obtain ⟨D, ⟨es, c, hb, _⟩, _⟩ := h
  have := hb.symm.trans hk
  simp at this

/-- The first map anew. -/
theorem WT.from {B nr : Nat} {q q' r : Int → Option Int} {t : List Mv} {w w' : World} (h : WT B nr q r t w) (hm : MapF w' B 1000 q') (k : Kp (fun b => b = B) w w') : WT B nr q' r t w' ∧ Fr B w w' := by
  obtain ⟨tv, h1, h2, h3, h4⟩ := h
  have hs := k.1.size
  refine ⟨⟨tv, k.at h1 (by omega), hm, h3.stay (k.2 _ h3.lt (by omega)), OwnB.kp h4 k (fun b hb => by omega)⟩, k.below (by have := h1.lt; omega) (fun b hb => by omega), fun b v hb => k.at hb (fun e => map_at h2 hb e)⟩

/-- The second one. -/
theorem WT.readers {B nr nr' : Nat} {q r r' : Int → Option Int} {t : List Mv} {w w' : World} (h : WT B nr q r t w) (hm : MapF w' (B + 1) nr' r') (k : Kp (fun b => b = B + 1) w w') : WT B nr' q r' t w' ∧ Fr B w w' := by
  obtain ⟨tv, h1, h2, h3, h4⟩ := h
  have hs := k.1.size
  refine ⟨⟨tv, k.at h1 (by omega), h2.stay (k.2 _ h2.lt (by omega)), hm, OwnB.kp h4 k (fun b hb => by omega)⟩, k.below (by have := h1.lt; omega) (fun b hb => by omega), fun b v hb => k.at hb (fun e => map_at h3 hb e)⟩

theorem Kp.setc (w : World) (b j : Nat) (v : Value) : Kp (fun k => k = b) w (w.setCell ⟨b, j, none⟩ v) :=
  ⟨⟨rfl, rfl, rfl, by simp [World.setCell], fun k hk => by omega⟩, fun k _ hne => Below.heap_setCell w ⟨b, j, none⟩ v k hne⟩

/-- What was told anew: behind an append the struct's cell is set. -/
theorem WT.tell {B nr : Nat} {q r : Int → Option Int} {t t' : List Mv} {w w1 : World} {tv tv' : Value} (h1 : At w (B + 2) #[.map (some B), .map (some (B + 1)), tv] 40) (h2 : MapF w B 1000 q) (h3 : MapF w (B + 1) nr r) (h4 : OM (B + 3) t tv w)
    (h5 : OM (B + 3) t' tv' w1) (hb : Below (B + 3) w w1) (hk : ∀ k, k < w.heap.size → tv.ownBlock ≠ some k → w1.heap[k]? = w.heap[k]?) :
    WT B nr q r t' (w1.setCell ⟨B + 2, 2, none⟩ tv') ∧ Fr B w (w1.setCell ⟨B + 2, 2, none⟩ tv') := by
  have hl := h1.lt
  have a1 : At w1 (B + 2) #[.map (some B), .map (some (B + 1)), tv] 40 := h1.below hb (by omega)
  have a2 := a1.set (j := 2) tv'
  have m2 : MapF w1 B 1000 q := h2.stay (hb.block _ (by omega))
  have m3 : MapF w1 (B + 1) nr r := h3.stay (hb.block _ (by omega))
  have k := Kp.setc w1 (B + 2) 2 tv'
  refine ⟨⟨tv', a2, m2.stay (k.2 _ m2.lt (by omega)), m3.stay (k.2 _ m3.lt (by omega)), OwnB.kp h5 k (fun b hb => by omega)⟩, (hb.mono (by omega)).trans (k.below (by have := m2.lt; omega) (fun b hb => by omega)), fun b v hv => ?_⟩
  have hne : tv.ownBlock ≠ some b := fun e => by
    obtain ⟨_, cs, hc⟩ := OwnB.at h4 e
    exact At.type hv hc (by decide) rfl
  have v1 : At w1 b #[v] 35 := (hk b hv.lt hne).trans hv
  exact k.at v1 (At.type v1 a1 (by decide))

/-- One more is told. -/
theorem tell_c (B nr : Nat) (q r : Int → Option Int) (t : List Mv) (a b : Int) (w : World) (h : WT B nr q r t w) (hl : t.length ≤ 5000) :
    Calls Try.prog 19 #[.pointer (some ⟨B + 2, 0, none⟩), .int .i64 a, .int .i64 b] w fun e w' => e = .returned (.tuple #[]) ∧ WT B nr q r (t ++ [(a, b)]) w' ∧ Fr B w w' := by
  obtain ⟨tv, h1, h2, h3, h4⟩ := h
  obtain ⟨Av, Cv, ev, -⟩ := OwnB.shape mC_len h4
  subst ev
  have c2 : w.cell? ⟨B + 2, 2, none⟩ = some (.slice Av t.length Cv) := h1.cell 2
  have A1 : Hid (At w (B + 2) #[.map (some B), .map (some (B + 1)), .slice Av t.length Cv] 40) := h1
  have H2 : Hid (MapF w B 1000 q) := h2
  have H3 : Hid (MapF w (B + 1) nr r) := h3
  have H4 : Hid (OM (B + 3) t (.slice Av t.length Cv) w) := h4
  have hl2 : Hid (t.length ≤ 10000) := (show t.length ≤ 10000 by omega)
  clear h1 h2 h3 h4 hl
  go_enter Try.func19, Try.ntmps19
  go_wp2_with (at_builtin; go_loud (refine OM.app _ rfl _ _ rfl _ rfl (a, b) (OwnB.below H4.out (below_alloc _ _)) ⟨w.heap.size, 0, none⟩ 1 rfl (fun j u hj => cells_new _ (mC (a, b)) 28 j u hj) hl2.out ?_); intro v5 w5 ho hb hk _; obtain ⟨A5, C5, rfl, -⟩ := OwnB.shape mC_len ho; have c4 := (A1.out.below (below_alloc w _) A1.out.lt).below hb (by omega) |>.cell 2; have c5 := (A1.out.below (below_alloc w _) A1.out.lt).below hb (by omega) |>.frozen 2; have W5 := WT.tell (A1.out.below (below_alloc w _) A1.out.lt) (H2.out.below (below_alloc w _)) (H3.out.below (below_alloc w _)) (OwnB.below H4.out (below_alloc _ _)) ho hb hk; have W6 : Hid _ := W5; clear W5 ho hb hk)
  go_end0
  have h6 := W6.out
  simp only [List.length_append, List.length_cons, List.length_nil, Nat.zero_add] at h6
  exact ⟨rfl, h6.1, (Fr.below (below_alloc w _) (by have := A1.out.lt; omega)).trans h6.2⟩

theorem wrap_in64 (n : Int) : In (IntKind.i64.wrap n) := by
  unfold In IntKind.wrap
  simp only [IntKind.bits, IntKind.signed]
  have h1 := Int.emod_nonneg n (show (18446744073709551616 : Int) ≠ 0 by decide)
  have h2 := Int.emod_lt_of_pos n (show (0 : Int) < 18446744073709551616 by decide)
  simp
  omega

/-- A place is settled. -/
theorem settle_c (B nr : Nat) (q r : Int → Option Int) (t : List Mv) (x y z : Int) (w : World) (h : WT B nr q r t w) (hx : In x) (hy : In y) (hq : (q x).getD 0 = y) (hz : IntKind.i64.wrap ((r y).getD 0 - 1) = z) (hl : t.length ≤ 5000) (hn : nr ≤ 5000) :
    Calls Try.prog 16 #[.pointer (some ⟨B + 2, 0, none⟩), .int .i64 x] w fun e w' => e = .returned (.int .i64 y) ∧ WT B (nr + 1) (upd q x none) (upd r y (some z)) (t ++ [(x, y)]) w' ∧ Fr B w w' := by
  have hzi : In z := hz ▸ wrap_in64 _
  have T : Hid (Calls Try.prog 19 #[.pointer (some ⟨B + 2, 0, none⟩), .int .i64 x, .int .i64 y] w fun e w' => e = .returned (.tuple #[]) ∧ WT B nr q r (t ++ [(x, y)]) w' ∧ Fr B w w') := tell_c B nr q r t x y w h hl
  obtain ⟨tv, h1, h2, h3, h4⟩ := h
  have c0 : w.cell? ⟨B + 2, 0, none⟩ = some (.map (some B)) := h1.cell 0
  have lk := h2.look1 hx
  rw [hq] at lk
  have HX : Hid (In x) := hx
  have HY : Hid (In y) := hy
  have HZ : Hid (In z) := hzi
  have HQ : Hid (nr ≤ 100000) := (show nr ≤ 100000 by omega)
  clear h1 h2 h3 h4 hx hy hzi hl hn hq
  have arm : Hid (∀ w1, WT B nr q r (t ++ [(x, y)]) w1 → ∃ w2 w3, w1.cell? ⟨B + 2, 0, none⟩ = some (.map (some B)) ∧ (∀ ty, (Builtin.delete_ #[38, 3] ty #[.map (some B), .int .i64 x]).run Try.prog w1 = .ok (.tuple #[]) w2) ∧ w2.cell? ⟨B + 2, 1, none⟩ = some (.map (some (B + 1))) ∧ (Instr.lookup 38 (.map (some (B + 1))) (.int .i64 y) false).run Try.prog w2 = .ok (.int .i64 ((r y).getD 0)) w2 ∧ (Instr.mapUpdate 38 (.map (some (B + 1))) (.int .i64 y) (.int .i64 z)).run Try.prog w2 = .ok () w3 ∧ WT B (nr + 1) (upd q x none) (upd r y (some z)) (t ++ [(x, y)]) w3 ∧ Fr B w1 w3) := by
    intro w1 h
    have h0 := h
    obtain ⟨tv, h1, h2, h3, h4⟩ := h
    obtain ⟨w2, d1, d2, d3, d4⟩ := h2.del HX.out 0
    have hall : ∀ ty, (Builtin.delete_ #[38, 3] ty #[.map (some B), .int .i64 x]).run Try.prog w1 = .ok (.tuple #[]) w2 := fun ty => by
      obtain ⟨w2', e1, _⟩ := h2.del HX.out ty
      exact d1
    obtain ⟨g1, g2⟩ := h0.from d2 d3
    have g0 := g1
    obtain ⟨tv', k1, k2, k3, k4⟩ := g1
    obtain ⟨w3, u1, u2, u3, u4⟩ := k3.put HY.out HZ.out HQ.out
    obtain ⟨f1, f2⟩ := g0.readers u2 u3
    exact ⟨w2, w3, h1.cell 0, hall, k1.cell 1, k3.look1 HY.out, u1, f1, g2.trans f2⟩
  generalize (r y).getD 0 = ry at *
  go_enter Try.func16, Try.ntmps16
  go_wp2_with (go_at_call 19; refine T.out.mono ?_; rintro e w1 ⟨rfl, g1, g2⟩; obtain ⟨w2, w3, a1, a2, a3, a4, a5, a6, a7⟩ := arm.out w1 g1; have A6 : Hid _ := a6; have A7 : Hid (Fr B w w3) := g2.trans a7; clear a6 a7 g1 g2)
  go_ret
  exact ⟨rfl, A6.out, A7.out⟩
end Go.Proofs.Ytoagebclnaggjaa
