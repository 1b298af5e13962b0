/-
  Proved: three rows of numbers of one's own beside a heap: what an append to one does, and that the others lie on.
-/
import Derived.Test.YtffcfohbnbldhaaDoorBoth
namespace Go.Proofs.YtffcfohbnbldhaaDoor
open Go.RowKit

/-- Where the row lies behind an append: where it lay, or in new memory. -/
theorem append_blk (w : World) (base : Nat) (l : List Int) (v : Value) (h : OwnB 3 1 iL base l v w) (ad : Addr) (m : List Int) (C : Nat) (ty : TypeId) (hc : ∀ j u, (m.flatMap iL)[j]? = some u → w.cell? (ad.add j) = some u) (hl : l.length + m.length ≤ 100000) (v' : Value) (w' : World)
    (hr : (Builtin.append_ #[30, 30] ty #[v, .slice (some ad) m.length C]).run Tryd.prog w = .ok v' w') : ∀ b, v'.ownBlock = some b → v.ownBlock = some b ∨ w.heap.size ≤ b := by
  obtain ⟨i, a1, a2, a3, a4⟩ := info_parts' info3
  have hm : (m.flatMap iL).length = m.length * i.size := by rw [a3]; exact flat_len iL_len m
  have hlm : (l.flatMap iL).length = l.length * i.size := by rw [a3]; exact flat_len iL_len l
  have h1 : ∀ u ∈ m.flatMap iL, u.oneCell' = true := fun u hu => by
    obtain ⟨a, _, ha⟩ := List.mem_flatMap.1 hu
    exact iL_one a u ha
  rcases h.2.2 with ⟨rfl, e0⟩ | ⟨g, cap, cur, rfl, hg, hb, hcap, hcm, hsz, htk⟩
  · intro b hb
    right
    by_cases hm0 : m.length = 0
    · have hm1 : m = [] := List.length_eq_zero_iff.1 hm0
      subst hm1
      have hq : (Builtin.append_ #[30, 30] ty #[.slice none 0 0, .slice (some ad) ([] : List Int).length C]).run Tryd.prog w = .ok (.slice none 0 0) w := by
        simp [Builtin.append_, run_underlying Tryd.underlying30, sizeOf, typeInfo, a1, Builtin.lenOf, Builtin.firstCells, loadCells, loadCellsFrom]
      rw [hq] at hr
      injection hr with e1 _
      subst e1
      cases hb
    · have hq := run_append_nil (P := Tryd.prog) w 30 ty 3 i _ Tryd.underlying30 a1 a2 ad m.length C (m.flatMap iL) hm hc (by omega) (by omega) (by rw [a4]; omega)
      rw [hq] at hr
      injection hr with e1 _
      subst e1
      cases hb
      exact Nat.le_refl _
  · intro b hb2
    by_cases hroom : l.length + m.length ≤ cap
    · have hq := run_append_room (P := Tryd.prog) w 30 ty 3 i Tryd.underlying30 a1 g l.length cap cur hb ad m.length C (m.flatMap iL) hm hc h1 hroom (by rw [hm, hsz, a3]; omega)
      rw [hq] at hr
      injection hr with e1 _
      subst e1
      cases hb2
      exact Or.inl rfl
    · have holds : ∀ j u, (l.flatMap iL)[j]? = some u → w.cell? ((⟨g, 0, none⟩ : Addr).add j) = some u := h.2.cells (g := g) rfl
      have hq := run_append_grow (P := Tryd.prog) w 30 ty 3 i _ Tryd.underlying30 a1 a2 ⟨g, 0, none⟩ l.length cap (l.flatMap iL) hlm holds ad m.length C (m.flatMap iL) hm hc (by omega) (by omega) (growslice_fits (by omega) (by rw [a4]; omega))
      rw [hq] at hr
      injection hr with e1 _
      subst e1
      cases hb2
      exact Or.inr (Nat.le_refl _)

theorem OwnB.appendN (w : World) {o : Oper} {a : Act} {K : Act → World → Prop} {Q : Exit → Act → World → Prop} (s x : Operand)
    (ho : o.op = .call { callee := .builtin .append, args := #[s, x], argTypes := #[30, 30] })
    (v : Value) (hs : a.eval s = v) (base : Nat) (l m : List Int) (hown : OwnB 3 1 iL base l v w) (ad : Addr) (C : Nat) (hx : a.eval x = .slice (some ad) m.length C)
    (hc : ∀ j u, (m.flatMap iL)[j]? = some u → w.cell? (ad.add j) = some u) (hl : l.length + m.length ≤ 100000)
    (h : ∀ v' w', OwnB 3 1 iL base (l ++ m) v' w' → Below base w w' → (∀ k, k < w.heap.size → v.ownBlock ≠ some k → w'.heap[k]? = w.heap[k]?) → (∀ b, v'.ownBlock = some b → v.ownBlock = some b ∨ w.heap.size ≤ b) → K (a.put o.dst v') w') : o.wp Tryd.prog a w K Q := by
  obtain ⟨i25, a1, a2, a3, a4⟩ := info_parts' info3
  have hbytes : (l.length + m.length) * 8 ≤ 140737488355328 := by omega
  obtain ⟨v', w', hr, k1, k2, _⟩ := run_append_own (P := Tryd.prog) w base 30 o.type 3 i25 _ 1 8 Tryd.underlying30 a1 a2 a3 a4 rfl (by decide) v l.length (l.flatMap iL) hown.2 ad m.length C (m.flatMap iL) (flat_len iL_len m) hc (fun u hu => by
    obtain ⟨a, _, ha⟩ := List.mem_flatMap.1 hu
    exact iL_one a u ha) (by unfold maxLen; omega) hbytes hown.1
  have hb := append_blk w base l v hown ad m C o.type hc hl v' w' hr
  unfold Oper.wp execOp
  simp only [ho, resolve, invoke, builtin, Sem.run_bind, Sem.run_pure, Result.andThen_ok, List.map_toArray, List.map_cons, List.map_nil, hs, hx, hr]
  refine h v' w' ⟨Nat.le_trans hown.1 k2.size, ?_⟩ ((Below.refl _ _).grown k2 hown.1 (fun g e => own_block hown.2 e)) (fun k hk hne => k2.block k hk (fun e => hne e.symm)) hb
  rw [List.length_append, List.flatMap_append]
  exact k1

theorem OwnB.appendNL {base : Nat} {l : List Int} (w : World) {ops : Array Oper} {rest : List Oper} {o : Oper} {a : Act} {Q : Exit → Act → World → Prop} (hgd : o.guard = none) (s x : Operand)
    (ho : o.op = .call { callee := .builtin .append, args := #[s, x], argTypes := #[30, 30] })
    (v : Value) (hs : a.eval s = v) (y : Int) (hown : OwnB 3 1 iL base l v w) (ad : Addr) (C : Nat) (hx : a.eval x = .slice (some ad) 1 C)
    (hc : ∀ j u, (iL y)[j]? = some u → w.cell? (ad.add j) = some u) (hl : l.length ≤ 1000)
    (h : ∀ v' w', OwnB 3 1 iL base (l ++ [y]) v' w' → Below base w w' → (∀ k, k < w.heap.size → v.ownBlock ≠ some k → w'.heap[k]? = w.heap[k]?) → (∀ b, v'.ownBlock = some b → v.ownBlock = some b ∨ w.heap.size ≤ b) → wpList Tryd.prog ops Q rest (a.put o.dst v') w') : wpList Tryd.prog ops Q (o :: rest) a w :=
  wpList_plain hgd fun _ hK => OwnB.appendN w s x ho v hs base l [y] hown ad C hx (by simpa using hc) (by simp; omega) fun v' w' h1 h2 h3 h4 => hK _ _ (h v' w' h1 h2 h3 h4)

/-- Two rows lie apart. -/
def Apt (v u : Value) : Prop := ∀ b, v.ownBlock = some b → u.ownBlock ≠ some b
theorem Apt.symm {v u : Value} (h : Apt v u) : Apt u v := fun b hb hv => h b hv hb

structure AM (w : World) (hb : Nat) (g : Nat → Nat) (base : Nat) (us : Nat → Nat → Bool) (al : List Int) (av : Value) (ll : List Int) (lv : Value) (cl : List Int) (cv : Value) (wr : World) : Prop where
  h : HIn wr hb g us
  a : OwnB 3 1 iL base al av wr
  l : OwnB 3 1 iL base ll lv wr
  c : OwnB 3 1 iL base cl cv wr
  dal : Apt av lv
  dlc : Apt lv cv
  dca : Apt cv av
  b : Below w.heap.size w wr
  tab : Tab wr
  g3 : g 3 < base
  hw : w.heap.size ≤ hb
  w0 : 0 < w.heap.size

section
variable {w : World} {hb : Nat} {g : Nat → Nat} {base : Nat} {us : Nat → Nat → Bool} {al : List Int} {av : Value} {ll : List Int} {lv : Value} {cl : List Int} {cv : Value} {wr : World}

theorem AM.rot (h : AM w hb g base us al av ll lv cl cv wr) : AM w hb g base us ll lv cl cv al av wr := ⟨h.h, h.l, h.c, h.a, h.dlc, h.dca, h.dal, h.b, h.tab, h.g3, h.hw, h.w0⟩

theorem AM.below (h : AM w hb g base us al av ll lv cl cv wr) {w' : World} (k : Below wr.heap.size wr w') : AM w hb g base us al av ll lv cl cv w' :=
  ⟨h.h.below k, h.a.below k, h.l.below k, h.c.below k, h.dal, h.dlc, h.dca, below_next h.b k, h.tab.below k h.tab.lt, h.g3, h.hw, h.w0⟩

theorem AM.byH (h : AM w hb g base us al av ll lv cl cv wr) {us' : Nat → Nat → Bool} {w' : World} (h1 : HIn w' hb g us') (k : Kp (Gs g) wr w') : AM w hb g base us' al av ll lv cl cv w' := by
  have hgs := h.h.gs
  have hlt : ∀ b, Gs g b → b < base := fun b hb' => by have := hgs b hb'; have := h.g3; omega
  exact ⟨h1, h.a.kp k hlt, h.l.kp k hlt, h.c.kp k hlt, h.dal, h.dlc, h.dca, h.b.trans (k.below h.b.size (fun b hb' => by have := hgs b hb'; have := h.hw; omega)), k.tab h.tab h.h.no0, h.g3, h.hw, h.w0⟩

/-- One more in the first row. -/
theorem AM.byA (h : AM w hb g base us al av ll lv cl cv wr) {al' : List Int} {av' : Value} {w' : World} (h1 : OwnB 3 1 iL base al' av' w') (k : Below base wr w') (m : ∀ b, b < wr.heap.size → av.ownBlock ≠ some b → w'.heap[b]? = wr.heap[b]?) (nb : ∀ b, av'.ownBlock = some b → av.ownBlock = some b ∨ wr.heap.size ≤ b) : AM w hb g base us al' av' ll lv cl cv w' := by
  have kp : Kp (fun b => av.ownBlock = some b) wr w' := ⟨k.mono (Nat.zero_le _), fun b hb' hn => m b hb' hn⟩
  have hbw : w.heap.size ≤ base := by have := h.h.after 3 (by omega); have := h.g3; have := h.hw; omega
  have ltl : ∀ b, lv.ownBlock = some b → b < wr.heap.size := fun b e => by obtain ⟨_, _, q⟩ := h.l.at e; exact q.lt
  have ltc : ∀ b, cv.ownBlock = some b → b < wr.heap.size := fun b e => by obtain ⟨_, _, q⟩ := h.c.at e; exact q.lt
  refine ⟨h.h.base k h.g3, h1, h.l.but kp (fun b e e2 => h.dal b e2 e), h.c.but kp (fun b e e2 => h.dca b e e2), ?_, h.dlc, ?_, h.b.trans (k.mono hbw), h.tab.below k (Nat.lt_of_le_of_lt (Nat.zero_le _) h.g3), h.g3, h.hw, h.w0⟩
  · intro b e e2
    rcases nb b e with e3 | e3
    · exact h.dal b e3 e2
    · have := ltl b e2; omega
  · intro b e e2
    rcases nb b e2 with e3 | e3
    · exact h.dca b e e3
    · have := ltc b e; omega

/-- Another first row, in new memory. -/
theorem AM.byN (h : AM w hb g base us al av ll lv cl cv wr) {al' : List Int} {av' : Value} {w' : World} (h1 : OwnB 3 1 iL wr.heap.size al' av' w') (k : Below wr.heap.size wr w') : AM w hb g base us al' av' ll lv cl cv w' := by
  have ltl : ∀ b, lv.ownBlock = some b → b < wr.heap.size := fun b e => by obtain ⟨_, _, q⟩ := h.l.at e; exact q.lt
  have ltc : ∀ b, cv.ownBlock = some b → b < wr.heap.size := fun b e => by obtain ⟨_, _, q⟩ := h.c.at e; exact q.lt
  have h2 := h.below k
  have hbase : base ≤ wr.heap.size := h.a.1
  refine ⟨h2.h, ?_, h2.l, h2.c, ?_, h2.dlc, ?_, h2.b, h2.tab, h2.g3, h2.hw, h2.w0⟩
  · refine ⟨Nat.le_trans hbase h1.1, h1.2.1, ?_⟩
    rcases h1.2.2 with h5 | ⟨g', cap, cur, e1, e2, e3⟩
    · exact Or.inl h5
    · exact Or.inr ⟨g', cap, cur, e1, Nat.le_trans hbase e2, e3⟩
  · intro b e e2
    have := (h1.at e).1
    have := ltl b e2
    omega
  · intro b e e2
    have := (h1.at e2).1
    have := ltc b e
    omega
end

/-- Blocks of two places do not lie over one another. -/
theorem apart_blocks (c k d l : Nat) (hc : c < 4) (hd : d < 4) (hk : k < bl c) (hl : l < bl d) (hn : (c, k) ≠ (d, l)) : ¬ (adr c k < adr d l + 4 * (sz d : Int) ∧ adr d l < adr c k + 4 * (sz c : Int)) := by
  rintro ⟨h1, h2⟩
  have key : ∀ c k d l, c < 4 → d < 4 → k < bl c → l < bl d → adr c k ≤ adr d l → adr d l < adr c k + 4 * (sz c : Int) → (c, k) = (d, l) := by
    intro c k d l hc hd hk hl h1 h2
    have q := at_adr c k hc hk (adr d l - adr c k).toNat (by omega)
    rw [show adr c k + ((adr d l - adr c k).toNat : Int) = adr d l by omega] at q
    have r := at_adr0 d l hd hl
    have e1 : c = d := Option.some.inj (q.1.symm.trans r.1)
    subst e1
    rw [q.2.1.symm.trans r.2.1]
  rcases Int.le_total (adr c k) (adr d l) with h | h
  · exact hn (key c k d l hc hd hk hl h h2)
  · exact hn (key d l c k hd hc hl hk h h1).symm
end Go.Proofs.YtffcfohbnbldhaaDoor
