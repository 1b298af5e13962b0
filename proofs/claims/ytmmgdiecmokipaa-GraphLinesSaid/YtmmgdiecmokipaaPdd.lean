/-
  Proved: what doms tells of turns.
-/
import Derived.Test.YtmmgdiecmokipaaPbest
namespace Go.Proofs.Ytmmgdiecmokipaa
open Go.RowKit

theorem pu_pu {α : Type} (f : Nat → α) (i : Nat) (x y : α) : pu (pu f i x) i y = pu f i y := by
  funext k
  by_cases h : k = i
  · subst h; rw [pu_self, pu_self]
  · rw [pu_ne _ _ h, pu_ne _ _ h, pu_ne _ _ h]
theorem pu_same {α : Type} (f : Nat → α) (i : Nat) (x : α) (h : f i = x) : pu f i x = f := by
  funext k
  by_cases e : k = i
  · subst e; rw [pu_self, h]
  · rw [pu_ne _ _ e]

theorem Tp.ext {par : Nat → Nat} {i : Nat} {top top' : Nat → Nat} {l : List Nat} {x : Nat} (h : Tp par i top l x) (e : ∀ u, i < u → top u = top' u) : Tp par i top' l x := by
  obtain ⟨h1, h2, h3, h4⟩ := h
  refine ⟨h1, fun v hv u hu hA => by rw [← e u hu]; exact h2 v hv u hu hA, h3, ?_⟩
  rcases h4 with h | h | ⟨v, hv, u, a, b, c, d⟩
  · exact Or.inl h
  · exact Or.inr (Or.inl h)
  · exact Or.inr (Or.inr ⟨v, hv, u, a, b, c, by rw [← e u a]; exact d⟩)

/-- A row is emptied. -/
theorem RR.clear {w : World} {B n : Nat} {vs : Nat → Value} {rows : Nat → List Nat} (h : RR w B n vs rows) (i : Nat) (hi : i < n) : RR (w.setCell ⟨B, i, none⟩ (.slice none 0 0)) B n (pu vs i (.slice none 0 0)) (pu rows i []) := by
  obtain ⟨h1, h2, h3⟩ := h
  refine ⟨?_, fun j hj => ?_, fun j k hj hk hjk => ?_⟩
  · have := h1.set (j := i) (.slice none 0 0)
    rwa [vC_set _ _ _ _ hi] at this
  · by_cases e : j = i
    · subst e
      rw [pu_self, pu_self]
      exact ON.empty (by rw [set_size]; exact h1.lt)
    · rw [pu_ne _ _ e, pu_ne _ _ e]
      exact OwnB.set (h2 j hj) (by omega) _
  · by_cases e : j = i
    · subst e
      rw [pu_self]
      intro b hb
      cases hb
    · rw [pu_ne _ _ e]
      by_cases e2 : k = i
      · subst e2
        rw [pu_self]
        intro b _ hb
        cases hb
      · rw [pu_ne _ _ e2]
        exact h3 j k hj hk hjk

/-- All that doms knows while it goes on, of the turns above i. -/
def OI (m : Nat) (pr : Nat → Nat) (E : Nat → Nat → Prop) (i : Nat) (top : Nat → Nat) (up : Nat → Int) (best : Nat → Nat) (W : Nat → List Nat) (D : Nat → Nat) : Prop :=
  Fo m pr i top up best ∧ (∀ j, j ≤ i → top j = j) ∧ (∀ x, i < x → x < m → Sm m pr E top x) ∧ Wt m pr i top W D ∧ (∀ x, x < m → top x < m) ∧ (∀ x, x < m → D x < m) ∧ D 0 = 0 ∧ ∀ k, (W k).length + i < m

theorem OI.start {m : Nat} (hm : 0 < m) (pr : Nat → Nat) (E : Nat → Nat → Prop) : OI m pr E (m - 1) (fun t => t) (fun _ => -1) (fun t => t) (fun _ => []) (fun _ => 0) :=
  ⟨⟨fun j _ => ⟨rfl, rfl⟩, fun j h1 h2 => by omega⟩, fun _ _ => rfl, fun x h1 h2 => by omega, Wt.start m pr _ _, fun _ h => h, fun _ _ => hm, rfl, fun k => by simp; omega⟩

theorem OI.step {m : Nat} {pr : Nat → Nat} {E : Nat → Nat → Prop} {i : Nat} {top : Nat → Nat} {up up' : Nat → Int} {best best' : Nat → Nat} {W : Nat → List Nat} {D D' : Nat → Nat} {x : Nat} (h : OI m pr E i top up best W D) (T : Tr m pr E) (h0 : 0 < i) (hi : i < m) (hS : Sm m pr E (pu top i x) i) (hx : x < m) (hF : Fo m pr (i - 1) (pu top i x) up' best')
    (hD1 : ∀ w, w ∈ (pu W x (W x ++ [i])) (pr i) → Bo pr (i - 1) (pu top i x) w (D' w)) (hD2 : ∀ w, w ∉ (pu W x (W x ++ [i])) (pr i) → D' w = D w) (hDm : ∀ y, y < m → D' y < m) :
    OI m pr E (i - 1) (pu top i x) up' best' (pu (pu W x (W x ++ [i])) (pr i) []) D' := by
  obtain ⟨a1, a2, a3, a4, a5, a6, a7, a8⟩ := h
  refine ⟨hF, fun j hj => by rw [pu_ne _ _ (by omega)]; exact a2 j (by omega), fun y h1 h2 => ?_, a4.step T h0 hi hD1 hD2, fun y hy => ?_, hDm, ?_, fun k => ?_⟩
  · by_cases e : y = i
    · subst e; exact hS
    · exact (a3 y (by omega) h2).keep (by omega)
  · by_cases e : y = i
    · subst e; rw [pu_self]; exact hx
    · rw [pu_ne _ _ e]; exact a5 y hy
  · rw [hD2 0 ?_]
    · exact a7
    · intro hm
      have h1 : ∀ k, ∀ w ∈ (pu W x (W x ++ [i])) k, 0 < w := fun k w hw => by
        by_cases e : k = x
        · subst e
          rw [pu_self] at hw
          rcases List.mem_append.1 hw with h | h
          · have := (a4.1 _ w h).1; omega
          · simp at h; omega
        · rw [pu_ne _ _ e] at hw
          have := (a4.1 k w hw).1
          omega
      have := h1 _ 0 hm
      omega
  · by_cases e : k = pr i
    · subst e; rw [pu_self]; simp; omega
    · rw [pu_ne _ _ e]
      by_cases e2 : k = x
      · subst e2; rw [pu_self, List.length_append]; have := a8 k; simp; omega
      · rw [pu_ne _ _ e2]; have := a8 k; omega

/-- What else is there stays where turns' rows turn. -/
theorem mvT {G : Nat → Prop} {w w1 w2 : World} {bs : Nat → Nat} {m : Nat} {D : Nat → Int} {ws : Nat → Value} {W : Nat → List Nat} (hlt : bs 3 < w.heap.size ∧ bs 4 < w.heap.size ∧ bs 5 < w.heap.size) (hZ : IZ w1 w.heap.size m D) (hR : RR w1 (w.heap.size + 1) m ws W) (hK : Kp (fun b => b = bs 3 ∨ b = bs 4 ∨ b = bs 5) w w1) (k : Kp G w1 w2) (hG : ∀ b, G b → b = bs 3 ∨ b = bs 4 ∨ b = bs 5) :
    IZ w2 w.heap.size m D ∧ RR w2 (w.heap.size + 1) m ws W ∧ Kp (fun b => b = bs 3 ∨ b = bs 4 ∨ b = bs 5) w w2 := by
  have hn : ∀ b, w.heap.size ≤ b → ¬ G b := fun b hb h => by
    rcases hG b h with h | h | h <;> omega
  exact ⟨hZ.kp k (hn _ (Nat.le_refl _)), hR.kp k fun b hg hb => hn b (by have := (hR.blk hb).1; omega) hg, hK.trans (k.mono hG)⟩

/-- Turns and told ones stay where the lists of those that wait turn. -/
theorem mvW {G : Nat → Prop} {w w1 w2 : World} {N m : Nat} {bs cs : Nat → Nat} {fb : Nat} {us : Nat → Value} {rows : Nat → List Nat} {f0 f1 f3 f4 f5 : Nat → Int} {D : Nat → Int} (hB : ∀ b, TSB N m bs fb us b → b < w.heap.size) (hT : TS w1 N m bs cs fb us rows f0 f1 f3 f4 f5) (hZ : IZ w1 w.heap.size m D) (hK : Kp (fun b => b = bs 3 ∨ b = bs 4 ∨ b = bs 5) w w1) (k : Kp G w1 w2) (hG : ∀ b, G b → w.heap.size < b) :
    TS w2 N m bs cs fb us rows f0 f1 f3 f4 f5 ∧ IZ w2 w.heap.size m D ∧ Kp (fun b => b = bs 3 ∨ b = bs 4 ∨ b = bs 5) w w2 :=
  ⟨hT.kp k fun b hg hb => by have := hG b hg; have := hB b hb; omega, hZ.kp k fun h => by have := hG _ h; omega, hK.other k fun b hg hlt => by have := hG b hg; omega⟩

set_option maxRecDepth 20000 in
set_option maxHeartbeats 16000000 in
theorem tdoms_c (w : World) (N m : Nat) (bs cs : Nat → Nat) (fb : Nat) (us : Nat → Value) (rows : Nat → List Nat) (f0 : Nat → Int) (pr : Nat → Nat) (hT : TS w N m bs cs fb us rows f0 (nI pr) (nI fun t => t) (fun _ => -1) (nI fun t => t)) (hm0 : 0 < m) (hm : m ≤ 40) (E : Nat → Nat → Prop) (T : Tr m pr E) (hR : ∀ x, x < m → (∀ v, v ∈ rows x ↔ E v x) ∧ (rows x).length ≤ 9000) :
    Calls Try.prog 30 #[.pointer (some ⟨N, 0, none⟩)] w fun e w' => e = .returned (.slice (some ⟨w.heap.size, 0, none⟩) m m) ∧ ∃ (s d : Nat → Nat) (up' : Nat → Int) (best' : Nat → Nat), IZ w' w.heap.size m (nI d) ∧ TS w' N m bs cs fb us rows f0 (nI pr) (nI s) up' (nI best') ∧ (∀ x, 0 < x → x < m → Sm m pr E s x) ∧ (∀ x, 0 < x → x < m → ∃ u, Bst pr s x u ∧ d x = if s u < s x then d u else s x) ∧ (∀ x, x < m → d x < m) ∧ Kp (fun b => b = bs 3 ∨ b = bs 4 ∨ b = bs 5) w w' := by
  have mixed : Try.prog.follows Departure.mixedOrders = true := by kernel_rfl
  have TW : Hid (TS w N m bs cs fb us rows f0 (nI pr) (nI fun t => t) (fun _ => -1) (nI fun t => t)) := hT
  have TR : Hid (Tr m pr E) := T
  have HR : Hid (∀ x, x < m → (∀ v, v ∈ rows x ↔ E v x) ∧ (rows x).length ≤ 9000) := hR
  have HB : Hid (∀ b, TSB N m bs fb us b → b < w.heap.size) := fun b hb => (hT.lt hb).2
  have hmk1 := make_i m (by omega)
  have hmk2 := make_rr m (by omega)
  have c0 : w.cell? ⟨N, 0, none⟩ = some (.slice (some ⟨bs 0, 0, none⟩) m (cs 0)) := hT.1.cell 0
  have b1 := below_alloc w (.cells (madeCells #[.int .i64 0] m) 3)
  have b2 := below_alloc (w.alloc (.cells (madeCells #[.int .i64 0] m) 3)) (.cells (madeCells #[.slice none 0 0] m) 28)
  have c0' : (w.alloc (.cells (madeCells #[.int .i64 0] m) 3)).cell? ⟨N, 0, none⟩ = some (.slice (some ⟨bs 0, 0, none⟩) m (cs 0)) := (hT.new b1).1.cell 0
  have s1 : (w.alloc (.cells (madeCells #[.int .i64 0] m) 3)).heap.size = w.heap.size + 1 := by simp
  have T0 : Hid (TS ((w.alloc (.cells (madeCells #[.int .i64 0] m) 3)).alloc (.cells (madeCells #[.slice none 0 0] m) 28)) N m bs cs fb us rows f0 (nI pr) (nI fun t => t) (fun _ => -1) (nI fun t => t)) := hT.new (below_next b1 b2)
  have Z0 : Hid (IZ ((w.alloc (.cells (madeCells #[.int .i64 0] m) 3)).alloc (.cells (madeCells #[.slice none 0 0] m) 28)) w.heap.size m (nI fun _ => 0)) := ((IZ.made w m).kp (Kp.of_below (F := fun _ => False) b2) (fun h => h) : IZ _ w.heap.size m (fun _ => 0))
  have R0 : Hid (RR ((w.alloc (.cells (madeCells #[.int .i64 0] m) 3)).alloc (.cells (madeCells #[.slice none 0 0] m) 28)) (w.heap.size + 1) m (fun _ => .slice none 0 0) (fun _ => [])) := by
    have := RR.made (w.alloc (.cells (madeCells #[.int .i64 0] m) 3)) m
    rw [s1] at this
    exact this
  have K0 : Hid (Kp (fun b => b = bs 3 ∨ b = bs 4 ∨ b = bs 5) w ((w.alloc (.cells (madeCells #[.int .i64 0] m) 3)).alloc (.cells (madeCells #[.slice none 0 0] m) 28))) := Kp.of_below (below_next b1 b2)
  have hb3 := hT.lt (b := bs 3) (Or.inr (Or.inl ⟨3, by decide, by decide, rfl⟩))
  have hb4 := hT.lt (b := bs 4) (Or.inr (Or.inl ⟨4, by decide, by decide, rfl⟩))
  have hb5 := hT.lt (b := bs 5) (Or.inr (Or.inl ⟨5, by decide, by decide, rfl⟩))
  clear hT T hR b1 b2 s1
  go_enter Try.func30, Try.ntmps30
  go_wp2
  go_loopw [5] (fun tv wr => ∃ (i : Nat) (top : Nat → Nat) (up : Nat → Int) (best : Nat → Nat) (ws : Nat → Value) (W : Nat → List Nat) (D : Nat → Nat), tv = .int .i64 (i : Int) ∧ i < m ∧ OI m pr E i top up best W D ∧ TS wr N m bs cs fb us rows f0 (nI pr) (nI top) up (nI best) ∧ IZ wr w.heap.size m (nI D) ∧ RR wr (w.heap.size + 1) m ws W ∧ Kp (fun b => b = bs 3 ∨ b = bs 4 ∨ b = bs 5) w wr) (fun tv _ => (intOf tv).toNat)
  case atStart => exact ⟨m - 1, _, _, _, _, _, _, by go_num, by omega, OI.start hm0 pr E, T0.out, Z0.out, R0.out, K0.out⟩
  case round =>
    obtain ⟨i, top, up, best, ws, W, D, rfl, him, hOI, hTS, hZ, hRR, hK⟩ := hrel
    have I1 : Hid (OI m pr E i top up best W D) := hOI
    have T1 : Hid (TS wr N m bs cs fb us rows f0 (nI pr) (nI top) up (nI best)) := hTS
    have Z1 : Hid (IZ wr w.heap.size m (nI D)) := hZ
    have R1 : Hid (RR wr (w.heap.size + 1) m ws W) := hRR
    have K1 : Hid (Kp (fun b => b = bs 3 ∨ b = bs 4 ∨ b = bs 5) w wr) := hK
    clear hOI hTS hZ hRR hK T0 Z0 R0 K0
    have himz : (i : Int) < m := by omega
    rcases Nat.eq_zero_or_pos i with hi0 | hi0
    · subst hi0
      have SS : Hid (∀ x, 0 < x → x < m → Sm m pr E top x) := I1.out.2.2.1
      have BB : Hid (∀ x, 0 < x → x < m → Bst pr top x (D x)) := fun x h1 h2 => I1.out.2.2.2.1.done TR.out SS.out x h1 h2
      have TM : Hid (∀ x, x < m → top x < m) := I1.out.2.2.2.2.1
      have DM : Hid (∀ x, x < m → D x < m) := I1.out.2.2.2.2.2.1
      have LO : Hid (∀ x, x < m → top (D x) < top x → D x < x) := fun x hx hlt => by
        rcases Nat.eq_zero_or_pos x with h0 | h0
        · subst h0
          rw [I1.out.2.2.2.2.2.2.1] at hlt
          omega
        · have h1 := TR.out.le (BB.out x h0 hx).1 hx
          have : D x ≠ x := fun e => by rw [e] at hlt; omega
          omega
      clear I1 R1
      go_wp2
      go_loopw [125] (fun kv wq => ∃ (k : Nat) (F : Nat → Nat), k ≤ m ∧ kv = .int .i64 (k : Int) ∧ (∀ x, x < k → F x = if top (D x) < top x then F (D x) else top x) ∧ (∀ x, k ≤ x → F x = D x) ∧ (∀ x, x < m → F x < m) ∧ TS wq N m bs cs fb us rows f0 (nI pr) (nI top) up (nI best) ∧ IZ wq w.heap.size m (nI F) ∧ Kp (fun b => b = bs 3 ∨ b = bs 4 ∨ b = bs 5) w wq) (fun kv _ => m - (intOf kv).toNat)
      case atStart => exact ⟨0, D, Nat.zero_le _, rfl, fun x hx => by omega, fun _ _ => rfl, DM.out, T1.out, Z1.out, K1.out⟩
      case round =>
        rename World => wq
        obtain ⟨k, F, hk, rfl, hf1, hf2, hf3, hTS, hZ, hK⟩ := hrel
        have G1 : Hid (∀ x, x < k → F x = if top (D x) < top x then F (D x) else top x) := hf1
        have G2 : Hid (∀ x, k ≤ x → F x = D x) := hf2
        have G3 : Hid (∀ x, x < m → F x < m) := hf3
        have T2 : Hid (TS wq N m bs cs fb us rows f0 (nI pr) (nI top) up (nI best)) := hTS
        have Z2 : Hid (IZ wq w.heap.size m (nI F)) := hZ
        have K2 : Hid (Kp (fun b => b = bs 3 ∨ b = bs 4 ∨ b = bs 5) w wq) := hK
        clear hf1 hf2 hf3 hTS hZ hK
        rcases Nat.lt_or_ge k m with hk' | hk'
        · have hkz : (k : Int) < m := by omega
          have ck : wq.cell? ⟨w.heap.size, k, none⟩ = some (.int .i64 (D k : Int)) := by rw [← G2.out k (Nat.le_refl _)]; exact Z2.out.cell k hk'
          have hbm := DM.out k hk'
          have LK := LO.out k hk'
          have NW : Hid (∀ y : Nat, y < m → (y = if top (D k) < top k then F (D k) else top k) → (∀ x, x < k + 1 → pu F k y x = if top (D x) < top x then pu F k y (D x) else top x) ∧ (∀ x, k + 1 ≤ x → pu F k y x = D x) ∧ (∀ x, x < m → pu F k y x < m)) := fun y hym hy => by
            refine ⟨fun x hx => ?_, fun x hx => by rw [pu_ne _ _ (by omega)]; exact G2.out x (by omega), fun x hx => ?_⟩
            · by_cases e : x = k
              · subst e
                rw [pu_self, hy]
                split
                · rename_i h
                  rw [pu_ne _ _ (by have := LK h; omega)]
                · rfl
              · rw [pu_ne _ _ e, G1.out x (by omega)]
                split
                · rename_i h
                  rw [pu_ne _ _ (by have := LO.out x (by omega) h; omega)]
                · rfl
            · by_cases e : x = k
              · subst e; rw [pu_self]; exact hym
              · rw [pu_ne _ _ e]; exact G3.out x hx
          have FBD := G3.out (D k) hbm
          have TKM := TM.out k hk'
          have cF : Hid (∀ wz, Below wq.heap.size wq wz → wz.cell? ⟨w.heap.size, D k, none⟩ = some (.int .i64 (F (D k) : Int)) ∧ wz.cell? ⟨w.heap.size, k, none⟩ = some (.int .i64 (F k : Int)) ∧ wz.frozen? ⟨w.heap.size, k, none⟩ = false) := fun wz hb => by
            have z := Z2.out.kp (Kp.of_below (F := fun _ => False) hb) (fun h => h)
            exact ⟨z.cell _ hbm, z.cell _ hk', z.frozen k⟩
          have SK : Hid (∀ wz, Below wq.heap.size wq wz → wz.cell? ⟨N, 3, none⟩ = some (.slice (some ⟨bs 3, 0, none⟩) m (cs 3)) ∧ wz.cell? ⟨bs 3, D k, none⟩ = some (.int .i64 (top (D k) : Int)) ∧ wz.cell? ⟨bs 3, k, none⟩ = some (.int .i64 (top k : Int))) := fun wz hb => by
            have q := T2.out.new hb
            exact ⟨q.1.cell 3, q.2.2.2.1.cell _ hbm, q.2.2.2.1.cell k hk'⟩
          generalize hb : D k = b at *
          have hbz : (b : Int) < m := by omega
          by_cases hlt : top b < top k
          · have hltz : (top b : Int) < (top k : Int) := by omega
            have NW2 := NW.out (F b) FBD (by rw [if_pos hlt])
            go_wp2
            refine wp_region_N (fun w' => w'.cell? ⟨N, 3, none⟩ = some (.slice (some ⟨bs 3, 0, none⟩) m (cs 3)) ∧ w'.cell? ⟨bs 3, b, none⟩ = some (.int .i64 (top b : Int)) ∧ w'.cell? ⟨bs 3, k, none⟩ = some (.int .i64 (top k : Int))) (fun _ => true) mixed (SK.out _ (below_drew _)) ?_
            intro S0
            refine wpAnyN_take (i := 0) (v := .pointer (some ⟨N, 0, none⟩)) rfl (by kernel_rfl) (by kernel_rfl) (by kernel_rfl) (by kernel_rfl) (fun _ _ _ h => h) (Or.inl ⟨by rfl, ?_⟩) S0 ?_
            · intro w' hS'
              obtain ⟨h1, h2, h3⟩ := hS'
              go_simp
            (try simp only [Act.put, List.getElem_toArray, List.getElem_cons_zero, List.setIfInBounds_toArray, List.set_cons_zero, List.set_cons_succ])
            refine wpAnyN_take (i := 1) (v := .pointer (some ⟨N, 0, none⟩)) rfl (by kernel_rfl) (by kernel_rfl) (by kernel_rfl) (by kernel_rfl) (fun _ _ _ h => h) (Or.inl ⟨by rfl, ?_⟩) S0 ?_
            · intro w' hS'
              obtain ⟨h1, h2, h3⟩ := hS'
              go_simp
            (try simp only [Act.put, List.getElem_toArray, List.getElem_cons_succ, List.getElem_cons_zero, List.setIfInBounds_toArray, List.set_cons_zero, List.set_cons_succ])
            refine wpAnyN_take (i := 2) (v := .pointer (some ⟨N, 3, none⟩)) rfl (by kernel_rfl) (by kernel_rfl) (by kernel_rfl) (by kernel_rfl) (fun _ _ _ h => h) (Or.inl ⟨by rfl, ?_⟩) S0 ?_
            · intro w' hS'
              obtain ⟨h1, h2, h3⟩ := hS'
              go_simp
            (try simp only [Act.put, List.getElem_toArray, List.getElem_cons_succ, List.getElem_cons_zero, List.setIfInBounds_toArray, List.set_cons_zero, List.set_cons_succ])
            refine wpAnyN_take (i := 3) (v := .slice (some ⟨bs 3, 0, none⟩) m (cs 3)) rfl (by kernel_rfl) (by kernel_rfl) (by kernel_rfl) (by kernel_rfl) (fun _ _ _ h => h) (Or.inl ⟨by rfl, ?_⟩) S0 ?_
            · intro w' hS'
              obtain ⟨h1, h2, h3⟩ := hS'
              go_simp
            (try simp only [Act.put, List.getElem_toArray, List.getElem_cons_succ, List.getElem_cons_zero, List.setIfInBounds_toArray, List.set_cons_zero, List.set_cons_succ])
            refine wpAnyN_take (i := 4) (v := .int .i64 (b : Int)) rfl (by kernel_rfl) (by kernel_rfl) (by kernel_rfl) (by kernel_rfl) (fun _ _ _ h => h) (Or.inl ⟨by rfl, ?_⟩) S0 ?_
            · intro w' hS'
              obtain ⟨h1, h2, h3⟩ := hS'
              go_simp
            (try simp only [Act.put, List.getElem_toArray, List.getElem_cons_succ, List.getElem_cons_zero, List.setIfInBounds_toArray, List.set_cons_zero, List.set_cons_succ])
            refine wpAnyN_take (i := 5) (v := .pointer (some ⟨bs 3, b, none⟩)) rfl (by kernel_rfl) (by kernel_rfl) (by kernel_rfl) (by kernel_rfl) (fun _ _ _ h => h) (Or.inl ⟨by rfl, ?_⟩) S0 ?_
            · intro w' hS'
              obtain ⟨h1, h2, h3⟩ := hS'
              go_simp
            (try simp only [Act.put, List.getElem_toArray, List.getElem_cons_succ, List.getElem_cons_zero, List.setIfInBounds_toArray, List.set_cons_zero, List.set_cons_succ])
            refine wpAnyN_take (i := 6) (v := .int .i64 (top b : Int)) rfl (by kernel_rfl) (by kernel_rfl) (by kernel_rfl) (by kernel_rfl) (fun _ _ _ h => h) (Or.inl ⟨by rfl, ?_⟩) S0 ?_
            · intro w' hS'
              obtain ⟨h1, h2, h3⟩ := hS'
              go_simp
            (try simp only [Act.put, List.getElem_toArray, List.getElem_cons_succ, List.getElem_cons_zero, List.setIfInBounds_toArray, List.set_cons_zero, List.set_cons_succ])
            refine wpAnyN_take (i := 7) (v := .pointer (some ⟨N, 0, none⟩)) rfl (by kernel_rfl) (by kernel_rfl) (by kernel_rfl) (by kernel_rfl) (fun _ _ _ h => h) (Or.inl ⟨by rfl, ?_⟩) S0 ?_
            · intro w' hS'
              obtain ⟨h1, h2, h3⟩ := hS'
              go_simp
            (try simp only [Act.put, List.getElem_toArray, List.getElem_cons_succ, List.getElem_cons_zero, List.setIfInBounds_toArray, List.set_cons_zero, List.set_cons_succ])
            refine wpAnyN_take (i := 8) (v := .pointer (some ⟨N, 0, none⟩)) rfl (by kernel_rfl) (by kernel_rfl) (by kernel_rfl) (by kernel_rfl) (fun _ _ _ h => h) (Or.inl ⟨by rfl, ?_⟩) S0 ?_
            · intro w' hS'
              obtain ⟨h1, h2, h3⟩ := hS'
              go_simp
            (try simp only [Act.put, List.getElem_toArray, List.getElem_cons_succ, List.getElem_cons_zero, List.setIfInBounds_toArray, List.set_cons_zero, List.set_cons_succ])
            refine wpAnyN_take (i := 9) (v := .pointer (some ⟨N, 3, none⟩)) rfl (by kernel_rfl) (by kernel_rfl) (by kernel_rfl) (by kernel_rfl) (fun _ _ _ h => h) (Or.inl ⟨by rfl, ?_⟩) S0 ?_
            · intro w' hS'
              obtain ⟨h1, h2, h3⟩ := hS'
              go_simp
            (try simp only [Act.put, List.getElem_toArray, List.getElem_cons_succ, List.getElem_cons_zero, List.setIfInBounds_toArray, List.set_cons_zero, List.set_cons_succ])
            refine wpAnyN_take (i := 10) (v := .slice (some ⟨bs 3, 0, none⟩) m (cs 3)) rfl (by kernel_rfl) (by kernel_rfl) (by kernel_rfl) (by kernel_rfl) (fun _ _ _ h => h) (Or.inl ⟨by rfl, ?_⟩) S0 ?_
            · intro w' hS'
              obtain ⟨h1, h2, h3⟩ := hS'
              go_simp
            (try simp only [Act.put, List.getElem_toArray, List.getElem_cons_succ, List.getElem_cons_zero, List.setIfInBounds_toArray, List.set_cons_zero, List.set_cons_succ])
            refine wpAnyN_take (i := 11) (v := .int .i64 (k : Int)) rfl (by kernel_rfl) (by kernel_rfl) (by kernel_rfl) (by kernel_rfl) (fun _ _ _ h => h) (Or.inl ⟨by rfl, ?_⟩) S0 ?_
            · intro w' hS'
              obtain ⟨h1, h2, h3⟩ := hS'
              go_simp
            (try simp only [Act.put, List.getElem_toArray, List.getElem_cons_succ, List.getElem_cons_zero, List.setIfInBounds_toArray, List.set_cons_zero, List.set_cons_succ])
            refine wpAnyN_take (i := 12) (v := .pointer (some ⟨bs 3, k, none⟩)) rfl (by kernel_rfl) (by kernel_rfl) (by kernel_rfl) (by kernel_rfl) (fun _ _ _ h => h) (Or.inl ⟨by rfl, ?_⟩) S0 ?_
            · intro w' hS'
              obtain ⟨h1, h2, h3⟩ := hS'
              go_simp
            (try simp only [Act.put, List.getElem_toArray, List.getElem_cons_succ, List.getElem_cons_zero, List.setIfInBounds_toArray, List.set_cons_zero, List.set_cons_succ])
            refine wpAnyN_take (i := 13) (v := .int .i64 (top k : Int)) rfl (by kernel_rfl) (by kernel_rfl) (by kernel_rfl) (by kernel_rfl) (fun _ _ _ h => h) (Or.inl ⟨by rfl, ?_⟩) S0 ?_
            · intro w' hS'
              obtain ⟨h1, h2, h3⟩ := hS'
              go_simp
            (try simp only [Act.put, List.getElem_toArray, List.getElem_cons_succ, List.getElem_cons_zero, List.setIfInBounds_toArray, List.set_cons_zero, List.set_cons_succ])
            refine wpAnyN_take (i := 14) (v := .bool true) rfl (by kernel_rfl) (by kernel_rfl) (by kernel_rfl) (by kernel_rfl) (fun _ _ _ h => h) (Or.inl ⟨by rfl, ?_⟩) S0 ?_
            · intro w' hS'
              obtain ⟨h1, h2, h3⟩ := hS'
              go_simp
            (try simp only [Act.put, List.getElem_toArray, List.getElem_cons_succ, List.getElem_cons_zero, List.setIfInBounds_toArray, List.set_cons_zero, List.set_cons_succ])
            refine wpAnyN_done (by kernel_rfl) ?_ _
            clear S0
            have q5 := (cF.out _ (below_drew wq)).1
            have q6 := (cF.out _ (below_drew wq)).2.1
            have q7 := (cF.out _ (below_drew wq)).2.2
            have T3 : Hid (TS wq.drew N m bs cs fb us rows f0 (nI pr) (nI top) up (nI best)) := T2.out.new (below_drew _)
            have Z3 : Hid (IZ wq.drew w.heap.size m (nI F)) := Z2.out.kp (Kp.of_below (F := fun _ => False) (below_drew _)) (fun h => h)
            have K3 : Hid (Kp (fun b => b = bs 3 ∨ b = bs 4 ∨ b = bs 5) w wq.drew) := K2.out.drew
            generalize wq.drew = w4 at *
            go_wp2
            go_roundw
            case rel =>
              have kd : Kp (fun b => b = w.heap.size) w4 (w4.setCell ⟨w.heap.size, k, none⟩ (.int .i64 (F b : Int))) := Kp.set _ _ _ rfl
              exact ⟨k + 1, pu F k (F b), by omega, by go_num, NW2.1, NW2.2.1, NW2.2.2, T3.out.kp kd fun b hb hts => by have := HB.out b hts; omega, by rw [← nI_pu]; exact Z3.out.set k hk' _, K3.out.other kd fun b hb hlt => by omega⟩
            case measure => simp [intOf]; omega
          · have hltz : ¬ (top b : Int) < (top k : Int) := by omega
            have NW2 := NW.out (top k) TKM (by rw [if_neg hlt])
            go_wp2
            refine wp_region_N (fun w' => w'.cell? ⟨N, 3, none⟩ = some (.slice (some ⟨bs 3, 0, none⟩) m (cs 3)) ∧ w'.cell? ⟨bs 3, b, none⟩ = some (.int .i64 (top b : Int)) ∧ w'.cell? ⟨bs 3, k, none⟩ = some (.int .i64 (top k : Int))) (fun _ => true) mixed (SK.out _ (below_drew _)) ?_
            intro S0
            refine wpAnyN_take (i := 0) (v := .pointer (some ⟨N, 0, none⟩)) rfl (by kernel_rfl) (by kernel_rfl) (by kernel_rfl) (by kernel_rfl) (fun _ _ _ h => h) (Or.inl ⟨by rfl, ?_⟩) S0 ?_
            · intro w' hS'
              obtain ⟨h1, h2, h3⟩ := hS'
              go_simp
            (try simp only [Act.put, List.getElem_toArray, List.getElem_cons_zero, List.setIfInBounds_toArray, List.set_cons_zero, List.set_cons_succ])
            refine wpAnyN_take (i := 1) (v := .pointer (some ⟨N, 0, none⟩)) rfl (by kernel_rfl) (by kernel_rfl) (by kernel_rfl) (by kernel_rfl) (fun _ _ _ h => h) (Or.inl ⟨by rfl, ?_⟩) S0 ?_
            · intro w' hS'
              obtain ⟨h1, h2, h3⟩ := hS'
              go_simp
            (try simp only [Act.put, List.getElem_toArray, List.getElem_cons_succ, List.getElem_cons_zero, List.setIfInBounds_toArray, List.set_cons_zero, List.set_cons_succ])
            refine wpAnyN_take (i := 2) (v := .pointer (some ⟨N, 3, none⟩)) rfl (by kernel_rfl) (by kernel_rfl) (by kernel_rfl) (by kernel_rfl) (fun _ _ _ h => h) (Or.inl ⟨by rfl, ?_⟩) S0 ?_
            · intro w' hS'
              obtain ⟨h1, h2, h3⟩ := hS'
              go_simp
            (try simp only [Act.put, List.getElem_toArray, List.getElem_cons_succ, List.getElem_cons_zero, List.setIfInBounds_toArray, List.set_cons_zero, List.set_cons_succ])
            refine wpAnyN_take (i := 3) (v := .slice (some ⟨bs 3, 0, none⟩) m (cs 3)) rfl (by kernel_rfl) (by kernel_rfl) (by kernel_rfl) (by kernel_rfl) (fun _ _ _ h => h) (Or.inl ⟨by rfl, ?_⟩) S0 ?_
            · intro w' hS'
              obtain ⟨h1, h2, h3⟩ := hS'
              go_simp
            (try simp only [Act.put, List.getElem_toArray, List.getElem_cons_succ, List.getElem_cons_zero, List.setIfInBounds_toArray, List.set_cons_zero, List.set_cons_succ])
            refine wpAnyN_take (i := 4) (v := .int .i64 (b : Int)) rfl (by kernel_rfl) (by kernel_rfl) (by kernel_rfl) (by kernel_rfl) (fun _ _ _ h => h) (Or.inl ⟨by rfl, ?_⟩) S0 ?_
            · intro w' hS'
              obtain ⟨h1, h2, h3⟩ := hS'
              go_simp
            (try simp only [Act.put, List.getElem_toArray, List.getElem_cons_succ, List.getElem_cons_zero, List.setIfInBounds_toArray, List.set_cons_zero, List.set_cons_succ])
            refine wpAnyN_take (i := 5) (v := .pointer (some ⟨bs 3, b, none⟩)) rfl (by kernel_rfl) (by kernel_rfl) (by kernel_rfl) (by kernel_rfl) (fun _ _ _ h => h) (Or.inl ⟨by rfl, ?_⟩) S0 ?_
            · intro w' hS'
              obtain ⟨h1, h2, h3⟩ := hS'
              go_simp
            (try simp only [Act.put, List.getElem_toArray, List.getElem_cons_succ, List.getElem_cons_zero, List.setIfInBounds_toArray, List.set_cons_zero, List.set_cons_succ])
            refine wpAnyN_take (i := 6) (v := .int .i64 (top b : Int)) rfl (by kernel_rfl) (by kernel_rfl) (by kernel_rfl) (by kernel_rfl) (fun _ _ _ h => h) (Or.inl ⟨by rfl, ?_⟩) S0 ?_
            · intro w' hS'
              obtain ⟨h1, h2, h3⟩ := hS'
              go_simp
            (try simp only [Act.put, List.getElem_toArray, List.getElem_cons_succ, List.getElem_cons_zero, List.setIfInBounds_toArray, List.set_cons_zero, List.set_cons_succ])
            refine wpAnyN_take (i := 7) (v := .pointer (some ⟨N, 0, none⟩)) rfl (by kernel_rfl) (by kernel_rfl) (by kernel_rfl) (by kernel_rfl) (fun _ _ _ h => h) (Or.inl ⟨by rfl, ?_⟩) S0 ?_
            · intro w' hS'
              obtain ⟨h1, h2, h3⟩ := hS'
              go_simp
            (try simp only [Act.put, List.getElem_toArray, List.getElem_cons_succ, List.getElem_cons_zero, List.setIfInBounds_toArray, List.set_cons_zero, List.set_cons_succ])
            refine wpAnyN_take (i := 8) (v := .pointer (some ⟨N, 0, none⟩)) rfl (by kernel_rfl) (by kernel_rfl) (by kernel_rfl) (by kernel_rfl) (fun _ _ _ h => h) (Or.inl ⟨by rfl, ?_⟩) S0 ?_
            · intro w' hS'
              obtain ⟨h1, h2, h3⟩ := hS'
              go_simp
            (try simp only [Act.put, List.getElem_toArray, List.getElem_cons_succ, List.getElem_cons_zero, List.setIfInBounds_toArray, List.set_cons_zero, List.set_cons_succ])
            refine wpAnyN_take (i := 9) (v := .pointer (some ⟨N, 3, none⟩)) rfl (by kernel_rfl) (by kernel_rfl) (by kernel_rfl) (by kernel_rfl) (fun _ _ _ h => h) (Or.inl ⟨by rfl, ?_⟩) S0 ?_
            · intro w' hS'
              obtain ⟨h1, h2, h3⟩ := hS'
              go_simp
            (try simp only [Act.put, List.getElem_toArray, List.getElem_cons_succ, List.getElem_cons_zero, List.setIfInBounds_toArray, List.set_cons_zero, List.set_cons_succ])
            refine wpAnyN_take (i := 10) (v := .slice (some ⟨bs 3, 0, none⟩) m (cs 3)) rfl (by kernel_rfl) (by kernel_rfl) (by kernel_rfl) (by kernel_rfl) (fun _ _ _ h => h) (Or.inl ⟨by rfl, ?_⟩) S0 ?_
            · intro w' hS'
              obtain ⟨h1, h2, h3⟩ := hS'
              go_simp
            (try simp only [Act.put, List.getElem_toArray, List.getElem_cons_succ, List.getElem_cons_zero, List.setIfInBounds_toArray, List.set_cons_zero, List.set_cons_succ])
            refine wpAnyN_take (i := 11) (v := .int .i64 (k : Int)) rfl (by kernel_rfl) (by kernel_rfl) (by kernel_rfl) (by kernel_rfl) (fun _ _ _ h => h) (Or.inl ⟨by rfl, ?_⟩) S0 ?_
            · intro w' hS'
              obtain ⟨h1, h2, h3⟩ := hS'
              go_simp
            (try simp only [Act.put, List.getElem_toArray, List.getElem_cons_succ, List.getElem_cons_zero, List.setIfInBounds_toArray, List.set_cons_zero, List.set_cons_succ])
            refine wpAnyN_take (i := 12) (v := .pointer (some ⟨bs 3, k, none⟩)) rfl (by kernel_rfl) (by kernel_rfl) (by kernel_rfl) (by kernel_rfl) (fun _ _ _ h => h) (Or.inl ⟨by rfl, ?_⟩) S0 ?_
            · intro w' hS'
              obtain ⟨h1, h2, h3⟩ := hS'
              go_simp
            (try simp only [Act.put, List.getElem_toArray, List.getElem_cons_succ, List.getElem_cons_zero, List.setIfInBounds_toArray, List.set_cons_zero, List.set_cons_succ])
            refine wpAnyN_take (i := 13) (v := .int .i64 (top k : Int)) rfl (by kernel_rfl) (by kernel_rfl) (by kernel_rfl) (by kernel_rfl) (fun _ _ _ h => h) (Or.inl ⟨by rfl, ?_⟩) S0 ?_
            · intro w' hS'
              obtain ⟨h1, h2, h3⟩ := hS'
              go_simp
            (try simp only [Act.put, List.getElem_toArray, List.getElem_cons_succ, List.getElem_cons_zero, List.setIfInBounds_toArray, List.set_cons_zero, List.set_cons_succ])
            refine wpAnyN_take (i := 14) (v := .bool false) rfl (by kernel_rfl) (by kernel_rfl) (by kernel_rfl) (by kernel_rfl) (fun _ _ _ h => h) (Or.inl ⟨by rfl, ?_⟩) S0 ?_
            · intro w' hS'
              obtain ⟨h1, h2, h3⟩ := hS'
              go_simp
            (try simp only [Act.put, List.getElem_toArray, List.getElem_cons_succ, List.getElem_cons_zero, List.setIfInBounds_toArray, List.set_cons_zero, List.set_cons_succ])
            refine wpAnyN_done (by kernel_rfl) ?_ _
            clear S0
            have q5 : wq.drew.cell? ⟨N, 3, none⟩ = some (.slice (some ⟨bs 3, 0, none⟩) m (cs 3)) := (SK.out _ (below_drew wq)).1
            have q8 := (SK.out _ (below_drew wq)).2.2
            have q6 := (cF.out _ (below_drew wq)).2.1
            have q7 := (cF.out _ (below_drew wq)).2.2
            have T3 : Hid (TS wq.drew N m bs cs fb us rows f0 (nI pr) (nI top) up (nI best)) := T2.out.new (below_drew _)
            have Z3 : Hid (IZ wq.drew w.heap.size m (nI F)) := Z2.out.kp (Kp.of_below (F := fun _ => False) (below_drew _)) (fun h => h)
            have K3 : Hid (Kp (fun b => b = bs 3 ∨ b = bs 4 ∨ b = bs 5) w wq.drew) := K2.out.drew
            generalize wq.drew = w4 at *
            go_wp2
            go_roundw
            case rel =>
              have kd : Kp (fun b => b = w.heap.size) w4 (w4.setCell ⟨w.heap.size, k, none⟩ (.int .i64 (top k : Int))) := Kp.set _ _ _ rfl
              (repeat apply Exists.intro)
              refine ⟨?_, rfl⟩
              exact ⟨k + 1, pu F k (top k), by omega, by go_num, NW2.1, NW2.2.1, NW2.2.2, T3.out.kp kd fun b hb hts => by have := HB.out b hts; omega, by rw [← nI_pu]; exact Z3.out.set k hk' _, K3.out.other kd fun b hb hlt => by omega⟩
            case measure => simp [intOf]; omega
        · have hkz : ¬ (k : Int) < m := by omega
          go_wp2
          go_ret
          exact ⟨rfl, top, F, Z2.out, ⟨up, best, T2.out⟩, SS.out, fun x h1 h2 => ⟨D x, BB.out x h1 h2, G1.out x (by omega)⟩, G3.out, K2.out⟩
    · have hiz : (0 : Int) < (i : Int) := by omega
      have e2 : wr.cell? ⟨N, 2, none⟩ = some (.slice (some ⟨fb, 0, none⟩) m m) := T1.out.1.cell 2
      have e3 := T1.out.2.2.2.2.2.2.1.cell i him
      have ORi := T1.out.2.2.2.2.2.2.1.2.1 i him
      obtain ⟨Ai, Ci, ei, hsi⟩ := ORi.shape
      rw [ei] at e3
      have hli := (HR.out i him).2
      have HC : Hid (∀ j (hj : j < (rows i).length) wq, TS wq N m bs cs fb us rows f0 (nI pr) (nI top) up (nI best) → True) := fun _ _ _ _ => trivial
      have EI : Hid (us i = .slice Ai (rows i).length Ci) := ei
      have VM : Hid (∀ v ∈ rows i, v < m) := fun v hv => (TR.out.2.2.2 v i (((HR.out i him).1 v).1 hv)).1
      have CELL : Hid (∀ wq (t3 : Nat → Int) (t4 : Nat → Int) (t5 : Nat → Int), TS wq N m bs cs fb us rows f0 (nI pr) t3 t4 t5 → ∀ j (hj : j < (rows i).length), ∃ Bi, Ai = some ⟨Bi, 0, none⟩ ∧ wq.cell? ⟨Bi, j, none⟩ = some (.int .i64 ((rows i)[j] : Int))) := fun wq t3 t4 t5 ht j hj => by
        have o := ht.2.2.2.2.2.2.1.2.1 i him
        rw [EI.out] at o
        obtain ⟨A', C', e', hs'⟩ := o.shape
        injection e' with e1 _ _
        obtain ⟨B, h1, _, _, _, h2⟩ := hs' (by omega)
        exact ⟨B, by rw [e1, h1], h2 j hj⟩
      have TPS : Hid (Tp pr i (pu top i i) [] i) := Tp.start _ _ _
      have ti : top i = i := I1.out.2.1 i (Nat.le_refl _)
      have T1' : Hid (TS wr N m bs cs fb us rows f0 (nI pr) (nI (pu top i i)) up (nI best)) := (by rw [pu_same top i i ti]; exact T1.out : TS wr N m bs cs fb us rows f0 (nI pr) (nI (pu top i i)) up (nI best))
      have FO1 : Hid (Fo m pr i (pu top i i) up best) := (by rw [pu_same top i i ti]; exact I1.out.1 : Fo m pr i (pu top i i) up best)
      clear hsi ORi ei HC
      go_wp2
      go_loopw [40] (fun jv wz => ∃ (j x : Nat) (up : Nat → Int) (best : Nat → Nat), j ≤ (rows i).length ∧ jv = .int .i64 (j : Int) ∧ Tp pr i (pu top i x) ((rows i).take j) x ∧ Fo m pr i (pu top i x) up best ∧ TS wz N m bs cs fb us rows f0 (nI pr) (nI (pu top i x)) up (nI best) ∧ IZ wz w.heap.size m (nI D) ∧ RR wz (w.heap.size + 1) m ws W ∧ Kp (fun b => b = bs 3 ∨ b = bs 4 ∨ b = bs 5) w wz) (fun jv _ => (rows i).length - (intOf jv).toNat)
      case atStart => exact ⟨0, i, up, best, Nat.zero_le _, rfl, TPS.out, FO1.out, T1'.out, Z1.out, R1.out, K1.out⟩
      case round =>
        rename World => wz
        obtain ⟨j, x, up1, best1, hj, rfl, hTp, hFo, hTS, hZ, hRR, hK⟩ := hrel
        have P2 : Hid (Tp pr i (pu top i x) ((rows i).take j) x) := hTp
        have F2 : Hid (Fo m pr i (pu top i x) up1 best1) := hFo
        have T2 : Hid (TS wz N m bs cs fb us rows f0 (nI pr) (nI (pu top i x)) up1 (nI best1)) := hTS
        have Z2 : Hid (IZ wz w.heap.size m (nI D)) := hZ
        have R2 : Hid (RR wz (w.heap.size + 1) m ws W) := hRR
        have K2 : Hid (Kp (fun b => b = bs 3 ∨ b = bs 4 ∨ b = bs 5) w wz) := hK
        have hxi : x ≤ i := hTp.2.2.1
        have hxm : x < m := by omega
        have hxz : (x : Int) < m := by omega
        clear hTp hFo hTS hZ hRR hK
        rcases Nat.lt_or_ge j (rows i).length with hj' | hj'
        · have hjz : (j : Int) < (rows i).length := by omega
          obtain ⟨Bi, rfl, cj⟩ := CELL.out _ _ _ _ T2.out j hj'
          have hvm : (rows i)[j] < m := VM.out _ (List.getElem_mem hj')
          have TK : Hid ((rows i).take (j + 1) = (rows i).take j ++ [(rows i)[j]]) := List.take_succ_eq_append_getElem hj'
          generalize (rows i)[j] = v at *
          have SK : Hid (∀ wq, Below wz.heap.size wz wq → wq.cell? ⟨N, 3, none⟩ = some (.slice (some ⟨bs 3, 0, none⟩) m (cs 3)) ∧ wq.cell? ⟨bs 3, i, none⟩ = some (.int .i64 (x : Int))) := fun wq hb => by
            have q := T2.out.new hb
            have e := q.2.2.2.1.cell i him
            rw [show nI (pu top i x) i = (x : Int) from by unfold nI; rw [pu_self]] at e
            exact ⟨q.1.cell 3, e⟩
          have BC : Hid (Calls Try.prog 36 #[.pointer (some ⟨N, 0, none⟩), .int .i64 (v : Int)] wz.drew fun e w' => ∃ (r : Nat) (up' : Nat → Int) (best' : Nat → Nat), e = .returned (.int .i64 (r : Int)) ∧ r < m ∧ TS w' N m bs cs fb us rows f0 (nI pr) (nI (pu top i x)) up' (nI best') ∧ Fo m pr i (pu top i x) up' best' ∧ Bo pr i (pu top i x) v r ∧ Kp (fun b => b = bs 4 ∨ b = bs 5) wz.drew w') := bestOf_c wz.drew N m bs cs fb us rows f0 (nI pr) (pu top i x) up1 best1 (T2.out.new (below_drew _)) (by omega) pr E TR.out i F2.out v hvm
          go_wp2
          refine wp_region_N (fun w' => w'.cell? ⟨N, 3, none⟩ = some (.slice (some ⟨bs 3, 0, none⟩) m (cs 3)) ∧ w'.cell? ⟨bs 3, i, none⟩ = some (.int .i64 (x : Int))) (fun j => j != 23) mixed (SK.out _ (below_drew _)) ?_
          intro S0
          refine wpAnyN_take (i := 0) (v := .pointer (some ⟨N, 0, none⟩)) rfl (by kernel_rfl) (by kernel_rfl) (by kernel_rfl) (by kernel_rfl) (fun _ _ _ h => h) (Or.inl ⟨by rfl, ?_⟩) S0 ?_
          · intro w' hS'
            obtain ⟨h1, h2⟩ := hS'
            go_simp
          (try simp only [Act.put, List.getElem_toArray, List.getElem_cons_zero, List.setIfInBounds_toArray, List.set_cons_zero, List.set_cons_succ])
          refine wpAnyN_take (i := 1) (v := .pointer (some ⟨N, 0, none⟩)) rfl (by kernel_rfl) (by kernel_rfl) (by kernel_rfl) (by kernel_rfl) (fun _ _ _ h => h) (Or.inl ⟨by rfl, ?_⟩) S0 ?_
          · intro w' hS'
            obtain ⟨h1, h2⟩ := hS'
            go_simp
          (try simp only [Act.put, List.getElem_toArray, List.getElem_cons_succ, List.getElem_cons_zero, List.setIfInBounds_toArray, List.set_cons_zero, List.set_cons_succ])
          refine wpAnyN_take (i := 2) (v := .pointer (some ⟨N, 3, none⟩)) rfl (by kernel_rfl) (by kernel_rfl) (by kernel_rfl) (by kernel_rfl) (fun _ _ _ h => h) (Or.inl ⟨by rfl, ?_⟩) S0 ?_
          · intro w' hS'
            obtain ⟨h1, h2⟩ := hS'
            go_simp
          (try simp only [Act.put, List.getElem_toArray, List.getElem_cons_succ, List.getElem_cons_zero, List.setIfInBounds_toArray, List.set_cons_zero, List.set_cons_succ])
          refine wpAnyN_take (i := 3) (v := .slice (some ⟨bs 3, 0, none⟩) m (cs 3)) rfl (by kernel_rfl) (by kernel_rfl) (by kernel_rfl) (by kernel_rfl) (fun _ _ _ h => h) (Or.inl ⟨by rfl, ?_⟩) S0 ?_
          · intro w' hS'
            obtain ⟨h1, h2⟩ := hS'
            go_simp
          (try simp only [Act.put, List.getElem_toArray, List.getElem_cons_succ, List.getElem_cons_zero, List.setIfInBounds_toArray, List.set_cons_zero, List.set_cons_succ])
          refine wpAnyN_take (i := 4) (v := .int .i64 (i : Int)) rfl (by kernel_rfl) (by kernel_rfl) (by kernel_rfl) (by kernel_rfl) (fun _ _ _ h => h) (Or.inl ⟨by rfl, ?_⟩) S0 ?_
          · intro w' hS'
            obtain ⟨h1, h2⟩ := hS'
            go_simp
          (try simp only [Act.put, List.getElem_toArray, List.getElem_cons_succ, List.getElem_cons_zero, List.setIfInBounds_toArray, List.set_cons_zero, List.set_cons_succ])
          refine wpAnyN_take (i := 5) (v := .pointer (some ⟨N, 0, none⟩)) rfl (by kernel_rfl) (by kernel_rfl) (by kernel_rfl) (by kernel_rfl) (fun _ _ _ h => h) (Or.inl ⟨by rfl, ?_⟩) S0 ?_
          · intro w' hS'
            obtain ⟨h1, h2⟩ := hS'
            go_simp
          (try simp only [Act.put, List.getElem_toArray, List.getElem_cons_succ, List.getElem_cons_zero, List.setIfInBounds_toArray, List.set_cons_zero, List.set_cons_succ])
          refine wpAnyN_take (i := 6) (v := .pointer (some ⟨N, 0, none⟩)) rfl (by kernel_rfl) (by kernel_rfl) (by kernel_rfl) (by kernel_rfl) (fun _ _ _ h => h) (Or.inl ⟨by rfl, ?_⟩) S0 ?_
          · intro w' hS'
            obtain ⟨h1, h2⟩ := hS'
            go_simp
          (try simp only [Act.put, List.getElem_toArray, List.getElem_cons_succ, List.getElem_cons_zero, List.setIfInBounds_toArray, List.set_cons_zero, List.set_cons_succ])
          refine wpAnyN_take (i := 7) (v := .pointer (some ⟨N, 3, none⟩)) rfl (by kernel_rfl) (by kernel_rfl) (by kernel_rfl) (by kernel_rfl) (fun _ _ _ h => h) (Or.inl ⟨by rfl, ?_⟩) S0 ?_
          · intro w' hS'
            obtain ⟨h1, h2⟩ := hS'
            go_simp
          (try simp only [Act.put, List.getElem_toArray, List.getElem_cons_succ, List.getElem_cons_zero, List.setIfInBounds_toArray, List.set_cons_zero, List.set_cons_succ])
          refine wpAnyN_take (i := 8) (v := .slice (some ⟨bs 3, 0, none⟩) m (cs 3)) rfl (by kernel_rfl) (by kernel_rfl) (by kernel_rfl) (by kernel_rfl) (fun _ _ _ h => h) (Or.inl ⟨by rfl, ?_⟩) S0 ?_
          · intro w' hS'
            obtain ⟨h1, h2⟩ := hS'
            go_simp
          (try simp only [Act.put, List.getElem_toArray, List.getElem_cons_succ, List.getElem_cons_zero, List.setIfInBounds_toArray, List.set_cons_zero, List.set_cons_succ])
          refine wpAnyN_take (i := 9) (v := .int .i64 (i : Int)) rfl (by kernel_rfl) (by kernel_rfl) (by kernel_rfl) (by kernel_rfl) (fun _ _ _ h => h) (Or.inl ⟨by rfl, ?_⟩) S0 ?_
          · intro w' hS'
            obtain ⟨h1, h2⟩ := hS'
            go_simp
          (try simp only [Act.put, List.getElem_toArray, List.getElem_cons_succ, List.getElem_cons_zero, List.setIfInBounds_toArray, List.set_cons_zero, List.set_cons_succ])
          refine wpAnyN_take (i := 10) (v := .pointer (some ⟨bs 3, i, none⟩)) rfl (by kernel_rfl) (by kernel_rfl) (by kernel_rfl) (by kernel_rfl) (fun _ _ _ h => h) (Or.inl ⟨by rfl, ?_⟩) S0 ?_
          · intro w' hS'
            obtain ⟨h1, h2⟩ := hS'
            go_simp
          (try simp only [Act.put, List.getElem_toArray, List.getElem_cons_succ, List.getElem_cons_zero, List.setIfInBounds_toArray, List.set_cons_zero, List.set_cons_succ])
          refine wpAnyN_take (i := 11) (v := .int .i64 (x : Int)) rfl (by kernel_rfl) (by kernel_rfl) (by kernel_rfl) (by kernel_rfl) (fun _ _ _ h => h) (Or.inl ⟨by rfl, ?_⟩) S0 ?_
          · intro w' hS'
            obtain ⟨h1, h2⟩ := hS'
            go_simp
          (try simp only [Act.put, List.getElem_toArray, List.getElem_cons_succ, List.getElem_cons_zero, List.setIfInBounds_toArray, List.set_cons_zero, List.set_cons_succ])
          refine wpAnyN_take (i := 12) (v := .pointer (some ⟨N, 0, none⟩)) rfl (by kernel_rfl) (by kernel_rfl) (by kernel_rfl) (by kernel_rfl) (fun _ _ _ h => h) (Or.inl ⟨by rfl, ?_⟩) S0 ?_
          · intro w' hS'
            obtain ⟨h1, h2⟩ := hS'
            go_simp
          (try simp only [Act.put, List.getElem_toArray, List.getElem_cons_succ, List.getElem_cons_zero, List.setIfInBounds_toArray, List.set_cons_zero, List.set_cons_succ])
          refine wpAnyN_take (i := 13) (v := .pointer (some ⟨N, 0, none⟩)) rfl (by kernel_rfl) (by kernel_rfl) (by kernel_rfl) (by kernel_rfl) (fun _ _ _ h => h) (Or.inl ⟨by rfl, ?_⟩) S0 ?_
          · intro w' hS'
            obtain ⟨h1, h2⟩ := hS'
            go_simp
          (try simp only [Act.put, List.getElem_toArray, List.getElem_cons_succ, List.getElem_cons_zero, List.setIfInBounds_toArray, List.set_cons_zero, List.set_cons_succ])
          refine wpAnyN_take (i := 14) (v := .pointer (some ⟨N, 3, none⟩)) rfl (by kernel_rfl) (by kernel_rfl) (by kernel_rfl) (by kernel_rfl) (fun _ _ _ h => h) (Or.inl ⟨by rfl, ?_⟩) S0 ?_
          · intro w' hS'
            obtain ⟨h1, h2⟩ := hS'
            go_simp
          (try simp only [Act.put, List.getElem_toArray, List.getElem_cons_succ, List.getElem_cons_zero, List.setIfInBounds_toArray, List.set_cons_zero, List.set_cons_succ])
          refine wpAnyN_take (i := 15) (v := .slice (some ⟨bs 3, 0, none⟩) m (cs 3)) rfl (by kernel_rfl) (by kernel_rfl) (by kernel_rfl) (by kernel_rfl) (fun _ _ _ h => h) (Or.inl ⟨by rfl, ?_⟩) S0 ?_
          · intro w' hS'
            obtain ⟨h1, h2⟩ := hS'
            go_simp
          (try simp only [Act.put, List.getElem_toArray, List.getElem_cons_succ, List.getElem_cons_zero, List.setIfInBounds_toArray, List.set_cons_zero, List.set_cons_succ])
          refine wpAnyN_take (i := 16) (v := .pointer (some ⟨N, 0, none⟩)) rfl (by kernel_rfl) (by kernel_rfl) (by kernel_rfl) (by kernel_rfl) (fun _ _ _ h => h) (Or.inl ⟨by rfl, ?_⟩) S0 ?_
          · intro w' hS'
            obtain ⟨h1, h2⟩ := hS'
            go_simp
          (try simp only [Act.put, List.getElem_toArray, List.getElem_cons_succ, List.getElem_cons_zero, List.setIfInBounds_toArray, List.set_cons_zero, List.set_cons_succ])
          refine wpAnyN_take (i := 17) (v := .int .i64 (v : Int)) rfl (by kernel_rfl) (by kernel_rfl) (by kernel_rfl) (by kernel_rfl) (fun _ _ _ h => h) (Or.inl ⟨by rfl, ?_⟩) S0 ?_
          · intro w' hS'
            obtain ⟨h1, h2⟩ := hS'
            go_simp
          (try simp only [Act.put, List.getElem_toArray, List.getElem_cons_succ, List.getElem_cons_zero, List.setIfInBounds_toArray, List.set_cons_zero, List.set_cons_succ])
          refine wpAnyN_one (i := 18) (by kernel_rfl) rfl (fun K hK => ?_)
          go_simp
          (go_at_call 36; refine BC.out.mono ?_; rintro e w5 ⟨r, up5, best5, rfl, hr5, ht5, hf5, hb5, hk5⟩)
          have T5 : Hid (TS w5 N m bs cs fb us rows f0 (nI pr) (nI (pu top i x)) up5 (nI best5)) := ht5
          have F5 : Hid (Fo m pr i (pu top i x) up5 best5) := hf5
          have O5 : Hid (Bo pr i (pu top i x) v r) := hb5
          have K5 : Hid (Kp (fun b => b = bs 4 ∨ b = bs 5) wz w5) := (Kp.of_below (below_drew wz)).trans hk5
          have hrz : (r : Int) < m := by omega
          have c5 : w5.cell? ⟨bs 3, r, none⟩ = some (.int .i64 ((pu top i x r : Nat) : Int)) := ht5.2.2.2.1.cell r hr5
          have S5 : w5.cell? ⟨N, 3, none⟩ = some (.slice (some ⟨bs 3, 0, none⟩) m (cs 3)) ∧ w5.cell? ⟨bs 3, i, none⟩ = some (.int .i64 (x : Int)) := by
            have e := ht5.2.2.2.1.cell i him
            rw [show nI (pu top i x) i = (x : Int) from by unfold nI; rw [pu_self]] at e
            exact ⟨ht5.1.cell 3, e⟩
          have S51 := S5.1
          have S52 := S5.2
          clear ht5 hf5 hb5 hk5
          generalize hy : pu top i x r = y at *
          go_wp2_with fail
          refine hK _ _ (fun _ => S5) ?_
          clear hK K
          (try simp only [Act.put, List.getElem_toArray, List.getElem_cons_succ, List.getElem_cons_zero, List.setIfInBounds_toArray, List.set_cons_zero, List.set_cons_succ])
          refine wpAnyN_take (i := 19) (v := .pointer (some ⟨bs 3, r, none⟩)) rfl (by kernel_rfl) (by kernel_rfl) (by kernel_rfl) (by kernel_rfl) (fun _ _ _ h => h) (Or.inl ⟨by rfl, ?_⟩) S5 ?_
          · intro w' hS'
            obtain ⟨h1, h2⟩ := hS'
            go_simp
          (try simp only [Act.put, List.getElem_toArray, List.getElem_cons_succ, List.getElem_cons_zero, List.setIfInBounds_toArray, List.set_cons_zero, List.set_cons_succ])
          refine wpAnyN_one (i := 20) (by kernel_rfl) rfl (fun K hK => ?_)
          go_simp
          refine hK _ _ (fun h => S5) ?_
          clear hK K
          (try simp only [Act.put, List.getElem_toArray, List.getElem_cons_succ, List.getElem_cons_zero, List.setIfInBounds_toArray, List.set_cons_zero, List.set_cons_succ])
          refine wpAnyN_take (i := 21) (v := .int .i64 ((min x y : Nat) : Int)) rfl (by kernel_rfl) (by kernel_rfl) (by kernel_rfl) (by kernel_rfl) (fun _ _ _ h => h) (Or.inl ⟨by rfl, ?_⟩) S5 ?_
          · intro w' hS'
            obtain ⟨h1, h2⟩ := hS'
            go_simp
            (first | (split <;> omega) | omega)
          (try simp only [Act.put, List.getElem_toArray, List.getElem_cons_succ, List.getElem_cons_zero, List.setIfInBounds_toArray, List.set_cons_zero, List.set_cons_succ])
          refine wpAnyN_one (i := 22) (by kernel_rfl) rfl (fun K hK => ?_)
          go_simp
          refine hK _ _ (fun h => S5) ?_
          clear hK K
          (try simp only [Act.put, List.getElem_toArray, List.getElem_cons_succ, List.getElem_cons_zero, List.setIfInBounds_toArray, List.set_cons_zero, List.set_cons_succ])
          have f5 := T5.out.2.2.2.1.frozen i
          refine wpAnyN_one (i := 23) (by kernel_rfl) rfl (fun K hK => ?_)
          go_simp
          refine hK _ _ (fun h => by cases h) ?_
          clear hK K
          (try simp only [Act.put, List.getElem_toArray, List.getElem_cons_succ, List.getElem_cons_zero, List.setIfInBounds_toArray, List.set_cons_zero, List.set_cons_succ])
          refine wpAnyN_done (by kernel_rfl) ?_ _
          have MM := mvT (w := w) (bs := bs) ⟨hb3.2, hb4.2, hb5.2⟩ Z2.out R2.out K2.out (K5.out.mono fun b hb => (hb.elim (fun h => Or.inr (Or.inl h)) (fun h => Or.inr (Or.inr h)) : b = bs 3 ∨ b = bs 4 ∨ b = bs 5)) (fun b hb => hb)
          have M6 := mvT (w := w) (bs := bs) (w2 := w5.setCell ⟨bs 3, i, none⟩ (.int .i64 ((min x y : Nat) : Int))) ⟨hb3.2, hb4.2, hb5.2⟩ MM.1 MM.2.1 MM.2.2 (Kp.set (F := fun b => b = bs 3) w5 i _ rfl) (fun b hb => Or.inl hb)
          have Z6 : Hid (IZ (w5.setCell ⟨bs 3, i, none⟩ (.int .i64 ((min x y : Nat) : Int))) w.heap.size m (nI D)) := M6.1
          have R6 : Hid (RR (w5.setCell ⟨bs 3, i, none⟩ (.int .i64 ((min x y : Nat) : Int))) (w.heap.size + 1) m ws W) := M6.2.1
          have K6 : Hid (Kp (fun b => b = bs 3 ∨ b = bs 4 ∨ b = bs 5) w (w5.setCell ⟨bs 3, i, none⟩ (.int .i64 ((min x y : Nat) : Int)))) := M6.2.2
          have T6 : Hid (TS (w5.setCell ⟨bs 3, i, none⟩ (.int .i64 ((min x y : Nat) : Int))) N m bs cs fb us rows f0 (nI pr) (nI (pu top i (min x y))) up5 (nI best5)) := by
            have h := T5.out.set3 i him ((min x y : Nat) : Int)
            rw [nI_pu, pu_pu] at h
            exact h
          have F6 : Hid (Fo m pr i (pu top i (min x y)) up5 best5) := by
            have h := F5.out.told (min x y)
            rw [pu_pu] at h
            exact h
          have P6 : Hid (Tp pr i (pu top i (min x y)) ((rows i).take (j + 1)) (min x y)) := by
            have h := P2.out.more TR.out hvm O5.out (fun k hk => by rw [pu_ne _ _ (by omega)]; exact I1.out.2.1 k (by omega)) (pu_self _ _ _)
            rw [hy, ← TK.out] at h
            exact h.ext fun u hu => by rw [pu_ne _ _ (by omega), pu_ne _ _ (by omega)]
          clear S0 S5 SK S51 S52 c5 f5 MM M6 hy
          go_wp2
          go_roundw
          case rel => exact ⟨j + 1, min x y, up5, best5, by omega, by go_num, P6.out, F6.out, T6.out, Z6.out, R6.out, K6.out⟩
          case measure => simp [intOf]; omega
        · have hjz : ¬ (j : Int) < (rows i).length := by omega
          obtain rfl : j = (rows i).length := by omega
          have PD : Hid (Sm m pr E (pu top i x) i) := by
            have h := P2.out
            rw [List.take_of_length_le (Nat.le_refl _)] at h
            have h2 := h.done TR.out (fun v => (HR.out i him).1 v) hi0 him
            rw [pu_pu] at h2
            exact h2
          have OX : ON (w.heap.size + 1 + 1) (W x) (ws x) wz := R2.out.2.1 x hxm
          obtain ⟨Ax, Cx, ex, -⟩ := OX.shape
          have EX : Hid (ws x = .slice Ax (W x).length Cx) := ex
          have hwl : (W x).length ≤ 40 := by have := I1.out.2.2.2.2.2.2.2 x; omega
          have SK : Hid (∀ wq, Below wz.heap.size wz wq → wq.cell? ⟨N, 3, none⟩ = some (.slice (some ⟨bs 3, 0, none⟩) m (cs 3)) ∧ wq.cell? ⟨bs 3, i, none⟩ = some (.int .i64 (x : Int)) ∧ wq.cell? ⟨w.heap.size + 1, x, none⟩ = some (.slice Ax (W x).length Cx)) := fun wq hb => by
            have q := T2.out.new hb
            have e := q.2.2.2.1.cell i him
            rw [show nI (pu top i x) i = (x : Int) from by unfold nI; rw [pu_self]] at e
            have r := (R2.out.kp (Kp.of_below (F := fun _ => False) hb) fun _ h => h.elim).cell x hxm
            rw [EX.out] at r
            exact ⟨q.1.cell 3, e, r⟩
          have RA : Hid (RR (wz.drew.alloc (.cells (iN i).toArray 3)) (w.heap.size + 1) m ws W) := R2.out.kp (Kp.of_below (F := fun _ => False) (below_next (below_drew _) (below_alloc _ _))) fun _ h => h.elim
          have OA : Hid (ON (w.heap.size + 1 + 1) (W x) (.slice Ax (W x).length Cx) (wz.drew.alloc (.cells (iN i).toArray 3))) := (by rw [← EX.out]; exact RA.out.2.1 x hxm : ON (w.heap.size + 1 + 1) (W x) (.slice Ax (W x).length Cx) (wz.drew.alloc (.cells (iN i).toArray 3)))
          clear OX ex
          go_wp2
          refine wp_region_N (fun w' => w'.cell? ⟨N, 3, none⟩ = some (.slice (some ⟨bs 3, 0, none⟩) m (cs 3)) ∧ w'.cell? ⟨bs 3, i, none⟩ = some (.int .i64 (x : Int)) ∧ w'.cell? ⟨w.heap.size + 1, x, none⟩ = some (.slice Ax (W x).length Cx)) (fun j => j != 22) mixed (SK.out _ (below_drew _)) ?_
          intro S0
          refine wpAnyN_take (i := 0) (v := .slice (some ⟨w.heap.size + 1, 0, none⟩) m m) rfl (by kernel_rfl) (by kernel_rfl) (by kernel_rfl) (by kernel_rfl) (fun _ _ _ h => h) (Or.inl ⟨by rfl, ?_⟩) S0 ?_
          · intro w' hS'
            obtain ⟨h1, h2, h3⟩ := hS'
            go_simp
          (try simp only [Act.put, List.getElem_toArray, List.getElem_cons_zero, List.setIfInBounds_toArray, List.set_cons_zero, List.set_cons_succ])
          refine wpAnyN_take (i := 1) (v := .pointer (some ⟨N, 0, none⟩)) rfl (by kernel_rfl) (by kernel_rfl) (by kernel_rfl) (by kernel_rfl) (fun _ _ _ h => h) (Or.inl ⟨by rfl, ?_⟩) S0 ?_
          · intro w' hS'
            obtain ⟨h1, h2, h3⟩ := hS'
            go_simp
          (try simp only [Act.put, List.getElem_toArray, List.getElem_cons_succ, List.getElem_cons_zero, List.setIfInBounds_toArray, List.set_cons_zero, List.set_cons_succ])
          refine wpAnyN_take (i := 2) (v := .pointer (some ⟨N, 0, none⟩)) rfl (by kernel_rfl) (by kernel_rfl) (by kernel_rfl) (by kernel_rfl) (fun _ _ _ h => h) (Or.inl ⟨by rfl, ?_⟩) S0 ?_
          · intro w' hS'
            obtain ⟨h1, h2, h3⟩ := hS'
            go_simp
          (try simp only [Act.put, List.getElem_toArray, List.getElem_cons_succ, List.getElem_cons_zero, List.setIfInBounds_toArray, List.set_cons_zero, List.set_cons_succ])
          refine wpAnyN_take (i := 3) (v := .pointer (some ⟨N, 3, none⟩)) rfl (by kernel_rfl) (by kernel_rfl) (by kernel_rfl) (by kernel_rfl) (fun _ _ _ h => h) (Or.inl ⟨by rfl, ?_⟩) S0 ?_
          · intro w' hS'
            obtain ⟨h1, h2, h3⟩ := hS'
            go_simp
          (try simp only [Act.put, List.getElem_toArray, List.getElem_cons_succ, List.getElem_cons_zero, List.setIfInBounds_toArray, List.set_cons_zero, List.set_cons_succ])
          refine wpAnyN_take (i := 4) (v := .slice (some ⟨bs 3, 0, none⟩) m (cs 3)) rfl (by kernel_rfl) (by kernel_rfl) (by kernel_rfl) (by kernel_rfl) (fun _ _ _ h => h) (Or.inl ⟨by rfl, ?_⟩) S0 ?_
          · intro w' hS'
            obtain ⟨h1, h2, h3⟩ := hS'
            go_simp
          (try simp only [Act.put, List.getElem_toArray, List.getElem_cons_succ, List.getElem_cons_zero, List.setIfInBounds_toArray, List.set_cons_zero, List.set_cons_succ])
          refine wpAnyN_take (i := 5) (v := .int .i64 (i : Int)) rfl (by kernel_rfl) (by kernel_rfl) (by kernel_rfl) (by kernel_rfl) (fun _ _ _ h => h) (Or.inl ⟨by rfl, ?_⟩) S0 ?_
          · intro w' hS'
            obtain ⟨h1, h2, h3⟩ := hS'
            go_simp
          (try simp only [Act.put, List.getElem_toArray, List.getElem_cons_succ, List.getElem_cons_zero, List.setIfInBounds_toArray, List.set_cons_zero, List.set_cons_succ])
          refine wpAnyN_take (i := 6) (v := .pointer (some ⟨bs 3, i, none⟩)) rfl (by kernel_rfl) (by kernel_rfl) (by kernel_rfl) (by kernel_rfl) (fun _ _ _ h => h) (Or.inl ⟨by rfl, ?_⟩) S0 ?_
          · intro w' hS'
            obtain ⟨h1, h2, h3⟩ := hS'
            go_simp
          (try simp only [Act.put, List.getElem_toArray, List.getElem_cons_succ, List.getElem_cons_zero, List.setIfInBounds_toArray, List.set_cons_zero, List.set_cons_succ])
          refine wpAnyN_take (i := 7) (v := .int .i64 (x : Int)) rfl (by kernel_rfl) (by kernel_rfl) (by kernel_rfl) (by kernel_rfl) (fun _ _ _ h => h) (Or.inl ⟨by rfl, ?_⟩) S0 ?_
          · intro w' hS'
            obtain ⟨h1, h2, h3⟩ := hS'
            go_simp
          (try simp only [Act.put, List.getElem_toArray, List.getElem_cons_succ, List.getElem_cons_zero, List.setIfInBounds_toArray, List.set_cons_zero, List.set_cons_succ])
          refine wpAnyN_take (i := 8) (v := .slice (some ⟨w.heap.size + 1, 0, none⟩) m m) rfl (by kernel_rfl) (by kernel_rfl) (by kernel_rfl) (by kernel_rfl) (fun _ _ _ h => h) (Or.inl ⟨by rfl, ?_⟩) S0 ?_
          · intro w' hS'
            obtain ⟨h1, h2, h3⟩ := hS'
            go_simp
          (try simp only [Act.put, List.getElem_toArray, List.getElem_cons_succ, List.getElem_cons_zero, List.setIfInBounds_toArray, List.set_cons_zero, List.set_cons_succ])
          refine wpAnyN_take (i := 9) (v := .pointer (some ⟨N, 0, none⟩)) rfl (by kernel_rfl) (by kernel_rfl) (by kernel_rfl) (by kernel_rfl) (fun _ _ _ h => h) (Or.inl ⟨by rfl, ?_⟩) S0 ?_
          · intro w' hS'
            obtain ⟨h1, h2, h3⟩ := hS'
            go_simp
          (try simp only [Act.put, List.getElem_toArray, List.getElem_cons_succ, List.getElem_cons_zero, List.setIfInBounds_toArray, List.set_cons_zero, List.set_cons_succ])
          refine wpAnyN_take (i := 10) (v := .pointer (some ⟨N, 0, none⟩)) rfl (by kernel_rfl) (by kernel_rfl) (by kernel_rfl) (by kernel_rfl) (fun _ _ _ h => h) (Or.inl ⟨by rfl, ?_⟩) S0 ?_
          · intro w' hS'
            obtain ⟨h1, h2, h3⟩ := hS'
            go_simp
          (try simp only [Act.put, List.getElem_toArray, List.getElem_cons_succ, List.getElem_cons_zero, List.setIfInBounds_toArray, List.set_cons_zero, List.set_cons_succ])
          refine wpAnyN_take (i := 11) (v := .pointer (some ⟨N, 3, none⟩)) rfl (by kernel_rfl) (by kernel_rfl) (by kernel_rfl) (by kernel_rfl) (fun _ _ _ h => h) (Or.inl ⟨by rfl, ?_⟩) S0 ?_
          · intro w' hS'
            obtain ⟨h1, h2, h3⟩ := hS'
            go_simp
          (try simp only [Act.put, List.getElem_toArray, List.getElem_cons_succ, List.getElem_cons_zero, List.setIfInBounds_toArray, List.set_cons_zero, List.set_cons_succ])
          refine wpAnyN_take (i := 12) (v := .slice (some ⟨bs 3, 0, none⟩) m (cs 3)) rfl (by kernel_rfl) (by kernel_rfl) (by kernel_rfl) (by kernel_rfl) (fun _ _ _ h => h) (Or.inl ⟨by rfl, ?_⟩) S0 ?_
          · intro w' hS'
            obtain ⟨h1, h2, h3⟩ := hS'
            go_simp
          (try simp only [Act.put, List.getElem_toArray, List.getElem_cons_succ, List.getElem_cons_zero, List.setIfInBounds_toArray, List.set_cons_zero, List.set_cons_succ])
          refine wpAnyN_take (i := 13) (v := .int .i64 (i : Int)) rfl (by kernel_rfl) (by kernel_rfl) (by kernel_rfl) (by kernel_rfl) (fun _ _ _ h => h) (Or.inl ⟨by rfl, ?_⟩) S0 ?_
          · intro w' hS'
            obtain ⟨h1, h2, h3⟩ := hS'
            go_simp
          (try simp only [Act.put, List.getElem_toArray, List.getElem_cons_succ, List.getElem_cons_zero, List.setIfInBounds_toArray, List.set_cons_zero, List.set_cons_succ])
          refine wpAnyN_take (i := 14) (v := .pointer (some ⟨bs 3, i, none⟩)) rfl (by kernel_rfl) (by kernel_rfl) (by kernel_rfl) (by kernel_rfl) (fun _ _ _ h => h) (Or.inl ⟨by rfl, ?_⟩) S0 ?_
          · intro w' hS'
            obtain ⟨h1, h2, h3⟩ := hS'
            go_simp
          (try simp only [Act.put, List.getElem_toArray, List.getElem_cons_succ, List.getElem_cons_zero, List.setIfInBounds_toArray, List.set_cons_zero, List.set_cons_succ])
          refine wpAnyN_take (i := 15) (v := .int .i64 (x : Int)) rfl (by kernel_rfl) (by kernel_rfl) (by kernel_rfl) (by kernel_rfl) (fun _ _ _ h => h) (Or.inl ⟨by rfl, ?_⟩) S0 ?_
          · intro w' hS'
            obtain ⟨h1, h2, h3⟩ := hS'
            go_simp
          (try simp only [Act.put, List.getElem_toArray, List.getElem_cons_succ, List.getElem_cons_zero, List.setIfInBounds_toArray, List.set_cons_zero, List.set_cons_succ])
          refine wpAnyN_take (i := 16) (v := .pointer (some ⟨w.heap.size + 1, x, none⟩)) rfl (by kernel_rfl) (by kernel_rfl) (by kernel_rfl) (by kernel_rfl) (fun _ _ _ h => h) (Or.inl ⟨by rfl, ?_⟩) S0 ?_
          · intro w' hS'
            obtain ⟨h1, h2, h3⟩ := hS'
            go_simp
          (try simp only [Act.put, List.getElem_toArray, List.getElem_cons_succ, List.getElem_cons_zero, List.setIfInBounds_toArray, List.set_cons_zero, List.set_cons_succ])
          refine wpAnyN_take (i := 17) (v := .slice Ax (W x).length Cx) rfl (by kernel_rfl) (by kernel_rfl) (by kernel_rfl) (by kernel_rfl) (fun _ _ _ h => h) (Or.inl ⟨by rfl, ?_⟩) S0 ?_
          · intro w' hS'
            obtain ⟨h1, h2, h3⟩ := hS'
            go_simp
          (try simp only [Act.put, List.getElem_toArray, List.getElem_cons_succ, List.getElem_cons_zero, List.setIfInBounds_toArray, List.set_cons_zero, List.set_cons_succ])
          refine wpAnyN_take (i := 18) (v := .int .i64 (i : Int)) rfl (by kernel_rfl) (by kernel_rfl) (by kernel_rfl) (by kernel_rfl) (fun _ _ _ h => h) (Or.inl ⟨by rfl, ?_⟩) S0 ?_
          · intro w' hS'
            obtain ⟨h1, h2, h3⟩ := hS'
            go_simp
          (try simp only [Act.put, List.getElem_toArray, List.getElem_cons_succ, List.getElem_cons_zero, List.setIfInBounds_toArray, List.set_cons_zero, List.set_cons_succ])
          refine wpAnyN_one (i := 19) (by kernel_rfl) rfl (fun K hK => ?_)
          go_simp
          refine hK _ _ (fun h => SK.out _ (below_next (below_drew _) (below_alloc _ _))) ?_
          clear hK K
          (try simp only [Act.put, List.getElem_toArray, List.getElem_cons_succ, List.getElem_cons_zero, List.setIfInBounds_toArray, List.set_cons_zero, List.set_cons_succ])
          refine wpAnyN_one (i := 20) (by kernel_rfl) rfl (fun K hK => ?_)
          rw [if_pos (by rfl)]
          refine OwnB.appendN 28 3 iN _ 1 8 infoInt Try.underlying28 rfl (by decide) (by decide) iN_len iN_one _ _ _ rfl (.slice Ax (W x).length Cx) (by rfl) (w.heap.size + 1 + 1) (W x) [i] OA.out ⟨wz.heap.size, 0, none⟩ 1 (by rfl) (fun j u hj => cells_new _ (iN i) 3 j u (by simpa using hj)) (by simp; omega) ?_
          intro v7 w7 ho hb7 hk7 hv7
          obtain ⟨AA, CC, ev7, -⟩ := ON.shape ho
          have ev8 : v7 = .slice AA ((W x).length + 1) CC := by
            rw [ev7, List.length_append]
            rfl
          clear ev7
          subst ev8
          have R7 : Hid (RR (w7.setCell ⟨w.heap.size + 1, x, none⟩ (.slice AA ((W x).length + 1) CC)) (w.heap.size + 1) m (pu ws x (.slice AA ((W x).length + 1) CC)) (pu W x (W x ++ [i]))) := RA.out.put hxm ho hb7 (by rw [EX.out]; exact hk7) (by rw [EX.out]; exact hv7)
          have KW : Kp (fun b => w.heap.size < b) wz w7 := (Kp.of_below (below_next (below_drew wz) (below_alloc _ _))).trans ⟨hb7.mono (Nat.zero_le _), fun b _ hn => hb7.block b (by omega)⟩
          have M7 := mvW HB.out T2.out Z2.out K2.out KW fun b hb => hb
          have S7 : w7.cell? ⟨N, 3, none⟩ = some (.slice (some ⟨bs 3, 0, none⟩) m (cs 3)) ∧ w7.cell? ⟨bs 3, i, none⟩ = some (.int .i64 (x : Int)) ∧ w7.cell? ⟨w.heap.size + 1, x, none⟩ = some (.slice Ax (W x).length Cx) := by
            have e := M7.1.2.2.2.1.cell i him
            rw [show nI (pu top i x) i = (x : Int) from by unfold nI; rw [pu_self]] at e
            refine ⟨M7.1.1.cell 3, e, ?_⟩
            rw [(RA.out.1.below hb7 (by omega)).cell, vC_get, if_pos hxm, EX.out]
          have f7 := (RA.out.1.below hb7 (by omega)).frozen x
          have M8 := mvW HB.out M7.1 M7.2.1 M7.2.2 (Kp.set (F := fun b => b = w.heap.size + 1) w7 x (.slice AA ((W x).length + 1) CC) rfl) fun b hb => by omega
          have T8 : Hid (TS (w7.setCell ⟨w.heap.size + 1, x, none⟩ (.slice AA ((W x).length + 1) CC)) N m bs cs fb us rows f0 (nI pr) (nI (pu top i x)) up1 (nI best1)) := M8.1
          have Z8 : Hid (IZ (w7.setCell ⟨w.heap.size + 1, x, none⟩ (.slice AA ((W x).length + 1) CC)) w.heap.size m (nI D)) := M8.2.1
          have K8 : Hid (Kp (fun b => b = bs 3 ∨ b = bs 4 ∨ b = bs 5) w (w7.setCell ⟨w.heap.size + 1, x, none⟩ (.slice AA ((W x).length + 1) CC))) := M8.2.2
          clear ho hb7 hk7 hv7 KW M7 M8
          have S73 := S7.2.2
          refine hK _ _ (fun _ => S7) ?_
          clear hK K
          (try simp only [Act.put, List.getElem_toArray, List.getElem_cons_succ, List.getElem_cons_zero, List.setIfInBounds_toArray, List.set_cons_zero, List.set_cons_succ])
          refine wpAnyN_one (i := 21) (by kernel_rfl) rfl (fun K hK => ?_)
          go_simp
          refine hK _ _ (fun h => S7) ?_
          clear hK K
          (try simp only [Act.put, List.getElem_toArray, List.getElem_cons_succ, List.getElem_cons_zero, List.setIfInBounds_toArray, List.set_cons_zero, List.set_cons_succ])
          refine wpAnyN_one (i := 22) (by kernel_rfl) rfl (fun K hK => ?_)
          go_simp
          refine hK _ _ (fun h => by cases h) ?_
          clear hK K
          (try simp only [Act.put, List.getElem_toArray, List.getElem_cons_succ, List.getElem_cons_zero, List.setIfInBounds_toArray, List.set_cons_zero, List.set_cons_succ])
          refine wpAnyN_done (by kernel_rfl) ?_ _
          clear S0 S7 S73 f7 SK OA RA R2 Z2 K2 T2 P2
          generalize w7.setCell ⟨w.heap.size + 1, x, none⟩ (.slice AA ((W x).length + 1) CC) = w8 at *
          generalize hws1 : pu ws x (.slice AA ((W x).length + 1) CC) = ws1 at *
          have hpi := TR.out.2.1 i hi0 him
          have hpm : pr i < m := by omega
          have hpz : (pr i : Int) < m := by omega
          have g1 : w8.cell? ⟨N, 1, none⟩ = some (.slice (some ⟨bs 1, 0, none⟩) m (cs 1)) := T8.out.1.cell 1
          have g2 : w8.cell? ⟨bs 1, i, none⟩ = some (.int .i64 (pr i : Int)) := T8.out.2.2.1.cell i him
          have g3 : w8.cell? ⟨N, 4, none⟩ = some (.slice (some ⟨bs 4, 0, none⟩) m (cs 4)) := T8.out.1.cell 4
          have g4 := T8.out.2.2.2.2.1.cell i him
          have g5 := T8.out.2.2.2.2.1.frozen i
          have T9 : Hid (TS (w8.setCell ⟨bs 4, i, none⟩ (.int .i64 (pr i : Int))) N m bs cs fb us rows f0 (nI pr) (nI (pu top i x)) (pu up1 i (pr i : Int)) (nI best1)) := T8.out.set4 i him _
          have M9 := mvT (w := w) (bs := bs) ⟨hb3.2, hb4.2, hb5.2⟩ Z8.out R7.out K8.out (Kp.set (F := fun b => b = bs 4) w8 i (.int .i64 (pr i : Int)) rfl) (fun b hb => Or.inr (Or.inl hb))
          have Z9 : Hid (IZ (w8.setCell ⟨bs 4, i, none⟩ (.int .i64 (pr i : Int))) w.heap.size m (nI D)) := M9.1
          have R9 : Hid (RR (w8.setCell ⟨bs 4, i, none⟩ (.int .i64 (pr i : Int))) (w.heap.size + 1) m ws1 (pu W x (W x ++ [i]))) := M9.2.1
          have K9 : Hid (Kp (fun b => b = bs 3 ∨ b = bs 4 ∨ b = bs 5) w (w8.setCell ⟨bs 4, i, none⟩ (.int .i64 (pr i : Int)))) := M9.2.2
          have F9 : Hid (Fo m pr (i - 1) (pu top i x) (pu up1 i (pr i : Int)) best1) := F2.out.link TR.out hi0 him
          have LWM : Hid (∀ y ∈ (pu W x (W x ++ [i])) (pr i), y < m) := fun y hy => by
            by_cases e : pr i = x
            · rw [e, pu_self] at hy
              rcases List.mem_append.1 hy with h | h
              · exact (I1.out.2.2.2.1.1 _ y h).2.1
              · simp at h; omega
            · rw [pu_ne _ _ e] at hy
              exact (I1.out.2.2.2.1.1 _ y hy).2.1
          have LWL : ((pu W x (W x ++ [i])) (pr i)).length ≤ 50 := by
            by_cases e : pr i = x
            · rw [e, pu_self, List.length_append]; simp; omega
            · rw [pu_ne _ _ e]; have := I1.out.2.2.2.2.2.2.2 (pr i); omega
          have STEP : Hid (∀ up' best' D', Fo m pr (i - 1) (pu top i x) up' best' → (∀ y, y ∈ (pu W x (W x ++ [i])) (pr i) → Bo pr (i - 1) (pu top i x) y (D' y)) → (∀ y, y ∉ (pu W x (W x ++ [i])) (pr i) → D' y = D y) → (∀ y, y < m → D' y < m) → OI m pr E (i - 1) (pu top i x) up' best' (pu (pu W x (W x ++ [i])) (pr i) []) D') := fun up' best' D' a b c d => I1.out.step TR.out hi0 him PD.out hxm a b c d
          have DM : Hid (∀ y, y < m → D y < m) := I1.out.2.2.2.2.2.1
          generalize pu W x (W x ++ [i]) = W1 at *
          have OL : ON (w.heap.size + 1 + 1) (W1 (pr i)) (ws1 (pr i)) (w8.setCell ⟨bs 4, i, none⟩ (.int .i64 (pr i : Int))) := R9.out.2.1 _ hpm
          obtain ⟨Al, Cl, el, -⟩ := OL.shape
          have EL : Hid (ws1 (pr i) = .slice Al (W1 (pr i)).length Cl) := el
          have g6 := R9.out.cell _ hpm
          rw [el] at g6
          have CL2 : Hid (∀ wq, RR wq (w.heap.size + 1) m ws1 W1 → ∀ j (hj : j < (W1 (pr i)).length), ∃ Bl, Al = some ⟨Bl, 0, none⟩ ∧ wq.cell? ⟨Bl, j, none⟩ = some (.int .i64 ((W1 (pr i))[j] : Int))) := fun wq hr j hj => by
            have o := hr.2.1 _ hpm
            rw [EL.out] at o
            obtain ⟨A', C', e', hs'⟩ := o.shape
            injection e' with e1 _ _
            obtain ⟨B, h1, _, _, _, h2⟩ := hs' (by omega)
            exact ⟨B, by rw [e1, h1], h2 j hj⟩
          clear OL el M9 I1 T1 Z1 R1 K1 R7 Z8 K8 F2
          go_wp2
          generalize w8.setCell ⟨bs 4, i, none⟩ (.int .i64 (pr i : Int)) = w9 at *
          go_loopw [109] (fun jv wq => ∃ (j : Nat) (up : Nat → Int) (best D' : Nat → Nat), j ≤ (W1 (pr i)).length ∧ jv = .int .i64 (j : Int) ∧ (∀ y, y ∈ (W1 (pr i)).take j → Bo pr (i - 1) (pu top i x) y (D' y)) ∧ (∀ y, y ∉ (W1 (pr i)).take j → D' y = D y) ∧ (∀ y, y < m → D' y < m) ∧ Fo m pr (i - 1) (pu top i x) up best ∧ TS wq N m bs cs fb us rows f0 (nI pr) (nI (pu top i x)) up (nI best) ∧ IZ wq w.heap.size m (nI D') ∧ RR wq (w.heap.size + 1) m ws1 W1 ∧ Kp (fun b => b = bs 3 ∨ b = bs 4 ∨ b = bs 5) w wq) (fun jv _ => (W1 (pr i)).length - (intOf jv).toNat)
          case atStart => exact ⟨0, _, _, D, Nat.zero_le _, rfl, fun y hy => by simp at hy, fun _ _ => rfl, DM.out, F9.out, T9.out, Z9.out, R9.out, K9.out⟩
          case round =>
            rename World => wq
            obtain ⟨j, up2, best2, D2, hj, rfl, hd1, hd2, hdm, hFo, hTS, hZ, hRR, hK⟩ := hrel
            have D1' : Hid (∀ y, y ∈ (W1 (pr i)).take j → Bo pr (i - 1) (pu top i x) y (D2 y)) := hd1
            have D2' : Hid (∀ y, y ∉ (W1 (pr i)).take j → D2 y = D y) := hd2
            have D3' : Hid (∀ y, y < m → D2 y < m) := hdm
            have FA : Hid (Fo m pr (i - 1) (pu top i x) up2 best2) := hFo
            have TA : Hid (TS wq N m bs cs fb us rows f0 (nI pr) (nI (pu top i x)) up2 (nI best2)) := hTS
            have ZA : Hid (IZ wq w.heap.size m (nI D2)) := hZ
            have RA : Hid (RR wq (w.heap.size + 1) m ws1 W1) := hRR
            have KA : Hid (Kp (fun b => b = bs 3 ∨ b = bs 4 ∨ b = bs 5) w wq) := hK
            clear hd1 hd2 hdm hFo hTS hZ hRR hK
            rcases Nat.lt_or_ge j (W1 (pr i)).length with hj' | hj'
            · have hjz : (j : Int) < (W1 (pr i)).length := by omega
              obtain ⟨Bl, rfl, cj⟩ := CL2.out _ RA.out j hj'
              have hym : (W1 (pr i))[j] < m := LWM.out _ (List.getElem_mem hj')
              have TK : Hid ((W1 (pr i)).take (j + 1) = (W1 (pr i)).take j ++ [(W1 (pr i))[j]]) := List.take_succ_eq_append_getElem hj'
              generalize (W1 (pr i))[j] = y at *
              have hyz : (y : Int) < m := by omega
              have BC : Hid (Calls Try.prog 36 #[.pointer (some ⟨N, 0, none⟩), .int .i64 (y : Int)] wq fun e w' => ∃ (r : Nat) (up' : Nat → Int) (best' : Nat → Nat), e = .returned (.int .i64 (r : Int)) ∧ r < m ∧ TS w' N m bs cs fb us rows f0 (nI pr) (nI (pu top i x)) up' (nI best') ∧ Fo m pr (i - 1) (pu top i x) up' best' ∧ Bo pr (i - 1) (pu top i x) y r ∧ Kp (fun b => b = bs 4 ∨ b = bs 5) wq w') := bestOf_c wq N m bs cs fb us rows f0 (nI pr) (pu top i x) up2 best2 TA.out (by omega) pr E TR.out (i - 1) FA.out y hym
              go_wp2_with (go_at_call 36; refine BC.out.mono ?_; rintro e w5 ⟨r, up5, best5, rfl, hr5, ht5, hf5, hb5', hk5⟩; have MM := mvT (w := w) (bs := bs) ⟨hb3.2, hb4.2, hb5.2⟩ ZA.out RA.out KA.out (hk5.mono fun b hb => (hb.elim (fun h => Or.inr (Or.inl h)) (fun h => Or.inr (Or.inr h)) : b = bs 3 ∨ b = bs 4 ∨ b = bs 5)) (fun b hb => hb); have TB : Hid (TS w5 N m bs cs fb us rows f0 (nI pr) (nI (pu top i x)) up5 (nI best5)) := ht5; have FB : Hid (Fo m pr (i - 1) (pu top i x) up5 best5) := hf5; have OB : Hid (Bo pr (i - 1) (pu top i x) y r) := hb5'; have ZB : Hid (IZ w5 w.heap.size m (nI D2)) := MM.1; have RB : Hid (RR w5 (w.heap.size + 1) m ws1 W1) := MM.2.1; have KB : Hid (Kp (fun b => b = bs 3 ∨ b = bs 4 ∨ b = bs 5) w w5) := MM.2.2; have cb := MM.1.cell y hym; have fb5 := MM.1.frozen y; clear ht5 hf5 hb5' hk5 MM)
              go_roundw
              case rel =>
                have kd : Kp (fun b => b = w.heap.size) w5 (w5.setCell ⟨w.heap.size, y, none⟩ (.int .i64 (r : Int))) := Kp.set _ _ _ rfl
                refine ⟨j + 1, up5, best5, pu D2 y r, by omega, by go_num, fun z hz => ?_, fun z hz => ?_, fun z hz => ?_, FB.out, TB.out.kp kd fun b hb hts => by have := HB.out b hts; omega, by rw [← nI_pu]; exact ZB.out.set y hym _, RB.out.kp kd fun b hb hrr => by have := (RB.out.blk hrr).1; omega, KB.out.other kd fun b hb hlt => by omega⟩
                · by_cases e : z = y
                  · subst e; rw [pu_self]; exact OB.out
                  · rw [pu_ne _ _ e]
                    rw [TK.out] at hz
                    rcases List.mem_append.1 hz with h | h
                    · exact D1'.out z h
                    · simp at h; exact absurd h e
                · rw [TK.out] at hz
                  rw [pu_ne _ _ (fun e => hz (by simp [e]))]
                  exact D2'.out z fun h => hz (List.mem_append_left _ h)
                · by_cases e : z = y
                  · subst e; rw [pu_self]; exact hr5
                  · rw [pu_ne _ _ e]; exact D3'.out z hz
              case measure => simp [intOf]; omega
            · have hjz : ¬ (j : Int) < (W1 (pr i)).length := by omega
              obtain rfl : j = (W1 (pr i)).length := by omega
              have ID : Hid (OI m pr E (i - 1) (pu top i x) up2 best2 (pu W1 (pr i) []) D2) := STEP.out up2 best2 D2 FA.out (fun y hy => D1'.out y (by rw [List.take_of_length_le (Nat.le_refl _)]; exact hy)) (fun y hy => D2'.out y (by rw [List.take_of_length_le (Nat.le_refl _)]; exact hy)) D3'.out
              have cc := RA.out.cell _ hpm
              have fc := RA.out.frozen (pr i)
              have RC : Hid (RR (wq.setCell ⟨w.heap.size + 1, pr i, none⟩ (.slice none 0 0)) (w.heap.size + 1) m (pu ws1 (pr i) (.slice none 0 0)) (pu W1 (pr i) [])) := RA.out.clear _ hpm
              have MC := mvW HB.out TA.out ZA.out KA.out (Kp.set (F := fun b => b = w.heap.size + 1) wq (pr i) (.slice none 0 0) rfl) fun b hb => by omega
              have TC : Hid (TS (wq.setCell ⟨w.heap.size + 1, pr i, none⟩ (.slice none 0 0)) N m bs cs fb us rows f0 (nI pr) (nI (pu top i x)) up2 (nI best2)) := MC.1
              have ZC : Hid (IZ (wq.setCell ⟨w.heap.size + 1, pr i, none⟩ (.slice none 0 0)) w.heap.size m (nI D2)) := MC.2.1
              have KC : Hid (Kp (fun b => b = bs 3 ∨ b = bs 4 ∨ b = bs 5) w (wq.setCell ⟨w.heap.size + 1, pr i, none⟩ (.slice none 0 0))) := MC.2.2
              rw [EL.out] at cc
              clear MC
              go_wp2
              go_roundw
              case rel => exact ⟨i - 1, _, _, _, _, _, _, by go_num, by omega, ID.out, TC.out, ZC.out, RC.out, KC.out⟩
              case measure => simp [intOf]; omega
end Go.Proofs.Ytmmgdiecmokipaa
