/-
  Proved: what bestOf answers, and what it ties.
-/
import Derived.Test.YtmmgdiecmokipaaPt3
namespace Go.Proofs.Ytmmgdiecmokipaa
open Go.RowKit

section
variable {w w' : World} {N m : Nat} {bs cs : Nat → Nat} {fb : Nat} {us : Nat → Value} {rows : Nat → List Nat} {f0 f1 f3 f4 f5 : Nat → Int}

/-- The blocks of turns. -/
def TSB (N m : Nat) (bs : Nat → Nat) (fb : Nat) (us : Nat → Value) (b : Nat) : Prop := b = N ∨ (∃ i, i < 6 ∧ i ≠ 2 ∧ b = bs i) ∨ RRB fb m us b

theorem TS.kp {G : Nat → Prop} (h : TS w N m bs cs fb us rows f0 f1 f3 f4 f5) (k : Kp G w w') (hG : ∀ b, G b → ¬ TSB N m bs fb us b) : TS w' N m bs cs fb us rows f0 f1 f3 f4 f5 := by
  obtain ⟨h1, h2, h3, h4, h5, h6, h7, h8, h9⟩ := h
  have q : ∀ i, i < 6 → i ≠ 2 → ¬ G (bs i) := fun i hi h hg => hG _ hg (Or.inr (Or.inl ⟨i, hi, h, rfl⟩))
  exact ⟨k.at h1 fun hg => hG _ hg (Or.inl rfl), h2.kp k (q 0 (by decide) (by decide)), h3.kp k (q 1 (by decide) (by decide)), h4.kp k (q 3 (by decide) (by decide)), h5.kp k (q 4 (by decide) (by decide)), h6.kp k (q 5 (by decide) (by decide)), h7.kp k fun b hb hr => hG b hb (Or.inr (Or.inr hr)), h8, h9⟩

theorem TS.new (h : TS w N m bs cs fb us rows f0 f1 f3 f4 f5) (hb : Below w.heap.size w w') : TS w' N m bs cs fb us rows f0 f1 f3 f4 f5 :=
  h.kp (Kp.of_below (F := fun _ => False) hb) fun _ h => h.elim

theorem TS.lt (h : TS w N m bs cs fb us rows f0 f1 f3 f4 f5) {b : Nat} (hb : TSB N m bs fb us b) : N ≤ b ∧ b < w.heap.size := by
  have hfb := h.2.2.2.2.2.2.1.lt
  have h0 := h.2.2.2.2.2.2.2.1 0 (by decide) (by decide)
  rcases hb with rfl | ⟨i, hi, h2, rfl⟩ | hb
  · omega
  · have := h.2.2.2.2.2.2.2.1 i hi h2
    omega
  · have := h.2.2.2.2.2.2.1.blk hb
    omega

theorem TS.set (h : TS w N m bs cs fb us rows f0 f1 f3 f4 f5) {i : Nat} (hi : i < 6) (h2 : i ≠ 2) (t : Nat) (x : Value) : Kp (fun b => b = bs i) w (w.setCell ⟨bs i, t, none⟩ x) ∧ (∀ j, j < 6 → j ≠ 2 → j ≠ i → ¬ bs j = bs i) ∧ ¬ N = bs i ∧ ∀ b, RRB fb m us b → ¬ b = bs i := by
  refine ⟨Kp.set _ _ _ rfl, fun j hj h3 hji => h.2.2.2.2.2.2.2.2 j i hj hi h3 h2 hji, ?_, fun b hb e => ?_⟩
  · have := h.2.2.2.2.2.2.2.1 i hi h2
    omega
  · have := h.2.2.2.2.2.2.2.1 i hi h2
    have := (h.2.2.2.2.2.2.1.blk hb).1
    omega

theorem TS.set3 (h : TS w N m bs cs fb us rows f0 f1 f3 f4 f5) (t : Nat) (ht : t < m) (x : Int) : TS (w.setCell ⟨bs 3, t, none⟩ (.int .i64 x)) N m bs cs fb us rows f0 f1 (pu f3 t x) f4 f5 := by
  obtain ⟨k, q, n, r⟩ := h.set (i := 3) (by decide) (by decide) t (.int .i64 x)
  obtain ⟨h1, h2, h3, h4, h5, h6, h7, h8, h9⟩ := h
  exact ⟨k.at h1 n, h2.kp k (q 0 (by decide) (by decide) (by decide)), h3.kp k (q 1 (by decide) (by decide) (by decide)), h4.set t ht x, h5.kp k (q 4 (by decide) (by decide) (by decide)), h6.kp k (q 5 (by decide) (by decide) (by decide)), h7.kp k fun b hb hr => r b hr hb, h8, h9⟩
theorem TS.set4 (h : TS w N m bs cs fb us rows f0 f1 f3 f4 f5) (t : Nat) (ht : t < m) (x : Int) : TS (w.setCell ⟨bs 4, t, none⟩ (.int .i64 x)) N m bs cs fb us rows f0 f1 f3 (pu f4 t x) f5 := by
  obtain ⟨k, q, n, r⟩ := h.set (i := 4) (by decide) (by decide) t (.int .i64 x)
  obtain ⟨h1, h2, h3, h4, h5, h6, h7, h8, h9⟩ := h
  exact ⟨k.at h1 n, h2.kp k (q 0 (by decide) (by decide) (by decide)), h3.kp k (q 1 (by decide) (by decide) (by decide)), h4.kp k (q 3 (by decide) (by decide) (by decide)), h5.set t ht x, h6.kp k (q 5 (by decide) (by decide) (by decide)), h7.kp k fun b hb hr => r b hr hb, h8, h9⟩
theorem TS.set5 (h : TS w N m bs cs fb us rows f0 f1 f3 f4 f5) (t : Nat) (ht : t < m) (x : Int) : TS (w.setCell ⟨bs 5, t, none⟩ (.int .i64 x)) N m bs cs fb us rows f0 f1 f3 f4 (pu f5 t x) := by
  obtain ⟨k, q, n, r⟩ := h.set (i := 5) (by decide) (by decide) t (.int .i64 x)
  obtain ⟨h1, h2, h3, h4, h5, h6, h7, h8, h9⟩ := h
  exact ⟨k.at h1 n, h2.kp k (q 0 (by decide) (by decide) (by decide)), h3.kp k (q 1 (by decide) (by decide) (by decide)), h4.kp k (q 3 (by decide) (by decide) (by decide)), h5.kp k (q 4 (by decide) (by decide) (by decide)), h6.set t ht x, h7.kp k fun b hb hr => r b hr hb, h8, h9⟩
end

theorem popN {base : Nat} {l : List Nat} {x : Nat} {A : Option Addr} {C : Nat} {w : World} (h : ON base (l ++ [x]) (.slice A (l.length + 1) C) w) : ON base l (.slice A l.length C) w := by
  obtain ⟨h1, h2, h3⟩ := h
  refine ⟨h1, by rw [flat_len iN_len], ?_⟩
  rcases h3 with ⟨h4, h5⟩ | ⟨g, cap, cur, e1, e2, e3, e4, e5, e6, e7⟩
  · simp at h5
  · injection e1 with e1 e8 e9
    subst e1
    subst e9
    rw [List.length_append] at e4 e7
    refine Or.inr ⟨g, C, cur, rfl, e2, e3, by simp at e4; omega, e5, e6, ?_⟩
    have t1 : ((l ++ [x]).flatMap iN).take (l.length * 1) = l.flatMap iN := by
      rw [List.flatMap_append, List.take_append_of_le_length (by rw [flat_len iN_len]; exact Nat.le_refl _), List.take_of_length_le (by rw [flat_len iN_len]; exact Nat.le_refl _)]
    rw [← t1, ← e7, List.take_take]
    congr 1
    simp only [List.length_cons, List.length_nil]
    omega

/-- The length of a slice. -/
def lenV : Value → Nat
  | .slice _ n _ => n
  | _ => 0

def nI (f : Nat → Nat) : Nat → Int := fun t => (f t : Int)
theorem nI_pu (f : Nat → Nat) (t x : Nat) : pu (nI f) t (x : Int) = nI (pu f t x) := by
  funext k
  by_cases h : k = t
  · subst h; simp [pu, nI]
  · simp [pu, nI, h]

set_option maxRecDepth 20000 in
set_option maxHeartbeats 8000000 in
theorem bestOf_c (w : World) (N m : Nat) (bs cs : Nat → Nat) (fb : Nat) (us : Nat → Value) (rows : Nat → List Nat) (f0 f1 : Nat → Int) (top : Nat → Nat) (up : Nat → Int) (best : Nat → Nat) (hT : TS w N m bs cs fb us rows f0 f1 (nI top) up (nI best)) (hm : m ≤ 1000) (par : Nat → Nat) (E : Nat → Nat → Prop) (T : Tr m par E) (i : Nat) (hF : Fo m par i top up best) (j : Nat) (hj : j < m) :
    Calls Try.prog 36 #[.pointer (some ⟨N, 0, none⟩), .int .i64 (j : Int)] w fun e w' => ∃ (r : Nat) (up' : Nat → Int) (best' : Nat → Nat), e = .returned (.int .i64 (r : Int)) ∧ r < m ∧ TS w' N m bs cs fb us rows f0 f1 (nI top) up' (nI best') ∧ Fo m par i top up' best' ∧ Bo par i top j r ∧ Kp (fun b => b = bs 4 ∨ b = bs 5) w w' := by
  have mixed : Try.prog.follows Departure.mixedOrders = true := by kernel_rfl
  have TW : Hid (TS w N m bs cs fb us rows f0 f1 (nI top) up (nI best)) := hT
  have HF : Hid (Fo m par i top up best) := hF
  have TT : Hid (Tr m par E) := T
  have c4 : w.cell? ⟨N, 4, none⟩ = some (.slice (some ⟨bs 4, 0, none⟩) m (cs 4)) := hT.1.cell 4
  have cj := hT.2.2.2.2.1.cell j hj
  have hjz : (j : Int) < m := by omega
  rcases Nat.lt_or_ge i j with hij | hij
  · obtain ⟨a0, ea, ha1, -⟩ := hF.2 j hij hj
    rw [ea] at cj
    clear hT hF T
    go_enter Try.func36, Try.ntmps36
    go_wp2
    go_loopw [1, 5] (fun tv pv wr => ∃ (c : Nat) (l : List Nat), tv = .int .i64 (c : Int) ∧ i < c ∧ c < m ∧ Chn up l.reverse c ∧ (l ++ [c]).head? = some j ∧ l.length + c ≤ j ∧ (∀ t ∈ l, t < m) ∧ ON w.heap.size l pv wr ∧ Below w.heap.size w wr) (fun tv _ _ => (intOf tv).toNat)
    case atStart => exact ⟨j, [], rfl, hij, hj, trivial, rfl, by simp, fun t ht => by simp at ht, ON.empty (Nat.le_refl _), Below.refl _ _⟩
    case round =>
      obtain ⟨c, l, rfl, hic, hcm, hch, hhd, hlc, hlm, hO, hB⟩ := hrel
      have O1 : Hid (ON w.heap.size l _ wr) := hO
      have B1 : Hid (Below w.heap.size w wr) := hB
      have C1 : Hid (Chn up l.reverse c) := hch
      have H1 : Hid ((l ++ [c]).head? = some j) := hhd
      obtain ⟨Av, Cv, ev, -⟩ := hO.shape
      subst ev
      obtain ⟨a, ea, hac, -⟩ := HF.out.2 c hic hcm
      have hcz : (c : Int) < m := by omega
      have haz : (a : Int) < m := by omega
      have ham : a < m := by omega
      clear hch hhd hO hB
      obtain ⟨u, hu⟩ : ∃ u, up a = u := ⟨_, rfl⟩
      have SK : Hid (∀ wq, Below w.heap.size w wq → wq.cell? ⟨N, 4, none⟩ = some (.slice (some ⟨bs 4, 0, none⟩) m (cs 4)) ∧ wq.cell? ⟨bs 4, c, none⟩ = some (.int .i64 (a : Int)) ∧ wq.cell? ⟨bs 4, a, none⟩ = some (.int .i64 u)) := fun wq hb => by
        have t := TW.out.new hb
        have e1 := t.2.2.2.2.1.cell c hcm
        have e2 := t.2.2.2.2.1.cell a ham
        rw [ea] at e1
        rw [hu] at e2
        exact ⟨t.1.cell 4, e1, e2⟩
      rcases Nat.lt_or_ge i a with hia | hia
      · obtain ⟨a', ea', -⟩ := HF.out.2 a hia ham
        obtain rfl : u = (a' : Int) := by omega
        have hnn : (0 : Int) ≤ (a' : Int) := by omega
        clear hu
        go_wp2
        refine wp_region_N (fun w' => w'.cell? ⟨N, 4, none⟩ = some (.slice (some ⟨bs 4, 0, none⟩) m (cs 4)) ∧ w'.cell? ⟨bs 4, c, none⟩ = some (.int .i64 (a : Int)) ∧ w'.cell? ⟨bs 4, a, none⟩ = some (.int .i64 ((a' : Int)))) (fun _ => true) mixed (SK.out _ (below_next B1.out (below_drew _))) ?_
        intro S0
        refine wpAnyN_take (i := 0) (v := .pointer (some ⟨N, 0, none⟩)) rfl (by kernel_rfl) (by kernel_rfl) (by kernel_rfl) (by kernel_rfl) (fun _ _ _ h => h) (Or.inl ⟨by rfl, ?_⟩) S0 ?_
        · intro w' hS'
          obtain ⟨h1, h2, h3⟩ := hS'
          go_simp
        (try simp only [Act.put, List.getElem_toArray, List.getElem_cons_zero, List.setIfInBounds_toArray, List.set_cons_zero, List.set_cons_succ])
        refine wpAnyN_take (i := 1) (v := .pointer (some ⟨N, 0, none⟩)) rfl (by kernel_rfl) (by kernel_rfl) (by kernel_rfl) (by kernel_rfl) (fun _ _ _ h => h) (Or.inl ⟨by rfl, ?_⟩) S0 ?_
        · intro w' hS'
          obtain ⟨h1, h2, h3⟩ := hS'
          go_simp
        (try simp only [Act.put, List.getElem_toArray, List.getElem_cons_succ, List.getElem_cons_zero, List.setIfInBounds_toArray, List.set_cons_zero, List.set_cons_succ])
        refine wpAnyN_take (i := 2) (v := .pointer (some ⟨N, 4, none⟩)) rfl (by kernel_rfl) (by kernel_rfl) (by kernel_rfl) (by kernel_rfl) (fun _ _ _ h => h) (Or.inl ⟨by rfl, ?_⟩) S0 ?_
        · intro w' hS'
          obtain ⟨h1, h2, h3⟩ := hS'
          go_simp
        (try simp only [Act.put, List.getElem_toArray, List.getElem_cons_succ, List.getElem_cons_zero, List.setIfInBounds_toArray, List.set_cons_zero, List.set_cons_succ])
        refine wpAnyN_take (i := 3) (v := .slice (some ⟨bs 4, 0, none⟩) m (cs 4)) rfl (by kernel_rfl) (by kernel_rfl) (by kernel_rfl) (by kernel_rfl) (fun _ _ _ h => h) (Or.inl ⟨by rfl, ?_⟩) S0 ?_
        · intro w' hS'
          obtain ⟨h1, h2, h3⟩ := hS'
          go_simp
        (try simp only [Act.put, List.getElem_toArray, List.getElem_cons_succ, List.getElem_cons_zero, List.setIfInBounds_toArray, List.set_cons_zero, List.set_cons_succ])
        refine wpAnyN_take (i := 4) (v := .pointer (some ⟨N, 0, none⟩)) rfl (by kernel_rfl) (by kernel_rfl) (by kernel_rfl) (by kernel_rfl) (fun _ _ _ h => h) (Or.inl ⟨by rfl, ?_⟩) S0 ?_
        · intro w' hS'
          obtain ⟨h1, h2, h3⟩ := hS'
          go_simp
        (try simp only [Act.put, List.getElem_toArray, List.getElem_cons_succ, List.getElem_cons_zero, List.setIfInBounds_toArray, List.set_cons_zero, List.set_cons_succ])
        refine wpAnyN_take (i := 5) (v := .pointer (some ⟨N, 0, none⟩)) rfl (by kernel_rfl) (by kernel_rfl) (by kernel_rfl) (by kernel_rfl) (fun _ _ _ h => h) (Or.inl ⟨by rfl, ?_⟩) S0 ?_
        · intro w' hS'
          obtain ⟨h1, h2, h3⟩ := hS'
          go_simp
        (try simp only [Act.put, List.getElem_toArray, List.getElem_cons_succ, List.getElem_cons_zero, List.setIfInBounds_toArray, List.set_cons_zero, List.set_cons_succ])
        refine wpAnyN_take (i := 6) (v := .pointer (some ⟨N, 4, none⟩)) rfl (by kernel_rfl) (by kernel_rfl) (by kernel_rfl) (by kernel_rfl) (fun _ _ _ h => h) (Or.inl ⟨by rfl, ?_⟩) S0 ?_
        · intro w' hS'
          obtain ⟨h1, h2, h3⟩ := hS'
          go_simp
        (try simp only [Act.put, List.getElem_toArray, List.getElem_cons_succ, List.getElem_cons_zero, List.setIfInBounds_toArray, List.set_cons_zero, List.set_cons_succ])
        refine wpAnyN_take (i := 7) (v := .slice (some ⟨bs 4, 0, none⟩) m (cs 4)) rfl (by kernel_rfl) (by kernel_rfl) (by kernel_rfl) (by kernel_rfl) (fun _ _ _ h => h) (Or.inl ⟨by rfl, ?_⟩) S0 ?_
        · intro w' hS'
          obtain ⟨h1, h2, h3⟩ := hS'
          go_simp
        (try simp only [Act.put, List.getElem_toArray, List.getElem_cons_succ, List.getElem_cons_zero, List.setIfInBounds_toArray, List.set_cons_zero, List.set_cons_succ])
        refine wpAnyN_take (i := 8) (v := .int .i64 (c : Int)) rfl (by kernel_rfl) (by kernel_rfl) (by kernel_rfl) (by kernel_rfl) (fun _ _ _ h => h) (Or.inl ⟨by rfl, ?_⟩) S0 ?_
        · intro w' hS'
          obtain ⟨h1, h2, h3⟩ := hS'
          go_simp
        (try simp only [Act.put, List.getElem_toArray, List.getElem_cons_succ, List.getElem_cons_zero, List.setIfInBounds_toArray, List.set_cons_zero, List.set_cons_succ])
        refine wpAnyN_take (i := 9) (v := .pointer (some ⟨bs 4, c, none⟩)) rfl (by kernel_rfl) (by kernel_rfl) (by kernel_rfl) (by kernel_rfl) (fun _ _ _ h => h) (Or.inl ⟨by rfl, ?_⟩) S0 ?_
        · intro w' hS'
          obtain ⟨h1, h2, h3⟩ := hS'
          go_simp
        (try simp only [Act.put, List.getElem_toArray, List.getElem_cons_succ, List.getElem_cons_zero, List.setIfInBounds_toArray, List.set_cons_zero, List.set_cons_succ])
        refine wpAnyN_take (i := 10) (v := .int .i64 (a : Int)) rfl (by kernel_rfl) (by kernel_rfl) (by kernel_rfl) (by kernel_rfl) (fun _ _ _ h => h) (Or.inl ⟨by rfl, ?_⟩) S0 ?_
        · intro w' hS'
          obtain ⟨h1, h2, h3⟩ := hS'
          go_simp
        (try simp only [Act.put, List.getElem_toArray, List.getElem_cons_succ, List.getElem_cons_zero, List.setIfInBounds_toArray, List.set_cons_zero, List.set_cons_succ])
        refine wpAnyN_take (i := 11) (v := .pointer (some ⟨bs 4, a, none⟩)) rfl (by kernel_rfl) (by kernel_rfl) (by kernel_rfl) (by kernel_rfl) (fun _ _ _ h => h) (Or.inl ⟨by rfl, ?_⟩) S0 ?_
        · intro w' hS'
          obtain ⟨h1, h2, h3⟩ := hS'
          go_simp
        (try simp only [Act.put, List.getElem_toArray, List.getElem_cons_succ, List.getElem_cons_zero, List.setIfInBounds_toArray, List.set_cons_zero, List.set_cons_succ])
        refine wpAnyN_take (i := 12) (v := .int .i64 ((a' : Int))) rfl (by kernel_rfl) (by kernel_rfl) (by kernel_rfl) (by kernel_rfl) (fun _ _ _ h => h) (Or.inl ⟨by rfl, ?_⟩) S0 ?_
        · intro w' hS'
          obtain ⟨h1, h2, h3⟩ := hS'
          go_simp
        (try simp only [Act.put, List.getElem_toArray, List.getElem_cons_succ, List.getElem_cons_zero, List.setIfInBounds_toArray, List.set_cons_zero, List.set_cons_succ])
        refine wpAnyN_take (i := 13) (v := .bool true) rfl (by kernel_rfl) (by kernel_rfl) (by kernel_rfl) (by kernel_rfl) (fun _ _ _ h => h) (Or.inl ⟨by rfl, ?_⟩) S0 ?_
        · intro w' hS'
          obtain ⟨h1, h2, h3⟩ := hS'
          go_simp
        (try simp only [Act.put, List.getElem_toArray, List.getElem_cons_succ, List.getElem_cons_zero, List.setIfInBounds_toArray, List.set_cons_zero, List.set_cons_succ])
        refine wpAnyN_done (by kernel_rfl) ?_ _
        have O2 : Hid (ON w.heap.size l (.slice Av l.length Cv) (wr.drew.alloc (.cells (iN c).toArray 3))) := O1.out.below (below_next (below_drew _) (below_alloc _ _))
        clear S0
        have hll : l.length ≤ 1000 := by omega
        have S1 := SK.out
        go_wp2_with (at_builtin; refine ON.app _ rfl _ _ rfl _ rfl c O2.out ⟨wr.heap.size, 0, none⟩ 1 rfl (fun j u hj => cells_new _ (iN c) 3 j u hj) (by omega) ?_; intro v5 w5 ho hb5 hk5 hv5; obtain ⟨A5, C5, rfl, -⟩ := ho.shape; have O5 : Hid (ON w.heap.size (l ++ [c]) (.slice A5 (l ++ [c]).length C5) w5) := ho; have B5 : Hid (Below w.heap.size w w5) := (below_next B1.out (below_next (below_drew _) (below_alloc _ _))).trans hb5; have c5 := (SK.out w5 B5.out).1; have d5 := (SK.out w5 B5.out).2.1; clear ho hb5 hk5 hv5)
        go_roundw
        case rel => exact ⟨a, l ++ [c], rfl, hia, ham, by rw [List.reverse_append]; exact ⟨ea, hac, C1.out⟩, by rw [List.head?_append, H1.out]; rfl, by rw [List.length_append]; simp; omega, fun t ht => by rcases List.mem_append.1 ht with h | h; exact hlm t h; simp at h; omega, by have := O5.out; rw [List.length_append] at this; exact this, B5.out⟩
        case measure => simp [intOf]; omega
      · obtain rfl : u = -1 := by rw [← hu]; exact (HF.out.1 a hia).1
        clear hu
        go_wp2
        refine wp_region_N (fun w' => w'.cell? ⟨N, 4, none⟩ = some (.slice (some ⟨bs 4, 0, none⟩) m (cs 4)) ∧ w'.cell? ⟨bs 4, c, none⟩ = some (.int .i64 (a : Int)) ∧ w'.cell? ⟨bs 4, a, none⟩ = some (.int .i64 ((-1 : Int)))) (fun _ => true) mixed (SK.out _ (below_next B1.out (below_drew _))) ?_
        intro S0
        refine wpAnyN_take (i := 0) (v := .pointer (some ⟨N, 0, none⟩)) rfl (by kernel_rfl) (by kernel_rfl) (by kernel_rfl) (by kernel_rfl) (fun _ _ _ h => h) (Or.inl ⟨by rfl, ?_⟩) S0 ?_
        · intro w' hS'
          obtain ⟨h1, h2, h3⟩ := hS'
          go_simp
        (try simp only [Act.put, List.getElem_toArray, List.getElem_cons_zero, List.setIfInBounds_toArray, List.set_cons_zero, List.set_cons_succ])
        refine wpAnyN_take (i := 1) (v := .pointer (some ⟨N, 0, none⟩)) rfl (by kernel_rfl) (by kernel_rfl) (by kernel_rfl) (by kernel_rfl) (fun _ _ _ h => h) (Or.inl ⟨by rfl, ?_⟩) S0 ?_
        · intro w' hS'
          obtain ⟨h1, h2, h3⟩ := hS'
          go_simp
        (try simp only [Act.put, List.getElem_toArray, List.getElem_cons_succ, List.getElem_cons_zero, List.setIfInBounds_toArray, List.set_cons_zero, List.set_cons_succ])
        refine wpAnyN_take (i := 2) (v := .pointer (some ⟨N, 4, none⟩)) rfl (by kernel_rfl) (by kernel_rfl) (by kernel_rfl) (by kernel_rfl) (fun _ _ _ h => h) (Or.inl ⟨by rfl, ?_⟩) S0 ?_
        · intro w' hS'
          obtain ⟨h1, h2, h3⟩ := hS'
          go_simp
        (try simp only [Act.put, List.getElem_toArray, List.getElem_cons_succ, List.getElem_cons_zero, List.setIfInBounds_toArray, List.set_cons_zero, List.set_cons_succ])
        refine wpAnyN_take (i := 3) (v := .slice (some ⟨bs 4, 0, none⟩) m (cs 4)) rfl (by kernel_rfl) (by kernel_rfl) (by kernel_rfl) (by kernel_rfl) (fun _ _ _ h => h) (Or.inl ⟨by rfl, ?_⟩) S0 ?_
        · intro w' hS'
          obtain ⟨h1, h2, h3⟩ := hS'
          go_simp
        (try simp only [Act.put, List.getElem_toArray, List.getElem_cons_succ, List.getElem_cons_zero, List.setIfInBounds_toArray, List.set_cons_zero, List.set_cons_succ])
        refine wpAnyN_take (i := 4) (v := .pointer (some ⟨N, 0, none⟩)) rfl (by kernel_rfl) (by kernel_rfl) (by kernel_rfl) (by kernel_rfl) (fun _ _ _ h => h) (Or.inl ⟨by rfl, ?_⟩) S0 ?_
        · intro w' hS'
          obtain ⟨h1, h2, h3⟩ := hS'
          go_simp
        (try simp only [Act.put, List.getElem_toArray, List.getElem_cons_succ, List.getElem_cons_zero, List.setIfInBounds_toArray, List.set_cons_zero, List.set_cons_succ])
        refine wpAnyN_take (i := 5) (v := .pointer (some ⟨N, 0, none⟩)) rfl (by kernel_rfl) (by kernel_rfl) (by kernel_rfl) (by kernel_rfl) (fun _ _ _ h => h) (Or.inl ⟨by rfl, ?_⟩) S0 ?_
        · intro w' hS'
          obtain ⟨h1, h2, h3⟩ := hS'
          go_simp
        (try simp only [Act.put, List.getElem_toArray, List.getElem_cons_succ, List.getElem_cons_zero, List.setIfInBounds_toArray, List.set_cons_zero, List.set_cons_succ])
        refine wpAnyN_take (i := 6) (v := .pointer (some ⟨N, 4, none⟩)) rfl (by kernel_rfl) (by kernel_rfl) (by kernel_rfl) (by kernel_rfl) (fun _ _ _ h => h) (Or.inl ⟨by rfl, ?_⟩) S0 ?_
        · intro w' hS'
          obtain ⟨h1, h2, h3⟩ := hS'
          go_simp
        (try simp only [Act.put, List.getElem_toArray, List.getElem_cons_succ, List.getElem_cons_zero, List.setIfInBounds_toArray, List.set_cons_zero, List.set_cons_succ])
        refine wpAnyN_take (i := 7) (v := .slice (some ⟨bs 4, 0, none⟩) m (cs 4)) rfl (by kernel_rfl) (by kernel_rfl) (by kernel_rfl) (by kernel_rfl) (fun _ _ _ h => h) (Or.inl ⟨by rfl, ?_⟩) S0 ?_
        · intro w' hS'
          obtain ⟨h1, h2, h3⟩ := hS'
          go_simp
        (try simp only [Act.put, List.getElem_toArray, List.getElem_cons_succ, List.getElem_cons_zero, List.setIfInBounds_toArray, List.set_cons_zero, List.set_cons_succ])
        refine wpAnyN_take (i := 8) (v := .int .i64 (c : Int)) rfl (by kernel_rfl) (by kernel_rfl) (by kernel_rfl) (by kernel_rfl) (fun _ _ _ h => h) (Or.inl ⟨by rfl, ?_⟩) S0 ?_
        · intro w' hS'
          obtain ⟨h1, h2, h3⟩ := hS'
          go_simp
        (try simp only [Act.put, List.getElem_toArray, List.getElem_cons_succ, List.getElem_cons_zero, List.setIfInBounds_toArray, List.set_cons_zero, List.set_cons_succ])
        refine wpAnyN_take (i := 9) (v := .pointer (some ⟨bs 4, c, none⟩)) rfl (by kernel_rfl) (by kernel_rfl) (by kernel_rfl) (by kernel_rfl) (fun _ _ _ h => h) (Or.inl ⟨by rfl, ?_⟩) S0 ?_
        · intro w' hS'
          obtain ⟨h1, h2, h3⟩ := hS'
          go_simp
        (try simp only [Act.put, List.getElem_toArray, List.getElem_cons_succ, List.getElem_cons_zero, List.setIfInBounds_toArray, List.set_cons_zero, List.set_cons_succ])
        refine wpAnyN_take (i := 10) (v := .int .i64 (a : Int)) rfl (by kernel_rfl) (by kernel_rfl) (by kernel_rfl) (by kernel_rfl) (fun _ _ _ h => h) (Or.inl ⟨by rfl, ?_⟩) S0 ?_
        · intro w' hS'
          obtain ⟨h1, h2, h3⟩ := hS'
          go_simp
        (try simp only [Act.put, List.getElem_toArray, List.getElem_cons_succ, List.getElem_cons_zero, List.setIfInBounds_toArray, List.set_cons_zero, List.set_cons_succ])
        refine wpAnyN_take (i := 11) (v := .pointer (some ⟨bs 4, a, none⟩)) rfl (by kernel_rfl) (by kernel_rfl) (by kernel_rfl) (by kernel_rfl) (fun _ _ _ h => h) (Or.inl ⟨by rfl, ?_⟩) S0 ?_
        · intro w' hS'
          obtain ⟨h1, h2, h3⟩ := hS'
          go_simp
        (try simp only [Act.put, List.getElem_toArray, List.getElem_cons_succ, List.getElem_cons_zero, List.setIfInBounds_toArray, List.set_cons_zero, List.set_cons_succ])
        refine wpAnyN_take (i := 12) (v := .int .i64 ((-1 : Int))) rfl (by kernel_rfl) (by kernel_rfl) (by kernel_rfl) (by kernel_rfl) (fun _ _ _ h => h) (Or.inl ⟨by rfl, ?_⟩) S0 ?_
        · intro w' hS'
          obtain ⟨h1, h2, h3⟩ := hS'
          go_simp
        (try simp only [Act.put, List.getElem_toArray, List.getElem_cons_succ, List.getElem_cons_zero, List.setIfInBounds_toArray, List.set_cons_zero, List.set_cons_succ])
        refine wpAnyN_take (i := 13) (v := .bool false) rfl (by kernel_rfl) (by kernel_rfl) (by kernel_rfl) (by kernel_rfl) (fun _ _ _ h => h) (Or.inl ⟨by rfl, ?_⟩) S0 ?_
        · intro w' hS'
          obtain ⟨h1, h2, h3⟩ := hS'
          go_simp
        (try simp only [Act.put, List.getElem_toArray, List.getElem_cons_succ, List.getElem_cons_zero, List.setIfInBounds_toArray, List.set_cons_zero, List.set_cons_succ])
        refine wpAnyN_done (by kernel_rfl) ?_ _
        clear S0
        have T2 : Hid (TS wr.drew N m bs cs fb us rows f0 f1 (nI top) up (nI best)) := TW.out.new (below_next B1.out (below_drew _))
        have K2 : Hid (Kp (fun b => b = bs 4 ∨ b = bs 5) w wr.drew) := Kp.of_below (below_next B1.out (below_drew _))
        have O2 : Hid (ON w.heap.size l (.slice Av l.length Cv) wr.drew) := O1.out.below (below_drew _)
        have hll : l.length ≤ 1000 := by omega
        clear SK O1 B1
        generalize wr.drew = w2 at *
        go_wp2
        go_loopw [1, 5] (fun tv pv wz => ∃ (c : Nat) (l : List Nat) (up' : Nat → Int) (bt' : Nat → Nat), tv = .int .i64 (c : Int) ∧ i < c ∧ c < m ∧ up' c = (a : Int) ∧ Chn up' l.reverse c ∧ (l ++ [c]).head? = some j ∧ l.length ≤ 1000 ∧ (∀ t ∈ l, t < m) ∧ ON w.heap.size l pv wz ∧ TS wz N m bs cs fb us rows f0 f1 (nI top) up' (nI bt') ∧ Fo m par i top up' bt' ∧ Kp (fun b => b = bs 4 ∨ b = bs 5) w wz) (fun _ pv _ => lenV pv)
        case atStart => exact ⟨c, l, up, best, rfl, hic, hcm, ea, C1.out, H1.out, hll, hlm, O2.out, T2.out, HF.out, K2.out⟩
        case round =>
          rename World => wz
          obtain ⟨c, l, up', bt', rfl, hic, hcm, ea2, hch, hhd, hll, hlm, hO, hTS, hFo, hK⟩ := hrel
          have O3 : Hid (ON w.heap.size l _ wz) := hO
          have T3 : Hid (TS wz N m bs cs fb us rows f0 f1 (nI top) up' (nI bt')) := hTS
          have F3 : Hid (Fo m par i top up' bt') := hFo
          have K3 : Hid (Kp (fun b => b = bs 4 ∨ b = bs 5) w wz) := hK
          have C3 : Hid (Chn up' l.reverse c) := hch
          have H3 : Hid ((l ++ [c]).head? = some j) := hhd
          have HM : Hid (∀ t ∈ l, t < m) := hlm
          obtain ⟨Av, Cv, ev, hcell⟩ := hO.shape
          subst ev
          have hcz : (c : Int) < m := by omega
          have b4w := (TW.out.lt (b := bs 4) (Or.inr (Or.inl ⟨4, by decide, by decide, rfl⟩))).2
          have b5w := (TW.out.lt (b := bs 5) (Or.inr (Or.inl ⟨5, by decide, by decide, rfl⟩))).2
          clear hch hhd hO hTS hFo hK hlm T2 K2 O2
          rcases List.eq_nil_or_concat l with rfl | ⟨l', t, rfl⟩
          · obtain rfl : c = j := by have := H3.out; simpa using this
            have e5 : wz.cell? ⟨N, 5, none⟩ = some (.slice (some ⟨bs 5, 0, none⟩) m (cs 5)) := T3.out.1.cell 5
            have e6 : wz.cell? ⟨bs 5, c, none⟩ = some (.int .i64 (bt' c : Int)) := T3.out.2.2.2.2.2.1.cell c hcm
            clear hcell
            go_wp2
            go_ret
            obtain ⟨q1, q2, q3⟩ := F3.out.least hic hcm ea2 hia
            exact ⟨bt' c, up', bt', rfl, by have := TT.out.le q1 hcm; omega, T3.out, F3.out, ⟨fun h => by omega, fun _ => ⟨q1, q2, q3⟩⟩, K3.out⟩
          · rw [List.concat_eq_append] at *
            have C4 := C3.out
            rw [List.reverse_append] at C4
            obtain ⟨et, hct, hch'⟩ : up' t = (c : Int) ∧ c < t ∧ Chn up' l'.reverse t := C4
            have htm := HM.out t (by simp)
            have htz : (t : Int) < m := by omega
            obtain ⟨D, rfl, -, -, hDC, hce⟩ := hcell (by simp)
            have ct := hce l'.length (by simp)
            rw [show (l' ++ [t])[l'.length]'(by simp) = t by simp] at ct
            have O4 := O3.out
            rw [List.length_append] at hll
            have O5 : Hid (ON w.heap.size l' (.slice (some ⟨D, 0, none⟩) l'.length Cv) wz) := popN (by have := O3.out; rw [List.length_append] at this; exact this)
            have e4 : wz.cell? ⟨N, 4, none⟩ = some (.slice (some ⟨bs 4, 0, none⟩) m (cs 4)) := T3.out.1.cell 4
            have e4t := T3.out.2.2.2.2.1.cell t htm
            rw [et] at e4t
            obtain ⟨_, _, _, _, _, qc1, _⟩ := F3.out.2 c hic hcm
            obtain ⟨_, _, _, _, _, qt1, _⟩ := F3.out.2 t (by omega) htm
            have hbcm : bt' c < m := by have := TT.out.le qc1 hcm; omega
            have hbtm : bt' t < m := by have := TT.out.le qt1 htm; omega
            have hbcz : (bt' c : Int) < m := by omega
            have hbtz : (bt' t : Int) < m := by omega
            have FT : Hid (Fo m par i top (pu up' t (a : Int)) (pu bt' t (if top (bt' c) < top (bt' t) then bt' c else bt' t))) := F3.out.tie TT.out (by omega) htm et hic ea2
            have CT : Hid (Chn (pu up' t (a : Int)) l'.reverse t) := Chn.pu hch' (Nat.le_refl _)
            have HT2 : Hid ((l' ++ [t]).head? = some j) := (by have := H3.out; rw [List.head?_append] at this; cases hq : (l' ++ [t]).head? with
              | none => simp at hq
              | some v => rw [hq] at this; simpa using this : (l' ++ [t]).head? = some j)
            have HM2 : Hid (∀ x ∈ l', x < m) := fun x hx => HM.out x (by simp [hx])
            rw [List.length_append] at *
            have SK2 : Hid (∀ wq, Below wz.heap.size wz wq → wq.cell? ⟨N, 3, none⟩ = some (.slice (some ⟨bs 3, 0, none⟩) m (cs 3)) ∧ wq.cell? ⟨N, 5, none⟩ = some (.slice (some ⟨bs 5, 0, none⟩) m (cs 5)) ∧ wq.cell? ⟨bs 5, c, none⟩ = some (.int .i64 (bt' c : Int)) ∧ wq.cell? ⟨bs 3, bt' c, none⟩ = some (.int .i64 (top (bt' c) : Int)) ∧ wq.cell? ⟨bs 5, t, none⟩ = some (.int .i64 (bt' t : Int)) ∧ wq.cell? ⟨bs 3, bt' t, none⟩ = some (.int .i64 (top (bt' t) : Int))) := fun wq hb => by
              have q := T3.out.new hb
              exact ⟨q.1.cell 3, q.1.cell 5, q.2.2.2.2.2.1.cell c hcm, q.2.2.2.1.cell _ hbcm, q.2.2.2.2.2.1.cell t htm, q.2.2.2.1.cell _ hbtm⟩
            have SK3 : Hid (∀ wq, Below wz.drew.heap.size wz.drew wq → wq.cell? ⟨N, 5, none⟩ = some (.slice (some ⟨bs 5, 0, none⟩) m (cs 5)) ∧ wq.cell? ⟨bs 5, c, none⟩ = some (.int .i64 (bt' c : Int))) := fun wq hb => ⟨(SK2.out wq (below_next (below_drew _) hb)).2.1, (SK2.out wq (below_next (below_drew _) hb)).2.2.1⟩
            have T4 : Hid (TS wz.drew N m bs cs fb us rows f0 f1 (nI top) up' (nI bt')) := T3.out.new (below_drew _)
            have K4 : Hid (Kp (fun b => b = bs 4 ∨ b = bs 5) w wz.drew) := K3.out.drew
            have O6 : Hid (ON w.heap.size l' (.slice (some ⟨D, 0, none⟩) l'.length Cv) wz.drew) := O5.out.below (below_drew _)
            generalize hbc : bt' c = bc at *
            generalize hbt : bt' t = bt at *
            generalize hlp : l'.length = p at *
            clear hcell hce O4 hch' C3 H3 HM O3 O5
            by_cases hlt : top bc < top bt
            · have hltz : (top bc : Int) < (top bt : Int) := by omega
              rw [if_pos hlt] at FT
              go_wp2
              refine wp_region_N (fun w' => w'.cell? ⟨N, 3, none⟩ = some (.slice (some ⟨bs 3, 0, none⟩) m (cs 3)) ∧ w'.cell? ⟨N, 5, none⟩ = some (.slice (some ⟨bs 5, 0, none⟩) m (cs 5)) ∧ w'.cell? ⟨bs 5, c, none⟩ = some (.int .i64 (bc : Int)) ∧ w'.cell? ⟨bs 3, bc, none⟩ = some (.int .i64 (top bc : Int)) ∧ w'.cell? ⟨bs 5, t, none⟩ = some (.int .i64 (bt : Int)) ∧ w'.cell? ⟨bs 3, bt, none⟩ = some (.int .i64 (top bt : Int))) (fun _ => true) mixed (SK2.out _ (below_drew _)) ?_
              intro S0
              refine wpAnyN_take (i := 0) (v := .pointer (some ⟨N, 0, none⟩)) rfl (by kernel_rfl) (by kernel_rfl) (by kernel_rfl) (by kernel_rfl) (fun _ _ _ h => h) (Or.inl ⟨by rfl, ?_⟩) S0 ?_
              · intro w' hS'
                obtain ⟨h1, h2, h3, h4, h5, h6⟩ := hS'
                go_simp
              (try simp only [Act.put, List.getElem_toArray, List.getElem_cons_zero, List.setIfInBounds_toArray, List.set_cons_zero, List.set_cons_succ])
              refine wpAnyN_take (i := 1) (v := .pointer (some ⟨N, 0, none⟩)) rfl (by kernel_rfl) (by kernel_rfl) (by kernel_rfl) (by kernel_rfl) (fun _ _ _ h => h) (Or.inl ⟨by rfl, ?_⟩) S0 ?_
              · intro w' hS'
                obtain ⟨h1, h2, h3, h4, h5, h6⟩ := hS'
                go_simp
              (try simp only [Act.put, List.getElem_toArray, List.getElem_cons_succ, List.getElem_cons_zero, List.setIfInBounds_toArray, List.set_cons_zero, List.set_cons_succ])
              refine wpAnyN_take (i := 2) (v := .pointer (some ⟨N, 3, none⟩)) rfl (by kernel_rfl) (by kernel_rfl) (by kernel_rfl) (by kernel_rfl) (fun _ _ _ h => h) (Or.inl ⟨by rfl, ?_⟩) S0 ?_
              · intro w' hS'
                obtain ⟨h1, h2, h3, h4, h5, h6⟩ := hS'
                go_simp
              (try simp only [Act.put, List.getElem_toArray, List.getElem_cons_succ, List.getElem_cons_zero, List.setIfInBounds_toArray, List.set_cons_zero, List.set_cons_succ])
              refine wpAnyN_take (i := 3) (v := .slice (some ⟨bs 3, 0, none⟩) m (cs 3)) rfl (by kernel_rfl) (by kernel_rfl) (by kernel_rfl) (by kernel_rfl) (fun _ _ _ h => h) (Or.inl ⟨by rfl, ?_⟩) S0 ?_
              · intro w' hS'
                obtain ⟨h1, h2, h3, h4, h5, h6⟩ := hS'
                go_simp
              (try simp only [Act.put, List.getElem_toArray, List.getElem_cons_succ, List.getElem_cons_zero, List.setIfInBounds_toArray, List.set_cons_zero, List.set_cons_succ])
              refine wpAnyN_take (i := 4) (v := .pointer (some ⟨N, 0, none⟩)) rfl (by kernel_rfl) (by kernel_rfl) (by kernel_rfl) (by kernel_rfl) (fun _ _ _ h => h) (Or.inl ⟨by rfl, ?_⟩) S0 ?_
              · intro w' hS'
                obtain ⟨h1, h2, h3, h4, h5, h6⟩ := hS'
                go_simp
              (try simp only [Act.put, List.getElem_toArray, List.getElem_cons_succ, List.getElem_cons_zero, List.setIfInBounds_toArray, List.set_cons_zero, List.set_cons_succ])
              refine wpAnyN_take (i := 5) (v := .pointer (some ⟨N, 0, none⟩)) rfl (by kernel_rfl) (by kernel_rfl) (by kernel_rfl) (by kernel_rfl) (fun _ _ _ h => h) (Or.inl ⟨by rfl, ?_⟩) S0 ?_
              · intro w' hS'
                obtain ⟨h1, h2, h3, h4, h5, h6⟩ := hS'
                go_simp
              (try simp only [Act.put, List.getElem_toArray, List.getElem_cons_succ, List.getElem_cons_zero, List.setIfInBounds_toArray, List.set_cons_zero, List.set_cons_succ])
              refine wpAnyN_take (i := 6) (v := .pointer (some ⟨N, 5, none⟩)) rfl (by kernel_rfl) (by kernel_rfl) (by kernel_rfl) (by kernel_rfl) (fun _ _ _ h => h) (Or.inl ⟨by rfl, ?_⟩) S0 ?_
              · intro w' hS'
                obtain ⟨h1, h2, h3, h4, h5, h6⟩ := hS'
                go_simp
              (try simp only [Act.put, List.getElem_toArray, List.getElem_cons_succ, List.getElem_cons_zero, List.setIfInBounds_toArray, List.set_cons_zero, List.set_cons_succ])
              refine wpAnyN_take (i := 7) (v := .slice (some ⟨bs 5, 0, none⟩) m (cs 5)) rfl (by kernel_rfl) (by kernel_rfl) (by kernel_rfl) (by kernel_rfl) (fun _ _ _ h => h) (Or.inl ⟨by rfl, ?_⟩) S0 ?_
              · intro w' hS'
                obtain ⟨h1, h2, h3, h4, h5, h6⟩ := hS'
                go_simp
              (try simp only [Act.put, List.getElem_toArray, List.getElem_cons_succ, List.getElem_cons_zero, List.setIfInBounds_toArray, List.set_cons_zero, List.set_cons_succ])
              refine wpAnyN_take (i := 8) (v := .int .i64 (c : Int)) rfl (by kernel_rfl) (by kernel_rfl) (by kernel_rfl) (by kernel_rfl) (fun _ _ _ h => h) (Or.inl ⟨by rfl, ?_⟩) S0 ?_
              · intro w' hS'
                obtain ⟨h1, h2, h3, h4, h5, h6⟩ := hS'
                go_simp
              (try simp only [Act.put, List.getElem_toArray, List.getElem_cons_succ, List.getElem_cons_zero, List.setIfInBounds_toArray, List.set_cons_zero, List.set_cons_succ])
              refine wpAnyN_take (i := 9) (v := .pointer (some ⟨bs 5, c, none⟩)) rfl (by kernel_rfl) (by kernel_rfl) (by kernel_rfl) (by kernel_rfl) (fun _ _ _ h => h) (Or.inl ⟨by rfl, ?_⟩) S0 ?_
              · intro w' hS'
                obtain ⟨h1, h2, h3, h4, h5, h6⟩ := hS'
                go_simp
              (try simp only [Act.put, List.getElem_toArray, List.getElem_cons_succ, List.getElem_cons_zero, List.setIfInBounds_toArray, List.set_cons_zero, List.set_cons_succ])
              refine wpAnyN_take (i := 10) (v := .int .i64 (bc : Int)) rfl (by kernel_rfl) (by kernel_rfl) (by kernel_rfl) (by kernel_rfl) (fun _ _ _ h => h) (Or.inl ⟨by rfl, ?_⟩) S0 ?_
              · intro w' hS'
                obtain ⟨h1, h2, h3, h4, h5, h6⟩ := hS'
                go_simp
              (try simp only [Act.put, List.getElem_toArray, List.getElem_cons_succ, List.getElem_cons_zero, List.setIfInBounds_toArray, List.set_cons_zero, List.set_cons_succ])
              refine wpAnyN_take (i := 11) (v := .pointer (some ⟨bs 3, bc, none⟩)) rfl (by kernel_rfl) (by kernel_rfl) (by kernel_rfl) (by kernel_rfl) (fun _ _ _ h => h) (Or.inl ⟨by rfl, ?_⟩) S0 ?_
              · intro w' hS'
                obtain ⟨h1, h2, h3, h4, h5, h6⟩ := hS'
                go_simp
              (try simp only [Act.put, List.getElem_toArray, List.getElem_cons_succ, List.getElem_cons_zero, List.setIfInBounds_toArray, List.set_cons_zero, List.set_cons_succ])
              refine wpAnyN_take (i := 12) (v := .int .i64 (top bc : Int)) rfl (by kernel_rfl) (by kernel_rfl) (by kernel_rfl) (by kernel_rfl) (fun _ _ _ h => h) (Or.inl ⟨by rfl, ?_⟩) S0 ?_
              · intro w' hS'
                obtain ⟨h1, h2, h3, h4, h5, h6⟩ := hS'
                go_simp
              (try simp only [Act.put, List.getElem_toArray, List.getElem_cons_succ, List.getElem_cons_zero, List.setIfInBounds_toArray, List.set_cons_zero, List.set_cons_succ])
              refine wpAnyN_take (i := 13) (v := .pointer (some ⟨N, 0, none⟩)) rfl (by kernel_rfl) (by kernel_rfl) (by kernel_rfl) (by kernel_rfl) (fun _ _ _ h => h) (Or.inl ⟨by rfl, ?_⟩) S0 ?_
              · intro w' hS'
                obtain ⟨h1, h2, h3, h4, h5, h6⟩ := hS'
                go_simp
              (try simp only [Act.put, List.getElem_toArray, List.getElem_cons_succ, List.getElem_cons_zero, List.setIfInBounds_toArray, List.set_cons_zero, List.set_cons_succ])
              refine wpAnyN_take (i := 14) (v := .pointer (some ⟨N, 0, none⟩)) rfl (by kernel_rfl) (by kernel_rfl) (by kernel_rfl) (by kernel_rfl) (fun _ _ _ h => h) (Or.inl ⟨by rfl, ?_⟩) S0 ?_
              · intro w' hS'
                obtain ⟨h1, h2, h3, h4, h5, h6⟩ := hS'
                go_simp
              (try simp only [Act.put, List.getElem_toArray, List.getElem_cons_succ, List.getElem_cons_zero, List.setIfInBounds_toArray, List.set_cons_zero, List.set_cons_succ])
              refine wpAnyN_take (i := 15) (v := .pointer (some ⟨N, 3, none⟩)) rfl (by kernel_rfl) (by kernel_rfl) (by kernel_rfl) (by kernel_rfl) (fun _ _ _ h => h) (Or.inl ⟨by rfl, ?_⟩) S0 ?_
              · intro w' hS'
                obtain ⟨h1, h2, h3, h4, h5, h6⟩ := hS'
                go_simp
              (try simp only [Act.put, List.getElem_toArray, List.getElem_cons_succ, List.getElem_cons_zero, List.setIfInBounds_toArray, List.set_cons_zero, List.set_cons_succ])
              refine wpAnyN_take (i := 16) (v := .slice (some ⟨bs 3, 0, none⟩) m (cs 3)) rfl (by kernel_rfl) (by kernel_rfl) (by kernel_rfl) (by kernel_rfl) (fun _ _ _ h => h) (Or.inl ⟨by rfl, ?_⟩) S0 ?_
              · intro w' hS'
                obtain ⟨h1, h2, h3, h4, h5, h6⟩ := hS'
                go_simp
              (try simp only [Act.put, List.getElem_toArray, List.getElem_cons_succ, List.getElem_cons_zero, List.setIfInBounds_toArray, List.set_cons_zero, List.set_cons_succ])
              refine wpAnyN_take (i := 17) (v := .pointer (some ⟨N, 0, none⟩)) rfl (by kernel_rfl) (by kernel_rfl) (by kernel_rfl) (by kernel_rfl) (fun _ _ _ h => h) (Or.inl ⟨by rfl, ?_⟩) S0 ?_
              · intro w' hS'
                obtain ⟨h1, h2, h3, h4, h5, h6⟩ := hS'
                go_simp
              (try simp only [Act.put, List.getElem_toArray, List.getElem_cons_succ, List.getElem_cons_zero, List.setIfInBounds_toArray, List.set_cons_zero, List.set_cons_succ])
              refine wpAnyN_take (i := 18) (v := .pointer (some ⟨N, 0, none⟩)) rfl (by kernel_rfl) (by kernel_rfl) (by kernel_rfl) (by kernel_rfl) (fun _ _ _ h => h) (Or.inl ⟨by rfl, ?_⟩) S0 ?_
              · intro w' hS'
                obtain ⟨h1, h2, h3, h4, h5, h6⟩ := hS'
                go_simp
              (try simp only [Act.put, List.getElem_toArray, List.getElem_cons_succ, List.getElem_cons_zero, List.setIfInBounds_toArray, List.set_cons_zero, List.set_cons_succ])
              refine wpAnyN_take (i := 19) (v := .pointer (some ⟨N, 5, none⟩)) rfl (by kernel_rfl) (by kernel_rfl) (by kernel_rfl) (by kernel_rfl) (fun _ _ _ h => h) (Or.inl ⟨by rfl, ?_⟩) S0 ?_
              · intro w' hS'
                obtain ⟨h1, h2, h3, h4, h5, h6⟩ := hS'
                go_simp
              (try simp only [Act.put, List.getElem_toArray, List.getElem_cons_succ, List.getElem_cons_zero, List.setIfInBounds_toArray, List.set_cons_zero, List.set_cons_succ])
              refine wpAnyN_take (i := 20) (v := .slice (some ⟨bs 5, 0, none⟩) m (cs 5)) rfl (by kernel_rfl) (by kernel_rfl) (by kernel_rfl) (by kernel_rfl) (fun _ _ _ h => h) (Or.inl ⟨by rfl, ?_⟩) S0 ?_
              · intro w' hS'
                obtain ⟨h1, h2, h3, h4, h5, h6⟩ := hS'
                go_simp
              (try simp only [Act.put, List.getElem_toArray, List.getElem_cons_succ, List.getElem_cons_zero, List.setIfInBounds_toArray, List.set_cons_zero, List.set_cons_succ])
              refine wpAnyN_take (i := 21) (v := .int .i64 (t : Int)) rfl (by kernel_rfl) (by kernel_rfl) (by kernel_rfl) (by kernel_rfl) (fun _ _ _ h => h) (Or.inl ⟨by rfl, ?_⟩) S0 ?_
              · intro w' hS'
                obtain ⟨h1, h2, h3, h4, h5, h6⟩ := hS'
                go_simp
              (try simp only [Act.put, List.getElem_toArray, List.getElem_cons_succ, List.getElem_cons_zero, List.setIfInBounds_toArray, List.set_cons_zero, List.set_cons_succ])
              refine wpAnyN_take (i := 22) (v := .pointer (some ⟨bs 5, t, none⟩)) rfl (by kernel_rfl) (by kernel_rfl) (by kernel_rfl) (by kernel_rfl) (fun _ _ _ h => h) (Or.inl ⟨by rfl, ?_⟩) S0 ?_
              · intro w' hS'
                obtain ⟨h1, h2, h3, h4, h5, h6⟩ := hS'
                go_simp
              (try simp only [Act.put, List.getElem_toArray, List.getElem_cons_succ, List.getElem_cons_zero, List.setIfInBounds_toArray, List.set_cons_zero, List.set_cons_succ])
              refine wpAnyN_take (i := 23) (v := .int .i64 (bt : Int)) rfl (by kernel_rfl) (by kernel_rfl) (by kernel_rfl) (by kernel_rfl) (fun _ _ _ h => h) (Or.inl ⟨by rfl, ?_⟩) S0 ?_
              · intro w' hS'
                obtain ⟨h1, h2, h3, h4, h5, h6⟩ := hS'
                go_simp
              (try simp only [Act.put, List.getElem_toArray, List.getElem_cons_succ, List.getElem_cons_zero, List.setIfInBounds_toArray, List.set_cons_zero, List.set_cons_succ])
              refine wpAnyN_take (i := 24) (v := .pointer (some ⟨bs 3, bt, none⟩)) rfl (by kernel_rfl) (by kernel_rfl) (by kernel_rfl) (by kernel_rfl) (fun _ _ _ h => h) (Or.inl ⟨by rfl, ?_⟩) S0 ?_
              · intro w' hS'
                obtain ⟨h1, h2, h3, h4, h5, h6⟩ := hS'
                go_simp
              (try simp only [Act.put, List.getElem_toArray, List.getElem_cons_succ, List.getElem_cons_zero, List.setIfInBounds_toArray, List.set_cons_zero, List.set_cons_succ])
              refine wpAnyN_take (i := 25) (v := .int .i64 (top bt : Int)) rfl (by kernel_rfl) (by kernel_rfl) (by kernel_rfl) (by kernel_rfl) (fun _ _ _ h => h) (Or.inl ⟨by rfl, ?_⟩) S0 ?_
              · intro w' hS'
                obtain ⟨h1, h2, h3, h4, h5, h6⟩ := hS'
                go_simp
              (try simp only [Act.put, List.getElem_toArray, List.getElem_cons_succ, List.getElem_cons_zero, List.setIfInBounds_toArray, List.set_cons_zero, List.set_cons_succ])
              refine wpAnyN_take (i := 26) (v := .bool true) rfl (by kernel_rfl) (by kernel_rfl) (by kernel_rfl) (by kernel_rfl) (fun _ _ _ h => h) (Or.inl ⟨by rfl, ?_⟩) S0 ?_
              · intro w' hS'
                obtain ⟨h1, h2, h3, h4, h5, h6⟩ := hS'
                go_simp
              (try simp only [Act.put, List.getElem_toArray, List.getElem_cons_succ, List.getElem_cons_zero, List.setIfInBounds_toArray, List.set_cons_zero, List.set_cons_succ])
              refine wpAnyN_done (by kernel_rfl) ?_ _
              clear S0 SK2
              generalize wz.drew = w5 at *
              have e55 : w5.cell? ⟨bs 5, t, none⟩ = some (.int .i64 (bt : Int)) := by rw [← hbt]; exact T4.out.2.2.2.2.2.1.cell t htm
              have f55 := T4.out.2.2.2.2.2.1.frozen t
              have T5 : Hid (TS (w5.setCell ⟨bs 5, t, none⟩ (.int .i64 (bc : Int))).drew N m bs cs fb us rows f0 f1 (nI top) up' (nI (pu bt' t bc))) := (by rw [← nI_pu]; exact (T4.out.set5 t htm _).new (below_drew _) : TS (w5.setCell ⟨bs 5, t, none⟩ (.int .i64 (bc : Int))).drew N m bs cs fb us rows f0 f1 (nI top) up' (nI (pu bt' t bc)))
              have K5 : Hid (Kp (fun b => b = bs 4 ∨ b = bs 5) w (w5.setCell ⟨bs 5, t, none⟩ (.int .i64 (bc : Int))).drew) := (K4.out.trans (Kp.set _ _ _ (Or.inr rfl))).drew
              have O7 : Hid (ON w.heap.size l' (.slice (some ⟨D, 0, none⟩) p Cv) (w5.setCell ⟨bs 5, t, none⟩ (.int .i64 (bc : Int))).drew) := (OwnB.set O6.out b5w _ : ON w.heap.size l' (.slice (some ⟨D, 0, none⟩) p Cv) (w5.setCell ⟨bs 5, t, none⟩ (.int .i64 (bc : Int))))
              go_wp2
              refine wp_region_N (fun w' => w'.cell? ⟨N, 5, none⟩ = some (.slice (some ⟨bs 5, 0, none⟩) m (cs 5)) ∧ w'.cell? ⟨bs 5, c, none⟩ = some (.int .i64 (bc : Int))) (fun j => j != 13) mixed (SK3.out _ (below_drew _)) ?_
              intro S0
              refine wpAnyN_take (i := 0) (v := .pointer (some ⟨N, 0, none⟩)) rfl (by kernel_rfl) (by kernel_rfl) (by kernel_rfl) (by kernel_rfl) (fun _ _ _ h => h) (Or.inl ⟨by rfl, ?_⟩) S0 ?_
              · intro w' hS'
                obtain ⟨h1, h2⟩ := hS'
                go_simp
              (try simp only [Act.put, List.getElem_toArray, List.getElem_cons_zero, List.setIfInBounds_toArray, List.set_cons_zero, List.set_cons_succ])
              refine wpAnyN_take (i := 1) (v := .pointer (some ⟨N, 0, none⟩)) rfl (by kernel_rfl) (by kernel_rfl) (by kernel_rfl) (by kernel_rfl) (fun _ _ _ h => h) (Or.inl ⟨by rfl, ?_⟩) S0 ?_
              · intro w' hS'
                obtain ⟨h1, h2⟩ := hS'
                go_simp
              (try simp only [Act.put, List.getElem_toArray, List.getElem_cons_succ, List.getElem_cons_zero, List.setIfInBounds_toArray, List.set_cons_zero, List.set_cons_succ])
              refine wpAnyN_take (i := 2) (v := .pointer (some ⟨N, 5, none⟩)) rfl (by kernel_rfl) (by kernel_rfl) (by kernel_rfl) (by kernel_rfl) (fun _ _ _ h => h) (Or.inl ⟨by rfl, ?_⟩) S0 ?_
              · intro w' hS'
                obtain ⟨h1, h2⟩ := hS'
                go_simp
              (try simp only [Act.put, List.getElem_toArray, List.getElem_cons_succ, List.getElem_cons_zero, List.setIfInBounds_toArray, List.set_cons_zero, List.set_cons_succ])
              refine wpAnyN_take (i := 3) (v := .slice (some ⟨bs 5, 0, none⟩) m (cs 5)) rfl (by kernel_rfl) (by kernel_rfl) (by kernel_rfl) (by kernel_rfl) (fun _ _ _ h => h) (Or.inl ⟨by rfl, ?_⟩) S0 ?_
              · intro w' hS'
                obtain ⟨h1, h2⟩ := hS'
                go_simp
              (try simp only [Act.put, List.getElem_toArray, List.getElem_cons_succ, List.getElem_cons_zero, List.setIfInBounds_toArray, List.set_cons_zero, List.set_cons_succ])
              refine wpAnyN_take (i := 4) (v := .int .i64 (t : Int)) rfl (by kernel_rfl) (by kernel_rfl) (by kernel_rfl) (by kernel_rfl) (fun _ _ _ h => h) (Or.inl ⟨by rfl, ?_⟩) S0 ?_
              · intro w' hS'
                obtain ⟨h1, h2⟩ := hS'
                go_simp
              (try simp only [Act.put, List.getElem_toArray, List.getElem_cons_succ, List.getElem_cons_zero, List.setIfInBounds_toArray, List.set_cons_zero, List.set_cons_succ])
              refine wpAnyN_take (i := 5) (v := .pointer (some ⟨N, 0, none⟩)) rfl (by kernel_rfl) (by kernel_rfl) (by kernel_rfl) (by kernel_rfl) (fun _ _ _ h => h) (Or.inl ⟨by rfl, ?_⟩) S0 ?_
              · intro w' hS'
                obtain ⟨h1, h2⟩ := hS'
                go_simp
              (try simp only [Act.put, List.getElem_toArray, List.getElem_cons_succ, List.getElem_cons_zero, List.setIfInBounds_toArray, List.set_cons_zero, List.set_cons_succ])
              refine wpAnyN_take (i := 6) (v := .pointer (some ⟨N, 0, none⟩)) rfl (by kernel_rfl) (by kernel_rfl) (by kernel_rfl) (by kernel_rfl) (fun _ _ _ h => h) (Or.inl ⟨by rfl, ?_⟩) S0 ?_
              · intro w' hS'
                obtain ⟨h1, h2⟩ := hS'
                go_simp
              (try simp only [Act.put, List.getElem_toArray, List.getElem_cons_succ, List.getElem_cons_zero, List.setIfInBounds_toArray, List.set_cons_zero, List.set_cons_succ])
              refine wpAnyN_take (i := 7) (v := .pointer (some ⟨N, 5, none⟩)) rfl (by kernel_rfl) (by kernel_rfl) (by kernel_rfl) (by kernel_rfl) (fun _ _ _ h => h) (Or.inl ⟨by rfl, ?_⟩) S0 ?_
              · intro w' hS'
                obtain ⟨h1, h2⟩ := hS'
                go_simp
              (try simp only [Act.put, List.getElem_toArray, List.getElem_cons_succ, List.getElem_cons_zero, List.setIfInBounds_toArray, List.set_cons_zero, List.set_cons_succ])
              refine wpAnyN_take (i := 8) (v := .slice (some ⟨bs 5, 0, none⟩) m (cs 5)) rfl (by kernel_rfl) (by kernel_rfl) (by kernel_rfl) (by kernel_rfl) (fun _ _ _ h => h) (Or.inl ⟨by rfl, ?_⟩) S0 ?_
              · intro w' hS'
                obtain ⟨h1, h2⟩ := hS'
                go_simp
              (try simp only [Act.put, List.getElem_toArray, List.getElem_cons_succ, List.getElem_cons_zero, List.setIfInBounds_toArray, List.set_cons_zero, List.set_cons_succ])
              refine wpAnyN_take (i := 9) (v := .int .i64 (c : Int)) rfl (by kernel_rfl) (by kernel_rfl) (by kernel_rfl) (by kernel_rfl) (fun _ _ _ h => h) (Or.inl ⟨by rfl, ?_⟩) S0 ?_
              · intro w' hS'
                obtain ⟨h1, h2⟩ := hS'
                go_simp
              (try simp only [Act.put, List.getElem_toArray, List.getElem_cons_succ, List.getElem_cons_zero, List.setIfInBounds_toArray, List.set_cons_zero, List.set_cons_succ])
              refine wpAnyN_take (i := 10) (v := .pointer (some ⟨bs 5, c, none⟩)) rfl (by kernel_rfl) (by kernel_rfl) (by kernel_rfl) (by kernel_rfl) (fun _ _ _ h => h) (Or.inl ⟨by rfl, ?_⟩) S0 ?_
              · intro w' hS'
                obtain ⟨h1, h2⟩ := hS'
                go_simp
              (try simp only [Act.put, List.getElem_toArray, List.getElem_cons_succ, List.getElem_cons_zero, List.setIfInBounds_toArray, List.set_cons_zero, List.set_cons_succ])
              refine wpAnyN_take (i := 11) (v := .int .i64 (bc : Int)) rfl (by kernel_rfl) (by kernel_rfl) (by kernel_rfl) (by kernel_rfl) (fun _ _ _ h => h) (Or.inl ⟨by rfl, ?_⟩) S0 ?_
              · intro w' hS'
                obtain ⟨h1, h2⟩ := hS'
                go_simp
              (try simp only [Act.put, List.getElem_toArray, List.getElem_cons_succ, List.getElem_cons_zero, List.setIfInBounds_toArray, List.set_cons_zero, List.set_cons_succ])
              refine wpAnyN_one (i := 12) (by kernel_rfl) rfl (fun K hK => ?_)
              go_simp
              refine hK _ _ (fun h => S0) ?_
              clear hK K
              (try simp only [Act.put, List.getElem_toArray, List.getElem_cons_succ, List.getElem_cons_zero, List.setIfInBounds_toArray, List.set_cons_zero, List.set_cons_succ])
              refine wpAnyN_one (i := 13) (by kernel_rfl) rfl (fun K hK => ?_)
              go_simp
              refine hK _ _ (fun h => by cases h) ?_
              clear hK K
              (try simp only [Act.put, List.getElem_toArray, List.getElem_cons_succ, List.getElem_cons_zero, List.setIfInBounds_toArray, List.set_cons_zero, List.set_cons_succ])
              refine wpAnyN_done (by kernel_rfl) ?_ _
              clear S0 SK3 e55 f55
              generalize (w5.setCell ⟨bs 5, t, none⟩ (.int .i64 (bc : Int))).drew = w6 at *
              have SK4 : Hid (∀ wq, Below w6.heap.size w6 wq → wq.cell? ⟨N, 4, none⟩ = some (.slice (some ⟨bs 4, 0, none⟩) m (cs 4)) ∧ wq.cell? ⟨bs 4, c, none⟩ = some (.int .i64 (a : Int))) := fun wq hb => by
                have q := T5.out.new hb
                have e := q.2.2.2.2.1.cell c hcm
                rw [ea2] at e
                exact ⟨q.1.cell 4, e⟩
              have e66 : w6.cell? ⟨bs 4, t, none⟩ = some (.int .i64 (c : Int)) := by rw [← et]; exact T5.out.2.2.2.2.1.cell t htm
              have f66 := T5.out.2.2.2.2.1.frozen t
              have T6 : Hid (TS (w6.setCell ⟨bs 4, t, none⟩ (.int .i64 (a : Int))).drew N m bs cs fb us rows f0 f1 (nI top) (pu up' t (a : Int)) (nI (pu bt' t bc))) := ((T5.out.set4 t htm _).new (below_drew _) : TS (w6.setCell ⟨bs 4, t, none⟩ (.int .i64 (a : Int))).drew N m bs cs fb us rows f0 f1 (nI top) (pu up' t (a : Int)) (nI (pu bt' t bc)))
              have K6 : Hid (Kp (fun b => b = bs 4 ∨ b = bs 5) w (w6.setCell ⟨bs 4, t, none⟩ (.int .i64 (a : Int))).drew) := (K5.out.trans (Kp.set _ _ _ (Or.inl rfl))).drew
              have O8 : Hid (ON w.heap.size l' (.slice (some ⟨D, 0, none⟩) p Cv) (w6.setCell ⟨bs 4, t, none⟩ (.int .i64 (a : Int))).drew) := (OwnB.set O7.out b4w _ : ON w.heap.size l' (.slice (some ⟨D, 0, none⟩) p Cv) (w6.setCell ⟨bs 4, t, none⟩ (.int .i64 (a : Int))))
              go_wp2
              refine wp_region_N (fun w' => w'.cell? ⟨N, 4, none⟩ = some (.slice (some ⟨bs 4, 0, none⟩) m (cs 4)) ∧ w'.cell? ⟨bs 4, c, none⟩ = some (.int .i64 (a : Int))) (fun j => j != 13) mixed (SK4.out _ (below_drew _)) ?_
              intro S0
              refine wpAnyN_take (i := 0) (v := .pointer (some ⟨N, 0, none⟩)) rfl (by kernel_rfl) (by kernel_rfl) (by kernel_rfl) (by kernel_rfl) (fun _ _ _ h => h) (Or.inl ⟨by rfl, ?_⟩) S0 ?_
              · intro w' hS'
                obtain ⟨h1, h2⟩ := hS'
                go_simp
              (try simp only [Act.put, List.getElem_toArray, List.getElem_cons_zero, List.setIfInBounds_toArray, List.set_cons_zero, List.set_cons_succ])
              refine wpAnyN_take (i := 1) (v := .pointer (some ⟨N, 0, none⟩)) rfl (by kernel_rfl) (by kernel_rfl) (by kernel_rfl) (by kernel_rfl) (fun _ _ _ h => h) (Or.inl ⟨by rfl, ?_⟩) S0 ?_
              · intro w' hS'
                obtain ⟨h1, h2⟩ := hS'
                go_simp
              (try simp only [Act.put, List.getElem_toArray, List.getElem_cons_succ, List.getElem_cons_zero, List.setIfInBounds_toArray, List.set_cons_zero, List.set_cons_succ])
              refine wpAnyN_take (i := 2) (v := .pointer (some ⟨N, 4, none⟩)) rfl (by kernel_rfl) (by kernel_rfl) (by kernel_rfl) (by kernel_rfl) (fun _ _ _ h => h) (Or.inl ⟨by rfl, ?_⟩) S0 ?_
              · intro w' hS'
                obtain ⟨h1, h2⟩ := hS'
                go_simp
              (try simp only [Act.put, List.getElem_toArray, List.getElem_cons_succ, List.getElem_cons_zero, List.setIfInBounds_toArray, List.set_cons_zero, List.set_cons_succ])
              refine wpAnyN_take (i := 3) (v := .slice (some ⟨bs 4, 0, none⟩) m (cs 4)) rfl (by kernel_rfl) (by kernel_rfl) (by kernel_rfl) (by kernel_rfl) (fun _ _ _ h => h) (Or.inl ⟨by rfl, ?_⟩) S0 ?_
              · intro w' hS'
                obtain ⟨h1, h2⟩ := hS'
                go_simp
              (try simp only [Act.put, List.getElem_toArray, List.getElem_cons_succ, List.getElem_cons_zero, List.setIfInBounds_toArray, List.set_cons_zero, List.set_cons_succ])
              refine wpAnyN_take (i := 4) (v := .int .i64 (t : Int)) rfl (by kernel_rfl) (by kernel_rfl) (by kernel_rfl) (by kernel_rfl) (fun _ _ _ h => h) (Or.inl ⟨by rfl, ?_⟩) S0 ?_
              · intro w' hS'
                obtain ⟨h1, h2⟩ := hS'
                go_simp
              (try simp only [Act.put, List.getElem_toArray, List.getElem_cons_succ, List.getElem_cons_zero, List.setIfInBounds_toArray, List.set_cons_zero, List.set_cons_succ])
              refine wpAnyN_take (i := 5) (v := .pointer (some ⟨N, 0, none⟩)) rfl (by kernel_rfl) (by kernel_rfl) (by kernel_rfl) (by kernel_rfl) (fun _ _ _ h => h) (Or.inl ⟨by rfl, ?_⟩) S0 ?_
              · intro w' hS'
                obtain ⟨h1, h2⟩ := hS'
                go_simp
              (try simp only [Act.put, List.getElem_toArray, List.getElem_cons_succ, List.getElem_cons_zero, List.setIfInBounds_toArray, List.set_cons_zero, List.set_cons_succ])
              refine wpAnyN_take (i := 6) (v := .pointer (some ⟨N, 0, none⟩)) rfl (by kernel_rfl) (by kernel_rfl) (by kernel_rfl) (by kernel_rfl) (fun _ _ _ h => h) (Or.inl ⟨by rfl, ?_⟩) S0 ?_
              · intro w' hS'
                obtain ⟨h1, h2⟩ := hS'
                go_simp
              (try simp only [Act.put, List.getElem_toArray, List.getElem_cons_succ, List.getElem_cons_zero, List.setIfInBounds_toArray, List.set_cons_zero, List.set_cons_succ])
              refine wpAnyN_take (i := 7) (v := .pointer (some ⟨N, 4, none⟩)) rfl (by kernel_rfl) (by kernel_rfl) (by kernel_rfl) (by kernel_rfl) (fun _ _ _ h => h) (Or.inl ⟨by rfl, ?_⟩) S0 ?_
              · intro w' hS'
                obtain ⟨h1, h2⟩ := hS'
                go_simp
              (try simp only [Act.put, List.getElem_toArray, List.getElem_cons_succ, List.getElem_cons_zero, List.setIfInBounds_toArray, List.set_cons_zero, List.set_cons_succ])
              refine wpAnyN_take (i := 8) (v := .slice (some ⟨bs 4, 0, none⟩) m (cs 4)) rfl (by kernel_rfl) (by kernel_rfl) (by kernel_rfl) (by kernel_rfl) (fun _ _ _ h => h) (Or.inl ⟨by rfl, ?_⟩) S0 ?_
              · intro w' hS'
                obtain ⟨h1, h2⟩ := hS'
                go_simp
              (try simp only [Act.put, List.getElem_toArray, List.getElem_cons_succ, List.getElem_cons_zero, List.setIfInBounds_toArray, List.set_cons_zero, List.set_cons_succ])
              refine wpAnyN_take (i := 9) (v := .int .i64 (c : Int)) rfl (by kernel_rfl) (by kernel_rfl) (by kernel_rfl) (by kernel_rfl) (fun _ _ _ h => h) (Or.inl ⟨by rfl, ?_⟩) S0 ?_
              · intro w' hS'
                obtain ⟨h1, h2⟩ := hS'
                go_simp
              (try simp only [Act.put, List.getElem_toArray, List.getElem_cons_succ, List.getElem_cons_zero, List.setIfInBounds_toArray, List.set_cons_zero, List.set_cons_succ])
              refine wpAnyN_take (i := 10) (v := .pointer (some ⟨bs 4, c, none⟩)) rfl (by kernel_rfl) (by kernel_rfl) (by kernel_rfl) (by kernel_rfl) (fun _ _ _ h => h) (Or.inl ⟨by rfl, ?_⟩) S0 ?_
              · intro w' hS'
                obtain ⟨h1, h2⟩ := hS'
                go_simp
              (try simp only [Act.put, List.getElem_toArray, List.getElem_cons_succ, List.getElem_cons_zero, List.setIfInBounds_toArray, List.set_cons_zero, List.set_cons_succ])
              refine wpAnyN_take (i := 11) (v := .int .i64 (a : Int)) rfl (by kernel_rfl) (by kernel_rfl) (by kernel_rfl) (by kernel_rfl) (fun _ _ _ h => h) (Or.inl ⟨by rfl, ?_⟩) S0 ?_
              · intro w' hS'
                obtain ⟨h1, h2⟩ := hS'
                go_simp
              (try simp only [Act.put, List.getElem_toArray, List.getElem_cons_succ, List.getElem_cons_zero, List.setIfInBounds_toArray, List.set_cons_zero, List.set_cons_succ])
              refine wpAnyN_one (i := 12) (by kernel_rfl) rfl (fun K hK => ?_)
              go_simp
              refine hK _ _ (fun h => S0) ?_
              clear hK K
              (try simp only [Act.put, List.getElem_toArray, List.getElem_cons_succ, List.getElem_cons_zero, List.setIfInBounds_toArray, List.set_cons_zero, List.set_cons_succ])
              refine wpAnyN_one (i := 13) (by kernel_rfl) rfl (fun K hK => ?_)
              go_simp
              refine hK _ _ (fun h => by cases h) ?_
              clear hK K
              (try simp only [Act.put, List.getElem_toArray, List.getElem_cons_succ, List.getElem_cons_zero, List.setIfInBounds_toArray, List.set_cons_zero, List.set_cons_succ])
              refine wpAnyN_done (by kernel_rfl) ?_ _
              clear S0 SK4
              go_wp2
              go_roundw
              case rel => exact ⟨t, l', pu up' t (a : Int), pu bt' t bc, rfl, by omega, htm, pu_self _ _ _, CT.out, HT2.out, by omega, HM2.out, O8.out, T6.out, FT.out, K6.out⟩
              case measure => simp [lenV]
            · have hltz : ¬ (top bc : Int) < (top bt : Int) := by omega
              rw [if_neg hlt] at FT
              go_wp2
              refine wp_region_N (fun w' => w'.cell? ⟨N, 3, none⟩ = some (.slice (some ⟨bs 3, 0, none⟩) m (cs 3)) ∧ w'.cell? ⟨N, 5, none⟩ = some (.slice (some ⟨bs 5, 0, none⟩) m (cs 5)) ∧ w'.cell? ⟨bs 5, c, none⟩ = some (.int .i64 (bc : Int)) ∧ w'.cell? ⟨bs 3, bc, none⟩ = some (.int .i64 (top bc : Int)) ∧ w'.cell? ⟨bs 5, t, none⟩ = some (.int .i64 (bt : Int)) ∧ w'.cell? ⟨bs 3, bt, none⟩ = some (.int .i64 (top bt : Int))) (fun _ => true) mixed (SK2.out _ (below_drew _)) ?_
              intro S0
              refine wpAnyN_take (i := 0) (v := .pointer (some ⟨N, 0, none⟩)) rfl (by kernel_rfl) (by kernel_rfl) (by kernel_rfl) (by kernel_rfl) (fun _ _ _ h => h) (Or.inl ⟨by rfl, ?_⟩) S0 ?_
              · intro w' hS'
                obtain ⟨h1, h2, h3, h4, h5, h6⟩ := hS'
                go_simp
              (try simp only [Act.put, List.getElem_toArray, List.getElem_cons_zero, List.setIfInBounds_toArray, List.set_cons_zero, List.set_cons_succ])
              refine wpAnyN_take (i := 1) (v := .pointer (some ⟨N, 0, none⟩)) rfl (by kernel_rfl) (by kernel_rfl) (by kernel_rfl) (by kernel_rfl) (fun _ _ _ h => h) (Or.inl ⟨by rfl, ?_⟩) S0 ?_
              · intro w' hS'
                obtain ⟨h1, h2, h3, h4, h5, h6⟩ := hS'
                go_simp
              (try simp only [Act.put, List.getElem_toArray, List.getElem_cons_succ, List.getElem_cons_zero, List.setIfInBounds_toArray, List.set_cons_zero, List.set_cons_succ])
              refine wpAnyN_take (i := 2) (v := .pointer (some ⟨N, 3, none⟩)) rfl (by kernel_rfl) (by kernel_rfl) (by kernel_rfl) (by kernel_rfl) (fun _ _ _ h => h) (Or.inl ⟨by rfl, ?_⟩) S0 ?_
              · intro w' hS'
                obtain ⟨h1, h2, h3, h4, h5, h6⟩ := hS'
                go_simp
              (try simp only [Act.put, List.getElem_toArray, List.getElem_cons_succ, List.getElem_cons_zero, List.setIfInBounds_toArray, List.set_cons_zero, List.set_cons_succ])
              refine wpAnyN_take (i := 3) (v := .slice (some ⟨bs 3, 0, none⟩) m (cs 3)) rfl (by kernel_rfl) (by kernel_rfl) (by kernel_rfl) (by kernel_rfl) (fun _ _ _ h => h) (Or.inl ⟨by rfl, ?_⟩) S0 ?_
              · intro w' hS'
                obtain ⟨h1, h2, h3, h4, h5, h6⟩ := hS'
                go_simp
              (try simp only [Act.put, List.getElem_toArray, List.getElem_cons_succ, List.getElem_cons_zero, List.setIfInBounds_toArray, List.set_cons_zero, List.set_cons_succ])
              refine wpAnyN_take (i := 4) (v := .pointer (some ⟨N, 0, none⟩)) rfl (by kernel_rfl) (by kernel_rfl) (by kernel_rfl) (by kernel_rfl) (fun _ _ _ h => h) (Or.inl ⟨by rfl, ?_⟩) S0 ?_
              · intro w' hS'
                obtain ⟨h1, h2, h3, h4, h5, h6⟩ := hS'
                go_simp
              (try simp only [Act.put, List.getElem_toArray, List.getElem_cons_succ, List.getElem_cons_zero, List.setIfInBounds_toArray, List.set_cons_zero, List.set_cons_succ])
              refine wpAnyN_take (i := 5) (v := .pointer (some ⟨N, 0, none⟩)) rfl (by kernel_rfl) (by kernel_rfl) (by kernel_rfl) (by kernel_rfl) (fun _ _ _ h => h) (Or.inl ⟨by rfl, ?_⟩) S0 ?_
              · intro w' hS'
                obtain ⟨h1, h2, h3, h4, h5, h6⟩ := hS'
                go_simp
              (try simp only [Act.put, List.getElem_toArray, List.getElem_cons_succ, List.getElem_cons_zero, List.setIfInBounds_toArray, List.set_cons_zero, List.set_cons_succ])
              refine wpAnyN_take (i := 6) (v := .pointer (some ⟨N, 5, none⟩)) rfl (by kernel_rfl) (by kernel_rfl) (by kernel_rfl) (by kernel_rfl) (fun _ _ _ h => h) (Or.inl ⟨by rfl, ?_⟩) S0 ?_
              · intro w' hS'
                obtain ⟨h1, h2, h3, h4, h5, h6⟩ := hS'
                go_simp
              (try simp only [Act.put, List.getElem_toArray, List.getElem_cons_succ, List.getElem_cons_zero, List.setIfInBounds_toArray, List.set_cons_zero, List.set_cons_succ])
              refine wpAnyN_take (i := 7) (v := .slice (some ⟨bs 5, 0, none⟩) m (cs 5)) rfl (by kernel_rfl) (by kernel_rfl) (by kernel_rfl) (by kernel_rfl) (fun _ _ _ h => h) (Or.inl ⟨by rfl, ?_⟩) S0 ?_
              · intro w' hS'
                obtain ⟨h1, h2, h3, h4, h5, h6⟩ := hS'
                go_simp
              (try simp only [Act.put, List.getElem_toArray, List.getElem_cons_succ, List.getElem_cons_zero, List.setIfInBounds_toArray, List.set_cons_zero, List.set_cons_succ])
              refine wpAnyN_take (i := 8) (v := .int .i64 (c : Int)) rfl (by kernel_rfl) (by kernel_rfl) (by kernel_rfl) (by kernel_rfl) (fun _ _ _ h => h) (Or.inl ⟨by rfl, ?_⟩) S0 ?_
              · intro w' hS'
                obtain ⟨h1, h2, h3, h4, h5, h6⟩ := hS'
                go_simp
              (try simp only [Act.put, List.getElem_toArray, List.getElem_cons_succ, List.getElem_cons_zero, List.setIfInBounds_toArray, List.set_cons_zero, List.set_cons_succ])
              refine wpAnyN_take (i := 9) (v := .pointer (some ⟨bs 5, c, none⟩)) rfl (by kernel_rfl) (by kernel_rfl) (by kernel_rfl) (by kernel_rfl) (fun _ _ _ h => h) (Or.inl ⟨by rfl, ?_⟩) S0 ?_
              · intro w' hS'
                obtain ⟨h1, h2, h3, h4, h5, h6⟩ := hS'
                go_simp
              (try simp only [Act.put, List.getElem_toArray, List.getElem_cons_succ, List.getElem_cons_zero, List.setIfInBounds_toArray, List.set_cons_zero, List.set_cons_succ])
              refine wpAnyN_take (i := 10) (v := .int .i64 (bc : Int)) rfl (by kernel_rfl) (by kernel_rfl) (by kernel_rfl) (by kernel_rfl) (fun _ _ _ h => h) (Or.inl ⟨by rfl, ?_⟩) S0 ?_
              · intro w' hS'
                obtain ⟨h1, h2, h3, h4, h5, h6⟩ := hS'
                go_simp
              (try simp only [Act.put, List.getElem_toArray, List.getElem_cons_succ, List.getElem_cons_zero, List.setIfInBounds_toArray, List.set_cons_zero, List.set_cons_succ])
              refine wpAnyN_take (i := 11) (v := .pointer (some ⟨bs 3, bc, none⟩)) rfl (by kernel_rfl) (by kernel_rfl) (by kernel_rfl) (by kernel_rfl) (fun _ _ _ h => h) (Or.inl ⟨by rfl, ?_⟩) S0 ?_
              · intro w' hS'
                obtain ⟨h1, h2, h3, h4, h5, h6⟩ := hS'
                go_simp
              (try simp only [Act.put, List.getElem_toArray, List.getElem_cons_succ, List.getElem_cons_zero, List.setIfInBounds_toArray, List.set_cons_zero, List.set_cons_succ])
              refine wpAnyN_take (i := 12) (v := .int .i64 (top bc : Int)) rfl (by kernel_rfl) (by kernel_rfl) (by kernel_rfl) (by kernel_rfl) (fun _ _ _ h => h) (Or.inl ⟨by rfl, ?_⟩) S0 ?_
              · intro w' hS'
                obtain ⟨h1, h2, h3, h4, h5, h6⟩ := hS'
                go_simp
              (try simp only [Act.put, List.getElem_toArray, List.getElem_cons_succ, List.getElem_cons_zero, List.setIfInBounds_toArray, List.set_cons_zero, List.set_cons_succ])
              refine wpAnyN_take (i := 13) (v := .pointer (some ⟨N, 0, none⟩)) rfl (by kernel_rfl) (by kernel_rfl) (by kernel_rfl) (by kernel_rfl) (fun _ _ _ h => h) (Or.inl ⟨by rfl, ?_⟩) S0 ?_
              · intro w' hS'
                obtain ⟨h1, h2, h3, h4, h5, h6⟩ := hS'
                go_simp
              (try simp only [Act.put, List.getElem_toArray, List.getElem_cons_succ, List.getElem_cons_zero, List.setIfInBounds_toArray, List.set_cons_zero, List.set_cons_succ])
              refine wpAnyN_take (i := 14) (v := .pointer (some ⟨N, 0, none⟩)) rfl (by kernel_rfl) (by kernel_rfl) (by kernel_rfl) (by kernel_rfl) (fun _ _ _ h => h) (Or.inl ⟨by rfl, ?_⟩) S0 ?_
              · intro w' hS'
                obtain ⟨h1, h2, h3, h4, h5, h6⟩ := hS'
                go_simp
              (try simp only [Act.put, List.getElem_toArray, List.getElem_cons_succ, List.getElem_cons_zero, List.setIfInBounds_toArray, List.set_cons_zero, List.set_cons_succ])
              refine wpAnyN_take (i := 15) (v := .pointer (some ⟨N, 3, none⟩)) rfl (by kernel_rfl) (by kernel_rfl) (by kernel_rfl) (by kernel_rfl) (fun _ _ _ h => h) (Or.inl ⟨by rfl, ?_⟩) S0 ?_
              · intro w' hS'
                obtain ⟨h1, h2, h3, h4, h5, h6⟩ := hS'
                go_simp
              (try simp only [Act.put, List.getElem_toArray, List.getElem_cons_succ, List.getElem_cons_zero, List.setIfInBounds_toArray, List.set_cons_zero, List.set_cons_succ])
              refine wpAnyN_take (i := 16) (v := .slice (some ⟨bs 3, 0, none⟩) m (cs 3)) rfl (by kernel_rfl) (by kernel_rfl) (by kernel_rfl) (by kernel_rfl) (fun _ _ _ h => h) (Or.inl ⟨by rfl, ?_⟩) S0 ?_
              · intro w' hS'
                obtain ⟨h1, h2, h3, h4, h5, h6⟩ := hS'
                go_simp
              (try simp only [Act.put, List.getElem_toArray, List.getElem_cons_succ, List.getElem_cons_zero, List.setIfInBounds_toArray, List.set_cons_zero, List.set_cons_succ])
              refine wpAnyN_take (i := 17) (v := .pointer (some ⟨N, 0, none⟩)) rfl (by kernel_rfl) (by kernel_rfl) (by kernel_rfl) (by kernel_rfl) (fun _ _ _ h => h) (Or.inl ⟨by rfl, ?_⟩) S0 ?_
              · intro w' hS'
                obtain ⟨h1, h2, h3, h4, h5, h6⟩ := hS'
                go_simp
              (try simp only [Act.put, List.getElem_toArray, List.getElem_cons_succ, List.getElem_cons_zero, List.setIfInBounds_toArray, List.set_cons_zero, List.set_cons_succ])
              refine wpAnyN_take (i := 18) (v := .pointer (some ⟨N, 0, none⟩)) rfl (by kernel_rfl) (by kernel_rfl) (by kernel_rfl) (by kernel_rfl) (fun _ _ _ h => h) (Or.inl ⟨by rfl, ?_⟩) S0 ?_
              · intro w' hS'
                obtain ⟨h1, h2, h3, h4, h5, h6⟩ := hS'
                go_simp
              (try simp only [Act.put, List.getElem_toArray, List.getElem_cons_succ, List.getElem_cons_zero, List.setIfInBounds_toArray, List.set_cons_zero, List.set_cons_succ])
              refine wpAnyN_take (i := 19) (v := .pointer (some ⟨N, 5, none⟩)) rfl (by kernel_rfl) (by kernel_rfl) (by kernel_rfl) (by kernel_rfl) (fun _ _ _ h => h) (Or.inl ⟨by rfl, ?_⟩) S0 ?_
              · intro w' hS'
                obtain ⟨h1, h2, h3, h4, h5, h6⟩ := hS'
                go_simp
              (try simp only [Act.put, List.getElem_toArray, List.getElem_cons_succ, List.getElem_cons_zero, List.setIfInBounds_toArray, List.set_cons_zero, List.set_cons_succ])
              refine wpAnyN_take (i := 20) (v := .slice (some ⟨bs 5, 0, none⟩) m (cs 5)) rfl (by kernel_rfl) (by kernel_rfl) (by kernel_rfl) (by kernel_rfl) (fun _ _ _ h => h) (Or.inl ⟨by rfl, ?_⟩) S0 ?_
              · intro w' hS'
                obtain ⟨h1, h2, h3, h4, h5, h6⟩ := hS'
                go_simp
              (try simp only [Act.put, List.getElem_toArray, List.getElem_cons_succ, List.getElem_cons_zero, List.setIfInBounds_toArray, List.set_cons_zero, List.set_cons_succ])
              refine wpAnyN_take (i := 21) (v := .int .i64 (t : Int)) rfl (by kernel_rfl) (by kernel_rfl) (by kernel_rfl) (by kernel_rfl) (fun _ _ _ h => h) (Or.inl ⟨by rfl, ?_⟩) S0 ?_
              · intro w' hS'
                obtain ⟨h1, h2, h3, h4, h5, h6⟩ := hS'
                go_simp
              (try simp only [Act.put, List.getElem_toArray, List.getElem_cons_succ, List.getElem_cons_zero, List.setIfInBounds_toArray, List.set_cons_zero, List.set_cons_succ])
              refine wpAnyN_take (i := 22) (v := .pointer (some ⟨bs 5, t, none⟩)) rfl (by kernel_rfl) (by kernel_rfl) (by kernel_rfl) (by kernel_rfl) (fun _ _ _ h => h) (Or.inl ⟨by rfl, ?_⟩) S0 ?_
              · intro w' hS'
                obtain ⟨h1, h2, h3, h4, h5, h6⟩ := hS'
                go_simp
              (try simp only [Act.put, List.getElem_toArray, List.getElem_cons_succ, List.getElem_cons_zero, List.setIfInBounds_toArray, List.set_cons_zero, List.set_cons_succ])
              refine wpAnyN_take (i := 23) (v := .int .i64 (bt : Int)) rfl (by kernel_rfl) (by kernel_rfl) (by kernel_rfl) (by kernel_rfl) (fun _ _ _ h => h) (Or.inl ⟨by rfl, ?_⟩) S0 ?_
              · intro w' hS'
                obtain ⟨h1, h2, h3, h4, h5, h6⟩ := hS'
                go_simp
              (try simp only [Act.put, List.getElem_toArray, List.getElem_cons_succ, List.getElem_cons_zero, List.setIfInBounds_toArray, List.set_cons_zero, List.set_cons_succ])
              refine wpAnyN_take (i := 24) (v := .pointer (some ⟨bs 3, bt, none⟩)) rfl (by kernel_rfl) (by kernel_rfl) (by kernel_rfl) (by kernel_rfl) (fun _ _ _ h => h) (Or.inl ⟨by rfl, ?_⟩) S0 ?_
              · intro w' hS'
                obtain ⟨h1, h2, h3, h4, h5, h6⟩ := hS'
                go_simp
              (try simp only [Act.put, List.getElem_toArray, List.getElem_cons_succ, List.getElem_cons_zero, List.setIfInBounds_toArray, List.set_cons_zero, List.set_cons_succ])
              refine wpAnyN_take (i := 25) (v := .int .i64 (top bt : Int)) rfl (by kernel_rfl) (by kernel_rfl) (by kernel_rfl) (by kernel_rfl) (fun _ _ _ h => h) (Or.inl ⟨by rfl, ?_⟩) S0 ?_
              · intro w' hS'
                obtain ⟨h1, h2, h3, h4, h5, h6⟩ := hS'
                go_simp
              (try simp only [Act.put, List.getElem_toArray, List.getElem_cons_succ, List.getElem_cons_zero, List.setIfInBounds_toArray, List.set_cons_zero, List.set_cons_succ])
              refine wpAnyN_take (i := 26) (v := .bool false) rfl (by kernel_rfl) (by kernel_rfl) (by kernel_rfl) (by kernel_rfl) (fun _ _ _ h => h) (Or.inl ⟨by rfl, ?_⟩) S0 ?_
              · intro w' hS'
                obtain ⟨h1, h2, h3, h4, h5, h6⟩ := hS'
                go_simp
              (try simp only [Act.put, List.getElem_toArray, List.getElem_cons_succ, List.getElem_cons_zero, List.setIfInBounds_toArray, List.set_cons_zero, List.set_cons_succ])
              refine wpAnyN_done (by kernel_rfl) ?_ _
              clear S0 SK2 SK3
              generalize wz.drew = w6 at *
              have FT2 : Hid (Fo m par i top (pu up' t (a : Int)) bt') := (by have h := FT.out; rwa [show pu bt' t bt = bt' from by funext x; by_cases hx : x = t; (subst hx; rw [pu_self]; exact hbt.symm); (rw [pu_ne _ _ hx])] at h : Fo m par i top (pu up' t (a : Int)) bt')
              have SK4 : Hid (∀ wq, Below w6.heap.size w6 wq → wq.cell? ⟨N, 4, none⟩ = some (.slice (some ⟨bs 4, 0, none⟩) m (cs 4)) ∧ wq.cell? ⟨bs 4, c, none⟩ = some (.int .i64 (a : Int))) := fun wq hb => by
                have q := T4.out.new hb
                have e := q.2.2.2.2.1.cell c hcm
                rw [ea2] at e
                exact ⟨q.1.cell 4, e⟩
              have e66 : w6.cell? ⟨bs 4, t, none⟩ = some (.int .i64 (c : Int)) := by rw [← et]; exact T4.out.2.2.2.2.1.cell t htm
              have f66 := T4.out.2.2.2.2.1.frozen t
              have T6 : Hid (TS (w6.setCell ⟨bs 4, t, none⟩ (.int .i64 (a : Int))).drew N m bs cs fb us rows f0 f1 (nI top) (pu up' t (a : Int)) (nI bt')) := ((T4.out.set4 t htm _).new (below_drew _) : TS (w6.setCell ⟨bs 4, t, none⟩ (.int .i64 (a : Int))).drew N m bs cs fb us rows f0 f1 (nI top) (pu up' t (a : Int)) (nI bt'))
              have K6 : Hid (Kp (fun b => b = bs 4 ∨ b = bs 5) w (w6.setCell ⟨bs 4, t, none⟩ (.int .i64 (a : Int))).drew) := (K4.out.trans (Kp.set _ _ _ (Or.inl rfl))).drew
              have O8 : Hid (ON w.heap.size l' (.slice (some ⟨D, 0, none⟩) p Cv) (w6.setCell ⟨bs 4, t, none⟩ (.int .i64 (a : Int))).drew) := (OwnB.set O6.out b4w _ : ON w.heap.size l' (.slice (some ⟨D, 0, none⟩) p Cv) (w6.setCell ⟨bs 4, t, none⟩ (.int .i64 (a : Int))))
              go_wp2
              refine wp_region_N (fun w' => w'.cell? ⟨N, 4, none⟩ = some (.slice (some ⟨bs 4, 0, none⟩) m (cs 4)) ∧ w'.cell? ⟨bs 4, c, none⟩ = some (.int .i64 (a : Int))) (fun j => j != 13) mixed (SK4.out _ (below_drew _)) ?_
              intro S0
              refine wpAnyN_take (i := 0) (v := .pointer (some ⟨N, 0, none⟩)) rfl (by kernel_rfl) (by kernel_rfl) (by kernel_rfl) (by kernel_rfl) (fun _ _ _ h => h) (Or.inl ⟨by rfl, ?_⟩) S0 ?_
              · intro w' hS'
                obtain ⟨h1, h2⟩ := hS'
                go_simp
              (try simp only [Act.put, List.getElem_toArray, List.getElem_cons_zero, List.setIfInBounds_toArray, List.set_cons_zero, List.set_cons_succ])
              refine wpAnyN_take (i := 1) (v := .pointer (some ⟨N, 0, none⟩)) rfl (by kernel_rfl) (by kernel_rfl) (by kernel_rfl) (by kernel_rfl) (fun _ _ _ h => h) (Or.inl ⟨by rfl, ?_⟩) S0 ?_
              · intro w' hS'
                obtain ⟨h1, h2⟩ := hS'
                go_simp
              (try simp only [Act.put, List.getElem_toArray, List.getElem_cons_succ, List.getElem_cons_zero, List.setIfInBounds_toArray, List.set_cons_zero, List.set_cons_succ])
              refine wpAnyN_take (i := 2) (v := .pointer (some ⟨N, 4, none⟩)) rfl (by kernel_rfl) (by kernel_rfl) (by kernel_rfl) (by kernel_rfl) (fun _ _ _ h => h) (Or.inl ⟨by rfl, ?_⟩) S0 ?_
              · intro w' hS'
                obtain ⟨h1, h2⟩ := hS'
                go_simp
              (try simp only [Act.put, List.getElem_toArray, List.getElem_cons_succ, List.getElem_cons_zero, List.setIfInBounds_toArray, List.set_cons_zero, List.set_cons_succ])
              refine wpAnyN_take (i := 3) (v := .slice (some ⟨bs 4, 0, none⟩) m (cs 4)) rfl (by kernel_rfl) (by kernel_rfl) (by kernel_rfl) (by kernel_rfl) (fun _ _ _ h => h) (Or.inl ⟨by rfl, ?_⟩) S0 ?_
              · intro w' hS'
                obtain ⟨h1, h2⟩ := hS'
                go_simp
              (try simp only [Act.put, List.getElem_toArray, List.getElem_cons_succ, List.getElem_cons_zero, List.setIfInBounds_toArray, List.set_cons_zero, List.set_cons_succ])
              refine wpAnyN_take (i := 4) (v := .int .i64 (t : Int)) rfl (by kernel_rfl) (by kernel_rfl) (by kernel_rfl) (by kernel_rfl) (fun _ _ _ h => h) (Or.inl ⟨by rfl, ?_⟩) S0 ?_
              · intro w' hS'
                obtain ⟨h1, h2⟩ := hS'
                go_simp
              (try simp only [Act.put, List.getElem_toArray, List.getElem_cons_succ, List.getElem_cons_zero, List.setIfInBounds_toArray, List.set_cons_zero, List.set_cons_succ])
              refine wpAnyN_take (i := 5) (v := .pointer (some ⟨N, 0, none⟩)) rfl (by kernel_rfl) (by kernel_rfl) (by kernel_rfl) (by kernel_rfl) (fun _ _ _ h => h) (Or.inl ⟨by rfl, ?_⟩) S0 ?_
              · intro w' hS'
                obtain ⟨h1, h2⟩ := hS'
                go_simp
              (try simp only [Act.put, List.getElem_toArray, List.getElem_cons_succ, List.getElem_cons_zero, List.setIfInBounds_toArray, List.set_cons_zero, List.set_cons_succ])
              refine wpAnyN_take (i := 6) (v := .pointer (some ⟨N, 0, none⟩)) rfl (by kernel_rfl) (by kernel_rfl) (by kernel_rfl) (by kernel_rfl) (fun _ _ _ h => h) (Or.inl ⟨by rfl, ?_⟩) S0 ?_
              · intro w' hS'
                obtain ⟨h1, h2⟩ := hS'
                go_simp
              (try simp only [Act.put, List.getElem_toArray, List.getElem_cons_succ, List.getElem_cons_zero, List.setIfInBounds_toArray, List.set_cons_zero, List.set_cons_succ])
              refine wpAnyN_take (i := 7) (v := .pointer (some ⟨N, 4, none⟩)) rfl (by kernel_rfl) (by kernel_rfl) (by kernel_rfl) (by kernel_rfl) (fun _ _ _ h => h) (Or.inl ⟨by rfl, ?_⟩) S0 ?_
              · intro w' hS'
                obtain ⟨h1, h2⟩ := hS'
                go_simp
              (try simp only [Act.put, List.getElem_toArray, List.getElem_cons_succ, List.getElem_cons_zero, List.setIfInBounds_toArray, List.set_cons_zero, List.set_cons_succ])
              refine wpAnyN_take (i := 8) (v := .slice (some ⟨bs 4, 0, none⟩) m (cs 4)) rfl (by kernel_rfl) (by kernel_rfl) (by kernel_rfl) (by kernel_rfl) (fun _ _ _ h => h) (Or.inl ⟨by rfl, ?_⟩) S0 ?_
              · intro w' hS'
                obtain ⟨h1, h2⟩ := hS'
                go_simp
              (try simp only [Act.put, List.getElem_toArray, List.getElem_cons_succ, List.getElem_cons_zero, List.setIfInBounds_toArray, List.set_cons_zero, List.set_cons_succ])
              refine wpAnyN_take (i := 9) (v := .int .i64 (c : Int)) rfl (by kernel_rfl) (by kernel_rfl) (by kernel_rfl) (by kernel_rfl) (fun _ _ _ h => h) (Or.inl ⟨by rfl, ?_⟩) S0 ?_
              · intro w' hS'
                obtain ⟨h1, h2⟩ := hS'
                go_simp
              (try simp only [Act.put, List.getElem_toArray, List.getElem_cons_succ, List.getElem_cons_zero, List.setIfInBounds_toArray, List.set_cons_zero, List.set_cons_succ])
              refine wpAnyN_take (i := 10) (v := .pointer (some ⟨bs 4, c, none⟩)) rfl (by kernel_rfl) (by kernel_rfl) (by kernel_rfl) (by kernel_rfl) (fun _ _ _ h => h) (Or.inl ⟨by rfl, ?_⟩) S0 ?_
              · intro w' hS'
                obtain ⟨h1, h2⟩ := hS'
                go_simp
              (try simp only [Act.put, List.getElem_toArray, List.getElem_cons_succ, List.getElem_cons_zero, List.setIfInBounds_toArray, List.set_cons_zero, List.set_cons_succ])
              refine wpAnyN_take (i := 11) (v := .int .i64 (a : Int)) rfl (by kernel_rfl) (by kernel_rfl) (by kernel_rfl) (by kernel_rfl) (fun _ _ _ h => h) (Or.inl ⟨by rfl, ?_⟩) S0 ?_
              · intro w' hS'
                obtain ⟨h1, h2⟩ := hS'
                go_simp
              (try simp only [Act.put, List.getElem_toArray, List.getElem_cons_succ, List.getElem_cons_zero, List.setIfInBounds_toArray, List.set_cons_zero, List.set_cons_succ])
              refine wpAnyN_one (i := 12) (by kernel_rfl) rfl (fun K hK => ?_)
              go_simp
              refine hK _ _ (fun h => S0) ?_
              clear hK K
              (try simp only [Act.put, List.getElem_toArray, List.getElem_cons_succ, List.getElem_cons_zero, List.setIfInBounds_toArray, List.set_cons_zero, List.set_cons_succ])
              refine wpAnyN_one (i := 13) (by kernel_rfl) rfl (fun K hK => ?_)
              go_simp
              refine hK _ _ (fun h => by cases h) ?_
              clear hK K
              (try simp only [Act.put, List.getElem_toArray, List.getElem_cons_succ, List.getElem_cons_zero, List.setIfInBounds_toArray, List.set_cons_zero, List.set_cons_succ])
              refine wpAnyN_done (by kernel_rfl) ?_ _
              clear S0 SK4
              go_wp2
              go_roundw
              case rel => exact ⟨t, l', pu up' t (a : Int), bt', rfl, by omega, htm, pu_self _ _ _, CT.out, HT2.out, by omega, HM2.out, O8.out, T6.out, FT2.out, K6.out⟩
              case measure => simp [lenV]
  · have ej : up j = -1 := (hF.1 j hij).1
    rw [ej] at cj
    clear hT hF T
    go_enter Try.func36, Try.ntmps36
    go_wp2
    go_ret
    exact ⟨j, up, best, rfl, hj, TW.out, HF.out, ⟨fun _ => rfl, fun h => by omega⟩, Kp.refl _ _⟩
end Go.Proofs.Ytmmgdiecmokipaa
