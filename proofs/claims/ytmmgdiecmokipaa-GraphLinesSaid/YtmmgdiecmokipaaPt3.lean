/-
  Proved: what turnsOf answers.
-/
import Derived.Test.YtmmgdiecmokipaaPt2
namespace Go.Proofs.Ytmmgdiecmokipaa
open Go.RowKit

theorem OZ.iz {base : Nat} {l : List Int} {v : Value} {w : World} (h : OZ base l v w) (hl : 0 < l.length) : ∃ B C, v = .slice (some ⟨B, 0, none⟩) l.length C ∧ base ≤ B ∧ B < w.heap.size ∧ IZ w B l.length (fun i => l.getD i 0) := by
  obtain ⟨A, C, e, h1⟩ := h.shape
  obtain ⟨B, e1, e2, e3, e4, e5⟩ := h1 hl
  subst e1
  obtain ⟨_, _, cs, hc⟩ := h.blk (b := B) (by rw [e]; rfl)
  refine ⟨B, C, e, e2, e3, cs, hc, fun i hi => ?_⟩
  have := e5 i hi
  rw [hc.cell] at this
  rw [this]
  simp [List.getElem?_eq_getElem hi]

/-- Turns. -/
def TS (w : World) (N m : Nat) (bs cs : Nat → Nat) (fb : Nat) (us : Nat → Value) (rows : Nat → List Nat) (f0 f1 f3 f4 f5 : Nat → Int) : Prop :=
  At w N #[.slice (some ⟨bs 0, 0, none⟩) m (cs 0), .slice (some ⟨bs 1, 0, none⟩) m (cs 1), .slice (some ⟨fb, 0, none⟩) m m, .slice (some ⟨bs 3, 0, none⟩) m (cs 3), .slice (some ⟨bs 4, 0, none⟩) m (cs 4), .slice (some ⟨bs 5, 0, none⟩) m (cs 5)] 46 ∧
  IZ w (bs 0) m f0 ∧ IZ w (bs 1) m f1 ∧ IZ w (bs 3) m f3 ∧ IZ w (bs 4) m f4 ∧ IZ w (bs 5) m f5 ∧ RR w fb m us rows ∧
  (∀ i, i < 6 → i ≠ 2 → N < bs i ∧ bs i < fb) ∧ ∀ i j, i < 6 → j < 6 → i ≠ 2 → j ≠ 2 → i ≠ j → bs i ≠ bs j

/-- Who comes to each turn: of the turns below k, and of k by the first j of its ways. -/
def FI (n : Nat) (to : List (List Int)) (ent : List (Nat × Int)) (k j : Nat) (rows : Nat → List Nat) : Prop :=
  ∀ x, x < ent.length → (∀ v, v ∈ rows x ↔ (v < k ∧ v < ent.length ∧ blk ent x ∈ wy n to (blk ent v)) ∨ (v = k ∧ k < ent.length ∧ blk ent x ∈ keep n ((to.getD (blk ent k) []).take j))) ∧ (rows x).length ≤ 200 * k + j

section
variable {n : Nat} {to : List (List Int)} {ent : List (Nat × Int)} {k j : Nat} {rows : Nat → List Nat}

theorem FI.start : FI n to ent 0 0 (fun _ => []) := fun x _ => ⟨fun v => by simp [keep], by simp⟩

theorem FI.next (h : FI n to ent k j rows) (hj : (to.getD (blk ent k) []).length ≤ j) (hj2 : j ≤ 200) : FI n to ent (k + 1) 0 rows := fun x hx => by
  obtain ⟨h1, h2⟩ := h x hx
  refine ⟨fun v => ?_, by omega⟩
  rw [h1 v, List.take_of_length_le hj]
  simp only [List.take_zero, keep, List.filter_nil, List.map_nil, List.not_mem_nil, and_false, or_false]
  constructor
  · rintro (⟨a, b, c⟩ | ⟨a, b, c⟩)
    · exact ⟨by omega, b, c⟩
    · subst a; exact ⟨by omega, b, c⟩
  · rintro ⟨a, b, c⟩
    by_cases e : v = k
    · subst e; exact Or.inr ⟨rfl, b, c⟩
    · exact Or.inl ⟨by omega, b, c⟩

theorem FI.out (h : FI n to ent k j rows) (hj : j < (to.getD (blk ent k) []).length) (hx : ¬ (0 ≤ (to.getD (blk ent k) [])[j] ∧ (to.getD (blk ent k) [])[j] < (n : Int))) : FI n to ent k (j + 1) rows := fun x hxm => by
  obtain ⟨h1, h2⟩ := h x hxm
  refine ⟨fun v => ?_, by omega⟩
  rw [keep_step n _ j hj, if_neg hx, List.append_nil]
  exact h1 v

theorem FI.in (h : FI n to ent k j rows) (hnd : (ent.map (·.1)).Nodup) (hj : j < (to.getD (blk ent k) []).length) (hk : k < ent.length) {y : Nat} (hy : (to.getD (blk ent k) [])[j] = (y : Int)) (hn : y < n) (hm : y ∈ ent.map (·.1)) : FI n to ent k (j + 1) (pu rows (idx ent y) (rows (idx ent y) ++ [k])) := fun x hxm => by
  obtain ⟨h1, h2⟩ := h x hxm
  have e1 : keep n ((to.getD (blk ent k) []).take (j + 1)) = keep n ((to.getD (blk ent k) []).take j) ++ [y] := by
    rw [keep_step n _ j hj, if_pos (by rw [hy]; omega), hy, Int.toNat_natCast]
  rw [e1]
  by_cases e : x = idx ent y
  · subst e
    rw [pu_self]
    refine ⟨fun v => ?_, by rw [List.length_append]; simp; omega⟩
    rw [List.mem_append, h1 v, (blk_idx hm).1]
    simp only [List.mem_singleton, List.mem_append, or_true, and_true]
    constructor
    · rintro ((a | ⟨a, b, _⟩) | a)
      · exact Or.inl a
      · exact Or.inr ⟨a, b⟩
      · exact Or.inr ⟨a, hk⟩
    · rintro (a | ⟨a, _⟩)
      · exact Or.inl (Or.inl a)
      · exact Or.inr a
  · rw [pu_ne _ _ e]
    refine ⟨fun v => ?_, by omega⟩
    rw [h1 v]
    have hne : blk ent x ≠ y := fun e2 => e (by rw [← e2, (idx_blk hnd hxm).1])
    simp only [List.mem_append, List.mem_singleton, hne, or_false]
end

/-- The block, and the room, of a row. -/
def bkOf : Value → Nat
  | .slice (some a) _ _ => a.block
  | _ => 0
def cpOf : Value → Nat
  | .slice _ _ c => c
  | _ => 0

theorem tt_rows {w : World} {N n : Nat} {vs : Nat → Value} {ent : List (Nat × Int)} {tf : Nat → Int} (hT : TT w N n vs (rws ent) tf) (hm : 0 < ent.length) :
    (∀ i, i < 6 → i ≠ 2 → vs i = .slice (some ⟨bkOf (vs i), 0, none⟩) ent.length (cpOf (vs i)) ∧ N + 4 ≤ bkOf (vs i) ∧ bkOf (vs i) < w.heap.size ∧ IZ w (bkOf (vs i)) ent.length (fun t => (rws ent i).getD t 0)) ∧ ∀ i j, i < 6 → j < 6 → i ≠ 2 → j ≠ 2 → i ≠ j → bkOf (vs i) ≠ bkOf (vs j) := by
  have h1 : ∀ i, i < 6 → i ≠ 2 → vs i = .slice (some ⟨bkOf (vs i), 0, none⟩) ent.length (cpOf (vs i)) ∧ N + 4 ≤ bkOf (vs i) ∧ bkOf (vs i) < w.heap.size ∧ IZ w (bkOf (vs i)) ent.length (fun t => (rws ent i).getD t 0) := fun i hi h2 => by
    obtain ⟨B, C, e, a, b, c⟩ := (hT.2.1 i hi).iz (by rw [rws_len ent i hi h2]; exact hm)
    rw [rws_len ent i hi h2] at e c
    rw [e]
    exact ⟨rfl, a, b, c⟩
  refine ⟨h1, fun i j hi hj h2 h3 hij e => ?_⟩
  have a := (h1 i hi h2).1
  have b := (h1 j hj h3).1
  refine hT.2.2.1 i j hi hj hij (bkOf (vs i)) ?_ ?_
  · rw [a]; rfl
  · rw [b, ← e]; rfl

theorem ts_start {w : World} {N n : Nat} {vs : Nat → Value} {to : List (List Int)} {ent : List (Nat × Int)} {lfl : List Nat} {tf : Nat → Int} (hT : TT w N n vs (rws ent) tf) (hD : Done n to ent lfl) (hm : 0 < ent.length) :
    TS ((w.drew.alloc (.cells (madeCells #[.slice none 0 0] ent.length) 28)).setCell ⟨N, 2, none⟩ (.slice (some ⟨w.heap.size, 0, none⟩) ent.length ent.length)) N ent.length (fun i => bkOf (vs i)) (fun i => cpOf (vs i)) w.heap.size (fun _ => .slice none 0 0) (fun _ => []) (fun t => (blk ent t : Int)) (fun t => (par ent t : Int)) (fun t => (t : Int)) (fun _ => -1) (fun t => (t : Int)) ∧
    At ((w.drew.alloc (.cells (madeCells #[.slice none 0 0] ent.length) 28)).setCell ⟨N, 2, none⟩ (.slice (some ⟨w.heap.size, 0, none⟩) ent.length ent.length)) (N + 1) #[.pointer (some ⟨N, 0, none⟩)] 42 ∧
    IZ ((w.drew.alloc (.cells (madeCells #[.slice none 0 0] ent.length) 28)).setCell ⟨N, 2, none⟩ (.slice (some ⟨w.heap.size, 0, none⟩) ent.length ent.length)) (N + 2) n tf ∧
    At ((w.drew.alloc (.cells (madeCells #[.slice none 0 0] ent.length) 28)).setCell ⟨N, 2, none⟩ (.slice (some ⟨w.heap.size, 0, none⟩) ent.length ent.length)) (N + 3) #[.slice (some ⟨N + 2, 0, none⟩) n n] 28 := by
  obtain ⟨r1, r2⟩ := tt_rows hT hm
  have hlt := fun {b} (hb : Fr N vs b) => (hT.lt hb).2
  obtain ⟨h1, h2, h3, h4, h5, h6⟩ := hT
  have hN : N < w.heap.size := h1.lt
  have k1 : Kp (fun _ => False) w (w.drew.alloc (.cells (madeCells #[.slice none 0 0] ent.length) 28)) := Kp.of_below (below_next (below_drew _) (below_alloc _ _))
  have kk : Kp (fun b => b = N) w ((w.drew.alloc (.cells (madeCells #[.slice none 0 0] ent.length) 28)).setCell ⟨N, 2, none⟩ (.slice (some ⟨w.heap.size, 0, none⟩) ent.length ent.length)) := (k1.mono fun _ h => h.elim).trans (Kp.set _ _ _ rfl)
  have ne : ∀ i, i < 6 → i ≠ 2 → ¬ bkOf (vs i) = N := fun i hi h => by have := (r1 i hi h).2.1; omega
  have rr : RR (w.drew.alloc (.cells (madeCells #[.slice none 0 0] ent.length) 28)) w.heap.size ent.length (fun _ => .slice none 0 0) (fun _ => []) := RR.made w.drew ent.length
  refine ⟨⟨?_, ?_, ?_, ?_, ?_, ?_, ?_, fun i hi h => ?_, r2⟩, kk.at h4 (by omega), h5.kp kk (by omega), kk.at h6 (by omega)⟩
  · have a1 := (k1.at h1 (fun h => h)).set (j := 2) (.slice (some ⟨w.heap.size, 0, none⟩) ent.length ent.length)
    rw [vC_set _ _ _ _ (by decide)] at a1
    have e : vC (pu vs 2 (.slice (some ⟨w.heap.size, 0, none⟩) ent.length ent.length)) 6 = #[vs 0, vs 1, .slice (some ⟨w.heap.size, 0, none⟩) ent.length ent.length, vs 3, vs 4, vs 5] := rfl
    rw [e, (r1 0 (by decide) (by decide)).1, (r1 1 (by decide) (by decide)).1, (r1 3 (by decide) (by decide)).1, (r1 4 (by decide) (by decide)).1, (r1 5 (by decide) (by decide)).1] at a1
    exact a1
  · refine ((r1 0 (by decide) (by decide)).2.2.2.kp kk (ne 0 (by decide) (by decide))).ext fun t ht => ?_
    simp [rws, blk, List.getElem?_eq_getElem ht]
  · refine ((r1 1 (by decide) (by decide)).2.2.2.kp kk (ne 1 (by decide) (by decide))).ext fun t ht => ?_
    simp [rws, prL_done hD, ht]
  · refine ((r1 3 (by decide) (by decide)).2.2.2.kp kk (ne 3 (by decide) (by decide))).ext fun t ht => ?_
    simp [rws, ht]
  · refine ((r1 4 (by decide) (by decide)).2.2.2.kp kk (ne 4 (by decide) (by decide))).ext fun t ht => ?_
    simp [rws, ht]
  · refine ((r1 5 (by decide) (by decide)).2.2.2.kp kk (ne 5 (by decide) (by decide))).ext fun t ht => ?_
    simp [rws, ht]
  · refine rr.kp (Kp.set (F := fun b => b = N) _ _ _ rfl) fun b hb hr => ?_
    have := (rr.blk hr).1
    omega
  · have := r1 i hi h
    exact ⟨by show N < bkOf (vs i); omega, by show bkOf (vs i) < w.heap.size; omega⟩

theorem TS.rows {w w' : World} {N m : Nat} {bs cs : Nat → Nat} {fb : Nat} {us us' : Nat → Value} {rows rows' : Nat → List Nat} {f0 f1 f3 f4 f5 : Nat → Int} (h : TS w N m bs cs fb us rows f0 f1 f3 f4 f5) (hb : Below fb w w') (hr : RR w' fb m us' rows') : TS w' N m bs cs fb us' rows' f0 f1 f3 f4 f5 := by
  obtain ⟨h1, h2, h3, h4, h5, h6, h7, h8, h9⟩ := h
  have k : Kp (fun b => fb ≤ b) w w' := ⟨hb.mono (Nat.zero_le _), fun b _ hn => hb.block b (by omega)⟩
  have hN : N < fb := by
    have := h8 0 (by decide) (by decide)
    omega
  have q : ∀ i, i < 6 → i ≠ 2 → ¬ fb ≤ bs i := fun i hi h => by have := (h8 i hi h).2; omega
  exact ⟨k.at h1 (by omega), h2.kp k (q 0 (by decide) (by decide)), h3.kp k (q 1 (by decide) (by decide)), h4.kp k (q 3 (by decide) (by decide)), h5.kp k (q 4 (by decide) (by decide)), h6.kp k (q 5 (by decide) (by decide)), hr, h8, h9⟩

/-- The memory when the walk begins. -/
def wT (w : World) (n : Nat) : World := (((w.alloc (.cells #[.slice none 0 0, .slice none 0 0, .slice none 0 0, .slice none 0 0, .slice none 0 0, .slice none 0 0] 46)).alloc (.cells #[.pointer (some ⟨w.heap.size, 0, none⟩)] 42)).alloc (.cells (madeCells #[.int .i64 0] n) 3)).alloc (.cells #[.slice (some ⟨w.heap.size + 2, 0, none⟩) n n] 28)

theorem wT_tt (w : World) (n : Nat) : TT (wT w n) w.heap.size n (fun _ => .slice none 0 0) (rws []) (tof []) ∧ Below w.heap.size w (wT w n) := by
  have s1 : (w.alloc (.cells #[.slice none 0 0, .slice none 0 0, .slice none 0 0, .slice none 0 0, .slice none 0 0, .slice none 0 0] 46)).heap.size = w.heap.size + 1 := by simp
  have s2 : ((w.alloc (.cells #[.slice none 0 0, .slice none 0 0, .slice none 0 0, .slice none 0 0, .slice none 0 0, .slice none 0 0] 46)).alloc (.cells #[.pointer (some ⟨w.heap.size, 0, none⟩)] 42)).heap.size = w.heap.size + 2 := by simp
  have s3 : (((w.alloc (.cells #[.slice none 0 0, .slice none 0 0, .slice none 0 0, .slice none 0 0, .slice none 0 0, .slice none 0 0] 46)).alloc (.cells #[.pointer (some ⟨w.heap.size, 0, none⟩)] 42)).alloc (.cells (madeCells #[.int .i64 0] n) 3)).heap.size = w.heap.size + 3 := by simp
  have b1 := below_alloc w (.cells #[.slice none 0 0, .slice none 0 0, .slice none 0 0, .slice none 0 0, .slice none 0 0, .slice none 0 0] 46)
  have b2 := below_alloc (w.alloc (.cells #[.slice none 0 0, .slice none 0 0, .slice none 0 0, .slice none 0 0, .slice none 0 0, .slice none 0 0] 46)) (.cells #[.pointer (some ⟨w.heap.size, 0, none⟩)] 42)
  have b3 := below_alloc ((w.alloc (.cells #[.slice none 0 0, .slice none 0 0, .slice none 0 0, .slice none 0 0, .slice none 0 0, .slice none 0 0] 46)).alloc (.cells #[.pointer (some ⟨w.heap.size, 0, none⟩)] 42)) (.cells (madeCells #[.int .i64 0] n) 3)
  have b4 := below_alloc (((w.alloc (.cells #[.slice none 0 0, .slice none 0 0, .slice none 0 0, .slice none 0 0, .slice none 0 0, .slice none 0 0] 46)).alloc (.cells #[.pointer (some ⟨w.heap.size, 0, none⟩)] 42)).alloc (.cells (madeCells #[.int .i64 0] n) 3)) (.cells #[.slice (some ⟨w.heap.size + 2, 0, none⟩) n n] 28)
  have b34 := below_next b3 b4
  have b234 := below_next b2 b34
  have b1234 := below_next b1 b234
  refine ⟨⟨(At.new w _ _).below b234 (by omega), fun i hi => ?_, fun i j _ _ _ b hb => (by cases hb), (At.newS _ _ _ s1).below b34 (by omega), ?_, At.newS _ _ _ s3⟩, b1234⟩
  · have e : rws [] i = [] := by
      match i with
      | 0 => rfl
      | 1 => rfl
      | 2 => rfl
      | 3 => rfl
      | 4 => rfl
      | 5 => rfl
      | i + 6 => rfl
    rw [e]
    exact OZ.empty (by unfold wT; rw [show w.heap.size + 4 = (w.heap.size + 3) + 1 from rfl, ← s3]; simp)
  · have h1 := IZ.made ((w.alloc (.cells #[.slice none 0 0, .slice none 0 0, .slice none 0 0, .slice none 0 0, .slice none 0 0, .slice none 0 0] 46)).alloc (.cells #[.pointer (some ⟨w.heap.size, 0, none⟩)] 42)) n
    rw [s2] at h1
    exact (h1.kp (Kp.of_below (F := fun _ => False) b4) (fun h => h)).ext fun i _ => by simp [tof]

set_option maxRecDepth 20000 in
set_option maxHeartbeats 8000000 in
theorem turnsOf_c (n : Nat) (h0 : 0 < n) (hn : n ≤ 40) (to : List (List Int)) (tv : Value) (w : World) (h : RwsIn w to tv) (hf : Fw to) :
    Calls Try.prog 29 #[.int .i64 (n : Int), tv] w fun e w' => e = .returned (.pointer (some ⟨w.heap.size, 0, none⟩)) ∧ Below w.heap.size w w' ∧ ∃ ent lfl, Done n to ent lfl ∧ ent.length ≤ n ∧ ∃ bs cs fb us rows, TS w' w.heap.size ent.length bs cs fb us rows (fun t => (blk ent t : Int)) (fun t => (par ent t : Int)) (fun t => (t : Int)) (fun _ => -1) (fun t => (t : Int)) ∧ FI n to ent ent.length 0 rows := by
  have mixed : Try.prog.follows Departure.mixedOrders = true := by kernel_rfl
  have hmk := make_i n (by omega)
  obtain ⟨TT0, b0⟩ := wT_tt w n
  have B0 : Hid (Below w.heap.size w (wT w n)) := b0
  have P0 : Hid (Calls Try.prog 18 #[.int .i64 (n : Int), tv, .func (.func 33) #[] #[.pointer (some ⟨w.heap.size + 1, 0, none⟩), .pointer (some ⟨w.heap.size + 3, 0, none⟩)], .func (.func 34) #[] #[]] (wT w n) fun e w' => e = .returned (.tuple #[]) ∧ ∃ ent lfl F', JT w.heap.size n ent lfl F' w' ∧ Done n to ent lfl ∧ Gr (Fr w.heap.size fun _ => .slice none 0 0) F' (wT w n) w') :=
    pwalk_c n h0 (by omega) to tv w _ h hf b0 (JT w.heap.size n) (JT.stay _ _) 33 34 #[.pointer (some ⟨w.heap.size + 1, 0, none⟩), .pointer (some ⟨w.heap.size + 3, 0, none⟩)] #[] (Fr w.heap.size fun _ => .slice none 0 0) (fun b hb => (TT0.lt hb).1) cf_turns1 cf_turns2 (JT.ent _ _ (by omega)) (JT.lev _ _) ⟨fun e he => by simp at he, _, TT0, rfl⟩
  clear b0 TT0
  unfold wT at P0 B0
  have TI : Hid (RwsIn w to tv) := h
  have FW : Hid (Fw to) := hf
  obtain ⟨A, C, rfl, -⟩ := h
  clear hf
  go_enter Try.func29, Try.ntmps29
  go_wp2_with (go_at_call 18; refine P0.out.mono ?_; rintro e w3 ⟨rfl, ent, lfl, F3, hj3, hd3, hg3⟩; have J3 : Hid (JT w.heap.size n ent lfl F3 w3) := hj3; have D3 : Hid (Done n to ent lfl) := hd3; have B3 : Hid (Below w.heap.size w w3) := B0.out.trans (hg3.1.below B0.out.size fun b hb => by rcases hb with h | ⟨i, _, h⟩; (first | omega | cases h); (first | omega | cases h)); clear hj3 hd3 hg3)
  obtain ⟨hjn, vs, hTT, -⟩ := J3.out
  have hm : 0 < ent.length := by obtain ⟨r, e⟩ := D3.out.hd; rw [e]; simp
  have hmn : ent.length ≤ n := by
    have h1 : (ent.map (·.1)).length ≤ (List.range n).length := D3.out.nd.length_le_of_subset fun x hx => by
      obtain ⟨e, he, rfl⟩ := List.mem_map.1 hx
      simp [hjn e he]
    simpa using h1
  have HTT : Hid (TT w3 w.heap.size n vs (rws ent) (tof ent)) := hTT
  have e0 := ((tt_rows hTT hm).1 0 (by decide) (by decide)).1
  obtain ⟨ts4, ap4, it4, as4⟩ := ts_start hTT D3.out hm
  have SK : Hid (∀ wq, Below w3.heap.size w3 wq → wq.cell? ⟨w.heap.size + 1, 0, none⟩ = some (.pointer (some ⟨w.heap.size, 0, none⟩)) ∧ wq.cell? ⟨w.heap.size, 0, none⟩ = some (.slice (some ⟨bkOf (vs 0), 0, none⟩) ent.length (cpOf (vs 0)))) := fun wq hb => by
    have t := HTT.out.kp (Kp.of_below (F := fun _ => False) hb) fun _ h => h.elim
    have e := t.field 0 (by decide)
    rw [e0] at e
    exact ⟨t.2.2.2.1.cell 0, e⟩
  have at3 : At (w3.alloc (.cells (madeCells #[.slice none 0 0] ent.length) 28)) w.heap.size (vC vs 6) 46 := (Kp.of_below (F := fun _ => False) (below_alloc _ _)).at hTT.1 (fun h => h)
  have c2 : (w3.alloc (.cells (madeCells #[.slice none 0 0] ent.length) 28)).cell? ⟨w.heap.size, 2, none⟩ = some (vs 2) := by rw [at3.cell]; rfl
  have f2 := at3.frozen 2
  have hmk2 := make_rr ent.length (by omega)
  have B4 : Hid (Below w.heap.size w (((w3.alloc (.cells (madeCells #[.slice none 0 0] ent.length) 28)).setCell ⟨w.heap.size, 2, none⟩ (.slice (some ⟨w3.heap.size, 0, none⟩) ent.length ent.length)).drew)) := Below.drew (below_set (B3.out.trans ((below_alloc w3 _).mono B3.out.size)) (Nat.le_refl _) _)
  have TS4 : Hid (TS (((w3.alloc (.cells (madeCells #[.slice none 0 0] ent.length) 28)).setCell ⟨w.heap.size, 2, none⟩ (.slice (some ⟨w3.heap.size, 0, none⟩) ent.length ent.length)).drew) w.heap.size ent.length (fun i => bkOf (vs i)) (fun i => cpOf (vs i)) w3.heap.size (fun _ => .slice none 0 0) (fun _ => []) (fun t => (blk ent t : Int)) (fun t => (par ent t : Int)) (fun t => (t : Int)) (fun _ => -1) (fun t => (t : Int))) := ts4
  have AP4 : Hid (At (((w3.alloc (.cells (madeCells #[.slice none 0 0] ent.length) 28)).setCell ⟨w.heap.size, 2, none⟩ (.slice (some ⟨w3.heap.size, 0, none⟩) ent.length ent.length)).drew) (w.heap.size + 1) #[.pointer (some ⟨w.heap.size, 0, none⟩)] 42) := ap4
  have IT4 : Hid (IZ (((w3.alloc (.cells (madeCells #[.slice none 0 0] ent.length) 28)).setCell ⟨w.heap.size, 2, none⟩ (.slice (some ⟨w3.heap.size, 0, none⟩) ent.length ent.length)).drew) (w.heap.size + 2) n (tof ent)) := it4
  have AS4 : Hid (At (((w3.alloc (.cells (madeCells #[.slice none 0 0] ent.length) 28)).setCell ⟨w.heap.size, 2, none⟩ (.slice (some ⟨w3.heap.size, 0, none⟩) ent.length ent.length)).drew) (w.heap.size + 3) #[.slice (some ⟨w.heap.size + 2, 0, none⟩) n n] 28) := as4
  have hfl : w.heap.size + 3 < w3.heap.size := hTT.2.2.2.2.2.lt
  have ALL : Hid (∀ x, x ∈ ent.map (·.1) ↔ Rch (wy n to) (-1) x) := D3.out.all
  clear hTT hjn ts4 ap4 it4 as4 at3 e0
  refine wp_region_N (fun w' => w'.cell? ⟨w.heap.size + 1, 0, none⟩ = some (.pointer (some ⟨w.heap.size, 0, none⟩)) ∧ w'.cell? ⟨w.heap.size, 0, none⟩ = some (.slice (some ⟨bkOf (vs 0), 0, none⟩) ent.length (cpOf (vs 0)))) (fun j => j != 9) mixed (SK.out _ (below_drew _)) ?_
  intro S0
  refine wpAnyN_take (i := 0) (v := .pointer (some ⟨w.heap.size, 0, none⟩)) rfl (by kernel_rfl) (by kernel_rfl) (by kernel_rfl) (by kernel_rfl) (fun _ _ _ h => h) (Or.inl ⟨by rfl, ?_⟩) S0 ?_
  · intro w' hS'
    obtain ⟨h1, h2⟩ := hS'
    go_simp
  (try simp only [Act.put, List.getElem_toArray, List.getElem_cons_zero, List.setIfInBounds_toArray, List.set_cons_zero, List.set_cons_succ])
  refine wpAnyN_take (i := 1) (v := .pointer (some ⟨w.heap.size, 0, none⟩)) rfl (by kernel_rfl) (by kernel_rfl) (by kernel_rfl) (by kernel_rfl) (fun _ _ _ h => h) (Or.inl ⟨by rfl, ?_⟩) S0 ?_
  · intro w' hS'
    obtain ⟨h1, h2⟩ := hS'
    go_simp
  (try simp only [Act.put, List.getElem_toArray, List.getElem_cons_succ, List.getElem_cons_zero, List.setIfInBounds_toArray, List.set_cons_zero, List.set_cons_succ])
  refine wpAnyN_take (i := 2) (v := .pointer (some ⟨w.heap.size, 0, none⟩)) rfl (by kernel_rfl) (by kernel_rfl) (by kernel_rfl) (by kernel_rfl) (fun _ _ _ h => h) (Or.inl ⟨by rfl, ?_⟩) S0 ?_
  · intro w' hS'
    obtain ⟨h1, h2⟩ := hS'
    go_simp
  (try simp only [Act.put, List.getElem_toArray, List.getElem_cons_succ, List.getElem_cons_zero, List.setIfInBounds_toArray, List.set_cons_zero, List.set_cons_succ])
  refine wpAnyN_take (i := 3) (v := .pointer (some ⟨w.heap.size, 0, none⟩)) rfl (by kernel_rfl) (by kernel_rfl) (by kernel_rfl) (by kernel_rfl) (fun _ _ _ h => h) (Or.inl ⟨by rfl, ?_⟩) S0 ?_
  · intro w' hS'
    obtain ⟨h1, h2⟩ := hS'
    go_simp
  (try simp only [Act.put, List.getElem_toArray, List.getElem_cons_succ, List.getElem_cons_zero, List.setIfInBounds_toArray, List.set_cons_zero, List.set_cons_succ])
  refine wpAnyN_take (i := 4) (v := .slice (some ⟨bkOf (vs 0), 0, none⟩) ent.length (cpOf (vs 0))) rfl (by kernel_rfl) (by kernel_rfl) (by kernel_rfl) (by kernel_rfl) (fun _ _ _ h => h) (Or.inl ⟨by rfl, ?_⟩) S0 ?_
  · intro w' hS'
    obtain ⟨h1, h2⟩ := hS'
    go_simp
  (try simp only [Act.put, List.getElem_toArray, List.getElem_cons_succ, List.getElem_cons_zero, List.setIfInBounds_toArray, List.set_cons_zero, List.set_cons_succ])
  refine wpAnyN_take (i := 5) (v := .int .i64 (ent.length : Int)) rfl (by kernel_rfl) (by kernel_rfl) (by kernel_rfl) (by kernel_rfl) (fun _ _ _ h => h) (Or.inl ⟨by rfl, ?_⟩) S0 ?_
  · intro w' hS'
    obtain ⟨h1, h2⟩ := hS'
    go_simp
  (try simp only [Act.put, List.getElem_toArray, List.getElem_cons_succ, List.getElem_cons_zero, List.setIfInBounds_toArray, List.set_cons_zero, List.set_cons_succ])
  refine wpAnyN_one (i := 6) (by kernel_rfl) rfl (fun K hK => ?_)
  go_simp
  refine hK _ _ (fun h => SK.out _ (below_next (below_drew _) (below_alloc _ _))) ?_
  clear hK K
  (try simp only [Act.put, List.getElem_toArray, List.getElem_cons_succ, List.getElem_cons_zero, List.setIfInBounds_toArray, List.set_cons_zero, List.set_cons_succ])
  have S1 := SK.out _ (below_next (below_drew w3) (below_alloc w3.drew (.cells (madeCells #[.slice none 0 0] ent.length) 28)))
  refine wpAnyN_one (i := 7) (by kernel_rfl) rfl (fun K hK => ?_)
  go_simp
  refine hK _ _ (fun h => S1) ?_
  clear hK K
  (try simp only [Act.put, List.getElem_toArray, List.getElem_cons_succ, List.getElem_cons_zero, List.setIfInBounds_toArray, List.set_cons_zero, List.set_cons_succ])
  refine wpAnyN_one (i := 8) (by kernel_rfl) rfl (fun K hK => ?_)
  go_simp
  refine hK _ _ (fun h => S1) ?_
  clear hK K
  (try simp only [Act.put, List.getElem_toArray, List.getElem_cons_succ, List.getElem_cons_zero, List.setIfInBounds_toArray, List.set_cons_zero, List.set_cons_succ])
  refine wpAnyN_one (i := 9) (by kernel_rfl) rfl (fun K hK => ?_)
  go_simp
  refine hK _ _ (fun h => by cases h) ?_
  clear hK K
  (try simp only [Act.put, List.getElem_toArray, List.getElem_cons_succ, List.getElem_cons_zero, List.setIfInBounds_toArray, List.set_cons_zero, List.set_cons_succ])
  refine wpAnyN_done (by kernel_rfl) ?_ _
  clear S0 S1 SK c2 f2 HTT J3
  generalize ((w3.alloc (.cells (madeCells #[.slice none 0 0] ent.length) 28)).setCell ⟨w.heap.size, 2, none⟩ (.slice (some ⟨w3.heap.size, 0, none⟩) ent.length ent.length)).drew = w4 at *
  generalize hfb : w3.heap.size = fb at *
  have c4a : w4.cell? ⟨w.heap.size + 1, 0, none⟩ = some (.pointer (some ⟨w.heap.size, 0, none⟩)) := AP4.out.cell 0
  have c4b : w4.cell? ⟨w.heap.size, 0, none⟩ = some (.slice (some ⟨bkOf (vs 0), 0, none⟩) ent.length (cpOf (vs 0))) := TS4.out.1.cell 0
  clear hmk2 B3 hfb
  have LB : Hid (∀ i, (to.getD i []).length ≤ 200) := fun i => FW.out.row i
  go_wp2
  go_loopw [32] (fun kv wr => ∃ (k : Nat) (us : Nat → Value) (rows : Nat → List Nat), k ≤ ent.length ∧ kv = .int .i64 (k : Int) ∧ RR wr fb ent.length us rows ∧ Below fb w4 wr ∧ FI n to ent k 0 rows) (fun kv _ => ent.length - (intOf kv).toNat)
  case atStart => exact ⟨0, _, _, Nat.zero_le _, rfl, TS4.out.2.2.2.2.2.2.1, Below.refl _ _, FI.start⟩
  case round =>
    obtain ⟨k, us, rows, hk, rfl, hR, hB, hF⟩ := hrel
    have R1 : Hid (RR wr fb ent.length us rows) := hR
    have B1 : Hid (Below fb w4 wr) := hB
    have F1 : Hid (FI n to ent k 0 rows) := hF
    have d1 : wr.cell? ⟨w.heap.size + 1, 0, none⟩ = some (.pointer (some ⟨w.heap.size, 0, none⟩)) := (hB.cell (p := ⟨w.heap.size + 1, 0, none⟩) (show w.heap.size + 1 < fb by omega)).trans c4a
    have d2 : wr.cell? ⟨w.heap.size, 0, none⟩ = some (.slice (some ⟨bkOf (vs 0), 0, none⟩) ent.length (cpOf (vs 0))) := (hB.cell (p := ⟨w.heap.size, 0, none⟩) (show w.heap.size < fb by omega)).trans c4b
    clear hR hB hF
    rcases Nat.lt_or_ge k ent.length with hk' | hk'
    · have hkz : (k : Int) < ent.length := by omega
      have hb0 := TS4.out.2.2.2.2.2.2.2.1 0 (by decide) (by decide)
      have d3 : wr.cell? ⟨bkOf (vs 0), k, none⟩ = some (.int .i64 (blk ent k : Int)) := (B1.out.cell (p := ⟨bkOf (vs 0), k, none⟩) (show bkOf (vs 0) < fb from hb0.2)).trans (TS4.out.2.1.cell k hk')
      have BW : Hid (Below w.heap.size w wr) := B4.out.trans (B1.out.mono (by omega))
      have GC : Hid (Calls Try.prog 35 #[.slice A to.length C, .int .i64 (blk ent k : Int)] wr fun e w' => ∃ v, e = .returned v ∧ NumsIn w (to.getD (blk ent k) []) v ∧ w' = wr) := goesTo_c (blk ent k) to _ w wr TI.out BW.out FW.out
      have FN : Hid (∀ rows, FI n to ent k (to.getD (blk ent k) []).length rows → FI n to ent (k + 1) 0 rows) := fun rows h => h.next (Nat.le_refl _) (LB.out _)
      have FO : Hid (∀ rows j (hj : j < (to.getD (blk ent k) []).length), ¬ (0 ≤ (to.getD (blk ent k) [])[j] ∧ (to.getD (blk ent k) [])[j] < (n : Int)) → FI n to ent k j rows → FI n to ent k (j + 1) rows) := fun rows j hj hx h => h.out hj hx
      have FY : Hid (∀ rows j (hj : j < (to.getD (blk ent k) []).length) (y : Nat), (to.getD (blk ent k) [])[j] = (y : Int) → y < n → y ∈ ent.map (·.1) → FI n to ent k j rows → FI n to ent k (j + 1) (pu rows (idx ent y) (rows (idx ent y) ++ [k]))) := fun rows j hj y h1 h2 h3 h => h.in D3.out.nd hj hk' h1 h2 h3
      have WY : Hid (∀ j (hj : j < (to.getD (blk ent k) []).length) (y : Nat), (to.getD (blk ent k) [])[j] = (y : Int) → y < n → y ∈ ent.map (·.1)) := fun j hj y h1 h2 => (ALL.out y).2 (((ALL.out _).1 (idx_blk D3.out.nd hk').2).step (show y ∈ wy n to (blk ent k) from keep_mem.2 ⟨by rw [← h1]; exact List.getElem_mem hj, h2⟩) (by omega))
      have LL : (to.getD (blk ent k) []).length ≤ 200 := LB.out _
      generalize to.getD (blk ent k) [] = L at *
      go_wp2_with (go_at_call 35; refine GC.out.mono ?_; rintro e w5 ⟨v5, rfl, hn5, hw5⟩; rw [hw5]; clear hw5 w5; obtain ⟨A5, C5, rfl, hn6⟩ := hn5; have HN : Hid (∀ i (h : i < L.length), ∃ b o, A5 = some ⟨b, o, none⟩ ∧ b < w.heap.size ∧ w.cell? ⟨b, o + i, none⟩ = some (.int .i64 (L[i]'h))) := hn6; clear hn6)
      go_loopw [45] (fun jv wz => ∃ (j : Nat) (us : Nat → Value) (rows : Nat → List Nat), j ≤ L.length ∧ jv = .int .i64 (j : Int) ∧ RR wz fb ent.length us rows ∧ Below fb w4 wz ∧ FI n to ent k j rows) (fun jv _ => L.length - (intOf jv).toNat)
      case atStart => exact ⟨0, _, _, Nat.zero_le _, rfl, R1.out, B1.out, F1.out⟩
      case round =>
        rename World => wz
        obtain ⟨j, us, rows, hj, rfl, hR, hB, hF⟩ := hrel
        have R2 : Hid (RR wz fb ent.length us rows) := hR
        have B2 : Hid (Below fb w4 wz) := hB
        have F2 : Hid (FI n to ent k j rows) := hF
        clear hR hB hF R1 F1
        rcases Nat.lt_or_ge j L.length with hj' | hj'
        · have hjz : (j : Int) < L.length := by omega
          have BZ : Hid (Below w.heap.size w wz) := B4.out.trans (B2.out.mono (by omega))
          obtain ⟨b1, o1, rfl, hb1, hc1⟩ := HN.out j hj'
          have e1 : wz.cell? ⟨b1, o1 + j, none⟩ = some (.int .i64 L[j]) := (BZ.out.cell (p := ⟨b1, o1 + j, none⟩) hb1).trans hc1
          have FO2 : Hid (¬ (0 ≤ L[j] ∧ L[j] < (n : Int)) → FI n to ent k (j + 1) rows) := fun hx => FO.out rows j hj' hx F2.out
          have FY2 : Hid (∀ (y : Nat), L[j] = (y : Int) → y < n → y ∈ ent.map (·.1) → FI n to ent k (j + 1) (pu rows (idx ent y) (rows (idx ent y) ++ [k]))) := fun y h1 h2 h3 => FY.out rows j hj' y h1 h2 h3 F2.out
          have WY2 : Hid (∀ (y : Nat), L[j] = (y : Int) → y < n → y ∈ ent.map (·.1)) := fun y h1 h2 => WY.out j hj' y h1 h2
          clear hc1
          generalize L[j] = x at *
          by_cases hx : 0 ≤ x ∧ x < (n : Int)
          · obtain ⟨y, rfl⟩ : ∃ y : Nat, x = (y : Int) := ⟨x.toNat, by omega⟩
            have hyn : y < n := by omega
            have hyz : (y : Int) < n := by omega
            have I2 : Hid (∀ w, Calls Try.prog 22 #[.int .i64 (n : Int), .int .i64 (y : Int)] w fun e w' => e = .returned (.bool true) ∧ w' = w) := fun w => by
              have := isBlock_c n (y : Int) w
              rwa [decide_eq_true hx] at this
            have hye := WY2.out y rfl hyn
            have FF := FY2.out y rfl hyn hye
            obtain ⟨_, hqm⟩ := blk_idx hye
            have etf : tof ent y = (idx ent y : Int) := if_pos hye
            generalize idx ent y = q at *
            have hqz : (q : Int) < ent.length := by omega
            have FF2 : Hid (FI n to ent k (j + 1) (pu rows q (rows q ++ [k]))) := FF
            have O2 : ON (fb + 1) (rows q) (us q) wz := R2.out.2.1 q hqm
            have hrl : (rows q).length ≤ 9000 := by have := (F2.out q hqm).2; omega
            obtain ⟨Aq, Cq, eq, -⟩ := O2.shape
            have EQ : Hid (us q = .slice Aq (rows q).length Cq) := eq
            have SK : Hid (∀ wq, Below wz.heap.size wz wq → wq.cell? ⟨w.heap.size + 1, 0, none⟩ = some (.pointer (some ⟨w.heap.size, 0, none⟩)) ∧ wq.cell? ⟨w.heap.size, 2, none⟩ = some (.slice (some ⟨fb, 0, none⟩) ent.length ent.length) ∧ wq.cell? ⟨w.heap.size + 3, 0, none⟩ = some (.slice (some ⟨w.heap.size + 2, 0, none⟩) n n) ∧ wq.cell? ⟨w.heap.size + 2, y, none⟩ = some (.int .i64 (q : Int)) ∧ wq.cell? ⟨fb, q, none⟩ = some (.slice Aq (rows q).length Cq)) := fun wq hb => by
              have hb' : Below fb w4 wq := B2.out.trans (hb.mono (Nat.le_of_lt R2.out.lt))
              refine ⟨(hb'.cell (p := ⟨w.heap.size + 1, 0, none⟩) (show w.heap.size + 1 < fb by omega)).trans c4a, (hb'.cell (p := ⟨w.heap.size, 2, none⟩) (show w.heap.size < fb by omega)).trans (TS4.out.1.cell 2), (hb'.cell (p := ⟨w.heap.size + 3, 0, none⟩) (show w.heap.size + 3 < fb by omega)).trans (AS4.out.cell 0), ?_, ?_⟩
              · rw [(hb'.cell (p := ⟨w.heap.size + 2, y, none⟩) (show w.heap.size + 2 < fb by omega)), IT4.out.cell y hyn, etf]
              · rw [(hb.cell (p := ⟨fb, q, none⟩) R2.out.lt), R2.out.cell q hqm, EQ.out]
            have RA : Hid (RR (wz.drew.alloc (.cells (iN k).toArray 3)) fb ent.length us rows) := R2.out.kp (Kp.of_below (F := fun _ => False) (below_next (below_drew _) (below_alloc _ _))) fun _ h => h.elim
            have OA : Hid (ON (fb + 1) (rows q) (.slice Aq (rows q).length Cq) (wz.drew.alloc (.cells (iN k).toArray 3))) := (by rw [← EQ.out]; exact RA.out.2.1 q hqm : ON (fb + 1) (rows q) (.slice Aq (rows q).length Cq) (wz.drew.alloc (.cells (iN k).toArray 3)))
            clear hx O2 eq FF FO2 FY2 WY2
            go_wp2_with (go_at_call 22; refine (I2.out _).mono ?_; rintro e w6 ⟨rfl, hw6⟩; rw [hw6]; clear hw6 w6)
            refine wp_region_N (fun w' => w'.cell? ⟨w.heap.size + 1, 0, none⟩ = some (.pointer (some ⟨w.heap.size, 0, none⟩)) ∧ w'.cell? ⟨w.heap.size, 2, none⟩ = some (.slice (some ⟨fb, 0, none⟩) ent.length ent.length) ∧ w'.cell? ⟨w.heap.size + 3, 0, none⟩ = some (.slice (some ⟨w.heap.size + 2, 0, none⟩) n n) ∧ w'.cell? ⟨w.heap.size + 2, y, none⟩ = some (.int .i64 (q : Int)) ∧ w'.cell? ⟨fb, q, none⟩ = some (.slice Aq (rows q).length Cq)) (fun j => j != 22) mixed (SK.out _ (below_drew _)) ?_
            intro S0
            refine wpAnyN_take (i := 0) (v := .pointer (some ⟨w.heap.size, 0, none⟩)) rfl (by kernel_rfl) (by kernel_rfl) (by kernel_rfl) (by kernel_rfl) (fun _ _ _ h => h) (Or.inl ⟨by rfl, ?_⟩) S0 ?_
            · intro w' hS'
              obtain ⟨h1, h2, h3, h4, h5⟩ := hS'
              go_simp
            (try simp only [Act.put, List.getElem_toArray, List.getElem_cons_zero, List.setIfInBounds_toArray, List.set_cons_zero, List.set_cons_succ])
            refine wpAnyN_take (i := 1) (v := .pointer (some ⟨w.heap.size, 0, none⟩)) rfl (by kernel_rfl) (by kernel_rfl) (by kernel_rfl) (by kernel_rfl) (fun _ _ _ h => h) (Or.inl ⟨by rfl, ?_⟩) S0 ?_
            · intro w' hS'
              obtain ⟨h1, h2, h3, h4, h5⟩ := hS'
              go_simp
            (try simp only [Act.put, List.getElem_toArray, List.getElem_cons_succ, List.getElem_cons_zero, List.setIfInBounds_toArray, List.set_cons_zero, List.set_cons_succ])
            refine wpAnyN_take (i := 2) (v := .pointer (some ⟨w.heap.size, 2, none⟩)) rfl (by kernel_rfl) (by kernel_rfl) (by kernel_rfl) (by kernel_rfl) (fun _ _ _ h => h) (Or.inl ⟨by rfl, ?_⟩) S0 ?_
            · intro w' hS'
              obtain ⟨h1, h2, h3, h4, h5⟩ := hS'
              go_simp
            (try simp only [Act.put, List.getElem_toArray, List.getElem_cons_succ, List.getElem_cons_zero, List.setIfInBounds_toArray, List.set_cons_zero, List.set_cons_succ])
            refine wpAnyN_take (i := 3) (v := .slice (some ⟨fb, 0, none⟩) ent.length ent.length) rfl (by kernel_rfl) (by kernel_rfl) (by kernel_rfl) (by kernel_rfl) (fun _ _ _ h => h) (Or.inl ⟨by rfl, ?_⟩) S0 ?_
            · intro w' hS'
              obtain ⟨h1, h2, h3, h4, h5⟩ := hS'
              go_simp
            (try simp only [Act.put, List.getElem_toArray, List.getElem_cons_succ, List.getElem_cons_zero, List.setIfInBounds_toArray, List.set_cons_zero, List.set_cons_succ])
            refine wpAnyN_take (i := 4) (v := .slice (some ⟨w.heap.size + 2, 0, none⟩) n n) rfl (by kernel_rfl) (by kernel_rfl) (by kernel_rfl) (by kernel_rfl) (fun _ _ _ h => h) (Or.inl ⟨by rfl, ?_⟩) S0 ?_
            · intro w' hS'
              obtain ⟨h1, h2, h3, h4, h5⟩ := hS'
              go_simp
            (try simp only [Act.put, List.getElem_toArray, List.getElem_cons_succ, List.getElem_cons_zero, List.setIfInBounds_toArray, List.set_cons_zero, List.set_cons_succ])
            refine wpAnyN_take (i := 5) (v := .int .i64 (y : Int)) rfl (by kernel_rfl) (by kernel_rfl) (by kernel_rfl) (by kernel_rfl) (fun _ _ _ h => h) (Or.inl ⟨by rfl, ?_⟩) S0 ?_
            · intro w' hS'
              obtain ⟨h1, h2, h3, h4, h5⟩ := hS'
              go_simp
            (try simp only [Act.put, List.getElem_toArray, List.getElem_cons_succ, List.getElem_cons_zero, List.setIfInBounds_toArray, List.set_cons_zero, List.set_cons_succ])
            refine wpAnyN_take (i := 6) (v := .pointer (some ⟨w.heap.size + 2, y, none⟩)) rfl (by kernel_rfl) (by kernel_rfl) (by kernel_rfl) (by kernel_rfl) (fun _ _ _ h => h) (Or.inl ⟨by rfl, ?_⟩) S0 ?_
            · intro w' hS'
              obtain ⟨h1, h2, h3, h4, h5⟩ := hS'
              go_simp
            (try simp only [Act.put, List.getElem_toArray, List.getElem_cons_succ, List.getElem_cons_zero, List.setIfInBounds_toArray, List.set_cons_zero, List.set_cons_succ])
            refine wpAnyN_take (i := 7) (v := .int .i64 (q : Int)) rfl (by kernel_rfl) (by kernel_rfl) (by kernel_rfl) (by kernel_rfl) (fun _ _ _ h => h) (Or.inl ⟨by rfl, ?_⟩) S0 ?_
            · intro w' hS'
              obtain ⟨h1, h2, h3, h4, h5⟩ := hS'
              go_simp
            (try simp only [Act.put, List.getElem_toArray, List.getElem_cons_succ, List.getElem_cons_zero, List.setIfInBounds_toArray, List.set_cons_zero, List.set_cons_succ])
            refine wpAnyN_take (i := 8) (v := .pointer (some ⟨w.heap.size, 0, none⟩)) rfl (by kernel_rfl) (by kernel_rfl) (by kernel_rfl) (by kernel_rfl) (fun _ _ _ h => h) (Or.inl ⟨by rfl, ?_⟩) S0 ?_
            · intro w' hS'
              obtain ⟨h1, h2, h3, h4, h5⟩ := hS'
              go_simp
            (try simp only [Act.put, List.getElem_toArray, List.getElem_cons_succ, List.getElem_cons_zero, List.setIfInBounds_toArray, List.set_cons_zero, List.set_cons_succ])
            refine wpAnyN_take (i := 9) (v := .pointer (some ⟨w.heap.size, 0, none⟩)) rfl (by kernel_rfl) (by kernel_rfl) (by kernel_rfl) (by kernel_rfl) (fun _ _ _ h => h) (Or.inl ⟨by rfl, ?_⟩) S0 ?_
            · intro w' hS'
              obtain ⟨h1, h2, h3, h4, h5⟩ := hS'
              go_simp
            (try simp only [Act.put, List.getElem_toArray, List.getElem_cons_succ, List.getElem_cons_zero, List.setIfInBounds_toArray, List.set_cons_zero, List.set_cons_succ])
            refine wpAnyN_take (i := 10) (v := .pointer (some ⟨w.heap.size, 2, none⟩)) rfl (by kernel_rfl) (by kernel_rfl) (by kernel_rfl) (by kernel_rfl) (fun _ _ _ h => h) (Or.inl ⟨by rfl, ?_⟩) S0 ?_
            · intro w' hS'
              obtain ⟨h1, h2, h3, h4, h5⟩ := hS'
              go_simp
            (try simp only [Act.put, List.getElem_toArray, List.getElem_cons_succ, List.getElem_cons_zero, List.setIfInBounds_toArray, List.set_cons_zero, List.set_cons_succ])
            refine wpAnyN_take (i := 11) (v := .slice (some ⟨fb, 0, none⟩) ent.length ent.length) rfl (by kernel_rfl) (by kernel_rfl) (by kernel_rfl) (by kernel_rfl) (fun _ _ _ h => h) (Or.inl ⟨by rfl, ?_⟩) S0 ?_
            · intro w' hS'
              obtain ⟨h1, h2, h3, h4, h5⟩ := hS'
              go_simp
            (try simp only [Act.put, List.getElem_toArray, List.getElem_cons_succ, List.getElem_cons_zero, List.setIfInBounds_toArray, List.set_cons_zero, List.set_cons_succ])
            refine wpAnyN_take (i := 12) (v := .slice (some ⟨w.heap.size + 2, 0, none⟩) n n) rfl (by kernel_rfl) (by kernel_rfl) (by kernel_rfl) (by kernel_rfl) (fun _ _ _ h => h) (Or.inl ⟨by rfl, ?_⟩) S0 ?_
            · intro w' hS'
              obtain ⟨h1, h2, h3, h4, h5⟩ := hS'
              go_simp
            (try simp only [Act.put, List.getElem_toArray, List.getElem_cons_succ, List.getElem_cons_zero, List.setIfInBounds_toArray, List.set_cons_zero, List.set_cons_succ])
            refine wpAnyN_take (i := 13) (v := .int .i64 (y : Int)) rfl (by kernel_rfl) (by kernel_rfl) (by kernel_rfl) (by kernel_rfl) (fun _ _ _ h => h) (Or.inl ⟨by rfl, ?_⟩) S0 ?_
            · intro w' hS'
              obtain ⟨h1, h2, h3, h4, h5⟩ := hS'
              go_simp
            (try simp only [Act.put, List.getElem_toArray, List.getElem_cons_succ, List.getElem_cons_zero, List.setIfInBounds_toArray, List.set_cons_zero, List.set_cons_succ])
            refine wpAnyN_take (i := 14) (v := .pointer (some ⟨w.heap.size + 2, y, none⟩)) rfl (by kernel_rfl) (by kernel_rfl) (by kernel_rfl) (by kernel_rfl) (fun _ _ _ h => h) (Or.inl ⟨by rfl, ?_⟩) S0 ?_
            · intro w' hS'
              obtain ⟨h1, h2, h3, h4, h5⟩ := hS'
              go_simp
            (try simp only [Act.put, List.getElem_toArray, List.getElem_cons_succ, List.getElem_cons_zero, List.setIfInBounds_toArray, List.set_cons_zero, List.set_cons_succ])
            refine wpAnyN_take (i := 15) (v := .int .i64 (q : Int)) rfl (by kernel_rfl) (by kernel_rfl) (by kernel_rfl) (by kernel_rfl) (fun _ _ _ h => h) (Or.inl ⟨by rfl, ?_⟩) S0 ?_
            · intro w' hS'
              obtain ⟨h1, h2, h3, h4, h5⟩ := hS'
              go_simp
            (try simp only [Act.put, List.getElem_toArray, List.getElem_cons_succ, List.getElem_cons_zero, List.setIfInBounds_toArray, List.set_cons_zero, List.set_cons_succ])
            refine wpAnyN_take (i := 16) (v := .pointer (some ⟨fb, q, none⟩)) rfl (by kernel_rfl) (by kernel_rfl) (by kernel_rfl) (by kernel_rfl) (fun _ _ _ h => h) (Or.inl ⟨by rfl, ?_⟩) S0 ?_
            · intro w' hS'
              obtain ⟨h1, h2, h3, h4, h5⟩ := hS'
              go_simp
            (try simp only [Act.put, List.getElem_toArray, List.getElem_cons_succ, List.getElem_cons_zero, List.setIfInBounds_toArray, List.set_cons_zero, List.set_cons_succ])
            refine wpAnyN_take (i := 17) (v := .slice Aq (rows q).length Cq) rfl (by kernel_rfl) (by kernel_rfl) (by kernel_rfl) (by kernel_rfl) (fun _ _ _ h => h) (Or.inl ⟨by rfl, ?_⟩) S0 ?_
            · intro w' hS'
              obtain ⟨h1, h2, h3, h4, h5⟩ := hS'
              go_simp
            (try simp only [Act.put, List.getElem_toArray, List.getElem_cons_succ, List.getElem_cons_zero, List.setIfInBounds_toArray, List.set_cons_zero, List.set_cons_succ])
            refine wpAnyN_take (i := 18) (v := .int .i64 (k : Int)) rfl (by kernel_rfl) (by kernel_rfl) (by kernel_rfl) (by kernel_rfl) (fun _ _ _ h => h) (Or.inl ⟨by rfl, ?_⟩) S0 ?_
            · intro w' hS'
              obtain ⟨h1, h2, h3, h4, h5⟩ := hS'
              go_simp
            (try simp only [Act.put, List.getElem_toArray, List.getElem_cons_succ, List.getElem_cons_zero, List.setIfInBounds_toArray, List.set_cons_zero, List.set_cons_succ])
            refine wpAnyN_one (i := 19) (by kernel_rfl) rfl (fun K hK => ?_)
            go_simp
            refine hK _ _ (fun h => SK.out _ (below_next (below_drew _) (below_alloc _ _))) ?_
            clear hK K
            (try simp only [Act.put, List.getElem_toArray, List.getElem_cons_succ, List.getElem_cons_zero, List.setIfInBounds_toArray, List.set_cons_zero, List.set_cons_succ])
            refine wpAnyN_one (i := 20) (by kernel_rfl) rfl (fun K hK => ?_)
            rw [if_pos (by rfl)]
            refine OwnB.appendN 28 3 iN _ 1 8 infoInt Try.underlying28 rfl (by decide) (by decide) iN_len iN_one _ _ _ rfl (.slice Aq (rows q).length Cq) (by rfl) (fb + 1) (rows q) [k] OA.out ⟨wz.heap.size, 0, none⟩ 1 (by rfl) (fun j u hj => cells_new _ (iN k) 3 j u (by simpa using hj)) (by simp; omega) ?_
            intro v7 w7 ho hb7 hk7 hv7
            obtain ⟨AA, CC, ev7, -⟩ := ON.shape ho
            have ev8 : v7 = .slice AA ((rows q).length + 1) CC := by
              rw [ev7, List.length_append]
              rfl
            clear ev7
            subst ev8
            have R7 : Hid (RR (w7.setCell ⟨fb, q, none⟩ (.slice AA ((rows q).length + 1) CC)) fb ent.length (pu us q (.slice AA ((rows q).length + 1) CC)) (pu rows q (rows q ++ [k]))) := RA.out.put hqm ho hb7 (by rw [EQ.out]; exact hk7) (by rw [EQ.out]; exact hv7)
            have B7 : Hid (Below fb w4 w7) := B2.out.trans (((below_next (below_drew _) (below_alloc _ _)).mono (Nat.le_of_lt R2.out.lt)).trans (hb7.mono (by omega)))
            have B8 : Hid (Below fb w4 (w7.setCell ⟨fb, q, none⟩ (.slice AA ((rows q).length + 1) CC))) := below_set B7.out (Nat.le_refl _) _
            have a7 := RA.out.1.below hb7 (by omega)
            have c7 : w7.cell? ⟨fb, q, none⟩ = some (.slice Aq (rows q).length Cq) := by rw [a7.cell, vC_get, if_pos hqm, EQ.out]
            have f7 := a7.frozen q
            have S7 : w7.cell? ⟨w.heap.size + 1, 0, none⟩ = some (.pointer (some ⟨w.heap.size, 0, none⟩)) ∧ w7.cell? ⟨w.heap.size, 2, none⟩ = some (.slice (some ⟨fb, 0, none⟩) ent.length ent.length) ∧ w7.cell? ⟨w.heap.size + 3, 0, none⟩ = some (.slice (some ⟨w.heap.size + 2, 0, none⟩) n n) ∧ w7.cell? ⟨w.heap.size + 2, y, none⟩ = some (.int .i64 (q : Int)) ∧ w7.cell? ⟨fb, q, none⟩ = some (.slice Aq (rows q).length Cq) := by
              refine ⟨(B7.out.cell (p := ⟨w.heap.size + 1, 0, none⟩) (show w.heap.size + 1 < fb by omega)).trans c4a, (B7.out.cell (p := ⟨w.heap.size, 2, none⟩) (show w.heap.size < fb by omega)).trans (TS4.out.1.cell 2), (B7.out.cell (p := ⟨w.heap.size + 3, 0, none⟩) (show w.heap.size + 3 < fb by omega)).trans (AS4.out.cell 0), ?_, c7⟩
              rw [(B7.out.cell (p := ⟨w.heap.size + 2, y, none⟩) (show w.heap.size + 2 < fb by omega)), IT4.out.cell y hyn, etf]
            clear ho hb7 hk7 hv7 a7
            refine hK _ _ (fun _ => S7) ?_
            clear hK K
            (try simp only [Act.put, List.getElem_toArray, List.getElem_cons_succ, List.getElem_cons_zero, List.setIfInBounds_toArray, List.set_cons_zero, List.set_cons_succ])
            refine wpAnyN_one (i := 21) (by kernel_rfl) rfl (fun K hK => ?_)
            go_simp
            refine hK _ _ (fun h => S7) ?_
            clear hK K
            (try simp only [Act.put, List.getElem_toArray, List.getElem_cons_succ, List.getElem_cons_zero, List.setIfInBounds_toArray, List.set_cons_zero, List.set_cons_succ])
            refine wpAnyN_one (i := 22) (by kernel_rfl) rfl (fun K hK => ?_)
            go_simp
            refine hK _ _ (fun h => by cases h) ?_
            clear hK K
            (try simp only [Act.put, List.getElem_toArray, List.getElem_cons_succ, List.getElem_cons_zero, List.setIfInBounds_toArray, List.set_cons_zero, List.set_cons_succ])
            refine wpAnyN_done (by kernel_rfl) ?_ _
            clear S0 S7 SK c7 f7 OA RA R2
            go_wp2
            go_roundw
            case rel => exact ⟨j + 1, _, _, by omega, by go_num, R7.out, B8.out, FF2.out⟩
            case measure => simp [intOf]; omega
          · have I2 : Hid (∀ w, Calls Try.prog 22 #[.int .i64 (n : Int), .int .i64 x] w fun e w' => e = .returned (.bool false) ∧ w' = w) := fun w => by
              have := isBlock_c n x w
              rwa [decide_eq_false hx] at this
            have FF : Hid (FI n to ent k (j + 1) rows) := FO2.out hx
            clear hx
            go_wp2_with (go_at_call 22; refine (I2.out _).mono ?_; rintro e w6 ⟨rfl, hw6⟩; rw [hw6]; clear hw6 w6)
            go_roundw
            case rel => exact ⟨j + 1, us, rows, by omega, by go_num, R2.out, B2.out, FF.out⟩
            case measure => simp [intOf]; omega
        · have hjz : ¬ (j : Int) < L.length := by omega
          obtain rfl : j = L.length := by omega
          go_wp2
          go_roundw
          case rel => exact ⟨k + 1, us, rows, by omega, by go_num, R2.out, B2.out, FN.out rows F2.out⟩
          case measure => simp [intOf]; omega
    · have hkz : ¬ (k : Int) < ent.length := by omega
      obtain rfl : k = ent.length := by omega
      go_wp2
      go_ret
      exact ⟨rfl, B4.out.trans (B1.out.mono (by omega)), ent, ⟨lfl, D3.out⟩, hmn, _, _, fb, us, rows, TS4.out.rows B1.out R1.out, F1.out⟩
end Go.Proofs.Ytmmgdiecmokipaa
