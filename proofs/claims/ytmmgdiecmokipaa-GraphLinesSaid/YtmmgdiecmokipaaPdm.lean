/-
  Proved: what the program's Doms answers.
-/
import Derived.Test.YtmmgdiecmokipaaPdd
namespace Go.Proofs.Ytmmgdiecmokipaa
open Go.RowKit

section
variable {n : Nat} {to : List (List Int)} {ent : List (Nat × Int)} {lfl : List Nat}

theorem Done.zero (h : Done n to ent lfl) : 0 < ent.length ∧ blk ent 0 = 0 := by
  obtain ⟨r, rfl⟩ := h.hd
  exact ⟨by simp, rfl⟩

theorem Done.inj (h : Done n to ent lfl) {a b : Nat} (ha : a < ent.length) (hb : b < ent.length) (e : blk ent a = blk ent b) : a = b := by
  rw [← (idx_blk h.nd ha).1, e, (idx_blk h.nd hb).1]

theorem Done.lt (h : Done n to ent lfl) (hn : 0 < n) {t : Nat} (ht : t < ent.length) : blk ent t < n := by
  have hr := (h.all _).1 (idx_blk h.nd ht).2
  have h5 : blk ent t < n ∨ blk ent t = 0 := hr.2 (fun x => x < n ∨ x = 0) (Or.inr rfl) fun a b _ hb _ => Or.inl (wy_lt n to a b hb)
  omega

/-- Ways of turns and of blocks. -/
theorem Done.ra (h : Done n to ent lfl) {x t : Nat} (hx : x < ent.length) (ht : t < ent.length) : RA (Ed n to ent) x t ↔ Rch (wy n to) (blk ent x : Int) (blk ent t) := by
  obtain ⟨h0, hz⟩ := h.zero
  constructor
  · intro hr
    have hx0 : (blk ent x : Int) ≠ 0 := fun e => hr.1 (h.inj hx h0 (by rw [hz]; omega))
    exact (hr.2 (fun t' => t' < ent.length ∧ Rch (wy n to) (blk ent x : Int) (blk ent t')) ⟨h0, by rw [hz]; exact Rch.zero hx0⟩ fun a b ha hE hb => ⟨hE.2.1, ha.2.step hE.2.2 fun e => hb (h.inj hE.2.1 hx (by omega))⟩).2
  · intro hr
    have hx0 : x ≠ 0 := fun e => hr.1 (by rw [e, hz]; rfl)
    obtain ⟨t', ht', e, hra⟩ := hr.2 (fun y => ∃ t', t' < ent.length ∧ blk ent t' = y ∧ RA (Ed n to ent) x t') ⟨0, h0, hz, RA.zero hx0⟩ fun a b ha hb hne => by
      obtain ⟨t', ht', rfl, hra⟩ := ha
      have hrb : Rch (wy n to) (-1) b := ((h.all _).1 (idx_blk h.nd ht').2).step hb (by omega)
      have hbe := (h.all b).2 hrb
      obtain ⟨e1, e2⟩ := blk_idx hbe
      exact ⟨idx ent b, e2, e1, hra.step ⟨ht', e2, by rw [e1]; exact hb⟩ fun e => hne (by rw [← e1, e])⟩
    rw [← h.inj ht' ht e]
    exact hra

/-- The nearest one. -/
theorem Done.near (h : Done n to ent lfl) {s d : Nat → Nat} (hS : ∀ x, 0 < x → x < ent.length → Sm ent.length (par ent) (Ed n to ent) s x) (hD : ∀ x, 0 < x → x < ent.length → ∃ u, Bst (par ent) s x u ∧ d x = if s u < s x then d u else s x) {t : Nat} (h0 : 0 < t) (ht : t < ent.length) : Near (wy n to) (blk ent t) (blk ent (d t)) := by
  have T := h.tr
  have low : ∀ x, 0 < x → x < ent.length → d x < x := fun x h1 h2 => by
    have a := dle hD T x h1 h2
    have b := (T.semi hS ent.length x h1 h2 (by omega)).2
    omega
  have hdt := low t h0 ht
  have hdm : d t < ent.length := by omega
  have hDom : Dom (wy n to) (blk ent (d t)) (blk ent t) := ⟨fun e => by have := h.inj hdm ht e; omega, (h.all _).1 (idx_blk h.nd hdm).2, fun hr => T.passed hS hD t h0 ht ((h.ra hdm ht).2 hr)⟩
  refine ⟨hDom, fun e he hne => ?_⟩
  rcases dom_chain ((h.all _).1 (idx_blk h.nd ht).2) hDom he hne with h1 | h1
  · exact h1
  · exfalso
    have hee := (h.all e).2 he.2.1
    obtain ⟨e1, e2⟩ := blk_idx hee
    have hx : idx ent e ≤ d t := T.nearest hS hD t h0 ht (idx ent e) (fun e3 => he.1 (by rw [← e1, e3])) fun hr => he.2.2 (by have := (h.ra e2 ht).1 hr; rwa [e1] at this)
    rcases Nat.eq_zero_or_pos (idx ent e) with hz | hz
    · have : e = 0 := by rw [← e1, hz]; exact h.zero.2
      subst this
      exact dom_zero h1
    · have h2 : d t ≤ d (idx ent e) := T.nearest hS hD (idx ent e) hz e2 (d t) (fun e3 => h1.1 (by rw [e3, e1])) fun hr => h1.2.2 (by have := (h.ra hdm e2).1 hr; rwa [e1] at this)
      have := low (idx ent e) hz e2
      omega

theorem Done.dm (h : Done n to ent lfl) {s d : Nat → Nat} (hS : ∀ x, 0 < x → x < ent.length → Sm ent.length (par ent) (Ed n to ent) s x) (hD : ∀ x, 0 < x → x < ent.length → ∃ u, Bst (par ent) s x u ∧ d x = if s u < s x then d u else s x) {F : Nat → Int} (hF1 : ∀ t, 0 < t → t < ent.length → F (blk ent t) = (blk ent (d t) : Int)) (hF2 : ∀ b, b < n → (∀ t, 0 < t → t < ent.length → blk ent t ≠ b) → F b = -1) {b : Nat} (hb : b < n) : F b = dm n to b := by
  by_cases hr : 0 < b ∧ Rch (wy n to) (-1) b
  · obtain ⟨d', _, e1, e2⟩ := dm_near n to b hr.1 hb hr.2
    have hbe := (h.all b).2 hr.2
    obtain ⟨q1, q2⟩ := blk_idx hbe
    have h0 : 0 < idx ent b := Nat.pos_of_ne_zero fun e => by rw [e, h.zero.2] at q1; omega
    have h1 := hF1 (idx ent b) h0 q2
    have h2 := h.near hS hD h0 q2
    rw [q1] at h1 h2
    rw [h1, e1, near_one h2 e2]
  · rw [dm_none n to b hr]
    refine hF2 b hb fun t h0 ht e => hr ⟨?_, ?_⟩
    · refine Nat.pos_of_ne_zero fun e0 => ?_
      have := h.inj ht h.zero.1 (by rw [e, e0, h.zero.2])
      omega
    · rw [← e]
      exact (h.all _).1 (idx_blk h.nd ht).2
end

set_option maxRecDepth 20000 in
set_option maxHeartbeats 8000000 in
theorem doms_p (n : Nat) (h0 : 0 < n) (hn : n ≤ 40) (to : List (List Int)) (tv : Value) (w : World) (h : RwsIn w to tv) (hf : Fw to) :
    Calls Try.prog 15 #[.int .i64 (n : Int), tv] w fun e w' => e = .returned (.slice (some ⟨w.heap.size, 0, none⟩) n n) ∧ Below w.heap.size w w' ∧ IZ w' w.heap.size n (dm n to) := by
  have mixed : Try.prog.follows Departure.mixedOrders = true := by kernel_rfl
  have RM : Hid (∀ w, Calls Try.prog 17 #[.int .i64 (n : Int)] w fun e w' => e = .returned (.int .i64 (n : Int)) ∧ w' = w) := fun w => room_c n (by omega) w
  have hmk := make_i n (by omega)
  have TI : Hid (RwsIn w to tv) := h
  have FW : Hid (Fw to) := hf
  have Z0 : Hid (IZ (w.alloc (.cells (madeCells #[.int .i64 0] n) 3)) w.heap.size n (fun j => if j < 0 then -1 else 0)) := (IZ.made w n).ext fun i _ => by simp
  have B0 : Hid (Below w.heap.size w (w.alloc (.cells (madeCells #[.int .i64 0] n) 3))) := below_alloc _ _
  have TC : Hid (∀ w2, Below w.heap.size w w2 → Calls Try.prog 29 #[.int .i64 (n : Int), tv] w2 fun e w' => e = .returned (.pointer (some ⟨w2.heap.size, 0, none⟩)) ∧ Below w2.heap.size w2 w' ∧ ∃ ent lfl, Done n to ent lfl ∧ ent.length ≤ n ∧ ∃ bs cs fb us rows, TS w' w2.heap.size ent.length bs cs fb us rows (fun t => (blk ent t : Int)) (fun t => (par ent t : Int)) (fun t => (t : Int)) (fun _ => -1) (fun t => (t : Int)) ∧ FI n to ent ent.length 0 rows) := fun w2 hb => turnsOf_c n h0 hn to tv w2 (h.below hb) hf
  obtain ⟨A, C, rfl, -⟩ := h
  clear hf
  go_enter Try.func15, Try.ntmps15
  go_wp2_with (go_at_call 17; refine (RM.out _).mono ?_; rintro e w3 ⟨rfl, hw3⟩; rw [hw3]; clear hw3 w3)
  go_loopw [15] (fun kv wr => ∃ k : Nat, k ≤ n ∧ kv = .int .i64 (k : Int) ∧ IZ wr w.heap.size n (fun j => if j < k then -1 else 0) ∧ Below w.heap.size w wr) (fun kv _ => n - (intOf kv).toNat)
  case atStart => exact ⟨0, Nat.zero_le _, rfl, Z0.out, B0.out⟩
  case round =>
    obtain ⟨k, hk, rfl, hZ, hB⟩ := hrel
    have Z1 : Hid (IZ wr w.heap.size n (fun j => if j < k then -1 else 0)) := hZ
    have B1 : Hid (Below w.heap.size w wr) := hB
    clear Z0 B0
    rcases Nat.lt_or_ge k n with hk' | hk'
    · have hkz : (k : Int) < n := by omega
      have ck := hZ.cell k hk'
      have fk := hZ.frozen k
      clear hZ hB
      go_wp2
      go_roundw
      case rel => exact ⟨k + 1, by omega, by go_num, (Z1.out.set k hk' (-1)).ext fun j _ => by
          by_cases e : j = k
          · subst e; rw [pu_self, if_pos (by omega)]
          · rw [pu_ne _ _ e]
            by_cases e2 : j < k
            · rw [if_pos e2, if_pos (by omega)]
            · rw [if_neg e2, if_neg (by omega)], below_set B1.out (Nat.le_refl _) _⟩
      case measure => simp [intOf]; omega
    · have hkz : ¬ (k : Int) < n := by omega
      obtain rfl : k = n := by omega
      clear hZ hB
      go_wp2_with (first
        | (go_at_call 29; refine (TC.out wr B1.out).mono ?_; rintro e w3 ⟨rfl, hb3, ent, lfl, hD3, hmn, bs, cs, fb, us, rows, hts3, hfi3⟩; have D3 : Hid (Done k to ent lfl) := hD3; have T3 : Hid (TS w3 wr.heap.size ent.length bs cs fb us rows (fun t => (blk ent t : Int)) (nI (par ent)) (nI fun t => t) (fun _ => -1) (nI fun t => t)) := hts3; have F3 : Hid (FI k to ent ent.length 0 rows) := hfi3; have B3 : Hid (Below wr.heap.size wr w3) := hb3; clear hD3 hts3 hfi3 hb3)
        | (go_at_call 30; refine (tdoms_c w3 wr.heap.size ent.length bs cs fb us rows _ (par ent) T3.out D3.out.zero.1 (by omega) (Ed k to ent) D3.out.tr (fun x hx => ⟨fun v => by
            rw [(F3.out x hx).1 v]
            simp only [List.take_zero, keep, List.filter_nil, List.map_nil, List.not_mem_nil, and_false, or_false]
            exact ⟨fun h => ⟨h.2.1, hx, h.2.2⟩, fun h => ⟨h.1, h.1, h.2.2⟩⟩, by have := (F3.out x hx).2; omega⟩)).mono ?_; rintro e w4 ⟨rfl, s, d, up4, best4, hz4, hts4, hs4, hd4, hm4, hk4⟩; have Z4 : Hid (IZ w4 w3.heap.size ent.length (nI d)) := hz4; have T4 : Hid (TS w4 wr.heap.size ent.length bs cs fb us rows (fun t => (blk ent t : Int)) (nI (par ent)) (nI s) up4 (nI best4)) := hts4; have S4 : Hid (∀ x, 0 < x → x < ent.length → Sm ent.length (par ent) (Ed k to ent) s x) := hs4; have D4 : Hid (∀ x, 0 < x → x < ent.length → ∃ u, Bst (par ent) s x u ∧ d x = if s u < s x then d u else s x) := hd4; have M4 : Hid (∀ x, x < ent.length → d x < ent.length) := hm4; have K4 : Hid (Kp (fun b => b = bs 3 ∨ b = bs 4 ∨ b = bs 5) w3 w4) := hk4; clear hz4 hts4 hs4 hd4 hm4 hk4))
      have hwr : w.heap.size < wr.heap.size := Z1.out.lt
      have hw3 := B3.out.size
      have bb : ∀ i, i < 6 → i ≠ 2 → wr.heap.size < bs i ∧ bs i < w3.heap.size := fun i hi h2 => ⟨(T3.out.2.2.2.2.2.2.2.1 i hi h2).1, (T3.out.lt (Or.inr (Or.inl ⟨i, hi, h2, rfl⟩))).2⟩
      have B4 : Hid (Below wr.heap.size wr w4) := B3.out.trans (K4.out.below hw3 fun b hb => by rcases hb with h | h | h <;> (subst h; exact Nat.le_of_lt (bb _ (by decide) (by decide)).1))
      have ZD : Hid (IZ w4 w.heap.size k (fun _ => -1)) := by
        have h := Z1.out.kp (G := fun b => wr.heap.size ≤ b) ⟨B4.out.mono (Nat.zero_le _), fun b _ hn => B4.out.block b (by omega)⟩ (by omega)
        exact h.ext fun j hj => by rw [if_pos hj]
      have b0 := bb 0 (by decide) (by decide)
      clear TC RM bb
      go_loopw [29] (fun tv wz => ∃ (t : Nat) (F : Nat → Int), t ≤ ent.length ∧ tv = .int .i64 (t : Int) ∧ (∀ x, 0 < x → x < t → F (blk ent x) = (blk ent (d x) : Int)) ∧ (∀ b, b < k → (∀ x, 0 < x → x < t → blk ent x ≠ b) → F b = -1) ∧ IZ wz w.heap.size k F ∧ Kp (fun b => b = w.heap.size) w4 wz) (fun tv _ => ent.length - (intOf tv).toNat)
      case atStart => exact ⟨0, _, Nat.zero_le _, rfl, fun x h1 h2 => by omega, fun b _ _ => rfl, ZD.out, Kp.refl _ _⟩
      case round =>
        rename World => wz
        obtain ⟨t, F, ht, rfl, hf1, hf2, hZ, hK⟩ := hrel
        have G1 : Hid (∀ x, 0 < x → x < t → F (blk ent x) = (blk ent (d x) : Int)) := hf1
        have G2 : Hid (∀ b, b < k → (∀ x, 0 < x → x < t → blk ent x ≠ b) → F b = -1) := hf2
        have Z5 : Hid (IZ wz w.heap.size k F) := hZ
        have K5 : Hid (Kp (fun b => b = w.heap.size) w4 wz) := hK
        clear hf1 hf2 hZ hK
        rcases Nat.lt_or_ge t ent.length with ht' | ht'
        · have htz : (t : Int) < ent.length := by omega
          have hdm := M4.out t ht'
          have hdz : (d t : Int) < ent.length := by omega
          have c1 : wz.cell? ⟨w3.heap.size, t, none⟩ = some (.int .i64 (d t : Int)) := (Z4.out.kp K5.out (by omega)).cell t ht'
          rcases Nat.eq_zero_or_pos t with ht0 | ht0
          · subst ht0
            go_wp2
            go_roundw
            case rel => exact ⟨1, F, by omega, by go_num, fun x h1 h2 => by omega, fun b hb hx => G2.out b hb fun x h1 h2 => by omega, Z5.out, K5.out⟩
            case measure => simp [intOf]; omega
          · have ht0z : (0 : Int) < (t : Int) := by omega
            have hbt := D3.out.lt h0 ht'
            have hbtz : (blk ent t : Int) < k := by omega
            have T5 : Hid (TS wz wr.heap.size ent.length bs cs fb us rows (fun t => (blk ent t : Int)) (nI (par ent)) (nI s) up4 (nI best4)) := T4.out.kp K5.out fun b hb hts => by have := (T4.out.lt hts).1; omega
            have SK : Hid (∀ wq, Below wz.heap.size wz wq → wq.cell? ⟨wr.heap.size, 0, none⟩ = some (.slice (some ⟨bs 0, 0, none⟩) ent.length (cs 0)) ∧ wq.cell? ⟨bs 0, t, none⟩ = some (.int .i64 (blk ent t : Int)) ∧ wq.cell? ⟨bs 0, d t, none⟩ = some (.int .i64 (blk ent (d t) : Int))) := fun wq hb => by
              have q := T5.out.new hb
              exact ⟨q.1.cell 0, q.2.1.cell t ht', q.2.1.cell _ hdm⟩
            have cd := Z5.out.cell _ hbt
            have fd := Z5.out.frozen (blk ent t)
            have NX : Hid ((∀ x, 0 < x → x < t + 1 → pu F (blk ent t) (blk ent (d t) : Int) (blk ent x) = (blk ent (d x) : Int)) ∧ (∀ b, b < k → (∀ x, 0 < x → x < t + 1 → blk ent x ≠ b) → pu F (blk ent t) (blk ent (d t) : Int) b = -1)) := by
              refine ⟨fun x h1 h2 => ?_, fun b hb hx => ?_⟩
              · by_cases e : x = t
                · subst e; rw [pu_self]
                · rw [pu_ne _ _ (fun e2 => e (D3.out.inj (by omega) ht' e2))]
                  exact G1.out x h1 (by omega)
              · rw [pu_ne _ _ (fun e => hx t ht0 (by omega) e.symm)]
                exact G2.out b hb fun x h1 h2 => hx x h1 (by omega)
            have Z6 : Hid (IZ (wz.setCell ⟨w.heap.size, blk ent t, none⟩ (.int .i64 (blk ent (d t) : Int))).drew w.heap.size k (pu F (blk ent t) (blk ent (d t) : Int))) := (Z5.out.set _ hbt _).kp (Kp.of_below (F := fun _ => False) (below_drew _)) (fun h => h)
            have K6 : Hid (Kp (fun b => b = w.heap.size) w4 (wz.setCell ⟨w.heap.size, blk ent t, none⟩ (.int .i64 (blk ent (d t) : Int))).drew) := (K5.out.trans (Kp.set _ _ _ rfl)).drew
            generalize blk ent t = bt at *
            generalize blk ent (d t) = bd at *
            generalize d t = dt at *
            go_wp2
            refine wp_region_N (fun w' => w'.cell? ⟨wr.heap.size, 0, none⟩ = some (.slice (some ⟨bs 0, 0, none⟩) ent.length (cs 0)) ∧ w'.cell? ⟨bs 0, t, none⟩ = some (.int .i64 (bt : Int)) ∧ w'.cell? ⟨bs 0, dt, none⟩ = some (.int .i64 (bd : Int))) (fun j => j != 16) mixed (SK.out _ (below_drew _)) ?_
            intro S0
            refine wpAnyN_take (i := 0) (v := .slice (some ⟨w.heap.size, 0, none⟩) k k) rfl (by kernel_rfl) (by kernel_rfl) (by kernel_rfl) (by kernel_rfl) (fun _ _ _ h => h) (Or.inl ⟨by rfl, ?_⟩) S0 ?_
            · intro w' hS'
              obtain ⟨h1, h2, h3⟩ := hS'
              go_simp
            (try simp only [Act.put, List.getElem_toArray, List.getElem_cons_zero, List.setIfInBounds_toArray, List.set_cons_zero, List.set_cons_succ])
            refine wpAnyN_take (i := 1) (v := .pointer (some ⟨wr.heap.size, 0, none⟩)) rfl (by kernel_rfl) (by kernel_rfl) (by kernel_rfl) (by kernel_rfl) (fun _ _ _ h => h) (Or.inl ⟨by rfl, ?_⟩) S0 ?_
            · intro w' hS'
              obtain ⟨h1, h2, h3⟩ := hS'
              go_simp
            (try simp only [Act.put, List.getElem_toArray, List.getElem_cons_succ, List.getElem_cons_zero, List.setIfInBounds_toArray, List.set_cons_zero, List.set_cons_succ])
            refine wpAnyN_take (i := 2) (v := .pointer (some ⟨wr.heap.size, 0, none⟩)) rfl (by kernel_rfl) (by kernel_rfl) (by kernel_rfl) (by kernel_rfl) (fun _ _ _ h => h) (Or.inl ⟨by rfl, ?_⟩) S0 ?_
            · intro w' hS'
              obtain ⟨h1, h2, h3⟩ := hS'
              go_simp
            (try simp only [Act.put, List.getElem_toArray, List.getElem_cons_succ, List.getElem_cons_zero, List.setIfInBounds_toArray, List.set_cons_zero, List.set_cons_succ])
            refine wpAnyN_take (i := 3) (v := .pointer (some ⟨wr.heap.size, 0, none⟩)) rfl (by kernel_rfl) (by kernel_rfl) (by kernel_rfl) (by kernel_rfl) (fun _ _ _ h => h) (Or.inl ⟨by rfl, ?_⟩) S0 ?_
            · intro w' hS'
              obtain ⟨h1, h2, h3⟩ := hS'
              go_simp
            (try simp only [Act.put, List.getElem_toArray, List.getElem_cons_succ, List.getElem_cons_zero, List.setIfInBounds_toArray, List.set_cons_zero, List.set_cons_succ])
            refine wpAnyN_take (i := 4) (v := .slice (some ⟨bs 0, 0, none⟩) ent.length (cs 0)) rfl (by kernel_rfl) (by kernel_rfl) (by kernel_rfl) (by kernel_rfl) (fun _ _ _ h => h) (Or.inl ⟨by rfl, ?_⟩) S0 ?_
            · intro w' hS'
              obtain ⟨h1, h2, h3⟩ := hS'
              go_simp
            (try simp only [Act.put, List.getElem_toArray, List.getElem_cons_succ, List.getElem_cons_zero, List.setIfInBounds_toArray, List.set_cons_zero, List.set_cons_succ])
            refine wpAnyN_take (i := 5) (v := .int .i64 (t : Int)) rfl (by kernel_rfl) (by kernel_rfl) (by kernel_rfl) (by kernel_rfl) (fun _ _ _ h => h) (Or.inl ⟨by rfl, ?_⟩) S0 ?_
            · intro w' hS'
              obtain ⟨h1, h2, h3⟩ := hS'
              go_simp
            (try simp only [Act.put, List.getElem_toArray, List.getElem_cons_succ, List.getElem_cons_zero, List.setIfInBounds_toArray, List.set_cons_zero, List.set_cons_succ])
            refine wpAnyN_take (i := 6) (v := .pointer (some ⟨bs 0, t, none⟩)) rfl (by kernel_rfl) (by kernel_rfl) (by kernel_rfl) (by kernel_rfl) (fun _ _ _ h => h) (Or.inl ⟨by rfl, ?_⟩) S0 ?_
            · intro w' hS'
              obtain ⟨h1, h2, h3⟩ := hS'
              go_simp
            (try simp only [Act.put, List.getElem_toArray, List.getElem_cons_succ, List.getElem_cons_zero, List.setIfInBounds_toArray, List.set_cons_zero, List.set_cons_succ])
            refine wpAnyN_take (i := 7) (v := .int .i64 (bt : Int)) rfl (by kernel_rfl) (by kernel_rfl) (by kernel_rfl) (by kernel_rfl) (fun _ _ _ h => h) (Or.inl ⟨by rfl, ?_⟩) S0 ?_
            · intro w' hS'
              obtain ⟨h1, h2, h3⟩ := hS'
              go_simp
            (try simp only [Act.put, List.getElem_toArray, List.getElem_cons_succ, List.getElem_cons_zero, List.setIfInBounds_toArray, List.set_cons_zero, List.set_cons_succ])
            refine wpAnyN_take (i := 8) (v := .pointer (some ⟨wr.heap.size, 0, none⟩)) rfl (by kernel_rfl) (by kernel_rfl) (by kernel_rfl) (by kernel_rfl) (fun _ _ _ h => h) (Or.inl ⟨by rfl, ?_⟩) S0 ?_
            · intro w' hS'
              obtain ⟨h1, h2, h3⟩ := hS'
              go_simp
            (try simp only [Act.put, List.getElem_toArray, List.getElem_cons_succ, List.getElem_cons_zero, List.setIfInBounds_toArray, List.set_cons_zero, List.set_cons_succ])
            refine wpAnyN_take (i := 9) (v := .pointer (some ⟨wr.heap.size, 0, none⟩)) rfl (by kernel_rfl) (by kernel_rfl) (by kernel_rfl) (by kernel_rfl) (fun _ _ _ h => h) (Or.inl ⟨by rfl, ?_⟩) S0 ?_
            · intro w' hS'
              obtain ⟨h1, h2, h3⟩ := hS'
              go_simp
            (try simp only [Act.put, List.getElem_toArray, List.getElem_cons_succ, List.getElem_cons_zero, List.setIfInBounds_toArray, List.set_cons_zero, List.set_cons_succ])
            refine wpAnyN_take (i := 10) (v := .pointer (some ⟨wr.heap.size, 0, none⟩)) rfl (by kernel_rfl) (by kernel_rfl) (by kernel_rfl) (by kernel_rfl) (fun _ _ _ h => h) (Or.inl ⟨by rfl, ?_⟩) S0 ?_
            · intro w' hS'
              obtain ⟨h1, h2, h3⟩ := hS'
              go_simp
            (try simp only [Act.put, List.getElem_toArray, List.getElem_cons_succ, List.getElem_cons_zero, List.setIfInBounds_toArray, List.set_cons_zero, List.set_cons_succ])
            refine wpAnyN_take (i := 11) (v := .slice (some ⟨bs 0, 0, none⟩) ent.length (cs 0)) rfl (by kernel_rfl) (by kernel_rfl) (by kernel_rfl) (by kernel_rfl) (fun _ _ _ h => h) (Or.inl ⟨by rfl, ?_⟩) S0 ?_
            · intro w' hS'
              obtain ⟨h1, h2, h3⟩ := hS'
              go_simp
            (try simp only [Act.put, List.getElem_toArray, List.getElem_cons_succ, List.getElem_cons_zero, List.setIfInBounds_toArray, List.set_cons_zero, List.set_cons_succ])
            refine wpAnyN_take (i := 12) (v := .int .i64 (dt : Int)) rfl (by kernel_rfl) (by kernel_rfl) (by kernel_rfl) (by kernel_rfl) (fun _ _ _ h => h) (Or.inl ⟨by rfl, ?_⟩) S0 ?_
            · intro w' hS'
              obtain ⟨h1, h2, h3⟩ := hS'
              go_simp
            (try simp only [Act.put, List.getElem_toArray, List.getElem_cons_succ, List.getElem_cons_zero, List.setIfInBounds_toArray, List.set_cons_zero, List.set_cons_succ])
            refine wpAnyN_take (i := 13) (v := .pointer (some ⟨bs 0, dt, none⟩)) rfl (by kernel_rfl) (by kernel_rfl) (by kernel_rfl) (by kernel_rfl) (fun _ _ _ h => h) (Or.inl ⟨by rfl, ?_⟩) S0 ?_
            · intro w' hS'
              obtain ⟨h1, h2, h3⟩ := hS'
              go_simp
            (try simp only [Act.put, List.getElem_toArray, List.getElem_cons_succ, List.getElem_cons_zero, List.setIfInBounds_toArray, List.set_cons_zero, List.set_cons_succ])
            refine wpAnyN_take (i := 14) (v := .int .i64 (bd : Int)) rfl (by kernel_rfl) (by kernel_rfl) (by kernel_rfl) (by kernel_rfl) (fun _ _ _ h => h) (Or.inl ⟨by rfl, ?_⟩) S0 ?_
            · intro w' hS'
              obtain ⟨h1, h2, h3⟩ := hS'
              go_simp
            (try simp only [Act.put, List.getElem_toArray, List.getElem_cons_succ, List.getElem_cons_zero, List.setIfInBounds_toArray, List.set_cons_zero, List.set_cons_succ])
            refine wpAnyN_one (i := 15) (by kernel_rfl) rfl (fun K hK => ?_)
            go_simp
            refine hK _ _ (fun h => S0) ?_
            clear hK K
            (try simp only [Act.put, List.getElem_toArray, List.getElem_cons_succ, List.getElem_cons_zero, List.setIfInBounds_toArray, List.set_cons_zero, List.set_cons_succ])
            refine wpAnyN_one (i := 16) (by kernel_rfl) rfl (fun K hK => ?_)
            go_simp
            refine hK _ _ (fun h => by cases h) ?_
            clear hK K
            (try simp only [Act.put, List.getElem_toArray, List.getElem_cons_succ, List.getElem_cons_zero, List.setIfInBounds_toArray, List.set_cons_zero, List.set_cons_succ])
            refine wpAnyN_done (by kernel_rfl) ?_ _
            clear S0 SK
            go_wp2
            go_roundw
            case rel => exact ⟨t + 1, _, by omega, by go_num, NX.out.1, NX.out.2, Z6.out, K6.out⟩
            case measure => simp [intOf]; omega
        · have htz : ¬ (t : Int) < ent.length := by omega
          obtain rfl : t = ent.length := by omega
          go_wp2
          go_ret
          refine ⟨rfl, (B1.out.trans (B4.out.mono (by omega))).trans (K5.out.below (by have := B4.out.size; omega) fun b hb => by omega), Z5.out.ext fun b hb => D3.out.dm S4.out D4.out G1.out G2.out hb⟩
end Go.Proofs.Ytmmgdiecmokipaa
