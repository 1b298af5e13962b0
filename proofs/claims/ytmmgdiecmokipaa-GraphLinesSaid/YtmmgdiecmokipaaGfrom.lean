/-
  Proved: the reference's From.
-/
import Derived.Test.YtmmgdiecmokipaaGorder
namespace Go.Proofs.Ytmmgdiecmokipaa
open Go.RowKit

/-- A slice, by its parts. -/
def sv (x : Option Addr × Nat × Nat) : Value := .slice x.1 x.2.1 x.2.2
def sL (x : Option Addr × Nat × Nat) : List Value := [sv x]
theorem sL_len (a : Option Addr × Nat × Nat) : (sL a).length = 1 := rfl
theorem sL_one (a : Option Addr × Nat × Nat) : ∀ u ∈ sL a, u.oneCell' = true := by intro u hu; simp [sL] at hu; subst hu; rfl
theorem infoInts : (Try.prog.info? 28).map (fun i => (i.zero, i.size, i.bytes)) = some (some (.slice none 0 0), 1, 24) := by kernel_rfl

/-- Those that go to a block. -/
def frT (n : Nat) (to : List (List Int)) (i k : Nat) : List Nat := (List.range k).filter fun k => (wy n to k).contains i
def fr (n : Nat) (to : List (List Int)) (i : Nat) : List Nat := frT n to i n

theorem fr_step (n : Nat) (to : List (List Int)) (i k : Nat) : frT n to i (k + 1) = frT n to i k ++ if (wy n to k).contains i then [k] else [] := by
  unfold frT
  rw [List.range_succ, List.filter_append]
  congr 1
  cases h : (wy n to k).contains i
  · rw [List.filter_cons_of_neg (by show ¬ (wy n to k).contains i = true; rw [h]; simp)]; rfl
  · rw [List.filter_cons_of_pos (by show (wy n to k).contains i = true; exact h)]; rfl

theorem fr_len (n : Nat) (to : List (List Int)) (i k : Nat) : (frT n to i k).length ≤ k := by
  have := List.length_filter_le (fun k => (wy n to k).contains i) (List.range k)
  rwa [List.length_range] at this

theorem contains_step (l : List Nat) (i k : Nat) (h : k < l.length) : (l.take (k + 1)).contains i = ((l.take k).contains i || decide (l[k] = i)) := by
  rw [List.take_succ_eq_append_getElem h, List.contains_append]
  congr 1
  simp [eq_comm]

/-- Rows of numbers of one's own, in a row. -/
def RO (base : Nat) (L : List (List Nat)) (xs : List (Option Addr × Nat × Nat)) (v : Value) (w : World) : Prop := OwnB 28 1 sL base xs v w ∧ xs.length = L.length ∧ ∀ j (h : j < L.length) (h' : j < xs.length), ON base L[j] (sv xs[j]) w

theorem RO.below {base : Nat} {L : List (List Nat)} {xs : List (Option Addr × Nat × Nat)} {v : Value} {w w' : World} (h : RO base L xs v w) (k : Below w.heap.size w w') : RO base L xs v w' :=
  ⟨OwnB.below h.1 k, h.2.1, fun j h1 h2 => (h.2.2 j h1 h2).below k⟩

/-- One row more. -/
theorem RO.more {base : Nat} {L : List (List Nat)} {xs : List (Option Addr × Nat × Nat)} {v v' : Value} {w w' : World} {l : List Nat} {x : Option Addr × Nat × Nat} (h : RO base L xs v w) (hl : ON base l (sv x) w) (h1 : OwnB 28 1 sL base (xs ++ [x]) v' w') (hs : w.heap.size ≤ w'.heap.size) (hk : ∀ k, k < w.heap.size → v.ownBlock ≠ some k → w'.heap[k]? = w.heap[k]?) : RO base (L ++ [l]) (xs ++ [x]) v' w' := by
  have key : ∀ (m : List Nat) (u : Value), ON base m u w → ON base m u w' := fun m u hu => hu.move hs fun b hb => hk b (hu.blk hb).2.1 fun e => by
    obtain ⟨_, _, cs, h3⟩ := hu.blk hb
    obtain ⟨_, ds, h4⟩ := OwnB.at h.1 e
    exact At.type h3 h4 (by decide) rfl
  refine ⟨h1, by simp [h.2.1], fun j h2 h3 => ?_⟩
  have e0 := h.2.1
  by_cases e : j < L.length
  · rw [List.getElem_append_left e, List.getElem_append_left (by omega)]
    exact key _ _ (h.2.2 j e (by omega))
  · have e1 : j = L.length := by simp at h2; omega
    subst e1
    rw [List.getElem_append_right (by omega), List.getElem_append_right (by omega)]
    simp only [Nat.sub_self, e0, List.getElem_cons_zero]
    exact key _ _ hl

theorem RO.app {base : Nat} {l : List (Option Addr × Nat × Nat)} (w : World) {ops : Array Oper} {rest : List Oper} {o : Oper} {a : Act} {Q : Exit → Act → World → Prop} (hgd : o.guard = none) (s x : Operand)
    (ho : o.op = .call { callee := .builtin .append, args := #[s, x], argTypes := #[22, 22] })
    (v : Value) (hs : a.eval s = v) (y : Option Addr × Nat × Nat) (hown : OwnB 28 1 sL base l v w) (ad : Addr) (C : Nat) (hx : a.eval x = .slice (some ad) 1 C)
    (hc : ∀ j u, (sL y)[j]? = some u → w.cell? (ad.add j) = some u) (hl : l.length ≤ 10000)
    (h : ∀ v' w', OwnB 28 1 sL base (l ++ [y]) v' w' → Below base w w' → (∀ k, k < w.heap.size → v.ownBlock ≠ some k → w'.heap[k]? = w.heap[k]?) → (∀ b, v'.ownBlock = some b → v.ownBlock = some b ∨ w.heap.size ≤ b) → wpList Try.prog ops Q rest (a.put o.dst v') w') : wpList Try.prog ops Q (o :: rest) a w :=
  OwnB.appendNL 22 28 sL _ 1 24 infoInts Try.underlying22 rfl (by decide) (by decide) sL_len sL_one w hgd s x ho v hs y hown ad C hx hc hl h

theorem range_snoc {α : Type} (f : Nat → α) (i : Nat) : (List.range (i + 1)).map f = (List.range i).map f ++ [f i] := by rw [List.range_succ, List.map_append]; rfl

set_option maxRecDepth 20000 in
set_option maxHeartbeats 2000000 in
theorem from_c (n : Nat) (to : List (List Int)) (tv : Value) (w : World) (h : RwsIn w to tv) (hf : Fw to) (hn : n ≤ 1000) :
    Calls Try.prog 11 #[.int .i64 (n : Int), tv] w fun e w' => ∃ v xs, e = .returned v ∧ RO w.heap.size ((List.range n).map (fr n to)) xs v w' ∧ Below w.heap.size w w' := by
  have TI : Hid (RwsIn w to tv) := h
  obtain ⟨A, C, rfl, -⟩ := h
  have FW : Hid (Fw to) := hf
  clear hf
  go_enter Try.func11, Try.ntmps11
  go_wp2
  go_loopw [5, 6] (fun ov iv wr => ∃ (i : Nat) (xs : List (Option Addr × Nat × Nat)), i ≤ n ∧ iv = .int .i64 (i : Int) ∧ RO w.heap.size ((List.range i).map (fr n to)) xs ov wr ∧ Below w.heap.size w wr) (fun _ iv _ => n - (intOf iv).toNat)
  case atStart => exact ⟨0, [], by omega, rfl, ⟨⟨Nat.le_refl _, by simp, Or.inl ⟨rfl, rfl⟩⟩, by simp, fun j h => by simp at h⟩, Below.refl _ _⟩
  case round =>
    obtain ⟨i, xs, hi, rfl, hR, hB⟩ := hrel
    have R1 : Hid (RO w.heap.size ((List.range i).map (fr n to)) xs _ wr) := hR
    have N1 : Hid (Below w.heap.size w wr) := hB
    have XL : Hid (xs.length = i) := (by have := hR.2.1; simpa using this : xs.length = i)
    have hxl : xs.length ≤ 1000 := by have := XL.out; omega
    obtain ⟨Ao, Co, eo, -⟩ := OwnB.shape sL_len hR.1
    subst eo
    clear hR hB
    rcases Nat.lt_or_ge i n with hi' | hi'
    · have hiz : (i : Int) < n := by omega
      go_wp2
      go_loopw [7, 8] (fun lv kv wz => ∃ k : Nat, k ≤ n ∧ kv = .int .i64 (k : Int) ∧ ON wr.heap.size (frT n to i k) lv wz ∧ Below wr.heap.size wr wz) (fun _ kv _ => n - (intOf kv).toNat)
      case atStart => exact ⟨0, by omega, rfl, ON.empty (Nat.le_refl _), Below.refl _ _⟩
      case round =>
        rename World => wz
        obtain ⟨k, hk, rfl, hO, hB⟩ := hrel
        have O2 : Hid (ON wr.heap.size (frT n to i k) _ wz) := hO
        have N2 : Hid (Below wr.heap.size wr wz) := hB
        have LK2 : (frT n to i k).length ≤ k := fr_len n to i k
        have S2 : Hid ((frT n to i (k + 1)) = (frT n to i k) ++ if (wy n to k).contains i then [k] else []) := fr_step n to i k
        have EN : Hid (k = n → (frT n to i k) = fr n to i) := fun e => (by rw [e]; rfl)
        generalize hM : (frT n to i k) = M at *
        clear hM
        obtain ⟨Al, Cl, el, -⟩ := hO.shape
        subst el
        clear hO hB
        rcases Nat.lt_or_ge k n with hk' | hk'
        · have hkz : (k : Int) < n := by omega
          have WC : Hid (Calls Try.prog 24 #[.int .i64 (n : Int), .slice A to.length C, .int .i64 (k : Int)] wz fun e w' => ∃ v, e = .returned v ∧ ON wz.heap.size (wy n to k) v w' ∧ Below wz.heap.size wz w') := ways_c n k to _ wz (TI.out.below (below_next N1.out N2.out)) FW.out
          have LB := wy_len n to k FW.out
          generalize hl : wy n to k = l at *
          clear hl
          go_wp2_with (go_at_call 24; refine WC.out.mono ?_; rintro e w3 ⟨v3, rfl, hO3, hB3⟩; obtain ⟨Aw, Cw, rfl, hsh⟩ := hO3.shape; have N3 : Hid (Below wz.heap.size wz w3) := hB3; clear hO3 hB3)
          go_loopw [10, 11] (fun bv jv wy => ∃ j : Nat, j ≤ l.length ∧ jv = .int .i64 (j : Int) ∧ bv = .bool ((l.take j).contains i) ∧ wy = w3) (fun _ jv _ => l.length - (intOf jv).toNat)
          case atStart => exact ⟨0, by omega, rfl, by simp, rfl⟩
          case round =>
            rename World => wy
            obtain ⟨j, hj, rfl, rfl, hwy⟩ := hrel
            rw [hwy]
            clear hwy wy
            rcases Nat.lt_or_ge j l.length with hj' | hj'
            · have hjz : (j : Int) < l.length := by omega
              obtain ⟨D, rfl, -, hD2, -, hce⟩ := hsh (by omega)
              have c1 := hce j hj'
              have S4 : Hid ((l.take (j + 1)).contains i = ((l.take j).contains i || decide (l[j] = i))) := contains_step l i j hj'
              clear hce hsh
              generalize l[j] = y at *
              generalize (l.take j).contains i = q at *
              cases q
              · by_cases hy : y = i
                · have hyz : ((y : Int) == (i : Int)) = true := by simp [hy]
                  have S5 : Hid ((l.take (j + 1)).contains i = true) := (by rw [S4.out]; simp [hy] : (l.take (j + 1)).contains i = true)
                  clear hy
                  go_wp2
                  go_roundw
                  case rel => exact ⟨j + 1, by omega, by go_num, by rw [S5.out], trivial⟩
                  case measure => simp [intOf]; omega
                · have hyz : ((y : Int) == (i : Int)) = false := by simp; omega
                  have S5 : Hid ((l.take (j + 1)).contains i = false) := (by rw [S4.out]; simp [hy] : (l.take (j + 1)).contains i = false)
                  go_wp2
                  go_roundw
                  case rel => exact ⟨j + 1, by omega, by go_num, by rw [S5.out], trivial⟩
                  case measure => simp [intOf]; omega
              · have S5 : Hid ((l.take (j + 1)).contains i = true) := (by rw [S4.out]; rfl : (l.take (j + 1)).contains i = true)
                go_wp2
                go_roundw
                case rel => exact ⟨j + 1, by omega, by go_num, by rw [S5.out], trivial⟩
                case measure => simp [intOf]; omega
            · have hjz : ¬ (j : Int) < l.length := by omega
              have ET : (l.take j).contains i = l.contains i := by rw [List.take_of_length_le (by omega)]
              have O4 : Hid (ON wr.heap.size M (.slice Al M.length Cl) w3) := O2.out.below N3.out
              have N4 : Hid (Below wr.heap.size wr w3) := N2.out.trans (N3.out.mono N2.out.size)
              rw [ET]
              clear ET hsh
              generalize l.contains i = q at *
              cases q
              · have S5 : Hid ((frT n to i (k + 1)) = M) := (S2.out.trans (List.append_nil M) : frT n to i (k + 1) = M)
                go_wp2
                go_roundw
                case rel => exact ⟨k + 1, by omega, by go_num, by rw [S5.out]; exact O4.out, N4.out⟩
                case measure => simp [intOf]; omega
              · have S5 : Hid ((frT n to i (k + 1)) = M ++ [k]) := S2.out
                have LL : Hid (M.length ≤ 10000) := (by omega : M.length ≤ 10000)
                go_wp2_with (at_builtin; refine ON.app _ rfl _ _ rfl _ rfl k (O4.out.below (below_alloc _ _)) ⟨w3.heap.size, 0, none⟩ 1 rfl (fun j u hj => cells_new _ (iN k) 3 j u hj) LL.out ?_; intro v5 w5 ho hb _ _; have O5 : Hid (ON wr.heap.size (M ++ [k]) v5 w5) := ho; have N5 : Hid (Below wr.heap.size wr w5) := (below_next N4.out (below_alloc _ _)).trans (hb.mono (Nat.le_refl _)); clear ho hb)
                go_roundw
                case rel => exact ⟨k + 1, by omega, by go_num, by rw [S5.out]; exact O5.out, N5.out⟩
                case measure => simp [intOf]; omega
        · have hkz : ¬ (k : Int) < n := by omega
          have O4 : Hid (ON w.heap.size (fr n to i) (sv (Al, M.length, Cl)) (wz.alloc (.cells (sL (Al, M.length, Cl)).toArray 28))) := (by
            have := O2.out
            rw [EN.out (by omega)] at this
            have h2 := (this.lower N1.out.size).below (below_alloc wz (.cells (sL (Al, M.length, Cl)).toArray 28))
            rw [← EN.out (by omega)] at h2 ⊢
            exact h2)
          have R4 : Hid (RO w.heap.size ((List.range i).map (fr n to)) xs (.slice Ao xs.length Co) (wz.alloc (.cells (sL (Al, M.length, Cl)).toArray 28))) := (R1.out.below N2.out).below (below_alloc _ _)
          have LL : Hid (xs.length ≤ 10000) := (by omega : xs.length ≤ 10000)
          have E4 : Hid ((List.range (i + 1)).map (fr n to) = (List.range i).map (fr n to) ++ [fr n to i]) := range_snoc _ _
          go_wp2_with (at_builtin; refine RO.app _ rfl _ _ rfl _ rfl (Al, M.length, Cl) R4.out.1 ⟨wz.heap.size, 0, none⟩ 1 rfl (fun j u hj => cells_new _ (sL (Al, M.length, Cl)) 28 j u hj) LL.out ?_; intro v5 w5 ho hb hkk _; have R5 : Hid (RO w.heap.size ((List.range (i + 1)).map (fr n to)) (xs ++ [(Al, M.length, Cl)]) v5 w5) := (by rw [E4.out]; exact R4.out.more O4.out ho hb.size hkk); have N5 : Hid (Below w.heap.size w w5) := (below_next (below_next N1.out N2.out) (below_alloc _ _)).trans hb; clear ho hb hkk)
          go_roundw
          case rel => exact ⟨i + 1, _, by omega, by go_num, R5.out, N5.out⟩
          case measure => simp [intOf]; omega
    · have hiz : ¬ (i : Int) < n := by omega
      obtain rfl : i = n := by omega
      go_wp2
      go_ret
      exact ⟨_, rfl, ⟨xs, R1.out⟩, N1.out⟩
end Go.Proofs.Ytmmgdiecmokipaa
