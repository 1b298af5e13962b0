/-
  Proved: the reference's Walk tells of each block whether it can be come to.
-/
import Derived.Test.YtmmgdiecmokipaaGbool
import Derived.OwnWalk
namespace Go.Proofs.Ytmmgdiecmokipaa
open Go.RowKit

theorem cells_newS (w : World) (a : Addr) (u : Value) (cs : List Value) (t : TypeId) : ∀ j x, cs[j]? = some x → ((w.setCell a u).alloc (.cells cs.toArray t)).cell? ((⟨w.heap.size, 0, none⟩ : Addr).add j) = some x := by
  have := cells_new (w.setCell a u) cs t
  rwa [set_size] at this

theorem below_setTo {n : Nat} (w : World) {b j : Nat} (hb : n ≤ b) (u : Value) : Below n w (w.setCell ⟨b, j, none⟩ u) := below_set (Below.refl _ _) hb u

theorem cell_other (w : World) (b j : Nat) (u : Value) (a : Addr) (h : a.block ≠ b) : (w.setCell ⟨b, j, none⟩ u).cell? a = w.cell? a := by
  unfold World.cell?
  rw [set_other _ _ _ _ _ h]

theorem infoBool : (Try.prog.info? 4).map (fun i => (i.zero, i.size, i.bytes)) = some (some (.bool false), 1, 1) := by kernel_rfl

theorem make_b (n : Nat) (hn : n ≤ 1000) (w : World) : (Instr.makeSlice 24 (.int .i64 (n : Int)) (.int .i64 (n : Int))).run Try.prog w = .ok (.slice (some ⟨w.heap.size, 0, none⟩) n n) (w.alloc (.cells (madeCells #[.bool false] n) 4)) :=
  run_make_row' (P := Try.prog) 24 4 (.bool false) 1 Try.underlying24 infoBool rfl .i64 .i64 n (by omega) (by omega) w

/-- What a walk has come to: p: seen; L: the list; i of L are done. -/
def WI (g : Nat → List Nat) (wo : Int) (n : Nat) (p : Nat → Bool) (L : List Nat) (i : Nat) : Prop :=
  L.Nodup ∧ (∀ x, x ∈ L ↔ x < n ∧ p x = true) ∧ (∀ x ∈ L, Rch g wo x) ∧ 0 ∈ L ∧ (∀ j (h : j < L.length), j < i → ∀ b ∈ g (L[j]'h), (b : Int) ≠ wo → p b = true)

theorem WI.len {g : Nat → List Nat} {wo : Int} {n i : Nat} {p : Nat → Bool} {L : List Nat} (h : WI g wo n p L i) : L.length ≤ n := by
  have h1 : L.length ≤ (List.range n).length := h.1.length_le_of_subset fun x hx => by
    have := (h.2.1 x).1 hx
    simp [this.1]
  simpa using h1

/-- One more. -/
theorem WI.more {g : Nat → List Nat} {wo : Int} {n i y : Nat} {p : Nat → Bool} {L : List Nat} (h : WI g wo n p L i) (hy : y < n) (hp : p y = false) (hr : Rch g wo y) (hi : i ≤ L.length) : WI g wo n (up p y) (L ++ [y]) i := by
  obtain ⟨h1, h2, h3, h4, h5⟩ := h
  have hn : y ∉ L := fun e => by have := ((h2 y).1 e).2; rw [hp] at this; cases this
  refine ⟨List.nodup_append.2 ⟨h1, by simp, fun a ha b hb => by simp at hb; subst hb; exact fun e => hn (e ▸ ha)⟩, fun x => ?_, fun x hx => ?_, List.mem_append_left _ h4, fun j hj hji b hb hw => ?_⟩
  · rw [List.mem_append, h2 x]
    by_cases e : x = y
    · subst e; simp [up, hy]
    · rw [up_ne _ _ _ e]; simp [e]
  · rcases List.mem_append.1 hx with h | h
    · exact h3 x h
    · simp at h; subst h; exact hr
  · rw [List.getElem_append_left (by omega)] at hb
    exact up_of _ _ _ (h5 j (by omega) hji b hb hw)

/-- The next one is done. -/
theorem WI.next {g : Nat → List Nat} {wo : Int} {n i : Nat} {p : Nat → Bool} {L : List Nat} (h : WI g wo n p L i) (hi : i < L.length) (hd : ∀ b ∈ g (L[i]'hi), (b : Int) ≠ wo → p b = true) : WI g wo n p L (i + 1) := by
  obtain ⟨h1, h2, h3, h4, h5⟩ := h
  refine ⟨h1, h2, h3, h4, fun j hj hji b hb hw => ?_⟩
  rcases Nat.lt_or_ge j i with h | h
  · exact h5 j hj h b hb hw
  · obtain rfl : j = i := by omega
    exact hd b hb hw

/-- All is done. -/
theorem WI.all {g : Nat → List Nat} {wo : Int} {n : Nat} {p : Nat → Bool} {L : List Nat} (h : WI g wo n p L L.length) (hg : ∀ a, ∀ b ∈ g a, b < n) (j : Nat) (hj : j < n) : p j = true ↔ Rch g wo j := by
  obtain ⟨h1, h2, h3, h4, h5⟩ := h
  constructor
  · intro hp
    exact h3 j ((h2 j).2 ⟨hj, hp⟩)
  · intro hr
    have : j ∈ L := hr.2 (fun x => x ∈ L) h4 fun a b ha hb hw => by
      obtain ⟨k, hk, rfl⟩ := List.getElem_of_mem ha
      exact (h2 b).2 ⟨hg _ b hb, h5 k hk hk b hb hw⟩
    exact ((h2 j).1 this).2

theorem WI.start {g : Nat → List Nat} {wo : Int} {n : Nat} (hn : 0 < n) (hw : wo ≠ 0) : WI g wo n (up (fun _ => false) 0) [0] 0 := by
  refine ⟨by simp, fun x => ?_, fun x hx => ?_, by simp, fun j _ hj => by omega⟩
  · simp [up]
    intro e; omega
  · simp at hx; subst hx; exact Rch.zero hw

set_option maxRecDepth 20000 in
set_option maxHeartbeats 2000000 in
theorem walk_c (n : Nat) (wo : Int) (to : List (List Int)) (tv : Value) (w : World) (h : RwsIn w to tv) (hf : Fw to) (hn : n ≤ 1000) :
    Calls Try.prog 21 #[.int .i64 (n : Int), tv, .int .i64 wo] w fun e w' => e = .returned (.slice (some ⟨w.heap.size, 0, none⟩) n n) ∧ Below w.heap.size w w' ∧ ∃ p, BR w' w.heap.size n p ∧ ∀ j, j < n → (p j = true ↔ Rch (wy n to) wo j) := by
  have TI : Hid (RwsIn w to tv) := h
  obtain ⟨A, C, rfl, -⟩ := h
  have FW : Hid (Fw to) := hf
  clear hf
  have hmk := make_b n hn
  have hB0 := below_alloc w (.cells (madeCells #[.bool false] n) 4)
  have hR0 := BR.made w n
  rcases Nat.eq_zero_or_pos n with h0 | h0
  · have HB : Hid (Below w.heap.size w (w.alloc (.cells (madeCells #[.bool false] n) 4))) := hB0
    have HR : Hid (BR (w.alloc (.cells (madeCells #[.bool false] n) 4)) w.heap.size n (fun _ => false)) := hR0
    clear hB0 hR0
    have hnz : (n : Int) = 0 := by omega
    have hq : ((n : Int) == 0) = true := by simpa using hnz
    have H0 : Hid (n = 0) := h0
    clear h0 hnz
    go_enter Try.func21, Try.ntmps21
    go_wp2
    go_ret
    exact ⟨rfl, HB.out, _, HR.out, fun j hj => by have := H0.out; omega⟩
  · have hnz : ¬ (n : Int) = 0 := by omega
    have hq : ((n : Int) == 0) = false := by simpa using hnz
    by_cases hw0 : wo = 0
    · have HB : Hid (Below w.heap.size w (w.alloc (.cells (madeCells #[.bool false] n) 4))) := hB0
      have HR : Hid (BR (w.alloc (.cells (madeCells #[.bool false] n) 4)) w.heap.size n (fun _ => false)) := hR0
      clear hB0 hR0
      subst hw0
      go_enter Try.func21, Try.ntmps21
      go_wp2
      go_ret
      exact ⟨rfl, HB.out, _, HR.out, fun j _ => ⟨fun h => (by cases h), fun h => absurd rfl h.1⟩⟩
    · have hq2 : (wo == 0) = false := by simpa using hw0
      have WN : Hid (wo ≠ 0) := hw0
      have K0 : WK w n (fun _ => false) [] (.slice none 0 0) (w.alloc (.cells (madeCells #[.bool false] n) 4)) := ⟨hB0, hR0, ON.empty (by simp)⟩
      have KK : Hid (WK w n (fun _ => false) [] (.slice none 0 0) (w.alloc (.cells (madeCells #[.bool false] n) 4))) := K0
      have hfz := hR0.frozen 0
      have hce := hR0.cell 0 h0
      clear hB0 hR0 K0
      have HS : Hid ((w.alloc (.cells (madeCells #[.bool false] n) 4)).heap.size = w.heap.size + 1) := (by simp : (w.alloc (.cells (madeCells #[.bool false] n) 4)).heap.size = w.heap.size + 1)
      go_enter Try.func21, Try.ntmps21
      go_wp2
      have K1 : Hid (WK w n (up (fun _ => false) 0) [0] (.slice (some ⟨w.heap.size + 1, 0, none⟩) 1 1) ((w.alloc (.cells ((madeCells #[.bool false] n).setIfInBounds 0 (.bool true)) 4)).alloc (.cells #[.int .i64 0] 3))) := by
        have e0 : (madeCells #[.bool false] n).setIfInBounds 0 (.bool true) = bC (up (fun _ => false) 0) n := by rw [bC_made, bC_set _ _ _ h0]
        rw [e0]
        exact ⟨below_two _ _ _, At.below (At.new w (bC (up (fun _ => false) 0) n) 4) (below_alloc _ _) (by simp), ON.one 0 (At.newS _ _ _ (by simp))⟩
      clear hfz hce hmk KK HS
      go_loopw [8, 9] (fun Lv iv wr => ∃ p L i, i ≤ L.length ∧ iv = .int .i64 ((i : Nat) : Int) ∧ WK w n p L Lv wr ∧ WI (wy n to) wo n p L i) (fun _ iv _ => n - (intOf iv).toNat)
      case atStart => exact ⟨_, [0], 0, by simp, rfl, K1.out, WI.start h0 WN.out⟩
      case round =>
        obtain ⟨p, L, i, hi, rfl, hK, hI⟩ := hrel
        have K : Hid (WK w n p L _ wr) := hK
        have I : Hid (WI (wy n to) wo n p L i) := hI
        have hLn : L.length ≤ n := hI.len
        obtain ⟨Av, Cv, ev, hsh⟩ := hK.2.2.shape
        subst ev
        clear hK hI K1
        rcases Nat.lt_or_ge i L.length with hi' | hi'
        · have hiz : (i : Int) < L.length := by omega
          obtain ⟨B, rfl, hB1, hB2, hB3, hce⟩ := hsh (by omega)
          have c0 := hce i hi'
          have X : Hid (L[i]? = some L[i]) := List.getElem?_eq_getElem hi'
          have RX : Hid (Rch (wy n to) wo L[i]) := I.out.2.2.1 _ (List.getElem_mem hi')
          clear hsh hce
          generalize L[i] = x at *
          have WC : Hid (Calls Try.prog 24 #[.int .i64 (n : Int), .slice A to.length C, .int .i64 (x : Int)] wr fun e w' => ∃ v, e = .returned v ∧ ON wr.heap.size (wy n to x) v w' ∧ Below wr.heap.size wr w') := ways_c n x to _ wr (TI.out.below K.out.1) FW.out
          go_wp2_with (go_at_call 24; refine WC.out.mono ?_; rintro e w1 ⟨lv, rfl, hO, hB⟩; obtain ⟨Al, Cl, rfl, -⟩ := hO.shape; have O1 : Hid (ON wr.heap.size (wy n to x) (.slice Al (wy n to x).length Cl) w1) := hO; have K2 : Hid (WK w n p L (.slice (some ⟨B, 0, none⟩) L.length Cv) w1) := K.out.below hB; clear hO hB)
          have A1 : Hid (Apt (.slice Al (wy n to x).length Cl) (.slice (some ⟨B, 0, none⟩) L.length Cv)) := fun b hb hb' => by
            have h1 := (O1.out.blk hb).1
            have h2 : B = b := Option.some.inj hb'
            omega
          have hlt : Hid (∀ y ∈ wy n to x, y < n) := fun y hy => wy_lt n to x y hy
          have DN : Hid (∀ p : Nat → Bool, (∀ j (h : j < (wy n to x).length), j < (wy n to x).length → (((wy n to x)[j] : Nat) : Int) ≠ wo → p (wy n to x)[j] = true) → ∀ b ∈ wy n to x, (b : Int) ≠ wo → p b = true) := fun p h b hb hw => by
            obtain ⟨j, hj, rfl⟩ := List.getElem_of_mem hb
            exact h j hj hj hw
          have RY : Hid (∀ y ∈ wy n to x, (y : Int) ≠ wo → Rch (wy n to) wo y) := fun y hy hw => RX.out.step hy hw
          have LB : Hid ((wy n to x).length ≤ 200) := wy_len n to x FW.out
          have hsz : w.heap.size < wr.heap.size := K.out.2.1.lt
          generalize hl : wy n to x = l at *
          have HL : Hid (wy n to x = l) := hl
          have hlb : l.length ≤ 200 := LB.out
          clear hl
          go_loopw [8, 11] (fun Lv kv wz => ∃ p L k, k ≤ l.length ∧ kv = .int .i64 ((k : Nat) : Int) ∧ WK w n p L Lv wz ∧ WI (wy n to) wo n p L i ∧ L[i]? = some x ∧ ON wr.heap.size l (.slice Al l.length Cl) wz ∧ Apt (.slice Al l.length Cl) Lv ∧ (∀ j (h : j < l.length), j < k → ((l[j] : Nat) : Int) ≠ wo → p l[j] = true)) (fun _ kv _ => l.length - (intOf kv).toNat)
          case atStart => exact ⟨p, L, 0, by omega, rfl, K2.out, I.out, X.out, O1.out, A1.out, fun j _ h => by omega⟩
          case round =>
            rename World => wz
            obtain ⟨p, L, k, hk, rfl, hK, hI, hX, hO, hA, hD⟩ := hrel
            have K3 : Hid (WK w n p L _ wz) := hK
            have I3 : Hid (WI (wy n to) wo n p L i) := hI
            have X3 : Hid (L[i]? = some x) := hX
            have O3 : Hid (ON wr.heap.size l (.slice Al l.length Cl) wz) := hO
            have A3 : Hid (Apt (.slice Al l.length Cl) _) := hA
            have D3 : Hid (∀ j (h : j < l.length), j < k → ((l[j] : Nat) : Int) ≠ wo → p l[j] = true) := hD
            have hLn3 : L.length ≤ n := hI.len
            have XL : Hid (i < L.length) := (List.getElem?_eq_some_iff.1 hX).1
            obtain ⟨Av, Cv, ev, hsl⟩ := hK.2.2.shape
            obtain ⟨B2, rfl, -⟩ := hsl (by have := XL.out; omega)
            subst ev
            obtain ⟨Am, Cm, em, hsm⟩ := hO.shape
            obtain ⟨rfl, rfl⟩ : Al = Am ∧ Cl = Cm := by simpa using em
            clear hK hI hX hO hA hD em hsl
            rcases Nat.lt_or_ge k l.length with hk' | hk'
            · have hkz : (k : Int) < l.length := by omega
              obtain ⟨D, rfl, hD1, hD2, hD3, hce⟩ := hsm (by omega)
              have c1 := hce k hk'
              have hyn : l[k] < n := hlt.out _ (List.getElem_mem hk')
              have RK : Hid ((l[k] : Int) ≠ wo → Rch (wy n to) wo l[k]) := RY.out _ (List.getElem_mem hk')
              have D4 : Hid (∀ q : Nat → Bool, (∀ a, p a = true → q a = true) → (((l[k] : Nat) : Int) ≠ wo → q l[k] = true) → ∀ j (h : j < l.length), j < k + 1 → ((l[j] : Nat) : Int) ≠ wo → q l[j] = true) := fun q h1 h2 j h hj hw => by
                rcases Nat.lt_or_ge j k with e | e
                · exact h1 _ (D3.out j h e hw)
                · obtain rfl : j = k := by omega
                  exact h2 hw
              clear hce hsm
              generalize l[k] = y at *
              have hyz : (y : Int) < n := by omega
              have c2 := K3.out.2.1.cell y hyn
              have hfz := K3.out.2.1.frozen y
              have LL : Hid (L.length ≤ 10000) := (by omega : L.length ≤ 10000)
              rcases Bool.eq_false_or_eq_true (p y) with hp | hp
              · have P4 : Hid (p y = true) := hp
                rw [hp] at c2
                clear hp
                go_wp2
                go_roundw
                case rel => exact ⟨p, L, k + 1, by omega, by go_num, K3.out, I3.out, X3.out, O3.out, A3.out, D4.out p (fun _ h => h) (fun _ => P4.out)⟩
                case measure => simp [intOf]; omega
              · have P4 : Hid (p y = false) := hp
                rw [hp] at c2
                clear hp
                by_cases hyw : (y : Int) = wo
                · have hyq : ((y : Int) != wo) = false := by simpa using hyw
                  have YW : Hid ((y : Int) = wo) := hyw
                  clear hyw
                  go_wp2
                  go_roundw
                  case rel => exact ⟨p, L, k + 1, by omega, by go_num, K3.out, I3.out, X3.out, O3.out, A3.out, D4.out p (fun _ h => h) (fun h => absurd YW.out h)⟩
                  case measure => simp [intOf]; omega
                · have hyq : ((y : Int) != wo) = true := by simpa using hyw
                  have YW : Hid ((y : Int) ≠ wo) := hyw
                  have K5 : Hid (WK w n (up p y) L (.slice (some ⟨B2, 0, none⟩) L.length Cv) ((wz.setCell ⟨w.heap.size, y, none⟩ (.bool true)).alloc (.cells (iN y).toArray 3))) := (K3.out.set y hyn).below (below_alloc _ _)
                  have O5 : Hid (ON wr.heap.size l (.slice (some ⟨D, 0, none⟩) l.length Cl) ((wz.setCell ⟨w.heap.size, y, none⟩ (.bool true)).alloc (.cells (iN y).toArray 3))) := (O3.out.setB K3.out.2.1 _ _).below (below_alloc _ _)
                  have c3 : (wz.setCell ⟨w.heap.size, y, none⟩ (.bool true)).cell? ⟨D, k, none⟩ = some (.int .i64 (y : Int)) := by exact (cell_other _ _ _ _ _ (by show D ≠ w.heap.size; omega)).trans c1
                  go_wp2_with (at_builtin; refine ON.app _ rfl _ _ rfl _ rfl y K5.out.2.2 ⟨wz.heap.size, 0, none⟩ 1 rfl (fun j u hj => cells_newS _ _ _ (iN y) 3 j u hj) LL.out ?_; intro v5 w5 ho hb hkk hvv; have K6 : Hid (WK w n (up p y) (L ++ [y]) v5 w5) := K5.out.app ho hb; have O6 : Hid (ON wr.heap.size l (.slice (some ⟨D, 0, none⟩) l.length Cl) w5) := O5.out.move hb.size (fun b hb1 => hkk b (O5.out.blk hb1).2.1 (A3.out b hb1)); have A6 : Hid (Apt (.slice (some ⟨D, 0, none⟩) l.length Cl) v5) := (fun b hb1 hv1 => (hvv b hv1).elim (fun h => A3.out b hb1 h) (fun h => absurd h (Nat.not_le_of_lt (O5.out.blk hb1).2.1))); clear ho hb hkk hvv)
                  go_roundw
                  case rel => exact ⟨up p y, L ++ [y], k + 1, by omega, by go_num, K6.out, I3.out.more hyn P4.out (RK.out YW.out) (Nat.le_of_lt XL.out), (by rw [List.getElem?_append_left XL.out]; exact X3.out), O6.out, A6.out, D4.out _ (fun _ h => up_of _ _ _ h) (fun _ => up_self _ _)⟩
                  case measure => simp [intOf]; omega
            · have hkz : ¬ (k : Int) < l.length := by omega
              have hxl := XL.out
              go_wp2
              go_roundw
              case rel =>
                refine ⟨p, L, i + 1, hxl, by go_num, K3.out, I3.out.next hxl ?_⟩
                have e1 : L[i] = x := (List.getElem?_eq_some_iff.1 X3.out).2
                rw [e1, HL.out]
                exact DN.out p fun j h _ hw => D3.out j h (by omega) hw
              case measure => simp [intOf]; omega
        · have hiz : ¬ (i : Int) < L.length := by omega
          obtain rfl : i = L.length := by omega
          go_wp2
          go_ret
          exact ⟨rfl, K.out.1, p, K.out.2.1, I.out.all (fun a b hb => wy_lt n to a b hb)⟩
end Go.Proofs.Ytmmgdiecmokipaa
