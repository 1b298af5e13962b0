/-
  Proved: types.Field tells a struct's field, where all its fields have words.
-/
import Derived.Test.YtdekgebpbopfpaaDoorAlike
namespace Go.Proofs.YtdekgebpbopfpaaDoor
open Go.RowKit

/-- How many words stand ahead. -/
def pre (ws : Nat → Nat) : Nat → Nat
  | 0 => 0
  | k + 1 => pre ws k + ws k

theorem field3 (k : Int) (s : ByteArray) (P : Option Addr) (pl pc : Nat) (V : Option Addr) (vl vc : Nat) (r : Rst) (w : World) : (Instr.field 38 (.agg (icells k s P pl pc V vl vc r).toArray) 3).run Tryd.prog w = .ok (.slice P pl pc) w := by kernel_rfl

/-- What Field answers. -/
def FldA (ps : List (ByteArray × T)) (ws : Nat → Nat) (q : ByteArray) (e : Ending) (w' : World) : Prop :=
  ∃ (k : Nat) (hk : k < ps.length) (k' : Int) (s' : ByteArray) (n' : Int) (A' : Option Addr) (l' C' : Nat), (ps[k]'hk).1 = q ∧ (∀ i (h : i < ps.length), i < k → ¬ (ps[i]'h).1 = q) ∧
    e = .returned (.tuple #[.int .i64 (k : Int), .agg #[.int .i64 k', .string s', .int .i64 n', .slice A' l' C'], .int .i64 (pre ws k : Int), .bool true]) ∧ TIn w' (ps[k]'hk).2 [.int .i64 k', .string s', .int .i64 n', .slice A' l' C']

set_option maxRecDepth 100000 in
set_option maxHeartbeats 4000000 in
theorem field_walk (ps : List (ByteArray × T)) (ws : Nat → Nat) (hws : ∀ k, pre ws k ≤ 1000000) (l C : Nat) (A : Option Addr) (s : ByteArray) (n : Int) (EA : Option Addr) (el EC : Nat) (q : ByteArray) (w : World) (VI : Value) (P : Option Addr) (pc : Nat)
    (hex : ∃ i, ∃ h : i < ps.length, (ps[i]'h).1 = q)
    (hfd : ∀ w', (Instr.field 38 VI 3).run Tryd.prog w' = .ok (.slice P ps.length pc) w') (hp : PsIn w ps P) (CP : Hid (∀ i (h : i < ps.length), CopiedS (ps[i]'h).2))
    (IT : Hid (∀ w', Below w.heap.size w w' → Calls Tryd.prog 16 #[.slice A l C, .agg #[.int .i64 9, .string s, .int .i64 n, .slice EA el EC], .int .i64 2] w' fun e w'' => e = .returned VI ∧ Below w'.heap.size w' w''))
    (WD : Hid (∀ i (h : i < ps.length) w' cs, Below w.heap.size w w' → TIn w' (ps[i]'h).2 cs → Calls Tryd.prog 7 #[.slice A l C, .agg cs.toArray] w' fun e w'' => e = .returned (.tuple #[.int .i64 (ws i : Int), .bool true]) ∧ Below w'.heap.size w' w'')) :
    Calls Tryd.prog 11 #[.slice A l C, .agg #[.int .i64 9, .string s, .int .i64 n, .slice EA el EC], .string q] w
      fun e' w' => FldA ps ws q e' w' ∧ Below w.heap.size w w' := by
  have HP : Hid (PsIn w ps P) := hp
  have hl := hp.1
  have HEX : Hid (∃ i, ∃ h : i < ps.length, (ps[i]'h).1 = q) := hex
  have HW2 : Hid (∀ a b, Below w.heap.size w ((w.alloc a).alloc b)) := two_alloc w
  have AT2 : Hid (∀ c cs w1, Below ((w.alloc c).alloc (.cells cs 25)).heap.size ((w.alloc c).alloc (.cells cs 25)) w1 → At w1 (w.heap.size + 1) cs 25) := fun c cs w1 hb => by
    have h2 := At.new (w.alloc c) cs 25
    have h3 := h2.below hb h2.lt
    simpa using h3
  have HWS : Hid (∀ k, pre ws k ≤ 1000000) := hws
  clear hp hex hws
  go_enter Tryd.func11, Tryd.ntmps11
  go_wp2_with (go_at_call 16; refine (IT.out _ (HW2.out _ _)).mono ?_; rintro e w1 ⟨rfl, hb1⟩; have B1 : Hid (Below w.heap.size w w1) := below_next (HW2.out _ _) hb1; have A1 : Hid (At w1 (w.heap.size + 1) #[.int .i64 0, .string ⟨#[]⟩, .int .i64 0, .slice none 0 0] 25) := AT2.out _ _ _ hb1; clear hb1)
  go_loopw [8, 19] (fun av i wr => ∃ k : Nat, k ≤ ps.length ∧ i = .int .i64 (k : Int) ∧ av = .int .i64 (pre ws k : Int) ∧ Hid (∀ i (h : i < ps.length), i < k → ¬ (ps[i]'h).1 = q) ∧ Hid (Below w.heap.size w wr ∧ At wr (w.heap.size + 1) #[.int .i64 0, .string ⟨#[]⟩, .int .i64 0, .slice none 0 0] 25)) (fun _ i _ => ps.length - (intOf i).toNat)
  case atStart => exact ⟨0, Nat.zero_le _, rfl, rfl, fun i _ hi => absurd hi (Nat.not_lt_zero _), B1.out, A1.out⟩
  case round =>
    obtain ⟨k, hk, rfl, rfl, HN, HW⟩ := hrel
    by_cases hlt : k < ps.length
    · have hlt' : (k : Int) < (ps.length : Int) := by omega
      obtain ⟨b, o, mu, at', cs1, rfl, hrow, ht1⟩ := (HP.out.below HW.out.1).2 k hlt
      have cp := CP.out k hlt
      have wd := WD.out k hlt
      have RES : Hid (∀ (k' : Int) (s' : ByteArray) (n' : Int) (A' : Option Addr) (l' C' : Nat) (w' : World), (ps[k]'hlt).1 = q → TIn w' (ps[k]'hlt).2 [.int .i64 k', .string s', .int .i64 n', .slice A' l' C'] → FldA ps ws q (.returned (.tuple #[.int .i64 (k : Int), .agg #[.int .i64 k', .string s', .int .i64 n', .slice A' l' C'], .int .i64 (pre ws k : Int), .bool true])) w') := fun k' s' n' A' l' C' w' h1 h2 => ⟨k, hlt, k', s', n', A', l', C', h1, HN.out, rfl, h2⟩
      have NXT : Hid (¬ (ps[k]'hlt).1 = q → ∀ i (h : i < ps.length), i < k + 1 → ¬ (ps[i]'h).1 = q) := fun h1 i h hi => by
        by_cases hik : i = k
        · subst hik; exact h1
        · exact HN.out i h (by omega)
      have hpk : pre ws (k + 1) = pre ws k + ws k := rfl
      have hb0 := HWS.out k
      have hb1 := HWS.out (k + 1)
      rw [hpk] at hb1
      have HPK : Hid (((pre ws (k + 1) : Nat) : Int) = (pre ws k : Int) + (ws k : Int)) := by show _ = _; rw [hpk]; omega
      clear hpk
      generalize ps[k] = v at hrow ht1 cp wd RES NXT
      obtain ⟨vn, vt⟩ := v
      obtain ⟨tk, ts, tn, tes⟩ := vt
      simp only at hrow ht1 cp wd RES NXT
      have HT1 : Hid (∀ w', Below wr.heap.size wr w' → TIn w' (.mk tk ts tn tes) cs1) := fun w' hw => ht1.stays hw
      obtain ⟨TA, TC, rfl, _⟩ := ht1.inv
      have c0 := hrow.2 0 _ rfl
      have c1 := hrow.2 1 _ rfl
      have c2 := hrow.2 2 _ rfl
      have c3 := hrow.2 3 _ rfl
      have c4 := hrow.2 4 _ rfl
      have c5 := hrow.2 5 _ rfl
      have c6 := hrow.2 6 _ rfl
      simp only [Nat.add_zero] at c0
      generalize pre ws k = pk at hb0 hb1 HPK RES
      generalize ws k = wk at hb1 HPK wd
      have HB1 : Hid (∀ o, Below wr.heap.size wr (wr.alloc o)) := below_alloc wr
      have WK : Hid (∀ w', Below wr.heap.size wr w' → Calls Tryd.prog 7 #[.slice A l C, .agg #[.int .i64 tk, .string ts, .int .i64 tn, .slice TA tes.length TC]] w' fun e w'' => e = .returned (.tuple #[.int .i64 (wk : Int), .bool true]) ∧ Below w'.heap.size w' w'') := fun w' hw => wd w' _ (HW.out.1.trans (hw.mono HW.out.1.size)) (HT1.out w' hw)
      have CK : Hid (∀ w', Below wr.heap.size wr w' → Calls Tryd.prog 17 #[.agg #[.int .i64 tk, .string ts, .int .i64 tn, .slice TA tes.length TC]] w' fun e w'' => (∃ cs', e = .returned (.agg cs'.toArray) ∧ TG w'.heap.size w'' (.mk tk ts tn tes) cs') ∧ Below w'.heap.size w' w'') := fun w' hw => cp w' _ (HT1.out w' hw)
      clear hrow ht1 cp wd
      by_cases hs : vn = q
      · subst hs
        have SZ : Hid (∀ w1, Below wr.heap.size wr w1 → w.heap.size + 2 ≤ w1.heap.size) := fun w1 h => Nat.le_trans HW.out.2.lt h.size
        go_wp2_with (first
          | (go_at_call 7; refine (WK.out _ (HB1.out _)).mono ?_; rintro e w1 ⟨rfl, hbx⟩; have M1 : Hid (Below wr.heap.size wr w1) := below_next (HB1.out _) hbx; have AB : At w1 wr.heap.size #[.string vn, .bool mu, .int .i64 tk, .string ts, .int .i64 tn, .slice TA tes.length TC, .int .i64 at'] 40 := (At.new wr _ 40).below hbx (At.new wr _ 40).lt; have b0 : w1.cell? ⟨wr.heap.size, 0, none⟩ = some (.string vn) := (AB.cell 0).trans rfl; have b2 : w1.cell? ⟨wr.heap.size, 2, none⟩ = some (.int .i64 tk) := (AB.cell 2).trans rfl; have b3 : w1.cell? ⟨wr.heap.size, 3, none⟩ = some (.string ts) := (AB.cell 3).trans rfl; have b4 : w1.cell? ⟨wr.heap.size, 4, none⟩ = some (.int .i64 tn) := (AB.cell 4).trans rfl; have b5 : w1.cell? ⟨wr.heap.size, 5, none⟩ = some (.slice TA tes.length TC) := (AB.cell 5).trans rfl; clear hbx AB)
          | (go_at_call 17; refine (CK.out _ M1.out).mono ?_; rintro e w2 ⟨⟨cs', rfl, htg⟩, hbx⟩; have M2 : Hid (Below wr.heap.size wr w2) := below_next M1.out hbx; obtain ⟨N, hN⟩ := htg; have hN' := hN.from (SZ.out _ M1.out) (fun _ _ _ => rfl) (Nat.le_refl _); obtain ⟨rA, rC, hcs, hx1⟩ : ∃ A C, cs' = [.int .i64 tk, .string ts, .int .i64 tn, .slice A tes.length C] ∧ TG (w.heap.size + 2) w2 (.mk tk ts tn tes) cs' := (by cases N with | zero => exact absurd hN id | succ N => exact (by obtain ⟨A, C, e, h⟩ := hN; exact ⟨A, C, e, ⟨_, hN'⟩⟩)); subst hcs; have TGH : Hid (TG (w.heap.size + 2) w2 (.mk tk ts tn tes) [.int .i64 tk, .string ts, .int .i64 tn, .slice rA tes.length rC]) := hx1; have ZA := HW.out.2.below M2.out HW.out.2.lt; have HZ : Hid (At w2 (w.heap.size + 1) #[.int .i64 0, .string ⟨#[]⟩, .int .i64 0, .slice none 0 0] 25) := ZA; have z0 : w2.cell? ⟨w.heap.size + 1, 0, none⟩ = some (.int .i64 0) := (ZA.cell 0).trans rfl; have z1 : w2.cell? ⟨w.heap.size + 1, 1, none⟩ = some (.string ⟨#[]⟩) := (ZA.cell 1).trans rfl; have z2 : w2.cell? ⟨w.heap.size + 1, 2, none⟩ = some (.int .i64 0) := (ZA.cell 2).trans rfl; have z3 : w2.cell? ⟨w.heap.size + 1, 3, none⟩ = some (.slice none 0 0) := (ZA.cell 3).trans rfl; have y0 := ZA.frozen 0; have y1 := ZA.frozen 1; have y2 := ZA.frozen 2; have y3 := ZA.frozen 3; clear hbx hN hN' hx1 ZA))
        have hA := (((HZ.out.set (j := 0) (.int .i64 tk)).set (j := 1) (.string ts)).set (j := 2) (.int .i64 tn)).set (j := 3) (.slice rA tes.length rC)
        have k0 := (hA.cell 0).trans (b := some (Value.int .i64 tk)) rfl
        have k1 := (hA.cell 1).trans (b := some (Value.string ts)) rfl
        have k2 := (hA.cell 2).trans (b := some (Value.int .i64 tn)) rfl
        have k3 := (hA.cell 3).trans (b := some (Value.slice rA tes.length rC)) rfl
        have hle : w.heap.size ≤ w.heap.size + 1 := by omega
        have hB := ((((HW.out.1.trans (M2.out.mono HW.out.1.size)).setCell (p := ⟨w.heap.size + 1, 0, none⟩) hle (.int .i64 tk)).setCell (p := ⟨w.heap.size + 1, 1, none⟩) hle (.string ts)).setCell (p := ⟨w.heap.size + 1, 2, none⟩) hle (.int .i64 tn)).setCell (p := ⟨w.heap.size + 1, 3, none⟩) hle (.slice rA tes.length rC)
        refine bodyPost_ret (v := .tuple #[.int .i64 (k : Int), .agg #[.int .i64 tk, .string ts, .int .i64 tn, .slice rA tes.length rC], .int .i64 (pk : Int), .bool true]) (by simp [results, Tryd.results11, go_sem, k0, k1, k2, k3]) rfl ⟨RES.out _ _ _ _ _ _ _ trivial ?_, hB⟩
        obtain ⟨N, hN⟩ := TGH.out
        refine (hN.from (Nat.le_refl _) (fun b hb1 _ => ?_) (by simp [World.setCell])).tin
        have ne : ∀ o, b ≠ (⟨w.heap.size + 1, o, none⟩ : Addr).block := fun o e => by simp at e; omega
        rw [Below.heap_setCell _ _ _ b (ne _), Below.heap_setCell _ _ _ b (ne _), Below.heap_setCell _ _ _ b (ne _), Below.heap_setCell _ _ _ b (ne _)]
      · obtain ⟨h1, h2⟩ := str_ne hs
        have HS : Hid (¬ vn = q) := hs
        clear hs
        go_wp2_with (go_at_call 7; refine (WK.out _ (HB1.out _)).mono ?_; rintro e w1 ⟨rfl, hbx⟩; have M1 : Hid (Below wr.heap.size wr w1) := below_next (HB1.out _) hbx; have AB : At w1 wr.heap.size #[.string vn, .bool mu, .int .i64 tk, .string ts, .int .i64 tn, .slice TA tes.length TC, .int .i64 at'] 40 := (At.new wr _ 40).below hbx (At.new wr _ 40).lt; have b0 : w1.cell? ⟨wr.heap.size, 0, none⟩ = some (.string vn) := (AB.cell 0).trans rfl; have b2 : w1.cell? ⟨wr.heap.size, 2, none⟩ = some (.int .i64 tk) := (AB.cell 2).trans rfl; have b3 : w1.cell? ⟨wr.heap.size, 3, none⟩ = some (.string ts) := (AB.cell 3).trans rfl; have b4 : w1.cell? ⟨wr.heap.size, 4, none⟩ = some (.int .i64 tn) := (AB.cell 4).trans rfl; have b5 : w1.cell? ⟨wr.heap.size, 5, none⟩ = some (.slice TA tes.length TC) := (AB.cell 5).trans rfl; clear hbx AB)
        go_roundw
        case rel => exact ⟨k + 1, by omega, by go_num, by rw [HPK.out], NXT.out HS.out, HW.out.1.trans (M1.out.mono HW.out.1.size), HW.out.2.below M1.out HW.out.2.lt⟩
        case measure => simp [intOf]; omega
    · exfalso
      obtain ⟨i, hi, he⟩ := HEX.out
      exact HN.out i hi (by omega) he
theorem field_c (is : List It) (s : ByteArray) (n : Int) (EA : Option Addr) (el EC C : Nat) (A : Option Addr) (q : ByteArray) (w : World) (ht : Tab w) (hi : IsIn w is A) (j : Nat) (hf : fst s is 0 = some j) (hj : j < is.length) (hk : (is[j]'hj).k = 2)
    (CP : ∀ i (h : i < (is[j]'hj).ps.length), CopiedS ((is[j]'hj).ps[i]'h).2) (ws : Nat → Nat) (hws : ∀ k, pre ws k ≤ 1000000) (hw : ∀ i (h : i < (is[j]'hj).ps.length), wrd is ((is[j]'hj).ps[i]'h).2 = some (ws i)) (hex : ∃ i, ∃ h : i < (is[j]'hj).ps.length, ((is[j]'hj).ps[i]'h).1 = q) :
    Calls Tryd.prog 11 #[.slice A is.length C, .agg #[.int .i64 9, .string s, .int .i64 n, .slice EA el EC], .string q] w
      fun e' w' => FldA (is[j]'hj).ps ws q e' w' ∧ Below w.heap.size w w' := by
  obtain ⟨b, o, P, pc, V, vc, r, rfl, hrow, hps, hvs⟩ := hi.2 j hj
  rw [hk] at hrow
  refine field_walk (is[j]'hj).ps ws hws is.length C (some ⟨b, o, none⟩) s n EA el EC q w (.agg (icells 2 (is[j]'hj).s P (is[j]'hj).ps.length pc V (is[j]'hj).vs.length vc r).toArray) P pc hex (field3 _ _ _ _ _ _ _ _ _) hps CP (fun w' hw => ?_) (fun i hi' w' cs hb hx => ?_)
  · refine itemOf_walk is.length C b o j hj s n EA el EC 2 _ w' (fun w'' hw' => ?_) (fun w'' hw' => ⟨(celI ((hrow.below hw).below hw')).1, load_item ((hrow.below hw).below hw')⟩) (fun w'' hw' hc => ?_)
    · have := first_c is s (some ⟨b, o, none⟩) C w'' ((hi.below hw).below hw')
      rw [hf] at this
      exact this
    · obtain ⟨cs, h1, h2⟩ := hc
      exact store_item (by omega) hw' h2 h1 _ _ _ _ _ _ _ _ _
  · have := words_c is ((is[j]'hj).ps[i]'hi').2 cs (some ⟨b, o, none⟩) C w' (ht.below hb) (hi.below hb) hx
    rw [hw i hi'] at this
    exact this

end Go.Proofs.YtdekgebpbopfpaaDoor
