/-
  Proved: what passed tells of a function's words; what function and structure tell of an item.
-/
import Derived.Test.YtjdkoahbahecoaaGreatDoorFunc
namespace Go.Proofs.YtjdkoahbahecoaaGreatDoor
open Go.RowKit

attribute [local go_sem ↓] fold38 foldS

/-- A type's words, 0 where it has none. -/
def wds (is : List It) (t : T) : Nat := (wrd is t).getD 0

theorem wds_le (is : List It) (t : T) : wds is t ≤ 128 := by
  unfold wds wrd
  cases amt is t with
  | none => simp
  | some a =>
    simp only
    split
    · simpa
    · simp

/-- The words of params together. -/
def sumW (is : List It) (ps : List Pj) : Nat := (ps.map fun p => wds is p.t).sum

theorem sumW_snoc (is : List It) (ps : List Pj) (k : Nat) (h : k < ps.length) : sumW is (ps.take (k + 1)) = sumW is (ps.take k) + wds is ps[k].t := by
  rw [take_succ' ps k h]
  simp only [sumW, List.map_append, List.sum_append, List.map_cons, List.map_nil, List.sum_cons, List.sum_nil, Nat.add_zero]

theorem sumW_le (is : List It) : ∀ ps : List Pj, sumW is ps ≤ ps.length * 128
  | [] => by simp [sumW]
  | p :: ps => by
    have h1 := wds_le is p.t
    have h2 := sumW_le is ps
    simp only [sumW, List.map_cons, List.sum_cons, List.length_cons] at *
    omega

/-- A call passes too many words. -/
def psd (is : List It) (j : Jt) : Option (Int × Int) := if 8 < sumW is j.ps ∨ 8 < wds is j.t then some (j.a, 73) else none

set_option maxHeartbeats 2000000 in
theorem passed_c (A : Option Addr) (is : List It) (C : Nat) (j : Jt) (cs : List Value) (hf : j.ps.length ≤ 300) (w : World) (hT : Tab w) (hi : IsIn w is A) (hj : JIn w j cs) :
    Calls Tryz.prog 66 #[.slice A is.length C, .agg cs.toArray] w fun e w' => e = .returned (errV (psd is j)) ∧ Below w.heap.size w w' := by
  obtain ⟨P, PC, V, VC, tk, ts, tn, TA, tl, TC, e1, e2, e3, _, e4⟩ := hj.cel
  have cc := e4 (w.alloc (.cells cs.toArray 43)) w.heap.size (At.new _ _ _)
  have c3 := cc.c3
  have WT : Hid (∀ w', Below w.heap.size w w' → Calls Tryz.prog 88 #[.slice A is.length C, .agg #[.int .i64 tk, .string ts, .int .i64 tn, .slice TA tl TC]] w' fun e w'' => e = .returned (.int .i64 (wds is j.t : Int)) ∧ Below w'.heap.size w' w'') := fun w' hw => pwords_c is j.t _ A C w' (hT.below hw) (hi.below hw) (e1.stays hw)
  have WP : Hid (∀ k (h : k < j.ps.length), ∃ b o s mu pk pn pm PA pl PC' a, P = some ⟨b, o, none⟩ ∧ ∀ w', Below w.heap.size w w' → RowAt w' b (o + k * 7) [.string s, .bool mu, .int .i64 pk, .string pn, .int .i64 pm, .slice PA pl PC', .int .i64 a] ∧ Calls Tryz.prog 88 #[.slice A is.length C, .agg #[.int .i64 pk, .string pn, .int .i64 pm, .slice PA pl PC']] w' fun e w'' => e = .returned (.int .i64 (wds is j.ps[k].t : Int)) ∧ Below w'.heap.size w' w'') := fun k h => by
    obtain ⟨b, o, ps, h1, h2, mu, ct, h3, h4⟩ := e2.2 k h
    have key : ∀ w', Below w.heap.size w w' → Calls Tryz.prog 88 #[.slice A is.length C, .agg ct.toArray] w' fun e w'' => e = .returned (.int .i64 (wds is j.ps[k].t : Int)) ∧ Below w'.heap.size w' w'' := fun w' hw => pwords_c is j.ps[k].t _ A C w' (hT.below hw) (hi.below hw) (h4.stays hw)
    generalize wds is j.ps[k].t = Z at key ⊢
    generalize j.ps[k] = p at h3 h4
    obtain ⟨s, t, a⟩ := p
    obtain ⟨pk, pn, pm, pes⟩ := t
    obtain ⟨PA, PC', rfl, _⟩ := h4.inv
    subst h3
    exact ⟨b, o, s, mu, pk, pn, pm, PA, pes.length, PC', a, h1, fun w' hw => ⟨h2.below hw, key w' hw⟩⟩
  have HA : Hid (∀ w', Below (w.alloc (.cells cs.toArray 43)).heap.size (w.alloc (.cells cs.toArray 43)) w' → w'.cell? ⟨w.heap.size, 2, none⟩ = some (.int .i64 j.a) ∧ w'.cell? ⟨w.heap.size, 5, none⟩ = some (.int .i64 tk) ∧ w'.cell? ⟨w.heap.size, 6, none⟩ = some (.string ts) ∧ w'.cell? ⟨w.heap.size, 7, none⟩ = some (.int .i64 tn) ∧ w'.cell? ⟨w.heap.size, 8, none⟩ = some (.slice TA tl TC)) := fun w' hw => by
    have c := e4 w' w.heap.size ((At.new w cs.toArray 43).below hw (At.new w cs.toArray 43).lt)
    exact ⟨c.c2, c.c5, c.c6, c.c7, c.c8⟩
  have HL := e2.1
  have SN : Hid (∀ k (h : k < j.ps.length), sumW is (j.ps.take (k + 1)) = sumW is (j.ps.take k) + wds is j.ps[k].t) := sumW_snoc is j.ps
  have SL : Hid (∀ k, k ≤ j.ps.length → sumW is (j.ps.take k) ≤ 40000) := fun k hk => by
    have := sumW_le is (j.ps.take k)
    rw [List.length_take] at this
    omega
  have SF : Hid (sumW is (j.ps.take j.ps.length) = sumW is j.ps) := by show _ = _; rw [List.take_length]
  have hwd := wds_le is j.t
  have HD : Hid (psd is j = if 8 < sumW is j.ps ∨ 8 < wds is j.t then some (j.a, 73) else none) := rfl
  have WL : Hid (∀ k (h : k < j.ps.length), wds is j.ps[k].t ≤ 128) := fun k h => wds_le _ _
  generalize psd is j = X at HD ⊢
  generalize wds is j.t = WJ at WT hwd HD
  generalize cs.toArray = ca at c3 HA
  have HW1 : Hid (∀ a, Below w.heap.size w (w.alloc a)) := below_alloc w
  clear hT hi hj e1 e2 e3 e4 cc
  go_enter Tryz.func66, Tryz.ntmps66
  go_wp2
  go_loopw [5, 11] (fun v i wr => ∃ k : Nat, k ≤ j.ps.length ∧ i = .int .i64 (k : Int) ∧ v = .int .i64 (sumW is (j.ps.take k) : Int) ∧ Below (w.alloc (.cells ca 43)).heap.size (w.alloc (.cells ca 43)) wr) (fun _ i _ => j.ps.length - (intOf i).toNat)
  case atStart => exact ⟨0, Nat.zero_le _, rfl, rfl, Below.refl _ _⟩
  case round =>
    obtain ⟨k, hk, rfl, rfl, hbl⟩ := hrel
    have HB : Hid (Below (w.alloc (.cells ca 43)).heap.size (w.alloc (.cells ca 43)) wr) := hbl
    have sl := SL.out k hk
    clear hbl c3
    by_cases hlt : k < j.ps.length
    · obtain ⟨b, o, s, mu, pk, pn, pm, PA, pl, PC', a, rfl, hrw⟩ := WP.out k hlt
      have sn := SN.out k hlt
      have wl := WL.out k hlt
      generalize wds is j.ps[k].t = Z at hrw sn wl
      generalize sumW is (j.ps.take k) = S at sn sl ⊢
      have HN : Hid (sumW is (j.ps.take (k + 1)) = S + Z) := sn
      have hr := (hrw wr (below_next (HW1.out _) HB.out)).1
      have PW : Hid (∀ w', Below w.heap.size w w' → Calls Tryz.prog 88 #[.slice A is.length C, .agg #[.int .i64 pk, .string pn, .int .i64 pm, .slice PA pl PC']] w' fun e w'' => e = .returned (.int .i64 (Z : Int)) ∧ Below w'.heap.size w' w'') := fun w' hw => (hrw w' hw).2
      have c0 := hr.2 0 _ rfl
      have c1 := hr.2 1 _ rfl
      have c2 := hr.2 2 _ rfl
      have c3 := hr.2 3 _ rfl
      have c4 := hr.2 4 _ rfl
      have c5 := hr.2 5 _ rfl
      have c6 := hr.2 6 _ rfl
      simp only [Nat.add_zero] at c0
      have hlt' : (k : Int) < (j.ps.length : Int) := by omega
      clear hr hrw sn
      go_wp2_with (go_at_call 88; refine (PW.out _ (below_next (below_next (HW1.out _) HB.out) (below_alloc _ _))).mono ?_; rintro e w1 ⟨rfl, hb1⟩; have HK1 : Hid (Below (w.alloc (.cells ca 43)).heap.size (w.alloc (.cells ca 43)) w1) := below_next (below_next HB.out (below_alloc _ _)) hb1; clear hb1)
      go_roundw
      case rel => exact ⟨k + 1, by omega, by go_num, by rw [HN.out]; go_num, HK1.out⟩
      case measure => simp [intOf]; omega
    · obtain rfl : k = j.ps.length := by omega
      have sf := SF.out
      generalize sumW is (j.ps.take j.ps.length) = S at sf sl ⊢
      rw [← sf] at HD
      obtain ⟨g2, g5, g6, g7, g8⟩ := HA.out wr HB.out
      have gz : w.heap.size < wr.heap.size := by have := HB.out.size; simp at this; omega
      clear sf
      by_cases h8 : 8 < S
      · have h8' : (S : Int) > 8 := by omega
        go_wp2
        go_ret
        exact ⟨by rw [HD.out, if_pos (.inl h8)]; rfl, below_next (HW1.out _) HB.out⟩
      · have h8' : ¬ (S : Int) > 8 := by omega
        by_cases hw8 : 8 < WJ
        · have hw8' : (WJ : Int) > 8 := by omega
          go_wp2_with (go_at_call 88; refine (WT.out _ (below_next (HW1.out _) HB.out)).mono ?_; rintro e w1 ⟨rfl, hb1⟩; have k2 := (HA.out _ (below_next HB.out hb1)).1; have HK1 : Hid (Below w.heap.size w w1) := below_next (below_next (HW1.out _) HB.out) hb1; clear hb1)
          go_ret
          exact ⟨by rw [HD.out, if_pos (.inr hw8)]; rfl, HK1.out⟩
        · have hw8' : ¬ (WJ : Int) > 8 := by omega
          go_wp2_with (go_at_call 88; refine (WT.out _ (below_next (HW1.out _) HB.out)).mono ?_; rintro e w1 ⟨rfl, hb1⟩; have k2 := (HA.out _ (below_next HB.out hb1)).1; have HK1 : Hid (Below w.heap.size w w1) := below_next (below_next (HW1.out _) HB.out) hb1; clear hb1)
          go_ret
          exact ⟨by rw [HD.out, if_neg (by omega)]; rfl, HK1.out⟩

theorem function3_c (w0 : World) (A : Option Addr) (is : List It) (C : Nat) (j : Jt) (cs : List Value) (hf : j.ps.length ≤ 300) (B0 Bi : Nat) (w : World) (hT : Tab w0) (hi : IsIn w0 is A) (hj : JIn w0 j cs) (hE : EnvF w0 A is.length C cs B0 Bi w) :
    Calls Tryz.prog 65 #[.pointer (some ⟨B0, 0, none⟩), .pointer (some ⟨Bi, 0, none⟩)] w fun e w' => e = .returned (errV (psd is j)) ∧ Below w.heap.size w w' := by
  have ld := loadBox hj.twenty hE.ai
  have c0 : w.cell? ⟨B0, 0, none⟩ = some (.slice A is.length C) := (hE.a0.cell 0).trans rfl
  have PA : Hid (Calls Tryz.prog 66 #[.slice A is.length C, .agg cs.toArray] w fun e w' => e = .returned (errV (psd is j)) ∧ Below w.heap.size w w') := passed_c A is C j cs hf w (hT.below hE.bl) (hi.below hE.bl) (hj.stays hE.bl)
  generalize errV (psd is j) = X at PA
  generalize (Value.agg cs.toArray) = VI at PA ld
  clear hT hi hj hE
  go_enter Tryz.func65, Tryz.ntmps65
  go_wp2_with (go_at_call 66; refine PA.out.mono ?_; rintro e w1 ⟨rfl, hk1⟩; have HK1 : Hid (Below w.heap.size w w1) := hk1; clear hk1)
  go_ret
  exact ⟨rfl, HK1.out⟩

theorem structure2_c (w0 : World) (A : Option Addr) (is : List It) (C : Nat) (j : Jt) (cs : List Value) (B0 Bi : Nat) (w : World) (hT : Tab w0) (hi : IsIn w0 is A) (hj : JIn w0 j cs) (hE : EnvF w0 A is.length C cs B0 Bi w) :
    Calls Tryz.prog 68 #[.pointer (some ⟨B0, 0, none⟩), .pointer (some ⟨Bi, 0, none⟩)] w fun e w' => e = .returned (errV (slf is j)) ∧ Below w.heap.size w w' := by
  have ld := loadBox hj.twenty hE.ai
  have c0 : w.cell? ⟨B0, 0, none⟩ = some (.slice A is.length C) := (hE.a0.cell 0).trans rfl
  have PA : Hid (Calls Tryz.prog 69 #[.slice A is.length C, .agg cs.toArray] w fun e w' => e = .returned (errV (slf is j)) ∧ Below w.heap.size w w') := itself_c w0 A is C j cs w (hT.below hE.bl) (hi.below hE.bl) hj
  generalize errV (slf is j) = X at PA
  generalize (Value.agg cs.toArray) = VI at PA ld
  clear hT hi hj hE
  go_enter Tryz.func68, Tryz.ntmps68
  go_wp2_with (go_at_call 69; refine PA.out.mono ?_; rintro e w1 ⟨rfl, hk1⟩; have HK1 : Hid (Below w.heap.size w w1) := hk1; clear hk1)
  go_ret
  exact ⟨rfl, HK1.out⟩

theorem enumeration3_c (w0 : World) (A : Option Addr) (is : List It) (C : Nat) (j : Jt) (cs : List Value) (B0 Bi : Nat) (w : World) (hT : Tab w0) (hi : IsIn w0 is A) (hj : JIn w0 j cs) (hE : EnvF w0 A is.length C cs B0 Bi w) :
    Calls Tryz.prog 77 #[.pointer (some ⟨B0, 0, none⟩), .pointer (some ⟨Bi, 0, none⟩)] w fun e w' => e = .returned (errV (slf is j)) ∧ Below w.heap.size w w' := by
  have ld := loadBox hj.twenty hE.ai
  have c0 : w.cell? ⟨B0, 0, none⟩ = some (.slice A is.length C) := (hE.a0.cell 0).trans rfl
  have PA : Hid (Calls Tryz.prog 69 #[.slice A is.length C, .agg cs.toArray] w fun e w' => e = .returned (errV (slf is j)) ∧ Below w.heap.size w w') := itself_c w0 A is C j cs w (hT.below hE.bl) (hi.below hE.bl) hj
  generalize errV (slf is j) = X at PA
  generalize (Value.agg cs.toArray) = VI at PA ld
  clear hT hi hj hE
  go_enter Tryz.func77, Tryz.ntmps77
  go_wp2_with (go_at_call 69; refine PA.out.mono ?_; rintro e w1 ⟨rfl, hk1⟩; have HK1 : Hid (Below w.heap.size w w1) := hk1; clear hk1)
  go_ret
  exact ⟨rfl, HK1.out⟩

/-- What is wrong with a function. -/
def fck (is : List It) (j : Jt) : Option (Int × Int) := ((pck is true j.ps).or (nz j.a (tyE is j.t false))).or (psd is j)

theorem three_at (w : World) (o o' : Obj) (cs : Array Value) (t : TypeId) : At (((w.alloc o).alloc o').alloc (.cells cs t)) (w.heap.size + 2) cs t := by
  have := At.new ((w.alloc o).alloc o') cs t
  simpa using this

theorem function_c (A : Option Addr) (is : List It) (C : Nat) (j : Jt) (cs : List Value) (hf : j.ps.length ≤ 300) (w : World) (hT : Tab w) (hi : IsIn w is A) (hj : JIn w j cs) :
    Calls Tryz.prog 52 #[.slice A is.length C, .agg cs.toArray] w fun e w' => e = .returned (errV (fck is j)) ∧ Below w.heap.size w w' := by
  obtain ⟨W, hW⟩ : ∃ W, ((w.alloc (.cells #[.slice A is.length C] 51)).alloc (.cells cs.toArray 43)).alloc (.cells #[.func (.func 61) #[] #[.pointer (some ⟨w.heap.size, 0, none⟩), .pointer (some ⟨w.heap.size + 1, 0, none⟩)], .func (.func 63) #[] #[.pointer (some ⟨w.heap.size + 1, 0, none⟩), .pointer (some ⟨w.heap.size, 0, none⟩)], .func (.func 65) #[] #[.pointer (some ⟨w.heap.size, 0, none⟩), .pointer (some ⟨w.heap.size + 1, 0, none⟩)]] 52) = W := ⟨_, rfl⟩
  have hb : Below w.heap.size w W := by rw [← hW]; exact three_alloc _ _ _ _
  have h0 : At W w.heap.size #[.slice A is.length C] 51 := by rw [← hW]; exact ((At.new _ _ _).alloc _).alloc _
  have h1 : At W (w.heap.size + 1) cs.toArray 43 := by rw [← hW]; exact (two_at _ _ _ _).alloc _
  have h2 : At W (w.heap.size + 2) #[.func (.func 61) #[] #[.pointer (some ⟨w.heap.size, 0, none⟩), .pointer (some ⟨w.heap.size + 1, 0, none⟩)], .func (.func 63) #[] #[.pointer (some ⟨w.heap.size + 1, 0, none⟩), .pointer (some ⟨w.heap.size, 0, none⟩)], .func (.func 65) #[] #[.pointer (some ⟨w.heap.size, 0, none⟩), .pointer (some ⟨w.heap.size + 1, 0, none⟩)]] 52 := by rw [← hW]; exact three_at _ _ _ _ _
  have FC := firstOf_c [⟨61, #[], #[.pointer (some ⟨w.heap.size, 0, none⟩), .pointer (some ⟨w.heap.size + 1, 0, none⟩)]⟩, ⟨63, #[], #[.pointer (some ⟨w.heap.size + 1, 0, none⟩), .pointer (some ⟨w.heap.size, 0, none⟩)]⟩, ⟨65, #[], #[.pointer (some ⟨w.heap.size, 0, none⟩), .pointer (some ⟨w.heap.size + 1, 0, none⟩)]⟩] (by simp)
    (fun f hf => by
      simp only [List.mem_cons, List.not_mem_nil, or_false] at hf
      rcases hf with rfl | rfl | rfl
      · exact enters_of Tryz.func61 (by kernel_rfl) rfl
      · exact enters_of Tryz.func63 (by kernel_rfl) rfl
      · exact enters_of Tryz.func65 (by kernel_rfl) rfl) (w.heap.size + 2) 0 3
    (fun k => if k = 0 then pck is true j.ps else if k = 1 then nz j.a (tyE is j.t false) else psd is j)
    (fun _ wr => EnvF w A is.length C cs w.heap.size (w.heap.size + 1) wr ∧ At wr (w.heap.size + 2) #[.func (.func 61) #[] #[.pointer (some ⟨w.heap.size, 0, none⟩), .pointer (some ⟨w.heap.size + 1, 0, none⟩)], .func (.func 63) #[] #[.pointer (some ⟨w.heap.size + 1, 0, none⟩), .pointer (some ⟨w.heap.size, 0, none⟩)], .func (.func 65) #[] #[.pointer (some ⟨w.heap.size, 0, none⟩), .pointer (some ⟨w.heap.size + 1, 0, none⟩)]] 52)
    (fun wr => Below w.heap.size w wr) W
    (fun k wr h => row_at (cs := [_, _, _]) h.2 rfl) (fun k wr h => h.1.bl)
    (fun k hk wr h => by
      obtain ⟨e1, e2⟩ := h
      match k, hk with
      | 0, _ =>
        refine (function1_c w A is C j cs w.heap.size (w.heap.size + 1) wr hT hi hj e1).mono ?_
        rintro e w' ⟨rfl, h2⟩
        exact ⟨rfl, (e1.below h2).bl, fun _ => ⟨e1.below h2, e2.below h2 e2.lt⟩⟩
      | 1, _ =>
        refine (function2_c w A is C j cs w.heap.size (w.heap.size + 1) wr hT hi hj e1).mono ?_
        rintro e w' ⟨rfl, h2⟩
        exact ⟨rfl, (e1.below h2).bl, fun _ => ⟨e1.below h2, e2.below h2 e2.lt⟩⟩
      | 2, _ =>
        refine (function3_c w A is C j cs hf w.heap.size (w.heap.size + 1) wr hT hi hj e1).mono ?_
        rintro e w' ⟨rfl, h2⟩
        exact ⟨rfl, (e1.below h2).bl, fun _ => ⟨e1.below h2, e2.below h2 e2.lt⟩⟩
      | k + 3, hk => exact absurd hk (by simp))
    ⟨⟨h0, h1, hb⟩, h2⟩
  have hv : fo (fun k => if k = 0 then pck is true j.ps else if k = 1 then nz j.a (tyE is j.t false) else psd is j) 0 3 = fck is j := by rw [fo_three]; rfl
  simp only [List.length_cons, List.length_nil, Nat.zero_add, Nat.reduceAdd] at FC
  rw [hv] at FC
  have FCH : Hid (Calls Tryz.prog 28 #[.slice (some ⟨w.heap.size + 2, 0, none⟩) 3 3] W fun e w' => e = .returned (errV (fck is j)) ∧ Below w.heap.size w w') := FC.mono fun e w' h => ⟨h.1, h.2.1⟩
  generalize errV (fck is j) = X at FCH
  rw [← hW] at FCH
  generalize cs.toArray = ca at FCH
  clear FC hv h0 h1 h2 hb hW hT hi hj
  go_enter Tryz.func52, Tryz.ntmps52
  go_wp2_with (go_at_call 28; refine FCH.out.mono ?_; rintro e w1 ⟨rfl, hk1⟩; have HK1 : Hid (Below w.heap.size w w1) := hk1; clear hk1)
  go_ret
  exact ⟨rfl, HK1.out⟩

/-- What is wrong with a struct. -/
def sck (is : List It) (j : Jt) : Option (Int × Int) := (pck is false j.ps).or (slf is j)

theorem structure_c (A : Option Addr) (is : List It) (C : Nat) (j : Jt) (cs : List Value) (w : World) (hT : Tab w) (hi : IsIn w is A) (hj : JIn w j cs) :
    Calls Tryz.prog 53 #[.slice A is.length C, .agg cs.toArray] w fun e w' => e = .returned (errV (sck is j)) ∧ Below w.heap.size w w' := by
  obtain ⟨W, hW⟩ : ∃ W, ((w.alloc (.cells #[.slice A is.length C] 51)).alloc (.cells cs.toArray 43)).alloc (.cells #[.func (.func 67) #[] #[.pointer (some ⟨w.heap.size, 0, none⟩), .pointer (some ⟨w.heap.size + 1, 0, none⟩)], .func (.func 68) #[] #[.pointer (some ⟨w.heap.size, 0, none⟩), .pointer (some ⟨w.heap.size + 1, 0, none⟩)]] 52) = W := ⟨_, rfl⟩
  have hb : Below w.heap.size w W := by rw [← hW]; exact three_alloc _ _ _ _
  have h0 : At W w.heap.size #[.slice A is.length C] 51 := by rw [← hW]; exact ((At.new _ _ _).alloc _).alloc _
  have h1 : At W (w.heap.size + 1) cs.toArray 43 := by rw [← hW]; exact (two_at _ _ _ _).alloc _
  have h2 : At W (w.heap.size + 2) #[.func (.func 67) #[] #[.pointer (some ⟨w.heap.size, 0, none⟩), .pointer (some ⟨w.heap.size + 1, 0, none⟩)], .func (.func 68) #[] #[.pointer (some ⟨w.heap.size, 0, none⟩), .pointer (some ⟨w.heap.size + 1, 0, none⟩)]] 52 := by rw [← hW]; exact three_at _ _ _ _ _
  have FC := firstOf_c [⟨67, #[], #[.pointer (some ⟨w.heap.size, 0, none⟩), .pointer (some ⟨w.heap.size + 1, 0, none⟩)]⟩, ⟨68, #[], #[.pointer (some ⟨w.heap.size, 0, none⟩), .pointer (some ⟨w.heap.size + 1, 0, none⟩)]⟩] (by simp)
    (fun f hf => by
      simp only [List.mem_cons, List.not_mem_nil, or_false] at hf
      rcases hf with rfl | rfl
      · exact enters_of Tryz.func67 (by kernel_rfl) rfl
      · exact enters_of Tryz.func68 (by kernel_rfl) rfl) (w.heap.size + 2) 0 2
    (fun k => if k = 0 then pck is false j.ps else slf is j)
    (fun _ wr => EnvF w A is.length C cs w.heap.size (w.heap.size + 1) wr ∧ At wr (w.heap.size + 2) #[.func (.func 67) #[] #[.pointer (some ⟨w.heap.size, 0, none⟩), .pointer (some ⟨w.heap.size + 1, 0, none⟩)], .func (.func 68) #[] #[.pointer (some ⟨w.heap.size, 0, none⟩), .pointer (some ⟨w.heap.size + 1, 0, none⟩)]] 52)
    (fun wr => Below w.heap.size w wr) W
    (fun k wr h => row_at (cs := [_, _]) h.2 rfl) (fun k wr h => h.1.bl)
    (fun k hk wr h => by
      obtain ⟨e1, e2⟩ := h
      match k, hk with
      | 0, _ =>
        refine (structure1_c w A is C j cs w.heap.size (w.heap.size + 1) wr hT hi hj e1).mono ?_
        rintro e w' ⟨rfl, h2⟩
        exact ⟨rfl, (e1.below h2).bl, fun _ => ⟨e1.below h2, e2.below h2 e2.lt⟩⟩
      | 1, _ =>
        refine (structure2_c w A is C j cs w.heap.size (w.heap.size + 1) wr hT hi hj e1).mono ?_
        rintro e w' ⟨rfl, h2⟩
        exact ⟨rfl, (e1.below h2).bl, fun _ => ⟨e1.below h2, e2.below h2 e2.lt⟩⟩
      | k + 2, hk => exact absurd hk (by simp))
    ⟨⟨h0, h1, hb⟩, h2⟩
  have hv : fo (fun k => if k = 0 then pck is false j.ps else slf is j) 0 2 = sck is j := by rw [fo_two]; rfl
  simp only [List.length_cons, List.length_nil, Nat.zero_add, Nat.reduceAdd] at FC
  rw [hv] at FC
  have FCH : Hid (Calls Tryz.prog 28 #[.slice (some ⟨w.heap.size + 2, 0, none⟩) 2 2] W fun e w' => e = .returned (errV (sck is j)) ∧ Below w.heap.size w w') := FC.mono fun e w' h => ⟨h.1, h.2.1⟩
  generalize errV (sck is j) = X at FCH
  rw [← hW] at FCH
  generalize cs.toArray = ca at FCH
  clear FC hv h0 h1 h2 hb hW hT hi hj
  go_enter Tryz.func53, Tryz.ntmps53
  go_wp2_with (go_at_call 28; refine FCH.out.mono ?_; rintro e w1 ⟨rfl, hk1⟩; have HK1 : Hid (Below w.heap.size w w1) := hk1; clear hk1)
  go_ret
  exact ⟨rfl, HK1.out⟩

end Go.Proofs.YtjdkoahbahecoaaGreatDoor
