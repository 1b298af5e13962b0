/-
  Proved: what print, read, alloc and free do to the machine.
-/
import Derived.Test.YtapgaclonilnbaaDoorLw2
import Derived.Test.YtapgaclonilnbaaDoorLmu
namespace Go.Proofs.YtapgaclonilnbaaDoor
open Go.RowKit
set_option linter.unusedVariables false
set_option linter.unusedSimpArgs false

theorem infoInt : (Tryd.prog.info? 3).map (fun i => (i.zero, i.size, i.bytes)) = some (some (.int .i64 0), 1, 8) := by kernel_rfl
theorem noC_one (a : Int) : ∀ u ∈ noC a, u.oneCell' = true := by intro u hu; simp [noC] at hu; subst hu; rfl

/-- One number more is printed. -/
theorem PP.app {base : Nat} {l : List Int} (w : World) {ops : Array Oper} {rest : List Oper} {o : Oper} {a : Act} {Q : Exit → Act → World → Prop} (hgd : o.guard = none) (s x : Operand)
    (ho : o.op = .call { callee := .builtin .append, args := #[s, x], argTypes := #[23, 23] })
    (v : Value) (hs : a.eval s = v) (y : Int) (hown : OwnB 3 1 noC base l v w) (ad : Addr) (C : Nat) (hx : a.eval x = .slice (some ad) 1 C)
    (hc : ∀ j u, (noC y)[j]? = some u → w.cell? (ad.add j) = some u) (hl : l.length ≤ 10000000)
    (h : ∀ v' w', OwnB 3 1 noC base (l ++ [y]) v' w' → Below base w w' → (∀ k, k < w.heap.size → v.ownBlock ≠ some k → w'.heap[k]? = w.heap[k]?) → (∀ b, v'.ownBlock = some b → v.ownBlock = some b ∨ w.heap.size ≤ b) → wpList Tryd.prog ops Q rest (a.put o.dst v') w') : wpList Tryd.prog ops Q (o :: rest) a w :=
  OwnB.appendNL 23 3 noC _ 1 8 infoInt Tryd.underlying23 rfl (by decide) (by decide) noC_len noC_one w hgd s x ho v hs y hown ad C hx hc hl h

section
variable {X : Cx} {m : Mc} {st : Int} {L : Ly} {w w' : World}

theorem MS.lts (h : MS X m st L w) : X.R < w.heap.size ∧ X.mb < w.heap.size ∧ X.hb < w.heap.size ∧ (∀ c, c < 4 → X.g c < w.heap.size) ∧ ∀ i, i < m.bl.length + 1 → L.pb i < w.heap.size ∧ L.rb i < w.heap.size ∧ L.fb i < w.heap.size := by
  refine ⟨h.rr.lt, h.mp.lt, h.hh.head.lt, fun c hc => World.block_lt_of_cell? _ _ (h.hh.bit hc (show 0 < bl c by have := span_le c; omega)), fun i hi => ?_⟩
  have := h.at i (by omega)
  exact ⟨this.s.lt, GZ.lt this.r, GZ.lt this.f⟩

/-- New blocks have a part of their own. -/
theorem MS.ros (h : MS X m st L w) (p : Nat) (pv cv : Value) (h1 : ∀ b, pv.ownBlock = some b → L.pv.ownBlock = some b ∨ (w.heap.size ≤ b ∧ p = 7)) : Ros X { L with pv := pv, ro := fun b => if w.heap.size ≤ b then p else L.ro b } (m.bl.length + 1) := by
  obtain ⟨l1, l2, l3, l4, l5⟩ := h.lts
  have e : ∀ b, b < w.heap.size → (if w.heap.size ≤ b then p else L.ro b) = L.ro b := fun b hb => if_neg (by omega)
  refine ⟨(e _ l1).trans h.ro.r, (e _ l3).trans h.ro.h, fun c hc => (e _ (l4 c hc)).trans (h.ro.g c hc), fun b hb => ?_, fun b hb => ?_, ⟨(e _ l2).trans h.ro.m.1, (e _ h.mp.lx).trans h.ro.m.2⟩, fun i hi => ?_⟩
  · exact (e _ (by obtain ⟨_, cs, ha⟩ := h.cc.at hb; exact ha.lt)).trans (h.ro.c b hb)
  · rcases h1 b hb with h2 | ⟨h2, h3⟩
    · exact (e _ (by obtain ⟨_, cs, ha⟩ := h.pp.at h2; exact ha.lt)).trans (h.ro.p b h2)
    · show (if w.heap.size ≤ b then p else L.ro b) = 7
      rw [if_pos h2, h3]
  · obtain ⟨a1, a2, a3⟩ := l5 i hi
    obtain ⟨b1, b2, b3⟩ := h.ro.s i hi
    exact ⟨(e _ a1).trans b1, (e _ a2).trans b2, (e _ a3).trans b3⟩

theorem MS.prn (h : MS X m st L w) (o : Obj) (y : Int) {v5 : Value} {w5 : World} (ho : OwnB 3 1 noC X.wz.heap.size (m.out ++ [y]) v5 w5) (hb : Below X.wz.heap.size (w.alloc o) w5)
    (hk : ∀ k, k < (w.alloc o).heap.size → L.pv.ownBlock ≠ some k → w5.heap[k]? = (w.alloc o).heap[k]?) (hv : ∀ b, v5.ownBlock = some b → L.pv.ownBlock = some b ∨ (w.alloc o).heap.size ≤ b) :
    GZ 56 w5 X.R 2826 (rnF X m st L.cv L.pv L.iv (L.pb m.bl.length)) ∧ MS X { m with out := m.out ++ [y] } st { L with pv := v5, ro := fun b => if w.heap.size ≤ b then 7 else L.ro b } (w5.setCell ⟨X.R, 5, none⟩ v5) := by
  obtain ⟨l1, l2, l3, l4, l5⟩ := h.lts
  have b0 := below_alloc w o
  have k5 : Kp (fun b => L.ro b = 7) w w5 := ⟨(b0.mono (Nat.zero_le _)).trans (hb.mono (Nat.zero_le _)), fun b hb2 hn => (hk b (Nat.lt_of_lt_of_le hb2 b0.size) fun e => hn (h.ro.p b e)).trans (b0.block b hb2)⟩
  have q5 := h.stay (P := fun x => x = 7) k5
  have k6 : Kp (fun b => L.ro b = 7 ∨ L.ro b = 0) w (w5.setCell ⟨X.R, 5, none⟩ v5) := (k5.mono fun b hb => Or.inl hb).trans (Kp.set w5 5 v5 (Or.inr h.ro.r))
  have q6 := h.stay (P := fun x => x = 7 ∨ x = 0) k6
  have r5 := q5.rr (by show ¬ _ = _; omega)
  refine ⟨r5, h.tb, q6.bz (by show ¬ (_ ∨ _); omega), h.hl, q6.mp (by show ¬ (_ ∨ _); omega), ?_, q6.hh (fun c hc => by show ¬ (_ ∨ _); omega), q6.cc (by show ¬ (_ ∨ _); omega), ?_, h.ii, fun i hi => q6.kb i hi (by show ¬ (_ ∨ _); omega) (by show ¬ (_ ∨ _); omega) (by show ¬ (_ ∨ _); omega), ⟨q6.ns (by show ¬ (_ ∨ _); omega), q6.nr (by show ¬ (_ ∨ _); omega), q6.nf (by show ¬ (_ ∨ _); omega)⟩, h.ros 7 v5 L.cv fun b hb => ?_, fun b hb => ?_⟩
  · refine (GZ.set r5 5 (by omega) _).ext fun i hi => ?_
    unfold pu
    by_cases e : i = 5
    · subst e; rfl
    · rw [if_neg e]
      rcases i with _ | _ | _ | _ | _ | _ | _ | _ | _ | _ | i <;> first | rfl | omega
  · refine OwnB.but ho (Kp.set (F := fun b => b = X.R) w5 5 v5 rfl) fun b hb e => ?_
    subst e
    rcases hv _ hb with e2 | e2
    · have := h.ro.p _ e2
      have := h.ro.r
      omega
    · have := b0.size
      omega
  · rcases hv b hb with e2 | e2
    · exact Or.inl e2
    · exact Or.inr ⟨Nat.le_trans b0.size e2, rfl⟩
  · show (if w.heap.size ≤ b then 7 else L.ro b) = 9
    rw [if_neg (by have := h.bz.size; omega)]
    exact h.zz b hb

set_option maxHeartbeats 1000000 in
theorem print_c (h : MS X m st L w) (v : Int) (u : Bool) (hv : I32 v) (hl : m.out.length ≤ 10000000) : Calls Tryd.prog 44 #[.pointer (some ⟨X.R, 0, none⟩), .int .i32 v, .bool u] w fun e w' => e = .returned (.tuple #[]) ∧ ∃ L', L'.pb = L.pb ∧ MS X { m with out := m.out ++ [if u then wh v else v] } st L' w' := by
  obtain ⟨v1, v2⟩ := hv
  have c5 := h.rr.cell 5 (by omega)
  simp only [rnF] at c5
  have HH : Hid (MS X m st L w) := h
  have HL : Hid (m.out.length ≤ 10000000) := hl
  have HO : Hid (∀ o, OwnB 3 1 noC X.wz.heap.size m.out L.pv (w.alloc o)) := fun o => h.pp.below (below_alloc _ _)
  clear h hl
  obtain ⟨pv, hpv⟩ : ∃ pv, pv = L.pv := ⟨_, rfl⟩
  have HP : Hid (pv = L.pv) := hpv
  rw [← hpv] at c5 HO
  clear hpv
  cases u with
  | true =>
    show Calls _ _ _ _ fun e w' => e = .returned (.tuple #[]) ∧ ∃ L', L'.pb = L.pb ∧ MS X { m with out := m.out ++ [wh v] } st L' w'
    go_enter Tryd.func44, Tryd.ntmps44
    go_wp2_with (at_builtin; refine PP.app _ rfl _ _ rfl _ rfl (wh v) (HO.out _) ⟨w.heap.size, 0, none⟩ 1 rfl (fun j u hj => cells_new _ (noC (wh v)) 3 j u hj) HL.out ?_; intro v5 w5 ho hb hk hv; obtain ⟨A5, n5, C5, rfl⟩ : ∃ A n C, v5 = .slice A n C := (by obtain ⟨A, C, e, -⟩ := OwnB.shape noC_len ho; exact ⟨A, _, C, e⟩); have M5 := MS.prn HH.out _ (wh v) ho hb (by rw [← HP.out]; exact hk) (by rw [← HP.out]; exact hv); have c55 := M5.1.cell 5 (by omega); have f55 := M5.1.frozen 5; simp only [rnF] at c55; have N5 : Hid (_ ∧ _) := M5; clear ho hb hk hv M5)
    go_end0
    exact ⟨rfl, _, (by rfl), N5.out.2⟩
  | false =>
    show Calls _ _ _ _ fun e w' => e = .returned (.tuple #[]) ∧ ∃ L', L'.pb = L.pb ∧ MS X { m with out := m.out ++ [v] } st L' w'
    go_enter Tryd.func44, Tryd.ntmps44
    go_wp2_with (at_builtin; refine PP.app _ rfl _ _ rfl _ rfl v (HO.out _) ⟨w.heap.size, 0, none⟩ 1 rfl (fun j u hj => cells_new _ (noC v) 3 j u hj) HL.out ?_; intro v5 w5 ho hb hk hv; obtain ⟨A5, n5, C5, rfl⟩ : ∃ A n C, v5 = .slice A n C := (by obtain ⟨A, C, e, -⟩ := OwnB.shape noC_len ho; exact ⟨A, _, C, e⟩); have M5 := MS.prn HH.out _ v ho hb (by rw [← HP.out]; exact hk) (by rw [← HP.out]; exact hv); have c55 := M5.1.cell 5 (by omega); have f55 := M5.1.frozen 5; simp only [rnF] at c55; have N5 : Hid (_ ∧ _) := M5; clear ho hb hk hv M5)
    go_end0
    exact ⟨rfl, _, (by rfl), N5.out.2⟩

theorem Inp.drop {w : World} {x : Int} {l : List Int} {C b o : Nat} (hC : (x :: l).length ≤ C) (hC2 : C ≤ 281474976710656) (hR : Rel w 1 GI (x :: l) (some ⟨b, o, none⟩)) : InpIn w l (.slice (if C = 1 then some ⟨b, o, none⟩ else some ⟨b, o + 1, none⟩) l.length (C - 1)) := by
  refine ⟨_, _, rfl, by simp at hC; omega, by omega, fun i hi => ?_⟩
  simp at hC
  rw [if_neg (by omega)]
  obtain ⟨b2, o2, cs, e1, e2, e3⟩ := hR (i + 1) (by simp; omega)
  cases e1
  refine ⟨b, o + 1, cs, rfl, ?_, by simpa using e3⟩
  rwa [show o + 1 + i * 1 = o + (i + 1) * 1 by omega]

set_option maxHeartbeats 1000000 in
theorem read_c (h : MS X m st L w) : Calls Tryd.prog 45 #[.pointer (some ⟨X.R, 0, none⟩)] w fun e w' => e = .returned (.int .i32 (wd (m.ip.getD 0 0))) ∧ ∃ L', L'.pb = L.pb ∧ L'.rb = L.rb ∧ MS X { m with ip := m.ip.drop 1 } st L' w' := by
  have c2 := h.rr.cell 2 (by omega)
  have f2 := h.rr.frozen 2
  simp only [rnF] at c2
  obtain ⟨A, C, ev, hC, hC2, hR⟩ := h.ii
  have HH : Hid (MS X m st L w) := h
  rw [ev] at c2
  cases hip : m.ip with
  | nil =>
    rw [hip] at c2 hC
    simp only [List.length_nil] at c2
    show Calls _ _ _ _ fun e w' => e = .returned (.int .i32 0) ∧ ∃ L', L'.pb = L.pb ∧ L'.rb = L.rb ∧ MS X { m with ip := [] } st L' w'
    have HM : Hid (MS X { m with ip := [] } st L w) := by have := h; rw [← hip]; exact this
    clear h ev hip hR
    go_enter Tryd.func45, Tryd.ntmps45
    go_wp2
    go_ret
    exact ⟨rfl, L, rfl, rfl, HM.out⟩
  | cons x l =>
    rw [hip] at c2 hC hR
    obtain ⟨b, o, cs, rfl, hrow, hg⟩ := hR 0 (by simp)
    have hD := Inp.drop hC hC2 hR
    have c0 : w.cell? ⟨b, o, none⟩ = some (.int .i64 x) := by
      have hg : cs = [.int .i64 x] := hg
      subst hg
      have := hrow.2 0 _ rfl
      have e2 := h.bz.cell (p := ⟨b, o, none⟩) hrow.1
      rw [e2]
      simpa using this
    simp only [List.length_cons] at c2 hC
    have hz : ¬ ((l.length : Int) + 1 = 0) := by omega
    show Calls _ _ _ _ fun e w' => e = .returned (.int .i32 (wd x)) ∧ ∃ L', L'.pb = L.pb ∧ L'.rb = L.rb ∧ MS X { m with ip := l } st L' w'
    have HM : Hid (∀ v, InpIn X.wz l v → MS X { m with ip := l } st { L with iv := v } (w.setCell ⟨X.R, 2, none⟩ v)) := fun v hv => h.inp l v hv
    have HD : Hid (InpIn X.wz l (.slice (if C = 1 then some ⟨b, o, none⟩ else some ⟨b, o + 1, none⟩) l.length (C - 1))) := hD
    rw [← wrap_wd]
    clear h ev hip hR hrow hg hD HH
    by_cases e1 : C = 1
    · subst e1
      have hl : l.length = 0 := by omega
      rw [if_pos rfl] at HD
      have HE : Hid (InpIn X.wz l (.slice (some ⟨b, o, none⟩) 0 0)) := (by have := HD.out; rwa [hl] at this : InpIn X.wz l (.slice (some ⟨b, o, none⟩) 0 0))
      go_enter Tryd.func45, Tryd.ntmps45
      go_wp2
      go_ret
      exact ⟨rfl, _, (by rfl), (by rfl), HM.out _ HE.out⟩
    · rw [if_neg e1] at HD
      go_enter Tryd.func45, Tryd.ntmps45
      go_wp2
      go_ret
      exact ⟨rfl, _, (by rfl), (by rfl), HM.out _ HD.out⟩

set_option maxHeartbeats 1000000 in
theorem free2_c (h : MS X m st L w) (x : Int) (h0 : 0 ≤ x) (h1 : x ≤ 4294967295) : Calls Tryd.prog 47 #[.pointer (some ⟨X.R, 0, none⟩), .int .u32 x] w fun e w' =>
    ((frA m.us x (atOf x)).1 = 0 → e = .returned (.tuple #[]) ∧ MS X { m with us := (frA m.us x (atOf x)).2 } st L w') ∧ ((frA m.us x (atOf x)).1 ≠ 0 → e = .panicked [{ v := endV 4 0, recovered := false }] ∧ MS X { m with us := (frA m.us x (atOf x)).2 } st L w') := by
  have c9 := h.rr.cell 9 (by omega)
  simp only [rnF] at c9
  have HF := free_c h.hh x h.tab
  have HM : Hid (∀ w', HIn w' X.hb X.g (frA m.us x (atOf x)).2 → Kp (Gs X.g) w w' → MS X { m with us := (frA m.us x (atOf x)).2 } st L w') := fun w' a b => h.heap _ a b
  have HF2 : Hid (Calls Tryd.prog 56 #[.pointer (some ⟨X.hb, 0, none⟩), .int .i64 x] w fun e w' => e = .returned (.int .i64 (frA m.us x (atOf x)).1) ∧ HIn w' X.hb X.g (frA m.us x (atOf x)).2 ∧ Kp (Gs X.g) w w') := HF
  clear h HF
  generalize (frA m.us x (atOf x)).1 = e at *
  generalize (frA m.us x (atOf x)).2 = us at *
  have HT := fun w => trap_c w
  have hx : IntKind.i64.wrap x = x := wrap_in x ⟨by omega, by omega⟩
  by_cases he : e = 0
  · subst he
    go_enter Tryd.func47, Tryd.ntmps47
    go_wp2_with (go_at_call 56; refine (HF2.out).mono ?_; rintro e w1 ⟨rfl, h1, h2⟩; have M1 := HM.out w1 h1 h2; clear h1 h2)
    go_end0
    exact ⟨fun _ => ⟨rfl, M1⟩, fun h => absurd rfl h⟩
  · go_enter Tryd.func47, Tryd.ntmps47
    go_wp2_with (first
      | (go_at_call 56; refine (HF2.out).mono ?_; rintro e w1 ⟨rfl, h1, h2⟩; have M1 := HM.out w1 h1 h2; clear h1 h2)
      | (go_at_call 54; refine (HT _).mono ?_; rintro e w1 ⟨rfl, hw⟩; rw [hw]; clear hw w1))
    exact ⟨rfl, fun h => absurd h he, fun _ => ⟨rfl, M1⟩⟩

set_option maxHeartbeats 1000000 in
theorem alloc2_c (h : MS X m st L w) (x : Int) : Calls Tryd.prog 46 #[.pointer (some ⟨X.R, 0, none⟩), .int .i64 x] w fun e w' =>
    ((alA m.us (clsOf x)).2.1 = 0 → e = .returned (.int .i32 (wd (alA m.us (clsOf x)).1)) ∧ MS X { m with us := (alA m.us (clsOf x)).2.2 } st L w') ∧ ((alA m.us (clsOf x)).2.1 ≠ 0 → e = .panicked [{ v := endV 3 0, recovered := false }] ∧ MS X { m with us := (alA m.us (clsOf x)).2.2 } st L w') := by
  have c9 := h.rr.cell 9 (by omega)
  simp only [rnF] at c9
  have HF := alloc_c h.hh x h.tab
  have HM : Hid (∀ w', HIn w' X.hb X.g (alA m.us (clsOf x)).2.2 → Kp (Gs X.g) w w' → MS X { m with us := (alA m.us (clsOf x)).2.2 } st L w') := fun w' a b => h.heap _ a b
  have HF2 : Hid (Calls Tryd.prog 55 #[.pointer (some ⟨X.hb, 0, none⟩), .int .i64 x] w fun e w' => e = .returned (.tuple #[.int .i64 (alA m.us (clsOf x)).1, .int .i64 (alA m.us (clsOf x)).2.1]) ∧ HIn w' X.hb X.g (alA m.us (clsOf x)).2.2 ∧ Kp (Gs X.g) w w') := HF
  clear h HF
  generalize (alA m.us (clsOf x)).1 = v at *
  generalize (alA m.us (clsOf x)).2.1 = e at *
  generalize (alA m.us (clsOf x)).2.2 = us at *
  have HT := fun w => stop_c 3 0 w
  rw [← wrap_wd]
  by_cases he : e = 0
  · subst he
    go_enter Tryd.func46, Tryd.ntmps46
    go_wp2_with (go_at_call 55; refine (HF2.out).mono ?_; rintro e w1 ⟨rfl, h1, h2⟩; have M1 := HM.out w1 h1 h2; clear h1 h2)
    go_ret
    exact ⟨fun _ => ⟨rfl, M1⟩, fun h => absurd rfl h⟩
  · go_enter Tryd.func46, Tryd.ntmps46
    go_wp2_with (first
      | (go_at_call 55; refine (HF2.out).mono ?_; rintro e w1 ⟨rfl, h1, h2⟩; have M1 := HM.out w1 h1 h2; clear h1 h2)
      | (go_at_call 17; refine (HT _).mono ?_; rintro e w1 ⟨rfl, hw⟩; rw [hw]; clear hw w1))
    exact ⟨rfl, fun h => absurd h he, fun _ => ⟨rfl, M1⟩⟩
end
end Go.Proofs.YtapgaclonilnbaaDoor
