/-
  Proved: the program's walk: what it calls, in which order, and what it leaves.
-/
import Derived.Test.YtmmgdiecmokipaaPwalk
namespace Go.Proofs.Ytmmgdiecmokipaa
open Go.RowKit

/-- What a walk's first closure must do. -/
def Ent (J : PJ) (n fe : Nat) (caps : Array Value) : Prop := ∀ ent lf F w (b : Nat) (f : Int), J ent lf F w → b < n → b ∉ ent.map (·.1) → ent.length < n → ((ent = [] ∧ b = 0 ∧ f = -1) ∨ ∃ a : Nat, a ∈ ent.map (·.1) ∧ f = (a : Int)) →
  Calls Try.prog fe (#[.int .i64 (b : Int), .int .i64 f] ++ caps) w fun e w' => e = .returned (.tuple #[]) ∧ ∃ F', J (ent ++ [(b, f)]) lf F' w' ∧ Gr F F' w w'
/-- .. its second one. -/
def Lev (J : PJ) (n fl : Nat) (caps : Array Value) : Prop := ∀ ent lf F w (b : Nat), J ent lf F w → lf.length ≤ n →
  Calls Try.prog fl (#[.int .i64 (b : Int)] ++ caps) w fun e w' => e = .returned (.tuple #[]) ∧ ∃ F', J ent (lf ++ [b]) F' w' ∧ Gr F F' w w'

/-- The walk at a step, in memory; m: so much is left to be done. -/
def WZ (n : Nat) (to : List (List Int)) (J : PJ) (ev : Value) (F0 : Nat → Prop) (w0 : World) (w : World) (m : Nat) : Prop := ∃ ent lfl stk pv F, WS J ev F0 w0 (ent.map (·.1)) ent lfl stk pv F w ∧ DI n to ent lfl stk ∧ phi n to ent stk = m

theorem WS.row {J : PJ} {ev pv : Value} {F0 F : Nat → Prop} {w0 w w' : World} {sn : List Nat} {ent : List (Nat × Int)} {lf : List Nat} {stk stk' : List (Nat × Nat)} (h : WS J ev F0 w0 sn ent lf stk pv F w) (hst : Stay J) (ho : OP (w0.heap.size + 4) stk' pv w') (k : Kp (fun b => pv.ownBlock = some b) w w') : WS J ev F0 w0 sn ent lf stk' pv F w' := by
  obtain ⟨h1, h2, h3, h4, h5, h6, h7, h8⟩ := h
  have hne : ∀ b, b < w0.heap.size + 4 → ¬ pv.ownBlock = some b := fun b hb e => by
    have := (OwnB.at h6 e).1
    omega
  refine ⟨h1.other k fun b hb hlt => absurd hb (hne b (by omega)), k.at h2 (hne _ (by omega)), (k.2 _ h3.lt (hne _ (by omega))).trans h3, k.at h4 (hne _ (by omega)), k.at h5 (hne _ (by omega)), ho, hst.1 _ _ _ _ _ _ h7 k fun b hb hF => ?_, h8⟩
  rcases h8 b hF with h | h
  · exact hne b (by omega) hb
  · exact h.2 hb

theorem phi_pop (n : Nat) (to : List (List Int)) (ent : List (Nat × Int)) (st : List (Nat × Nat)) (x : Nat × Nat) : phi n to ent st < phi n to ent (st ++ [x]) := by
  simp only [phi, List.map_append, List.sum_append, List.map_cons, List.map_nil, List.sum_cons, List.sum_nil]
  omega

theorem phi_look {n : Nat} {to : List (List Int)} {ent : List (Nat × Int)} {st : List (Nat × Nat)} {b k : Nat} (hk : k < (to.getD b []).length) : phi n to ent (st ++ [(b, k + 1)]) < phi n to ent (st ++ [(b, k)]) := by
  simp only [phi, List.map_append, List.sum_append, List.map_cons, List.map_nil, List.sum_cons, List.sum_nil]
  omega

theorem phi_enter {n : Nat} {to : List (List Int)} {ent : List (Nat × Int)} {st : List (Nat × Nat)} {b k y : Nat} {x : Nat × Int} (hf : Fw to) (hk : k < (to.getD b []).length) (he : ent.length < n) : phi n to (ent ++ [x]) (st ++ [(b, k + 1)] ++ [(y, 0)]) < phi n to ent (st ++ [(b, k)]) := by
  have := hf.row y
  simp only [phi, List.map_append, List.sum_append, List.map_cons, List.map_nil, List.sum_cons, List.sum_nil, List.length_append, List.length_cons, List.length_nil]
  have h1 : (n - ent.length) * 202 = (n - (ent.length + (0 + 1))) * 202 + 202 := by
    rw [← Nat.succ_mul]
    congr 1
    omega
  omega

theorem DI.room {n : Nat} {to : List (List Int)} {ent : List (Nat × Int)} {lfl : List Nat} {st : List (Nat × Nat)} (h : DI n to ent lfl st) {y : Nat} (hy : y ∉ ent.map (·.1)) (hn : y < n) : ent.length < n := by
  have h1 : (y :: ent.map (·.1)).length ≤ (List.range n).length := (List.nodup_cons.2 ⟨hy, h.d1⟩).length_le_of_subset fun x hx => by
    rcases List.mem_cons.1 hx with e | e
    · subst e; simp [hn]
    · obtain ⟨z, hz, rfl⟩ := List.mem_map.1 e
      simp [h.d3 z hz]
  simp at h1
  omega

theorem WS.start {J : PJ} {ev : Value} {F0 : Nat → Prop} {w0 : World} (hst : Stay J) (hJ : J [] [] F0 w0) : WS J ev F0 w0 [] [] [] [] (.slice none 0 0) F0 ((((w0.alloc (.cells #[ev] 34)).alloc (.map #[] 0)).alloc (.cells #[.map (some (w0.heap.size + 1))] 47)).alloc (.cells #[.slice none 0 0] 48)) := by
  have s1 : (w0.alloc (.cells #[ev] 34)).heap.size = w0.heap.size + 1 := by simp
  have s2 : ((w0.alloc (.cells #[ev] 34)).alloc (.map #[] 0)).heap.size = w0.heap.size + 2 := by simp
  have s3 : (((w0.alloc (.cells #[ev] 34)).alloc (.map #[] 0)).alloc (.cells #[.map (some (w0.heap.size + 1))] 47)).heap.size = w0.heap.size + 3 := by simp
  have b1 := below_alloc w0 (.cells #[ev] 34)
  have b2 := below_alloc (w0.alloc (.cells #[ev] 34)) (.map #[] 0)
  have b3 := below_alloc ((w0.alloc (.cells #[ev] 34)).alloc (.map #[] 0)) (.cells #[.map (some (w0.heap.size + 1))] 47)
  have b4 := below_alloc (((w0.alloc (.cells #[ev] 34)).alloc (.map #[] 0)).alloc (.cells #[.map (some (w0.heap.size + 1))] 47)) (.cells #[.slice none 0 0] 48)
  have b34 := below_next b3 b4
  have b234 := below_next b2 b34
  have b1234 := below_next b1 b234
  have k : Kp F0 w0 _ := Kp.of_below b1234
  have kf : Kp (fun _ => False) w0 _ := Kp.of_below b1234
  have hm : ((w0.alloc (.cells #[ev] 34)).alloc (.map #[] 0)).heap[w0.heap.size + 1]? = some (.map #[] 0) := by
    have := alloc_at (w0.alloc (.cells #[ev] 34)) (.map #[] 0)
    rwa [s1] at this
  refine ⟨k, (At.new w0 _ _).below b234 (by omega), (b34.block _ (by omega)).trans hm, (At.newS _ _ _ s2).below b4 (by omega), At.newS _ _ _ s3, OP.empty (by rw [show w0.heap.size + 4 = (w0.heap.size + 3) + 1 from rfl, ← s3]; simp), hst.1 _ _ _ _ _ _ hJ kf fun b hb => hb.elim, fun b hb => Or.inl ⟨hst.2 _ _ _ _ hJ b hb, hb⟩⟩

theorem make_seen (w : World) : (Instr.makeMap 47 none).run Try.prog w = .ok (.map (some w.heap.size)) (w.alloc (.map #[] 0)) := rfl

set_option maxRecDepth 20000 in
set_option maxHeartbeats 4000000 in
theorem pwalk_c (n : Nat) (hn0 : 0 < n) (hn : n ≤ 1000) (to : List (List Int)) (tv : Value) (w00 w0 : World) (h : RwsIn w00 to tv) (hf : Fw to) (hb : Below w00.heap.size w00 w0) (J : PJ) (hst : Stay J) (fe fl : Nat) (cE cL : Array Value) (F0 : Nat → Prop) (hF0 : ∀ b, F0 b → w00.heap.size ≤ b)
    (hcE : ∀ (args : Array Value) (w : World), (callFunc fe args).run Try.prog w = .ok (.enter fe args) w) (hcL : ∀ (args : Array Value) (w : World), (callFunc fl args).run Try.prog w = .ok (.enter fl args) w)
    (HE : Ent J n fe cE) (HL : Lev J n fl cL) (hJ : J [] [] F0 w0) :
    Calls Try.prog 18 #[.int .i64 (n : Int), tv, .func (.func fe) #[] cE, .func (.func fl) #[] cL] w0 fun e w' => e = .returned (.tuple #[]) ∧ ∃ ent lfl F', J ent lfl F' w' ∧ Done n to ent lfl ∧ Gr F0 F' w0 w' := by
  have TI : Hid (RwsIn w00 to tv) := h
  have BB : Hid (Below w00.heap.size w00 w0) := hb
  obtain ⟨A, C, rfl, -⟩ := h
  have FW : Hid (Fw to) := hf
  have ST : Hid (Stay J) := hst
  have HE' : Hid (Ent J n fe cE) := HE
  have HL' : Hid (Lev J n fl cL) := HL
  have H00 : Hid (∀ b, F0 b → w00.heap.size ≤ b) := hF0
  have hnz : ¬ (n : Int) ≤ 0 := by omega
  have S0 : Hid (WS J (.func (.func fe) #[] cE) F0 w0 [] [] [] [] (.slice none 0 0) F0 ((((w0.alloc (.cells #[.func (.func fe) #[] cE] 34)).alloc (.map #[] 0)).alloc (.cells #[.map (some (w0.heap.size + 1))] 47)).alloc (.cells #[.slice none 0 0] 48))) := WS.start hst hJ
  have hmk : (Instr.makeMap 47 none).run Try.prog (w0.alloc (.cells #[.func (.func fe) #[] cE] 34)) = .ok (.map (some (w0.heap.size + 1))) ((w0.alloc (.cells #[.func (.func fe) #[] cE] 34)).alloc (.map #[] 0)) := by
    have := make_seen (w0.alloc (.cells #[.func (.func fe) #[] cE] 34))
    rwa [show (w0.alloc (.cells #[.func (.func fe) #[] cE] 34)).heap.size = w0.heap.size + 1 by simp] at this
  have CC : Hid (∀ (F : Nat → Prop) (w : World) (ent : List (Nat × Int)) (lfl : List Nat) (stk : List (Nat × Nat)) (pv : Value) (b : Nat) (f : Int), WS J (.func (.func fe) #[] cE) F0 w0 (ent.map (·.1)) ent lfl stk pv F w → b ∉ ent.map (·.1) → stk.length ≤ 1000 → b < n → ent.length < n → ((ent = [] ∧ b = 0 ∧ f = -1) ∨ ∃ a : Nat, a ∈ ent.map (·.1) ∧ f = (a : Int)) →
      Calls Try.prog 31 #[.int .i64 (b : Int), .int .i64 f, .pointer (some ⟨w0.heap.size + 2, 0, none⟩), .pointer (some ⟨w0.heap.size, 0, none⟩), .pointer (some ⟨w0.heap.size + 3, 0, none⟩)] w fun e w' => e = .returned (.tuple #[]) ∧ ∃ pv' F', WS J (.func (.func fe) #[] cE) F0 w0 ((ent ++ [(b, f)]).map (·.1)) (ent ++ [(b, f)]) lfl (stk ++ [(b, 0)]) pv' F' w') := fun F w ent lfl stk pv b f h1 h2 h3 h4 h5 h6 => by
    rw [List.map_append]
    exact come_c J hst fe cE F0 F w0 w _ ent lfl stk pv b f h1 h2 h3 hcE fun w1 hj => HE ent lfl F w1 b f hj h4 h2 h5 h6
  clear hf hst HE HL hF0 hb hJ
  go_enter Try.func18, Try.ntmps18
  go_wp2_with (go_at_call 31; refine (CC.out F0 _ [] [] [] _ 0 (-1) S0.out (by simp) (by simp) hn0 hn0 (Or.inl ⟨rfl, rfl, rfl⟩)).mono ?_; rintro e w1 ⟨rfl, pv1, F1, h1⟩; have H1 : Hid (WS J (.func (.func fe) #[] cE) F0 w0 [0] [(0, -1)] [] [(0, 0)] pv1 F1 w1) := h1; clear h1)
  go_loopw [] (fun wr => ∃ m, WZ n to J (.func (.func fe) #[] cE) F0 w0 wr m) (fun wr => lst (WZ n to J (.func (.func fe) #[] cE) F0 w0 wr))
  case atStart => exact ⟨_, [(0, -1)], [], [(0, 0)], pv1, F1, H1.out, DI.start hn0, rfl⟩
  case round =>
    obtain ⟨ent, lfl, stk, pv, F, hW, hD, hphi⟩ := lst_spec hrel
    have W0 : Hid (WS J (.func (.func fe) #[] cE) F0 w0 (ent.map (·.1)) ent lfl stk pv F wr) := hW
    have D0 : Hid (DI n to ent lfl stk) := hD
    have PH : Hid (phi n to ent stk = lst (WZ n to J (.func (.func fe) #[] cE) F0 w0 wr)) := hphi
    have cp : wr.cell? ⟨w0.heap.size + 3, 0, none⟩ = some pv := hW.2.2.2.2.1.cell 0
    have cm : wr.cell? ⟨w0.heap.size + 2, 0, none⟩ = some (.map (some (w0.heap.size + 1))) := hW.2.2.2.1.cell 0
    have fp := hW.2.2.2.2.1.frozen 0
    obtain ⟨hl1, hl2, hl3⟩ := hD.len
    rcases List.eq_nil_or_concat stk with rfl | ⟨st, x, rfl⟩
    · obtain ⟨Av, Cv, ev, -⟩ := OwnB.shape encO_len hW.2.2.2.2.2.1
      subst ev
      clear hW hD hphi hrel
      go_wp2
      go_end0
      exact ⟨rfl, ent, lfl, F, W0.out.2.2.2.2.2.2.1, D0.out.done, W0.out.1, fun b hb => (W0.out.2.2.2.2.2.2.2 b hb).elim (fun h => Or.inl h.2) (fun h => Or.inr (by omega))⟩
    · obtain ⟨b, k⟩ := x
      rw [List.concat_eq_append] at *
      obtain ⟨B, Cv, ev, hB1, c0, c1, fz, hC, hB2⟩ := OP.last hW.2.2.2.2.2.1
      subst ev
      rw [List.length_append] at hl2
      have hkl := (hD.d10 (b, k) (by simp)).1
      have BW : Hid (Below w00.heap.size w00 wr) := BB.out.trans (hW.1.below BB.out.size H00.out)
      have SE : Hid (SeenAt wr (w0.heap.size + 1) (ent.map (·.1))) := hW.2.2.1
      have HB0 : w00.heap.size ≤ B := by have := BB.out.size; omega
      clear hW hD hphi hrel
      rcases Nat.lt_or_ge k (to.getD b []).length with hk | hk
      · have NC : Hid (Calls Try.prog 32 #[.slice A to.length C, .pointer (some ⟨B, st.length * 2, none⟩)] wr fun e w' => e = .returned (.tuple #[.int .i64 ((to.getD b [])[k]'hk), .bool true]) ∧ w' = wr.setCell ⟨B, st.length * 2 + 1, none⟩ (.int .i64 ((k + 1 : Nat) : Int))) := nextOf_more b k B _ to _ w00 wr TI.out BW.out HB0 FW.out c0 c1 (fz _) hk
        have W1 : Hid (WS J (.func (.func fe) #[] cE) F0 w0 (ent.map (·.1)) ent lfl (st ++ [(b, k + 1)]) (.slice (some ⟨B, 0, none⟩) (st.length + 1) Cv) F (wr.setCell ⟨B, st.length * 2 + 1, none⟩ (.int .i64 ((k + 1 : Nat) : Int)))) := W0.out.row ST.out W0.out.2.2.2.2.2.1.bump (Kp.set wr _ _ rfl)
        have c0' : (wr.setCell ⟨B, st.length * 2 + 1, none⟩ (.int .i64 ((k + 1 : Nat) : Int))).cell? ⟨B, st.length * 2, none⟩ = some (.int .i64 (b : Int)) := by
          rw [World.cell?_setCell_other _ _ _ _ (by simp)]
          exact c0
        have cm' : (wr.setCell ⟨B, st.length * 2 + 1, none⟩ (.int .i64 ((k + 1 : Nat) : Int))).cell? ⟨w0.heap.size + 2, 0, none⟩ = some (.map (some (w0.heap.size + 1))) := W1.out.2.2.2.1.cell 0
        obtain ⟨lv0, hlk⟩ := look_seen W1.out.2.2.1 ((to.getD b [])[k]'hk)
        have D1 : Hid ((∀ y : Nat, (to.getD b [])[k]'hk = (y : Int) → y < n → y ∈ ent.map (·.1)) → DI n to ent lfl (st ++ [(b, k + 1)])) := fun h => D0.out.look hk h
        have D2 : Hid (∀ y : Nat, (to.getD b [])[k]'hk = (y : Int) → y < n → y ∉ ent.map (·.1) → DI n to (ent ++ [(y, (b : Int))]) lfl (st ++ [(b, k + 1)] ++ [(y, 0)])) := fun y h1 h2 h3 => D0.out.enter hk h1 h2 h3
        have P1 : Hid (phi n to ent (st ++ [(b, k + 1)]) < lst (WZ n to J (.func (.func fe) #[] cE) F0 w0 wr)) := (by rw [← PH.out]; exact phi_look hk : phi n to ent (st ++ [(b, k + 1)]) < lst (WZ n to J (.func (.func fe) #[] cE) F0 w0 wr))
        have P2 : Hid (ent.length < n → ∀ y : Nat, phi n to (ent ++ [(y, (b : Int))]) (st ++ [(b, k + 1)] ++ [(y, 0)]) < lst (WZ n to J (.func (.func fe) #[] cE) F0 w0 wr)) := (fun h y => by rw [← PH.out]; exact phi_enter FW.out hk h : ent.length < n → ∀ y : Nat, phi n to (ent ++ [(y, (b : Int))]) (st ++ [(b, k + 1)] ++ [(y, 0)]) < lst (WZ n to J (.func (.func fe) #[] cE) F0 w0 wr))
        have BE : Hid (b ∈ ent.map (·.1)) := (D0.out.d7 b (by simp)).1
        have LN : Hid (∀ y, y ∉ ent.map (·.1) → y < n → ent.length < n) := fun y h1 h2 => D0.out.room h1 h2
        generalize (to.getD b [])[k]'hk = x at *
        generalize hw2 : wr.setCell ⟨B, st.length * 2 + 1, none⟩ (.int .i64 ((k + 1 : Nat) : Int)) = w2 at *
        have hp : st.length ≤ 1000 := by simp at hl2; omega
        have HP : Hid ((st ++ [(b, k + 1)]).length ≤ 1000) := (by rw [List.length_append]; simp at hl2 ⊢; omega : (st ++ [(b, k + 1)]).length ≤ 1000)
        clear hw2 c1 cm fz fp hl2 hk hkl
        generalize st.length = p at *
        rcases Bool.eq_false_or_eq_true (inI x (ent.map (·.1))) with hin | hin
        · rw [hin] at hlk
          have DD : Hid (DI n to ent lfl (st ++ [(b, k + 1)])) := D1.out fun y hy _ => by subst hy; exact inI_nat.1 hin
          clear hin D1 D2
          go_wp2_with (go_at_call 32; refine NC.out.mono ?_; rintro e w3 ⟨rfl, rfl⟩)
          go_roundw
          case rel => exact ⟨_, ent, lfl, _, _, F, W1.out, DD.out, rfl⟩
          case measure => exact Nat.lt_of_le_of_lt (lst_le ⟨ent, lfl, _, _, F, W1.out, DD.out, rfl⟩) P1.out
        · rw [hin] at hlk
          have hin2 : ∀ y : Nat, x = (y : Int) → y ∉ ent.map (·.1) := fun y hy hm => by
            subst hy
            rw [inI_nat.2 hm] at hin
            cases hin
          have IB := isBlock_c n x
          by_cases hx : 0 ≤ x ∧ x < (n : Int)
          · obtain ⟨y, rfl⟩ : ∃ y : Nat, x = (y : Int) := ⟨x.toNat, by omega⟩
            have hyn : y < n := by omega
            have DD : Hid (DI n to (ent ++ [(y, (b : Int))]) lfl (st ++ [(b, k + 1)] ++ [(y, 0)])) := D2.out y rfl hyn (hin2 y rfl)
            have hel := LN.out y (hin2 y rfl) hyn
            have CM : Hid (Calls Try.prog 31 #[.int .i64 (y : Int), .int .i64 (b : Int), .pointer (some ⟨w0.heap.size + 2, 0, none⟩), .pointer (some ⟨w0.heap.size, 0, none⟩), .pointer (some ⟨w0.heap.size + 3, 0, none⟩)] w2 fun e w' => e = .returned (.tuple #[]) ∧ ∃ pv' F', WS J (.func (.func fe) #[] cE) F0 w0 ((ent ++ [(y, (b : Int))]).map (·.1)) (ent ++ [(y, (b : Int))]) lfl (st ++ [(b, k + 1)] ++ [(y, 0)]) pv' F' w') := CC.out F w2 ent lfl _ _ y (b : Int) W1.out (hin2 y rfl) HP.out hyn hel (Or.inr ⟨b, BE.out, rfl⟩)
            have PP := P2.out hel y
            have P3 : Hid (phi n to (ent ++ [(y, (b : Int))]) (st ++ [(b, k + 1)] ++ [(y, 0)]) < lst (WZ n to J (.func (.func fe) #[] cE) F0 w0 wr)) := PP
            have I2 : Hid (∀ w, Calls Try.prog 22 #[.int .i64 (n : Int), .int .i64 (y : Int)] w fun e w' => e = .returned (.bool true) ∧ w' = w) := fun w => by
              have := IB w
              rwa [decide_eq_true hx] at this
            clear hin hin2 D1 D2 PP P2 IB hx
            go_wp2_with (first
              | (go_at_call 32; refine NC.out.mono ?_; rintro e w3 ⟨rfl, rfl⟩)
              | (go_at_call 22; refine (I2.out _).mono ?_; rintro e w3 ⟨rfl, rfl⟩)
              | (go_at_call 31; refine CM.out.mono ?_; rintro e w4 ⟨rfl, pv4, F4, h4⟩; have W4 : Hid (WS J (.func (.func fe) #[] cE) F0 w0 ((ent ++ [(y, (b : Int))]).map (·.1)) (ent ++ [(y, (b : Int))]) lfl (st ++ [(b, k + 1)] ++ [(y, 0)]) pv4 F4 w4) := h4; clear h4))
            go_roundw
            case rel => exact ⟨_, _, lfl, _, _, F4, W4.out, DD.out, rfl⟩
            case measure => exact Nat.lt_of_le_of_lt (lst_le ⟨_, lfl, _, _, F4, W4.out, DD.out, rfl⟩) P3.out
          · have I2 : Hid (∀ w, Calls Try.prog 22 #[.int .i64 (n : Int), .int .i64 x] w fun e w' => e = .returned (.bool false) ∧ w' = w) := fun w => by
              have := IB w
              rwa [decide_eq_false hx] at this
            have DD : Hid (DI n to ent lfl (st ++ [(b, k + 1)])) := D1.out fun y hy hyn => absurd (by omega) hx
            clear hin hin2 D1 D2 P2 IB hx
            go_wp2_with (first
              | (go_at_call 32; refine NC.out.mono ?_; rintro e w3 ⟨rfl, rfl⟩)
              | (go_at_call 22; refine (I2.out _).mono ?_; rintro e w3 ⟨rfl, rfl⟩))
            go_roundw
            case rel => exact ⟨_, ent, lfl, _, _, F, W1.out, DD.out, rfl⟩
            case measure => exact Nat.lt_of_le_of_lt (lst_le ⟨ent, lfl, _, _, F, W1.out, DD.out, rfl⟩) P1.out
      · have hk' : k = (to.getD b []).length := Nat.le_antisymm hkl hk
        have NC : Hid (Calls Try.prog 32 #[.slice A to.length C, .pointer (some ⟨B, st.length * 2, none⟩)] wr fun e w' => e = .returned (.tuple #[.int .i64 0, .bool false]) ∧ w' = wr) := nextOf_end b k B _ to _ w00 wr TI.out BW.out FW.out c0 c1 hk'
        have W2 : Hid (WS J (.func (.func fe) #[] cE) F0 w0 (ent.map (·.1)) ent lfl st (.slice (some ⟨B, 0, none⟩) st.length Cv) F (wr.setCell ⟨w0.heap.size + 3, 0, none⟩ (.slice (some ⟨B, 0, none⟩) st.length Cv))) := W0.out.path ST.out (pop_row W0.out.2.2.2.2.2.1) (Below.refl _ _) (fun _ _ _ => rfl) (fun _ e => Or.inl e)
        have DD : Hid (DI n to ent (lfl ++ [b]) st) := D0.out.pop hk'
        have P1 : Hid (phi n to ent st < lst (WZ n to J (.func (.func fe) #[] cE) F0 w0 wr)) := (by rw [← PH.out]; exact phi_pop _ _ _ _ _ : phi n to ent st < lst (WZ n to J (.func (.func fe) #[] cE) F0 w0 wr))
        generalize hp : st.length = p at *
        go_wp2_with (first
          | (go_at_call 32; refine NC.out.mono ?_; rintro e w2 ⟨rfl, rfl⟩)
          | (show Calls Try.prog fl _ _ _; refine (HL'.out ent lfl F _ b W2.out.2.2.2.2.2.2.1 hl3).mono ?_; rintro e w3 ⟨rfl, F3, hj3, hg3⟩; have W3 : Hid (WS J (.func (.func fe) #[] cE) F0 w0 (ent.map (·.1)) ent (lfl ++ [b]) st (.slice (some ⟨B, 0, none⟩) p Cv) F3 w3) := W2.out.called hj3 hg3; clear hj3 hg3))
        go_roundw
        case rel => exact ⟨_, ent, lfl ++ [b], st, _, F3, W3.out, DD.out, rfl⟩
        case measure => exact Nat.lt_of_le_of_lt (lst_le ⟨ent, lfl ++ [b], st, _, F3, W3.out, DD.out, rfl⟩) P1.out
end Go.Proofs.Ytmmgdiecmokipaa
