/-
  Proved: what a walk does where it comes to a block.
-/
import Derived.Test.YtmmgdiecmokipaaPset
namespace Go.Proofs.Ytmmgdiecmokipaa
open Go.RowKit

section
variable {J : PJ} {ev pv : Value} {F0 F F' : Nat → Prop} {w0 w w1 w' : World} {ent ent' : List (Nat × Int)} {lf lf' : List Nat} {stk : List (Nat × Nat)} {sn : List Nat}

/-- A closure was called. -/
theorem WS.called (h : WS J ev F0 w0 sn ent lf stk pv F w) (hj : J ent' lf' F' w') (hg : Gr F F' w w') : WS J ev F0 w0 sn ent' lf' stk pv F' w' := by
  obtain ⟨h1, h2, h3, h4, h5, h6, h7, h8⟩ := h
  have hn : ∀ b, w0.heap.size ≤ b → b < w0.heap.size + 4 → ¬ F b := fun b hb hb2 hF => by rcases h8 b hF with h | h <;> omega
  refine ⟨h1.other hg.1 fun b hF hlt => ?_, hg.1.at h2 (hn _ (by omega) (by omega)), ?_, hg.1.at h4 (hn _ (by omega) (by omega)), hg.1.at h5 (hn _ (by omega) (by omega)), h6.kp hg.1 fun b hb hF => ?_, hj, fun b hb => ?_⟩
  · rcases h8 b hF with h | h
    · exact h.2
    · omega
  · exact (hg.1.2 _ h3.lt (hn _ (by omega) (by omega))).trans h3
  · rcases h8 b hF with h | h
    · have := (OwnB.at h6 hb).1
      omega
    · exact h.2 hb
  · rcases hg.2 b hb with h | h
    · exact h8 b h
    · have := h5.lt
      refine Or.inr ⟨by omega, fun e => ?_⟩
      obtain ⟨_, cs, hc⟩ := OwnB.at h6 e
      have := hc.lt
      omega

/-- The list of what is open has turned. -/
theorem WS.path {stk' : List (Nat × Nat)} {pv' : Value} (h : WS J ev F0 w0 sn ent lf stk pv F w) (hst : Stay J) (ho : OP (w0.heap.size + 4) stk' pv' w1) (hb : Below (w0.heap.size + 4) w w1) (hk : ∀ k, k < w.heap.size → pv.ownBlock ≠ some k → w1.heap[k]? = w.heap[k]?) (hv : ∀ b, pv'.ownBlock = some b → pv.ownBlock = some b ∨ w.heap.size ≤ b) :
    WS J ev F0 w0 sn ent lf stk' pv' F (w1.setCell ⟨w0.heap.size + 3, 0, none⟩ pv') := by
  obtain ⟨h1, h2, h3, h4, h5, h6, h7, h8⟩ := h
  have k1 : Kp (fun b => pv.ownBlock = some b) w w1 := ⟨hb.mono (Nat.zero_le _), fun b hb hne => hk b hb hne⟩
  have hp : ∀ b, pv.ownBlock = some b → w0.heap.size + 4 ≤ b := fun b e => (OwnB.at h6 e).1
  have hlt := hst.2 _ _ _ _ h7
  have k2 : Kp (fun b => b = w0.heap.size + 3 ∨ pv.ownBlock = some b) w (w1.setCell ⟨w0.heap.size + 3, 0, none⟩ pv') := (k1.mono fun b h => Or.inr h).trans (Kp.set w1 0 pv' (Or.inl rfl))
  have hne : ∀ b, b < w0.heap.size + 3 → ¬ (b = w0.heap.size + 3 ∨ pv.ownBlock = some b) := fun b hb h => by
    rcases h with h | h
    · omega
    · have := hp b h; omega
  refine ⟨h1.other k2 fun b hb hlt => absurd hb (hne b (by omega)), k2.at h2 (hne _ (by omega)), (k2.2 _ h3.lt (hne _ (by omega))).trans h3, k2.at h4 (hne _ (by omega)), ?_, ?_, hst.1 _ _ _ _ _ _ h7 k2 fun b hb hF => ?_, fun b hF => ?_⟩
  · have := (h5.below hb (by omega)).set (j := 0) pv'
    exact this
  · exact OwnB.set ho (by omega) _
  · rcases h8 b hF with h | h
    · exact hne b (by omega) hb
    · rcases hb with e | e
      · omega
      · exact h.2 e
  · rcases h8 b hF with h | h
    · exact Or.inl h
    · refine Or.inr ⟨h.1, fun e => ?_⟩
      rcases hv b e with h2 | h2
      · exact h.2 h2
      · have := hlt b hF
        omega

theorem WS.alloc (h : WS J ev F0 w0 sn ent lf stk pv F w) (hst : Stay J) (o : Obj) : WS J ev F0 w0 sn ent lf stk pv F (w.alloc o) := by
  have hj := hst.1 _ _ _ (fun _ => False) _ _ h.2.2.2.2.2.2.1 (Kp.of_below (below_alloc w o)) fun b hb => hb.elim
  exact h.called hj (Gr.of (Kp.of_below (below_alloc w o)))
end

set_option maxRecDepth 20000 in
set_option maxHeartbeats 2000000 in
theorem come_c (J : PJ) (hst : Stay J) (fe : Nat) (caps : Array Value) (F0 F : Nat → Prop) (w0 w : World) (sn : List Nat) (ent : List (Nat × Int)) (lf : List Nat) (stk : List (Nat × Nat)) (pv : Value) (b : Nat) (f : Int)
    (h : WS J (.func (.func fe) #[] caps) F0 w0 sn ent lf stk pv F w) (hb : b ∉ sn) (hl : stk.length ≤ 1000)
    (hcf : ∀ (args : Array Value) (w : World), (callFunc fe args).run Try.prog w = .ok (.enter fe args) w)
    (HE : ∀ w1, J ent lf F w1 → Calls Try.prog fe (#[.int .i64 (b : Int), .int .i64 f] ++ caps) w1 fun e w' => e = .returned (.tuple #[]) ∧ ∃ F', J (ent ++ [(b, f)]) lf F' w' ∧ Gr F F' w1 w') :
    Calls Try.prog 31 #[.int .i64 (b : Int), .int .i64 f, .pointer (some ⟨w0.heap.size + 2, 0, none⟩), .pointer (some ⟨w0.heap.size, 0, none⟩), .pointer (some ⟨w0.heap.size + 3, 0, none⟩)] w fun e w' => e = .returned (.tuple #[]) ∧ ∃ pv' F', WS J (.func (.func fe) #[] caps) F0 w0 (sn ++ [b]) (ent ++ [(b, f)]) lf (stk ++ [(b, 0)]) pv' F' w' := by
  have c2 : w.cell? ⟨w0.heap.size + 2, 0, none⟩ = some (.map (some (w0.heap.size + 1))) := h.2.2.2.1.cell 0
  have hlen := len_seen h.2.2.1
  obtain ⟨w1, hput, hse, hkp, hsz⟩ := put_seen h.2.2.1 b hb
  have h1 := h.seen hst hse hkp
  have H1 : Hid (WS J (.func (.func fe) #[] caps) F0 w0 (sn ++ [b]) ent lf stk pv F w1) := h1
  have c3 : w1.cell? ⟨w0.heap.size, 0, none⟩ = some (.func (.func fe) #[] caps) := h1.2.1.cell 0
  have EC : Hid (Calls Try.prog fe (#[.int .i64 (b : Int), .int .i64 f] ++ caps) w1 fun e w' => e = .returned (.tuple #[]) ∧ ∃ F', J (ent ++ [(b, f)]) lf F' w' ∧ Gr F F' w1 w') := HE w1 h1.2.2.2.2.2.2.1
  have ST : Hid (Stay J) := hst
  obtain ⟨Av, Cv, ev, -⟩ := OwnB.shape encO_len h.2.2.2.2.2.1
  subst ev
  clear h h1 hse hkp HE hst
  go_enter Try.func31, Try.ntmps31
  go_wp2_with (first
    | (refine EC.out.mono ?_; rintro e w2 ⟨rfl, F2, hj2, hg2⟩; have H2 : Hid (WS J (.func (.func fe) #[] caps) F0 w0 (sn ++ [b]) (ent ++ [(b, f)]) lf stk (.slice Av stk.length Cv) F2 w2) := H1.out.called hj2 hg2; have H3 : Hid (WS J (.func (.func fe) #[] caps) F0 w0 (sn ++ [b]) (ent ++ [(b, f)]) lf stk (.slice Av stk.length Cv) F2 (w2.alloc (.cells (encO (b, 0)).toArray 50))) := H2.out.alloc ST.out _; have c4 : w2.cell? ⟨w0.heap.size + 3, 0, none⟩ = some (.slice Av stk.length Cv) := H2.out.2.2.2.2.1.cell 0; clear hj2 hg2 H2)
    | (at_builtin; refine OP.app _ rfl _ _ rfl _ rfl (b, 0) H3.out.2.2.2.2.2.1 ⟨w2.heap.size, 0, none⟩ 1 rfl (fun j u hj => cells_new _ (encO (b, 0)) 50 j u hj) (by omega) ?_; intro v5 w5 ho hb5 hk5 hv5; obtain ⟨A5, C5, rfl, -⟩ := OwnB.shape encO_len ho; have H5 : Hid (WS J (.func (.func fe) #[] caps) F0 w0 (sn ++ [b]) (ent ++ [(b, f)]) lf (stk ++ [(b, 0)]) (.slice A5 (stk ++ [(b, 0)]).length C5) F2 (w5.setCell ⟨w0.heap.size + 3, 0, none⟩ (.slice A5 (stk ++ [(b, 0)]).length C5))) := H3.out.path ST.out ho hb5 hk5 hv5; have a5 := H3.out.2.2.2.2.1.below hb5 (by omega); have c5 : w5.cell? ⟨w0.heap.size + 3, 0, none⟩ = some (.slice Av stk.length Cv) := a5.cell 0; have f5 := a5.frozen 0; clear ho hb5 hk5 hv5 a5))
  go_end0
  have h5 := H5.out
  rw [List.length_append] at h5
  exact ⟨rfl, _, _, h5⟩
end Go.Proofs.Ytmmgdiecmokipaa
