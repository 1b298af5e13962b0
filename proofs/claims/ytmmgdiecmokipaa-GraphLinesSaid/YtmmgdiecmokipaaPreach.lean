/-
  Proved: what the program's Reach answers.
-/
import Derived.Test.YtmmgdiecmokipaaPwalk2
namespace Go.Proofs.Ytmmgdiecmokipaa
open Go.RowKit

/-- What Reach's closures keep: the row of truths and its variable. -/
def JR (n rb bx : Nat) : PJ := fun ent _ F w => F = (fun b => b = rb ∨ b = bx) ∧ BR w rb n (pin (ent.map (·.1))) ∧ At w bx #[.slice (some ⟨rb, 0, none⟩) n n] 24

theorem JR.stay (n rb bx : Nat) : Stay (JR n rb bx) := by
  refine ⟨fun ent lf F G w w' h k hG => ?_, fun ent lf F w h b hb => ?_⟩
  · obtain ⟨rfl, h1, h2⟩ := h
    exact ⟨rfl, k.at h1 fun h => hG _ h (Or.inl rfl), k.at h2 fun h => hG _ h (Or.inr rfl)⟩
  · obtain ⟨rfl, h1, h2⟩ := h
    rcases hb with rfl | rfl
    · exact h1.lt
    · exact h2.lt

theorem cf_reach1 (args : Array Value) (w : World) : (callFunc 19 args).run Try.prog w = .ok (.enter 19 args) w := by kernel_rfl
theorem cf_reach2 (args : Array Value) (w : World) : (callFunc 20 args).run Try.prog w = .ok (.enter 20 args) w := by kernel_rfl

theorem JR.ent (n rb bx : Nat) : Ent (JR n rb bx) n 19 #[.pointer (some ⟨bx, 0, none⟩)] := by
  intro ent lf F w b f h hb hne hl hf
  obtain ⟨rfl, h1, h2⟩ := h
  have c0 : w.cell? ⟨bx, 0, none⟩ = some (.slice (some ⟨rb, 0, none⟩) n n) := h2.cell 0
  have c1 := h1.cell b hb
  have fz := h1.frozen b
  have hbz : (b : Int) < n := by omega
  have hx : bx ≠ rb := (At.type h2 h1 (by decide))
  have R1 : Hid (BR w rb n (pin (ent.map (·.1)))) := h1
  have B1 : Hid (At w bx #[.slice (some ⟨rb, 0, none⟩) n n] 24) := h2
  clear h1 h2 hf
  show Calls Try.prog 19 #[.int .i64 (b : Int), .int .i64 f, .pointer (some ⟨bx, 0, none⟩)] w _
  go_enter Try.func19, Try.ntmps19
  go_wp2
  go_end0
  refine ⟨rfl, _, ⟨rfl, ?_, ?_⟩, Gr.of (Kp.set w b _ (Or.inl rfl))⟩
  · rw [List.map_append]
    have := R1.out.set b hb
    rwa [pin_up] at this
  · exact (Kp.set (F := fun c => c = rb) w b _ rfl).at B1.out hx

theorem JR.lev (n rb bx : Nat) : Lev (JR n rb bx) n 20 #[] := by
  intro ent lf F w b h hl
  have H : Hid (JR n rb bx ent lf F w) := h
  clear h
  show Calls Try.prog 20 #[.int .i64 (b : Int)] w _
  go_enter Try.func20, Try.ntmps20
  go_wp2
  go_end0
  exact ⟨rfl, F, H.out, Gr.of (Kp.refl _ _)⟩

/-- A number, or one below 0, as n. -/
def IsN (z : Int) (n : Nat) : Prop := z = (n : Int) ∨ (z < 0 ∧ n = 0)

theorem room_z {z : Int} {n : Nat} (h : IsN z n) (hn : n ≤ 1000) (w : World) : Calls Try.prog 17 #[.int .i64 z] w fun e w' => e = .returned (.int .i64 (n : Int)) ∧ w' = w := by
  rcases h with rfl | ⟨h1, rfl⟩
  · exact room_c n hn w
  · exact room_neg z h1 w

theorem walk_none (z : Int) (hz : z ≤ 0) (tv fl : Value) (fe : Nat) (cE : Array Value) (w : World) : Calls Try.prog 18 #[.int .i64 z, tv, .func (.func fe) #[] cE, fl] w fun e w' => e = .returned (.tuple #[]) ∧ Below w.heap.size w w' := by
  have HB : Hid (Below w.heap.size w (w.alloc (.cells #[.func (.func fe) #[] cE] 34))) := below_alloc _ _
  go_enter Try.func18, Try.ntmps18
  go_wp2
  refine bodyPost_ret (results_none rfl _ _ _) rfl ?_
  exact ⟨rfl, HB.out⟩

theorem pwalk_z (z : Int) (n : Nat) (hz : IsN z n) (hn : n ≤ 1000) (to : List (List Int)) (tv : Value) (w00 w0 : World) (h : RwsIn w00 to tv) (hf : Fw to) (hb : Below w00.heap.size w00 w0) (J : PJ) (hst : Stay J) (fe fl : Nat) (cE cL : Array Value) (F0 : Nat → Prop) (hF0 : ∀ b, F0 b → w00.heap.size ≤ b)
    (hcE : ∀ (args : Array Value) (w : World), (callFunc fe args).run Try.prog w = .ok (.enter fe args) w) (hcL : ∀ (args : Array Value) (w : World), (callFunc fl args).run Try.prog w = .ok (.enter fl args) w)
    (HE : Ent J n fe cE) (HL : Lev J n fl cL) (hJ : J [] [] F0 w0) :
    Calls Try.prog 18 #[.int .i64 z, tv, .func (.func fe) #[] cE, .func (.func fl) #[] cL] w0 fun e w' => e = .returned (.tuple #[]) ∧ ∃ ent lfl F', J ent lfl F' w' ∧ ((n = 0 ∧ ent = [] ∧ lfl = []) ∨ (0 < n ∧ Done n to ent lfl)) ∧ Gr F0 F' w0 w' := by
  rcases Nat.eq_zero_or_pos n with h0 | h0
  · refine (walk_none z (by rcases hz with h | h <;> omega) tv _ fe cE w0).mono ?_
    rintro e w' ⟨rfl, hb'⟩
    have k : Kp (fun _ => False) w0 w' := Kp.of_below hb'
    exact ⟨rfl, [], [], F0, hst.1 _ _ _ _ _ _ hJ k fun b hb => hb.elim, Or.inl ⟨h0, rfl, rfl⟩, Gr.of (Kp.of_below hb')⟩
  · obtain rfl : z = (n : Int) := by rcases hz with h | h <;> omega
    refine (pwalk_c n h0 hn to tv w00 w0 h hf hb J hst fe fl cE cL F0 hF0 hcE hcL HE HL hJ).mono ?_
    rintro e w' ⟨rfl, ent, lfl, F', h1, h2, h3⟩
    exact ⟨rfl, ent, lfl, F', h1, Or.inr ⟨h0, h2⟩, h3⟩

set_option maxHeartbeats 2000000 in
theorem reach_p (z : Int) (n : Nat) (hz : IsN z n) (hn : n ≤ 1000) (to : List (List Int)) (tv : Value) (w : World) (h : RwsIn w to tv) (hf : Fw to) :
    Calls Try.prog 8 #[.int .i64 z, tv] w fun e w' => e = .returned (.slice (some ⟨w.heap.size, 0, none⟩) n n) ∧ Below w.heap.size w w' ∧ ∃ p, BR w' w.heap.size n p ∧ ∀ j, j < n → (p j = true ↔ Rch (wy n to) (-1) j) := by
  have RM : Hid (∀ w, Calls Try.prog 17 #[.int .i64 z] w fun e w' => e = .returned (.int .i64 (n : Int)) ∧ w' = w) := fun w => room_z hz hn w
  have hmk := make_b n hn
  have hs1 : (w.alloc (.cells (madeCells #[.bool false] n) 4)).heap.size = w.heap.size + 1 := by simp
  have b1 := below_alloc w (.cells (madeCells #[.bool false] n) 4)
  have b2 := below_alloc (w.alloc (.cells (madeCells #[.bool false] n) 4)) (.cells #[.slice (some ⟨w.heap.size, 0, none⟩) n n] 24)
  have B2 : Hid (Below w.heap.size w ((w.alloc (.cells (madeCells #[.bool false] n) 4)).alloc (.cells #[.slice (some ⟨w.heap.size, 0, none⟩) n n] 24))) := below_next b1 b2
  have J0 : JR n w.heap.size (w.heap.size + 1) [] [] (fun b => b = w.heap.size ∨ b = w.heap.size + 1) ((w.alloc (.cells (madeCells #[.bool false] n) 4)).alloc (.cells #[.slice (some ⟨w.heap.size, 0, none⟩) n n] 24)) := by
    refine ⟨rfl, At.below (BR.made w n) b2 (by omega), At.newS _ _ _ hs1⟩
  have PW : Hid (Calls Try.prog 18 #[.int .i64 (n : Int), tv, .func (.func 19) #[] #[.pointer (some ⟨w.heap.size + 1, 0, none⟩)], .func (.func 20) #[] #[]] ((w.alloc (.cells (madeCells #[.bool false] n) 4)).alloc (.cells #[.slice (some ⟨w.heap.size, 0, none⟩) n n] 24)) fun e w' => e = .returned (.tuple #[]) ∧ ∃ ent lfl F', JR n w.heap.size (w.heap.size + 1) ent lfl F' w' ∧ ((n = 0 ∧ ent = [] ∧ lfl = []) ∨ (0 < n ∧ Done n to ent lfl)) ∧ Gr (fun b => b = w.heap.size ∨ b = w.heap.size + 1) F' ((w.alloc (.cells (madeCells #[.bool false] n) 4)).alloc (.cells #[.slice (some ⟨w.heap.size, 0, none⟩) n n] 24)) w') :=
    pwalk_z (n : Int) n (Or.inl rfl) hn to tv w _ h hf B2.out _ (JR.stay _ _ _) _ _ _ _ _ (fun b hb => by rcases hb with h | h <;> omega) cf_reach1 cf_reach2 (JR.ent _ _ _) (JR.lev _ _ _) J0
  obtain ⟨A, C, rfl, -⟩ := h
  have c9 : ((w.alloc (.cells (madeCells #[.bool false] n) 4)).alloc (.cells #[.slice (some ⟨w.heap.size, 0, none⟩) n n] 24)).cell? ⟨w.heap.size + 1, 0, none⟩ = some (.slice (some ⟨w.heap.size, 0, none⟩) n n) := J0.2.2.cell 0
  clear b1 b2 J0 hz hf
  go_enter Try.func8, Try.ntmps8
  go_wp2_with (first
    | (go_at_call 17; refine (RM.out _).mono ?_; rintro e w3 ⟨rfl, hw3⟩; rw [hw3]; clear hw3 w3)
    | (go_at_call 18; go_loud (refine PW.out.mono ?_; rintro e w5 ⟨rfl, ent, lfl, F5, hj5, hd5, hg5⟩; have J5 : Hid (JR n w.heap.size (w.heap.size + 1) ent lfl F5 w5) := hj5; have c5 : w5.cell? ⟨w.heap.size + 1, 0, none⟩ = some (.slice (some ⟨w.heap.size, 0, none⟩) n n) := hj5.2.2.cell 0; have D5 : Hid ((n = 0 ∧ ent = [] ∧ lfl = []) ∨ (0 < n ∧ Done n to ent lfl)) := hd5; have G5 : Hid (Below w.heap.size w w5) := B2.out.trans (hg5.1.below B2.out.size fun b hb => by rcases hb with h | h <;> omega); clear hj5 hd5 hg5)))
  go_ret
  refine ⟨rfl, G5.out, _, J5.out.2.1, fun j hj => ?_⟩
  rcases D5.out with ⟨h, _⟩ | ⟨_, hd⟩
  · omega
  · rw [← hd.all j]
    simp [pin]
end Go.Proofs.Ytmmgdiecmokipaa
