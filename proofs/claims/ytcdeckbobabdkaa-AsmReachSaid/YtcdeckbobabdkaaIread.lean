/-
  Proved: what insn's register, imm and read answer: an instruction's registers and number, read off a word.
-/
import Derived.Test.YtcdeckbobabdkaaIget
import Derived.Test.YtcdeckbobabdkaaInum
import Derived.Test.YtcdeckbobabdkaaPn
namespace Go.Proofs.Ytcdeckbobabdkaa
open Go.RowKit
set_option linter.unusedVariables false
set_option linter.unusedSimpArgs false

theorem mixed : Try.prog.follows .mixedOrders = true := by kernel_rfl
theorem sizeI : (Try.prog.info? 28).map (·.size) = some 5 := by kernel_rfl

def regG (b : Bool) (x : Int) (f : Nat) : Int := if b then x / 2 ^ f % 32 else 0
def immI (lo hi st A : Int) : Int := if hi < A then A - (hi - lo + st) else A

theorem register_c (b : Bool) (x : Int) (f : Nat) (hf : f ≤ 31) (w : World) :
    Calls Try.prog 27 #[.bool b, .int .u32 x, .int .u8 f] w fun e w' => e = .returned (.int .i64 (regG b x f)) ∧ w' = w := by
  cases b
  · exact register_no x f w
  · exact register_yes x f hf w

theorem next_below {B : Nat} {w w1 w2 : World} (h : Below B w w1) (hB : B ≤ w1.heap.size) (k : Below w1.heap.size w1 w2) : Below B w w2 := h.trans (k.mono hB)
theorem setRow_below {B g : Nat} {w : World} (cs : Array Value) (h : B ≤ g) : Below B w (w.setRow g cs) :=
  ⟨rfl, rfl, rfl, by rw [setRow_size]; exact Nat.le_refl _, fun k hk => setRow_other _ _ _ _ (by omega)⟩

set_option maxRecDepth 20000 in
set_option maxHeartbeats 1000000 in
theorem read_c (a b c : Bool) (lo hi st : Int) (f l : Nat) (nm : ByteArray) (x : Int) (h1 : f ≤ l) (h2 : l ≤ 13) (l1 : -2147483648 ≤ lo) (l2 : lo ≤ 0) (i1 : 0 ≤ hi) (i2 : hi ≤ 2147483648) (s1 : 0 ≤ st) (s2 : st ≤ 2)
    (x1 : 0 ≤ orG x (cutP f l)) (x2 : orG x (cutP f l) ≤ 4294967296) (w : World) :
    Calls Try.prog 15 #[.agg #[.bool a, .bool b, .bool c, .int .i64 lo, .int .i64 hi, .int .i64 st, .int .i64 f, .int .i64 l], .string nm, .int .u32 x] w fun e w' =>
      e = .returned (.agg #[.string nm, .int .i64 (regG a x 7), .int .i64 (regG b x 15), .int .i64 (regG c x 20), .int .i64 (immI lo hi st (orG x (cutP f l)))]) ∧ Below w.heap.size w w' := by
  have IM : Hid (∀ w, Calls Try.prog 28 #[.agg #[.bool a, .bool b, .bool c, .int .i64 lo, .int .i64 hi, .int .i64 st, .int .i64 f, .int .i64 l], .int .u32 x] w fun e w' =>
      e = .returned (.int .i64 (immI lo hi st (orG x (cutP f l)))) ∧ Below w.heap.size w w') := fun w => imm_c f l (.bool a) (.bool b) (.bool c) lo hi st x h1 h2 l1 l2 i1 i2 s1 s2 x1 x2 w
  generalize immI lo hi st (orG x (cutP f l)) = IV at *
  have B0 : Hid (Below w.heap.size w ((w.alloc (.cells #[.bool a, .bool b, .bool c, .int .i64 lo, .int .i64 hi, .int .i64 st, .int .i64 f, .int .i64 l] 54)).alloc (.cells #[.string ⟨#[]⟩, .int .i64 0, .int .i64 0, .int .i64 0, .int .i64 0] 28))) := below_al2 _ _ _
  have A0 : Hid (At ((w.alloc (.cells #[.bool a, .bool b, .bool c, .int .i64 lo, .int .i64 hi, .int .i64 st, .int .i64 f, .int .i64 l] 54)).alloc (.cells #[.string ⟨#[]⟩, .int .i64 0, .int .i64 0, .int .i64 0, .int .i64 0] 28)) w.heap.size #[.bool a, .bool b, .bool c, .int .i64 lo, .int .i64 hi, .int .i64 st, .int .i64 f, .int .i64 l] 54) := (At.new w _ _).below (below_alloc _ _) (At.new w #[.bool a, .bool b, .bool c, .int .i64 lo, .int .i64 hi, .int .i64 st, .int .i64 f, .int .i64 l] 54).lt
  have A1 : Hid (At ((w.alloc (.cells #[.bool a, .bool b, .bool c, .int .i64 lo, .int .i64 hi, .int .i64 st, .int .i64 f, .int .i64 l] 54)).alloc (.cells #[.string ⟨#[]⟩, .int .i64 0, .int .i64 0, .int .i64 0, .int .i64 0] 28)) (w.heap.size + 1) #[.string ⟨#[]⟩, .int .i64 0, .int .i64 0, .int .i64 0, .int .i64 0] 28) := At.newS _ _ _ (size_alloc _ _)
  clear x1 x2 h1 h2 l1 l2 i1 i2 s1 s2
  go_enter Try.func15, Try.ntmps15
  go_wp2
  generalize (w.alloc (.cells #[.bool a, .bool b, .bool c, .int .i64 lo, .int .i64 hi, .int .i64 st, .int .i64 f, .int .i64 l] 54)).alloc (.cells #[.string ⟨#[]⟩, .int .i64 0, .int .i64 0, .int .i64 0, .int .i64 0] 28) = w2 at *
  have SZ : w.heap.size + 1 < w2.heap.size := A1.out.lt
  have HS : Hid (∀ w', Below w2.heap.size w2 w' → w'.cell? ⟨w.heap.size, 0, none⟩ = some (.bool a) ∧ w'.cell? ⟨w.heap.size, 1, none⟩ = some (.bool b) ∧ w'.cell? ⟨w.heap.size, 2, none⟩ = some (.bool c) ∧ w'.cell? ⟨w.heap.size, 3, none⟩ = some (.int .i64 lo) ∧ w'.cell? ⟨w.heap.size, 4, none⟩ = some (.int .i64 hi) ∧ w'.cell? ⟨w.heap.size, 5, none⟩ = some (.int .i64 st) ∧ w'.cell? ⟨w.heap.size, 6, none⟩ = some (.int .i64 f) ∧ w'.cell? ⟨w.heap.size, 7, none⟩ = some (.int .i64 l)) := fun w' hb => by
    have hA := A0.out.below hb A0.out.lt
    exact ⟨hA.cell 0, hA.cell 1, hA.cell 2, hA.cell 3, hA.cell 4, hA.cell 5, hA.cell 6, hA.cell 7⟩
  have BD : Below w2.heap.size w2 w2.drew := below_drew _
  refine wp_region_N (fun w' => w'.cell? ⟨w.heap.size, 0, none⟩ = some (.bool a) ∧ w'.cell? ⟨w.heap.size, 1, none⟩ = some (.bool b) ∧ w'.cell? ⟨w.heap.size, 2, none⟩ = some (.bool c) ∧ w'.cell? ⟨w.heap.size, 3, none⟩ = some (.int .i64 lo) ∧ w'.cell? ⟨w.heap.size, 4, none⟩ = some (.int .i64 hi) ∧ w'.cell? ⟨w.heap.size, 5, none⟩ = some (.int .i64 st) ∧ w'.cell? ⟨w.heap.size, 6, none⟩ = some (.int .i64 f) ∧ w'.cell? ⟨w.heap.size, 7, none⟩ = some (.int .i64 l)) (fun i => i != 17) mixed (HS.out _ BD) ?_
  intro S0
  refine wpAnyN_take (i := 0) (v := ?_) rfl (by kernel_rfl) (by kernel_rfl) (by kernel_rfl) (by kernel_rfl) (fun _ _ _ h => h) (Or.inl ⟨by rfl, ?_⟩) S0 ?_
  rotate_left
  · intro w' hS'
    obtain ⟨h0, h1, h2, h3, h4, h5, h6, h7⟩ := hS'
    (try go_simp)
    first | done | exact rfl | exact ⟨rfl, rfl⟩
  (try simp only [Act.put, List.getElem_toArray, List.getElem_cons_zero, List.setIfInBounds_toArray, List.set_cons_zero, List.set_cons_succ])
  refine wpAnyN_take (i := 1) (v := ?_) rfl (by kernel_rfl) (by kernel_rfl) (by kernel_rfl) (by kernel_rfl) (fun _ _ _ h => h) (Or.inl ⟨by rfl, ?_⟩) S0 ?_
  rotate_left
  · intro w' hS'
    obtain ⟨h0, h1, h2, h3, h4, h5, h6, h7⟩ := hS'
    (try go_simp)
    first | done | exact rfl | exact ⟨rfl, rfl⟩
  (try simp only [Act.put, List.getElem_toArray, List.getElem_cons_succ, List.getElem_cons_zero, List.setIfInBounds_toArray, List.set_cons_zero, List.set_cons_succ])
  refine wpAnyN_take (i := 2) (v := ?_) rfl (by kernel_rfl) (by kernel_rfl) (by kernel_rfl) (by kernel_rfl) (fun _ _ _ h => h) (Or.inl ⟨by rfl, ?_⟩) S0 ?_
  rotate_left
  · intro w' hS'
    obtain ⟨h0, h1, h2, h3, h4, h5, h6, h7⟩ := hS'
    (try go_simp)
    first | done | exact rfl | exact ⟨rfl, rfl⟩
  (try simp only [Act.put, List.getElem_toArray, List.getElem_cons_succ, List.getElem_cons_zero, List.setIfInBounds_toArray, List.set_cons_zero, List.set_cons_succ])
  refine wpAnyN_take (i := 3) (v := ?_) rfl (by kernel_rfl) (by kernel_rfl) (by kernel_rfl) (by kernel_rfl) (fun _ _ _ h => h) (Or.inl ⟨by rfl, ?_⟩) S0 ?_
  rotate_left
  · intro w' hS'
    obtain ⟨h0, h1, h2, h3, h4, h5, h6, h7⟩ := hS'
    (try go_simp)
    first | done | exact rfl | exact ⟨rfl, rfl⟩
  (try simp only [Act.put, List.getElem_toArray, List.getElem_cons_succ, List.getElem_cons_zero, List.setIfInBounds_toArray, List.set_cons_zero, List.set_cons_succ])
  refine wpAnyN_take (i := 5) (v := ?_) rfl (by kernel_rfl) (by kernel_rfl) (by kernel_rfl) (by kernel_rfl) (fun _ _ _ h => h) (Or.inl ⟨by rfl, ?_⟩) S0 ?_
  rotate_left
  · intro w' hS'
    obtain ⟨h0, h1, h2, h3, h4, h5, h6, h7⟩ := hS'
    (try go_simp)
    first | done | exact rfl | exact ⟨rfl, rfl⟩
  (try simp only [Act.put, List.getElem_toArray, List.getElem_cons_succ, List.getElem_cons_zero, List.setIfInBounds_toArray, List.set_cons_zero, List.set_cons_succ])
  refine wpAnyN_take (i := 6) (v := ?_) rfl (by kernel_rfl) (by kernel_rfl) (by kernel_rfl) (by kernel_rfl) (fun _ _ _ h => h) (Or.inl ⟨by rfl, ?_⟩) S0 ?_
  rotate_left
  · intro w' hS'
    obtain ⟨h0, h1, h2, h3, h4, h5, h6, h7⟩ := hS'
    (try go_simp)
    first | done | exact rfl | exact ⟨rfl, rfl⟩
  (try simp only [Act.put, List.getElem_toArray, List.getElem_cons_succ, List.getElem_cons_zero, List.setIfInBounds_toArray, List.set_cons_zero, List.set_cons_succ])
  refine wpAnyN_take (i := 7) (v := ?_) rfl (by kernel_rfl) (by kernel_rfl) (by kernel_rfl) (by kernel_rfl) (fun _ _ _ h => h) (Or.inl ⟨by rfl, ?_⟩) S0 ?_
  rotate_left
  · intro w' hS'
    obtain ⟨h0, h1, h2, h3, h4, h5, h6, h7⟩ := hS'
    (try go_simp)
    first | done | exact rfl | exact ⟨rfl, rfl⟩
  (try simp only [Act.put, List.getElem_toArray, List.getElem_cons_succ, List.getElem_cons_zero, List.setIfInBounds_toArray, List.set_cons_zero, List.set_cons_succ])
  refine wpAnyN_take (i := 9) (v := ?_) rfl (by kernel_rfl) (by kernel_rfl) (by kernel_rfl) (by kernel_rfl) (fun _ _ _ h => h) (Or.inl ⟨by rfl, ?_⟩) S0 ?_
  rotate_left
  · intro w' hS'
    obtain ⟨h0, h1, h2, h3, h4, h5, h6, h7⟩ := hS'
    (try go_simp)
    first | done | exact rfl | exact ⟨rfl, rfl⟩
  (try simp only [Act.put, List.getElem_toArray, List.getElem_cons_succ, List.getElem_cons_zero, List.setIfInBounds_toArray, List.set_cons_zero, List.set_cons_succ])
  refine wpAnyN_take (i := 10) (v := ?_) rfl (by kernel_rfl) (by kernel_rfl) (by kernel_rfl) (by kernel_rfl) (fun _ _ _ h => h) (Or.inl ⟨by rfl, ?_⟩) S0 ?_
  rotate_left
  · intro w' hS'
    obtain ⟨h0, h1, h2, h3, h4, h5, h6, h7⟩ := hS'
    (try go_simp)
    first | done | exact rfl | exact ⟨rfl, rfl⟩
  (try simp only [Act.put, List.getElem_toArray, List.getElem_cons_succ, List.getElem_cons_zero, List.setIfInBounds_toArray, List.set_cons_zero, List.set_cons_succ])
  refine wpAnyN_take (i := 11) (v := ?_) rfl (by kernel_rfl) (by kernel_rfl) (by kernel_rfl) (by kernel_rfl) (fun _ _ _ h => h) (Or.inl ⟨by rfl, ?_⟩) S0 ?_
  rotate_left
  · intro w' hS'
    obtain ⟨h0, h1, h2, h3, h4, h5, h6, h7⟩ := hS'
    (try go_simp)
    first | done | exact rfl | exact ⟨rfl, rfl⟩
  (try simp only [Act.put, List.getElem_toArray, List.getElem_cons_succ, List.getElem_cons_zero, List.setIfInBounds_toArray, List.set_cons_zero, List.set_cons_succ])
  refine wpAnyN_take (i := 13) (v := ?_) rfl (by kernel_rfl) (by kernel_rfl) (by kernel_rfl) (by kernel_rfl) (fun _ _ _ h => h) (Or.inl ⟨by rfl, ?_⟩) S0 ?_
  rotate_left
  · intro w' hS'
    obtain ⟨h0, h1, h2, h3, h4, h5, h6, h7⟩ := hS'
    (try go_simp)
    first | done | exact rfl | exact ⟨rfl, rfl⟩
  (try simp only [Act.put, List.getElem_toArray, List.getElem_cons_succ, List.getElem_cons_zero, List.setIfInBounds_toArray, List.set_cons_zero, List.set_cons_succ])
  refine wpAnyN_take (i := 14) (v := ?_) rfl (by kernel_rfl) (by kernel_rfl) (by kernel_rfl) (by kernel_rfl) (fun _ _ _ h => h) (Or.inl ⟨by rfl, ?_⟩) S0 ?_
  rotate_left
  · intro w' hS'
    obtain ⟨h0, h1, h2, h3, h4, h5, h6, h7⟩ := hS'
    (try go_simp)
    first | done | exact rfl | exact ⟨rfl, rfl⟩
  (try simp only [Act.put, List.getElem_toArray, List.getElem_cons_succ, List.getElem_cons_zero, List.setIfInBounds_toArray, List.set_cons_zero, List.set_cons_succ])
  refine wpAnyN_one (i := 4) (by kernel_rfl) rfl (fun K hK => ?_)
  go_simp
  (go_at_call 27; refine (register_c _ _ 7 (by decide) _).mono ?_; rintro e w4 ⟨rfl, hw4⟩; rw [hw4]; clear hw4 w4)
  have S5 := S0
  go_wp2_with fail
  refine hK _ _ (fun _ => S5) ?_
  clear hK K
  (try simp only [Act.put, List.getElem_toArray, List.getElem_cons_succ, List.getElem_cons_zero, List.setIfInBounds_toArray, List.set_cons_zero, List.set_cons_succ])
  refine wpAnyN_one (i := 8) (by kernel_rfl) rfl (fun K hK => ?_)
  go_simp
  (go_at_call 27; refine (register_c _ _ 15 (by decide) _).mono ?_; rintro e w8 ⟨rfl, hw8⟩; rw [hw8]; clear hw8 w8)
  have S9 := S5
  go_wp2_with fail
  refine hK _ _ (fun _ => S9) ?_
  clear hK K
  (try simp only [Act.put, List.getElem_toArray, List.getElem_cons_succ, List.getElem_cons_zero, List.setIfInBounds_toArray, List.set_cons_zero, List.set_cons_succ])
  refine wpAnyN_one (i := 12) (by kernel_rfl) rfl (fun K hK => ?_)
  go_simp
  (go_at_call 27; refine (register_c _ _ 20 (by decide) _).mono ?_; rintro e w12 ⟨rfl, hw12⟩; rw [hw12]; clear hw12 w12)
  have S13 := S9
  go_wp2_with fail
  refine hK _ _ (fun _ => S13) ?_
  clear hK K
  (try simp only [Act.put, List.getElem_toArray, List.getElem_cons_succ, List.getElem_cons_zero, List.setIfInBounds_toArray, List.set_cons_zero, List.set_cons_succ])
  refine wpAnyN_one (i := 15) (by kernel_rfl) rfl (fun K hK => ?_)
  go_simp
  (go_at_call 28; refine (IM.out _).mono ?_; rintro e w9 ⟨rfl, hb9⟩)
  have BL : Below w2.heap.size w2 w9 := next_below BD (Nat.le_refl _) hb9
  have S16 := HS.out _ BL
  go_wp2_with fail
  refine hK _ _ (fun _ => S16) ?_
  clear hK K
  (try simp only [Act.put, List.getElem_toArray, List.getElem_cons_succ, List.getElem_cons_zero, List.setIfInBounds_toArray, List.set_cons_zero, List.set_cons_succ])
  refine wpAnyN_take (i := 16) (v := ?_) rfl (by kernel_rfl) (by kernel_rfl) (by kernel_rfl) (by kernel_rfl) (fun _ _ _ h => h) (Or.inl ⟨by rfl, ?_⟩) S16 ?_
  rotate_left
  · intro w' hS'
    obtain ⟨h0, h1, h2, h3, h4, h5, h6, h7⟩ := hS'
    (try go_simp)
    first | done | exact rfl | exact ⟨rfl, rfl⟩
  (try simp only [Act.put, List.getElem_toArray, List.getElem_cons_succ, List.getElem_cons_zero, List.setIfInBounds_toArray, List.set_cons_zero, List.set_cons_succ])
  refine wpAnyN_one (i := 17) (by kernel_rfl) rfl (fun K hK => ?_)
  rw [if_pos (by rfl)]
  refine wp_store_row 28 (.tmp 6) (.tmp 23) rfl (w.heap.size + 1) _ rfl rfl 28 _ (A1.out.below BL A1.out.lt) (by kernel_rfl) (by rfl) (by kernel_rfl) ?_
  refine hK _ _ (fun h => absurd h (by decide)) ?_
  clear hK K
  (try simp only [Act.put, List.getElem_toArray, List.getElem_cons_succ, List.getElem_cons_zero, List.setIfInBounds_toArray, List.set_cons_zero, List.set_cons_succ])
  refine wpAnyN_done (by kernel_rfl) ?_ _
  go_wp2
  refine bodyPost_ret (results_cell_row rfl _ _ (w.heap.size + 1) 28 _ (0, 0) _ rfl (setRow_heap _ _ _ _ _ _ (A1.out.below BL A1.out.lt)) Try.underlying28 rfl sizeI) rfl ?_
  exact ⟨rfl, (B0.out.trans (BL.mono (by omega))).trans (setRow_below _ (by omega))⟩
end Go.Proofs.Ytcdeckbobabdkaa
