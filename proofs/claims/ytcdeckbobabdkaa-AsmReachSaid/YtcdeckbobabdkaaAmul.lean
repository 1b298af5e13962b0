/-
  Proved: what math/bits' Mul answers of one and a small number; what slices.Repeat answers of a slice of one word.
-/
import Derived.Test.YtcdeckbobabdkaaAmap
import Derived.Test.YtcdeckbobabdkaaMath
import Derived.Test.YtcdeckbobabdkaaPn
import Derived.Deep.QuietTactic
namespace Go.Proofs.Ytcdeckbobabdkaa
open Go.RowKit
set_option linter.unusedVariables false
set_option linter.unusedSimpArgs false
set_option maxRecDepth 20000

theorem and_u64 (n : Nat) (hn : n ≤ 100000) : bits .and .u64 (n : Int) 4294967295 = n := by
  show IntKind.u64.wrap ((BitVec.ofInt 64 (n : Int) &&& BitVec.ofInt 64 (4294967295 : Int)).toNat : Int) = _
  have hb : (BitVec.ofInt 64 (4294967295 : Int)).toNat = 2 ^ 32 - 1 := by decide
  have ha : (BitVec.ofInt 64 (n : Int)).toNat = n := by
    rw [BitVec.ofInt_natCast, BitVec.toNat_ofNat]
    exact Nat.mod_eq_of_lt (by omega)
  rw [BitVec.toNat_and, hb, ha, Nat.and_two_pow_sub_one_eq_mod, Nat.mod_eq_of_lt (by omega)]
  simp only [IntKind.wrap, IntKind.bits, IntKind.signed]
  simp
  omega
theorem wrap_u64 (n : Nat) (hn : n ≤ 100000) : IntKind.u64.wrap (n : Int) = n := by
  simp only [IntKind.wrap, IntKind.bits, IntKind.signed]
  simp
  omega

theorem mul64_c (n : Nat) (hn : n ≤ 100000) (w : World) : Calls Try.prog 45 #[.int .u64 1, .int .u64 (n : Int)] w fun e w' => e = .returned (.tuple #[.int .u64 0, .int .u64 (n : Int)]) ∧ w' = w := by
  have h1 := and_u64 n hn
  have h2 := wrap_u64 n hn
  have e1 : bits .and .u64 1 4294967295 = 1 := by decide
  have e2 : bits .and .u64 0 4294967295 = 0 := by decide
  have e3 : (n : Int) / 4294967296 = 0 := by omega
  have e4 : IntKind.u64.wrap 0 = 0 := by decide
  go_enter Try.func45, Try.ntmps45
  go_wp2
  go_ret2
  exact ⟨rfl, rfl⟩

theorem mul_c (n : Nat) (hn : n ≤ 100000) (w : World) : Calls Try.prog 37 #[.int .u64 1, .int .u64 (n : Int)] w fun e w' => e = .returned (.tuple #[.int .u64 0, .int .u64 (n : Int)]) ∧ w' = w := by
  have MC : Hid (Calls Try.prog 45 #[.int .u64 1, .int .u64 (n : Int)] w fun e w' => e = .returned (.tuple #[.int .u64 0, .int .u64 (n : Int)]) ∧ w' = w) := mul64_c n hn w
  go_enter Try.func37, Try.ntmps37
  go_wp2_with (go_at_call 45; refine MC.out.mono ?_; rintro e w1 ⟨rfl, hw⟩; rw [hw]; clear hw w1)
  go_ret2
  exact ⟨rfl, rfl⟩

/-- A word's cell. -/
def wdC (x : Int) : List Value := [.int .u32 x]
theorem wdC_len (x : Int) : (wdC x).length = 1 := rfl
theorem wdC_one (x : Int) : ∀ u ∈ wdC x, u.oneCell' = true := by
  intro u hu
  simp only [wdC, List.mem_cons, List.not_mem_nil, or_false] at hu
  subst hu
  rfl
theorem infoWd : (Try.prog.info? 36).map (fun i => (i.zero, i.size, i.bytes)) = some (some (.int .u32 0), 1, 4) := by kernel_rfl
theorem make_w (n : Nat) (hn : n ≤ 100000) (w : World) : (Instr.makeSlice 23 (.int .i64 (n : Int)) (.int .i64 (n : Int))).run Try.prog w = .ok (.slice (some ⟨w.heap.size, 0, none⟩) n n) (w.alloc (.cells (madeCells #[.int .u32 0] n) 36)) :=
  run_make_row' (P := Try.prog) 23 36 (.int .u32 0) 4 Try.underlying23 infoWd rfl .i64 .i64 n (by omega) (by omega) w

theorem mixedB : Try.prog.follows .mixedOrders = true := by kernel_rfl
theorem szWd : (Try.prog.info? 36).map (·.size) = some 1 := by kernel_rfl
/-- The first cells are x. -/
def RS (x : Int) (g n c : Nat) (w : World) : Prop := ∃ cur : Array Value, w.heap[g]? = some (.cells cur 36 (0, 0)) ∧ cur.size = n ∧ ∀ i, i < c → cur[i]? = some (.int .u32 x)

theorem RS.drew {x : Int} {g n c : Nat} {w : World} (h : RS x g n c w) : RS x g n c w.drew := h

/-- A copy behind them. -/
theorem RS.copy {x : Int} {g n c m : Nat} {w : World} (h : RS x g n c w) (a : Addr) (sLen sCap dCap : Nat) (hm : m = Nat.min sLen (n - c)) (hsrc : ∀ j, j < m → w.cell? (a.add j) = some (.int .u32 x)) (hc : c ≤ n) :
    ∃ w', (Builtin.copy_ #[23, 23] 3 #[.slice (some ⟨g, c, none⟩) (n - c) dCap, .slice (some a) sLen sCap]).run Try.prog w = .ok (.int .i64 (m : Int)) w' ∧ RS x g n (c + m) w' ∧ Kp (fun b => b = g) w w' := by
  obtain ⟨cur, h1, h2, h3⟩ := h
  have hmn : m ≤ n - c := by rw [hm]; exact Nat.min_le_right _ _
  have hmin : Nat.min sLen (n - c) = m := hm.symm
  have hr := run_copy_row (P := Try.prog) w 23 23 3 36 g c (n - c) dCap a sLen sCap cur 36 (List.replicate m (.int .u32 x)) Try.underlying23 szWd h1 (by rw [List.length_replicate]; exact hm) (fun j v hj => by
    obtain ⟨q1, q2⟩ := List.getElem?_eq_some_iff.1 hj
    rw [List.length_replicate] at q1
    rw [hsrc j q1, ← q2, List.getElem_replicate]) (by rw [List.length_replicate]; omega) (fun v hv => by rw [List.mem_replicate] at hv; rw [hv.2]; rfl)
  rw [List.length_replicate] at hr
  refine ⟨_, hr, ⟨_, setRow_heap _ _ _ _ _ _ h1, ?_, fun i hi => ?_⟩, ?_⟩
  · simp
    omega
  · simp only [List.getElem?_toArray]
    have hl : (cur.toList.take c).length = c := by rw [List.length_take, Array.length_toList]; omega
    rw [List.append_assoc]
    rcases Nat.lt_or_ge i c with h4 | h4
    · rw [List.getElem?_append_left (by rw [hl]; exact h4), List.getElem?_take_of_lt h4, Array.getElem?_toList]
      exact h3 i h4
    · rw [List.getElem?_append_right (by rw [hl]; exact h4), List.getElem?_append_left (by rw [List.length_replicate, hl]; omega), hl]
      rw [List.getElem?_replicate, if_pos (by omega)]
  · exact ⟨⟨rfl, rfl, rfl, by simp [World.setRow], fun k hk => by omega⟩, fun b hb hn => setRow_other _ _ _ _ hn⟩

set_option maxHeartbeats 2000000 in
theorem repeat_c (x : Int) (n : Nat) (hn : n ≤ 20000) (b : Nat) (w : World) (h : w.cell? ⟨b, 0, none⟩ = some (.int .u32 x)) :
    Calls Try.prog 22 #[.slice (some ⟨b, 0, none⟩) 1 1, .int .i64 (n : Int)] w fun e w' => ∃ g, e = .returned (.slice (some ⟨g, 0, none⟩) n n) ∧ w.heap.size ≤ g ∧ GZ 36 w' g n (fun _ => .int .u32 x) ∧ Below w.heap.size w w' := by
  have MC : Hid (∀ w, Calls Try.prog 37 #[.int .u64 1, .int .u64 (n : Int)] w fun e w' => e = .returned (.tuple #[.int .u64 0, .int .u64 (n : Int)]) ∧ w' = w) := fun w => mul_c n (by omega) w
  have hmk := make_w n (by omega)
  have h2 := wrap_u64 n (by omega)
  have hn0 : ¬ (n : Int) < 0 := by omega
  have hn9 : ¬ (9223372036854775807 : Int) < n := by omega
  have r0 : RS x w.heap.size n 0 (w.alloc (.cells (madeCells #[.int .u32 0] n) 36)) := ⟨_, alloc_at _ _, size_madeCells _ _, fun i hi => absurd hi (by omega)⟩
  have hb := World.block_lt_of_cell? _ _ h
  have hsrc : (w.alloc (.cells (madeCells #[.int .u32 0] n) 36)).cell? ⟨b, 0, none⟩ = some (.int .u32 x) := cell_new _ h
  obtain ⟨w2, hcp, r1, k1⟩ := r0.copy (m := Nat.min 1 n) ⟨b, 0, none⟩ 1 1 n (by simp) (fun j hj => by
    have h5 : Nat.min 1 n ≤ 1 := Nat.min_le_left 1 n
    have : j = 0 := by omega
    subst this
    rw [add_none']
    exact hsrc) (by omega)
  simp only [Nat.sub_zero, Nat.zero_add] at hcp r1
  have K1 : Hid (Below w.heap.size w w2) := (below_alloc _ _).trans (Kp.below k1 (by simp) fun b hb => by omega)
  have S1 : Hid (RS x w.heap.size n (Nat.min 1 n) w2) := r1
  have hm1 : Nat.min 1 n ≤ n := Nat.min_le_right _ _
  have hm2 : 0 < n → 1 ≤ Nat.min 1 n := fun h => by show 1 ≤ min 1 n; omega
  clear r0 r1 k1 hsrc h
  generalize Nat.min 1 n = m1 at *
  have HM : Hid (m1 ≤ n ∧ (0 < n → 1 ≤ m1)) := ⟨hm1, hm2⟩
  clear hm1 hm2
  go_enter Try.func22, Try.ntmps22
  go_wp2_with (go_at_call 37; refine (MC.out _).mono ?_; rintro e w1 ⟨rfl, hw⟩; rw [hw]; clear hw w1)
  go_loopw [8] (fun cv wr => ∃ c : Nat, c ≤ n ∧ cv = .int .i64 (c : Int) ∧ (0 < n → 1 ≤ c) ∧ RS x w.heap.size n c wr ∧ Below w.heap.size w wr) (fun cv _ => n - (intOf cv).toNat)
  case atStart => exact ⟨m1, HM.out.1, rfl, HM.out.2, S1.out, K1.out⟩
  case round =>
    obtain ⟨c, hc, rfl, hc1, hrs, hbl⟩ := hrel
    rcases Nat.lt_or_ge c n with hlt | hge
    · have hcz : (c : Int) < n := by omega
      have hc2 := hc1 (by omega)
      have hne : ¬ n = c := by omega
      obtain ⟨w5, hcp5, r5, k5⟩ := (hrs.drew).copy (m := Nat.min c (n - c)) ⟨w.heap.size, 0, none⟩ c n (n - c) rfl (fun j hj => by
        rw [add_none', Nat.zero_add]
        obtain ⟨cur, q1, q2, q3⟩ := hrs.drew
        have : Nat.min c (n - c) ≤ c := Nat.min_le_left _ _
        have h9 := q3 j (by omega)
        have q1' : At wr.drew w.heap.size cur 36 := q1
        rw [q1'.cell, h9]) hc
      have hm5 : Nat.min c (n - c) ≤ n - c := Nat.min_le_right _ _
      have hm6 : 1 ≤ Nat.min c (n - c) := by show 1 ≤ min c (n - c); omega
      generalize Nat.min c (n - c) = m5 at *
      have wz : IntKind.i64.wrap ((c : Int) + (m5 : Int)) = (c : Int) + (m5 : Int) := wrap_in _ (by omega)
      have R5 : Hid (RS x w.heap.size n (c + m5) w5) := r5
      have B5 : Hid (Below w.heap.size w w5) := (hbl.drew).trans (Kp.below k5 hbl.drew.size fun b hb => by omega)
      clear r5 k5 hrs hbl hc1 S1 K1 HM hcp
      go_wp2
      refine wp_region_N (fun w' => True) (fun _ => true) mixedB (trivial) ?_
      intro S0
      refine wpAnyN_take (i := 0) (v := ?_) rfl (by kernel_rfl) (by kernel_rfl) (by kernel_rfl) (by kernel_rfl) (fun _ _ _ h => h) (Or.inl ⟨by rfl, ?_⟩) S0 ?_
      rotate_left
      · intro w' hS'
        obtain ⟨h0⟩ := hS'
        (try go_simp)
        first | done | exact rfl | exact ⟨rfl, rfl⟩
      (try simp only [Act.put, List.getElem_toArray, List.getElem_cons_zero, List.setIfInBounds_toArray, List.set_cons_zero, List.set_cons_succ])
      refine wpAnyN_take (i := 1) (v := ?_) rfl (by kernel_rfl) (by kernel_rfl) (by kernel_rfl) (by kernel_rfl) (fun _ _ _ h => h) (Or.inl ⟨by rfl, ?_⟩) S0 ?_
      rotate_left
      · intro w' hS'
        obtain ⟨h0⟩ := hS'
        (try go_simp)
        first | done | exact rfl | exact ⟨rfl, rfl⟩
      (try simp only [Act.put, List.getElem_toArray, List.getElem_cons_succ, List.getElem_cons_zero, List.setIfInBounds_toArray, List.set_cons_zero, List.set_cons_succ])
      refine wpAnyN_take (i := 2) (v := ?_) rfl (by kernel_rfl) (by kernel_rfl) (by kernel_rfl) (by kernel_rfl) (fun _ _ _ h => h) (Or.inl ⟨by rfl, ?_⟩) S0 ?_
      rotate_left
      · intro w' hS'
        obtain ⟨h0⟩ := hS'
        (try go_simp)
        first | done | exact rfl | exact ⟨rfl, rfl⟩
      (try simp only [Act.put, List.getElem_toArray, List.getElem_cons_succ, List.getElem_cons_zero, List.setIfInBounds_toArray, List.set_cons_zero, List.set_cons_succ])
      refine wpAnyN_take (i := 3) (v := ?_) rfl (by kernel_rfl) (by kernel_rfl) (by kernel_rfl) (by kernel_rfl) (fun _ _ _ h => h) (Or.inl ⟨by rfl, ?_⟩) S0 ?_
      rotate_left
      · intro w' hS'
        obtain ⟨h0⟩ := hS'
        (try go_simp)
        first | done | exact rfl | exact ⟨rfl, rfl⟩
      (try simp only [Act.put, List.getElem_toArray, List.getElem_cons_succ, List.getElem_cons_zero, List.setIfInBounds_toArray, List.set_cons_zero, List.set_cons_succ])
      refine wpAnyN_take (i := 4) (v := ?_) rfl (by kernel_rfl) (by kernel_rfl) (by kernel_rfl) (by kernel_rfl) (fun _ _ _ h => h) (Or.inl ⟨by rfl, ?_⟩) S0 ?_
      rotate_left
      · intro w' hS'
        obtain ⟨h0⟩ := hS'
        (try go_simp)
        first | done | exact rfl | exact ⟨rfl, rfl⟩
      (try simp only [Act.put, List.getElem_toArray, List.getElem_cons_succ, List.getElem_cons_zero, List.setIfInBounds_toArray, List.set_cons_zero, List.set_cons_succ])
      refine wpAnyN_take (i := 5) (v := ?_) rfl (by kernel_rfl) (by kernel_rfl) (by kernel_rfl) (by kernel_rfl) (fun _ _ _ h => h) (Or.inl ⟨by rfl, ?_⟩) S0 ?_
      rotate_left
      · intro w' hS'
        obtain ⟨h0⟩ := hS'
        (try go_simp)
        first | done | exact rfl | exact ⟨rfl, rfl⟩
      (try simp only [Act.put, List.getElem_toArray, List.getElem_cons_succ, List.getElem_cons_zero, List.setIfInBounds_toArray, List.set_cons_zero, List.set_cons_succ])
      refine wpAnyN_take (i := 6) (v := ?_) rfl (by kernel_rfl) (by kernel_rfl) (by kernel_rfl) (by kernel_rfl) (fun _ _ _ h => h) (Or.inl ⟨by rfl, ?_⟩) S0 ?_
      rotate_left
      · intro w' hS'
        obtain ⟨h0⟩ := hS'
        (try go_simp)
        first | done | exact rfl | exact ⟨rfl, rfl⟩
      (try simp only [Act.put, List.getElem_toArray, List.getElem_cons_succ, List.getElem_cons_zero, List.setIfInBounds_toArray, List.set_cons_zero, List.set_cons_succ])
      refine wpAnyN_one (i := 7) (by kernel_rfl) rfl (fun K hK => ?_)
      go_simp
      refine hK _ _ (fun _ => trivial) ?_
      clear hK K
      (try simp only [Act.put, List.getElem_toArray, List.getElem_cons_succ, List.getElem_cons_zero, List.setIfInBounds_toArray, List.set_cons_zero, List.set_cons_succ])
      refine wpAnyN_take (i := 8) (v := ?_) rfl (by kernel_rfl) (by kernel_rfl) (by kernel_rfl) (by kernel_rfl) (fun _ _ _ h => h) (Or.inl ⟨by rfl, ?_⟩) trivial ?_
      rotate_left
      · intro w' hS'
        obtain ⟨h0⟩ := hS'
        (try go_simp)
        first | done | exact rfl | exact ⟨rfl, rfl⟩
      (try simp only [Act.put, List.getElem_toArray, List.getElem_cons_succ, List.getElem_cons_zero, List.setIfInBounds_toArray, List.set_cons_zero, List.set_cons_succ])
      refine wpAnyN_take (i := 9) (v := ?_) rfl (by kernel_rfl) (by kernel_rfl) (by kernel_rfl) (by kernel_rfl) (fun _ _ _ h => h) (Or.inl ⟨by rfl, ?_⟩) trivial ?_
      rotate_left
      · intro w' hS'
        obtain ⟨h0⟩ := hS'
        (try go_simp)
        first | done | exact rfl | exact ⟨rfl, rfl⟩
      (try simp only [Act.put, List.getElem_toArray, List.getElem_cons_succ, List.getElem_cons_zero, List.setIfInBounds_toArray, List.set_cons_zero, List.set_cons_succ])
      refine wpAnyN_done (by kernel_rfl) ?_ _
      go_wp2
      go_roundw
      case rel => exact ⟨c + m5, by omega, by congr 1, (fun _ => by omega), R5.out, B5.out⟩
      case measure => simp [intOf]; omega
    · obtain rfl : c = n := by omega
      have hcz : ¬ (c : Int) < c := by omega
      have FIN : Hid (GZ 36 wr w.heap.size c (fun _ => .int .u32 x)) := by
        obtain ⟨cur, q1, q2, q3⟩ := hrs
        exact ⟨cur, q1, q3⟩
      have BW : Hid (Below w.heap.size w wr) := hbl
      clear hrs hbl S1 K1 HM hcp
      go_wp2
      go_ret
      exact ⟨_, rfl, Nat.le_refl _, FIN.out, BW.out⟩
end Go.Proofs.Ytcdeckbobabdkaa
