/-
  Proved: what insn's Encode answers.
-/
import Derived.Test.YtcdeckbobabdkaaIspec
import Derived.Test.YtcdeckbobabdkaaPn
import Derived.Deep.Cut
import Derived.Deep.CutRange
namespace Go.Proofs.Ytcdeckbobabdkaa
open Go.RowKit
set_option linter.unusedVariables false
set_option maxRecDepth 20000
set_option linter.unusedSimpArgs false

section
variable {P : Program} {ops : Array Oper} {Q : Exit → Act → World → Prop} {md : Region.Mode} {S : World → Prop} {need : Nat → Bool}
theorem wpAnyN_two {i0 : Nat} {i1 : Nat} {o0 : Oper} {o1 : Oper} {fuel : Nat} {listed : Array Bool} {a : Act} {w : World} (hr : Region.ready md ops listed = [i0, i1]) (ho0 : ops[i0]? = some o0) (ho1 : ops[i1]? = some o1)
    (h0 : ∀ K' : Act → World → Prop, (∀ a w, (need i0 = true → S w) → wpAnyN P md ops Q S need fuel (listed.setIfInBounds i0 true) a w → K' a w) → if Region.wanted o0 (yielded ops a.tmps) = true then Oper.wp P o0 a w K' Q else K' (a.put o0.dst undef) w) (h1 : ∀ K' : Act → World → Prop, (∀ a w, (need i1 = true → S w) → wpAnyN P md ops Q S need fuel (listed.setIfInBounds i1 true) a w → K' a w) → if Region.wanted o1 (yielded ops a.tmps) = true then Oper.wp P o1 a w K' Q else K' (a.put o1.dst undef) w) : wpAnyN P md ops Q S need (fuel + 1) listed a w := by
  refine ⟨fun h => (by rw [hr] at h; cases h), fun j hj => ?_⟩
  rw [hr] at hj
  simp only [List.mem_cons, List.not_mem_nil, or_false] at hj
  rcases hj with rfl | rfl
  · exact wpOp_step ho0 (fun K' hK => h0 K' (fun a w p q => hK a w ⟨p, q⟩))
  · exact wpOp_step ho1 (fun K' hK => h1 K' (fun a w p q => hK a w ⟨p, q⟩))
end

set_option maxHeartbeats 2000000 in
theorem encode_none (s : ByteArray) (rd r1 r2 im : Int) (hs : s.size ≤ maxLen) (hr : rowOf s.data.toList = none) (w : World) :
    Calls Try.prog 36 #[.agg #[.string s, .int .i64 rd, .int .i64 r1, .int .i64 r2, .int .i64 im]] w fun e w' => e = .returned (.tuple #[.int .u32 0, .bool false]) ∧ Below w.heap.size w w' := by
  have LK : mkF insT s.data.toList = none := by rw [mkF_row, hr]; rfl
  have B0 : Hid (Below w.heap.size w (w.alloc (.cells #[.string s, .int .i64 rd, .int .i64 r1, .int .i64 r2, .int .i64 im] 28))) := below_alloc _ _
  have A0 : Hid (At (w.alloc (.cells #[.string s, .int .i64 rd, .int .i64 r1, .int .i64 r2, .int .i64 im] 28)) w.heap.size #[.string s, .int .i64 rd, .int .i64 r1, .int .i64 r2, .int .i64 im] 28) := At.new w _ _
  go_enter Try.func36, Try.ntmps36
  go_upto_region 1 with fail
  generalize w.alloc (.cells #[.string s, .int .i64 rd, .int .i64 r1, .int .i64 r2, .int .i64 im] 28) = w2 at *
  have SZ : w.heap.size < w2.heap.size := A0.out.lt
  go_cut [4, 5] from 6 to 46 (fun p q wx => ∃ nb : Nat, p = .pointer (some ⟨nb, 0, none⟩) ∧ q = .bool false ∧ At wx nb #[.int .u32 0, .int .u8 0, .int .u8 0, .int .u8 0] 47 ∧ w2.heap.size ≤ nb ∧ Below w2.heap.size w2 wx)
  case first =>
    have HS : Hid (∀ w', Below w2.heap.size w2 w' → w'.cell? ⟨w.heap.size, 0, none⟩ = some (.string s)) := fun w' hb => (A0.out.below hb A0.out.lt).cell 0
    have BD : Below w2.heap.size w2 w2.drew := below_drew _
    refine wp_region_N (fun w' => w'.cell? ⟨w.heap.size, 0, none⟩ = some (.string s)) (fun _ => true) mixed (HS.out _ BD) ?_
    intro S0
    refine wpAnyN_take (i := 1) (v := ?_) rfl (by kernel_rfl) (by kernel_rfl) (by kernel_rfl) (by kernel_rfl) (fun _ _ _ h => h) (Or.inl ⟨by rfl, ?_⟩) (HS.out _ BD) ?_
    rotate_left
    · intro w' hS'
      have h0 := hS'
      (try go_simp)
      first | done | exact rfl | exact ⟨rfl, rfl⟩
    (try simp only [Act.put, List.getElem_toArray, List.getElem_cons_succ, List.getElem_cons_zero, List.setIfInBounds_toArray, List.set_cons_zero, List.set_cons_succ])
    refine wpAnyN_take (i := 2) (v := ?_) rfl (by kernel_rfl) (by kernel_rfl) (by kernel_rfl) (by kernel_rfl) (fun _ _ _ h => h) (Or.inl ⟨by rfl, ?_⟩) (HS.out _ BD) ?_
    rotate_left
    · intro w' hS'
      have h0 := hS'
      (try go_simp)
      first | done | exact rfl | exact ⟨rfl, rfl⟩
    (try simp only [Act.put, List.getElem_toArray, List.getElem_cons_succ, List.getElem_cons_zero, List.setIfInBounds_toArray, List.set_cons_zero, List.set_cons_succ])
    refine wpAnyN_two (i0 := 0) (i1 := 7) (by kernel_rfl) rfl rfl (fun K hK => ?_) (fun K hK => ?_)
    · go_simp
      (go_at_call 40; refine (byNames_c _).mono ?_; rintro e w9 ⟨mb, rfl, hM, hb9⟩)
      have B9 : Below w2.heap.size w2 w9 := next_below BD BD.size hb9
      go_wp2_with fail
      refine hK _ _ (fun _ => HS.out _ B9) ?_
      clear hK K
      (try simp only [Act.put, List.getElem_toArray, List.getElem_cons_zero, List.setIfInBounds_toArray, List.set_cons_zero, List.set_cons_succ])
      refine wpAnyN_two (i0 := 3) (i1 := 7) (by kernel_rfl) rfl rfl (fun K hK => ?_) (fun K hK => ?_)
      · have lk : (Instr.lookup 95 (.map (some mb)) (.string s) true).run Try.prog w9 = .ok (.tuple #[.agg #[.int .u32 0, .int .u8 0, .int .u8 0, .int .u8 0], .bool false]) w9 := by have h := (hM).look2 hs; rw [LK] at h; exact h
        go_simp
        go_wp2_with fail
        refine hK _ _ (fun _ => HS.out _ B9) ?_
        clear hK K lk
        (try simp only [Act.put, List.getElem_toArray, List.getElem_cons_succ, List.getElem_cons_zero, List.setIfInBounds_toArray, List.set_cons_zero, List.set_cons_succ])
        refine wpAnyN_take (i := 4) (v := ?_) rfl (by kernel_rfl) (by kernel_rfl) (by kernel_rfl) (by kernel_rfl) (fun _ _ _ h => h) (Or.inl ⟨by rfl, ?_⟩) (HS.out _ B9) ?_
        rotate_left
        · intro w' hS'
          have h0 := hS'
          (try go_simp)
          first | done | exact rfl | exact ⟨rfl, rfl⟩
        (try simp only [Act.put, List.getElem_toArray, List.getElem_cons_succ, List.getElem_cons_zero, List.setIfInBounds_toArray, List.set_cons_zero, List.set_cons_succ])
        refine wpAnyN_take (i := 5) (v := ?_) rfl (by kernel_rfl) (by kernel_rfl) (by kernel_rfl) (by kernel_rfl) (fun _ _ _ h => h) (Or.inl ⟨by rfl, ?_⟩) (HS.out _ B9) ?_
        rotate_left
        · intro w' hS'
          have h0 := hS'
          (try go_simp)
          first | done | exact rfl | exact ⟨rfl, rfl⟩
        (try simp only [Act.put, List.getElem_toArray, List.getElem_cons_succ, List.getElem_cons_zero, List.setIfInBounds_toArray, List.set_cons_zero, List.set_cons_succ])
        refine wpAnyN_take (i := 6) (v := ?_) rfl (by kernel_rfl) (by kernel_rfl) (by kernel_rfl) (by kernel_rfl) (fun _ _ _ h => h) (Or.inl ⟨by rfl, ?_⟩) (HS.out _ B9) ?_
        rotate_left
        · intro w' hS'
          have h0 := hS'
          (try go_simp)
          first | done | exact rfl | exact ⟨rfl, rfl⟩
        (try simp only [Act.put, List.getElem_toArray, List.getElem_cons_succ, List.getElem_cons_zero, List.setIfInBounds_toArray, List.set_cons_zero, List.set_cons_succ])
        refine wpAnyN_one (i := 7) (by kernel_rfl) rfl (fun K hK => ?_)
        have B9a : Below w2.heap.size w2 (w9.alloc (.cells #[.int .u32 0, .int .u8 0, .int .u8 0, .int .u8 0] 47)) := next_below B9 B9.size (below_alloc _ _)
        have A7 : At (w9.alloc (.cells #[.int .u32 0, .int .u8 0, .int .u8 0, .int .u8 0] 47)) w9.heap.size #[.int .u32 0, .int .u8 0, .int .u8 0, .int .u8 0] 47 := At.new _ _ _
        have L7 : w2.heap.size ≤ w9.heap.size := B9.size
        go_simp
        go_wp2_with fail
        refine hK _ _ (fun _ => HS.out _ B9a) ?_
        clear hK K
        (try simp only [Act.put, List.getElem_toArray, List.getElem_cons_succ, List.getElem_cons_zero, List.setIfInBounds_toArray, List.set_cons_zero, List.set_cons_succ])
        refine wpAnyN_one (i := 8) (by kernel_rfl) rfl (fun K hK => ?_)
        rw [if_pos (by rfl)]
        refine wp_store_row 47 (.tmp 4) (.tmp 13) rfl _ #[.int .u32 0, .int .u8 0, .int .u8 0, .int .u8 0] rfl rfl 47 _ A7 (by kernel_rfl) (by rfl) (by kernel_rfl) ?_
        have B8 := B9a.trans (setRow_below #[.int .u32 0, .int .u8 0, .int .u8 0, .int .u8 0] L7)
        refine hK _ _ (fun _ => HS.out _ B8) ?_
        clear hK K
        (try simp only [Act.put, List.getElem_toArray, List.getElem_cons_succ, List.getElem_cons_zero, List.setIfInBounds_toArray, List.set_cons_zero, List.set_cons_succ])
        refine wpAnyN_take (i := 9) (v := ?_) rfl (by kernel_rfl) (by kernel_rfl) (by kernel_rfl) (by kernel_rfl) (fun _ _ _ h => h) (Or.inl ⟨by rfl, ?_⟩) (HS.out _ B8) ?_
        rotate_left
        · intro w' hS'
          have h0 := hS'
          (try go_simp)
          first | done | exact rfl | exact ⟨rfl, rfl⟩
        (try simp only [Act.put, List.getElem_toArray, List.getElem_cons_succ, List.getElem_cons_zero, List.setIfInBounds_toArray, List.set_cons_zero, List.set_cons_succ])
        refine wpAnyN_done (by kernel_rfl) ?_ _
        go_wp2_with fail
        go_meet
        case rel => exact ⟨_, rfl, rfl, setRow_heap _ _ _ _ _ _ A7, L7, B8⟩
      · have B9a : Below w2.heap.size w2 (w9.alloc (.cells #[.int .u32 0, .int .u8 0, .int .u8 0, .int .u8 0] 47)) := next_below B9 B9.size (below_alloc _ _)
        have A7 : At (w9.alloc (.cells #[.int .u32 0, .int .u8 0, .int .u8 0, .int .u8 0] 47)) w9.heap.size #[.int .u32 0, .int .u8 0, .int .u8 0, .int .u8 0] 47 := At.new _ _ _
        have L7 : w2.heap.size ≤ w9.heap.size := B9.size
        go_simp
        go_wp2_with fail
        refine hK _ _ (fun _ => HS.out _ B9a) ?_
        clear hK K
        (try simp only [Act.put, List.getElem_toArray, List.getElem_cons_succ, List.getElem_cons_zero, List.setIfInBounds_toArray, List.set_cons_zero, List.set_cons_succ])
        refine wpAnyN_one (i := 3) (by kernel_rfl) rfl (fun K hK => ?_)
        have lk : (Instr.lookup 95 (.map (some mb)) (.string s) true).run Try.prog (w9.alloc (.cells #[.int .u32 0, .int .u8 0, .int .u8 0, .int .u8 0] 47)) = .ok (.tuple #[.agg #[.int .u32 0, .int .u8 0, .int .u8 0, .int .u8 0], .bool false]) (w9.alloc (.cells #[.int .u32 0, .int .u8 0, .int .u8 0, .int .u8 0] 47)) := by have h := (hM.below (below_alloc w9 (.cells #[.int .u32 0, .int .u8 0, .int .u8 0, .int .u8 0] 47))).look2 hs; rw [LK] at h; exact h
        go_simp
        go_wp2_with fail
        refine hK _ _ (fun _ => HS.out _ B9a) ?_
        clear hK K lk
        (try simp only [Act.put, List.getElem_toArray, List.getElem_cons_succ, List.getElem_cons_zero, List.setIfInBounds_toArray, List.set_cons_zero, List.set_cons_succ])
        refine wpAnyN_take (i := 4) (v := ?_) rfl (by kernel_rfl) (by kernel_rfl) (by kernel_rfl) (by kernel_rfl) (fun _ _ _ h => h) (Or.inl ⟨by rfl, ?_⟩) (HS.out _ B9a) ?_
        rotate_left
        · intro w' hS'
          have h0 := hS'
          (try go_simp)
          first | done | exact rfl | exact ⟨rfl, rfl⟩
        (try simp only [Act.put, List.getElem_toArray, List.getElem_cons_succ, List.getElem_cons_zero, List.setIfInBounds_toArray, List.set_cons_zero, List.set_cons_succ])
        refine wpAnyN_take (i := 5) (v := ?_) rfl (by kernel_rfl) (by kernel_rfl) (by kernel_rfl) (by kernel_rfl) (fun _ _ _ h => h) (Or.inl ⟨by rfl, ?_⟩) (HS.out _ B9a) ?_
        rotate_left
        · intro w' hS'
          have h0 := hS'
          (try go_simp)
          first | done | exact rfl | exact ⟨rfl, rfl⟩
        (try simp only [Act.put, List.getElem_toArray, List.getElem_cons_succ, List.getElem_cons_zero, List.setIfInBounds_toArray, List.set_cons_zero, List.set_cons_succ])
        refine wpAnyN_take (i := 6) (v := ?_) rfl (by kernel_rfl) (by kernel_rfl) (by kernel_rfl) (by kernel_rfl) (fun _ _ _ h => h) (Or.inl ⟨by rfl, ?_⟩) (HS.out _ B9a) ?_
        rotate_left
        · intro w' hS'
          have h0 := hS'
          (try go_simp)
          first | done | exact rfl | exact ⟨rfl, rfl⟩
        (try simp only [Act.put, List.getElem_toArray, List.getElem_cons_succ, List.getElem_cons_zero, List.setIfInBounds_toArray, List.set_cons_zero, List.set_cons_succ])
        refine wpAnyN_one (i := 8) (by kernel_rfl) rfl (fun K hK => ?_)
        rw [if_pos (by rfl)]
        refine wp_store_row 47 (.tmp 4) (.tmp 13) rfl _ #[.int .u32 0, .int .u8 0, .int .u8 0, .int .u8 0] rfl rfl 47 _ A7 (by kernel_rfl) (by rfl) (by kernel_rfl) ?_
        have B8 := B9a.trans (setRow_below #[.int .u32 0, .int .u8 0, .int .u8 0, .int .u8 0] L7)
        refine hK _ _ (fun _ => HS.out _ B8) ?_
        clear hK K
        (try simp only [Act.put, List.getElem_toArray, List.getElem_cons_succ, List.getElem_cons_zero, List.setIfInBounds_toArray, List.set_cons_zero, List.set_cons_succ])
        refine wpAnyN_take (i := 9) (v := ?_) rfl (by kernel_rfl) (by kernel_rfl) (by kernel_rfl) (by kernel_rfl) (fun _ _ _ h => h) (Or.inl ⟨by rfl, ?_⟩) (HS.out _ B8) ?_
        rotate_left
        · intro w' hS'
          have h0 := hS'
          (try go_simp)
          first | done | exact rfl | exact ⟨rfl, rfl⟩
        (try simp only [Act.put, List.getElem_toArray, List.getElem_cons_succ, List.getElem_cons_zero, List.setIfInBounds_toArray, List.set_cons_zero, List.set_cons_succ])
        refine wpAnyN_done (by kernel_rfl) ?_ _
        go_wp2_with fail
        go_meet
        case rel => exact ⟨_, rfl, rfl, setRow_heap _ _ _ _ _ _ A7, L7, B8⟩
    · have BDa : Below w2.heap.size w2 (w2.drew.alloc (.cells #[.int .u32 0, .int .u8 0, .int .u8 0, .int .u8 0] 47)) := next_below BD BD.size (below_alloc _ _)
      have A7 : At (w2.drew.alloc (.cells #[.int .u32 0, .int .u8 0, .int .u8 0, .int .u8 0] 47)) w2.drew.heap.size #[.int .u32 0, .int .u8 0, .int .u8 0, .int .u8 0] 47 := At.new _ _ _
      have L7 : w2.heap.size ≤ w2.drew.heap.size := BD.size
      go_simp
      go_wp2_with fail
      refine hK _ _ (fun _ => HS.out _ BDa) ?_
      clear hK K
      (try simp only [Act.put, List.getElem_toArray, List.getElem_cons_succ, List.getElem_cons_zero, List.setIfInBounds_toArray, List.set_cons_zero, List.set_cons_succ])
      refine wpAnyN_one (i := 0) (by kernel_rfl) rfl (fun K hK => ?_)
      go_simp
      (go_at_call 40; refine (byNames_c _).mono ?_; rintro e w9 ⟨mb, rfl, hM, hb9⟩)
      have B9 : Below w2.heap.size w2 w9 := next_below BDa BDa.size hb9
      go_wp2_with fail
      refine hK _ _ (fun _ => HS.out _ B9) ?_
      clear hK K
      (try simp only [Act.put, List.getElem_toArray, List.getElem_cons_zero, List.setIfInBounds_toArray, List.set_cons_zero, List.set_cons_succ])
      have A7 := A7.below hb9 A7.lt
      refine wpAnyN_one (i := 3) (by kernel_rfl) rfl (fun K hK => ?_)
      have lk : (Instr.lookup 95 (.map (some mb)) (.string s) true).run Try.prog w9 = .ok (.tuple #[.agg #[.int .u32 0, .int .u8 0, .int .u8 0, .int .u8 0], .bool false]) w9 := by have h := (hM).look2 hs; rw [LK] at h; exact h
      go_simp
      go_wp2_with fail
      refine hK _ _ (fun _ => HS.out _ B9) ?_
      clear hK K lk
      (try simp only [Act.put, List.getElem_toArray, List.getElem_cons_succ, List.getElem_cons_zero, List.setIfInBounds_toArray, List.set_cons_zero, List.set_cons_succ])
      refine wpAnyN_take (i := 4) (v := ?_) rfl (by kernel_rfl) (by kernel_rfl) (by kernel_rfl) (by kernel_rfl) (fun _ _ _ h => h) (Or.inl ⟨by rfl, ?_⟩) (HS.out _ B9) ?_
      rotate_left
      · intro w' hS'
        have h0 := hS'
        (try go_simp)
        first | done | exact rfl | exact ⟨rfl, rfl⟩
      (try simp only [Act.put, List.getElem_toArray, List.getElem_cons_succ, List.getElem_cons_zero, List.setIfInBounds_toArray, List.set_cons_zero, List.set_cons_succ])
      refine wpAnyN_take (i := 5) (v := ?_) rfl (by kernel_rfl) (by kernel_rfl) (by kernel_rfl) (by kernel_rfl) (fun _ _ _ h => h) (Or.inl ⟨by rfl, ?_⟩) (HS.out _ B9) ?_
      rotate_left
      · intro w' hS'
        have h0 := hS'
        (try go_simp)
        first | done | exact rfl | exact ⟨rfl, rfl⟩
      (try simp only [Act.put, List.getElem_toArray, List.getElem_cons_succ, List.getElem_cons_zero, List.setIfInBounds_toArray, List.set_cons_zero, List.set_cons_succ])
      refine wpAnyN_take (i := 6) (v := ?_) rfl (by kernel_rfl) (by kernel_rfl) (by kernel_rfl) (by kernel_rfl) (fun _ _ _ h => h) (Or.inl ⟨by rfl, ?_⟩) (HS.out _ B9) ?_
      rotate_left
      · intro w' hS'
        have h0 := hS'
        (try go_simp)
        first | done | exact rfl | exact ⟨rfl, rfl⟩
      (try simp only [Act.put, List.getElem_toArray, List.getElem_cons_succ, List.getElem_cons_zero, List.setIfInBounds_toArray, List.set_cons_zero, List.set_cons_succ])
      refine wpAnyN_one (i := 8) (by kernel_rfl) rfl (fun K hK => ?_)
      rw [if_pos (by rfl)]
      refine wp_store_row 47 (.tmp 4) (.tmp 13) rfl _ #[.int .u32 0, .int .u8 0, .int .u8 0, .int .u8 0] rfl rfl 47 _ A7 (by kernel_rfl) (by rfl) (by kernel_rfl) ?_
      have B8 := B9.trans (setRow_below #[.int .u32 0, .int .u8 0, .int .u8 0, .int .u8 0] L7)
      refine hK _ _ (fun _ => HS.out _ B8) ?_
      clear hK K
      (try simp only [Act.put, List.getElem_toArray, List.getElem_cons_succ, List.getElem_cons_zero, List.setIfInBounds_toArray, List.set_cons_zero, List.set_cons_succ])
      refine wpAnyN_take (i := 9) (v := ?_) rfl (by kernel_rfl) (by kernel_rfl) (by kernel_rfl) (by kernel_rfl) (fun _ _ _ h => h) (Or.inl ⟨by rfl, ?_⟩) (HS.out _ B8) ?_
      rotate_left
      · intro w' hS'
        have h0 := hS'
        (try go_simp)
        first | done | exact rfl | exact ⟨rfl, rfl⟩
      (try simp only [Act.put, List.getElem_toArray, List.getElem_cons_succ, List.getElem_cons_zero, List.setIfInBounds_toArray, List.set_cons_zero, List.set_cons_succ])
      refine wpAnyN_done (by kernel_rfl) ?_ _
      go_wp2_with fail
      go_meet
      case rel => exact ⟨_, rfl, rfl, setRow_heap _ _ _ _ _ _ A7, L7, B8⟩
  case rest =>
    obtain ⟨nb, rfl, rfl, hA, hL, hB⟩ := hcut
    have BX : Hid (Below w.heap.size w wc) := B0.out.trans (hB.mono (Nat.le_of_lt SZ))
    go_wp2
    go_ret2
    exact ⟨rfl, BX.out⟩

theorem fdat_st (n : Nat) : 0 < (fdat n).st := by
  unfold fdat
  split <;> decide
theorem fdat_fl (n : Nat) : (fdat n).fi ≤ (fdat n).la ∧ (fdat n).la ≤ 13 := by
  unfold fdat
  split <;> decide

set_option maxHeartbeats 2000000 in
theorem encode_not (s : ByteArray) (rd r1 r2 im : Int) (hs : s.size ≤ maxLen) (p1 p3 p4 : Int) (p2 : Nat) (Fa Fb Fc : Bool) (Flo Fhi Fst : Int) (Ffi Fla : Nat) (LK : mkF insT s.data.toList = some (.agg #[.int .u32 p1, .int .u8 (p2 : Nat), .int .u8 p3, .int .u8 p4]))
    (FO : Hid (∀ w, Calls Try.prog 14 #[.int .u8 (p2 : Nat)] w fun e w' => e = .returned (.agg #[.bool Fa, .bool Fb, .bool Fc, .int .i64 Flo, .int .i64 Fhi, .int .i64 Fst, .int .i64 (Ffi : Nat), .int .i64 (Fla : Nat)]) ∧ Below w.heap.size w w'))
    (TK : Hid (∀ w, Calls Try.prog 41 #[.agg #[.bool Fa, .bool Fb, .bool Fc, .int .i64 Flo, .int .i64 Fhi, .int .i64 Fst, .int .i64 (Ffi : Nat), .int .i64 (Fla : Nat)], .agg #[.string s, .int .i64 rd, .int .i64 r1, .int .i64 r2, .int .i64 im]] w fun e w' => e = .returned (.bool false) ∧ Below w.heap.size w w')) (w : World) :
    Calls Try.prog 36 #[.agg #[.string s, .int .i64 rd, .int .i64 r1, .int .i64 r2, .int .i64 im]] w fun e w' => e = .returned (.tuple #[.int .u32 0, .bool false]) ∧ Below w.heap.size w w' := by
  have B0 : Hid (Below w.heap.size w (w.alloc (.cells #[.string s, .int .i64 rd, .int .i64 r1, .int .i64 r2, .int .i64 im] 28))) := below_alloc _ _
  have A0 : Hid (At (w.alloc (.cells #[.string s, .int .i64 rd, .int .i64 r1, .int .i64 r2, .int .i64 im] 28)) w.heap.size #[.string s, .int .i64 rd, .int .i64 r1, .int .i64 r2, .int .i64 im] 28) := At.new w _ _
  go_enter Try.func36, Try.ntmps36
  go_upto_region 1 with fail
  generalize w.alloc (.cells #[.string s, .int .i64 rd, .int .i64 r1, .int .i64 r2, .int .i64 im] 28) = w2 at *
  have SZ : w.heap.size < w2.heap.size := A0.out.lt
  go_cut [4, 5] from 6 to 46 (fun p q wx => ∃ nb : Nat, p = .pointer (some ⟨nb, 0, none⟩) ∧ q = .bool true ∧ At wx nb #[.int .u32 p1, .int .u8 (p2 : Nat), .int .u8 p3, .int .u8 p4] 47 ∧ w2.heap.size ≤ nb ∧ Below w2.heap.size w2 wx)
  case first =>
    have HS : Hid (∀ w', Below w2.heap.size w2 w' → w'.cell? ⟨w.heap.size, 0, none⟩ = some (.string s)) := fun w' hb => (A0.out.below hb A0.out.lt).cell 0
    have BD : Below w2.heap.size w2 w2.drew := below_drew _
    refine wp_region_N (fun w' => w'.cell? ⟨w.heap.size, 0, none⟩ = some (.string s)) (fun _ => true) mixed (HS.out _ BD) ?_
    intro S0
    refine wpAnyN_take (i := 1) (v := ?_) rfl (by kernel_rfl) (by kernel_rfl) (by kernel_rfl) (by kernel_rfl) (fun _ _ _ h => h) (Or.inl ⟨by rfl, ?_⟩) (HS.out _ BD) ?_
    rotate_left
    · intro w' hS'
      have h0 := hS'
      (try go_simp)
      first | done | exact rfl | exact ⟨rfl, rfl⟩
    (try simp only [Act.put, List.getElem_toArray, List.getElem_cons_succ, List.getElem_cons_zero, List.setIfInBounds_toArray, List.set_cons_zero, List.set_cons_succ])
    refine wpAnyN_take (i := 2) (v := ?_) rfl (by kernel_rfl) (by kernel_rfl) (by kernel_rfl) (by kernel_rfl) (fun _ _ _ h => h) (Or.inl ⟨by rfl, ?_⟩) (HS.out _ BD) ?_
    rotate_left
    · intro w' hS'
      have h0 := hS'
      (try go_simp)
      first | done | exact rfl | exact ⟨rfl, rfl⟩
    (try simp only [Act.put, List.getElem_toArray, List.getElem_cons_succ, List.getElem_cons_zero, List.setIfInBounds_toArray, List.set_cons_zero, List.set_cons_succ])
    refine wpAnyN_two (i0 := 0) (i1 := 7) (by kernel_rfl) rfl rfl (fun K hK => ?_) (fun K hK => ?_)
    · go_simp
      (go_at_call 40; refine (byNames_c _).mono ?_; rintro e w9 ⟨mb, rfl, hM, hb9⟩)
      have B9 : Below w2.heap.size w2 w9 := next_below BD BD.size hb9
      go_wp2_with fail
      refine hK _ _ (fun _ => HS.out _ B9) ?_
      clear hK K
      (try simp only [Act.put, List.getElem_toArray, List.getElem_cons_zero, List.setIfInBounds_toArray, List.set_cons_zero, List.set_cons_succ])
      refine wpAnyN_two (i0 := 3) (i1 := 7) (by kernel_rfl) rfl rfl (fun K hK => ?_) (fun K hK => ?_)
      · have lk : (Instr.lookup 95 (.map (some mb)) (.string s) true).run Try.prog w9 = .ok (.tuple #[.agg #[.int .u32 p1, .int .u8 (p2 : Nat), .int .u8 p3, .int .u8 p4], .bool true]) w9 := by have h := (hM).look2 hs; rw [LK] at h; exact h
        go_simp
        go_wp2_with fail
        refine hK _ _ (fun _ => HS.out _ B9) ?_
        clear hK K lk
        (try simp only [Act.put, List.getElem_toArray, List.getElem_cons_succ, List.getElem_cons_zero, List.setIfInBounds_toArray, List.set_cons_zero, List.set_cons_succ])
        refine wpAnyN_take (i := 4) (v := ?_) rfl (by kernel_rfl) (by kernel_rfl) (by kernel_rfl) (by kernel_rfl) (fun _ _ _ h => h) (Or.inl ⟨by rfl, ?_⟩) (HS.out _ B9) ?_
        rotate_left
        · intro w' hS'
          have h0 := hS'
          (try go_simp)
          first | done | exact rfl | exact ⟨rfl, rfl⟩
        (try simp only [Act.put, List.getElem_toArray, List.getElem_cons_succ, List.getElem_cons_zero, List.setIfInBounds_toArray, List.set_cons_zero, List.set_cons_succ])
        refine wpAnyN_take (i := 5) (v := ?_) rfl (by kernel_rfl) (by kernel_rfl) (by kernel_rfl) (by kernel_rfl) (fun _ _ _ h => h) (Or.inl ⟨by rfl, ?_⟩) (HS.out _ B9) ?_
        rotate_left
        · intro w' hS'
          have h0 := hS'
          (try go_simp)
          first | done | exact rfl | exact ⟨rfl, rfl⟩
        (try simp only [Act.put, List.getElem_toArray, List.getElem_cons_succ, List.getElem_cons_zero, List.setIfInBounds_toArray, List.set_cons_zero, List.set_cons_succ])
        refine wpAnyN_take (i := 6) (v := ?_) rfl (by kernel_rfl) (by kernel_rfl) (by kernel_rfl) (by kernel_rfl) (fun _ _ _ h => h) (Or.inl ⟨by rfl, ?_⟩) (HS.out _ B9) ?_
        rotate_left
        · intro w' hS'
          have h0 := hS'
          (try go_simp)
          first | done | exact rfl | exact ⟨rfl, rfl⟩
        (try simp only [Act.put, List.getElem_toArray, List.getElem_cons_succ, List.getElem_cons_zero, List.setIfInBounds_toArray, List.set_cons_zero, List.set_cons_succ])
        refine wpAnyN_one (i := 7) (by kernel_rfl) rfl (fun K hK => ?_)
        have B9a : Below w2.heap.size w2 (w9.alloc (.cells #[.int .u32 0, .int .u8 0, .int .u8 0, .int .u8 0] 47)) := next_below B9 B9.size (below_alloc _ _)
        have A7 : At (w9.alloc (.cells #[.int .u32 0, .int .u8 0, .int .u8 0, .int .u8 0] 47)) w9.heap.size #[.int .u32 0, .int .u8 0, .int .u8 0, .int .u8 0] 47 := At.new _ _ _
        have L7 : w2.heap.size ≤ w9.heap.size := B9.size
        go_simp
        go_wp2_with fail
        refine hK _ _ (fun _ => HS.out _ B9a) ?_
        clear hK K
        (try simp only [Act.put, List.getElem_toArray, List.getElem_cons_succ, List.getElem_cons_zero, List.setIfInBounds_toArray, List.set_cons_zero, List.set_cons_succ])
        refine wpAnyN_one (i := 8) (by kernel_rfl) rfl (fun K hK => ?_)
        rw [if_pos (by rfl)]
        refine wp_store_row 47 (.tmp 4) (.tmp 13) rfl _ #[.int .u32 p1, .int .u8 (p2 : Nat), .int .u8 p3, .int .u8 p4] rfl rfl 47 _ A7 (by kernel_rfl) (by rfl) (by kernel_rfl) ?_
        have B8 := B9a.trans (setRow_below #[.int .u32 p1, .int .u8 (p2 : Nat), .int .u8 p3, .int .u8 p4] L7)
        refine hK _ _ (fun _ => HS.out _ B8) ?_
        clear hK K
        (try simp only [Act.put, List.getElem_toArray, List.getElem_cons_succ, List.getElem_cons_zero, List.setIfInBounds_toArray, List.set_cons_zero, List.set_cons_succ])
        refine wpAnyN_take (i := 9) (v := ?_) rfl (by kernel_rfl) (by kernel_rfl) (by kernel_rfl) (by kernel_rfl) (fun _ _ _ h => h) (Or.inl ⟨by rfl, ?_⟩) (HS.out _ B8) ?_
        rotate_left
        · intro w' hS'
          have h0 := hS'
          (try go_simp)
          first | done | exact rfl | exact ⟨rfl, rfl⟩
        (try simp only [Act.put, List.getElem_toArray, List.getElem_cons_succ, List.getElem_cons_zero, List.setIfInBounds_toArray, List.set_cons_zero, List.set_cons_succ])
        refine wpAnyN_done (by kernel_rfl) ?_ _
        go_wp2_with fail
        go_meet
        case rel => exact ⟨_, rfl, rfl, setRow_heap _ _ _ _ _ _ A7, L7, B8⟩
      · have B9a : Below w2.heap.size w2 (w9.alloc (.cells #[.int .u32 0, .int .u8 0, .int .u8 0, .int .u8 0] 47)) := next_below B9 B9.size (below_alloc _ _)
        have A7 : At (w9.alloc (.cells #[.int .u32 0, .int .u8 0, .int .u8 0, .int .u8 0] 47)) w9.heap.size #[.int .u32 0, .int .u8 0, .int .u8 0, .int .u8 0] 47 := At.new _ _ _
        have L7 : w2.heap.size ≤ w9.heap.size := B9.size
        go_simp
        go_wp2_with fail
        refine hK _ _ (fun _ => HS.out _ B9a) ?_
        clear hK K
        (try simp only [Act.put, List.getElem_toArray, List.getElem_cons_succ, List.getElem_cons_zero, List.setIfInBounds_toArray, List.set_cons_zero, List.set_cons_succ])
        refine wpAnyN_one (i := 3) (by kernel_rfl) rfl (fun K hK => ?_)
        have lk : (Instr.lookup 95 (.map (some mb)) (.string s) true).run Try.prog (w9.alloc (.cells #[.int .u32 0, .int .u8 0, .int .u8 0, .int .u8 0] 47)) = .ok (.tuple #[.agg #[.int .u32 p1, .int .u8 (p2 : Nat), .int .u8 p3, .int .u8 p4], .bool true]) (w9.alloc (.cells #[.int .u32 0, .int .u8 0, .int .u8 0, .int .u8 0] 47)) := by have h := (hM.below (below_alloc w9 (.cells #[.int .u32 0, .int .u8 0, .int .u8 0, .int .u8 0] 47))).look2 hs; rw [LK] at h; exact h
        go_simp
        go_wp2_with fail
        refine hK _ _ (fun _ => HS.out _ B9a) ?_
        clear hK K lk
        (try simp only [Act.put, List.getElem_toArray, List.getElem_cons_succ, List.getElem_cons_zero, List.setIfInBounds_toArray, List.set_cons_zero, List.set_cons_succ])
        refine wpAnyN_take (i := 4) (v := ?_) rfl (by kernel_rfl) (by kernel_rfl) (by kernel_rfl) (by kernel_rfl) (fun _ _ _ h => h) (Or.inl ⟨by rfl, ?_⟩) (HS.out _ B9a) ?_
        rotate_left
        · intro w' hS'
          have h0 := hS'
          (try go_simp)
          first | done | exact rfl | exact ⟨rfl, rfl⟩
        (try simp only [Act.put, List.getElem_toArray, List.getElem_cons_succ, List.getElem_cons_zero, List.setIfInBounds_toArray, List.set_cons_zero, List.set_cons_succ])
        refine wpAnyN_take (i := 5) (v := ?_) rfl (by kernel_rfl) (by kernel_rfl) (by kernel_rfl) (by kernel_rfl) (fun _ _ _ h => h) (Or.inl ⟨by rfl, ?_⟩) (HS.out _ B9a) ?_
        rotate_left
        · intro w' hS'
          have h0 := hS'
          (try go_simp)
          first | done | exact rfl | exact ⟨rfl, rfl⟩
        (try simp only [Act.put, List.getElem_toArray, List.getElem_cons_succ, List.getElem_cons_zero, List.setIfInBounds_toArray, List.set_cons_zero, List.set_cons_succ])
        refine wpAnyN_take (i := 6) (v := ?_) rfl (by kernel_rfl) (by kernel_rfl) (by kernel_rfl) (by kernel_rfl) (fun _ _ _ h => h) (Or.inl ⟨by rfl, ?_⟩) (HS.out _ B9a) ?_
        rotate_left
        · intro w' hS'
          have h0 := hS'
          (try go_simp)
          first | done | exact rfl | exact ⟨rfl, rfl⟩
        (try simp only [Act.put, List.getElem_toArray, List.getElem_cons_succ, List.getElem_cons_zero, List.setIfInBounds_toArray, List.set_cons_zero, List.set_cons_succ])
        refine wpAnyN_one (i := 8) (by kernel_rfl) rfl (fun K hK => ?_)
        rw [if_pos (by rfl)]
        refine wp_store_row 47 (.tmp 4) (.tmp 13) rfl _ #[.int .u32 p1, .int .u8 (p2 : Nat), .int .u8 p3, .int .u8 p4] rfl rfl 47 _ A7 (by kernel_rfl) (by rfl) (by kernel_rfl) ?_
        have B8 := B9a.trans (setRow_below #[.int .u32 p1, .int .u8 (p2 : Nat), .int .u8 p3, .int .u8 p4] L7)
        refine hK _ _ (fun _ => HS.out _ B8) ?_
        clear hK K
        (try simp only [Act.put, List.getElem_toArray, List.getElem_cons_succ, List.getElem_cons_zero, List.setIfInBounds_toArray, List.set_cons_zero, List.set_cons_succ])
        refine wpAnyN_take (i := 9) (v := ?_) rfl (by kernel_rfl) (by kernel_rfl) (by kernel_rfl) (by kernel_rfl) (fun _ _ _ h => h) (Or.inl ⟨by rfl, ?_⟩) (HS.out _ B8) ?_
        rotate_left
        · intro w' hS'
          have h0 := hS'
          (try go_simp)
          first | done | exact rfl | exact ⟨rfl, rfl⟩
        (try simp only [Act.put, List.getElem_toArray, List.getElem_cons_succ, List.getElem_cons_zero, List.setIfInBounds_toArray, List.set_cons_zero, List.set_cons_succ])
        refine wpAnyN_done (by kernel_rfl) ?_ _
        go_wp2_with fail
        go_meet
        case rel => exact ⟨_, rfl, rfl, setRow_heap _ _ _ _ _ _ A7, L7, B8⟩
    · have BDa : Below w2.heap.size w2 (w2.drew.alloc (.cells #[.int .u32 0, .int .u8 0, .int .u8 0, .int .u8 0] 47)) := next_below BD BD.size (below_alloc _ _)
      have A7 : At (w2.drew.alloc (.cells #[.int .u32 0, .int .u8 0, .int .u8 0, .int .u8 0] 47)) w2.drew.heap.size #[.int .u32 0, .int .u8 0, .int .u8 0, .int .u8 0] 47 := At.new _ _ _
      have L7 : w2.heap.size ≤ w2.drew.heap.size := BD.size
      go_simp
      go_wp2_with fail
      refine hK _ _ (fun _ => HS.out _ BDa) ?_
      clear hK K
      (try simp only [Act.put, List.getElem_toArray, List.getElem_cons_succ, List.getElem_cons_zero, List.setIfInBounds_toArray, List.set_cons_zero, List.set_cons_succ])
      refine wpAnyN_one (i := 0) (by kernel_rfl) rfl (fun K hK => ?_)
      go_simp
      (go_at_call 40; refine (byNames_c _).mono ?_; rintro e w9 ⟨mb, rfl, hM, hb9⟩)
      have B9 : Below w2.heap.size w2 w9 := next_below BDa BDa.size hb9
      go_wp2_with fail
      refine hK _ _ (fun _ => HS.out _ B9) ?_
      clear hK K
      (try simp only [Act.put, List.getElem_toArray, List.getElem_cons_zero, List.setIfInBounds_toArray, List.set_cons_zero, List.set_cons_succ])
      have A7 := A7.below hb9 A7.lt
      refine wpAnyN_one (i := 3) (by kernel_rfl) rfl (fun K hK => ?_)
      have lk : (Instr.lookup 95 (.map (some mb)) (.string s) true).run Try.prog w9 = .ok (.tuple #[.agg #[.int .u32 p1, .int .u8 (p2 : Nat), .int .u8 p3, .int .u8 p4], .bool true]) w9 := by have h := (hM).look2 hs; rw [LK] at h; exact h
      go_simp
      go_wp2_with fail
      refine hK _ _ (fun _ => HS.out _ B9) ?_
      clear hK K lk
      (try simp only [Act.put, List.getElem_toArray, List.getElem_cons_succ, List.getElem_cons_zero, List.setIfInBounds_toArray, List.set_cons_zero, List.set_cons_succ])
      refine wpAnyN_take (i := 4) (v := ?_) rfl (by kernel_rfl) (by kernel_rfl) (by kernel_rfl) (by kernel_rfl) (fun _ _ _ h => h) (Or.inl ⟨by rfl, ?_⟩) (HS.out _ B9) ?_
      rotate_left
      · intro w' hS'
        have h0 := hS'
        (try go_simp)
        first | done | exact rfl | exact ⟨rfl, rfl⟩
      (try simp only [Act.put, List.getElem_toArray, List.getElem_cons_succ, List.getElem_cons_zero, List.setIfInBounds_toArray, List.set_cons_zero, List.set_cons_succ])
      refine wpAnyN_take (i := 5) (v := ?_) rfl (by kernel_rfl) (by kernel_rfl) (by kernel_rfl) (by kernel_rfl) (fun _ _ _ h => h) (Or.inl ⟨by rfl, ?_⟩) (HS.out _ B9) ?_
      rotate_left
      · intro w' hS'
        have h0 := hS'
        (try go_simp)
        first | done | exact rfl | exact ⟨rfl, rfl⟩
      (try simp only [Act.put, List.getElem_toArray, List.getElem_cons_succ, List.getElem_cons_zero, List.setIfInBounds_toArray, List.set_cons_zero, List.set_cons_succ])
      refine wpAnyN_take (i := 6) (v := ?_) rfl (by kernel_rfl) (by kernel_rfl) (by kernel_rfl) (by kernel_rfl) (fun _ _ _ h => h) (Or.inl ⟨by rfl, ?_⟩) (HS.out _ B9) ?_
      rotate_left
      · intro w' hS'
        have h0 := hS'
        (try go_simp)
        first | done | exact rfl | exact ⟨rfl, rfl⟩
      (try simp only [Act.put, List.getElem_toArray, List.getElem_cons_succ, List.getElem_cons_zero, List.setIfInBounds_toArray, List.set_cons_zero, List.set_cons_succ])
      refine wpAnyN_one (i := 8) (by kernel_rfl) rfl (fun K hK => ?_)
      rw [if_pos (by rfl)]
      refine wp_store_row 47 (.tmp 4) (.tmp 13) rfl _ #[.int .u32 p1, .int .u8 (p2 : Nat), .int .u8 p3, .int .u8 p4] rfl rfl 47 _ A7 (by kernel_rfl) (by rfl) (by kernel_rfl) ?_
      have B8 := B9.trans (setRow_below #[.int .u32 p1, .int .u8 (p2 : Nat), .int .u8 p3, .int .u8 p4] L7)
      refine hK _ _ (fun _ => HS.out _ B8) ?_
      clear hK K
      (try simp only [Act.put, List.getElem_toArray, List.getElem_cons_succ, List.getElem_cons_zero, List.setIfInBounds_toArray, List.set_cons_zero, List.set_cons_succ])
      refine wpAnyN_take (i := 9) (v := ?_) rfl (by kernel_rfl) (by kernel_rfl) (by kernel_rfl) (by kernel_rfl) (fun _ _ _ h => h) (Or.inl ⟨by rfl, ?_⟩) (HS.out _ B8) ?_
      rotate_left
      · intro w' hS'
        have h0 := hS'
        (try go_simp)
        first | done | exact rfl | exact ⟨rfl, rfl⟩
      (try simp only [Act.put, List.getElem_toArray, List.getElem_cons_succ, List.getElem_cons_zero, List.setIfInBounds_toArray, List.set_cons_zero, List.set_cons_succ])
      refine wpAnyN_done (by kernel_rfl) ?_ _
      go_wp2_with fail
      go_meet
      case rel => exact ⟨_, rfl, rfl, setRow_heap _ _ _ _ _ _ A7, L7, B8⟩
  case rest =>
    obtain ⟨nb, rfl, rfl, hA, hL, hB⟩ := hcut
    have BX : Hid (Below w.heap.size w wc) := B0.out.trans (hB.mono (Nat.le_of_lt SZ))
    have NA : Hid (At wc nb #[.int .u32 p1, .int .u8 (p2 : Nat), .int .u8 p3, .int .u8 p4] 47) := hA
    have IA : Hid (At wc w.heap.size #[.string s, .int .i64 rd, .int .i64 r1, .int .i64 r2, .int .i64 im] 28) := A0.out.below hB A0.out.lt
    clear hA hB hL
    have m1 := NA.out.cell 1
    simp at m1
    go_wp2_with (first
      | (have T0 := FT; go_at_call 41; refine (TK.out _).mono ?_; rintro e w12 ⟨rfl, hb⟩; have BY : Hid (Below w.heap.size w w12) := next_below (FT.out.1) (FT.out.1).size hb; have FA12 := FT.out.2.below hb FT.out.2.lt; have BZ : Hid (Below wc.heap.size wc w12) := next_below FT2.out FT2.out.size hb; have FA : Hid (At w12 w11.heap.size #[.bool Fa, .bool Fb, .bool Fc, .int .i64 Flo, .int .i64 Fhi, .int .i64 Fst, .int .i64 (Ffi : Nat), .int .i64 (Fla : Nat)] 54) := FA12; clear hb FA12 t0 t1 t2 t3 t4 hlt)
      | (go_at_call 14; refine (FO.out _).mono ?_; rintro e w11 ⟨rfl, hb⟩; have t0 := (IA.out.below hb IA.out.lt).cell 0; have t1 := (IA.out.below hb IA.out.lt).cell 1; have t2 := (IA.out.below hb IA.out.lt).cell 2; have t3 := (IA.out.below hb IA.out.lt).cell 3; have t4 := (IA.out.below hb IA.out.lt).cell 4; simp at t0 t1 t2 t3 t4; have hlt := Nat.lt_of_lt_of_le IA.out.lt hb.size; have FT2 : Hid (Below wc.heap.size wc (w11.alloc (.cells #[.bool Fa, .bool Fb, .bool Fc, .int .i64 Flo, .int .i64 Fhi, .int .i64 Fst, .int .i64 (Ffi : Nat), .int .i64 (Fla : Nat)] 54))) := next_below hb hb.size (below_alloc _ _); have FT : Hid (Below w.heap.size w (w11.alloc (.cells #[.bool Fa, .bool Fb, .bool Fc, .int .i64 Flo, .int .i64 Fhi, .int .i64 Fst, .int .i64 (Ffi : Nat), .int .i64 (Fla : Nat)] 54)) ∧ At (w11.alloc (.cells #[.bool Fa, .bool Fb, .bool Fc, .int .i64 Flo, .int .i64 Fhi, .int .i64 Fst, .int .i64 (Ffi : Nat), .int .i64 (Fla : Nat)] 54)) w11.heap.size #[.bool Fa, .bool Fb, .bool Fc, .int .i64 Flo, .int .i64 Fhi, .int .i64 Fst, .int .i64 (Ffi : Nat), .int .i64 (Fla : Nat)] 54) := ⟨BX.out.trans (FT2.out.mono BX.out.size), At.new _ _ _⟩; clear hb m1))
    go_ret2
    exact ⟨rfl, BY.out⟩

set_option maxHeartbeats 2000000 in
theorem encode_yes (s : ByteArray) (rd r1 r2 im : Int) (hs : s.size ≤ maxLen) (p1 p3 p4 : Int) (p2 : Nat) (Fa Fb Fc : Bool) (Flo Fhi Fst : Int) (Ffi Fla : Nat) (NBV FBV WV : Int) (LK : mkF insT s.data.toList = some (.agg #[.int .u32 p1, .int .u8 (p2 : Nat), .int .u8 p3, .int .u8 p4]))
    (FO : Hid (∀ w, Calls Try.prog 14 #[.int .u8 (p2 : Nat)] w fun e w' => e = .returned (.agg #[.bool Fa, .bool Fb, .bool Fc, .int .i64 Flo, .int .i64 Fhi, .int .i64 Fst, .int .i64 (Ffi : Nat), .int .i64 (Fla : Nat)]) ∧ Below w.heap.size w w'))
    (TK : Hid (∀ w, Calls Try.prog 41 #[.agg #[.bool Fa, .bool Fb, .bool Fc, .int .i64 Flo, .int .i64 Fhi, .int .i64 Fst, .int .i64 (Ffi : Nat), .int .i64 (Fla : Nat)], .agg #[.string s, .int .i64 rd, .int .i64 r1, .int .i64 r2, .int .i64 im]] w fun e w' => e = .returned (.bool true) ∧ Below w.heap.size w w'))
    (NB : Hid (∀ w, Calls Try.prog 42 #[.agg #[.int .u32 p1, .int .u8 (p2 : Nat), .int .u8 p3, .int .u8 p4]] w fun e w' => e = .returned (.int .u32 NBV) ∧ Below w.heap.size w w'))
    (FB : Hid (∀ w, Calls Try.prog 43 #[.agg #[.bool Fa, .bool Fb, .bool Fc, .int .i64 Flo, .int .i64 Fhi, .int .i64 Fst, .int .i64 (Ffi : Nat), .int .i64 (Fla : Nat)], .int .i64 im] w fun e w' => e = .returned (.int .u32 FBV) ∧ Below w.heap.size w w'))
    (WI : bits .or .u32 (bits .or .u32 NBV (rgI rd r1 r2)) FBV = WV) (d1 : (0 ≤ rd ∧ rd ≤ 31) ∧ (0 ≤ r1 ∧ r1 ≤ 31) ∧ (0 ≤ r2 ∧ r2 ≤ 31)) (w : World) :
    Calls Try.prog 36 #[.agg #[.string s, .int .i64 rd, .int .i64 r1, .int .i64 r2, .int .i64 im]] w fun e w' => e = .returned (.tuple #[.int .u32 WV, .bool true]) ∧ Below w.heap.size w w' := by
  have WH : Hid (bits .or .u32 (bits .or .u32 NBV (rgI rd r1 r2)) FBV = WV) := WI
  have D1 : Hid ((0 ≤ rd ∧ rd ≤ 31) ∧ (0 ≤ r1 ∧ r1 ≤ 31) ∧ (0 ≤ r2 ∧ r2 ≤ 31)) := d1
  clear WI d1
  have B0 : Hid (Below w.heap.size w (w.alloc (.cells #[.string s, .int .i64 rd, .int .i64 r1, .int .i64 r2, .int .i64 im] 28))) := below_alloc _ _
  have A0 : Hid (At (w.alloc (.cells #[.string s, .int .i64 rd, .int .i64 r1, .int .i64 r2, .int .i64 im] 28)) w.heap.size #[.string s, .int .i64 rd, .int .i64 r1, .int .i64 r2, .int .i64 im] 28) := At.new w _ _
  go_enter Try.func36, Try.ntmps36
  go_upto_region 1 with fail
  generalize w.alloc (.cells #[.string s, .int .i64 rd, .int .i64 r1, .int .i64 r2, .int .i64 im] 28) = w2 at *
  have SZ : w.heap.size < w2.heap.size := A0.out.lt
  go_cut [4, 5] from 6 to 46 (fun p q wx => ∃ nb : Nat, p = .pointer (some ⟨nb, 0, none⟩) ∧ q = .bool true ∧ At wx nb #[.int .u32 p1, .int .u8 (p2 : Nat), .int .u8 p3, .int .u8 p4] 47 ∧ w2.heap.size ≤ nb ∧ Below w2.heap.size w2 wx)
  case first =>
    have HS : Hid (∀ w', Below w2.heap.size w2 w' → w'.cell? ⟨w.heap.size, 0, none⟩ = some (.string s)) := fun w' hb => (A0.out.below hb A0.out.lt).cell 0
    have BD : Below w2.heap.size w2 w2.drew := below_drew _
    refine wp_region_N (fun w' => w'.cell? ⟨w.heap.size, 0, none⟩ = some (.string s)) (fun _ => true) mixed (HS.out _ BD) ?_
    intro S0
    refine wpAnyN_take (i := 1) (v := ?_) rfl (by kernel_rfl) (by kernel_rfl) (by kernel_rfl) (by kernel_rfl) (fun _ _ _ h => h) (Or.inl ⟨by rfl, ?_⟩) (HS.out _ BD) ?_
    rotate_left
    · intro w' hS'
      have h0 := hS'
      (try go_simp)
      first | done | exact rfl | exact ⟨rfl, rfl⟩
    (try simp only [Act.put, List.getElem_toArray, List.getElem_cons_succ, List.getElem_cons_zero, List.setIfInBounds_toArray, List.set_cons_zero, List.set_cons_succ])
    refine wpAnyN_take (i := 2) (v := ?_) rfl (by kernel_rfl) (by kernel_rfl) (by kernel_rfl) (by kernel_rfl) (fun _ _ _ h => h) (Or.inl ⟨by rfl, ?_⟩) (HS.out _ BD) ?_
    rotate_left
    · intro w' hS'
      have h0 := hS'
      (try go_simp)
      first | done | exact rfl | exact ⟨rfl, rfl⟩
    (try simp only [Act.put, List.getElem_toArray, List.getElem_cons_succ, List.getElem_cons_zero, List.setIfInBounds_toArray, List.set_cons_zero, List.set_cons_succ])
    refine wpAnyN_two (i0 := 0) (i1 := 7) (by kernel_rfl) rfl rfl (fun K hK => ?_) (fun K hK => ?_)
    · go_simp
      (go_at_call 40; refine (byNames_c _).mono ?_; rintro e w9 ⟨mb, rfl, hM, hb9⟩)
      have B9 : Below w2.heap.size w2 w9 := next_below BD BD.size hb9
      go_wp2_with fail
      refine hK _ _ (fun _ => HS.out _ B9) ?_
      clear hK K
      (try simp only [Act.put, List.getElem_toArray, List.getElem_cons_zero, List.setIfInBounds_toArray, List.set_cons_zero, List.set_cons_succ])
      refine wpAnyN_two (i0 := 3) (i1 := 7) (by kernel_rfl) rfl rfl (fun K hK => ?_) (fun K hK => ?_)
      · have lk : (Instr.lookup 95 (.map (some mb)) (.string s) true).run Try.prog w9 = .ok (.tuple #[.agg #[.int .u32 p1, .int .u8 (p2 : Nat), .int .u8 p3, .int .u8 p4], .bool true]) w9 := by have h := (hM).look2 hs; rw [LK] at h; exact h
        go_simp
        go_wp2_with fail
        refine hK _ _ (fun _ => HS.out _ B9) ?_
        clear hK K lk
        (try simp only [Act.put, List.getElem_toArray, List.getElem_cons_succ, List.getElem_cons_zero, List.setIfInBounds_toArray, List.set_cons_zero, List.set_cons_succ])
        refine wpAnyN_take (i := 4) (v := ?_) rfl (by kernel_rfl) (by kernel_rfl) (by kernel_rfl) (by kernel_rfl) (fun _ _ _ h => h) (Or.inl ⟨by rfl, ?_⟩) (HS.out _ B9) ?_
        rotate_left
        · intro w' hS'
          have h0 := hS'
          (try go_simp)
          first | done | exact rfl | exact ⟨rfl, rfl⟩
        (try simp only [Act.put, List.getElem_toArray, List.getElem_cons_succ, List.getElem_cons_zero, List.setIfInBounds_toArray, List.set_cons_zero, List.set_cons_succ])
        refine wpAnyN_take (i := 5) (v := ?_) rfl (by kernel_rfl) (by kernel_rfl) (by kernel_rfl) (by kernel_rfl) (fun _ _ _ h => h) (Or.inl ⟨by rfl, ?_⟩) (HS.out _ B9) ?_
        rotate_left
        · intro w' hS'
          have h0 := hS'
          (try go_simp)
          first | done | exact rfl | exact ⟨rfl, rfl⟩
        (try simp only [Act.put, List.getElem_toArray, List.getElem_cons_succ, List.getElem_cons_zero, List.setIfInBounds_toArray, List.set_cons_zero, List.set_cons_succ])
        refine wpAnyN_take (i := 6) (v := ?_) rfl (by kernel_rfl) (by kernel_rfl) (by kernel_rfl) (by kernel_rfl) (fun _ _ _ h => h) (Or.inl ⟨by rfl, ?_⟩) (HS.out _ B9) ?_
        rotate_left
        · intro w' hS'
          have h0 := hS'
          (try go_simp)
          first | done | exact rfl | exact ⟨rfl, rfl⟩
        (try simp only [Act.put, List.getElem_toArray, List.getElem_cons_succ, List.getElem_cons_zero, List.setIfInBounds_toArray, List.set_cons_zero, List.set_cons_succ])
        refine wpAnyN_one (i := 7) (by kernel_rfl) rfl (fun K hK => ?_)
        have B9a : Below w2.heap.size w2 (w9.alloc (.cells #[.int .u32 0, .int .u8 0, .int .u8 0, .int .u8 0] 47)) := next_below B9 B9.size (below_alloc _ _)
        have A7 : At (w9.alloc (.cells #[.int .u32 0, .int .u8 0, .int .u8 0, .int .u8 0] 47)) w9.heap.size #[.int .u32 0, .int .u8 0, .int .u8 0, .int .u8 0] 47 := At.new _ _ _
        have L7 : w2.heap.size ≤ w9.heap.size := B9.size
        go_simp
        go_wp2_with fail
        refine hK _ _ (fun _ => HS.out _ B9a) ?_
        clear hK K
        (try simp only [Act.put, List.getElem_toArray, List.getElem_cons_succ, List.getElem_cons_zero, List.setIfInBounds_toArray, List.set_cons_zero, List.set_cons_succ])
        refine wpAnyN_one (i := 8) (by kernel_rfl) rfl (fun K hK => ?_)
        rw [if_pos (by rfl)]
        refine wp_store_row 47 (.tmp 4) (.tmp 13) rfl _ #[.int .u32 p1, .int .u8 (p2 : Nat), .int .u8 p3, .int .u8 p4] rfl rfl 47 _ A7 (by kernel_rfl) (by rfl) (by kernel_rfl) ?_
        have B8 := B9a.trans (setRow_below #[.int .u32 p1, .int .u8 (p2 : Nat), .int .u8 p3, .int .u8 p4] L7)
        refine hK _ _ (fun _ => HS.out _ B8) ?_
        clear hK K
        (try simp only [Act.put, List.getElem_toArray, List.getElem_cons_succ, List.getElem_cons_zero, List.setIfInBounds_toArray, List.set_cons_zero, List.set_cons_succ])
        refine wpAnyN_take (i := 9) (v := ?_) rfl (by kernel_rfl) (by kernel_rfl) (by kernel_rfl) (by kernel_rfl) (fun _ _ _ h => h) (Or.inl ⟨by rfl, ?_⟩) (HS.out _ B8) ?_
        rotate_left
        · intro w' hS'
          have h0 := hS'
          (try go_simp)
          first | done | exact rfl | exact ⟨rfl, rfl⟩
        (try simp only [Act.put, List.getElem_toArray, List.getElem_cons_succ, List.getElem_cons_zero, List.setIfInBounds_toArray, List.set_cons_zero, List.set_cons_succ])
        refine wpAnyN_done (by kernel_rfl) ?_ _
        go_wp2_with fail
        go_meet
        case rel => exact ⟨_, rfl, rfl, setRow_heap _ _ _ _ _ _ A7, L7, B8⟩
      · have B9a : Below w2.heap.size w2 (w9.alloc (.cells #[.int .u32 0, .int .u8 0, .int .u8 0, .int .u8 0] 47)) := next_below B9 B9.size (below_alloc _ _)
        have A7 : At (w9.alloc (.cells #[.int .u32 0, .int .u8 0, .int .u8 0, .int .u8 0] 47)) w9.heap.size #[.int .u32 0, .int .u8 0, .int .u8 0, .int .u8 0] 47 := At.new _ _ _
        have L7 : w2.heap.size ≤ w9.heap.size := B9.size
        go_simp
        go_wp2_with fail
        refine hK _ _ (fun _ => HS.out _ B9a) ?_
        clear hK K
        (try simp only [Act.put, List.getElem_toArray, List.getElem_cons_succ, List.getElem_cons_zero, List.setIfInBounds_toArray, List.set_cons_zero, List.set_cons_succ])
        refine wpAnyN_one (i := 3) (by kernel_rfl) rfl (fun K hK => ?_)
        have lk : (Instr.lookup 95 (.map (some mb)) (.string s) true).run Try.prog (w9.alloc (.cells #[.int .u32 0, .int .u8 0, .int .u8 0, .int .u8 0] 47)) = .ok (.tuple #[.agg #[.int .u32 p1, .int .u8 (p2 : Nat), .int .u8 p3, .int .u8 p4], .bool true]) (w9.alloc (.cells #[.int .u32 0, .int .u8 0, .int .u8 0, .int .u8 0] 47)) := by have h := (hM.below (below_alloc w9 (.cells #[.int .u32 0, .int .u8 0, .int .u8 0, .int .u8 0] 47))).look2 hs; rw [LK] at h; exact h
        go_simp
        go_wp2_with fail
        refine hK _ _ (fun _ => HS.out _ B9a) ?_
        clear hK K lk
        (try simp only [Act.put, List.getElem_toArray, List.getElem_cons_succ, List.getElem_cons_zero, List.setIfInBounds_toArray, List.set_cons_zero, List.set_cons_succ])
        refine wpAnyN_take (i := 4) (v := ?_) rfl (by kernel_rfl) (by kernel_rfl) (by kernel_rfl) (by kernel_rfl) (fun _ _ _ h => h) (Or.inl ⟨by rfl, ?_⟩) (HS.out _ B9a) ?_
        rotate_left
        · intro w' hS'
          have h0 := hS'
          (try go_simp)
          first | done | exact rfl | exact ⟨rfl, rfl⟩
        (try simp only [Act.put, List.getElem_toArray, List.getElem_cons_succ, List.getElem_cons_zero, List.setIfInBounds_toArray, List.set_cons_zero, List.set_cons_succ])
        refine wpAnyN_take (i := 5) (v := ?_) rfl (by kernel_rfl) (by kernel_rfl) (by kernel_rfl) (by kernel_rfl) (fun _ _ _ h => h) (Or.inl ⟨by rfl, ?_⟩) (HS.out _ B9a) ?_
        rotate_left
        · intro w' hS'
          have h0 := hS'
          (try go_simp)
          first | done | exact rfl | exact ⟨rfl, rfl⟩
        (try simp only [Act.put, List.getElem_toArray, List.getElem_cons_succ, List.getElem_cons_zero, List.setIfInBounds_toArray, List.set_cons_zero, List.set_cons_succ])
        refine wpAnyN_take (i := 6) (v := ?_) rfl (by kernel_rfl) (by kernel_rfl) (by kernel_rfl) (by kernel_rfl) (fun _ _ _ h => h) (Or.inl ⟨by rfl, ?_⟩) (HS.out _ B9a) ?_
        rotate_left
        · intro w' hS'
          have h0 := hS'
          (try go_simp)
          first | done | exact rfl | exact ⟨rfl, rfl⟩
        (try simp only [Act.put, List.getElem_toArray, List.getElem_cons_succ, List.getElem_cons_zero, List.setIfInBounds_toArray, List.set_cons_zero, List.set_cons_succ])
        refine wpAnyN_one (i := 8) (by kernel_rfl) rfl (fun K hK => ?_)
        rw [if_pos (by rfl)]
        refine wp_store_row 47 (.tmp 4) (.tmp 13) rfl _ #[.int .u32 p1, .int .u8 (p2 : Nat), .int .u8 p3, .int .u8 p4] rfl rfl 47 _ A7 (by kernel_rfl) (by rfl) (by kernel_rfl) ?_
        have B8 := B9a.trans (setRow_below #[.int .u32 p1, .int .u8 (p2 : Nat), .int .u8 p3, .int .u8 p4] L7)
        refine hK _ _ (fun _ => HS.out _ B8) ?_
        clear hK K
        (try simp only [Act.put, List.getElem_toArray, List.getElem_cons_succ, List.getElem_cons_zero, List.setIfInBounds_toArray, List.set_cons_zero, List.set_cons_succ])
        refine wpAnyN_take (i := 9) (v := ?_) rfl (by kernel_rfl) (by kernel_rfl) (by kernel_rfl) (by kernel_rfl) (fun _ _ _ h => h) (Or.inl ⟨by rfl, ?_⟩) (HS.out _ B8) ?_
        rotate_left
        · intro w' hS'
          have h0 := hS'
          (try go_simp)
          first | done | exact rfl | exact ⟨rfl, rfl⟩
        (try simp only [Act.put, List.getElem_toArray, List.getElem_cons_succ, List.getElem_cons_zero, List.setIfInBounds_toArray, List.set_cons_zero, List.set_cons_succ])
        refine wpAnyN_done (by kernel_rfl) ?_ _
        go_wp2_with fail
        go_meet
        case rel => exact ⟨_, rfl, rfl, setRow_heap _ _ _ _ _ _ A7, L7, B8⟩
    · have BDa : Below w2.heap.size w2 (w2.drew.alloc (.cells #[.int .u32 0, .int .u8 0, .int .u8 0, .int .u8 0] 47)) := next_below BD BD.size (below_alloc _ _)
      have A7 : At (w2.drew.alloc (.cells #[.int .u32 0, .int .u8 0, .int .u8 0, .int .u8 0] 47)) w2.drew.heap.size #[.int .u32 0, .int .u8 0, .int .u8 0, .int .u8 0] 47 := At.new _ _ _
      have L7 : w2.heap.size ≤ w2.drew.heap.size := BD.size
      go_simp
      go_wp2_with fail
      refine hK _ _ (fun _ => HS.out _ BDa) ?_
      clear hK K
      (try simp only [Act.put, List.getElem_toArray, List.getElem_cons_succ, List.getElem_cons_zero, List.setIfInBounds_toArray, List.set_cons_zero, List.set_cons_succ])
      refine wpAnyN_one (i := 0) (by kernel_rfl) rfl (fun K hK => ?_)
      go_simp
      (go_at_call 40; refine (byNames_c _).mono ?_; rintro e w9 ⟨mb, rfl, hM, hb9⟩)
      have B9 : Below w2.heap.size w2 w9 := next_below BDa BDa.size hb9
      go_wp2_with fail
      refine hK _ _ (fun _ => HS.out _ B9) ?_
      clear hK K
      (try simp only [Act.put, List.getElem_toArray, List.getElem_cons_zero, List.setIfInBounds_toArray, List.set_cons_zero, List.set_cons_succ])
      have A7 := A7.below hb9 A7.lt
      refine wpAnyN_one (i := 3) (by kernel_rfl) rfl (fun K hK => ?_)
      have lk : (Instr.lookup 95 (.map (some mb)) (.string s) true).run Try.prog w9 = .ok (.tuple #[.agg #[.int .u32 p1, .int .u8 (p2 : Nat), .int .u8 p3, .int .u8 p4], .bool true]) w9 := by have h := (hM).look2 hs; rw [LK] at h; exact h
      go_simp
      go_wp2_with fail
      refine hK _ _ (fun _ => HS.out _ B9) ?_
      clear hK K lk
      (try simp only [Act.put, List.getElem_toArray, List.getElem_cons_succ, List.getElem_cons_zero, List.setIfInBounds_toArray, List.set_cons_zero, List.set_cons_succ])
      refine wpAnyN_take (i := 4) (v := ?_) rfl (by kernel_rfl) (by kernel_rfl) (by kernel_rfl) (by kernel_rfl) (fun _ _ _ h => h) (Or.inl ⟨by rfl, ?_⟩) (HS.out _ B9) ?_
      rotate_left
      · intro w' hS'
        have h0 := hS'
        (try go_simp)
        first | done | exact rfl | exact ⟨rfl, rfl⟩
      (try simp only [Act.put, List.getElem_toArray, List.getElem_cons_succ, List.getElem_cons_zero, List.setIfInBounds_toArray, List.set_cons_zero, List.set_cons_succ])
      refine wpAnyN_take (i := 5) (v := ?_) rfl (by kernel_rfl) (by kernel_rfl) (by kernel_rfl) (by kernel_rfl) (fun _ _ _ h => h) (Or.inl ⟨by rfl, ?_⟩) (HS.out _ B9) ?_
      rotate_left
      · intro w' hS'
        have h0 := hS'
        (try go_simp)
        first | done | exact rfl | exact ⟨rfl, rfl⟩
      (try simp only [Act.put, List.getElem_toArray, List.getElem_cons_succ, List.getElem_cons_zero, List.setIfInBounds_toArray, List.set_cons_zero, List.set_cons_succ])
      refine wpAnyN_take (i := 6) (v := ?_) rfl (by kernel_rfl) (by kernel_rfl) (by kernel_rfl) (by kernel_rfl) (fun _ _ _ h => h) (Or.inl ⟨by rfl, ?_⟩) (HS.out _ B9) ?_
      rotate_left
      · intro w' hS'
        have h0 := hS'
        (try go_simp)
        first | done | exact rfl | exact ⟨rfl, rfl⟩
      (try simp only [Act.put, List.getElem_toArray, List.getElem_cons_succ, List.getElem_cons_zero, List.setIfInBounds_toArray, List.set_cons_zero, List.set_cons_succ])
      refine wpAnyN_one (i := 8) (by kernel_rfl) rfl (fun K hK => ?_)
      rw [if_pos (by rfl)]
      refine wp_store_row 47 (.tmp 4) (.tmp 13) rfl _ #[.int .u32 p1, .int .u8 (p2 : Nat), .int .u8 p3, .int .u8 p4] rfl rfl 47 _ A7 (by kernel_rfl) (by rfl) (by kernel_rfl) ?_
      have B8 := B9.trans (setRow_below #[.int .u32 p1, .int .u8 (p2 : Nat), .int .u8 p3, .int .u8 p4] L7)
      refine hK _ _ (fun _ => HS.out _ B8) ?_
      clear hK K
      (try simp only [Act.put, List.getElem_toArray, List.getElem_cons_succ, List.getElem_cons_zero, List.setIfInBounds_toArray, List.set_cons_zero, List.set_cons_succ])
      refine wpAnyN_take (i := 9) (v := ?_) rfl (by kernel_rfl) (by kernel_rfl) (by kernel_rfl) (by kernel_rfl) (fun _ _ _ h => h) (Or.inl ⟨by rfl, ?_⟩) (HS.out _ B8) ?_
      rotate_left
      · intro w' hS'
        have h0 := hS'
        (try go_simp)
        first | done | exact rfl | exact ⟨rfl, rfl⟩
      (try simp only [Act.put, List.getElem_toArray, List.getElem_cons_succ, List.getElem_cons_zero, List.setIfInBounds_toArray, List.set_cons_zero, List.set_cons_succ])
      refine wpAnyN_done (by kernel_rfl) ?_ _
      go_wp2_with fail
      go_meet
      case rel => exact ⟨_, rfl, rfl, setRow_heap _ _ _ _ _ _ A7, L7, B8⟩
  case rest =>
    obtain ⟨nb, rfl, rfl, hA, hL, hB⟩ := hcut
    have BX : Hid (Below w.heap.size w wc) := B0.out.trans (hB.mono (Nat.le_of_lt SZ))
    have NA : Hid (At wc nb #[.int .u32 p1, .int .u8 (p2 : Nat), .int .u8 p3, .int .u8 p4] 47) := hA
    have IA : Hid (At wc w.heap.size #[.string s, .int .i64 rd, .int .i64 r1, .int .i64 r2, .int .i64 im] 28) := A0.out.below hB A0.out.lt
    clear hA hB hL
    have m1 := NA.out.cell 1
    simp at m1
    go_wp2_with (first
      | (have T0 := FT; go_at_call 41; refine (TK.out _).mono ?_; rintro e w12 ⟨rfl, hb⟩; have BY : Hid (Below w.heap.size w w12) := next_below (FT.out.1) (FT.out.1).size hb; have FA12 := FT.out.2.below hb FT.out.2.lt; have BZ : Hid (Below wc.heap.size wc w12) := next_below FT2.out FT2.out.size hb; have FA : Hid (At w12 w11.heap.size #[.bool Fa, .bool Fb, .bool Fc, .int .i64 Flo, .int .i64 Fhi, .int .i64 Fst, .int .i64 (Ffi : Nat), .int .i64 (Fla : Nat)] 54) := FA12; have IB := IA.out.below BZ.out IA.out.lt; have s1 := IB.cell 1; have s2 := IB.cell 2; have s3 := IB.cell 3; simp at s1 s2 s3; obtain ⟨⟨d1, d2⟩, ⟨d3, d4⟩, d5, d6⟩ := D1.out; clear hb FA12 t0 t1 t2 t3 t4 hlt IB)
      | (go_at_call 14; refine (FO.out _).mono ?_; rintro e w11 ⟨rfl, hb⟩; have t0 := (IA.out.below hb IA.out.lt).cell 0; have t1 := (IA.out.below hb IA.out.lt).cell 1; have t2 := (IA.out.below hb IA.out.lt).cell 2; have t3 := (IA.out.below hb IA.out.lt).cell 3; have t4 := (IA.out.below hb IA.out.lt).cell 4; simp at t0 t1 t2 t3 t4; have hlt := Nat.lt_of_lt_of_le IA.out.lt hb.size; have FT2 : Hid (Below wc.heap.size wc (w11.alloc (.cells #[.bool Fa, .bool Fb, .bool Fc, .int .i64 Flo, .int .i64 Fhi, .int .i64 Fst, .int .i64 (Ffi : Nat), .int .i64 (Fla : Nat)] 54))) := next_below hb hb.size (below_alloc _ _); have FT : Hid (Below w.heap.size w (w11.alloc (.cells #[.bool Fa, .bool Fb, .bool Fc, .int .i64 Flo, .int .i64 Fhi, .int .i64 Fst, .int .i64 (Ffi : Nat), .int .i64 (Fla : Nat)] 54)) ∧ At (w11.alloc (.cells #[.bool Fa, .bool Fb, .bool Fc, .int .i64 Flo, .int .i64 Fhi, .int .i64 Fst, .int .i64 (Ffi : Nat), .int .i64 (Fla : Nat)] 54)) w11.heap.size #[.bool Fa, .bool Fb, .bool Fc, .int .i64 Flo, .int .i64 Fhi, .int .i64 Fst, .int .i64 (Ffi : Nat), .int .i64 (Fla : Nat)] 54) := ⟨BX.out.trans (FT2.out.mono BX.out.size), At.new _ _ _⟩; clear hb m1))
    have N12 := NA.out.below BZ.out NA.out.lt
    have I12 := IA.out.below BZ.out IA.out.lt
    have g0 := fun x : After w12 => After.cell (N12.cell 0) x
    have g1 := fun x : After w12 => After.cell (N12.cell 1) x
    have g2 := fun x : After w12 => After.cell (N12.cell 2) x
    have g3 := fun x : After w12 => After.cell (N12.cell 3) x
    have f0 := fun x : After w12 => After.cell (FA.out.cell 0) x
    have f1 := fun x : After w12 => After.cell (FA.out.cell 1) x
    have f2 := fun x : After w12 => After.cell (FA.out.cell 2) x
    have f3 := fun x : After w12 => After.cell (FA.out.cell 3) x
    have f4 := fun x : After w12 => After.cell (FA.out.cell 4) x
    have f5 := fun x : After w12 => After.cell (FA.out.cell 5) x
    have f6 := fun x : After w12 => After.cell (FA.out.cell 6) x
    have f7 := fun x : After w12 => After.cell (FA.out.cell 7) x
    have i4 := fun x : After w12 => After.cell (I12.cell 4) x
    simp at g0 g1 g2 g3 f0 f1 f2 f3 f4 f5 f6 f7 i4
    haveI := After.has w12
    clear N12 I12 s1 s2 s3
    refine wp_region_after (by kernel_rfl) (by kernel_rfl) ?_
    repeat (quiet_step (first | (go_at_call 42; exact Calls.after (NB.out _)) | (go_at_call 43; exact Calls.after (FB.out _))))
    refine wpQuiet_nil ?_
    intro _ hw'
    obtain ⟨xq, hw''⟩ := hw'
    subst hw''
    have BQ : Hid (Below w.heap.size w xq.w) := next_below BY.out BY.out.size xq.below
    generalize xq.w = w13 at *
    clear g0 g1 g2 g3 f0 f1 f2 f3 f4 f5 f6 f7 i4
    go_wp2
    go_ret2
    exact ⟨by rw [← WH.out]; rfl, BQ.out⟩

/-- Whatever the name and the numbers. -/
theorem encode_c (s : ByteArray) (i : Ins) (hs : s.size ≤ maxLen) (w : World) :
    Calls Try.prog 36 #[.agg #[.string s, .int .i64 i.rd, .int .i64 i.r1, .int .i64 i.r2, .int .i64 i.im]] w fun e w' =>
      e = .returned (.tuple #[.int .u32 ((encF s.data.toList i).getD 0), .bool (encF s.data.toList i).isSome]) ∧ Below w.heap.size w w' := by
  cases hr : rowOf s.data.toList with
  | none =>
    have e : encF s.data.toList i = none := by unfold encF; rw [hr]
    rw [e]
    exact encode_none s _ _ _ _ hs hr w
  | some r =>
    have RK : Rok r := by obtain ⟨a, ha⟩ := rowOf_at hr; exact rok ha
    have LK : mkF insT s.data.toList = some (.agg #[.int .u32 (pop r), .int .u8 (pfm r), .int .u8 r.f3, .int .u8 r.f7]) := by rw [mkF_row, hr]; rfl
    have F7 : pfm r ≤ 7 := by have := fm_cases RK; unfold pfm; split <;> omega
    have FO : ∀ w, Calls Try.prog 14 #[.int .u8 (pfm r)] w fun e w' => e = .returned (fdat (pfm r)).v ∧ Below w.heap.size w w' := fun w => formOf_c _ F7 w
    have TK := fun w => takes_c (fdat (pfm r)) (.string s) i (fdat_st _) w
    cases hq : takB r i with
    | false =>
      have e : encF s.data.toList i = none := by unfold encF; rw [hr]; simp [hq]
      rw [e]
      have hq' : takI (fdat (pfm r)) i = false := hq
      rw [hq'] at TK
      exact encode_not s _ _ _ _ hs _ _ _ _ _ _ _ _ _ _ _ _ LK FO TK w
    | true =>
      have e : encF s.data.toList i = some (wo r i) := by unfold encF; rw [hr]; simp [hq]
      rw [e]
      have hq' : takI (fdat (pfm r)) i = true := hq
      rw [hq'] at TK
      have g := RK.1
      have ht := (takB_iff RK i).1 hq
      exact encode_yes s _ _ _ _ hs _ _ _ _ _ _ _ _ _ _ _ _ _ _ _ LK FO TK (fun w => nbits_c _ _ _ _ g.2.1.1 g.2.1.2 g.2.2.1.1 g.2.2.1.2 w) (fun w => fbits_c _ _ _ _ _ _ _ _ i.im (fdat_fl _).1 (fdat_fl _).2 w) (word_is RK i ht) ht.1 w

end Go.Proofs.Ytcdeckbobabdkaa
