/-
  Proved: what low's small functions that look through functions answer: upTo, immediate, which operations and comparisons there are.
-/
import Derived.Test.YtapgaclonilnbaaDoorGa
import Derived.Laws.EntriesVeiled
import Derived.OwnWalk
namespace Go.Proofs.YtapgaclonilnbaaDoor
open Go.RowKit
set_option linter.unusedVariables false
set_option linter.unusedSimpArgs false

theorem upTo_c (n m : Int) (w : World) : Calls Tryd.prog 20 #[.int .i64 n, .int .i64 m] w fun e w' => e = .returned (.bool (upB n m)) ∧ w' = w := by
  by_cases h1 : 0 ≤ n
  · by_cases h2 : n ≤ m
    · go_enter Tryd.func20, Tryd.ntmps20
      go_wp2
      go_ret
      exact ⟨by simp [upB, h1, h2], rfl⟩
    · go_enter Tryd.func20, Tryd.ntmps20
      go_wp2
      go_ret
      exact ⟨by simp [upB, h1, h2] <;> omega, rfl⟩
  · go_enter Tryd.func20, Tryd.ntmps20
    go_wp2
    go_ret
    exact ⟨by simp [upB, h1] <;> omega, rfl⟩

theorem fits_f (n : Int) (w : World) : Calls Tryd.prog 32 #[.int .i64 n, .bool false] w fun e w' => e = .returned (.bool (fitB n false)) ∧ w' = w := by
  by_cases h1 : -2048 ≤ n
  · by_cases h2 : n ≤ 2047
    · go_enter Tryd.func32, Tryd.ntmps32
      go_wp2
      go_ret
      exact ⟨by simp [fitB, h1, h2], rfl⟩
    · go_enter Tryd.func32, Tryd.ntmps32
      go_wp2
      go_ret
      exact ⟨by simp [fitB, h1, h2] <;> omega, rfl⟩
  · go_enter Tryd.func32, Tryd.ntmps32
    go_wp2
    go_ret
    exact ⟨by simp [fitB, h1] <;> omega, rfl⟩

theorem fits_t (n : Int) (w : World) : Calls Tryd.prog 32 #[.int .i64 n, .bool true] w fun e w' => e = .returned (.bool (fitB n true)) ∧ w' = w := by
  by_cases h1 : 0 ≤ n
  · by_cases h2 : n ≤ 31
    · go_enter Tryd.func32, Tryd.ntmps32
      go_wp2
      go_ret
      exact ⟨by simp [fitB, h1, h2], rfl⟩
    · go_enter Tryd.func32, Tryd.ntmps32
      go_wp2
      go_ret
      exact ⟨by simp [fitB, h1, h2] <;> omega, rfl⟩
  · go_enter Tryd.func32, Tryd.ntmps32
    go_wp2
    go_ret
    exact ⟨by simp [fitB, h1] <;> omega, rfl⟩

theorem bytes_of {s : ByteArray} {l : List UInt8} (h : s.toList = l) : s = ⟨l.toArray⟩ := by
  refine WideShapes.bytes_inj ?_
  rw [← ByteArray.toList_eq, h]

theorem imm_add (n : Int) (w : World) : Calls Tryd.prog 30 #[.string ⟨#[97,100,100]⟩, .int .i64 n] w fun e w' => e = .returned (.bool (fitB n false)) ∧ Below w.heap.size w w' := by
  go_enter Tryd.func30, Tryd.ntmps30
  go_wp2_with (go_at_call 32; refine (fits_f _ _).mono ?_; rintro e w1 ⟨rfl, hw⟩; rw [hw]; clear hw w1)
  go_ret
  exact ⟨rfl, Below.refl _ _⟩

theorem imm_and (n : Int) (w : World) : Calls Tryd.prog 30 #[.string ⟨#[97,110,100]⟩, .int .i64 n] w fun e w' => e = .returned (.bool (fitB n false)) ∧ Below w.heap.size w w' := by
  go_enter Tryd.func30, Tryd.ntmps30
  go_wp2_with (go_at_call 32; refine (fits_f _ _).mono ?_; rintro e w1 ⟨rfl, hw⟩; rw [hw]; clear hw w1)
  go_ret
  exact ⟨rfl, Below.refl _ _⟩

theorem imm_or (n : Int) (w : World) : Calls Tryd.prog 30 #[.string ⟨#[111,114]⟩, .int .i64 n] w fun e w' => e = .returned (.bool (fitB n false)) ∧ Below w.heap.size w w' := by
  go_enter Tryd.func30, Tryd.ntmps30
  go_wp2_with (go_at_call 32; refine (fits_f _ _).mono ?_; rintro e w1 ⟨rfl, hw⟩; rw [hw]; clear hw w1)
  go_ret
  exact ⟨rfl, Below.refl _ _⟩

theorem imm_xor (n : Int) (w : World) : Calls Tryd.prog 30 #[.string ⟨#[120,111,114]⟩, .int .i64 n] w fun e w' => e = .returned (.bool (fitB n false)) ∧ Below w.heap.size w w' := by
  go_enter Tryd.func30, Tryd.ntmps30
  go_wp2_with (go_at_call 32; refine (fits_f _ _).mono ?_; rintro e w1 ⟨rfl, hw⟩; rw [hw]; clear hw w1)
  go_ret
  exact ⟨rfl, Below.refl _ _⟩

theorem imm_slt (n : Int) (w : World) : Calls Tryd.prog 30 #[.string ⟨#[115,108,116]⟩, .int .i64 n] w fun e w' => e = .returned (.bool (fitB n false)) ∧ Below w.heap.size w w' := by
  go_enter Tryd.func30, Tryd.ntmps30
  go_wp2_with (go_at_call 32; refine (fits_f _ _).mono ?_; rintro e w1 ⟨rfl, hw⟩; rw [hw]; clear hw w1)
  go_ret
  exact ⟨rfl, Below.refl _ _⟩

theorem imm_sltu (n : Int) (w : World) : Calls Tryd.prog 30 #[.string ⟨#[115,108,116,117]⟩, .int .i64 n] w fun e w' => e = .returned (.bool (fitB n false)) ∧ Below w.heap.size w w' := by
  go_enter Tryd.func30, Tryd.ntmps30
  go_wp2_with (go_at_call 32; refine (fits_f _ _).mono ?_; rintro e w1 ⟨rfl, hw⟩; rw [hw]; clear hw w1)
  go_ret
  exact ⟨rfl, Below.refl _ _⟩

theorem imm_sll (n : Int) (w : World) : Calls Tryd.prog 30 #[.string ⟨#[115,108,108]⟩, .int .i64 n] w fun e w' => e = .returned (.bool (fitB n true)) ∧ Below w.heap.size w w' := by
  go_enter Tryd.func30, Tryd.ntmps30
  go_wp2_with (go_at_call 32; refine (fits_t _ _).mono ?_; rintro e w1 ⟨rfl, hw⟩; rw [hw]; clear hw w1)
  go_ret
  exact ⟨rfl, Below.refl _ _⟩

theorem imm_srl (n : Int) (w : World) : Calls Tryd.prog 30 #[.string ⟨#[115,114,108]⟩, .int .i64 n] w fun e w' => e = .returned (.bool (fitB n true)) ∧ Below w.heap.size w w' := by
  go_enter Tryd.func30, Tryd.ntmps30
  go_wp2_with (go_at_call 32; refine (fits_t _ _).mono ?_; rintro e w1 ⟨rfl, hw⟩; rw [hw]; clear hw w1)
  go_ret
  exact ⟨rfl, Below.refl _ _⟩

theorem imm_sra (n : Int) (w : World) : Calls Tryd.prog 30 #[.string ⟨#[115,114,97]⟩, .int .i64 n] w fun e w' => e = .returned (.bool (fitB n true)) ∧ Below w.heap.size w w' := by
  go_enter Tryd.func30, Tryd.ntmps30
  go_wp2_with (go_at_call 32; refine (fits_t _ _).mono ?_; rintro e w1 ⟨rfl, hw⟩; rw [hw]; clear hw w1)
  go_ret
  exact ⟨rfl, Below.refl _ _⟩

theorem imm_c (s : ByteArray) (n : Int) (w : World) : Calls Tryd.prog 30 #[.string s, .int .i64 n] w fun e w' => e = .returned (.bool (immB s n)) ∧ Below w.heap.size w w' := by
  by_cases n0 : s.toList = [97,100,100]
  · have hv : immB s n = fitB n false := by unfold immB; rw [if_pos (by rw [n0]; decide)]
    rw [hv, bytes_of n0]
    exact imm_add n w
  by_cases n1 : s.toList = [97,110,100]
  · have hv : immB s n = fitB n false := by unfold immB; rw [if_pos (by rw [n1]; decide)]
    rw [hv, bytes_of n1]
    exact imm_and n w
  by_cases n2 : s.toList = [111,114]
  · have hv : immB s n = fitB n false := by unfold immB; rw [if_pos (by rw [n2]; decide)]
    rw [hv, bytes_of n2]
    exact imm_or n w
  by_cases n3 : s.toList = [120,111,114]
  · have hv : immB s n = fitB n false := by unfold immB; rw [if_pos (by rw [n3]; decide)]
    rw [hv, bytes_of n3]
    exact imm_xor n w
  by_cases n4 : s.toList = [115,108,116]
  · have hv : immB s n = fitB n false := by unfold immB; rw [if_pos (by rw [n4]; decide)]
    rw [hv, bytes_of n4]
    exact imm_slt n w
  by_cases n5 : s.toList = [115,108,116,117]
  · have hv : immB s n = fitB n false := by unfold immB; rw [if_pos (by rw [n5]; decide)]
    rw [hv, bytes_of n5]
    exact imm_sltu n w
  by_cases n6 : s.toList = [115,108,108]
  · have hv : immB s n = fitB n true := by unfold immB; rw [if_neg (by rw [n6]; decide), if_pos (by rw [n6]; decide)]
    rw [hv, bytes_of n6]
    exact imm_sll n w
  by_cases n7 : s.toList = [115,114,108]
  · have hv : immB s n = fitB n true := by unfold immB; rw [if_neg (by rw [n7]; decide), if_pos (by rw [n7]; decide)]
    rw [hv, bytes_of n7]
    exact imm_srl n w
  by_cases n8 : s.toList = [115,114,97]
  · have hv : immB s n = fitB n true := by unfold immB; rw [if_neg (by rw [n8]; decide), if_pos (by rw [n8]; decide)]
    rw [hv, bytes_of n8]
    exact imm_sra n w
  have hn : immB s n = false := by unfold immB; rw [if_neg (by simp [imN, *]), if_neg (by simp [shN, *])]
  rw [hn]
  have m0 : (s.toList == [97,100,100]) = false := by simpa using n0
  have m1 : (s.toList == [97,110,100]) = false := by simpa using n1
  have m2 : (s.toList == [111,114]) = false := by simpa using n2
  have m3 : (s.toList == [120,111,114]) = false := by simpa using n3
  have m4 : (s.toList == [115,108,116]) = false := by simpa using n4
  have m5 : (s.toList == [115,108,116,117]) = false := by simpa using n5
  have m6 : (s.toList == [115,108,108]) = false := by simpa using n6
  have m7 : (s.toList == [115,114,108]) = false := by simpa using n7
  have m8 : (s.toList == [115,114,97]) = false := by simpa using n8
  go_enter Tryd.func30, Tryd.ntmps30
  go_wp2
  go_ret
  exact ⟨rfl, Below.refl _ _⟩

theorem nm_eq (w : World) : Calls Tryd.prog 35 #[.string ⟨#[101,113]⟩] w fun e w' => ∃ (f : FuncId) (q : Bool), e = .returned (.tuple #[.agg #[.func (.func f) #[] #[], .bool q], .bool true]) ∧ Below w.heap.size w w' := by
  go_enter Tryd.func35, Tryd.ntmps35
  go_wp2
  refine bodyPost_ret (v := .tuple #[.agg #[.func (.func 49) #[] #[], .bool true], .bool true]) ?_ rfl ?_
  · simp only [results, show Tryd.f35.results = #[.cell 2 95, .tmp 3] from rfl]
    go_simp
  · exact ⟨_, _, rfl, (Below.refl _ _).alloc (Nat.le_refl _) _⟩

theorem nm_ne (w : World) : Calls Tryd.prog 35 #[.string ⟨#[110,101]⟩] w fun e w' => ∃ (f : FuncId) (q : Bool), e = .returned (.tuple #[.agg #[.func (.func f) #[] #[], .bool q], .bool true]) ∧ Below w.heap.size w w' := by
  go_enter Tryd.func35, Tryd.ntmps35
  go_wp2
  refine bodyPost_ret (v := .tuple #[.agg #[.func (.func 49) #[] #[], .bool false], .bool true]) ?_ rfl ?_
  · simp only [results, show Tryd.f35.results = #[.cell 2 95, .tmp 3] from rfl]
    go_simp
  · exact ⟨_, _, rfl, (Below.refl _ _).alloc (Nat.le_refl _) _⟩

theorem nm_lt (w : World) : Calls Tryd.prog 35 #[.string ⟨#[108,116]⟩] w fun e w' => ∃ (f : FuncId) (q : Bool), e = .returned (.tuple #[.agg #[.func (.func f) #[] #[], .bool q], .bool true]) ∧ Below w.heap.size w w' := by
  go_enter Tryd.func35, Tryd.ntmps35
  go_wp2
  refine bodyPost_ret (v := .tuple #[.agg #[.func (.func 50) #[] #[], .bool true], .bool true]) ?_ rfl ?_
  · simp only [results, show Tryd.f35.results = #[.cell 2 95, .tmp 3] from rfl]
    go_simp
  · exact ⟨_, _, rfl, (Below.refl _ _).alloc (Nat.le_refl _) _⟩

theorem nm_ge (w : World) : Calls Tryd.prog 35 #[.string ⟨#[103,101]⟩] w fun e w' => ∃ (f : FuncId) (q : Bool), e = .returned (.tuple #[.agg #[.func (.func f) #[] #[], .bool q], .bool true]) ∧ Below w.heap.size w w' := by
  go_enter Tryd.func35, Tryd.ntmps35
  go_wp2
  refine bodyPost_ret (v := .tuple #[.agg #[.func (.func 50) #[] #[], .bool false], .bool true]) ?_ rfl ?_
  · simp only [results, show Tryd.f35.results = #[.cell 2 95, .tmp 3] from rfl]
    go_simp
  · exact ⟨_, _, rfl, (Below.refl _ _).alloc (Nat.le_refl _) _⟩

theorem nm_ltu (w : World) : Calls Tryd.prog 35 #[.string ⟨#[108,116,117]⟩] w fun e w' => ∃ (f : FuncId) (q : Bool), e = .returned (.tuple #[.agg #[.func (.func f) #[] #[], .bool q], .bool true]) ∧ Below w.heap.size w w' := by
  go_enter Tryd.func35, Tryd.ntmps35
  go_wp2
  refine bodyPost_ret (v := .tuple #[.agg #[.func (.func 51) #[] #[], .bool true], .bool true]) ?_ rfl ?_
  · simp only [results, show Tryd.f35.results = #[.cell 2 95, .tmp 3] from rfl]
    go_simp
  · exact ⟨_, _, rfl, (Below.refl _ _).alloc (Nat.le_refl _) _⟩

theorem nm_geu (w : World) : Calls Tryd.prog 35 #[.string ⟨#[103,101,117]⟩] w fun e w' => ∃ (f : FuncId) (q : Bool), e = .returned (.tuple #[.agg #[.func (.func f) #[] #[], .bool q], .bool true]) ∧ Below w.heap.size w w' := by
  go_enter Tryd.func35, Tryd.ntmps35
  go_wp2
  refine bodyPost_ret (v := .tuple #[.agg #[.func (.func 51) #[] #[], .bool false], .bool true]) ?_ rfl ?_
  · simp only [results, show Tryd.f35.results = #[.cell 2 95, .tmp 3] from rfl]
    go_simp
  · exact ⟨_, _, rfl, (Below.refl _ _).alloc (Nat.le_refl _) _⟩

theorem named_t (s : ByteArray) (h : cmpB s = true) (w : World) : Calls Tryd.prog 35 #[.string s] w fun e w' => ∃ (f : FuncId) (q : Bool), e = .returned (.tuple #[.agg #[.func (.func f) #[] #[], .bool q], .bool true]) ∧ Below w.heap.size w w' := by
  by_cases n0 : s.toList = [101,113]
  · rw [bytes_of n0]
    exact nm_eq w
  by_cases n1 : s.toList = [110,101]
  · rw [bytes_of n1]
    exact nm_ne w
  by_cases n2 : s.toList = [108,116]
  · rw [bytes_of n2]
    exact nm_lt w
  by_cases n3 : s.toList = [103,101]
  · rw [bytes_of n3]
    exact nm_ge w
  by_cases n4 : s.toList = [108,116,117]
  · rw [bytes_of n4]
    exact nm_ltu w
  by_cases n5 : s.toList = [103,101,117]
  · rw [bytes_of n5]
    exact nm_geu w
  exfalso
  unfold cmpB at h
  simp [cmN, *] at h

theorem named_f (s : ByteArray) (h : cmpB s = false) (w : World) : Calls Tryd.prog 35 #[.string s] w fun e w' => e = .returned (.tuple #[.agg #[.nilFunc, .bool false], .bool false]) ∧ Below w.heap.size w w' := by
  have hh : ∀ n ∈ cmN, ¬ s.toList = n := fun n hn e => by
    unfold cmpB at h
    rw [e, decide_eq_true hn] at h
    cases h
  have n0 : ¬ s.toList = [101,113] := hh _ (by decide)
  have n1 : ¬ s.toList = [110,101] := hh _ (by decide)
  have n2 : ¬ s.toList = [108,116] := hh _ (by decide)
  have n3 : ¬ s.toList = [103,101] := hh _ (by decide)
  have n4 : ¬ s.toList = [108,116,117] := hh _ (by decide)
  have n5 : ¬ s.toList = [103,101,117] := hh _ (by decide)
  clear hh h
  have m0 : (s.toList == [101,113]) = false := by simpa using n0
  have m1 : (s.toList == [110,101]) = false := by simpa using n1
  have m2 : (s.toList == [108,116]) = false := by simpa using n2
  have m3 : (s.toList == [103,101]) = false := by simpa using n3
  have m4 : (s.toList == [108,116,117]) = false := by simpa using n4
  have m5 : (s.toList == [103,101,117]) = false := by simpa using n5
  go_enter Tryd.func35, Tryd.ntmps35
  go_wp2
  refine bodyPost_ret (v := .tuple #[.agg #[.nilFunc, .bool false], .bool false]) ?_ rfl ?_
  · simp only [results, show Tryd.f35.results = #[.cell 2 95, .tmp 3] from rfl]
    go_simp
  · exact ⟨rfl, (Below.refl _ _).alloc (Nat.le_refl _) _⟩

theorem dv0_div (w : World) : Calls Tryd.prog 57 #[.string ⟨#[100,105,118]⟩, .int .i32 0, .int .i32 0] w fun e w' => ∃ v, e = .returned (.int .i32 v) ∧ Below w.heap.size w w' := by
  go_enter Tryd.func57, Tryd.ntmps57
  go_wp2
  go_ret
  exact ⟨_, rfl, Below.refl _ _⟩

theorem dv0_divu (w : World) : Calls Tryd.prog 57 #[.string ⟨#[100,105,118,117]⟩, .int .i32 0, .int .i32 0] w fun e w' => ∃ v, e = .returned (.int .i32 v) ∧ Below w.heap.size w w' := by
  go_enter Tryd.func57, Tryd.ntmps57
  go_wp2
  go_ret
  exact ⟨_, rfl, Below.refl _ _⟩

theorem dv0_rem (w : World) : Calls Tryd.prog 57 #[.string ⟨#[114,101,109]⟩, .int .i32 0, .int .i32 0] w fun e w' => ∃ v, e = .returned (.int .i32 v) ∧ Below w.heap.size w w' := by
  go_enter Tryd.func57, Tryd.ntmps57
  go_wp2
  go_ret
  exact ⟨_, rfl, Below.refl _ _⟩

theorem dv0_remu (w : World) : Calls Tryd.prog 57 #[.string ⟨#[114,101,109,117]⟩, .int .i32 0, .int .i32 0] w fun e w' => ∃ v, e = .returned (.int .i32 v) ∧ Below w.heap.size w w' := by
  go_enter Tryd.func57, Tryd.ntmps57
  go_wp2
  go_ret
  exact ⟨_, rfl, Below.refl _ _⟩

theorem bt0 (w : World) : Calls Tryd.prog 58 #[.int .i32 0] w fun e w' => e = .returned (.int .i32 0) ∧ w' = w := by
  go_enter Tryd.func58, Tryd.ntmps58
  go_wp2
  go_ret
  exact ⟨rfl, rfl⟩

theorem tr0 (w : World) : Calls Tryd.prog 59 #[.bool false] w fun e w' => e = .returned (.int .i32 0) ∧ w' = w := by
  go_enter Tryd.func59, Tryd.ntmps59
  go_wp2
  go_ret
  exact ⟨rfl, rfl⟩

set_option maxRecDepth 20000 in
theorem do0_add (w : World) : Calls Tryd.prog 48 #[.string ⟨#[97,100,100]⟩, .int .i32 0, .int .i32 0] w fun e w' => ∃ v, e = .returned (.tuple #[.int .i32 v, .bool true]) ∧ Below w.heap.size w w' := by
  go_enter Tryd.func48, Tryd.ntmps48
  go_wp2
  go_ret2
  exact ⟨_, rfl, by first | exact Below.refl _ _ | assumption⟩

set_option maxRecDepth 20000 in
theorem do0_sub (w : World) : Calls Tryd.prog 48 #[.string ⟨#[115,117,98]⟩, .int .i32 0, .int .i32 0] w fun e w' => ∃ v, e = .returned (.tuple #[.int .i32 v, .bool true]) ∧ Below w.heap.size w w' := by
  go_enter Tryd.func48, Tryd.ntmps48
  go_wp2
  go_ret2
  exact ⟨_, rfl, by first | exact Below.refl _ _ | assumption⟩

set_option maxRecDepth 20000 in
theorem do0_mul (w : World) : Calls Tryd.prog 48 #[.string ⟨#[109,117,108]⟩, .int .i32 0, .int .i32 0] w fun e w' => ∃ v, e = .returned (.tuple #[.int .i32 v, .bool true]) ∧ Below w.heap.size w w' := by
  go_enter Tryd.func48, Tryd.ntmps48
  go_wp2
  go_ret2
  exact ⟨_, rfl, by first | exact Below.refl _ _ | assumption⟩

set_option maxRecDepth 20000 in
theorem do0_mulh (w : World) : Calls Tryd.prog 48 #[.string ⟨#[109,117,108,104]⟩, .int .i32 0, .int .i32 0] w fun e w' => ∃ v, e = .returned (.tuple #[.int .i32 v, .bool true]) ∧ Below w.heap.size w w' := by
  go_enter Tryd.func48, Tryd.ntmps48
  go_wp2
  go_ret2
  exact ⟨_, rfl, by first | exact Below.refl _ _ | assumption⟩

set_option maxRecDepth 20000 in
theorem do0_mulhu (w : World) : Calls Tryd.prog 48 #[.string ⟨#[109,117,108,104,117]⟩, .int .i32 0, .int .i32 0] w fun e w' => ∃ v, e = .returned (.tuple #[.int .i32 v, .bool true]) ∧ Below w.heap.size w w' := by
  go_enter Tryd.func48, Tryd.ntmps48
  go_wp2
  go_ret2
  exact ⟨_, rfl, by first | exact Below.refl _ _ | assumption⟩

set_option maxRecDepth 20000 in
theorem do0_div (w : World) : Calls Tryd.prog 48 #[.string ⟨#[100,105,118]⟩, .int .i32 0, .int .i32 0] w fun e w' => ∃ v, e = .returned (.tuple #[.int .i32 v, .bool true]) ∧ Below w.heap.size w w' := by
  go_enter Tryd.func48, Tryd.ntmps48
  go_wp2_with (go_at_call 57; refine (dv0_div _).mono ?_; rintro e w1 ⟨v1, rfl, hw⟩)
  go_ret2
  exact ⟨_, rfl, by first | exact Below.refl _ _ | assumption⟩

set_option maxRecDepth 20000 in
theorem do0_divu (w : World) : Calls Tryd.prog 48 #[.string ⟨#[100,105,118,117]⟩, .int .i32 0, .int .i32 0] w fun e w' => ∃ v, e = .returned (.tuple #[.int .i32 v, .bool true]) ∧ Below w.heap.size w w' := by
  go_enter Tryd.func48, Tryd.ntmps48
  go_wp2_with (go_at_call 57; refine (dv0_divu _).mono ?_; rintro e w1 ⟨v1, rfl, hw⟩)
  go_ret2
  exact ⟨_, rfl, by first | exact Below.refl _ _ | assumption⟩

set_option maxRecDepth 20000 in
theorem do0_rem (w : World) : Calls Tryd.prog 48 #[.string ⟨#[114,101,109]⟩, .int .i32 0, .int .i32 0] w fun e w' => ∃ v, e = .returned (.tuple #[.int .i32 v, .bool true]) ∧ Below w.heap.size w w' := by
  go_enter Tryd.func48, Tryd.ntmps48
  go_wp2_with (go_at_call 57; refine (dv0_rem _).mono ?_; rintro e w1 ⟨v1, rfl, hw⟩)
  go_ret2
  exact ⟨_, rfl, by first | exact Below.refl _ _ | assumption⟩

set_option maxRecDepth 20000 in
theorem do0_remu (w : World) : Calls Tryd.prog 48 #[.string ⟨#[114,101,109,117]⟩, .int .i32 0, .int .i32 0] w fun e w' => ∃ v, e = .returned (.tuple #[.int .i32 v, .bool true]) ∧ Below w.heap.size w w' := by
  go_enter Tryd.func48, Tryd.ntmps48
  go_wp2_with (go_at_call 57; refine (dv0_remu _).mono ?_; rintro e w1 ⟨v1, rfl, hw⟩)
  go_ret2
  exact ⟨_, rfl, by first | exact Below.refl _ _ | assumption⟩

set_option maxRecDepth 20000 in
theorem do0_and (w : World) : Calls Tryd.prog 48 #[.string ⟨#[97,110,100]⟩, .int .i32 0, .int .i32 0] w fun e w' => ∃ v, e = .returned (.tuple #[.int .i32 v, .bool true]) ∧ Below w.heap.size w w' := by
  go_enter Tryd.func48, Tryd.ntmps48
  go_wp2
  go_ret2
  exact ⟨_, rfl, by first | exact Below.refl _ _ | assumption⟩

set_option maxRecDepth 20000 in
theorem do0_or (w : World) : Calls Tryd.prog 48 #[.string ⟨#[111,114]⟩, .int .i32 0, .int .i32 0] w fun e w' => ∃ v, e = .returned (.tuple #[.int .i32 v, .bool true]) ∧ Below w.heap.size w w' := by
  go_enter Tryd.func48, Tryd.ntmps48
  go_wp2
  go_ret2
  exact ⟨_, rfl, by first | exact Below.refl _ _ | assumption⟩

set_option maxRecDepth 20000 in
theorem do0_xor (w : World) : Calls Tryd.prog 48 #[.string ⟨#[120,111,114]⟩, .int .i32 0, .int .i32 0] w fun e w' => ∃ v, e = .returned (.tuple #[.int .i32 v, .bool true]) ∧ Below w.heap.size w w' := by
  go_enter Tryd.func48, Tryd.ntmps48
  go_wp2
  go_ret2
  exact ⟨_, rfl, by first | exact Below.refl _ _ | assumption⟩

set_option maxRecDepth 20000 in
theorem do0_sll (w : World) : Calls Tryd.prog 48 #[.string ⟨#[115,108,108]⟩, .int .i32 0, .int .i32 0] w fun e w' => ∃ v, e = .returned (.tuple #[.int .i32 v, .bool true]) ∧ Below w.heap.size w w' := by
  go_enter Tryd.func48, Tryd.ntmps48
  go_wp2_with (go_at_call 58; refine (bt0 _).mono ?_; rintro e w1 ⟨rfl, hw⟩; rw [hw]; clear hw w1)
  go_ret2
  exact ⟨_, rfl, by first | exact Below.refl _ _ | assumption⟩

set_option maxRecDepth 20000 in
theorem do0_srl (w : World) : Calls Tryd.prog 48 #[.string ⟨#[115,114,108]⟩, .int .i32 0, .int .i32 0] w fun e w' => ∃ v, e = .returned (.tuple #[.int .i32 v, .bool true]) ∧ Below w.heap.size w w' := by
  go_enter Tryd.func48, Tryd.ntmps48
  go_wp2_with (go_at_call 58; refine (bt0 _).mono ?_; rintro e w1 ⟨rfl, hw⟩; rw [hw]; clear hw w1)
  go_ret2
  exact ⟨_, rfl, by first | exact Below.refl _ _ | assumption⟩

set_option maxRecDepth 20000 in
theorem do0_sra (w : World) : Calls Tryd.prog 48 #[.string ⟨#[115,114,97]⟩, .int .i32 0, .int .i32 0] w fun e w' => ∃ v, e = .returned (.tuple #[.int .i32 v, .bool true]) ∧ Below w.heap.size w w' := by
  go_enter Tryd.func48, Tryd.ntmps48
  go_wp2_with (go_at_call 58; refine (bt0 _).mono ?_; rintro e w1 ⟨rfl, hw⟩; rw [hw]; clear hw w1)
  go_ret2
  exact ⟨_, rfl, by first | exact Below.refl _ _ | assumption⟩

set_option maxRecDepth 20000 in
theorem do0_slt (w : World) : Calls Tryd.prog 48 #[.string ⟨#[115,108,116]⟩, .int .i32 0, .int .i32 0] w fun e w' => ∃ v, e = .returned (.tuple #[.int .i32 v, .bool true]) ∧ Below w.heap.size w w' := by
  go_enter Tryd.func48, Tryd.ntmps48
  go_wp2_with (go_at_call 59; refine (tr0 _).mono ?_; rintro e w1 ⟨rfl, hw⟩; rw [hw]; clear hw w1)
  go_ret2
  exact ⟨_, rfl, by first | exact Below.refl _ _ | assumption⟩

set_option maxRecDepth 20000 in
theorem do0_sltu (w : World) : Calls Tryd.prog 48 #[.string ⟨#[115,108,116,117]⟩, .int .i32 0, .int .i32 0] w fun e w' => ∃ v, e = .returned (.tuple #[.int .i32 v, .bool true]) ∧ Below w.heap.size w w' := by
  go_enter Tryd.func48, Tryd.ntmps48
  go_wp2_with (go_at_call 59; refine (tr0 _).mono ?_; rintro e w1 ⟨rfl, hw⟩; rw [hw]; clear hw w1)
  go_ret2
  exact ⟨_, rfl, by first | exact Below.refl _ _ | assumption⟩

set_option maxRecDepth 20000 in
theorem do0_c (s : ByteArray) (w : World) : Calls Tryd.prog 48 #[.string s, .int .i32 0, .int .i32 0] w fun e w' => ∃ v, e = .returned (.tuple #[.int .i32 v, .bool (doB s)]) ∧ Below w.heap.size w w' := by
  by_cases n0 : s.toList = [97,100,100]
  · rw [show doB s = true by unfold doB; rw [n0]; decide, bytes_of n0]
    exact do0_add w
  by_cases n1 : s.toList = [115,117,98]
  · rw [show doB s = true by unfold doB; rw [n1]; decide, bytes_of n1]
    exact do0_sub w
  by_cases n2 : s.toList = [109,117,108]
  · rw [show doB s = true by unfold doB; rw [n2]; decide, bytes_of n2]
    exact do0_mul w
  by_cases n3 : s.toList = [109,117,108,104]
  · rw [show doB s = true by unfold doB; rw [n3]; decide, bytes_of n3]
    exact do0_mulh w
  by_cases n4 : s.toList = [109,117,108,104,117]
  · rw [show doB s = true by unfold doB; rw [n4]; decide, bytes_of n4]
    exact do0_mulhu w
  by_cases n5 : s.toList = [100,105,118]
  · rw [show doB s = true by unfold doB; rw [n5]; decide, bytes_of n5]
    exact do0_div w
  by_cases n6 : s.toList = [100,105,118,117]
  · rw [show doB s = true by unfold doB; rw [n6]; decide, bytes_of n6]
    exact do0_divu w
  by_cases n7 : s.toList = [114,101,109]
  · rw [show doB s = true by unfold doB; rw [n7]; decide, bytes_of n7]
    exact do0_rem w
  by_cases n8 : s.toList = [114,101,109,117]
  · rw [show doB s = true by unfold doB; rw [n8]; decide, bytes_of n8]
    exact do0_remu w
  by_cases n9 : s.toList = [97,110,100]
  · rw [show doB s = true by unfold doB; rw [n9]; decide, bytes_of n9]
    exact do0_and w
  by_cases n10 : s.toList = [111,114]
  · rw [show doB s = true by unfold doB; rw [n10]; decide, bytes_of n10]
    exact do0_or w
  by_cases n11 : s.toList = [120,111,114]
  · rw [show doB s = true by unfold doB; rw [n11]; decide, bytes_of n11]
    exact do0_xor w
  by_cases n12 : s.toList = [115,108,108]
  · rw [show doB s = true by unfold doB; rw [n12]; decide, bytes_of n12]
    exact do0_sll w
  by_cases n13 : s.toList = [115,114,108]
  · rw [show doB s = true by unfold doB; rw [n13]; decide, bytes_of n13]
    exact do0_srl w
  by_cases n14 : s.toList = [115,114,97]
  · rw [show doB s = true by unfold doB; rw [n14]; decide, bytes_of n14]
    exact do0_sra w
  by_cases n15 : s.toList = [115,108,116]
  · rw [show doB s = true by unfold doB; rw [n15]; decide, bytes_of n15]
    exact do0_slt w
  by_cases n16 : s.toList = [115,108,116,117]
  · rw [show doB s = true by unfold doB; rw [n16]; decide, bytes_of n16]
    exact do0_sltu w
  rw [show doB s = false by unfold doB; simp [doN, *]]
  have m0 : (s.toList == [97,100,100]) = false := by simpa using n0
  have m1 : (s.toList == [115,117,98]) = false := by simpa using n1
  have m2 : (s.toList == [109,117,108]) = false := by simpa using n2
  have m3 : (s.toList == [109,117,108,104]) = false := by simpa using n3
  have m4 : (s.toList == [109,117,108,104,117]) = false := by simpa using n4
  have m5 : (s.toList == [100,105,118]) = false := by simpa using n5
  have m6 : (s.toList == [100,105,118,117]) = false := by simpa using n6
  have m7 : (s.toList == [114,101,109]) = false := by simpa using n7
  have m8 : (s.toList == [114,101,109,117]) = false := by simpa using n8
  have m9 : (s.toList == [97,110,100]) = false := by simpa using n9
  have m10 : (s.toList == [111,114]) = false := by simpa using n10
  have m11 : (s.toList == [120,111,114]) = false := by simpa using n11
  have m12 : (s.toList == [115,108,108]) = false := by simpa using n12
  have m13 : (s.toList == [115,114,108]) = false := by simpa using n13
  have m14 : (s.toList == [115,114,97]) = false := by simpa using n14
  have m15 : (s.toList == [115,108,116]) = false := by simpa using n15
  have m16 : (s.toList == [115,108,116,117]) = false := by simpa using n16
  go_enter Tryd.func48, Tryd.ntmps48
  go_wp2
  go_ret2
  exact ⟨_, rfl, Below.refl _ _⟩

theorem Do0_c (s : ByteArray) (w : World) : Calls Tryd.prog 29 #[.string s, .int .i64 0, .int .i64 0] w fun e w' => ∃ v, e = .returned (.tuple #[.int .i64 v, .bool (doB s)]) ∧ Below w.heap.size w w' := by
  have D0 : Hid (∀ w : World, _) := fun w => do0_c s w
  generalize doB s = q at *
  go_enter Tryd.func29, Tryd.ntmps29
  go_wp2_with (go_at_call 48; refine (D0.out _).mono ?_; rintro e w1 ⟨v1, rfl, hw⟩)
  go_ret2
  exact ⟨_, rfl, by assumption⟩

end Go.Proofs.YtapgaclonilnbaaDoor

/-
  Proved: what the checker's sets, reads, begins and block answer.
-/
namespace Go.Proofs.YtapgaclonilnbaaDoor
open Go.RowKit
set_option linter.unusedVariables false
set_option linter.unusedSimpArgs false

/-- A checker, given the list, the map and the function that it looks through. -/
def ckV (lv mv fv : Value) : Value := .agg #[lv, mv, fv]
abbrev pt (b o : Nat) : Value := .pointer (some ⟨b, o, none⟩)

theorem setsB_step (rg : Int) (l : List Int) (k : Nat) (h : k < l.length) : setsB rg (l.take (k + 1)) = (setsB rg (l.take k) && rgB rg l[k]) := by
  unfold setsB
  rw [List.take_succ_eq_append_getElem h, List.all_append]
  simp
theorem setsB_all {rg : Int} {l : List Int} {k : Nat} (h : k < l.length) (hf : rgB rg l[k] = false) : setsB rg l = false := by
  unfold setsB
  rw [List.all_eq_false]
  exact ⟨l[k], List.getElem_mem h, by simpa using hf⟩

theorem kp_cell {w w' : World} {b o : Nat} {v : Value} (h : w.cell? ⟨b, o, none⟩ = some v) (k : Below w.heap.size w w') : w'.cell? ⟨b, o, none⟩ = some v := (k.cell (p := ⟨b, o, none⟩) (World.block_lt_of_cell? _ _ h)).trans h

set_option maxHeartbeats 1000000 in
theorem sets_c (lv mv : Value) (fb fo : Nat) (rg : Int) (l : List Int) (v : Value) (w : World) (hr : w.cell? ⟨fb, fo + 1, none⟩ = some (.int .i64 rg)) (hl : NosIn w l v) :
    Calls Tryd.prog 21 #[.agg #[lv, mv, .pointer (some ⟨fb, fo, none⟩)], v] w fun e w' => e = .returned (.bool (setsB rg l)) ∧ Below w.heap.size w w' := by
  obtain ⟨hl0, A, C, rfl, hn⟩ := hl.cells
  have HN : Hid (∀ i (h : i < l.length), ∃ b o, A = some ⟨b, o, none⟩ ∧ b < w.heap.size ∧ w.cell? ⟨b, o + i, none⟩ = some (.int .i64 l[i])) := hn
  have HR : Hid (w.cell? ⟨fb, fo + 1, none⟩ = some (.int .i64 rg)) := hr
  clear hn hl hr
  go_enter Tryd.func21, Tryd.ntmps21
  go_wp2
  go_loopw [9] (fun i wr => ∃ k : Nat, k ≤ l.length ∧ i = .int .i64 (k : Int) ∧ setsB rg (l.take k) = true ∧ Below w.heap.size w wr ∧ wr.cell? ⟨w.heap.size, 2, none⟩ = some (.pointer (some ⟨fb, fo, none⟩))) (fun i _ => l.length - (intOf i).toNat)
  case atStart => exact ⟨0, by omega, rfl, rfl, below_alloc _ _, (At.new w _ _).cell 2⟩
  case round =>
    obtain ⟨k, hk, rfl, hs, hB, hc⟩ := hrel
    have BB : Hid (Below w.heap.size w wr) := hB
    have HS : Hid (setsB rg (l.take k) = true) := hs
    have c1 : wr.cell? ⟨fb, fo + 1, none⟩ = some (.int .i64 rg) := kp_cell HR.out hB
    clear hB hs
    rcases Nat.lt_or_ge k l.length with hk' | hk'
    · have hkz : (k : Int) < l.length := by omega
      obtain ⟨b, o, rfl, hb, h0⟩ := HN.out k hk'
      have c0 : wr.cell? ⟨b, o + k, none⟩ = some (.int .i64 l[k]) := kp_cell h0 BB.out
      have ST : Hid (setsB rg (l.take (k + 1)) = (setsB rg (l.take k) && rgB rg l[k])) := setsB_step rg l k hk'
      have SA : Hid (rgB rg l[k] = false → setsB rg l = false) := setsB_all hk'
      clear h0
      generalize l[k] = x at *
      by_cases q1 : x < 0
      · have EE : Hid (setsB rg l = false) := (SA.out (by simp [rgB]; omega))
        go_wp2
        go_ret
        exact ⟨by rw [EE.out]; rfl, BB.out⟩
      · by_cases q2 : x < rg
        · have q3 : ¬ rg ≤ x := by omega
          go_wp2
          go_roundw
          case rel => exact ⟨k + 1, by omega, by go_num, by rw [ST.out, HS.out]; simp [rgB]; omega, BB.out, hc⟩
          case measure => simp [intOf]; omega
        · have q3 : rg ≤ x := by omega
          have EE : Hid (setsB rg l = false) := (SA.out (by simp [rgB]; omega))
          go_wp2
          go_ret
          exact ⟨by rw [EE.out]; rfl, BB.out⟩
    · have hkz : ¬ (k : Int) < l.length := by omega
      obtain rfl : k = l.length := by omega
      have EE : Hid (setsB rg l = true) := (by have := HS.out; rwa [List.take_length] at this : setsB rg l = true)
      go_wp2
      go_ret
      exact ⟨by rw [EE.out]; rfl, BB.out⟩

/-- One number in a row of its own. -/
theorem nos_one {w : World} (x : Int) : NosIn (w.alloc (.cells #[.int .i64 x] 3)) [x] (.slice (some ⟨w.heap.size, 0, none⟩) 1 1) := by
  refine ⟨by simp, _, 1, rfl, fun i hi => ?_⟩
  have hi : i = 0 := by simpa using hi
  subst hi
  exact ⟨w.heap.size, 0, [.int .i64 x], rfl, ⟨by simp, fun j v hj => by have := (At.new w #[.int .i64 x] 3).cell j; rw [show 0 + 0 * 1 + j = j by omega, this]; simpa using hj⟩, rfl⟩

theorem readsB_step (rg : Int) (l : List Int) (k : Nat) (h : k < l.length) : readsB rg (l.take (k + 1)) = (readsB rg (l.take k) && rdB rg l[k]) := by
  unfold readsB
  rw [List.take_succ_eq_append_getElem h, List.all_append]
  simp
theorem readsB_all {rg : Int} {l : List Int} {k : Nat} (h : k < l.length) (hf : rdB rg l[k] = false) : readsB rg l = false := by
  unfold readsB
  rw [List.all_eq_false]
  exact ⟨l[k], List.getElem_mem h, by simpa using hf⟩
theorem setsB_one (rg x : Int) : setsB rg [x] = rgB rg x := by simp [setsB]
theorem readsB_one (rg x : Int) : readsB rg [x] = rdB rg x := by simp [readsB]
theorem readsB_two (rg x y : Int) : readsB rg [x, y] = (rdB rg x && rdB rg y) := by simp [readsB]

set_option maxHeartbeats 1000000 in
theorem reads_c (lv mv : Value) (fb fo : Nat) (rg : Int) (l : List Int) (v : Value) (w : World) (hr : w.cell? ⟨fb, fo + 1, none⟩ = some (.int .i64 rg)) (hl : NosIn w l v) :
    Calls Tryd.prog 28 #[.agg #[lv, mv, .pointer (some ⟨fb, fo, none⟩)], v] w fun e w' => e = .returned (.bool (readsB rg l)) ∧ Below w.heap.size w w' := by
  obtain ⟨hl0, A, C, rfl, hn⟩ := hl.cells
  have HN : Hid (∀ i (h : i < l.length), ∃ b o, A = some ⟨b, o, none⟩ ∧ b < w.heap.size ∧ w.cell? ⟨b, o + i, none⟩ = some (.int .i64 l[i])) := hn
  have HR : Hid (w.cell? ⟨fb, fo + 1, none⟩ = some (.int .i64 rg)) := hr
  clear hn hl hr
  go_enter Tryd.func28, Tryd.ntmps28
  go_wp2
  go_loopw [9] (fun i wr => ∃ k : Nat, k ≤ l.length ∧ i = .int .i64 (k : Int) ∧ readsB rg (l.take k) = true ∧ Below w.heap.size w wr ∧ wr.cell? ⟨w.heap.size, 0, none⟩ = some lv ∧ wr.cell? ⟨w.heap.size, 1, none⟩ = some mv ∧ wr.cell? ⟨w.heap.size, 2, none⟩ = some (.pointer (some ⟨fb, fo, none⟩))) (fun i _ => l.length - (intOf i).toNat)
  case atStart => exact ⟨0, by omega, rfl, rfl, below_alloc _ _, (At.new w _ _).cell 0, (At.new w _ _).cell 1, (At.new w _ _).cell 2⟩
  case round =>
    obtain ⟨k, hk, rfl, hs, hB, hc0, hc1, hc⟩ := hrel
    have BB : Hid (Below w.heap.size w wr) := hB
    have HS : Hid (readsB rg (l.take k) = true) := hs
    have CR : Hid (wr.cell? ⟨fb, fo + 1, none⟩ = some (.int .i64 rg)) := kp_cell HR.out hB
    clear hB hs
    rcases Nat.lt_or_ge k l.length with hk' | hk'
    · have hkz : (k : Int) < l.length := by omega
      obtain ⟨b, o, rfl, hb, h0⟩ := HN.out k hk'
      have c0 : wr.cell? ⟨b, o + k, none⟩ = some (.int .i64 l[k]) := kp_cell h0 BB.out
      have ST : Hid (readsB rg (l.take (k + 1)) = (readsB rg (l.take k) && rdB rg l[k])) := readsB_step rg l k hk'
      have SA : Hid (rdB rg l[k] = false → readsB rg l = false) := readsB_all hk'
      clear h0
      generalize l[k] = x at *
      by_cases q1 : x = -1
      · subst q1
        go_wp2
        go_roundw
        case rel => exact ⟨k + 1, by omega, by go_num, by rw [ST.out, HS.out]; simp [rdB], BB.out, hc0, hc1, hc⟩
        case measure => simp [intOf]; omega
      · have q2 : (x != -1) = true := by simpa using q1
        have CC : Hid (Calls Tryd.prog 21 #[.agg #[lv, mv, .pointer (some ⟨fb, fo, none⟩)], .slice (some ⟨wr.heap.size, 0, none⟩) 1 1] (wr.alloc (.cells #[.int .i64 x] 3)) fun e w' => e = .returned (.bool (setsB rg [x])) ∧ Below (wr.alloc (.cells #[.int .i64 x] 3)).heap.size (wr.alloc (.cells #[.int .i64 x] 3)) w') :=
          sets_c lv mv fb fo rg [x] _ _ (kp_cell CR.out (below_alloc _ _)) (nos_one x)
        rw [setsB_one] at CC
        cases hq : rgB rg x with
        | true =>
          rw [hq] at CC
          go_wp2_with (go_at_call 21; refine CC.out.mono ?_; rintro e w1 ⟨rfl, hw⟩; have B1 : Hid (Below wr.heap.size wr w1) := below_next (below_alloc _ _) hw; clear hw)
          go_roundw
          case rel => exact ⟨k + 1, by omega, by go_num, by rw [ST.out, HS.out]; simp [rdB, hq], below_next BB.out B1.out, kp_cell hc0 B1.out, kp_cell hc1 B1.out, kp_cell hc B1.out⟩
          case measure => simp [intOf]; omega
        | false =>
          rw [hq] at CC
          have EE : Hid (readsB rg l = false) := (SA.out (by simp [rdB, hq, q1]))
          go_wp2_with (go_at_call 21; refine CC.out.mono ?_; rintro e w1 ⟨rfl, hw⟩; have B1 : Hid (Below wr.heap.size wr w1) := below_next (below_alloc _ _) hw; clear hw)
          go_ret
          exact ⟨by rw [EE.out]; rfl, below_next BB.out B1.out⟩
    · have hkz : ¬ (k : Int) < l.length := by omega
      obtain rfl : k = l.length := by omega
      have EE : Hid (readsB rg l = true) := (by have := HS.out; rwa [List.take_length] at this : readsB rg l = true)
      go_wp2
      go_ret
      exact ⟨by rw [EE.out]; rfl, BB.out⟩

theorem begins_c (lv mv : Value) (fb fo : Nat) (rg x : Int) (w : World) (hr : w.cell? ⟨fb, fo + 1, none⟩ = some (.int .i64 rg)) :
    Calls Tryd.prog 31 #[.agg #[lv, mv, .pointer (some ⟨fb, fo, none⟩)], .int .i64 x] w fun e w' => e = .returned (.bool (bgB rg x)) ∧ Below w.heap.size w w' := by
  by_cases q1 : x = -2
  · subst q1
    rw [show bgB rg (-2) = true by unfold bgB; rfl]
    go_enter Tryd.func31, Tryd.ntmps31
    go_wp2
    go_ret
    exact ⟨rfl, below_alloc _ _⟩
  · have q2 : (x == -2) = false := by simpa using q1
    have e : bgB rg x = readsB rg [x] := by rw [readsB_one]; unfold bgB; rw [decide_eq_false q1]; rfl
    have B0 : Hid (Below w.heap.size w (w.alloc (.cells #[lv, mv, .pointer (some ⟨fb, fo, none⟩)] 62))) := below_alloc _ _
    have CC := reads_c lv mv fb fo rg [x] _ _ (kp_cell (kp_cell hr B0.out) (below_alloc _ _)) (nos_one (w := w.alloc (.cells #[lv, mv, .pointer (some ⟨fb, fo, none⟩)] 62)) x)
    rw [show (w.alloc (.cells #[lv, mv, .pointer (some ⟨fb, fo, none⟩)] 62)).heap.size = w.heap.size + 1 by simp] at CC
    have CC : Hid _ := CC
    rw [e]
    generalize readsB rg [x] = q at *
    clear e hr
    go_enter Tryd.func31, Tryd.ntmps31
    go_wp2_with (go_at_call 28; refine Calls.mono (Hid.out CC) ?_; rintro e w1 ⟨rfl, hw⟩; have B1 : Hid (Below w.heap.size w w1) := below_next (below_next B0.out (below_alloc _ _)) hw; clear hw)
    go_ret
    exact ⟨rfl, B1.out⟩

theorem block_c (lv mv : Value) (fb fo : Nat) (nb : Nat) (A : Option Addr) (C : Nat) (n : Int) (w : World) (hr : w.cell? ⟨fb, fo + 6, none⟩ = some (.slice A nb C)) :
    Calls Tryd.prog 34 #[.agg #[lv, mv, .pointer (some ⟨fb, fo, none⟩)], .int .i64 n] w fun e w' => e = .returned (.bool (toB nb n)) ∧ Below w.heap.size w w' := by
  have c0 := kp_cell hr (below_alloc w (.cells #[lv, mv, .pointer (some ⟨fb, fo, none⟩)] 62))
  by_cases h1 : 0 ≤ n
  · by_cases h2 : n < nb
    · go_enter Tryd.func34, Tryd.ntmps34
      go_wp2
      go_ret
      exact ⟨by simp [toB, h1, h2], below_alloc _ _⟩
    · go_enter Tryd.func34, Tryd.ntmps34
      go_wp2
      go_ret
      exact ⟨by simp [toB, h1, h2] <;> omega, below_alloc _ _⟩
  · go_enter Tryd.func34, Tryd.ntmps34
    go_wp2
    go_ret
    exact ⟨by simp [toB, h1] <;> omega, below_alloc _ _⟩
end Go.Proofs.YtapgaclonilnbaaDoor
