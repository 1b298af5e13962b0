/-
  Proved: what insn's instructions answers: the table, as one row of cells.
-/
import Derived.Test.YtcdeckbobabdkaaItab
import Derived.Test.YtcdeckbobabdkaaKit
import Derived.Laws.Tables
namespace Go.Proofs.Ytcdeckbobabdkaa
open Go.RowKit
set_option linter.unusedVariables false
set_option linter.unusedSimpArgs false

/-- A row's numbers, as the program has them. -/
def pop (r : Rw) : Int := if r.fm = 8 then 1048691 else r.op
def pfm (r : Rw) : Nat := if r.fm = 8 then 7 else r.fm
def numV (r : Rw) : List Value := [.int .u32 (pop r), .int .u8 (pfm r), .int .u8 r.f3, .int .u8 r.f7]
def rowV (x : List UInt8 × Rw) : List Value := .string ⟨x.1.toArray⟩ :: numV x.2
def tabV (l : List (List UInt8 × Rw)) : List Value := l.flatMap rowV

def bldN (P : Program) : Nat → List Oper → Act → Option (List Oper × Act)
  | 0, l, a => some (l, a)
  | _ + 1, [], _ => none
  | n + 1, o :: l, a =>
    match o.guard, o.op with
    | none, .build t parts =>
      match P.built t (parts.map fun (i, x) => (i, a.eval x)).toList with
      | some cs => bldN P n l (a.put o.dst (.agg cs))
      | none => none
    | _, _ => none

theorem wpList_blds {P : Program} {ops : Array Oper} {Q : Exit → Act → World → Prop} {w : World} : ∀ (n : Nat) (l : List Oper) (a : Act) (h : (bldN P n l a).isSome = true)
    (hr : ∀ r a', bldN P n l a = some (r, a') → wpList P ops Q r a' w), wpList P ops Q l a w := by
  intro n
  induction n with
  | zero => intro l a h hr; exact hr l a rfl
  | succ n ih =>
    intro l a h hr
    cases l with
    | nil => simp [bldN] at h
    | cons o l =>
      unfold bldN at h hr
      cases hg : o.guard with
      | some g => simp [hg] at h
      | none =>
        cases hop : o.op with
        | build t parts =>
          simp only [hg, hop] at h hr
          cases hb : P.built t (parts.map fun (i, x) => (i, a.eval x)).toList with
          | none => rw [hb] at h; simp at h
          | some cs =>
            rw [hb] at h hr
            refine wpList_build hg t parts hop (by rw [hb]; rfl) ?_
            rw [hb]
            exact ih l _ h hr
        | _ => simp [hg, hop] at h

def ZA : Array Value := ((List.replicate 47 [Value.string ⟨#[]⟩, .int .u32 0, .int .u8 0, .int .u8 0, .int .u8 0]).flatten).toArray
theorem zeroA (w : World) : (zeroValue 50).run Try.prog w = .ok (.agg ZA) w := by kernel_rfl

set_option maxRecDepth 10000 in
set_option maxHeartbeats 4000000 in
theorem instructions_c (w : World) :
    Calls Try.prog 12 #[] w fun e w' => e = .returned (.agg (tabV insT).toArray) ∧ Below w.heap.size w w' := by
  go_enter Try.func12, Try.ntmps12
  go_wp2
  rw [zeroA]
  simp only [Result.andThen]
  rename_i Q' K1 h1 K2 h2
  refine h2 _ _ ?_
  refine wpList_nil ?_
  refine h1 _ _ ?_
  refine wp_seq (wp_region_list ?_)
  refine wpList_blds 95 _ _ (by kernel_rfl) ?_
  intro r a' he
  clear h1 h2
  have e1 := congrArg (fun x => x.map fun p : List Oper × Act => p.1.map fun o => (o.guard, o.op, o.dst)) he
  have e2 := congrArg (fun x => x.map fun p : List Oper × Act => p.2.eval (.tmp 95)) he
  have e3 := congrArg (fun x => x.map fun p : List Oper × Act => p.2.eval (.tmp 0)) he
  have e4 := congrArg (fun x => x.map fun p : List Oper × Act => p.2.defers) he
  clear he
  have q1 : some [((none : Option (Nat × Bool)), Op.store 50 (.tmp 0) (.tmp 95), (none : Option Tmp))] = some (r.map fun o => (o.guard, o.op, o.dst)) := (by kernel_rfl : _ = _).trans e1
  have q2 : some (Value.agg (tabV insT).toArray) = some (a'.eval (.tmp 95)) := (by kernel_rfl : _ = _).trans e2
  have q3 : some (Value.pointer (some ⟨w.heap.size, 0, none⟩)) = some (a'.eval (.tmp 0)) := (by kernel_rfl : _ = _).trans e3
  have q4 : some ([] : List Deferred) = some a'.defers := (by kernel_rfl : _ = _).trans e4
  clear e1 e2 e3 e4
  injection q1 with q1
  injection q2 with q2
  injection q3 with q3
  injection q4 with q4
  obtain ⟨o, rfl, o1, o2, o3⟩ : ∃ o, r = [o] ∧ o.guard = none ∧ o.op = Op.store 50 (.tmp 0) (.tmp 95) ∧ o.dst = none := by
    cases r with
    | nil => simp at q1
    | cons o l =>
      cases l with
      | nil =>
        simp only [List.map_cons, List.map_nil, List.cons.injEq, Prod.mk.injEq, and_true] at q1
        exact ⟨o, rfl, q1.1.symm, q1.2.1.symm, q1.2.2.symm⟩
      | cons p l => simp at q1
  clear q1
  refine wpList_store_row o1 50 (.tmp 0) (.tmp 95) o2 w.heap.size (tabV insT).toArray q3.symm q2.symm 50 ZA (At.new w _ _) (by kernel_rfl) (by kernel_rfl) (by kernel_rfl) ?_
  refine wpList_nil ?_
  refine wp_ret ?_
  rw [o3]
  refine ⟨q4.symm, _, results_cell_row rfl _ _ w.heap.size 50 (tabV insT).toArray (0, 0) _ ?_ ?_ Try.underlying50 rfl (by kernel_rfl), rfl, ?_⟩
  · exact q3.symm
  · exact setRow_heap _ _ ZA _ _ _ (At.new w _ _)
  · refine ⟨rfl, rfl, rfl, ?_, fun {k} hk => ?_⟩
    · rw [setRow_size]
      show w.heap.size ≤ (w.heap.push _).size
      simp
    · rw [setRow_other _ _ _ _ (by omega)]
      exact Below.heap_alloc w _ _ hk
theorem idx_0 (w : World) : (Instr.index 50 (.agg (tabV insT).toArray) (.int .i64 0)).run Try.prog w = .ok (.agg ((insT[0]?.map rowV).getD []).toArray) w := by kernel_rfl
theorem idx_1 (w : World) : (Instr.index 50 (.agg (tabV insT).toArray) (.int .i64 1)).run Try.prog w = .ok (.agg ((insT[1]?.map rowV).getD []).toArray) w := by kernel_rfl
theorem idx_2 (w : World) : (Instr.index 50 (.agg (tabV insT).toArray) (.int .i64 2)).run Try.prog w = .ok (.agg ((insT[2]?.map rowV).getD []).toArray) w := by kernel_rfl
theorem idx_3 (w : World) : (Instr.index 50 (.agg (tabV insT).toArray) (.int .i64 3)).run Try.prog w = .ok (.agg ((insT[3]?.map rowV).getD []).toArray) w := by kernel_rfl
theorem idx_4 (w : World) : (Instr.index 50 (.agg (tabV insT).toArray) (.int .i64 4)).run Try.prog w = .ok (.agg ((insT[4]?.map rowV).getD []).toArray) w := by kernel_rfl
theorem idx_5 (w : World) : (Instr.index 50 (.agg (tabV insT).toArray) (.int .i64 5)).run Try.prog w = .ok (.agg ((insT[5]?.map rowV).getD []).toArray) w := by kernel_rfl
theorem idx_6 (w : World) : (Instr.index 50 (.agg (tabV insT).toArray) (.int .i64 6)).run Try.prog w = .ok (.agg ((insT[6]?.map rowV).getD []).toArray) w := by kernel_rfl
theorem idx_7 (w : World) : (Instr.index 50 (.agg (tabV insT).toArray) (.int .i64 7)).run Try.prog w = .ok (.agg ((insT[7]?.map rowV).getD []).toArray) w := by kernel_rfl
theorem idx_8 (w : World) : (Instr.index 50 (.agg (tabV insT).toArray) (.int .i64 8)).run Try.prog w = .ok (.agg ((insT[8]?.map rowV).getD []).toArray) w := by kernel_rfl
theorem idx_9 (w : World) : (Instr.index 50 (.agg (tabV insT).toArray) (.int .i64 9)).run Try.prog w = .ok (.agg ((insT[9]?.map rowV).getD []).toArray) w := by kernel_rfl
theorem idx_10 (w : World) : (Instr.index 50 (.agg (tabV insT).toArray) (.int .i64 10)).run Try.prog w = .ok (.agg ((insT[10]?.map rowV).getD []).toArray) w := by kernel_rfl
theorem idx_11 (w : World) : (Instr.index 50 (.agg (tabV insT).toArray) (.int .i64 11)).run Try.prog w = .ok (.agg ((insT[11]?.map rowV).getD []).toArray) w := by kernel_rfl
theorem idx_12 (w : World) : (Instr.index 50 (.agg (tabV insT).toArray) (.int .i64 12)).run Try.prog w = .ok (.agg ((insT[12]?.map rowV).getD []).toArray) w := by kernel_rfl
theorem idx_13 (w : World) : (Instr.index 50 (.agg (tabV insT).toArray) (.int .i64 13)).run Try.prog w = .ok (.agg ((insT[13]?.map rowV).getD []).toArray) w := by kernel_rfl
theorem idx_14 (w : World) : (Instr.index 50 (.agg (tabV insT).toArray) (.int .i64 14)).run Try.prog w = .ok (.agg ((insT[14]?.map rowV).getD []).toArray) w := by kernel_rfl
theorem idx_15 (w : World) : (Instr.index 50 (.agg (tabV insT).toArray) (.int .i64 15)).run Try.prog w = .ok (.agg ((insT[15]?.map rowV).getD []).toArray) w := by kernel_rfl
theorem idx_16 (w : World) : (Instr.index 50 (.agg (tabV insT).toArray) (.int .i64 16)).run Try.prog w = .ok (.agg ((insT[16]?.map rowV).getD []).toArray) w := by kernel_rfl
theorem idx_17 (w : World) : (Instr.index 50 (.agg (tabV insT).toArray) (.int .i64 17)).run Try.prog w = .ok (.agg ((insT[17]?.map rowV).getD []).toArray) w := by kernel_rfl
theorem idx_18 (w : World) : (Instr.index 50 (.agg (tabV insT).toArray) (.int .i64 18)).run Try.prog w = .ok (.agg ((insT[18]?.map rowV).getD []).toArray) w := by kernel_rfl
theorem idx_19 (w : World) : (Instr.index 50 (.agg (tabV insT).toArray) (.int .i64 19)).run Try.prog w = .ok (.agg ((insT[19]?.map rowV).getD []).toArray) w := by kernel_rfl
theorem idx_20 (w : World) : (Instr.index 50 (.agg (tabV insT).toArray) (.int .i64 20)).run Try.prog w = .ok (.agg ((insT[20]?.map rowV).getD []).toArray) w := by kernel_rfl
theorem idx_21 (w : World) : (Instr.index 50 (.agg (tabV insT).toArray) (.int .i64 21)).run Try.prog w = .ok (.agg ((insT[21]?.map rowV).getD []).toArray) w := by kernel_rfl
theorem idx_22 (w : World) : (Instr.index 50 (.agg (tabV insT).toArray) (.int .i64 22)).run Try.prog w = .ok (.agg ((insT[22]?.map rowV).getD []).toArray) w := by kernel_rfl
theorem idx_23 (w : World) : (Instr.index 50 (.agg (tabV insT).toArray) (.int .i64 23)).run Try.prog w = .ok (.agg ((insT[23]?.map rowV).getD []).toArray) w := by kernel_rfl
theorem idx_24 (w : World) : (Instr.index 50 (.agg (tabV insT).toArray) (.int .i64 24)).run Try.prog w = .ok (.agg ((insT[24]?.map rowV).getD []).toArray) w := by kernel_rfl
theorem idx_25 (w : World) : (Instr.index 50 (.agg (tabV insT).toArray) (.int .i64 25)).run Try.prog w = .ok (.agg ((insT[25]?.map rowV).getD []).toArray) w := by kernel_rfl
theorem idx_26 (w : World) : (Instr.index 50 (.agg (tabV insT).toArray) (.int .i64 26)).run Try.prog w = .ok (.agg ((insT[26]?.map rowV).getD []).toArray) w := by kernel_rfl
theorem idx_27 (w : World) : (Instr.index 50 (.agg (tabV insT).toArray) (.int .i64 27)).run Try.prog w = .ok (.agg ((insT[27]?.map rowV).getD []).toArray) w := by kernel_rfl
theorem idx_28 (w : World) : (Instr.index 50 (.agg (tabV insT).toArray) (.int .i64 28)).run Try.prog w = .ok (.agg ((insT[28]?.map rowV).getD []).toArray) w := by kernel_rfl
theorem idx_29 (w : World) : (Instr.index 50 (.agg (tabV insT).toArray) (.int .i64 29)).run Try.prog w = .ok (.agg ((insT[29]?.map rowV).getD []).toArray) w := by kernel_rfl
theorem idx_30 (w : World) : (Instr.index 50 (.agg (tabV insT).toArray) (.int .i64 30)).run Try.prog w = .ok (.agg ((insT[30]?.map rowV).getD []).toArray) w := by kernel_rfl
theorem idx_31 (w : World) : (Instr.index 50 (.agg (tabV insT).toArray) (.int .i64 31)).run Try.prog w = .ok (.agg ((insT[31]?.map rowV).getD []).toArray) w := by kernel_rfl
theorem idx_32 (w : World) : (Instr.index 50 (.agg (tabV insT).toArray) (.int .i64 32)).run Try.prog w = .ok (.agg ((insT[32]?.map rowV).getD []).toArray) w := by kernel_rfl
theorem idx_33 (w : World) : (Instr.index 50 (.agg (tabV insT).toArray) (.int .i64 33)).run Try.prog w = .ok (.agg ((insT[33]?.map rowV).getD []).toArray) w := by kernel_rfl
theorem idx_34 (w : World) : (Instr.index 50 (.agg (tabV insT).toArray) (.int .i64 34)).run Try.prog w = .ok (.agg ((insT[34]?.map rowV).getD []).toArray) w := by kernel_rfl
theorem idx_35 (w : World) : (Instr.index 50 (.agg (tabV insT).toArray) (.int .i64 35)).run Try.prog w = .ok (.agg ((insT[35]?.map rowV).getD []).toArray) w := by kernel_rfl
theorem idx_36 (w : World) : (Instr.index 50 (.agg (tabV insT).toArray) (.int .i64 36)).run Try.prog w = .ok (.agg ((insT[36]?.map rowV).getD []).toArray) w := by kernel_rfl
theorem idx_37 (w : World) : (Instr.index 50 (.agg (tabV insT).toArray) (.int .i64 37)).run Try.prog w = .ok (.agg ((insT[37]?.map rowV).getD []).toArray) w := by kernel_rfl
theorem idx_38 (w : World) : (Instr.index 50 (.agg (tabV insT).toArray) (.int .i64 38)).run Try.prog w = .ok (.agg ((insT[38]?.map rowV).getD []).toArray) w := by kernel_rfl
theorem idx_39 (w : World) : (Instr.index 50 (.agg (tabV insT).toArray) (.int .i64 39)).run Try.prog w = .ok (.agg ((insT[39]?.map rowV).getD []).toArray) w := by kernel_rfl
theorem idx_40 (w : World) : (Instr.index 50 (.agg (tabV insT).toArray) (.int .i64 40)).run Try.prog w = .ok (.agg ((insT[40]?.map rowV).getD []).toArray) w := by kernel_rfl
theorem idx_41 (w : World) : (Instr.index 50 (.agg (tabV insT).toArray) (.int .i64 41)).run Try.prog w = .ok (.agg ((insT[41]?.map rowV).getD []).toArray) w := by kernel_rfl
theorem idx_42 (w : World) : (Instr.index 50 (.agg (tabV insT).toArray) (.int .i64 42)).run Try.prog w = .ok (.agg ((insT[42]?.map rowV).getD []).toArray) w := by kernel_rfl
theorem idx_43 (w : World) : (Instr.index 50 (.agg (tabV insT).toArray) (.int .i64 43)).run Try.prog w = .ok (.agg ((insT[43]?.map rowV).getD []).toArray) w := by kernel_rfl
theorem idx_44 (w : World) : (Instr.index 50 (.agg (tabV insT).toArray) (.int .i64 44)).run Try.prog w = .ok (.agg ((insT[44]?.map rowV).getD []).toArray) w := by kernel_rfl
theorem idx_45 (w : World) : (Instr.index 50 (.agg (tabV insT).toArray) (.int .i64 45)).run Try.prog w = .ok (.agg ((insT[45]?.map rowV).getD []).toArray) w := by kernel_rfl
theorem idx_46 (w : World) : (Instr.index 50 (.agg (tabV insT).toArray) (.int .i64 46)).run Try.prog w = .ok (.agg ((insT[46]?.map rowV).getD []).toArray) w := by kernel_rfl
theorem idx_all (k : Nat) (hk : k < 47) (w : World) : (Instr.index 50 (.agg (tabV insT).toArray) (.int .i64 (k : Int))).run Try.prog w = .ok (.agg ((insT[k]?.map rowV).getD []).toArray) w := by
  have h : k = 0 ∨ k = 1 ∨ k = 2 ∨ k = 3 ∨ k = 4 ∨ k = 5 ∨ k = 6 ∨ k = 7 ∨ k = 8 ∨ k = 9 ∨ k = 10 ∨ k = 11 ∨ k = 12 ∨ k = 13 ∨ k = 14 ∨ k = 15 ∨ k = 16 ∨ k = 17 ∨ k = 18 ∨ k = 19 ∨ k = 20 ∨ k = 21 ∨ k = 22 ∨ k = 23 ∨ k = 24 ∨ k = 25 ∨ k = 26 ∨ k = 27 ∨ k = 28 ∨ k = 29 ∨ k = 30 ∨ k = 31 ∨ k = 32 ∨ k = 33 ∨ k = 34 ∨ k = 35 ∨ k = 36 ∨ k = 37 ∨ k = 38 ∨ k = 39 ∨ k = 40 ∨ k = 41 ∨ k = 42 ∨ k = 43 ∨ k = 44 ∨ k = 45 ∨ k = 46 := by omega
  rcases h with rfl | rfl | rfl | rfl | rfl | rfl | rfl | rfl | rfl | rfl | rfl | rfl | rfl | rfl | rfl | rfl | rfl | rfl | rfl | rfl | rfl | rfl | rfl | rfl | rfl | rfl | rfl | rfl | rfl | rfl | rfl | rfl | rfl | rfl | rfl | rfl | rfl | rfl | rfl | rfl | rfl | rfl | rfl | rfl | rfl | rfl | rfl
  · exact idx_0 w
  · exact idx_1 w
  · exact idx_2 w
  · exact idx_3 w
  · exact idx_4 w
  · exact idx_5 w
  · exact idx_6 w
  · exact idx_7 w
  · exact idx_8 w
  · exact idx_9 w
  · exact idx_10 w
  · exact idx_11 w
  · exact idx_12 w
  · exact idx_13 w
  · exact idx_14 w
  · exact idx_15 w
  · exact idx_16 w
  · exact idx_17 w
  · exact idx_18 w
  · exact idx_19 w
  · exact idx_20 w
  · exact idx_21 w
  · exact idx_22 w
  · exact idx_23 w
  · exact idx_24 w
  · exact idx_25 w
  · exact idx_26 w
  · exact idx_27 w
  · exact idx_28 w
  · exact idx_29 w
  · exact idx_30 w
  · exact idx_31 w
  · exact idx_32 w
  · exact idx_33 w
  · exact idx_34 w
  · exact idx_35 w
  · exact idx_36 w
  · exact idx_37 w
  · exact idx_38 w
  · exact idx_39 w
  · exact idx_40 w
  · exact idx_41 w
  · exact idx_42 w
  · exact idx_43 w
  · exact idx_44 w
  · exact idx_45 w
  · exact idx_46 w

/-- A row of the table, taken out of it. -/
theorem idx_c {k : Nat} {x : List UInt8 × Rw} (hx : insT[k]? = some x) (w : World) : (Instr.index 50 (.agg (tabV insT).toArray) (.int .i64 (k : Int))).run Try.prog w = .ok (.agg (rowV x).toArray) w := by
  have hk : k < insT.length := by rcases Nat.lt_or_ge k insT.length with h | h; exact h; rw [List.getElem?_eq_none h] at hx; cases hx
  rw [idx_all k hk w, hx]
  rfl
end Go.Proofs.Ytcdeckbobabdkaa
