/-
  Proved: what the reference's All answers: its table of rows.
-/
import Derived.Test.YtiiebppcamaliaaRgrp
import Derived.Deep.Cut
import Derived.Deep.CutRange
namespace Go.Proofs.Ytiiebppcamaliaa
open Go.RowKit
set_option linter.unusedVariables false
set_option linter.unusedSimpArgs false

def tb0 : List RR := [⟨⟨#[108, 117, 105]⟩, ⟨#[85]⟩, 55, 0, 0⟩, ⟨⟨#[97, 117, 105, 112, 99]⟩, ⟨#[85]⟩, 23, 0, 0⟩, ⟨⟨#[106, 97, 108]⟩, ⟨#[74]⟩, 111, 0, 0⟩, ⟨⟨#[106, 97, 108, 114]⟩, ⟨#[73]⟩, 103, 0, 0⟩]
def tb1 : List RR := [⟨⟨#[108, 98]⟩, ⟨#[73]⟩, 3, 0, 0⟩, ⟨⟨#[108, 104]⟩, ⟨#[73]⟩, 3, 1, 0⟩, ⟨⟨#[108, 119]⟩, ⟨#[73]⟩, 3, 2, 0⟩, ⟨⟨#[108, 98, 117]⟩, ⟨#[73]⟩, 3, 4, 0⟩, ⟨⟨#[108, 104, 117]⟩, ⟨#[73]⟩, 3, 5, 0⟩]
theorem hl1 : ∀ y : RR, y ∈ tb1 → y.fm = ⟨#[73]⟩ ∧ y.op = 3 ∧ y.f7 = 0 := by
  intro y hy
  simp only [tb1, List.mem_cons, List.not_mem_nil, or_false] at hy
  rcases hy with rfl | rfl | rfl | rfl | rfl <;> exact ⟨rfl, rfl, rfl⟩
def tb2 : List RR := [⟨⟨#[97, 100, 100, 105]⟩, ⟨#[73]⟩, 19, 0, 0⟩, ⟨⟨#[115, 108, 116, 105]⟩, ⟨#[73]⟩, 19, 2, 0⟩, ⟨⟨#[115, 108, 116, 105, 117]⟩, ⟨#[73]⟩, 19, 3, 0⟩, ⟨⟨#[120, 111, 114, 105]⟩, ⟨#[73]⟩, 19, 4, 0⟩, ⟨⟨#[111, 114, 105]⟩, ⟨#[73]⟩, 19, 6, 0⟩, ⟨⟨#[97, 110, 100, 105]⟩, ⟨#[73]⟩, 19, 7, 0⟩]
theorem hl2 : ∀ y : RR, y ∈ tb2 → y.fm = ⟨#[73]⟩ ∧ y.op = 19 ∧ y.f7 = 0 := by
  intro y hy
  simp only [tb2, List.mem_cons, List.not_mem_nil, or_false] at hy
  rcases hy with rfl | rfl | rfl | rfl | rfl | rfl <;> exact ⟨rfl, rfl, rfl⟩
def tb3 : List RR := [⟨⟨#[115, 108, 108, 105]⟩, ⟨#[115, 104, 105, 102, 116]⟩, 19, 1, 0⟩, ⟨⟨#[115, 114, 108, 105]⟩, ⟨#[115, 104, 105, 102, 116]⟩, 19, 5, 0⟩]
theorem hl3 : ∀ y : RR, y ∈ tb3 → y.fm = ⟨#[115, 104, 105, 102, 116]⟩ ∧ y.op = 19 ∧ y.f7 = 0 := by
  intro y hy
  simp only [tb3, List.mem_cons, List.not_mem_nil, or_false] at hy
  rcases hy with rfl | rfl <;> exact ⟨rfl, rfl, rfl⟩
def tb4 : List RR := [⟨⟨#[115, 114, 97, 105]⟩, ⟨#[115, 104, 105, 102, 116]⟩, 19, 5, 32⟩]
def tb5 : List RR := [⟨⟨#[98, 101, 113]⟩, ⟨#[66]⟩, 99, 0, 0⟩, ⟨⟨#[98, 110, 101]⟩, ⟨#[66]⟩, 99, 1, 0⟩, ⟨⟨#[98, 108, 116]⟩, ⟨#[66]⟩, 99, 4, 0⟩, ⟨⟨#[98, 103, 101]⟩, ⟨#[66]⟩, 99, 5, 0⟩, ⟨⟨#[98, 108, 116, 117]⟩, ⟨#[66]⟩, 99, 6, 0⟩, ⟨⟨#[98, 103, 101, 117]⟩, ⟨#[66]⟩, 99, 7, 0⟩]
theorem hl5 : ∀ y : RR, y ∈ tb5 → y.fm = ⟨#[66]⟩ ∧ y.op = 99 ∧ y.f7 = 0 := by
  intro y hy
  simp only [tb5, List.mem_cons, List.not_mem_nil, or_false] at hy
  rcases hy with rfl | rfl | rfl | rfl | rfl | rfl <;> exact ⟨rfl, rfl, rfl⟩
def tb6 : List RR := [⟨⟨#[115, 98]⟩, ⟨#[83]⟩, 35, 0, 0⟩, ⟨⟨#[115, 104]⟩, ⟨#[83]⟩, 35, 1, 0⟩, ⟨⟨#[115, 119]⟩, ⟨#[83]⟩, 35, 2, 0⟩]
theorem hl6 : ∀ y : RR, y ∈ tb6 → y.fm = ⟨#[83]⟩ ∧ y.op = 35 ∧ y.f7 = 0 := by
  intro y hy
  simp only [tb6, List.mem_cons, List.not_mem_nil, or_false] at hy
  rcases hy with rfl | rfl | rfl <;> exact ⟨rfl, rfl, rfl⟩
def tb7 : List RR := [⟨⟨#[97, 100, 100]⟩, ⟨#[82]⟩, 51, 0, 0⟩, ⟨⟨#[115, 108, 108]⟩, ⟨#[82]⟩, 51, 1, 0⟩, ⟨⟨#[115, 108, 116]⟩, ⟨#[82]⟩, 51, 2, 0⟩, ⟨⟨#[115, 108, 116, 117]⟩, ⟨#[82]⟩, 51, 3, 0⟩, ⟨⟨#[120, 111, 114]⟩, ⟨#[82]⟩, 51, 4, 0⟩, ⟨⟨#[115, 114, 108]⟩, ⟨#[82]⟩, 51, 5, 0⟩, ⟨⟨#[111, 114]⟩, ⟨#[82]⟩, 51, 6, 0⟩, ⟨⟨#[97, 110, 100]⟩, ⟨#[82]⟩, 51, 7, 0⟩]
theorem hl7 : ∀ y : RR, y ∈ tb7 → y.fm = ⟨#[82]⟩ ∧ y.op = 51 ∧ y.f7 = 0 := by
  intro y hy
  simp only [tb7, List.mem_cons, List.not_mem_nil, or_false] at hy
  rcases hy with rfl | rfl | rfl | rfl | rfl | rfl | rfl | rfl <;> exact ⟨rfl, rfl, rfl⟩
def tb8 : List RR := [⟨⟨#[115, 117, 98]⟩, ⟨#[82]⟩, 51, 0, 32⟩, ⟨⟨#[115, 114, 97]⟩, ⟨#[82]⟩, 51, 5, 32⟩]
def tb9 : List RR := [⟨⟨#[109, 117, 108]⟩, ⟨#[82]⟩, 51, 0, 1⟩, ⟨⟨#[109, 117, 108, 104]⟩, ⟨#[82]⟩, 51, 1, 1⟩, ⟨⟨#[109, 117, 108, 104, 115, 117]⟩, ⟨#[82]⟩, 51, 2, 1⟩, ⟨⟨#[109, 117, 108, 104, 117]⟩, ⟨#[82]⟩, 51, 3, 1⟩, ⟨⟨#[100, 105, 118]⟩, ⟨#[82]⟩, 51, 4, 1⟩, ⟨⟨#[100, 105, 118, 117]⟩, ⟨#[82]⟩, 51, 5, 1⟩, ⟨⟨#[114, 101, 109]⟩, ⟨#[82]⟩, 51, 6, 1⟩, ⟨⟨#[114, 101, 109, 117]⟩, ⟨#[82]⟩, 51, 7, 1⟩]
theorem hl9 : ∀ y : RR, y ∈ tb9 → y.fm = ⟨#[82]⟩ ∧ y.op = 51 ∧ y.f7 = 1 := by
  intro y hy
  simp only [tb9, List.mem_cons, List.not_mem_nil, or_false] at hy
  rcases hy with rfl | rfl | rfl | rfl | rfl | rfl | rfl | rfl <;> exact ⟨rfl, rfl, rfl⟩
def tb10 : List RR := [⟨⟨#[101, 99, 97, 108, 108]⟩, ⟨#[69]⟩, 115, 0, 0⟩, ⟨⟨#[101, 98, 114, 101, 97, 107]⟩, ⟨#[69]⟩, 115, 0, 0⟩]

/-- The rows' form, as the reference names it. -/
def fmS (n : Nat) : ByteArray :=
  match n with
  | 0 => ⟨#[85]⟩
  | 1 => ⟨#[74]⟩
  | 2 => ⟨#[73]⟩
  | 3 => ⟨#[115, 104, 105, 102, 116]⟩
  | 4 => ⟨#[66]⟩
  | 5 => ⟨#[83]⟩
  | 6 => ⟨#[82]⟩
  | _ => ⟨#[69]⟩
def rrOf (x : List UInt8 × Rw) : RR := ⟨⟨x.1.toArray⟩, fmS x.2.fm, x.2.op, x.2.f3, x.2.f7⟩
def rowsR : List RR := insT.map rrOf
theorem rowsR_is : tb0 ++ tb1 ++ tb2 ++ tb3 ++ tb4 ++ tb5 ++ tb6 ++ tb7 ++ tb8 ++ tb9 ++ tb10 = rowsR := by rfl

theorem wpList_appM {base : Nat} {l : List RR} (m : List RR) (w : World) {ops : Array Oper} {rest : List Oper} {o : Oper} {a : Act} {Q : Exit → Act → World → Prop} (hgd : o.guard = none) (s x : Operand)
    (ho : o.op = .call { callee := .builtin .append, args := #[s, x], argTypes := #[54, 54] }) (v : Value) (hs : a.eval s = v) (hown : OwnB 57 5 rrC base l v w) (ad : Addr) (C : Nat) (hx : a.eval x = .slice (some ad) m.length C)
    (hc : ∀ j u, (m.flatMap rrC)[j]? = some u → w.cell? (ad.add j) = some u) (hl : l.length + m.length ≤ 1000)
    (h : ∀ v' w', OwnB 57 5 rrC base (l ++ m) v' w' → Below base w w' → wpList Try.prog ops Q rest (a.put o.dst v') w') : wpList Try.prog ops Q (o :: rest) a w :=
  wpList_plain hgd fun _ hK => OwnB.appendN 54 57 rrC _ 5 56 infoR Try.underlying54 rfl (by decide) (by decide) rr_len rr_one w s x ho v hs base l m hown ad C hx hc (by omega) fun v' w' h1 h2 _ _ => hK _ _ (h v' w' h1 h2)

theorem grp_new (w : World) (L : List RR) (t1 t2 : TypeId) : GrpIn ((w.alloc (.cells (L.map fun y => Value.string y.n).toArray t1)).alloc (.cells (L.map fun y => Value.int .i64 y.f3).toArray t2)) w.heap.size (w.heap.size + 1) L := by
  intro k y hk
  constructor
  · have h1 := ((At.new w (L.map fun y => Value.string y.n).toArray t1).below (below_alloc (w.alloc (.cells (L.map fun y => Value.string y.n).toArray t1)) (.cells (L.map fun y => Value.int .i64 y.f3).toArray t2)) (At.new w (L.map fun y => Value.string y.n).toArray t1).lt).cell k
    rw [h1]
    simp [hk]
  · have h1 := (At.newS (w.alloc (.cells (L.map fun y => Value.string y.n).toArray t1)) (L.map fun y => Value.int .i64 y.f3).toArray t2 (g := w.heap.size + 1) (by simp)).cell k
    rw [h1]
    simp [hk]

theorem al2_l (w : World) (A B : Obj) : w.heap.size < ((w.alloc A).alloc B).heap.size ∧ w.heap.size + 1 < ((w.alloc A).alloc B).heap.size := by
  have h1 : ((w.alloc A).alloc B).heap.size = w.heap.size + 1 + 1 := by simp
  omega
theorem al2_b (w : World) (A B : Obj) : Below w.heap.size w ((w.alloc A).alloc B) := (below_alloc w A).alloc (by have := (below_alloc w A).size; omega) B

set_option maxRecDepth 20000 in
set_option maxHeartbeats 4000000 in
theorem all_c (w : World) : Calls Try.prog 19 #[] w fun e w' =>
    ∃ B C, e = .returned (.slice (some ⟨B, 0, none⟩) 47 C) ∧ (∀ j u, (rowsR.flatMap rrC)[j]? = some u → w'.cell? ((⟨B, 0, none⟩ : Addr).add j) = some u) ∧ Below w.heap.size w w' := by
  have O0 : Hid (OwnB 57 5 rrC w.heap.size ([] : List RR) (.slice none 0 0) w) := ⟨Nat.le_refl _, by simp, Or.inl ⟨rfl, rfl⟩⟩
  have B0 : Hid (Below w.heap.size w w) := Below.refl _ _
  go_enter Try.func19, Try.ntmps19
  go_upto_region 2 with fail
  go_upto_region 3 with (have OX : OwnB 57 5 rrC w.heap.size ([] : List RR) (.slice none 0 0) (w.alloc (.cells #[.string ⟨#[108, 117, 105]⟩, .string ⟨#[85]⟩, .int .i64 55, .int .i64 0, .int .i64 0, .string ⟨#[97, 117, 105, 112, 99]⟩, .string ⟨#[85]⟩, .int .i64 23, .int .i64 0, .int .i64 0, .string ⟨#[106, 97, 108]⟩, .string ⟨#[74]⟩, .int .i64 111, .int .i64 0, .int .i64 0, .string ⟨#[106, 97, 108, 114]⟩, .string ⟨#[73]⟩, .int .i64 103, .int .i64 0, .int .i64 0] 57)) := O0.out.below (below_alloc _ _); have BX : Below w.heap.size w (w.alloc (.cells #[.string ⟨#[108, 117, 105]⟩, .string ⟨#[85]⟩, .int .i64 55, .int .i64 0, .int .i64 0, .string ⟨#[97, 117, 105, 112, 99]⟩, .string ⟨#[85]⟩, .int .i64 23, .int .i64 0, .int .i64 0, .string ⟨#[106, 97, 108]⟩, .string ⟨#[74]⟩, .int .i64 111, .int .i64 0, .int .i64 0, .string ⟨#[106, 97, 108, 114]⟩, .string ⟨#[73]⟩, .int .i64 103, .int .i64 0, .int .i64 0] 57)) := n_below B0.out B0.out.size (below_alloc _ _); refine wpList_appM tb0 _ rfl (.tmp 2) (.tmp 7) rfl _ (by rfl) OX ⟨w.heap.size, 0, none⟩ 4 (by rfl) (fun j u hj => new_cells w (tb0.flatMap rrC) 57 j u hj) (by decide) ?_; intro v1 w1 hO hB; have O1 : Hid (OwnB 57 5 rrC w.heap.size (([] : List RR) ++ tb0) v1 w1) := hO; have B1 : Hid (Below w.heap.size w w1) := BX.trans hB; clear hO hB OX BX)
  go_upto_region 4 with (first | (have HQ := HC; refine wpList_appM tb1 _ rfl (.tmp 9) (.tmp 12) rfl _ (by rfl) OX ⟨B, 0, none⟩ C (by rfl) HC.out (by decide) ?_; intro v2 w2 hO hB; have O2 : Hid (OwnB 57 5 rrC w.heap.size ((([] : List RR) ++ tb0) ++ tb1) v2 w2) := hO; have B2 : Hid (Below w.heap.size w w2) := BX.trans hB; clear hO hB OX BX HC HQ) | (go_at_call 30; go_loud (refine Calls.mono (group_c tb1 ⟨#[73]⟩ 3 0 w1.heap.size (w1.heap.size + 1) 5 hl1 (by rfl) (by decide) (by decide) ((w1.alloc (.cells (tb1.map fun y : RR => Value.string y.n).toArray 9)).alloc (.cells (tb1.map fun y : RR => Value.int .i64 y.f3).toArray 3)) (al2_l _ _ _).1 (al2_l _ _ _).2 (grp_new w1 tb1 9 3)) ?_; rintro e wg ⟨B, C, rfl, hc, hb⟩; have HC : Hid (∀ j u, (tb1.flatMap rrC)[j]? = some u → wg.cell? ((⟨B, 0, none⟩ : Addr).add j) = some u) := hc; have OX : OwnB 57 5 rrC w.heap.size (([] : List RR) ++ tb0) (v1) wg := (O1.out.below (al2_b _ _ _)).below hb; have BX : Below w.heap.size w wg := n_below (n_below B1.out B1.out.size (al2_b _ _ _)) (n_below B1.out B1.out.size (al2_b _ _ _)).size hb; clear hc hb)))
  go_upto_region 5 with (first | (have HQ := HC; refine wpList_appM tb2 _ rfl (.tmp 14) (.tmp 17) rfl _ (by rfl) OX ⟨B, 0, none⟩ C (by rfl) HC.out (by decide) ?_; intro v3 w3 hO hB; have O3 : Hid (OwnB 57 5 rrC w.heap.size (((([] : List RR) ++ tb0) ++ tb1) ++ tb2) v3 w3) := hO; have B3 : Hid (Below w.heap.size w w3) := BX.trans hB; clear hO hB OX BX HC HQ) | (go_at_call 30; go_loud (refine Calls.mono (group_c tb2 ⟨#[73]⟩ 19 0 w2.heap.size (w2.heap.size + 1) 6 hl2 (by rfl) (by decide) (by decide) ((w2.alloc (.cells (tb2.map fun y : RR => Value.string y.n).toArray 9)).alloc (.cells (tb2.map fun y : RR => Value.int .i64 y.f3).toArray 3)) (al2_l _ _ _).1 (al2_l _ _ _).2 (grp_new w2 tb2 9 3)) ?_; rintro e wg ⟨B, C, rfl, hc, hb⟩; have HC : Hid (∀ j u, (tb2.flatMap rrC)[j]? = some u → wg.cell? ((⟨B, 0, none⟩ : Addr).add j) = some u) := hc; have OX : OwnB 57 5 rrC w.heap.size ((([] : List RR) ++ tb0) ++ tb1) (v2) wg := (O2.out.below (al2_b _ _ _)).below hb; have BX : Below w.heap.size w wg := n_below (n_below B2.out B2.out.size (al2_b _ _ _)) (n_below B2.out B2.out.size (al2_b _ _ _)).size hb; clear hc hb)))
  go_upto_region 6 with (first | (have HQ := HC; refine wpList_appM tb3 _ rfl (.tmp 19) (.tmp 22) rfl _ (by rfl) OX ⟨B, 0, none⟩ C (by rfl) HC.out (by decide) ?_; intro v4 w4 hO hB; have O4 : Hid (OwnB 57 5 rrC w.heap.size ((((([] : List RR) ++ tb0) ++ tb1) ++ tb2) ++ tb3) v4 w4) := hO; have B4 : Hid (Below w.heap.size w w4) := BX.trans hB; clear hO hB OX BX HC HQ) | (go_at_call 30; go_loud (refine Calls.mono (group_c tb3 ⟨#[115, 104, 105, 102, 116]⟩ 19 0 w3.heap.size (w3.heap.size + 1) 2 hl3 (by rfl) (by decide) (by decide) ((w3.alloc (.cells (tb3.map fun y : RR => Value.string y.n).toArray 9)).alloc (.cells (tb3.map fun y : RR => Value.int .i64 y.f3).toArray 3)) (al2_l _ _ _).1 (al2_l _ _ _).2 (grp_new w3 tb3 9 3)) ?_; rintro e wg ⟨B, C, rfl, hc, hb⟩; have HC : Hid (∀ j u, (tb3.flatMap rrC)[j]? = some u → wg.cell? ((⟨B, 0, none⟩ : Addr).add j) = some u) := hc; have OX : OwnB 57 5 rrC w.heap.size (((([] : List RR) ++ tb0) ++ tb1) ++ tb2) (v3) wg := (O3.out.below (al2_b _ _ _)).below hb; have BX : Below w.heap.size w wg := n_below (n_below B3.out B3.out.size (al2_b _ _ _)) (n_below B3.out B3.out.size (al2_b _ _ _)).size hb; clear hc hb)))
  go_upto_region 7 with (have OX : OwnB 57 5 rrC w.heap.size ((((([] : List RR) ++ tb0) ++ tb1) ++ tb2) ++ tb3) (v4) (w4.alloc (.cells #[.string ⟨#[115, 114, 97, 105]⟩, .string ⟨#[115, 104, 105, 102, 116]⟩, .int .i64 19, .int .i64 5, .int .i64 32] 57)) := O4.out.below (below_alloc _ _); have BX : Below w.heap.size w (w4.alloc (.cells #[.string ⟨#[115, 114, 97, 105]⟩, .string ⟨#[115, 104, 105, 102, 116]⟩, .int .i64 19, .int .i64 5, .int .i64 32] 57)) := n_below B4.out B4.out.size (below_alloc _ _); refine wpList_appM tb4 _ rfl (.tmp 24) (.tmp 26) rfl _ (by rfl) OX ⟨w4.heap.size, 0, none⟩ 1 (by rfl) (fun j u hj => new_cells w4 (tb4.flatMap rrC) 57 j u hj) (by decide) ?_; intro v5 w5 hO hB; have O5 : Hid (OwnB 57 5 rrC w.heap.size (((((([] : List RR) ++ tb0) ++ tb1) ++ tb2) ++ tb3) ++ tb4) v5 w5) := hO; have B5 : Hid (Below w.heap.size w w5) := BX.trans hB; clear hO hB OX BX)
  go_upto_region 8 with (first | (have HQ := HC; refine wpList_appM tb5 _ rfl (.tmp 28) (.tmp 31) rfl _ (by rfl) OX ⟨B, 0, none⟩ C (by rfl) HC.out (by decide) ?_; intro v6 w6 hO hB; have O6 : Hid (OwnB 57 5 rrC w.heap.size ((((((([] : List RR) ++ tb0) ++ tb1) ++ tb2) ++ tb3) ++ tb4) ++ tb5) v6 w6) := hO; have B6 : Hid (Below w.heap.size w w6) := BX.trans hB; clear hO hB OX BX HC HQ) | (go_at_call 30; go_loud (refine Calls.mono (group_c tb5 ⟨#[66]⟩ 99 0 w5.heap.size (w5.heap.size + 1) 6 hl5 (by rfl) (by decide) (by decide) ((w5.alloc (.cells (tb5.map fun y : RR => Value.string y.n).toArray 9)).alloc (.cells (tb5.map fun y : RR => Value.int .i64 y.f3).toArray 3)) (al2_l _ _ _).1 (al2_l _ _ _).2 (grp_new w5 tb5 9 3)) ?_; rintro e wg ⟨B, C, rfl, hc, hb⟩; have HC : Hid (∀ j u, (tb5.flatMap rrC)[j]? = some u → wg.cell? ((⟨B, 0, none⟩ : Addr).add j) = some u) := hc; have OX : OwnB 57 5 rrC w.heap.size (((((([] : List RR) ++ tb0) ++ tb1) ++ tb2) ++ tb3) ++ tb4) (v5) wg := (O5.out.below (al2_b _ _ _)).below hb; have BX : Below w.heap.size w wg := n_below (n_below B5.out B5.out.size (al2_b _ _ _)) (n_below B5.out B5.out.size (al2_b _ _ _)).size hb; clear hc hb)))
  go_upto_region 9 with (first | (have HQ := HC; refine wpList_appM tb6 _ rfl (.tmp 33) (.tmp 36) rfl _ (by rfl) OX ⟨B, 0, none⟩ C (by rfl) HC.out (by decide) ?_; intro v7 w7 hO hB; have O7 : Hid (OwnB 57 5 rrC w.heap.size (((((((([] : List RR) ++ tb0) ++ tb1) ++ tb2) ++ tb3) ++ tb4) ++ tb5) ++ tb6) v7 w7) := hO; have B7 : Hid (Below w.heap.size w w7) := BX.trans hB; clear hO hB OX BX HC HQ) | (go_at_call 30; go_loud (refine Calls.mono (group_c tb6 ⟨#[83]⟩ 35 0 w6.heap.size (w6.heap.size + 1) 3 hl6 (by rfl) (by decide) (by decide) ((w6.alloc (.cells (tb6.map fun y : RR => Value.string y.n).toArray 9)).alloc (.cells (tb6.map fun y : RR => Value.int .i64 y.f3).toArray 3)) (al2_l _ _ _).1 (al2_l _ _ _).2 (grp_new w6 tb6 9 3)) ?_; rintro e wg ⟨B, C, rfl, hc, hb⟩; have HC : Hid (∀ j u, (tb6.flatMap rrC)[j]? = some u → wg.cell? ((⟨B, 0, none⟩ : Addr).add j) = some u) := hc; have OX : OwnB 57 5 rrC w.heap.size ((((((([] : List RR) ++ tb0) ++ tb1) ++ tb2) ++ tb3) ++ tb4) ++ tb5) (v6) wg := (O6.out.below (al2_b _ _ _)).below hb; have BX : Below w.heap.size w wg := n_below (n_below B6.out B6.out.size (al2_b _ _ _)) (n_below B6.out B6.out.size (al2_b _ _ _)).size hb; clear hc hb)))
  go_upto_region 10 with (first | (have HQ := HC; refine wpList_appM tb7 _ rfl (.tmp 38) (.tmp 41) rfl _ (by rfl) OX ⟨B, 0, none⟩ C (by rfl) HC.out (by decide) ?_; intro v8 w8 hO hB; have O8 : Hid (OwnB 57 5 rrC w.heap.size ((((((((([] : List RR) ++ tb0) ++ tb1) ++ tb2) ++ tb3) ++ tb4) ++ tb5) ++ tb6) ++ tb7) v8 w8) := hO; have B8 : Hid (Below w.heap.size w w8) := BX.trans hB; clear hO hB OX BX HC HQ) | (go_at_call 30; go_loud (refine Calls.mono (group_c tb7 ⟨#[82]⟩ 51 0 w7.heap.size (w7.heap.size + 1) 8 hl7 (by rfl) (by decide) (by decide) ((w7.alloc (.cells (tb7.map fun y : RR => Value.string y.n).toArray 9)).alloc (.cells (tb7.map fun y : RR => Value.int .i64 y.f3).toArray 3)) (al2_l _ _ _).1 (al2_l _ _ _).2 (grp_new w7 tb7 9 3)) ?_; rintro e wg ⟨B, C, rfl, hc, hb⟩; have HC : Hid (∀ j u, (tb7.flatMap rrC)[j]? = some u → wg.cell? ((⟨B, 0, none⟩ : Addr).add j) = some u) := hc; have OX : OwnB 57 5 rrC w.heap.size (((((((([] : List RR) ++ tb0) ++ tb1) ++ tb2) ++ tb3) ++ tb4) ++ tb5) ++ tb6) (v7) wg := (O7.out.below (al2_b _ _ _)).below hb; have BX : Below w.heap.size w wg := n_below (n_below B7.out B7.out.size (al2_b _ _ _)) (n_below B7.out B7.out.size (al2_b _ _ _)).size hb; clear hc hb)))
  go_upto_region 11 with (have OX : OwnB 57 5 rrC w.heap.size ((((((((([] : List RR) ++ tb0) ++ tb1) ++ tb2) ++ tb3) ++ tb4) ++ tb5) ++ tb6) ++ tb7) (v8) (w8.alloc (.cells #[.string ⟨#[115, 117, 98]⟩, .string ⟨#[82]⟩, .int .i64 51, .int .i64 0, .int .i64 32, .string ⟨#[115, 114, 97]⟩, .string ⟨#[82]⟩, .int .i64 51, .int .i64 5, .int .i64 32] 57)) := O8.out.below (below_alloc _ _); have BX : Below w.heap.size w (w8.alloc (.cells #[.string ⟨#[115, 117, 98]⟩, .string ⟨#[82]⟩, .int .i64 51, .int .i64 0, .int .i64 32, .string ⟨#[115, 114, 97]⟩, .string ⟨#[82]⟩, .int .i64 51, .int .i64 5, .int .i64 32] 57)) := n_below B8.out B8.out.size (below_alloc _ _); refine wpList_appM tb8 _ rfl (.tmp 43) (.tmp 46) rfl _ (by rfl) OX ⟨w8.heap.size, 0, none⟩ 2 (by rfl) (fun j u hj => new_cells w8 (tb8.flatMap rrC) 57 j u hj) (by decide) ?_; intro v9 w9 hO hB; have O9 : Hid (OwnB 57 5 rrC w.heap.size (((((((((([] : List RR) ++ tb0) ++ tb1) ++ tb2) ++ tb3) ++ tb4) ++ tb5) ++ tb6) ++ tb7) ++ tb8) v9 w9) := hO; have B9 : Hid (Below w.heap.size w w9) := BX.trans hB; clear hO hB OX BX)
  go_upto_region 12 with (first | (have HQ := HC; refine wpList_appM tb9 _ rfl (.tmp 48) (.tmp 51) rfl _ (by rfl) OX ⟨B, 0, none⟩ C (by rfl) HC.out (by decide) ?_; intro v10 w10 hO hB; have O10 : Hid (OwnB 57 5 rrC w.heap.size ((((((((((([] : List RR) ++ tb0) ++ tb1) ++ tb2) ++ tb3) ++ tb4) ++ tb5) ++ tb6) ++ tb7) ++ tb8) ++ tb9) v10 w10) := hO; have B10 : Hid (Below w.heap.size w w10) := BX.trans hB; clear hO hB OX BX HC HQ) | (go_at_call 30; go_loud (refine Calls.mono (group_c tb9 ⟨#[82]⟩ 51 1 w9.heap.size (w9.heap.size + 1) 8 hl9 (by rfl) (by decide) (by decide) ((w9.alloc (.cells (tb9.map fun y : RR => Value.string y.n).toArray 9)).alloc (.cells (tb9.map fun y : RR => Value.int .i64 y.f3).toArray 3)) (al2_l _ _ _).1 (al2_l _ _ _).2 (grp_new w9 tb9 9 3)) ?_; rintro e wg ⟨B, C, rfl, hc, hb⟩; have HC : Hid (∀ j u, (tb9.flatMap rrC)[j]? = some u → wg.cell? ((⟨B, 0, none⟩ : Addr).add j) = some u) := hc; have OX : OwnB 57 5 rrC w.heap.size (((((((((([] : List RR) ++ tb0) ++ tb1) ++ tb2) ++ tb3) ++ tb4) ++ tb5) ++ tb6) ++ tb7) ++ tb8) (v9) wg := (O9.out.below (al2_b _ _ _)).below hb; have BX : Below w.heap.size w wg := n_below (n_below B9.out B9.out.size (al2_b _ _ _)) (n_below B9.out B9.out.size (al2_b _ _ _)).size hb; clear hc hb)))
  go_wp2_with (have OX : OwnB 57 5 rrC w.heap.size ((((((((((([] : List RR) ++ tb0) ++ tb1) ++ tb2) ++ tb3) ++ tb4) ++ tb5) ++ tb6) ++ tb7) ++ tb8) ++ tb9) (v10) (w10.alloc (.cells #[.string ⟨#[101, 99, 97, 108, 108]⟩, .string ⟨#[69]⟩, .int .i64 115, .int .i64 0, .int .i64 0, .string ⟨#[101, 98, 114, 101, 97, 107]⟩, .string ⟨#[69]⟩, .int .i64 115, .int .i64 0, .int .i64 0] 57)) := O10.out.below (below_alloc _ _); have BX : Below w.heap.size w (w10.alloc (.cells #[.string ⟨#[101, 99, 97, 108, 108]⟩, .string ⟨#[69]⟩, .int .i64 115, .int .i64 0, .int .i64 0, .string ⟨#[101, 98, 114, 101, 97, 107]⟩, .string ⟨#[69]⟩, .int .i64 115, .int .i64 0, .int .i64 0] 57)) := n_below B10.out B10.out.size (below_alloc _ _); refine wpList_appM tb10 _ rfl (.tmp 53) (.tmp 56) rfl _ (by rfl) OX ⟨w10.heap.size, 0, none⟩ 2 (by rfl) (fun j u hj => new_cells w10 (tb10.flatMap rrC) 57 j u hj) (by decide) ?_; intro v11 w11 hO hB; have O11 : Hid (OwnB 57 5 rrC w.heap.size (((((((((((([] : List RR) ++ tb0) ++ tb1) ++ tb2) ++ tb3) ++ tb4) ++ tb5) ++ tb6) ++ tb7) ++ tb8) ++ tb9) ++ tb10) v11 w11) := hO; have B11 : Hid (Below w.heap.size w w11) := BX.trans hB; clear hO hB OX BX)
  go_ret
  have E : (((((((((((([] : List RR) ++ tb0) ++ tb1) ++ tb2) ++ tb3) ++ tb4) ++ tb5) ++ tb6) ++ tb7) ++ tb8) ++ tb9) ++ tb10) = rowsR := rowsR_is
  have OL := O11.out
  rw [E] at OL
  obtain ⟨A, C, hv, hr⟩ := OL.shape rr_len
  obtain ⟨B, rfl, _, hB, _, hR⟩ := hr (by decide)
  obtain ⟨B2, o2, e2, hc2⟩ := rows_all rr_len hR (by decide)
  cases e2
  exact ⟨B, C, congrArg Ending.returned hv, hc2, B11.out⟩
end Go.Proofs.Ytiiebppcamaliaa
