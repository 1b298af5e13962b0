/-
  Proved: what placesOf answers: where each line stands.
-/
import Derived.Test.YtcdeckbobabdkaaAsmall
import Derived.Test.YtcdeckbobabdkaaAmath
import Derived.Test.YtcdeckbobabdkaaPn
import Derived.Deep.QuietTactic
namespace Go.Proofs.Ytcdeckbobabdkaa
open Go.RowKit
set_option linter.unusedVariables false
set_option linter.unusedSimpArgs false
set_option maxRecDepth 20000

theorem mixedA : Try.prog.follows .mixedOrders = true := by kernel_rfl

/-- Pads fit. -/
def Sml (l : List Ln) : Prop := (∀ y ∈ l, y.k = 5 → y.n ≤ 1048576) ∧ ∀ p, p ≤ l.length → atP l (fun _ => false) p ≤ 4194304 + 4 * p
theorem shA_cons (y : Ln) (t : List Ln) (j : Nat) : shA (y :: t) (j + 1) = shA t j := by unfold shA; rfl
theorem at0_cons (y : Ln) (t : List Ln) (p : Nat) : atP (y :: t) (fun _ => false) (p + 1) = shB y + atP t (fun _ => false) p := by
  induction p with
  | zero =>
    show (0 : Int) + (shA (y :: t) 0 + if false = true then 4 else 0) = _
    simp [shA, atP]
  | succ p ih =>
    show atP (y :: t) (fun _ => false) (p + 1) + (shA (y :: t) (p + 1) + if false = true then 4 else 0) = shB y + (atP t (fun _ => false) p + (shA t p + if false = true then 4 else 0))
    rw [ih, shA_cons]
    omega
theorem frm_small : ∀ (l : List Ln) (r : Int), 0 ≤ r → frm r l = true → (∀ y ∈ l, y.k = 5 → y.n ≤ r) ∧ ∀ p, p ≤ l.length → atP l (fun _ => false) p ≤ 4 * r + 4 * p
  | [], r, h0, _ => ⟨(by simp), fun p hp => by
      have : p = 0 := by simpa using hp
      subst this
      show (0 : Int) ≤ _
      omega⟩
  | y :: t, r, h0, h => by
    simp only [frm] at h
    by_cases e1 : y.k < 1 ∨ 5 < y.k
    · rw [if_pos e1] at h; cases h
    rw [if_neg e1] at h
    by_cases e2 : y.k ≠ 5 ∨ y.n ≤ 0
    · rw [if_pos e2] at h
      obtain ⟨h1, h2⟩ := frm_small t r h0 h
      refine ⟨fun z hz hk => ?_, fun p hp => ?_⟩
      · rcases List.mem_cons.1 hz with rfl | hz
        · omega
        · exact h1 z hz hk
      · cases p with
        | zero => show (0 : Int) ≤ _; omega
        | succ p =>
          rw [at0_cons]
          have := h2 p (by simpa using hp)
          have hs : shB y ≤ 4 := by
            unfold shB
            split
            · omega
            · split <;> omega
          omega
    · rw [if_neg e2] at h
      by_cases e3 : r < y.n
      · rw [if_pos e3] at h; cases h
      rw [if_neg e3] at h
      obtain ⟨h1, h2⟩ := frm_small t (r - y.n) (by omega) h
      refine ⟨fun z hz hk => ?_, fun p hp => ?_⟩
      · rcases List.mem_cons.1 hz with rfl | hz
        · omega
        · have := h1 z hz hk
          omega
      · cases p with
        | zero => show (0 : Int) ≤ _; omega
        | succ p =>
          rw [at0_cons]
          have := h2 p (by simpa using hp)
          have hs : shB y = 4 * y.n := by
            unfold shB
            split
            · omega
            · split <;> omega
          omega
theorem frm_sml {l : List Ln} (h : frmB l = true) : Sml l := by
  obtain ⟨h1, h2⟩ := frm_small l 1048576 (by omega) h
  exact ⟨h1, fun p hp => by have := h2 p hp; omega⟩
theorem atP_in {l : List Ln} (h : Sml l) (L : Nat → Bool) {p : Nat} (hp : p ≤ l.length) : 0 ≤ atP l L p ∧ atP l L p ≤ 4194304 + 8 * p := by
  have h1 := h.2 p hp
  have h2 := atP_step l (fun _ => false) (Nat.zero_le p)
  have h3 := cn_le L p
  rw [atP_cn]
  simp only [atP] at h2
  omega
theorem shB_in {l : List Ln} (h : Sml l) {y : Ln} (hy : y ∈ l) : 0 ≤ shB y ∧ shB y ≤ 4194304 := by
  have := h.1 y hy
  unfold shB
  split
  · omega
  · split
    · rename_i h5
      have := this h5
      omega
    · omega

set_option maxHeartbeats 4000000 in
theorem placesOf_c (l : List Ln) (v : Value) (rb C2 : Nat) (L : Nat → Bool) (w : World) (h : LsIn w l v) (hB : BZ w rb l.length L) (hl : l.length ≤ 1000) (hsm : Sml l) :
    Calls Try.prog 19 #[v, .slice (some ⟨rb, 0, none⟩) l.length C2] w fun e w' => ∃ ab, e = .returned (.slice (some ⟨ab, 0, none⟩) (l.length + 1) (l.length + 1)) ∧ w.heap.size ≤ ab ∧ IZ w' ab (l.length + 1) (atP l L) ∧ Below w.heap.size w w' := by
  obtain ⟨A, C, rfl, hr⟩ := h
  have R : Hid (RowsIn w 8 lnC l A) := hr
  have RB : Hid (BZ w rb l.length L) := hB
  have SM : Hid (Sml l) := hsm
  clear hr hB hsm
  have hmk := make_i (l.length + 1) (by omega)
  have hc1 : ((l.length + 1 : Nat) : Int) = (l.length : Int) + 1 := by omega
  rw [hc1] at hmk
  go_enter Try.func19, Try.ntmps19
  go_wp2
  have I0 : Hid (IZ (w.alloc (.cells (madeCells #[.int .i64 0] (l.length + 1)) 3)) w.heap.size (l.length + 1) (fun j => if j ≤ 0 then atP l L j else 0)) := (IZ.made w _).ext fun j _ => by
    split
    · obtain rfl : j = 0 := by omega
      rfl
    · rfl
  have W0 : Hid (Below w.heap.size w (w.alloc (.cells (madeCells #[.int .i64 0] (l.length + 1)) 3))) := below_alloc _ _
  generalize w.alloc (.cells (madeCells #[.int .i64 0] (l.length + 1)) 3) = wa at *
  generalize hab : w.heap.size = ab at *
  clear hmk
  go_loopw [14] (fun iv wr => ∃ i : Nat, i ≤ l.length ∧ iv = .int .i64 (i : Int) ∧ IZ wr ab (l.length + 1) (fun j => if j ≤ i then atP l L j else 0) ∧ Below ab w wr) (fun iv _ => l.length - (intOf iv).toNat)
  case atStart => exact ⟨0, by omega, rfl, I0.out, W0.out⟩
  case round =>
    obtain ⟨i, hi, rfl, hz, hbl⟩ := hrel
    rcases Nat.lt_or_ge i l.length with hlt | hge
    · have hiz : (i : Int) < l.length := by omega
      obtain ⟨y, hy⟩ : ∃ y, l[i]? = some y := ⟨l[i], List.getElem?_eq_getElem hlt⟩
      obtain ⟨b1, o1, rfl, hb1, c0, c1, c2, c3, c4, c5, c6, c7⟩ := ln_cells R.out (by rw [hab]; exact hbl) i y hy
      have SC : Hid (∀ w, Calls Try.prog 30 #[.agg (lnC y).toArray] w fun e w' => e = .returned (.int .i64 (shB y)) ∧ Below w.heap.size w w') := fun w => shortBytes_c y (SM.out.1 y (List.mem_of_getElem? hy)) w
      have hpb := atP_in SM.out L (p := i) (by omega)
      have hsb := shB_in SM.out (List.mem_of_getElem? hy)
      have hst : atP l L (i + 1) = atP l L i + (shB y + if L i then 4 else 0) := by
        show atP l L i + (shA l i + if L i then 4 else 0) = _
        unfold shA
        rw [hy]
        rfl
      have ci := GZ.cell hz i (by omega)
      simp only [Nat.le_refl, if_true] at ci
      have z1 : ab < wr.heap.size := GZ.lt hz
      have KB : Hid (∀ wy x, Below (wr.alloc (.cells (lnC y).toArray 30)).heap.size (wr.alloc (.cells (lnC y).toArray 30)) wy → IZ (wy.setCell ⟨ab, i + 1, none⟩ (.int .i64 x)) ab (l.length + 1) (pu (fun j => if j ≤ i then atP l L j else 0) (i + 1) x) ∧ (wy.setCell ⟨ab, i + 1, none⟩ (.int .i64 x)).cell? ⟨rb, i, none⟩ = some (.bool (L i)) ∧ Below ab w (wy.setCell ⟨ab, i + 1, none⟩ (.int .i64 x))) := fun wy x hwy => by
        have k1 := hz.below (below_alloc wr (.cells (lnC y).toArray 30)) z1
        have k2 : IZ wy ab (l.length + 1) _ := k1.below hwy (by simp; omega)
        have k3 := k2.set (i + 1) (by omega) x
        have n1 := hbl.trans ((below_alloc wr (.cells (lnC y).toArray 30)).mono (by have := hbl.size; omega))
        have n2 := n1.trans (hwy.mono (by have := n1.size; omega))
        have n3 := n2.trans (Kp.below (Kp.set (F := fun c => c = ab) wy (b := ab) (i + 1) (.int .i64 x) rfl) (by have := n2.size; omega) fun b hb => by omega)
        have n4 := RB.out.below n3 (by have := GZ.lt RB.out; omega)
        exact ⟨k3, GZ.cell n4 i hlt, n3⟩
      have FZ : Hid (∀ wy, Below (wr.alloc (.cells (lnC y).toArray 30)).drew.heap.size (wr.alloc (.cells (lnC y).toArray 30)).drew wy → wy.frozen? ⟨ab, i + 1, none⟩ = false ∧ wy.cell? ⟨ab, i + 1, none⟩ = some (.int .i64 0)) := fun wy hwy => by
        have k1 := hz.below (below_alloc wr (.cells (lnC y).toArray 30)) z1
        have k2 := (k1.below (below_drew _) k1.lt).below hwy (by have := k1.lt; exact this)
        refine ⟨k2.frozen (i + 1), ?_⟩
        have h0 := k2.cell (i + 1) (by omega)
        have hn : ¬ i + 1 ≤ i := by omega
        simp only [hn, if_false] at h0
        exact h0
      have SF : Hid (∀ w', Below (wr.alloc (.cells (lnC y).toArray 30)).drew.heap.size (wr.alloc (.cells (lnC y).toArray 30)).drew w' → w'.cell? ⟨ab, i, none⟩ = some (.int .i64 (atP l L i)) ∧ (∀ j u, (lnC y)[j]? = some u → w'.cell? ⟨wr.heap.size, j, none⟩ = some u)) := fun w' hw' => by
        have k1 := hz.below (below_alloc wr (.cells (lnC y).toArray 30)) z1
        have k2 := (k1.below (below_drew _) k1.lt).below hw' (by have := k1.lt; exact this)
        have a1 : At (wr.alloc (.cells (lnC y).toArray 30)) wr.heap.size (lnC y).toArray 30 := At.new _ _ _
        have a2 := (a1.below (below_drew _) a1.lt).below hw' a1.lt
        refine ⟨?_, fun j u hj => by rw [a2.cell]; simpa using hj⟩
        have := k2.cell i (by omega)
        simpa using this
      have NX : Hid (∀ j, j < l.length + 1 → pu (fun j => if j ≤ i then atP l L j else 0) (i + 1) (atP l L i + (shB y + if L i then 4 else 0)) j = if j ≤ i + 1 then atP l L j else 0) := fun j hj => by
        unfold pu
        by_cases e : j = i + 1
        · subst e
          rw [if_pos rfl, if_pos (Nat.le_refl _), hst]
        · rw [if_neg e]
          have : (j ≤ i) = (j ≤ i + 1) := by rw [eq_iff_iff]; omega
          simp only [this]
      have hiz3 : (i : Int) < (l.length : Int) + 1 := by omega
      have hiz4 : (i : Int) + 1 < (l.length : Int) + 1 := by omega
      have wz1 : IntKind.i64.wrap ((i : Int) + 1) = (i : Int) + 1 := wrap_in _ (by omega)
      have wz2 : IntKind.i64.wrap (atP l L i + shB y) = atP l L i + shB y := wrap_in _ (by omega)
      clear hz hbl R RB SM hst
      obtain ⟨k0, s, ⟨rd, q1, q2, im⟩, lb, n0⟩ := y
      simp only [lnC] at *
      have SF : Hid (∀ w', Below (wr.alloc (.cells #[.int .i64 k0, .string s, .int .i64 rd, .int .i64 q1, .int .i64 q2, .int .i64 im, .string lb, .int .i64 n0] 30)).drew.heap.size (wr.alloc (.cells #[.int .i64 k0, .string s, .int .i64 rd, .int .i64 q1, .int .i64 q2, .int .i64 im, .string lb, .int .i64 n0] 30)).drew w' → w'.cell? ⟨ab, i, none⟩ = some (.int .i64 (atP l L i)) ∧ w'.cell? ⟨wr.heap.size, 0, none⟩ = some (.int .i64 k0) ∧ w'.cell? ⟨wr.heap.size, 1, none⟩ = some (.string s) ∧ w'.cell? ⟨wr.heap.size, 2, none⟩ = some (.int .i64 rd) ∧ w'.cell? ⟨wr.heap.size, 3, none⟩ = some (.int .i64 q1) ∧ w'.cell? ⟨wr.heap.size, 4, none⟩ = some (.int .i64 q2) ∧ w'.cell? ⟨wr.heap.size, 5, none⟩ = some (.int .i64 im) ∧ w'.cell? ⟨wr.heap.size, 6, none⟩ = some (.string lb) ∧ w'.cell? ⟨wr.heap.size, 7, none⟩ = some (.int .i64 n0)) := fun w' hw' => by
        obtain ⟨g1, g2⟩ := SF.out w' hw'
        exact ⟨g1, g2 0 _ rfl, g2 1 _ rfl, g2 2 _ rfl, g2 3 _ rfl, g2 4 _ rfl, g2 5 _ rfl, g2 6 _ rfl, g2 7 _ rfl⟩
      generalize hbb : shB _ = sb at *
      clear hbb
      generalize hpp : atP l L i = p at *
      have HPP : Hid (atP l L i = p) := hpp
      clear hpp
      go_wp2
      generalize hwd0 : wr.alloc (.cells #[.int .i64 k0, .string s, .int .i64 rd, .int .i64 q1, .int .i64 q2, .int .i64 im, .string lb, .int .i64 n0] 30) = wl at *
      have HW : Hid (wr.alloc (.cells #[.int .i64 k0, .string s, .int .i64 rd, .int .i64 q1, .int .i64 q2, .int .i64 im, .string lb, .int .i64 n0] 30) = wl) := hwd0
      clear hwd0
      have SK := SF
      generalize hln : wr.heap.size = ln at *
      have DRW : Hid (∀ w', Below wl.drew.heap.size wl.drew w' → Below wl.heap.size wl w') := fun w' h' => (below_drew wl).trans (h'.mono (Nat.le_refl _))
      refine wp_region_N (fun w' => w'.cell? ⟨ab, i, none⟩ = some (.int .i64 p) ∧ w'.cell? ⟨ln, 0, none⟩ = some (.int .i64 k0) ∧ w'.cell? ⟨ln, 1, none⟩ = some (.string s) ∧ w'.cell? ⟨ln, 2, none⟩ = some (.int .i64 rd) ∧ w'.cell? ⟨ln, 3, none⟩ = some (.int .i64 q1) ∧ w'.cell? ⟨ln, 4, none⟩ = some (.int .i64 q2) ∧ w'.cell? ⟨ln, 5, none⟩ = some (.int .i64 im) ∧ w'.cell? ⟨ln, 6, none⟩ = some (.string lb) ∧ w'.cell? ⟨ln, 7, none⟩ = some (.int .i64 n0)) (fun j => j != 11) mixedA (SF.out _ (Below.refl _ _)) ?_
      intro S0
      generalize wl.drew = wd at *
      refine wpAnyN_take (i := 0) (v := ?_) rfl (by kernel_rfl) (by kernel_rfl) (by kernel_rfl) (by kernel_rfl) (fun _ _ _ h => h) (Or.inl ⟨by rfl, ?_⟩) S0 ?_
      rotate_left
      · intro w' hS'
        obtain ⟨h0, h1, h2, h3, h4, h5, h6, h7, h8⟩ := hS'
        (try go_simp)
        first | done | exact rfl | exact ⟨rfl, rfl⟩
      (try simp only [Act.put, List.getElem_toArray, List.getElem_cons_zero, List.setIfInBounds_toArray, List.set_cons_zero, List.set_cons_succ])
      refine wpAnyN_take (i := 1) (v := ?_) rfl (by kernel_rfl) (by kernel_rfl) (by kernel_rfl) (by kernel_rfl) (fun _ _ _ h => h) (Or.inl ⟨by rfl, ?_⟩) S0 ?_
      rotate_left
      · intro w' hS'
        obtain ⟨h0, h1, h2, h3, h4, h5, h6, h7, h8⟩ := hS'
        (try go_simp)
        first | done | exact rfl | exact ⟨rfl, rfl⟩
      (try simp only [Act.put, List.getElem_toArray, List.getElem_cons_succ, List.getElem_cons_zero, List.setIfInBounds_toArray, List.set_cons_zero, List.set_cons_succ])
      refine wpAnyN_take (i := 2) (v := ?_) rfl (by kernel_rfl) (by kernel_rfl) (by kernel_rfl) (by kernel_rfl) (fun _ _ _ h => h) (Or.inl ⟨by rfl, ?_⟩) S0 ?_
      rotate_left
      · intro w' hS'
        obtain ⟨h0, h1, h2, h3, h4, h5, h6, h7, h8⟩ := hS'
        (try go_simp)
        first | done | exact rfl | exact ⟨rfl, rfl⟩
      (try simp only [Act.put, List.getElem_toArray, List.getElem_cons_succ, List.getElem_cons_zero, List.setIfInBounds_toArray, List.set_cons_zero, List.set_cons_succ])
      refine wpAnyN_take (i := 3) (v := ?_) rfl (by kernel_rfl) (by kernel_rfl) (by kernel_rfl) (by kernel_rfl) (fun _ _ _ h => h) (Or.inl ⟨by rfl, ?_⟩) S0 ?_
      rotate_left
      · intro w' hS'
        obtain ⟨h0, h1, h2, h3, h4, h5, h6, h7, h8⟩ := hS'
        (try go_simp)
        first | done | exact rfl | exact ⟨rfl, rfl⟩
      (try simp only [Act.put, List.getElem_toArray, List.getElem_cons_succ, List.getElem_cons_zero, List.setIfInBounds_toArray, List.set_cons_zero, List.set_cons_succ])
      refine wpAnyN_take (i := 4) (v := ?_) rfl (by kernel_rfl) (by kernel_rfl) (by kernel_rfl) (by kernel_rfl) (fun _ _ _ h => h) (Or.inl ⟨by rfl, ?_⟩) S0 ?_
      rotate_left
      · intro w' hS'
        obtain ⟨h0, h1, h2, h3, h4, h5, h6, h7, h8⟩ := hS'
        (try go_simp)
        first | done | exact rfl | exact ⟨rfl, rfl⟩
      (try simp only [Act.put, List.getElem_toArray, List.getElem_cons_succ, List.getElem_cons_zero, List.setIfInBounds_toArray, List.set_cons_zero, List.set_cons_succ])
      refine wpAnyN_take (i := 5) (v := ?_) rfl (by kernel_rfl) (by kernel_rfl) (by kernel_rfl) (by kernel_rfl) (fun _ _ _ h => h) (Or.inl ⟨by rfl, ?_⟩) S0 ?_
      rotate_left
      · intro w' hS'
        obtain ⟨h0, h1, h2, h3, h4, h5, h6, h7, h8⟩ := hS'
        (try go_simp)
        first | done | exact rfl | exact ⟨rfl, rfl⟩
      (try simp only [Act.put, List.getElem_toArray, List.getElem_cons_succ, List.getElem_cons_zero, List.setIfInBounds_toArray, List.set_cons_zero, List.set_cons_succ])
      refine wpAnyN_take (i := 6) (v := ?_) rfl (by kernel_rfl) (by kernel_rfl) (by kernel_rfl) (by kernel_rfl) (fun _ _ _ h => h) (Or.inl ⟨by rfl, ?_⟩) S0 ?_
      rotate_left
      · intro w' hS'
        obtain ⟨h0, h1, h2, h3, h4, h5, h6, h7, h8⟩ := hS'
        (try go_simp)
        first | done | exact rfl | exact ⟨rfl, rfl⟩
      (try simp only [Act.put, List.getElem_toArray, List.getElem_cons_succ, List.getElem_cons_zero, List.setIfInBounds_toArray, List.set_cons_zero, List.set_cons_succ])
      refine wpAnyN_take (i := 7) (v := ?_) rfl (by kernel_rfl) (by kernel_rfl) (by kernel_rfl) (by kernel_rfl) (fun _ _ _ h => h) (Or.inl ⟨by rfl, ?_⟩) S0 ?_
      rotate_left
      · intro w' hS'
        obtain ⟨h0, h1, h2, h3, h4, h5, h6, h7, h8⟩ := hS'
        (try go_simp)
        first | done | exact rfl | exact ⟨rfl, rfl⟩
      (try simp only [Act.put, List.getElem_toArray, List.getElem_cons_succ, List.getElem_cons_zero, List.setIfInBounds_toArray, List.set_cons_zero, List.set_cons_succ])
      refine wpAnyN_one (i := 8) (by kernel_rfl) rfl (fun K hK => ?_)
      go_simp
      go_at_call 30
      refine (SC.out _).mono ?_
      rintro e w5 ⟨rfl, hb5⟩
      have B5 : Below wd.heap.size wd w5 := hb5
      have S9 := SF.out w5 B5
      go_wp2_with fail
      refine hK _ _ (fun _ => S9) ?_
      clear hK K
      (try simp only [Act.put, List.getElem_toArray, List.getElem_cons_succ, List.getElem_cons_zero, List.setIfInBounds_toArray, List.set_cons_zero, List.set_cons_succ])
      refine wpAnyN_take (i := 9) (v := ?_) rfl (by kernel_rfl) (by kernel_rfl) (by kernel_rfl) (by kernel_rfl) (fun _ _ _ h => h) (Or.inl ⟨by rfl, ?_⟩) S9 ?_
      rotate_left
      · intro w' hS'
        obtain ⟨h0, h1, h2, h3, h4, h5, h6, h7, h8⟩ := hS'
        (try go_simp)
        first | done | exact rfl | exact ⟨rfl, rfl⟩
      (try simp only [Act.put, List.getElem_toArray, List.getElem_cons_succ, List.getElem_cons_zero, List.setIfInBounds_toArray, List.set_cons_zero, List.set_cons_succ])
      refine wpAnyN_take (i := 10) (v := ?_) rfl (by kernel_rfl) (by kernel_rfl) (by kernel_rfl) (by kernel_rfl) (fun _ _ _ h => h) (Or.inl ⟨by rfl, ?_⟩) S9 ?_
      rotate_left
      · intro w' hS'
        obtain ⟨h0, h1, h2, h3, h4, h5, h6, h7, h8⟩ := hS'
        (try go_simp)
        first | done | exact rfl | exact ⟨rfl, rfl⟩
      (try simp only [Act.put, List.getElem_toArray, List.getElem_cons_succ, List.getElem_cons_zero, List.setIfInBounds_toArray, List.set_cons_zero, List.set_cons_succ])
      obtain ⟨fz, fc⟩ := FZ.out w5 B5
      refine wpAnyN_one (i := 11) (by kernel_rfl) rfl (fun K hK => ?_)
      go_simp
      refine hK _ _ (fun h => by cases h) ?_
      clear hK K fz fc
      (try simp only [Act.put, List.getElem_toArray, List.getElem_cons_succ, List.getElem_cons_zero, List.setIfInBounds_toArray, List.set_cons_zero, List.set_cons_succ])
      refine wpAnyN_done (by kernel_rfl) ?_ _
      have Q5 := KB.out w5 (p + sb) (DRW.out w5 B5)
      obtain ⟨q1', q2', q3'⟩ := Q5
      have Z5 : Hid (IZ (w5.setCell ⟨ab, i + 1, none⟩ (.int .i64 (p + sb))) ab (l.length + 1) (pu (fun j => if j ≤ i then atP l L j else 0) (i + 1) (p + sb))) := q1'
      have N5 : Hid (Below ab w (w5.setCell ⟨ab, i + 1, none⟩ (.int .i64 (p + sb)))) := q3'
      have cz := GZ.cell q1' (i + 1) (by omega)
      have fz := GZ.frozen q1' (i + 1)
      simp only [pu, if_true] at cz
      clear q1' q3' S9 KB FZ SF SK SC DRW HW S0 B5 c0 c1 c2 c3 c4 c5 c6 c7
      generalize w5.setCell ⟨ab, i + 1, none⟩ (.int .i64 (p + sb)) = w6 at *
      cases hL : L i with
      | false =>
        rw [hL] at q2' NX
        simp only [Bool.false_eq_true, if_false] at NX
        have G : Hid (IZ w6 ab (l.length + 1) (fun j => if j ≤ i + 1 then atP l L j else 0)) := Z5.out.ext fun j hj => by
          have := NX.out j hj
          rw [← this]
          unfold pu
          split
          · omega
          · rfl
        clear NX Z5 hL
        go_wp2
        go_roundw
        case rel => exact ⟨i + 1, by omega, by congr 1, G.out, N5.out⟩
        case measure => simp [intOf]; omega
      | true =>
        rw [hL] at q2' NX
        simp only [if_true] at NX
        have G : Hid (IZ (w6.setCell ⟨ab, i + 1, none⟩ (.int .i64 (p + sb + 4))) ab (l.length + 1) (fun j => if j ≤ i + 1 then atP l L j else 0)) := (Z5.out.set (i + 1) (by omega) _).ext fun j hj => by
          have := NX.out j hj
          rw [← this]
          unfold pu
          split
          · omega
          · rfl
        have N6 : Hid (Below ab w (w6.setCell ⟨ab, i + 1, none⟩ (.int .i64 (p + sb + 4)))) := N5.out.trans (Kp.below (Kp.set (F := fun c => c = ab) w6 (b := ab) (i + 1) _ rfl) (by have := N5.out.size; omega) fun b hb => by omega)
        clear NX Z5 hL N5
        go_wp2
        go_roundw
        case rel => exact ⟨i + 1, by omega, by congr 1, G.out, N6.out⟩
        case measure => simp [intOf]; omega
    · have hiz : ¬ (i : Int) < l.length := by omega
      obtain rfl : i = l.length := by omega
      have G : Hid (IZ wr ab (l.length + 1) (atP l L)) := hz.ext fun j hj => by
        have : j ≤ l.length := by omega
        simp [this]
      have BW : Hid (Below ab w wr) := hbl
      clear hbl R RB hz
      go_wp2
      go_ret
      exact ⟨ab, rfl, by omega, G.out, BW.out⟩
end Go.Proofs.Ytcdeckbobabdkaa
