/-
  Proved: NamesInner answers true for every number, both kinds of borrows and both ways.
-/
import Derived.Test.YtjdkoahbahecoaaDoorNType
import Derived.Deep.RegionHeld3
import Derived.Deep.Cut
namespace Go.Proofs.YtjdkoahbahecoaaDoor
open Go.RowKit

/-- A type so many Boxes deep. -/
def bxs : Nat → T → T
  | 0, t => t
  | n + 1, t => .mk 11 ⟨#[]⟩ 0 [bxs n t]

theorem inner_plain : ∀ n < 4, ∀ kd, (kd = 12 ∨ kd = 13) → tyE [] (bxs n (.mk 6 ⟨#[]⟩ 0 [])) true = 0 ∧ tyE [] (bxs n (.mk 6 ⟨#[]⟩ 0 [])) false = 0 ∧
    tyE [] (.mk kd ⟨#[]⟩ 0 [bxs n (.mk 6 ⟨#[]⟩ 0 [])]) true = 0 ∧ tyE [] (.mk kd ⟨#[]⟩ 0 [bxs n (.mk 6 ⟨#[]⟩ 0 [])]) false = 57 := by
  intro n hn kd hk
  have h : n = 0 ∨ n = 1 ∨ n = 2 ∨ n = 3 := by omega
  rcases h with rfl | rfl | rfl | rfl <;> rcases hk with rfl | rfl <;> decide +kernel

theorem inner_deep : ∀ n < 4, ∀ kd, (kd = 12 ∨ kd = 13) → tyE [] (bxs n (.mk kd ⟨#[]⟩ 0 [.mk 6 ⟨#[]⟩ 0 []])) true = (if n = 0 then 0 else 57) ∧ tyE [] (bxs n (.mk kd ⟨#[]⟩ 0 [.mk 6 ⟨#[]⟩ 0 []])) false = 57 ∧
    tyE [] (.mk kd ⟨#[]⟩ 0 [bxs n (.mk kd ⟨#[]⟩ 0 [.mk 6 ⟨#[]⟩ 0 []])]) true = 57 := by
  intro n hn kd hk
  have h : n = 0 ∨ n = 1 ∨ n = 2 ∨ n = 3 := by omega
  rcases h with rfl | rfl | rfl | rfl <;> rcases hk with rfl | rfl <;> decide +kernel

/-- A type lies in memory, whatever is written into the block B. -/
def Still (B : Nat) (w : World) (t : T) (cs : List Value) : Prop :=
  ∀ w', w.heap.size ≤ w'.heap.size → (∀ b o, b ≠ B → b < w.heap.size → w'.cell? ⟨b, o, none⟩ = w.cell? ⟨b, o, none⟩) → TIn w' t cs

theorem Still.tin {B : Nat} {w : World} {t : T} {cs : List Value} (h : Still B w t cs) : TIn w t cs := h w (Nat.le_refl _) (fun _ _ _ _ => rfl)

theorem Still.later {B : Nat} {w w' : World} {t : T} {cs : List Value} (h : Still B w t cs) (hs : w.heap.size ≤ w'.heap.size) (hc : ∀ b o, b ≠ B → b < w.heap.size → w'.cell? ⟨b, o, none⟩ = w.cell? ⟨b, o, none⟩) : Still B w' t cs :=
  fun w2 h1 h2 => h w2 (Nat.le_trans hs h1) (fun b o hb hl => (h2 b o hb (by omega)).trans (hc b o hb hl))

theorem still_leaf (B : Nat) (w : World) (k : Int) (s : ByteArray) (n : Int) (A : Option Addr) (C : Nat) : Still B w (.mk k s n []) [.int .i64 k, .string s, .int .i64 n, .slice A 0 C] :=
  fun _ _ _ => TIn.of (es := []) ⟨by simp, fun i hi => absurd hi (Nat.not_lt_zero _)⟩

theorem set4_cell (W : World) (B b o : Nat) (x y z u : Value) (h : b ≠ B) : ((((W.setCell ⟨B, 0, none⟩ x).setCell ⟨B, 1, none⟩ y).setCell ⟨B, 2, none⟩ z).setCell ⟨B, 3, none⟩ u).cell? ⟨b, o, none⟩ = W.cell? ⟨b, o, none⟩ := by
  unfold World.cell?
  rw [heap_far _ _ _ _ _ h, heap_far _ _ _ _ _ h, heap_far _ _ _ _ _ h, heap_far _ _ _ _ _ h]

theorem set4_size (W : World) (B : Nat) (x y z u : Value) : ((((W.setCell ⟨B, 0, none⟩ x).setCell ⟨B, 1, none⟩ y).setCell ⟨B, 2, none⟩ z).setCell ⟨B, 3, none⟩ u).heap.size = W.heap.size := by simp

/-- One level more: the type's cells are laid into a new block. -/
theorem Still.wrap {B : Nat} {w : World} {t : T} {cs : List Value} (h : Still B w t cs) (hB : B < w.heap.size) (k : Int) (ty : TypeId) :
    Still B (w.alloc (.cells cs.toArray ty)) (.mk k ⟨#[]⟩ 0 [t]) [.int .i64 k, .string ⟨#[]⟩, .int .i64 0, .slice (some ⟨w.heap.size, 0, none⟩) 1 1] := fun w' h1 h2 => by
  rw [World.size_alloc] at h1 h2
  have ht : TIn w' t cs := h w' (by omega) (fun b o hb hl => (h2 b o hb (by omega)).trans ((below_alloc w _).cell (p := ⟨b, o, none⟩) hl))
  have hr : RowAt w' w.heap.size 0 cs := ⟨by omega, fun j v hj => by
    rw [h2 w.heap.size (0 + j) (by omega) (by omega), (At.new w cs.toArray ty).cell]
    simpa using hj⟩
  exact TIn.of (es := [t]) ⟨by simp, fun i hi => ⟨w.heap.size, 0, cs, rfl, by
    have : i = 0 := by simpa using hi
    subst this
    simpa using hr, by
    have : i = 0 := by simpa using hi
    subst this
    simpa using ht⟩⟩

/-- .. where the block B, which is written as the type's own place, lies ahead. -/
theorem Still.wrap2 {w : World} {t : T} {cs : List Value} {o : Obj} (h : Still w.heap.size (w.alloc o) t cs) (_ : True) (k : Int) (ty : TypeId) (o' : Obj) :
    Still w.heap.size ((w.alloc o').alloc (.cells cs.toArray ty)) (.mk k ⟨#[]⟩ 0 [t]) [.int .i64 k, .string ⟨#[]⟩, .int .i64 0, .slice (some ⟨w.heap.size + 1, 0, none⟩) 1 1] := by
  have h2 : Still w.heap.size (w.alloc o') t cs := h.later (by simp) (fun b o2 hb hl => by
    rw [World.size_alloc] at hl
    rw [(below_alloc w o').cell (p := ⟨b, o2, none⟩) (by simp only; omega), (below_alloc w o).cell (p := ⟨b, o2, none⟩) (by simp only; omega)])
  have := h2.wrap (by simp) k ty
  simpa using this

theorem Still.put {B : Nat} {w : World} {t : T} {cs : List Value} (h : Still B w t cs) (x y z u : Value) : Still B ((((w.setCell ⟨B, 0, none⟩ x).setCell ⟨B, 1, none⟩ y).setCell ⟨B, 2, none⟩ z).setCell ⟨B, 3, none⟩ u) t cs :=
  h.later (by rw [set4_size]; exact Nat.le_refl _) (fun b o hb _ => set4_cell _ _ _ _ _ _ _ _ hb)

theorem Still.below {B : Nat} {w w' : World} {t : T} {cs : List Value} (h : Still B w t cs) (hb : Below w.heap.size w w') : Still B w' t cs :=
  h.later hb.size (fun b o _ hl => hb.cell (p := ⟨b, o, none⟩) hl)

theorem inIs (w : World) : IsIn w [] none := ⟨by simp, fun i hi => absurd hi (Nat.not_lt_zero _)⟩

theorem and_mask (v : Int) (n : Nat) (hn : n ≤ 62) : bits .and .i64 v (2 ^ n - 1 : Int) = v % 2 ^ n := by
  have hp : (2 : Nat) ^ n < 2 ^ 63 := Nat.pow_lt_pow_right (by decide) (by omega)
  have hp0 : 0 < (2 : Nat) ^ n := Nat.pow_pos (by decide)
  have hc : ((2 : Int) ^ n - 1) = ((2 ^ n - 1 : Nat) : Int) := by
    rw [Int.natCast_sub (by omega)]; simp
  show IntKind.i64.wrap ((BitVec.ofInt 64 v &&& BitVec.ofInt 64 (2 ^ n - 1 : Int)).toNat : Int) = _
  have hb : (BitVec.ofInt 64 (2 ^ n - 1 : Int)).toNat = 2 ^ n - 1 := by
    rw [hc, BitVec.ofInt_natCast, BitVec.toNat_ofNat]; exact Nat.mod_eq_of_lt (by omega)
  have ha : ((BitVec.ofInt 64 v).toNat : Int) = v % 18446744073709551616 := by
    rw [BitVec.toNat_ofInt]
    have : 0 ≤ v % ((2 ^ 64 : Nat) : Int) := Int.emod_nonneg _ (by decide)
    rw [Int.toNat_of_nonneg this]; rfl
  rw [BitVec.toNat_and, hb, Nat.and_two_pow_sub_one_eq_mod]
  have e : (((BitVec.ofInt 64 v).toNat % 2 ^ n : Nat) : Int) = v % 2 ^ n := by
    rw [Int.natCast_emod, ha]
    have hd : ((2 : Int) ^ n) ∣ 18446744073709551616 := ⟨2 ^ (64 - n), by rw [← Int.pow_add, show n + (64 - n) = 64 by omega]; rfl⟩
    have : (((2 : Nat) ^ n : Nat) : Int) = (2 : Int) ^ n := by simp
    rw [this, Int.emod_emod_of_dvd v hd]
  rw [e]
  have h0 : 0 ≤ v % (2 : Int) ^ n := Int.emod_nonneg _ (by have : (0 : Int) < 2 ^ n := Int.pow_pos (by decide); omega)
  have h1 : v % (2 : Int) ^ n < 2 ^ n := Int.emod_lt_of_pos _ (Int.pow_pos (by decide))
  have h2 : (2 : Int) ^ n < 9223372036854775808 := by
    have : (((2 : Nat) ^ n : Nat) : Int) = (2 : Int) ^ n := by simp
    omega
  simp only [IntKind.wrap, IntKind.bits, IntKind.signed]
  simp
  omega

theorem and1 (v : Int) : bits .and .i64 v 1 = v % 2 := and_mask v 1 (by decide)
theorem and3 (v : Int) : bits .and .i64 v 3 = v % 4 := and_mask v 2 (by decide)

/-- What a world holds that is behind another one: a type's four cells. -/
theorem celT {wr w' : World} {B : Nat} {k : Int} {s : ByteArray} {n : Int} {A : Option Addr} {l C : Nat} {ty : TypeId} (h : At wr B #[.int .i64 k, .string s, .int .i64 n, .slice A l C] ty) (hb : Below wr.heap.size wr w') :
    w'.cell? ⟨B, 0, none⟩ = some (.int .i64 k) ∧ w'.cell? ⟨B, 1, none⟩ = some (.string s) ∧ w'.cell? ⟨B, 2, none⟩ = some (.int .i64 n) ∧ w'.cell? ⟨B, 3, none⟩ = some (.slice A l C) ∧ Hid (Below wr.heap.size wr w') := by
  obtain ⟨c0, c1, c2, c3, _⟩ := cells4 (h.below hb h.lt)
  exact ⟨c0, c1, c2, c3, hb⟩

theorem celT_below {wr w' : World} {a b c d : Prop} (h : a ∧ b ∧ c ∧ d ∧ Hid (Below wr.heap.size wr w')) : Below wr.heap.size wr w' := h.2.2.2.2.out

/-- How it begins. -/
theorem start_deep (w : World) (kd : Int) (o : Obj) : Still w.heap.size ((w.alloc o).alloc (.cells #[.int .i64 6, .string ⟨#[]⟩, .int .i64 0, .slice none 0 0] 29)) (bxs 0 (.mk kd ⟨#[]⟩ 0 [.mk 6 ⟨#[]⟩ 0 []])) [.int .i64 kd, .string ⟨#[]⟩, .int .i64 0, .slice (some ⟨w.heap.size + 1, 0, none⟩) 1 1] :=
  (still_leaf w.heap.size (w.alloc o) 6 ⟨#[]⟩ 0 none 0).wrap2 trivial kd 29 o

theorem start_plain (w w' : World) : Still w.heap.size w' (bxs 0 (.mk 6 ⟨#[]⟩ 0 [])) [.int .i64 6, .string ⟨#[]⟩, .int .i64 0, .slice none 0 0] := still_leaf _ _ 6 ⟨#[]⟩ 0 none 0

theorem step_at {B : Nat} {wr : World} {tk : Int} {ts : ByteArray} {tn : Int} {A : Option Addr} {l C : Nat} (h : At wr B #[.int .i64 tk, .string ts, .int .i64 tn, .slice A l C] 29) (x y z u : Value) (o : Obj) :
    At (((((wr.setCell ⟨B, 0, none⟩ x).setCell ⟨B, 1, none⟩ y).setCell ⟨B, 2, none⟩ z).setCell ⟨B, 3, none⟩ u).alloc o) B #[x, y, z, u] 29 := (h.set4 x y z u).alloc o

theorem step_still {B : Nat} {wr : World} {n : Nat} {t : T} {a b c d : Value} (h : Still B wr (bxs n t) [a, b, c, d]) (hB : B < wr.heap.size) (x y z u : Value) :
    Still B (((((wr.setCell ⟨B, 0, none⟩ x).setCell ⟨B, 1, none⟩ y).setCell ⟨B, 2, none⟩ z).setCell ⟨B, 3, none⟩ u).alloc (.cells #[a, b, c, d] 29)) (bxs (n + 1) t) [.int .i64 11, .string ⟨#[]⟩, .int .i64 0, .slice (some ⟨wr.heap.size, 0, none⟩) 1 1] := by
  have := (h.put x y z u).wrap (by rw [set4_size]; exact hB) 11 29
  rw [set4_size] at this
  exact this

theorem outer_at (w1 : World) (row : Obj) {a b c d : Value} {w2 : World} (hb : Below ((w1.alloc row).alloc (.cells #[a, b, c, d] 29)).heap.size ((w1.alloc row).alloc (.cells #[a, b, c, d] 29)) w2) : At w2 (w1.heap.size + 1) #[a, b, c, d] 29 := by
  have h := At.new (w1.alloc row) #[a, b, c, d] 29
  have := h.below hb h.lt
  simpa using this

theorem step_below {B : Nat} {w wr : World} (h : Below B w wr) (x y z u : Value) (o : Obj) (hs : B ≤ wr.heap.size) :
    Below B w (((((wr.setCell ⟨B, 0, none⟩ x).setCell ⟨B, 1, none⟩ y).setCell ⟨B, 2, none⟩ z).setCell ⟨B, 3, none⟩ u).alloc o) :=
  (below_set4 h (Nat.le_refl _) x y z u).alloc (by rw [set4_size]; exact hs) o

set_option maxRecDepth 100000 in
set_option maxHeartbeats 2000000 in
theorem inner_walk (n : Int) (mu : Bool) (way : Int) (w : World) (ht : Tab w) :
    Calls Tryd.prog 4 #[.int .i64 n, .bool mu, .int .i64 way] w fun e w' => e = .returned (.bool true) ∧ Below w.heap.size w w' := by
  have h3 := and3 n
  have h1 := and1 way
  obtain ⟨m, hm4, hm⟩ : ∃ m : Nat, m < 4 ∧ n % 4 = (m : Int) := ⟨(n % 4).toNat, by omega, by omega⟩
  have HT : Hid (Tab w) := ht
  rw [hm] at h3
  clear ht hm
  by_cases hw : way % 2 = 1
  · rw [hw] at h1
    clear hw
    cases mu with
    | false =>
      go_enter Tryd.func4, Tryd.ntmps4
      go_wp2
      go_loopw [9] (fun i wr => ∃ k : Nat, k ≤ m ∧ i = .int .i64 (k : Int) ∧ ∃ tk ts tn A l C, At wr w.heap.size #[.int .i64 tk, .string ts, .int .i64 tn, .slice A l C] 29 ∧ Still w.heap.size wr (bxs k (.mk 12 ⟨#[]⟩ 0 [.mk 6 ⟨#[]⟩ 0 []])) [.int .i64 tk, .string ts, .int .i64 tn, .slice A l C] ∧ Below w.heap.size w wr) (fun i _ => m - (intOf i).toNat)
      case atStart =>
        exact ⟨0, Nat.zero_le _, rfl, 12, ⟨#[]⟩, 0, some ⟨w.heap.size + 1, 0, none⟩, 1, 1, (At.new _ _ _).alloc _, start_deep w 12 _, two_alloc _ _ _⟩
      case round =>
        obtain ⟨k, hk, rfl, tk, ts, tn, A, l, C, hat, hst, hbl⟩ := hrel
        obtain ⟨c0, c1, c2, c3, cz⟩ := cells4 hat
        obtain ⟨f0, f1, f2, f3⟩ := frz4 hat
        have HA : Hid (At wr w.heap.size #[.int .i64 tk, .string ts, .int .i64 tn, .slice A l C] 29) := hat
        have HS : Hid (Still w.heap.size wr (bxs k (.mk 12 ⟨#[]⟩ 0 [.mk 6 ⟨#[]⟩ 0 []])) [.int .i64 tk, .string ts, .int .i64 tn, .slice A l C]) := hst
        have HB : Hid (Below w.heap.size w wr) := hbl
        clear hat hst hbl
        by_cases hlt : k < m
        · have hlt' : (k : Int) < (m : Int) := by omega
          go_wp2
          go_roundw
          case rel => exact ⟨k + 1, by omega, by go_num, 11, ⟨#[]⟩, 0, some ⟨wr.heap.size, 0, none⟩, 1, 1, step_at HA.out _ _ _ _ _, step_still HS.out cz _ _ _ _, step_below HB.out _ _ _ _ _ HB.out.size⟩
          case measure => simp [intOf]; omega
        · obtain rfl : k = m := by omega
          obtain ⟨f, hf⟩ : ∃ f, f = tyE [] (bxs k (.mk 12 ⟨#[]⟩ 0 [.mk 6 ⟨#[]⟩ 0 []])) := ⟨_, rfl⟩
          obtain ⟨g, hg⟩ : ∃ g, g = tyE [] (.mk 12 ⟨#[]⟩ 0 [bxs k (.mk 12 ⟨#[]⟩ 0 [.mk 6 ⟨#[]⟩ 0 []])]) := ⟨_, rfl⟩
          obtain ⟨va, vb, vc⟩ := inner_deep k hm4 12 (by simp)
          rw [← hf] at va vb
          rw [← hg] at vc
          have TT : Hid (∀ r w', Below wr.heap.size wr w' → Calls Tryd.prog 9 #[.slice none 0 0, .agg #[.int .i64 tk, .string ts, .int .i64 tn, .slice A l C], .bool r] w' fun e w'' => e = .returned (.int .i64 (f r)) ∧ Below w'.heap.size w' w'') := fun r w' hb => by
            rw [hf]
            exact type_c [] (bxs k (.mk 12 ⟨#[]⟩ 0 [.mk 6 ⟨#[]⟩ 0 []])) _ r none 0 w' (HT.out.below (HB.out.trans (hb.mono HB.out.size))) (inIs w') (HS.out.below hb).tin
          have T2 : Hid (∀ w1, Below wr.heap.size wr w1 → ∀ r w', Below (w1.alloc (.cells #[.int .i64 tk, .string ts, .int .i64 tn, .slice A l C] 29)).heap.size (w1.alloc (.cells #[.int .i64 tk, .string ts, .int .i64 tn, .slice A l C] 29)) w' → Calls Tryd.prog 9 #[.slice none 0 0, .agg #[.int .i64 12, .string ⟨#[]⟩, .int .i64 0, .slice (some ⟨w1.heap.size, 0, none⟩) 1 1], .bool r] w' fun e w'' => e = .returned (.int .i64 (g r)) ∧ Below w'.heap.size w' w'') := fun w1 hb1 r w' hb => by
            rw [hg]
            have hz := hb1.size
            have h0 : Below w.heap.size w w1 := HB.out.trans (hb1.mono HB.out.size)
            have h1' := below_next (below_alloc w1 (.cells #[.int .i64 tk, .string ts, .int .i64 tn, .slice A l C] 29)) hb
            exact type_c [] (.mk 12 ⟨#[]⟩ 0 [bxs k (.mk 12 ⟨#[]⟩ 0 [.mk 6 ⟨#[]⟩ 0 []])]) _ r none 0 w' (HT.out.below (h0.trans (h1'.mono h0.size))) (inIs w') (((HS.out.below hb1).wrap (by omega) 12 29).below hb).tin
          clear hf hg
          obtain ⟨q, hq⟩ : ∃ q, (if k = 0 then (0 : Int) else 57) = q := ⟨_, rfl⟩
          rw [hq] at va
          have HQK : Hid ((q == 0) = ((k : Int) == 0)) := by
            show (q == 0) = ((k : Int) == 0)
            subst hq
            by_cases h0 : k = 0
            · simp [h0]
            · simp [h0]
          clear hq
          go_wp2
          go_region_held3 (fun w' => w'.cell? ⟨w.heap.size, 0, none⟩ = some (.int .i64 tk) ∧ w'.cell? ⟨w.heap.size, 1, none⟩ = some (.string ts) ∧ w'.cell? ⟨w.heap.size, 2, none⟩ = some (.int .i64 tn) ∧ w'.cell? ⟨w.heap.size, 3, none⟩ = some (.slice A l C) ∧ Hid (Below wr.heap.size wr w'))
            (first
              | exact celT HA.out ((Below.refl _ _).drew)
              | exact celT HA.out OO.out)
            (first
              | (go_at_call 9; refine (TT.out _ _ (celT_below (by assumption))).mono ?_; rintro e' w1 ⟨rfl, hb1⟩; have OO : Hid (Below wr.heap.size wr w1) := below_next (celT_below (by assumption)) hb1; clear hb1))
          have hHe := HA.out.below OO.out HA.out.lt
          obtain ⟨d0, d1, d2, d3, dz⟩ := cells4 hHe
          clear hHe
          go_wp2_with (go_at_call 9; refine (T2.out _ OO.out _ _ (below_alloc _ _)).mono ?_; rintro e' w2 ⟨rfl, hb2⟩; have PP : Hid (Below (w1.alloc (.cells #[.int .i64 tk, .string ts, .int .i64 tn, .slice A l C] 29)).heap.size (w1.alloc (.cells #[.int .i64 tk, .string ts, .int .i64 tn, .slice A l C] 29)) w2) := below_next (below_alloc _ _) hb2; obtain ⟨e0, e1, e2, e3, ez⟩ := cells4 (outer_at w1 (.cells #[.int .i64 tk, .string ts, .int .i64 tn, .slice A l C] 29) hb2); clear hb2)
          go_ret
          exact ⟨by first | rfl | (simp; exact HQK.out) | simp, below_next (HB.out.trans (OO.out.mono HB.out.size)) (below_next (below_alloc _ _) PP.out)⟩
    | true =>
      go_enter Tryd.func4, Tryd.ntmps4
      go_wp2
      go_loopw [9] (fun i wr => ∃ k : Nat, k ≤ m ∧ i = .int .i64 (k : Int) ∧ ∃ tk ts tn A l C, At wr w.heap.size #[.int .i64 tk, .string ts, .int .i64 tn, .slice A l C] 29 ∧ Still w.heap.size wr (bxs k (.mk 13 ⟨#[]⟩ 0 [.mk 6 ⟨#[]⟩ 0 []])) [.int .i64 tk, .string ts, .int .i64 tn, .slice A l C] ∧ Below w.heap.size w wr) (fun i _ => m - (intOf i).toNat)
      case atStart =>
        exact ⟨0, Nat.zero_le _, rfl, 13, ⟨#[]⟩, 0, some ⟨w.heap.size + 1, 0, none⟩, 1, 1, (At.new _ _ _).alloc _, start_deep w 13 _, two_alloc _ _ _⟩
      case round =>
        obtain ⟨k, hk, rfl, tk, ts, tn, A, l, C, hat, hst, hbl⟩ := hrel
        obtain ⟨c0, c1, c2, c3, cz⟩ := cells4 hat
        obtain ⟨f0, f1, f2, f3⟩ := frz4 hat
        have HA : Hid (At wr w.heap.size #[.int .i64 tk, .string ts, .int .i64 tn, .slice A l C] 29) := hat
        have HS : Hid (Still w.heap.size wr (bxs k (.mk 13 ⟨#[]⟩ 0 [.mk 6 ⟨#[]⟩ 0 []])) [.int .i64 tk, .string ts, .int .i64 tn, .slice A l C]) := hst
        have HB : Hid (Below w.heap.size w wr) := hbl
        clear hat hst hbl
        by_cases hlt : k < m
        · have hlt' : (k : Int) < (m : Int) := by omega
          go_wp2
          go_roundw
          case rel => exact ⟨k + 1, by omega, by go_num, 11, ⟨#[]⟩, 0, some ⟨wr.heap.size, 0, none⟩, 1, 1, step_at HA.out _ _ _ _ _, step_still HS.out cz _ _ _ _, step_below HB.out _ _ _ _ _ HB.out.size⟩
          case measure => simp [intOf]; omega
        · obtain rfl : k = m := by omega
          obtain ⟨f, hf⟩ : ∃ f, f = tyE [] (bxs k (.mk 13 ⟨#[]⟩ 0 [.mk 6 ⟨#[]⟩ 0 []])) := ⟨_, rfl⟩
          obtain ⟨g, hg⟩ : ∃ g, g = tyE [] (.mk 13 ⟨#[]⟩ 0 [bxs k (.mk 13 ⟨#[]⟩ 0 [.mk 6 ⟨#[]⟩ 0 []])]) := ⟨_, rfl⟩
          obtain ⟨va, vb, vc⟩ := inner_deep k hm4 13 (by simp)
          rw [← hf] at va vb
          rw [← hg] at vc
          have TT : Hid (∀ r w', Below wr.heap.size wr w' → Calls Tryd.prog 9 #[.slice none 0 0, .agg #[.int .i64 tk, .string ts, .int .i64 tn, .slice A l C], .bool r] w' fun e w'' => e = .returned (.int .i64 (f r)) ∧ Below w'.heap.size w' w'') := fun r w' hb => by
            rw [hf]
            exact type_c [] (bxs k (.mk 13 ⟨#[]⟩ 0 [.mk 6 ⟨#[]⟩ 0 []])) _ r none 0 w' (HT.out.below (HB.out.trans (hb.mono HB.out.size))) (inIs w') (HS.out.below hb).tin
          have T2 : Hid (∀ w1, Below wr.heap.size wr w1 → ∀ r w', Below (w1.alloc (.cells #[.int .i64 tk, .string ts, .int .i64 tn, .slice A l C] 29)).heap.size (w1.alloc (.cells #[.int .i64 tk, .string ts, .int .i64 tn, .slice A l C] 29)) w' → Calls Tryd.prog 9 #[.slice none 0 0, .agg #[.int .i64 13, .string ⟨#[]⟩, .int .i64 0, .slice (some ⟨w1.heap.size, 0, none⟩) 1 1], .bool r] w' fun e w'' => e = .returned (.int .i64 (g r)) ∧ Below w'.heap.size w' w'') := fun w1 hb1 r w' hb => by
            rw [hg]
            have hz := hb1.size
            have h0 : Below w.heap.size w w1 := HB.out.trans (hb1.mono HB.out.size)
            have h1' := below_next (below_alloc w1 (.cells #[.int .i64 tk, .string ts, .int .i64 tn, .slice A l C] 29)) hb
            exact type_c [] (.mk 13 ⟨#[]⟩ 0 [bxs k (.mk 13 ⟨#[]⟩ 0 [.mk 6 ⟨#[]⟩ 0 []])]) _ r none 0 w' (HT.out.below (h0.trans (h1'.mono h0.size))) (inIs w') (((HS.out.below hb1).wrap (by omega) 13 29).below hb).tin
          clear hf hg
          obtain ⟨q, hq⟩ : ∃ q, (if k = 0 then (0 : Int) else 57) = q := ⟨_, rfl⟩
          rw [hq] at va
          have HQK : Hid ((q == 0) = ((k : Int) == 0)) := by
            show (q == 0) = ((k : Int) == 0)
            subst hq
            by_cases h0 : k = 0
            · simp [h0]
            · simp [h0]
          clear hq
          go_wp2
          go_region_held3 (fun w' => w'.cell? ⟨w.heap.size, 0, none⟩ = some (.int .i64 tk) ∧ w'.cell? ⟨w.heap.size, 1, none⟩ = some (.string ts) ∧ w'.cell? ⟨w.heap.size, 2, none⟩ = some (.int .i64 tn) ∧ w'.cell? ⟨w.heap.size, 3, none⟩ = some (.slice A l C) ∧ Hid (Below wr.heap.size wr w'))
            (first
              | exact celT HA.out ((Below.refl _ _).drew)
              | exact celT HA.out OO.out)
            (first
              | (go_at_call 9; refine (TT.out _ _ (celT_below (by assumption))).mono ?_; rintro e' w1 ⟨rfl, hb1⟩; have OO : Hid (Below wr.heap.size wr w1) := below_next (celT_below (by assumption)) hb1; clear hb1))
          have hHe := HA.out.below OO.out HA.out.lt
          obtain ⟨d0, d1, d2, d3, dz⟩ := cells4 hHe
          clear hHe
          go_wp2_with (go_at_call 9; refine (T2.out _ OO.out _ _ (below_alloc _ _)).mono ?_; rintro e' w2 ⟨rfl, hb2⟩; have PP : Hid (Below (w1.alloc (.cells #[.int .i64 tk, .string ts, .int .i64 tn, .slice A l C] 29)).heap.size (w1.alloc (.cells #[.int .i64 tk, .string ts, .int .i64 tn, .slice A l C] 29)) w2) := below_next (below_alloc _ _) hb2; obtain ⟨e0, e1, e2, e3, ez⟩ := cells4 (outer_at w1 (.cells #[.int .i64 tk, .string ts, .int .i64 tn, .slice A l C] 29) hb2); clear hb2)
          go_ret
          exact ⟨by first | rfl | (simp; exact HQK.out) | simp, below_next (HB.out.trans (OO.out.mono HB.out.size)) (below_next (below_alloc _ _) PP.out)⟩
  · have hw0 : way % 2 = 0 := by omega
    rw [hw0] at h1
    clear hw hw0
    cases mu with
    | false =>
      go_enter Tryd.func4, Tryd.ntmps4
      go_wp2
      go_loopw [9] (fun i wr => ∃ k : Nat, k ≤ m ∧ i = .int .i64 (k : Int) ∧ ∃ tk ts tn A l C, At wr w.heap.size #[.int .i64 tk, .string ts, .int .i64 tn, .slice A l C] 29 ∧ Still w.heap.size wr (bxs k (.mk 6 ⟨#[]⟩ 0 [])) [.int .i64 tk, .string ts, .int .i64 tn, .slice A l C] ∧ Below w.heap.size w wr) (fun i _ => m - (intOf i).toNat)
      case atStart =>
        exact ⟨0, Nat.zero_le _, rfl, 6, ⟨#[]⟩, 0, none, 0, 0, At.new _ _ _, start_plain w _, below_alloc _ _⟩
      case round =>
        obtain ⟨k, hk, rfl, tk, ts, tn, A, l, C, hat, hst, hbl⟩ := hrel
        obtain ⟨c0, c1, c2, c3, cz⟩ := cells4 hat
        obtain ⟨f0, f1, f2, f3⟩ := frz4 hat
        have HA : Hid (At wr w.heap.size #[.int .i64 tk, .string ts, .int .i64 tn, .slice A l C] 29) := hat
        have HS : Hid (Still w.heap.size wr (bxs k (.mk 6 ⟨#[]⟩ 0 [])) [.int .i64 tk, .string ts, .int .i64 tn, .slice A l C]) := hst
        have HB : Hid (Below w.heap.size w wr) := hbl
        clear hat hst hbl
        by_cases hlt : k < m
        · have hlt' : (k : Int) < (m : Int) := by omega
          go_wp2
          go_roundw
          case rel => exact ⟨k + 1, by omega, by go_num, 11, ⟨#[]⟩, 0, some ⟨wr.heap.size, 0, none⟩, 1, 1, step_at HA.out _ _ _ _ _, step_still HS.out cz _ _ _ _, step_below HB.out _ _ _ _ _ HB.out.size⟩
          case measure => simp [intOf]; omega
        · obtain rfl : k = m := by omega
          obtain ⟨f, hf⟩ : ∃ f, f = tyE [] (bxs k (.mk 6 ⟨#[]⟩ 0 [])) := ⟨_, rfl⟩
          obtain ⟨g, hg⟩ : ∃ g, g = tyE [] (.mk 12 ⟨#[]⟩ 0 [bxs k (.mk 6 ⟨#[]⟩ 0 [])]) := ⟨_, rfl⟩
          obtain ⟨va, vb, vc, vd⟩ := inner_plain k hm4 12 (by simp)
          rw [← hf] at va vb
          rw [← hg] at vc vd
          have TT : Hid (∀ r w', Below wr.heap.size wr w' → Calls Tryd.prog 9 #[.slice none 0 0, .agg #[.int .i64 tk, .string ts, .int .i64 tn, .slice A l C], .bool r] w' fun e w'' => e = .returned (.int .i64 (f r)) ∧ Below w'.heap.size w' w'') := fun r w' hb => by
            rw [hf]
            exact type_c [] (bxs k (.mk 6 ⟨#[]⟩ 0 [])) _ r none 0 w' (HT.out.below (HB.out.trans (hb.mono HB.out.size))) (inIs w') (HS.out.below hb).tin
          have T2 : Hid (∀ w1, Below wr.heap.size wr w1 → ∀ r w', Below (w1.alloc (.cells #[.int .i64 tk, .string ts, .int .i64 tn, .slice A l C] 29)).heap.size (w1.alloc (.cells #[.int .i64 tk, .string ts, .int .i64 tn, .slice A l C] 29)) w' → Calls Tryd.prog 9 #[.slice none 0 0, .agg #[.int .i64 12, .string ⟨#[]⟩, .int .i64 0, .slice (some ⟨w1.heap.size, 0, none⟩) 1 1], .bool r] w' fun e w'' => e = .returned (.int .i64 (g r)) ∧ Below w'.heap.size w' w'') := fun w1 hb1 r w' hb => by
            rw [hg]
            have hz := hb1.size
            have h0 : Below w.heap.size w w1 := HB.out.trans (hb1.mono HB.out.size)
            have h1' := below_next (below_alloc w1 (.cells #[.int .i64 tk, .string ts, .int .i64 tn, .slice A l C] 29)) hb
            exact type_c [] (.mk 12 ⟨#[]⟩ 0 [bxs k (.mk 6 ⟨#[]⟩ 0 [])]) _ r none 0 w' (HT.out.below (h0.trans (h1'.mono h0.size))) (inIs w') (((HS.out.below hb1).wrap (by omega) 12 29).below hb).tin
          clear hf hg
          go_wp2
          go_region_held3 (fun w' => w'.cell? ⟨w.heap.size, 0, none⟩ = some (.int .i64 tk) ∧ w'.cell? ⟨w.heap.size, 1, none⟩ = some (.string ts) ∧ w'.cell? ⟨w.heap.size, 2, none⟩ = some (.int .i64 tn) ∧ w'.cell? ⟨w.heap.size, 3, none⟩ = some (.slice A l C) ∧ Hid (Below wr.heap.size wr w'))
            (first
              | exact celT HA.out ((Below.refl _ _).drew)
              | exact celT HA.out OO.out)
            (first
              | (go_at_call 9; refine (TT.out _ _ (celT_below (by assumption))).mono ?_; rintro e' w1 ⟨rfl, hb1⟩; have OO : Hid (Below wr.heap.size wr w1) := below_next (celT_below (by assumption)) hb1; clear hb1))
          have hHe := HA.out.below OO.out HA.out.lt
          obtain ⟨d0, d1, d2, d3, dz⟩ := cells4 hHe
          clear hHe
          go_wp2_with (first
            | (go_at_call 9; have PP' := PP; refine (T2.out _ OO.out _ _ PP.out).mono ?_; rintro e' w3 ⟨rfl, hb3⟩; have P3 : Hid (Below (w1.alloc (.cells #[.int .i64 tk, .string ts, .int .i64 tn, .slice A l C] 29)).heap.size (w1.alloc (.cells #[.int .i64 tk, .string ts, .int .i64 tn, .slice A l C] 29)) w3) := below_next PP.out hb3; clear hb3)
            | (go_at_call 9; refine (T2.out _ OO.out _ _ (below_alloc _ _)).mono ?_; rintro e' w2 ⟨rfl, hb2⟩; have PP : Hid (Below (w1.alloc (.cells #[.int .i64 tk, .string ts, .int .i64 tn, .slice A l C] 29)).heap.size (w1.alloc (.cells #[.int .i64 tk, .string ts, .int .i64 tn, .slice A l C] 29)) w2) := below_next (below_alloc _ _) hb2; obtain ⟨e0, e1, e2, e3, ez⟩ := cells4 (outer_at w1 (.cells #[.int .i64 tk, .string ts, .int .i64 tn, .slice A l C] 29) hb2); clear hb2))
          go_ret
          exact ⟨by first | rfl | (simp; exact HQK.out) | simp, below_next (HB.out.trans (OO.out.mono HB.out.size)) (below_next (below_alloc _ _) P3.out)⟩
    | true =>
      go_enter Tryd.func4, Tryd.ntmps4
      go_wp2
      go_loopw [9] (fun i wr => ∃ k : Nat, k ≤ m ∧ i = .int .i64 (k : Int) ∧ ∃ tk ts tn A l C, At wr w.heap.size #[.int .i64 tk, .string ts, .int .i64 tn, .slice A l C] 29 ∧ Still w.heap.size wr (bxs k (.mk 6 ⟨#[]⟩ 0 [])) [.int .i64 tk, .string ts, .int .i64 tn, .slice A l C] ∧ Below w.heap.size w wr) (fun i _ => m - (intOf i).toNat)
      case atStart =>
        exact ⟨0, Nat.zero_le _, rfl, 6, ⟨#[]⟩, 0, none, 0, 0, At.new _ _ _, start_plain w _, below_alloc _ _⟩
      case round =>
        obtain ⟨k, hk, rfl, tk, ts, tn, A, l, C, hat, hst, hbl⟩ := hrel
        obtain ⟨c0, c1, c2, c3, cz⟩ := cells4 hat
        obtain ⟨f0, f1, f2, f3⟩ := frz4 hat
        have HA : Hid (At wr w.heap.size #[.int .i64 tk, .string ts, .int .i64 tn, .slice A l C] 29) := hat
        have HS : Hid (Still w.heap.size wr (bxs k (.mk 6 ⟨#[]⟩ 0 [])) [.int .i64 tk, .string ts, .int .i64 tn, .slice A l C]) := hst
        have HB : Hid (Below w.heap.size w wr) := hbl
        clear hat hst hbl
        by_cases hlt : k < m
        · have hlt' : (k : Int) < (m : Int) := by omega
          go_wp2
          go_roundw
          case rel => exact ⟨k + 1, by omega, by go_num, 11, ⟨#[]⟩, 0, some ⟨wr.heap.size, 0, none⟩, 1, 1, step_at HA.out _ _ _ _ _, step_still HS.out cz _ _ _ _, step_below HB.out _ _ _ _ _ HB.out.size⟩
          case measure => simp [intOf]; omega
        · obtain rfl : k = m := by omega
          obtain ⟨f, hf⟩ : ∃ f, f = tyE [] (bxs k (.mk 6 ⟨#[]⟩ 0 [])) := ⟨_, rfl⟩
          obtain ⟨g, hg⟩ : ∃ g, g = tyE [] (.mk 13 ⟨#[]⟩ 0 [bxs k (.mk 6 ⟨#[]⟩ 0 [])]) := ⟨_, rfl⟩
          obtain ⟨va, vb, vc, vd⟩ := inner_plain k hm4 13 (by simp)
          rw [← hf] at va vb
          rw [← hg] at vc vd
          have TT : Hid (∀ r w', Below wr.heap.size wr w' → Calls Tryd.prog 9 #[.slice none 0 0, .agg #[.int .i64 tk, .string ts, .int .i64 tn, .slice A l C], .bool r] w' fun e w'' => e = .returned (.int .i64 (f r)) ∧ Below w'.heap.size w' w'') := fun r w' hb => by
            rw [hf]
            exact type_c [] (bxs k (.mk 6 ⟨#[]⟩ 0 [])) _ r none 0 w' (HT.out.below (HB.out.trans (hb.mono HB.out.size))) (inIs w') (HS.out.below hb).tin
          have T2 : Hid (∀ w1, Below wr.heap.size wr w1 → ∀ r w', Below (w1.alloc (.cells #[.int .i64 tk, .string ts, .int .i64 tn, .slice A l C] 29)).heap.size (w1.alloc (.cells #[.int .i64 tk, .string ts, .int .i64 tn, .slice A l C] 29)) w' → Calls Tryd.prog 9 #[.slice none 0 0, .agg #[.int .i64 13, .string ⟨#[]⟩, .int .i64 0, .slice (some ⟨w1.heap.size, 0, none⟩) 1 1], .bool r] w' fun e w'' => e = .returned (.int .i64 (g r)) ∧ Below w'.heap.size w' w'') := fun w1 hb1 r w' hb => by
            rw [hg]
            have hz := hb1.size
            have h0 : Below w.heap.size w w1 := HB.out.trans (hb1.mono HB.out.size)
            have h1' := below_next (below_alloc w1 (.cells #[.int .i64 tk, .string ts, .int .i64 tn, .slice A l C] 29)) hb
            exact type_c [] (.mk 13 ⟨#[]⟩ 0 [bxs k (.mk 6 ⟨#[]⟩ 0 [])]) _ r none 0 w' (HT.out.below (h0.trans (h1'.mono h0.size))) (inIs w') (((HS.out.below hb1).wrap (by omega) 13 29).below hb).tin
          clear hf hg
          go_wp2
          go_region_held3 (fun w' => w'.cell? ⟨w.heap.size, 0, none⟩ = some (.int .i64 tk) ∧ w'.cell? ⟨w.heap.size, 1, none⟩ = some (.string ts) ∧ w'.cell? ⟨w.heap.size, 2, none⟩ = some (.int .i64 tn) ∧ w'.cell? ⟨w.heap.size, 3, none⟩ = some (.slice A l C) ∧ Hid (Below wr.heap.size wr w'))
            (first
              | exact celT HA.out ((Below.refl _ _).drew)
              | exact celT HA.out OO.out)
            (first
              | (go_at_call 9; refine (TT.out _ _ (celT_below (by assumption))).mono ?_; rintro e' w1 ⟨rfl, hb1⟩; have OO : Hid (Below wr.heap.size wr w1) := below_next (celT_below (by assumption)) hb1; clear hb1))
          have hHe := HA.out.below OO.out HA.out.lt
          obtain ⟨d0, d1, d2, d3, dz⟩ := cells4 hHe
          clear hHe
          go_wp2_with (first
            | (go_at_call 9; have PP' := PP; refine (T2.out _ OO.out _ _ PP.out).mono ?_; rintro e' w3 ⟨rfl, hb3⟩; have P3 : Hid (Below (w1.alloc (.cells #[.int .i64 tk, .string ts, .int .i64 tn, .slice A l C] 29)).heap.size (w1.alloc (.cells #[.int .i64 tk, .string ts, .int .i64 tn, .slice A l C] 29)) w3) := below_next PP.out hb3; clear hb3)
            | (go_at_call 9; refine (T2.out _ OO.out _ _ (below_alloc _ _)).mono ?_; rintro e' w2 ⟨rfl, hb2⟩; have PP : Hid (Below (w1.alloc (.cells #[.int .i64 tk, .string ts, .int .i64 tn, .slice A l C] 29)).heap.size (w1.alloc (.cells #[.int .i64 tk, .string ts, .int .i64 tn, .slice A l C] 29)) w2) := below_next (below_alloc _ _) hb2; obtain ⟨e0, e1, e2, e3, ez⟩ := cells4 (outer_at w1 (.cells #[.int .i64 tk, .string ts, .int .i64 tn, .slice A l C] 29) hb2); clear hb2))
          go_ret
          exact ⟨by first | rfl | (simp; exact HQK.out) | simp, below_next (HB.out.trans (OO.out.mono HB.out.size)) (below_next (below_alloc _ _) P3.out)⟩

end Go.Proofs.YtjdkoahbahecoaaDoor
