/-
  Proved: what heap.Alloc answers, and which block is in use then.
-/
import Derived.Test.YtapgaclonilnbaaDoorHheap
namespace Go.Proofs.YtapgaclonilnbaaDoor
open Go.RowKit

theorem Kp.tab {F : Nat → Prop} {w w' : World} (h : Kp F w w') (ht : Tab w) (hf : ¬ F 0) : Tab w' := by
  have := h.2 0 ht.lt hf
  obtain ⟨t, fr, e⟩ := ht
  exact ⟨t, fr, this.trans e⟩

/-- The blocks of a heap's lists. -/
def Gs (g : Nat → Nat) (b : Nat) : Prop := ∃ c, c < 4 ∧ b = g c

theorem HIn.no0 {w : World} {hb : Nat} {g : Nat → Nat} {us : Nat → Nat → Bool} (h : HIn w hb g us) : ¬ Gs g 0 := by
  rintro ⟨c, hc, e⟩
  have := h.after c hc
  omega

theorem made_c {w : World} {hb : Nat} {g : Nat → Nat} {us : Nat → Nat → Bool} (h : HIn w hb g us) : Calls Tryd.prog 60 #[.pointer (some ⟨hb, 0, none⟩)] w fun e w' => e = .returned (.bool true) ∧ w' = w := by
  have c0 := h.cell (c := 0) (by omega)
  have b0 : bl 0 = 64 := rfl
  rw [b0] at c0
  clear h
  go_enter Tryd.func60, Tryd.ntmps60
  go_wp2
  go_ret
  exact ⟨rfl, rfl⟩

/-- The least block of a class that is not in use. -/
def fr (us : Nat → Nat → Bool) (c : Nat) : Option Nat := ff (fun k => !us c k) (bl c) 0

/-- What Alloc answers, and which blocks are in use then. -/
def alR (us : Nat → Nat → Bool) (c : Nat) : Option Nat → Int × Int × (Nat → Nat → Bool)
  | none => (0, 12, us)
  | some k => ((st c : Int) + (k : Int) * (4 * (sz c : Int)), 0, upd us c k true)

def alA (us : Nat → Nat → Bool) : Option Nat → Int × Int × (Nat → Nat → Bool)
  | none => (0, 2, us)
  | some c => alR us c (fr us c)

theorem fr_step (us : Nat → Nat → Bool) (c k n : Nat) (h : k < n) : ff (fun k => !us c k) (n - k) k = if us c k then ff (fun k => !us c k) (n - (k + 1)) (k + 1) else some k := by
  rw [show n - k = (n - (k + 1)) + 1 by omega, ff]
  cases us c k <;> simp

set_option maxHeartbeats 1000000 in
theorem alloc_c {w : World} {hb : Nat} {g : Nat → Nat} {us : Nat → Nat → Bool} (h : HIn w hb g us) (x : Int) (ht : Tab w) : Calls Tryd.prog 55 #[.pointer (some ⟨hb, 0, none⟩), .int .i64 x] w fun e w' =>
    e = .returned (.tuple #[.int .i64 (alA us (clsOf x)).1, .int .i64 (alA us (clsOf x)).2.1]) ∧ HIn w' hb g (alA us (clsOf x)).2.2 ∧ Kp (Gs g) w w' := by
  have H : Hid (HIn w hb g us) := h
  have T : Hid (Tab w) := ht
  have CL : Hid (∀ w, Tab w → Calls Tryd.prog 65 #[.int .i64 x] w fun e w' => e = .returned (clsV (clsOf x)) ∧ Below w.heap.size w w') := fun w ht => class_c x w ht
  have L := ff_lt (clsP x) 4 0
  change ∀ i, clsOf x = some i → _ at L
  clear h ht
  generalize clsOf x = R at *
  cases R with
  | none =>
    unfold clsV at CL
    go_enter Tryd.func55, Tryd.ntmps55
    go_wp2_with (first
      | (go_at_call 60; refine (made_c H.out).mono ?_; rintro e w0 ⟨rfl, hw⟩; rw [hw]; clear hw w0)
      | (go_at_call 65; refine (CL.out _ T.out).mono ?_; rintro e w1 ⟨rfl, he⟩; have NN : Hid (Below w.heap.size w w1) := he; clear he))
    go_ret2
    exact ⟨rfl, H.out.below NN.out, Kp.of_below NN.out⟩
  | some c =>
    have hc := (L c rfl).2.1
    clear L
    unfold clsV at CL
    rcases (by omega : c = 0 ∨ c = 1 ∨ c = 2 ∨ c = 3) with rfl | rfl | rfl | rfl
    · have CL : Hid (∀ w, Tab w → Calls Tryd.prog 65 #[.int .i64 x] w fun e w' => e = .returned (.tuple #[.int .i64 0, .int .i64 4, .int .i64 64, .int .i64 0]) ∧ Below w.heap.size w w') := CL.out
      show Calls Tryd.prog 55 #[.pointer (some ⟨hb, 0, none⟩), .int .i64 x] w fun e w' => e = .returned (.tuple #[.int .i64 (alR us 0 (fr us 0)).1, .int .i64 (alR us 0 (fr us 0)).2.1]) ∧ HIn w' hb g (alR us 0 (fr us 0)).2.2 ∧ Kp (Gs g) w w'
      generalize hR : fr us 0 = R
      go_enter Tryd.func55, Tryd.ntmps55
      go_wp2_with (first
        | (go_at_call 60; refine (made_c H.out).mono ?_; rintro e w0 ⟨rfl, hw⟩; rw [hw]; clear hw w0)
        | (go_at_call 65; refine (CL.out _ T.out).mono ?_; rintro e w1 ⟨rfl, he⟩; have NN : Hid (Below w.heap.size w w1) := he; clear he))
      have H1 : Hid (HIn w1 hb g us) := H.out.below NN.out
      have T1 : Hid (Tab w1) := T.out.below NN.out T.out.lt
      clear H T
      have hh : w1.cell? ⟨hb, 0, none⟩ = some (.slice (some ⟨g 0, 0, none⟩) 64 64) := H1.out.cell (c := 0) (by omega)
      go_loopw [25] (fun i wr => ∃ k : Nat, k ≤ 64 ∧ i = .int .i64 (k : Int) ∧ ff (fun k => !us 0 k) (64 - k) k = R ∧ wr = w1) (fun i _ => 64 - (intOf i).toNat)
      case atStart => exact ⟨0, by omega, rfl, hR, rfl⟩
      case round =>
        obtain ⟨k, hk, rfl, hr, hwr⟩ := hrel
        rw [hwr]
        clear hwr wr hR
        have HR : Hid (ff (fun k => !us 0 k) (64 - k) k = R) := hr
        clear hr
        rcases Nat.lt_or_ge k 64 with hk' | hk'
        · have hkz : (k : Int) < 64 := by omega
          have hbit : w1.cell? ⟨g 0, k, none⟩ = some (.bool (us 0 k)) := H1.out.bit (c := 0) (k := k) (by omega) hk'
          have hfz := (H1.out.rows 0 (by omega)).frozen k
          have hlt := (H1.out.rows 0 (by omega)).lt
          have HS : Hid (ff (fun k => !us 0 k) (64 - k) k = if us 0 k then ff (fun k => !us 0 k) (64 - (k + 1)) (k + 1) else some k) := fr_step us 0 k 64 hk'
          generalize hu : us 0 k = u at hbit HS
          cases u with
          | true =>
            go_wp2
            go_roundw
            case rel =>
              refine ⟨k + 1, by omega, by go_num, ?_, trivial⟩
              have h1 := HR.out
              rw [HS.out, if_pos rfl] at h1
              exact h1
            case measure => simp [intOf]; omega
          | false =>
            have h1 := HR.out
            rw [HS.out, if_neg (by simp)] at h1
            subst h1
            have H2 : Hid (HIn (w1.setCell ⟨g 0, k, none⟩ (.bool true)) hb g (upd us 0 k true)) := H1.out.set (c := 0) (by omega) k true
            have N2 : Hid (Kp (Gs g) w (w1.setCell ⟨g 0, k, none⟩ (.bool true))) := (Kp.of_below NN.out).trans (Kp.set w1 k (.bool true) ⟨0, by omega, rfl⟩)
            have T2 : Hid (Tab (w1.setCell ⟨g 0, k, none⟩ (.bool true))) := (Kp.set (F := Gs g) w1 k (.bool true) ⟨0, by omega, rfl⟩).tab T1.out H1.out.no0
            go_wp2
            generalize w1.setCell ⟨g 0, k, none⟩ (.bool true) = w2 at *
            have t0 : ∀ y : After w2, y.w.cell? ⟨0, 0, none⟩ = some (.int .i64 4) := fun y => After.cell ((T2.out.cell 0).trans rfl) y
            have t1 : ∀ y : After w2, y.w.cell? ⟨0, 1, none⟩ = some (.int .i64 64) := fun y => After.cell ((T2.out.cell 1).trans rfl) y
            have t2 : ∀ y : After w2, y.w.cell? ⟨0, 2, none⟩ = some (.int .i64 262144) := fun y => After.cell ((T2.out.cell 2).trans rfl) y
            clear hh hbit hfz hlt
            haveI := After.has w2
            refine wp_region_after (by kernel_rfl) (by kernel_rfl) ?_
            repeat (quiet_step ((go_at_call 62; exact Calls.after (bytes_c 4 64 262144 _ (by omega) (by omega)))))
            refine wpQuiet_nil ?_
            intro _ hw'
            obtain ⟨xq, hw''⟩ := hw'
            subst hw''
            have H3 : Hid (HIn xq.w hb g (upd us 0 k true)) := H2.out.below xq.below
            have N3 : Hid (Kp (Gs g) w xq.w) := N2.out.trans (Kp.of_below xq.below)
            clear t0 t1 t2
            go_wp2
            rw [wrap_in ((k : Int) * 16) ⟨by omega, by omega⟩, wrap_in (262144 + (k : Int) * 16) ⟨by omega, by omega⟩]
            go_ret2
            exact ⟨rfl, H3.out, N3.out⟩
        · have hkz : ¬ (k : Int) < 64 := by omega
          have h1 := HR.out
          obtain rfl : k = 64 := by omega
          have h3 : R = none := h1.symm
          subst h3
          go_wp2
          go_ret2
          exact ⟨rfl, H1.out, Kp.of_below NN.out⟩
    · have CL : Hid (∀ w, Tab w → Calls Tryd.prog 65 #[.int .i64 x] w fun e w' => e = .returned (.tuple #[.int .i64 1, .int .i64 16, .int .i64 32, .int .i64 0]) ∧ Below w.heap.size w w') := CL.out
      show Calls Tryd.prog 55 #[.pointer (some ⟨hb, 0, none⟩), .int .i64 x] w fun e w' => e = .returned (.tuple #[.int .i64 (alR us 1 (fr us 1)).1, .int .i64 (alR us 1 (fr us 1)).2.1]) ∧ HIn w' hb g (alR us 1 (fr us 1)).2.2 ∧ Kp (Gs g) w w'
      generalize hR : fr us 1 = R
      go_enter Tryd.func55, Tryd.ntmps55
      go_wp2_with (first
        | (go_at_call 60; refine (made_c H.out).mono ?_; rintro e w0 ⟨rfl, hw⟩; rw [hw]; clear hw w0)
        | (go_at_call 65; refine (CL.out _ T.out).mono ?_; rintro e w1 ⟨rfl, he⟩; have NN : Hid (Below w.heap.size w w1) := he; clear he))
      have H1 : Hid (HIn w1 hb g us) := H.out.below NN.out
      have T1 : Hid (Tab w1) := T.out.below NN.out T.out.lt
      clear H T
      have hh : w1.cell? ⟨hb, 1, none⟩ = some (.slice (some ⟨g 1, 0, none⟩) 32 32) := H1.out.cell (c := 1) (by omega)
      go_loopw [25] (fun i wr => ∃ k : Nat, k ≤ 32 ∧ i = .int .i64 (k : Int) ∧ ff (fun k => !us 1 k) (32 - k) k = R ∧ wr = w1) (fun i _ => 32 - (intOf i).toNat)
      case atStart => exact ⟨0, by omega, rfl, hR, rfl⟩
      case round =>
        obtain ⟨k, hk, rfl, hr, hwr⟩ := hrel
        rw [hwr]
        clear hwr wr hR
        have HR : Hid (ff (fun k => !us 1 k) (32 - k) k = R) := hr
        clear hr
        rcases Nat.lt_or_ge k 32 with hk' | hk'
        · have hkz : (k : Int) < 32 := by omega
          have hbit : w1.cell? ⟨g 1, k, none⟩ = some (.bool (us 1 k)) := H1.out.bit (c := 1) (k := k) (by omega) hk'
          have hfz := (H1.out.rows 1 (by omega)).frozen k
          have hlt := (H1.out.rows 1 (by omega)).lt
          have HS : Hid (ff (fun k => !us 1 k) (32 - k) k = if us 1 k then ff (fun k => !us 1 k) (32 - (k + 1)) (k + 1) else some k) := fr_step us 1 k 32 hk'
          generalize hu : us 1 k = u at hbit HS
          cases u with
          | true =>
            go_wp2
            go_roundw
            case rel =>
              refine ⟨k + 1, by omega, by go_num, ?_, trivial⟩
              have h1 := HR.out
              rw [HS.out, if_pos rfl] at h1
              exact h1
            case measure => simp [intOf]; omega
          | false =>
            have h1 := HR.out
            rw [HS.out, if_neg (by simp)] at h1
            subst h1
            have H2 : Hid (HIn (w1.setCell ⟨g 1, k, none⟩ (.bool true)) hb g (upd us 1 k true)) := H1.out.set (c := 1) (by omega) k true
            have N2 : Hid (Kp (Gs g) w (w1.setCell ⟨g 1, k, none⟩ (.bool true))) := (Kp.of_below NN.out).trans (Kp.set w1 k (.bool true) ⟨1, by omega, rfl⟩)
            have T2 : Hid (Tab (w1.setCell ⟨g 1, k, none⟩ (.bool true))) := (Kp.set (F := Gs g) w1 k (.bool true) ⟨1, by omega, rfl⟩).tab T1.out H1.out.no0
            go_wp2
            generalize w1.setCell ⟨g 1, k, none⟩ (.bool true) = w2 at *
            have t0 : ∀ y : After w2, y.w.cell? ⟨0, 3, none⟩ = some (.int .i64 16) := fun y => After.cell ((T2.out.cell 3).trans rfl) y
            have t1 : ∀ y : After w2, y.w.cell? ⟨0, 4, none⟩ = some (.int .i64 32) := fun y => After.cell ((T2.out.cell 4).trans rfl) y
            have t2 : ∀ y : After w2, y.w.cell? ⟨0, 5, none⟩ = some (.int .i64 263168) := fun y => After.cell ((T2.out.cell 5).trans rfl) y
            clear hh hbit hfz hlt
            haveI := After.has w2
            refine wp_region_after (by kernel_rfl) (by kernel_rfl) ?_
            repeat (quiet_step ((go_at_call 62; exact Calls.after (bytes_c 16 32 263168 _ (by omega) (by omega)))))
            refine wpQuiet_nil ?_
            intro _ hw'
            obtain ⟨xq, hw''⟩ := hw'
            subst hw''
            have H3 : Hid (HIn xq.w hb g (upd us 1 k true)) := H2.out.below xq.below
            have N3 : Hid (Kp (Gs g) w xq.w) := N2.out.trans (Kp.of_below xq.below)
            clear t0 t1 t2
            go_wp2
            rw [wrap_in ((k : Int) * 64) ⟨by omega, by omega⟩, wrap_in (263168 + (k : Int) * 64) ⟨by omega, by omega⟩]
            go_ret2
            exact ⟨rfl, H3.out, N3.out⟩
        · have hkz : ¬ (k : Int) < 32 := by omega
          have h1 := HR.out
          obtain rfl : k = 32 := by omega
          have h3 : R = none := h1.symm
          subst h3
          go_wp2
          go_ret2
          exact ⟨rfl, H1.out, Kp.of_below NN.out⟩
    · have CL : Hid (∀ w, Tab w → Calls Tryd.prog 65 #[.int .i64 x] w fun e w' => e = .returned (.tuple #[.int .i64 2, .int .i64 64, .int .i64 16, .int .i64 0]) ∧ Below w.heap.size w w') := CL.out
      show Calls Tryd.prog 55 #[.pointer (some ⟨hb, 0, none⟩), .int .i64 x] w fun e w' => e = .returned (.tuple #[.int .i64 (alR us 2 (fr us 2)).1, .int .i64 (alR us 2 (fr us 2)).2.1]) ∧ HIn w' hb g (alR us 2 (fr us 2)).2.2 ∧ Kp (Gs g) w w'
      generalize hR : fr us 2 = R
      go_enter Tryd.func55, Tryd.ntmps55
      go_wp2_with (first
        | (go_at_call 60; refine (made_c H.out).mono ?_; rintro e w0 ⟨rfl, hw⟩; rw [hw]; clear hw w0)
        | (go_at_call 65; refine (CL.out _ T.out).mono ?_; rintro e w1 ⟨rfl, he⟩; have NN : Hid (Below w.heap.size w w1) := he; clear he))
      have H1 : Hid (HIn w1 hb g us) := H.out.below NN.out
      have T1 : Hid (Tab w1) := T.out.below NN.out T.out.lt
      clear H T
      have hh : w1.cell? ⟨hb, 2, none⟩ = some (.slice (some ⟨g 2, 0, none⟩) 16 16) := H1.out.cell (c := 2) (by omega)
      go_loopw [25] (fun i wr => ∃ k : Nat, k ≤ 16 ∧ i = .int .i64 (k : Int) ∧ ff (fun k => !us 2 k) (16 - k) k = R ∧ wr = w1) (fun i _ => 16 - (intOf i).toNat)
      case atStart => exact ⟨0, by omega, rfl, hR, rfl⟩
      case round =>
        obtain ⟨k, hk, rfl, hr, hwr⟩ := hrel
        rw [hwr]
        clear hwr wr hR
        have HR : Hid (ff (fun k => !us 2 k) (16 - k) k = R) := hr
        clear hr
        rcases Nat.lt_or_ge k 16 with hk' | hk'
        · have hkz : (k : Int) < 16 := by omega
          have hbit : w1.cell? ⟨g 2, k, none⟩ = some (.bool (us 2 k)) := H1.out.bit (c := 2) (k := k) (by omega) hk'
          have hfz := (H1.out.rows 2 (by omega)).frozen k
          have hlt := (H1.out.rows 2 (by omega)).lt
          have HS : Hid (ff (fun k => !us 2 k) (16 - k) k = if us 2 k then ff (fun k => !us 2 k) (16 - (k + 1)) (k + 1) else some k) := fr_step us 2 k 16 hk'
          generalize hu : us 2 k = u at hbit HS
          cases u with
          | true =>
            go_wp2
            go_roundw
            case rel =>
              refine ⟨k + 1, by omega, by go_num, ?_, trivial⟩
              have h1 := HR.out
              rw [HS.out, if_pos rfl] at h1
              exact h1
            case measure => simp [intOf]; omega
          | false =>
            have h1 := HR.out
            rw [HS.out, if_neg (by simp)] at h1
            subst h1
            have H2 : Hid (HIn (w1.setCell ⟨g 2, k, none⟩ (.bool true)) hb g (upd us 2 k true)) := H1.out.set (c := 2) (by omega) k true
            have N2 : Hid (Kp (Gs g) w (w1.setCell ⟨g 2, k, none⟩ (.bool true))) := (Kp.of_below NN.out).trans (Kp.set w1 k (.bool true) ⟨2, by omega, rfl⟩)
            have T2 : Hid (Tab (w1.setCell ⟨g 2, k, none⟩ (.bool true))) := (Kp.set (F := Gs g) w1 k (.bool true) ⟨2, by omega, rfl⟩).tab T1.out H1.out.no0
            go_wp2
            generalize w1.setCell ⟨g 2, k, none⟩ (.bool true) = w2 at *
            have t0 : ∀ y : After w2, y.w.cell? ⟨0, 6, none⟩ = some (.int .i64 64) := fun y => After.cell ((T2.out.cell 6).trans rfl) y
            have t1 : ∀ y : After w2, y.w.cell? ⟨0, 7, none⟩ = some (.int .i64 16) := fun y => After.cell ((T2.out.cell 7).trans rfl) y
            have t2 : ∀ y : After w2, y.w.cell? ⟨0, 8, none⟩ = some (.int .i64 265216) := fun y => After.cell ((T2.out.cell 8).trans rfl) y
            clear hh hbit hfz hlt
            haveI := After.has w2
            refine wp_region_after (by kernel_rfl) (by kernel_rfl) ?_
            repeat (quiet_step ((go_at_call 62; exact Calls.after (bytes_c 64 16 265216 _ (by omega) (by omega)))))
            refine wpQuiet_nil ?_
            intro _ hw'
            obtain ⟨xq, hw''⟩ := hw'
            subst hw''
            have H3 : Hid (HIn xq.w hb g (upd us 2 k true)) := H2.out.below xq.below
            have N3 : Hid (Kp (Gs g) w xq.w) := N2.out.trans (Kp.of_below xq.below)
            clear t0 t1 t2
            go_wp2
            rw [wrap_in ((k : Int) * 256) ⟨by omega, by omega⟩, wrap_in (265216 + (k : Int) * 256) ⟨by omega, by omega⟩]
            go_ret2
            exact ⟨rfl, H3.out, N3.out⟩
        · have hkz : ¬ (k : Int) < 16 := by omega
          have h1 := HR.out
          obtain rfl : k = 16 := by omega
          have h3 : R = none := h1.symm
          subst h3
          go_wp2
          go_ret2
          exact ⟨rfl, H1.out, Kp.of_below NN.out⟩
    · have CL : Hid (∀ w, Tab w → Calls Tryd.prog 65 #[.int .i64 x] w fun e w' => e = .returned (.tuple #[.int .i64 3, .int .i64 128, .int .i64 8, .int .i64 0]) ∧ Below w.heap.size w w') := CL.out
      show Calls Tryd.prog 55 #[.pointer (some ⟨hb, 0, none⟩), .int .i64 x] w fun e w' => e = .returned (.tuple #[.int .i64 (alR us 3 (fr us 3)).1, .int .i64 (alR us 3 (fr us 3)).2.1]) ∧ HIn w' hb g (alR us 3 (fr us 3)).2.2 ∧ Kp (Gs g) w w'
      generalize hR : fr us 3 = R
      go_enter Tryd.func55, Tryd.ntmps55
      go_wp2_with (first
        | (go_at_call 60; refine (made_c H.out).mono ?_; rintro e w0 ⟨rfl, hw⟩; rw [hw]; clear hw w0)
        | (go_at_call 65; refine (CL.out _ T.out).mono ?_; rintro e w1 ⟨rfl, he⟩; have NN : Hid (Below w.heap.size w w1) := he; clear he))
      have H1 : Hid (HIn w1 hb g us) := H.out.below NN.out
      have T1 : Hid (Tab w1) := T.out.below NN.out T.out.lt
      clear H T
      have hh : w1.cell? ⟨hb, 3, none⟩ = some (.slice (some ⟨g 3, 0, none⟩) 8 8) := H1.out.cell (c := 3) (by omega)
      go_loopw [25] (fun i wr => ∃ k : Nat, k ≤ 8 ∧ i = .int .i64 (k : Int) ∧ ff (fun k => !us 3 k) (8 - k) k = R ∧ wr = w1) (fun i _ => 8 - (intOf i).toNat)
      case atStart => exact ⟨0, by omega, rfl, hR, rfl⟩
      case round =>
        obtain ⟨k, hk, rfl, hr, hwr⟩ := hrel
        rw [hwr]
        clear hwr wr hR
        have HR : Hid (ff (fun k => !us 3 k) (8 - k) k = R) := hr
        clear hr
        rcases Nat.lt_or_ge k 8 with hk' | hk'
        · have hkz : (k : Int) < 8 := by omega
          have hbit : w1.cell? ⟨g 3, k, none⟩ = some (.bool (us 3 k)) := H1.out.bit (c := 3) (k := k) (by omega) hk'
          have hfz := (H1.out.rows 3 (by omega)).frozen k
          have hlt := (H1.out.rows 3 (by omega)).lt
          have HS : Hid (ff (fun k => !us 3 k) (8 - k) k = if us 3 k then ff (fun k => !us 3 k) (8 - (k + 1)) (k + 1) else some k) := fr_step us 3 k 8 hk'
          generalize hu : us 3 k = u at hbit HS
          cases u with
          | true =>
            go_wp2
            go_roundw
            case rel =>
              refine ⟨k + 1, by omega, by go_num, ?_, trivial⟩
              have h1 := HR.out
              rw [HS.out, if_pos rfl] at h1
              exact h1
            case measure => simp [intOf]; omega
          | false =>
            have h1 := HR.out
            rw [HS.out, if_neg (by simp)] at h1
            subst h1
            have H2 : Hid (HIn (w1.setCell ⟨g 3, k, none⟩ (.bool true)) hb g (upd us 3 k true)) := H1.out.set (c := 3) (by omega) k true
            have N2 : Hid (Kp (Gs g) w (w1.setCell ⟨g 3, k, none⟩ (.bool true))) := (Kp.of_below NN.out).trans (Kp.set w1 k (.bool true) ⟨3, by omega, rfl⟩)
            have T2 : Hid (Tab (w1.setCell ⟨g 3, k, none⟩ (.bool true))) := (Kp.set (F := Gs g) w1 k (.bool true) ⟨3, by omega, rfl⟩).tab T1.out H1.out.no0
            go_wp2
            generalize w1.setCell ⟨g 3, k, none⟩ (.bool true) = w2 at *
            have t0 : ∀ y : After w2, y.w.cell? ⟨0, 9, none⟩ = some (.int .i64 128) := fun y => After.cell ((T2.out.cell 9).trans rfl) y
            have t1 : ∀ y : After w2, y.w.cell? ⟨0, 10, none⟩ = some (.int .i64 8) := fun y => After.cell ((T2.out.cell 10).trans rfl) y
            have t2 : ∀ y : After w2, y.w.cell? ⟨0, 11, none⟩ = some (.int .i64 269312) := fun y => After.cell ((T2.out.cell 11).trans rfl) y
            clear hh hbit hfz hlt
            haveI := After.has w2
            refine wp_region_after (by kernel_rfl) (by kernel_rfl) ?_
            repeat (quiet_step ((go_at_call 62; exact Calls.after (bytes_c 128 8 269312 _ (by omega) (by omega)))))
            refine wpQuiet_nil ?_
            intro _ hw'
            obtain ⟨xq, hw''⟩ := hw'
            subst hw''
            have H3 : Hid (HIn xq.w hb g (upd us 3 k true)) := H2.out.below xq.below
            have N3 : Hid (Kp (Gs g) w xq.w) := N2.out.trans (Kp.of_below xq.below)
            clear t0 t1 t2
            go_wp2
            rw [wrap_in ((k : Int) * 512) ⟨by omega, by omega⟩, wrap_in (269312 + (k : Int) * 512) ⟨by omega, by omega⟩]
            go_ret2
            exact ⟨rfl, H3.out, N3.out⟩
        · have hkz : ¬ (k : Int) < 8 := by omega
          have h1 := HR.out
          obtain rfl : k = 8 := by omega
          have h3 : R = none := h1.symm
          subst h3
          go_wp2
          go_ret2
          exact ⟨rfl, H1.out, Kp.of_below NN.out⟩
end Go.Proofs.YtapgaclonilnbaaDoor
