/-
  Proved: where pastBlanks ends, for every slice of bytes and every place in it; nothing that was in memory turns.
-/
import Derived.Test.YtbfelkcaakpdiaaDoorPre
import Derived.Lib.SlBytesConst
namespace Go.Proofs.YtbfelkcaakpdiaaDoor
open Go.RowKit
theorem below_alloc (w : World) (o : Obj) : Below w.heap.size w (w.alloc o) := (Below.refl _ _).alloc (Nat.le_refl _) _

theorem below_next {w w1 w2 : World} (h : Below w.heap.size w w1) (k : Below w1.heap.size w1 w2) : Below w.heap.size w w2 :=
  ⟨k.os.trans h.os, k.tape.trans h.tape, k.output.trans h.output, Nat.le_trans h.size k.size, fun i hi => (k.block i (Nat.lt_of_lt_of_le hi h.size)).trans (h.block i hi)⟩

theorem slashes (w : World) (m : Nat × Nat) : BA (w.alloc (.cells #[.int .u8 47, .int .u8 47] 5 m)) w.heap.size 0 [47, 47] :=
  ⟨by simp, fun i hi => by
    rw [World.cell?_alloc_mark]
    match i, hi with
    | 0, _ => rfl
    | 1, _ => rfl⟩

set_option maxHeartbeats 1000000 in
theorem pastBlanks_c (b o cap n : Nat) (l : Bs) (w : World) (hb : BA w b o l) (hn : n ≤ l.length) (hcap : l.length ≤ cap) (hm : l.length < 4611686018427387904) :
    Calls Tryd.prog 17 #[.slice (some ⟨b, o, none⟩) l.length cap, .int .i64 n] w fun e w' => e = .returned (.int .i64 ((n + skip false (l.drop n) : Nat) : Int)) ∧ Below w.heap.size w w' := by
  have B : Hid (BA w b o l) := hb
  clear hb
  generalize hR : n + skip false (l.drop n) = R
  go_enter Tryd.func17, Tryd.ntmps17
  go_wp2
  go_loopw [1] (fun i wr => ∃ k : Nat, k ≤ l.length ∧ i = .int .i64 (k : Int) ∧ k + skip false (l.drop k) = R ∧ Below w.heap.size w wr) (fun i _ => l.length - (intOf i).toNat)
  case atStart => exact ⟨n, hn, rfl, hR, Below.refl _ _⟩
  case round =>
    obtain ⟨k, hk, rfl, hr, hw⟩ := hrel
    have W : Hid (Below w.heap.size w wr) := hw
    have B' : Hid (BA wr b o l) := B.out.below hw
    obtain ⟨c, hc, hl⟩ := byte_at B'.out k
    have L : Hid (∀ h : k < l.length, l[k] = c) := hl
    have HR : Hid (k + skip false (l.drop k) = R) := hr
    clear hl hr hR hw
    have kc := fun (w : World) (C : Array Value) (n c : Nat) => Lib.run_convert_bytes_const (P := Tryd.prog) w 39 5 C n c Tryd.underlying39 Tryd.underlying5
    go_wp2_with (first
      | (go_at_call 41; refine (isBlank_c c _).mono ?_; rintro e w' ⟨rfl, he⟩; subst he)
      | (go_at_call 42; refine (hasPrefix_n b (o + k) _ _ 0 _ _ _ (l.drop k) [47, 47] _ ((B'.out.below (below_alloc _ _)).drop k) (slashes _ _) ?_ ?_ rfl).mono ?_; (focus (simp; omega)); (focus (simp)); rintro e w' ⟨rfl, he⟩; subst he)
      | (go_at_call 23; refine (pastLine b o cap k l _ (B'.out.below (below_alloc _ _)) hk hm).mono ?_; rintro e w' ⟨rfl, he⟩; subst he)
      | go_in)
    · have hk' : k < l.length := by assumption
      have hp : isBl c = true := by assumption
      go_roundw
      case rel =>
        refine ⟨k + 1, by omega, by go_num, ?_, W.out⟩
        have h1 := HR.out
        rw [skip_blank hk' (L.out hk') hp] at h1
        omega
      case measure => simp [intOf]; omega
    · have hk' : k < l.length := by assumption
      have hp : ([47, 47] : Bs).isPrefixOf (l.drop k) = true := by assumption
      have hle := run_le isLn (l.drop k)
      have hpos := run_pos_slash hp
      simp at hle
      go_roundw
      case rel =>
        refine ⟨k + run isLn (l.drop k), by omega, by go_num, ?_, below_next W.out (below_alloc _ _)⟩
        have h1 := HR.out
        rw [skip_slash hp] at h1
        rw [List.drop_drop] at h1
        omega
      case measure => simp [intOf]; omega
    · have hk' : k < l.length := by assumption
      have hp : ([47, 47] : Bs).isPrefixOf (l.drop k) = false := by assumption
      have hq : isBl c = false := by assumption
      have h1 := HR.out
      rw [skip_none hk' (L.out hk') hq hp] at h1
      simp at h1
      subst h1
      go_ret
      exact ⟨rfl, below_next W.out (below_alloc _ _)⟩
    · have hk' : ¬ k < l.length := by assumption
      have h1 := HR.out
      rw [skip_end (by omega)] at h1
      simp at h1
      subst h1
      go_ret
      exact ⟨rfl, W.out⟩
end Go.Proofs.YtbfelkcaakpdiaaDoor
