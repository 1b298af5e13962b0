/-
  Proved: ShowTypes' own walk.
-/
import Derived.Test.YtdpmdonneoadbaaDoorShowType
import Derived.Test.YtdpmdonneoadbaaDoorRefAlike
namespace Go.Proofs.YtdpmdonneoadbaaDoor
open Go.RowKit

theorem type_c (t : T) (w : World) (cs : List Value) (h : TIn w t cs) (ht : Tab w) (hf : t.fits) (hd : t.deepT < 200) (hlen : t.text.length ≤ 1099511627776) :
    Calls Tryd.prog 5 #[.agg cs.toArray] w fun e w' => e = .returned (.string (ofL t.text)) ∧ Below w.heap.size w w' :=
  (callsIn_wide (n := 6)).1 (type_in Fence.wide 6 (fun _ _ _ _ _ h => callsIn_wide.2 h) rfl (Nat.le_refl _) trivial trivial trivial trivial trivial trivial trivial trivial t cs w h ht hf hd hlen)

set_option maxRecDepth 20000 in
set_option maxHeartbeats 2000000 in
theorem types_walk (kt : Int) (st : ByteArray) (nt : Int) (est : List T) (At : Option Addr) (Ct : Nat) (ka ata na : Int) (sa : ByteArray) (ksa : List X) (tsa : List T) (Aa : Option Addr) (Ca : Nat) (Ba : Option Addr) (Da : Nat) (pa : Int) (qa : ByteArray) (ra : Int) (Za : Option Addr) (zla zca : Nat) (kb atb nb : Int) (sb : ByteArray) (ksb : List X) (tsb : List T) (Ab : Option Addr) (Cb : Nat) (Bb : Option Addr) (Db : Nat) (pb : Int) (qb : ByteArray) (rb : Int) (Zb : Option Addr) (zlb zcb : Nat) (w : World)
    (ht : TIn w (.mk kt st nt est) [.int .i64 kt, .string st, .int .i64 nt, .slice At est.length Ct]) (ha : XIn w (.mk ka na sa ksa tsa) [.int .i64 ka, .int .i64 ata, .int .i64 na, .string sa, .slice Aa ksa.length Ca, .slice Ba tsa.length Da, .int .i64 pa, .string qa, .int .i64 ra, .slice Za zla zca]) (hb : XIn w (.mk kb nb sb ksb tsb) [.int .i64 kb, .int .i64 atb, .int .i64 nb, .string sb, .slice Ab ksb.length Cb, .slice Bb tsb.length Db, .int .i64 pb, .string qb, .int .i64 rb, .slice Zb zlb zcb]) (htab : Tab w) (hf : (T.mk kt st nt est).fits) (hbig : (T.mk kt st nt est).big ≤ 1048576) :
    Calls Tryd.prog 3 #[.agg #[.int .i64 kt, .string st, .int .i64 nt, .slice At est.length Ct], .agg #[.int .i64 ka, .int .i64 ata, .int .i64 na, .string sa, .slice Aa ksa.length Ca, .slice Ba tsa.length Da, .int .i64 pa, .string qa, .int .i64 ra, .slice Za zla zca], .agg #[.int .i64 kb, .int .i64 atb, .int .i64 nb, .string sb, .slice Ab ksb.length Cb, .slice Bb tsb.length Db, .int .i64 pb, .string qb, .int .i64 rb, .slice Zb zlb zcb]] w fun e w' => e = .returned (.bool true) ∧ Below w.heap.size w w' := by
  have HT : Hid (TIn w (.mk kt st nt est) [.int .i64 kt, .string st, .int .i64 nt, .slice At est.length Ct]) := ht
  have HA : Hid (XIn w (.mk ka na sa ksa tsa) [.int .i64 ka, .int .i64 ata, .int .i64 na, .string sa, .slice Aa ksa.length Ca, .slice Ba tsa.length Da, .int .i64 pa, .string qa, .int .i64 ra, .slice Za zla zca]) := ha
  have HB : Hid (XIn w (.mk kb nb sb ksb tsb) [.int .i64 kb, .int .i64 atb, .int .i64 nb, .string sb, .slice Ab ksb.length Cb, .slice Bb tsb.length Db, .int .i64 pb, .string qb, .int .i64 rb, .slice Zb zlb zcb]) := hb
  have TB : Hid (Tab w) := htab
  have HF : Hid (T.mk kt st nt est).fits := hf
  have HG : Hid ((T.mk kt st nt est).big ≤ 1048576) := hbig
  clear ht ha hb htab hf hbig
  have W3 : ∀ o1 o2 o3, Below w.heap.size w (((w.alloc o1).alloc o2).alloc o3) := fun _ _ _ => below_next (two_alloc _ _ _) (below_alloc _ _)
  go_enter Tryd.func3, Tryd.ntmps3
  go_wp2_with (go_at_call 4; refine (chain_c (.mk kt st nt est) [.int .i64 kt, .string st, .int .i64 nt, .slice At est.length Ct] _ (HT.out.stays (W3 _ _ _))).mono ?_; rintro e w1 ⟨⟨r, rfl, hr⟩, hb1⟩; have RR : Hid (r < 200 → (T.mk kt st nt est).deepT < 200) := hr; have M : Hid (Below w.heap.size w w1) := below_next (W3 _ _ _) hb1; have HB1 : Hid (Below _ _ w1) := hb1; clear hb1 hr)
  · go_ret
    exact ⟨rfl, M.out⟩
  · have hlt : r < 200 := by first | assumption | omega
    have hdeep := RR.out hlt
    have tH : w1.heap[w.heap.size]? = some (.cells #[.int .i64 kt, .string st, .int .i64 nt, .slice At est.length Ct] 24 (0, 0)) := by
      rw [HB1.out.block _ (by simp; omega), Below.heap_alloc _ _ _ (by simp; omega), Below.heap_alloc _ _ _ (by simp)]
      exact alloc_at _ _
    have aH : w1.heap[w.heap.size + 1]? = some (.cells #[.int .i64 ka, .int .i64 ata, .int .i64 na, .string sa, .slice Aa ksa.length Ca, .slice Ba tsa.length Da, .int .i64 pa, .string qa, .int .i64 ra, .slice Za zla zca] 27 (0, 0)) := by
      rw [HB1.out.block _ (by simp), Below.heap_alloc _ _ _ (by simp)]
      have := alloc_at (w.alloc (.cells #[.int .i64 kt, .string st, .int .i64 nt, .slice At est.length Ct] 24)) (.cells #[.int .i64 ka, .int .i64 ata, .int .i64 na, .string sa, .slice Aa ksa.length Ca, .slice Ba tsa.length Da, .int .i64 pa, .string qa, .int .i64 ra, .slice Za zla zca] 27)
      rwa [World.size_alloc] at this
    have bH : w1.heap[w.heap.size + 1 + 1]? = some (.cells #[.int .i64 kb, .int .i64 atb, .int .i64 nb, .string sb, .slice Ab ksb.length Cb, .slice Bb tsb.length Db, .int .i64 pb, .string qb, .int .i64 rb, .slice Zb zlb zcb] 27 (0, 0)) := by
      rw [HB1.out.block _ (by simp)]
      have := alloc_at ((w.alloc (.cells #[.int .i64 kt, .string st, .int .i64 nt, .slice At est.length Ct] 24)).alloc (.cells #[.int .i64 ka, .int .i64 ata, .int .i64 na, .string sa, .slice Aa ksa.length Ca, .slice Ba tsa.length Da, .int .i64 pa, .string qa, .int .i64 ra, .slice Za zla zca] 27)) (.cells #[.int .i64 kb, .int .i64 atb, .int .i64 nb, .string sb, .slice Ab ksb.length Cb, .slice Bb tsb.length Db, .int .i64 pb, .string qb, .int .i64 rb, .slice Zb zlb zcb] 27)
      rwa [World.size_alloc, World.size_alloc] at this
    have hlen : (T.mk kt st nt est).text.length ≤ 1099511627776 := by
      have h1 := T.text_len _ HF.out
      have h2 := HG.out
      omega
    have K5 : Hid (∀ x : After w1, Calls Tryd.prog 5 #[.agg #[.int .i64 kt, .string st, .int .i64 nt, .slice At est.length Ct]] x.w fun e w'' => e = .returned (.string (ofL (T.mk kt st nt est).text)) ∧ Below x.w.heap.size x.w w'') := fun x =>
      type_c (.mk kt st nt est) x.w [.int .i64 kt, .string st, .int .i64 nt, .slice At est.length Ct] ((HT.out.stays M.out).stays x.below) ((TB.out.below M.out).below x.below) HF.out hdeep hlen
    have K6 : Hid (∀ x : After w1, Calls Tryd.prog 6 #[.agg #[.int .i64 kt, .string st, .int .i64 nt, .slice At est.length Ct]] x.w fun e w'' => e = .returned (.string (ofL (T.mk kt st nt est).text)) ∧ Below x.w.heap.size x.w w'') := fun x =>
      rtype_c (.mk kt st nt est) HF.out (by have h2 := HG.out; omega) x.w [.int .i64 kt, .string st, .int .i64 nt, .slice At est.length Ct] ((HT.out.stays M.out).stays x.below)
    have K7 : Hid (∀ (u v : Array Value) (R : Bool), ((u = #[.int .i64 ka, .int .i64 ata, .int .i64 na, .string sa, .slice Aa ksa.length Ca, .slice Ba tsa.length Da, .int .i64 pa, .string qa, .int .i64 ra, .slice Za zla zca] ∧ v = #[.int .i64 kb, .int .i64 atb, .int .i64 nb, .string sb, .slice Ab ksb.length Cb, .slice Bb tsb.length Db, .int .i64 pb, .string qb, .int .i64 rb, .slice Zb zlb zcb] ∧ R = X.alike (.mk ka na sa ksa tsa) (.mk kb nb sb ksb tsb)) ∨ (u = #[.int .i64 ka, .int .i64 ata, .int .i64 na, .string sa, .slice Aa ksa.length Ca, .slice Ba tsa.length Da, .int .i64 pa, .string qa, .int .i64 ra, .slice Za zla zca] ∧ v = #[.int .i64 ka, .int .i64 ata, .int .i64 na, .string sa, .slice Aa ksa.length Ca, .slice Ba tsa.length Da, .int .i64 pa, .string qa, .int .i64 ra, .slice Za zla zca] ∧ R = true) ∨ (u = #[.int .i64 kb, .int .i64 atb, .int .i64 nb, .string sb, .slice Ab ksb.length Cb, .slice Bb tsb.length Db, .int .i64 pb, .string qb, .int .i64 rb, .slice Zb zlb zcb] ∧ v = #[.int .i64 kb, .int .i64 atb, .int .i64 nb, .string sb, .slice Ab ksb.length Cb, .slice Bb tsb.length Db, .int .i64 pb, .string qb, .int .i64 rb, .slice Zb zlb zcb] ∧ R = true)) →
        ∀ x : After w1, Calls Tryd.prog 7 #[.agg u, .agg v] x.w fun e w'' => e = .returned (.bool R) ∧ Below x.w.heap.size x.w w'') := fun u v R h x => by
      have xa := (HA.out.stays M.out).stays x.below
      have xb := (HB.out.stays M.out).stays x.below
      rcases h with ⟨rfl, rfl, rfl⟩ | ⟨rfl, rfl, rfl⟩ | ⟨rfl, rfl, rfl⟩
      · exact alike_c _ _ x.w _ _ xa xb
      · have := alike_c _ _ x.w _ _ xa xa
        rw [X.alike_self] at this
        exact this
      · have := alike_c _ _ x.w _ _ xb xb
        rw [X.alike_self] at this
        exact this
    have K8 : Hid (∀ x : After w1, Calls Tryd.prog 8 #[.agg #[.int .i64 ka, .int .i64 ata, .int .i64 na, .string sa, .slice Aa ksa.length Ca, .slice Ba tsa.length Da, .int .i64 pa, .string qa, .int .i64 ra, .slice Za zla zca], .agg #[.int .i64 kb, .int .i64 atb, .int .i64 nb, .string sb, .slice Ab ksb.length Cb, .slice Bb tsb.length Db, .int .i64 pb, .string qb, .int .i64 rb, .slice Zb zlb zcb]] x.w fun e w'' => e = .returned (.bool (X.alike (.mk ka na sa ksa tsa) (.mk kb nb sb ksb tsb))) ∧ Below x.w.heap.size x.w w'') := fun x =>
      ralike_c _ _ x.w [.int .i64 ka, .int .i64 ata, .int .i64 na, .string sa, .slice Aa ksa.length Ca, .slice Ba tsa.length Da, .int .i64 pa, .string qa, .int .i64 ra, .slice Za zla zca] [.int .i64 kb, .int .i64 atb, .int .i64 nb, .string sb, .slice Ab ksb.length Cb, .slice Bb tsb.length Db, .int .i64 pb, .string qb, .int .i64 rb, .slice Zb zlb zcb] ((HA.out.stays M.out).stays x.below) ((HB.out.stays M.out).stays x.below)
    generalize ofL (T.mk kt st nt est).text = S at K5 K6
    generalize X.alike (.mk ka na sa ksa tsa) (.mk kb nb sb ksb tsb) = R at K7 K8
    have t0 := fun x : After w1 => After.cell (show w1.cell? ⟨w.heap.size, 0, none⟩ = some (.int .i64 kt) from (cell_at tH 0).trans rfl) x
    have t1 := fun x : After w1 => After.cell (show w1.cell? ⟨w.heap.size, 1, none⟩ = some (.string st) from (cell_at tH 1).trans rfl) x
    have t2 := fun x : After w1 => After.cell (show w1.cell? ⟨w.heap.size, 2, none⟩ = some (.int .i64 nt) from (cell_at tH 2).trans rfl) x
    have t3 := fun x : After w1 => After.cell (show w1.cell? ⟨w.heap.size, 3, none⟩ = some (.slice At est.length Ct) from (cell_at tH 3).trans rfl) x
    have a0 := fun x : After w1 => After.cell (show w1.cell? ⟨w.heap.size + 1, 0, none⟩ = some (.int .i64 ka) from (cell_at aH 0).trans rfl) x
    have a1 := fun x : After w1 => After.cell (show w1.cell? ⟨w.heap.size + 1, 1, none⟩ = some (.int .i64 ata) from (cell_at aH 1).trans rfl) x
    have a2 := fun x : After w1 => After.cell (show w1.cell? ⟨w.heap.size + 1, 2, none⟩ = some (.int .i64 na) from (cell_at aH 2).trans rfl) x
    have a3 := fun x : After w1 => After.cell (show w1.cell? ⟨w.heap.size + 1, 3, none⟩ = some (.string sa) from (cell_at aH 3).trans rfl) x
    have a4 := fun x : After w1 => After.cell (show w1.cell? ⟨w.heap.size + 1, 4, none⟩ = some (.slice Aa ksa.length Ca) from (cell_at aH 4).trans rfl) x
    have a5 := fun x : After w1 => After.cell (show w1.cell? ⟨w.heap.size + 1, 5, none⟩ = some (.slice Ba tsa.length Da) from (cell_at aH 5).trans rfl) x
    have a6 := fun x : After w1 => After.cell (show w1.cell? ⟨w.heap.size + 1, 6, none⟩ = some (.int .i64 pa) from (cell_at aH 6).trans rfl) x
    have a7 := fun x : After w1 => After.cell (show w1.cell? ⟨w.heap.size + 1, 7, none⟩ = some (.string qa) from (cell_at aH 7).trans rfl) x
    have a8 := fun x : After w1 => After.cell (show w1.cell? ⟨w.heap.size + 1, 8, none⟩ = some (.int .i64 ra) from (cell_at aH 8).trans rfl) x
    have a9 := fun x : After w1 => After.cell (show w1.cell? ⟨w.heap.size + 1, 9, none⟩ = some (.slice Za zla zca) from (cell_at aH 9).trans rfl) x
    have b0 := fun x : After w1 => After.cell (show w1.cell? ⟨w.heap.size + 1 + 1, 0, none⟩ = some (.int .i64 kb) from (cell_at bH 0).trans rfl) x
    have b1 := fun x : After w1 => After.cell (show w1.cell? ⟨w.heap.size + 1 + 1, 1, none⟩ = some (.int .i64 atb) from (cell_at bH 1).trans rfl) x
    have b2 := fun x : After w1 => After.cell (show w1.cell? ⟨w.heap.size + 1 + 1, 2, none⟩ = some (.int .i64 nb) from (cell_at bH 2).trans rfl) x
    have b3 := fun x : After w1 => After.cell (show w1.cell? ⟨w.heap.size + 1 + 1, 3, none⟩ = some (.string sb) from (cell_at bH 3).trans rfl) x
    have b4 := fun x : After w1 => After.cell (show w1.cell? ⟨w.heap.size + 1 + 1, 4, none⟩ = some (.slice Ab ksb.length Cb) from (cell_at bH 4).trans rfl) x
    have b5 := fun x : After w1 => After.cell (show w1.cell? ⟨w.heap.size + 1 + 1, 5, none⟩ = some (.slice Bb tsb.length Db) from (cell_at bH 5).trans rfl) x
    have b6 := fun x : After w1 => After.cell (show w1.cell? ⟨w.heap.size + 1 + 1, 6, none⟩ = some (.int .i64 pb) from (cell_at bH 6).trans rfl) x
    have b7 := fun x : After w1 => After.cell (show w1.cell? ⟨w.heap.size + 1 + 1, 7, none⟩ = some (.string qb) from (cell_at bH 7).trans rfl) x
    have b8 := fun x : After w1 => After.cell (show w1.cell? ⟨w.heap.size + 1 + 1, 8, none⟩ = some (.int .i64 rb) from (cell_at bH 8).trans rfl) x
    have b9 := fun x : After w1 => After.cell (show w1.cell? ⟨w.heap.size + 1 + 1, 9, none⟩ = some (.slice Zb zlb zcb) from (cell_at bH 9).trans rfl) x
    clear tH aH bH hlen hdeep HB1 RR HT HA HB HF HG TB W3
    haveI := After.has w1
    refine wp_region_after (by kernel_rfl) (by kernel_rfl) ?_
    repeat (quiet_step ((first
      | (go_at_call 5; exact Calls.after (K5.out _))
      | (go_at_call 6; exact Calls.after (K6.out _))
      | (go_at_call 8; exact Calls.after (K8.out _))
      | (go_at_call 7; exact Calls.after (K7.out _ _ _ (by first | exact Or.inl ⟨rfl, rfl, rfl⟩ | exact Or.inr (Or.inl ⟨rfl, rfl, rfl⟩) | exact Or.inr (Or.inr ⟨rfl, rfl, rfl⟩)) _)))))
    refine wpQuiet_nil ?_
    intro _ hw'
    obtain ⟨xq, hw''⟩ := hw'
    subst hw''
    have N : Hid (Below w1.heap.size w1 xq.w) := xq.below
    go_wp2
    go_ret
    exact ⟨by first | rfl | simp, below_next M.out N.out⟩
end Go.Proofs.YtdpmdonneoadbaaDoor
