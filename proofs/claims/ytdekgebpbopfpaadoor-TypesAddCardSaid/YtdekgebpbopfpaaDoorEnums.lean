/-
  Proved: TypesEnums answers true for every two lists of numbers.
-/
import Derived.Test.YtdekgebpbopfpaaDoorEnumI
namespace Go.Proofs.YtdekgebpbopfpaaDoor
open Go.RowKit

/-- Numbers in a row. -/
def II (w : World) (xs : List Int) (A : Option Addr) : Prop :=
  xs.length ≤ 9223372036854775807 ∧ ∀ i (h : i < xs.length), ∃ b o, A = some ⟨b, o, none⟩ ∧ b < w.heap.size ∧ w.cell? ⟨b, o + i, none⟩ = some (.int .i64 (xs[i]'h))

theorem II.below {w w' : World} (k : Below w.heap.size w w') {xs : List Int} {A : Option Addr} (h : II w xs A) : II w' xs A :=
  ⟨h.1, fun i hi => by
    obtain ⟨b, o, h1, h2, h3⟩ := h.2 i hi
    exact ⟨b, o, h1, Nat.lt_of_lt_of_le h2 k.size, (k.cell (p := ⟨b, o + i, none⟩) h2).trans h3⟩⟩

def nnf (ss : List Int) (i : Nat) : Nat := match ss[i]? with | some x => (x % 8).toNat | none => 1
def bbf (ks : List Int) (i : Nat) : Bool := match ks[i]? with | some x => decide (x % 2 = 1) | none => false

theorem nnf_le (ss : List Int) (i : Nat) : nnf ss i ≤ 7 := by
  unfold nnf
  split <;> omega

theorem and1 (v : Int) : bits .and .i64 v 1 = v % 2 := and_mask v 1 (by decide)

theorem info47 : (Tryd.prog.info? 47).map (fun i => (i.zero, i.size, i.bytes)) = some (some (.agg #[.string ⟨#[]⟩, .slice none 0 0, .int .i64 0]), 3, 48) := by kernel_rfl

theorem info_parts' {P : Program} {e : TypeId} {z : Value} {a b : Nat} (h : (P.info? e).map (fun i => (i.zero, i.size, i.bytes)) = some (some z, a, b)) : ∃ i, P.info? e = some i ∧ i.zero = some z ∧ i.size = a ∧ i.bytes = b := by
  obtain ⟨i, hi, hzz⟩ := Option.map_eq_some_iff.1 h
  simp only [Prod.mk.injEq] at hzz
  exact ⟨i, hi, hzz.1, hzz.2.1, hzz.2.2⟩

theorem news2 (w : World) (a : Obj) (cs : List Value) (t : TypeId) : ∀ j u, cs[j]? = some u → ((w.alloc a).alloc (.cells cs.toArray t)).cell? ((⟨w.heap.size + 1, 0, none⟩ : Addr).add j) = some u := by
  have := cells_new (w.alloc a) cs t
  simpa using this

theorem news3 (w : World) (a b : Obj) (cs : List Value) (t : TypeId) : ∀ j u, cs[j]? = some u → (((w.alloc a).alloc b).alloc (.cells cs.toArray t)).cell? ((⟨w.heap.size + 1 + 1, 0, none⟩ : Addr).add j) = some u := by
  have := cells_new ((w.alloc a).alloc b) cs t
  simpa using this

theorem at_mid (w : World) (a c : Obj) (cs : Array Value) (t : TypeId) : At (((w.alloc a).alloc (.cells cs t)).alloc c) (w.heap.size + 1) cs t := by
  have := (At.new (w.alloc a) cs t).alloc c
  simpa using this

theorem room_l {k : Nat} (h : k < 8) : k + 1 ≤ maxLen ∧ (k + 1) * 56 ≤ 140737488355328 ∧ (k + 1) * 48 ≤ 140737488355328 := by
  unfold maxLen
  omega

theorem vcl_one (i : Nat) (A : Option Addr) (n C : Nat) : ∀ u ∈ vcl i A n C, u.oneCell' = true := by
  intro u hu
  simp only [vcl, List.mem_cons, List.not_mem_nil, or_false] at hu
  rcases hu with rfl | rfl | rfl <;> rfl

/-- What holds behind the making. -/
def EN (w wr : World) (vs : List (ByteArray × List T)) (VA : Option Addr) (w' : World) : Prop :=
  IsIn w' [eit vs] (some ⟨wr.heap.size, 0, none⟩) ∧ Below w.heap.size w w' ∧ At w' (wr.heap.size + 1) #[.int .i64 9, .string ⟨#[69]⟩, .int .i64 0, .slice none 0 0] 25 ∧ VsIn w' vs VA ∧ Below wr.heap.size wr w'

theorem EN.next {w wr : World} {vs : List (ByteArray × List T)} {VA : Option Addr} {w' w'' : World} (h : EN w wr vs VA w') (hb : Below w'.heap.size w' w'') : EN w wr vs VA w'' :=
  ⟨h.1.below hb, h.2.1.trans (hb.mono h.2.1.size), h.2.2.1.below hb h.2.2.1.lt, h.2.2.2.1.below hb, h.2.2.2.2.trans (hb.mono h.2.2.2.2.size)⟩

theorem eit_in {W : World} {g n C : Nat} {vs : List (ByteArray × List T)} {VA : Option Addr} (h : At W g (icells 3 ⟨#[69]⟩ none 0 0 VA n C zr).toArray 38) (hn : vs.length = n) (hv : VsIn W vs VA) : IsIn W [eit vs] (some ⟨g, 0, none⟩) := by
  subst hn
  refine ⟨by simp, fun i hi => ?_⟩
  match i, hi with
  | 0, _ => exact ⟨g, 0, none, 0, VA, C, zr, rfl, row_at h 0, ⟨by simp [eit], fun j hj => absurd hj (Nat.not_lt_zero _)⟩, hv⟩

theorem EN.start {w wr : World} {vs : List (ByteArray × List T)} {VA : Option Addr} {n C : Nat} (h1 : Below w.heap.size w wr) (hv : VsIn wr vs VA) (hn : vs.length = n) :
    EN w wr vs VA ((wr.alloc (.cells (icells 3 ⟨#[69]⟩ none 0 0 VA n C zr).toArray 38)).alloc (.cells #[.int .i64 9, .string ⟨#[69]⟩, .int .i64 0, .slice none 0 0] 25)) := by
  refine ⟨eit_in ((At.new wr _ 38).alloc _) hn (hv.below (two_alloc _ _ _)), h1.trans ((two_alloc _ _ _).mono h1.size), ?_, hv.below (two_alloc _ _ _), two_alloc _ _ _⟩
  have := At.new (wr.alloc (.cells (icells 3 ⟨#[69]⟩ none 0 0 VA n C zr).toArray 38)) #[.int .i64 9, .string ⟨#[69]⟩, .int .i64 0, .slice none 0 0] 25
  simpa using this

theorem e_in (w : World) : TIn w (.mk 9 ⟨#[69]⟩ 0 []) [.int .i64 9, .string ⟨#[69]⟩, .int .i64 0, .slice none 0 0] := named_in w _

theorem EN.words {w wr : World} {nn : Nat → Nat} {bb : Nat → Bool} {VA : Option Addr} {i : Nat} (hi : i ≤ 5) (hn : ∀ j, nn j ≤ 7) (ht : Tab w) {w' : World} (h : EN w wr (vsl nn bb i) VA w') :
    Calls Tryd.prog 7 #[.slice (some ⟨wr.heap.size, 0, none⟩) 1 1, .agg #[.int .i64 9, .string ⟨#[69]⟩, .int .i64 0, .slice none 0 0]] w' fun e w'' => e = .returned (.tuple #[.int .i64 ((mxN nn i : Int) + 1), .bool true]) ∧ Below w'.heap.size w' w'' := by
  have := words_c [eit (vsl nn bb i)] (.mk 9 ⟨#[69]⟩ 0 []) _ (some ⟨wr.heap.size, 0, none⟩) 1 w' (ht.below h.2.1) h.1 (e_in w')
  rw [enum_wrd nn bb hn i hi] at this
  exact this

theorem EN.copy {w wr : World} {nn : Nat → Nat} {bb : Nat → Bool} {VA : Option Addr} {i : Nat} (hi : i ≤ 5) (hn : ∀ j, nn j ≤ 7) (ht : Tab w) {w' : World} (h : EN w wr (vsl nn bb i) VA w') :
    Calls Tryd.prog 9 #[.slice (some ⟨wr.heap.size, 0, none⟩) 1 1, .agg #[.int .i64 9, .string ⟨#[69]⟩, .int .i64 0, .slice none 0 0]] w' fun e w'' => e = .returned (.bool (cpB nn bb i)) ∧ Below w'.heap.size w' w'' := by
  have := copy_c [eit (vsl nn bb i)] (.mk 9 ⟨#[69]⟩ 0 []) _ (some ⟨wr.heap.size, 0, none⟩) 1 w' (ht.below h.2.1) h.1 (e_in w')
  rw [enum_cpy nn bb hn i hi] at this
  exact this

theorem EN.variant {w wr : World} {nn : Nat → Nat} {bb : Nat → Bool} {VA : Option Addr} {i : Nat} (hn : ∀ j, nn j ≤ 7) (q : ByteArray) {w' : World} (h : EN w wr (vsl nn bb i) VA w') :
    Calls Tryd.prog 13 #[.slice (some ⟨wr.heap.size, 0, none⟩) 1 1, .agg #[.int .i64 9, .string ⟨#[69]⟩, .int .i64 0, .slice none 0 0], .string q] w' fun e w'' => VarA (vsl nn bb i) (vfd q (vsl nn bb i) 0) e ∧ Below w'.heap.size w' w'' :=
  variant_c [eit (vsl nn bb i)] ⟨#[69]⟩ 0 none 0 0 1 (some ⟨wr.heap.size, 0, none⟩) q w' h.1 0 (eit_fst _) (by simp) rfl (fun k hk => by
    have hk' : k < (vsl nn bb i).length := hk
    have : ((vsl nn bb i)[k]'hk').2 = List.replicate (nn k) (lf (bb k)) := by simp [vsl]
    show CopiesC ((vsl nn bb i)[k]'hk').2
    rw [this]
    exact leaves_copies _ _ (hn k))

set_option maxRecDepth 100000 in
set_option maxHeartbeats 4000000 in
theorem enums_walk (ks ss : List Int) (KA SA : Option Addr) (KC SC : Nat) (w : World) (ht : Tab w) (hk : II w ks KA) (hs : II w ss SA) :
    Calls Tryd.prog 4 #[.slice KA ks.length KC, .slice SA ss.length SC] w fun e w' => e = .returned (.bool true) ∧ Below w.heap.size w w' := by
  have HT : Hid (Tab w) := ht
  have HKI : Hid (II w ks KA) := hk
  have HSI : Hid (II w ss SA) := hs
  have hkl := hk.1
  have hsl := hs.1
  obtain ⟨i25, a1, a2, a3, a4⟩ := info_parts' info25
  have I25 : Hid (Tryd.prog.info? 25 = some i25 ∧ i25.zero = some (.agg #[.int .i64 0, .string ⟨#[]⟩, .int .i64 0, .slice none 0 0]) ∧ i25.size = 4 ∧ i25.bytes = 56) := ⟨a1, a2, a3, a4⟩
  clear a1 a2 a3 a4
  obtain ⟨i47, a1, a2, a3, a4⟩ := info_parts' info47
  have I47 : Hid (Tryd.prog.info? 47 = some i47 ∧ i47.zero = some (.agg #[.string ⟨#[]⟩, .slice none 0 0, .int .i64 0]) ∧ i47.size = 3 ∧ i47.bytes = 48) := ⟨a1, a2, a3, a4⟩
  clear a1 a2 a3 a4 ht hk hs
  go_enter Tryd.func4, Tryd.ntmps4
  go_wp2
  go_loopw [5, 6, 7, 8, 9] (fun v mo pa co iv wr => ∃ (i : Nat) (x : Int), i ≤ ks.length ∧ i ≤ 5 ∧ iv = .int .i64 (i : Int) ∧ mo = .int .i64 (mxN (nnf ss) i : Int) ∧ pa = .int .i64 x ∧ co = .bool (cpB (nnf ss) (bbf ks) i) ∧ Hid (VR (nnf ss) (bbf ks) w i v wr)) (fun _ _ _ _ iv _ => 5 - (intOf iv).toNat)
  case atStart => exact ⟨0, 1, Nat.zero_le _, Nat.zero_le _, rfl, rfl, rfl, rfl, VR.start _ _ _⟩
  case round =>
    rename World => wi
    obtain ⟨i, x, hil, hi5, rfl, rfl, rfl, rfl, HV⟩ := hrel
    by_cases hlt : i < ks.length ∧ i < 5
    · obtain ⟨hlk, hl5⟩ := hlt
      have hlk' : (i : Int) < (ks.length : Int) := by omega
      have hl5' : (i : Int) < 5 := by omega
      obtain ⟨h1, As, Cs, h2, h3⟩ := HV.out
      have O1 : Hid (Below w.heap.size w wi) := h1
      have O2 : Hid (wi.ownsRow w.heap.size 47 3 u5 i (fl (fun j => vcl j (As j) (nnf ss j) (Cs j)) i)) := h2
      have O3 : Hid (∀ j, j < i → TRow wi (As j) (nnf ss j) (bbf ks j)) := h3
      clear h1 h2 h3 HV
      obtain ⟨kb, ko, rfl, kz, kc⟩ := (HKI.out.below O1.out).2 i hlk
      have hb := and1 (ks[i]'hlk)
      have hbb : bbf ks i = decide (ks[i]'hlk % 2 = 1) := by simp [bbf, List.getElem?_eq_getElem hlk]
      generalize ks[i]'hlk = kx at kc hb hbb
      have HKC : Hid (∀ w', Below wi.heap.size wi w' → w'.cell? ⟨kb, ko + i, none⟩ = some (.int .i64 kx)) := fun w' hw => (hw.cell (p := ⟨kb, ko + i, none⟩) kz).trans kc
      have hmx : mxN (nnf ss) i ≤ 7 := mx_le _ (nnf_le ss) i
      have HMX : Hid (mxN (nnf ss) (i + 1) = max (mxN (nnf ss) i) (nnf ss i)) := rfl
      have HCP : Hid (cpB (nnf ss) (bbf ks) (i + 1) = (cpB (nnf ss) (bbf ks) i && !(bbf ks i && decide (0 < nnf ss i)))) := rfl
      have HBB : Hid (bbf ks i = decide (kx % 2 = 1)) := hbb
      clear hbb kc
      have hnl := nnf_le ss i
      generalize hM : mxN (nnf ss) i = M at hmx HMX
      generalize hCo : cpB (nnf ss) (bbf ks) i = Co at HCP
      by_cases hsz : i < ss.length
      · have hsz' : (i : Int) < (ss.length : Int) := by omega
        obtain ⟨sb, so, rfl, sz, sc⟩ := (HSI.out.below O1.out).2 i hsz
        have h8 := and7 (ss[i]'hsz)
        have hnn : nnf ss i = ((ss[i]'hsz) % 8).toNat := by simp [nnf, List.getElem?_eq_getElem hsz]
        generalize ss[i]'hsz = sx at sc h8 hnn
        have hnx : sx % 8 = ((nnf ss i : Nat) : Int) := by omega
        rw [hnx] at h8
        clear hnx hnn
        generalize hN : nnf ss i = N at hnl HMX HCP h8
        have HN : Hid (nnf ss i = N) := hN
        clear hN hM hCo
        go_wp2
        by_cases hbt : kx % 2 = 1
        · have hbx : bbf ks i = true := by rw [HBB.out]; simp [hbt]
          have HBX : Hid (bbf ks i = true) := hbx
          rw [hbt] at hb
          clear hbx
          go_loopw [7, 8, 10, 11, 13] (fun pa co lv sm kv wz => ∃ (k : Nat) (x : Int), k ≤ N ∧ kv = .int .i64 (k : Int) ∧ sm = .int .i64 (k : Int) ∧ pa = .int .i64 x ∧ co = .bool (Co && !(true && decide (0 < k))) ∧ Hid (LR true wi k lv wz)) (fun _ _ _ _ kv _ => N - (intOf kv).toNat)
          case atStart => exact ⟨0, _, Nat.zero_le _, rfl, rfl, rfl, by simp, LR.start _ _⟩
          case round =>
            obtain ⟨k, x2, hkN, rfl, rfl, rfl, rfl, HL⟩ := hrel
            obtain ⟨l1, l0, qs, l2, l3⟩ := HL.out
            have L1 : Hid (Below wi.heap.size wi wr) := l1
            have L0 : Hid (k = 0 → u10 = .slice none 0 0) := l0
            have L2 : Hid (wr.ownsRow wi.heap.size 25 4 u10 k (fl (fun j => tcl true (qs j)) k)) := l2
            have L3 : Hid (∀ j, j < k → true = true → At wr (qs j) #[.int .i64 2, .string ⟨#[]⟩, .int .i64 0, .slice none 0 0] 25) := l3
            clear l1 l0 l2 l3
            have kc := HKC.out wr L1.out
            have kz2 : kb < wr.heap.size := Nat.lt_of_lt_of_le kz L1.out.size
            by_cases hkn : k < N
            · have hkn' : (k : Int) < ((N : Nat) : Int) := by omega
              have RM : Hid (k + 1 ≤ maxLen ∧ (k + 1) * 56 ≤ 140737488355328 ∧ (k + 1) * 48 ≤ 140737488355328) := room_l (by omega)
              go_wp2_with (at_builtin; go_loud (refine wpList_append_own _ rfl _ _ 23 rfl wi.heap.size 25 i25 (.agg #[.int .i64 0, .string ⟨#[]⟩, .int .i64 0, .slice none 0 0]) 4 56 Tryd.underlying23 I25.out.1 I25.out.2.1 I25.out.2.2.1 I25.out.2.2.2 rfl (by decide) _ _ _ rfl (owns_below L2.out (three_alloc _ _ _ _)) ⟨wr.heap.size + 1 + 1, 0, none⟩ 1 1 (tcl true (wr.heap.size + 1)) rfl rfl (news3 _ _ _ _ _) (tcl_one _ _) RM.out.1 RM.out.2.1 (Nat.le_trans L1.out.size (three_alloc _ _ _ _).size) ?_); intro v5 w5 ho5 hg5 _; have S5 : Hid (LR true wi (k + 1) v5 w5) := LR.step L1.out L0.out L2.out L3.out (three_alloc _ _ _ _) (q := wr.heap.size + 1) (fun _ => at_mid _ _ _ _ _) ho5 hg5; clear ho5 hg5)
              go_roundw
              case rel => exact ⟨k + 1, _, by omega, by go_num, by go_num, rfl, by simp, S5.out⟩
              case measure => simp [intOf]; omega
            · obtain ⟨A, C, hlv, hrow⟩ := HL.out.row
              have TR : Hid (TRow wr A k true) := hrow
              have hkeq : k = N := by omega
              have HNk : Hid (nnf ss i = k) := by show _ = _; rw [hkeq]; exact HN.out
              have HMk : Hid (mxN (nnf ss) (i + 1) = max M k) := by show _ = _; rw [hkeq]; exact HMX.out
              have HCk : Hid (cpB (nnf ss) (bbf ks) (i + 1) = (Co && !(bbf ks i && decide (0 < k)))) := by show _ = _; rw [hkeq]; exact HCP.out
              clear hkeq
              subst hlv
              have hc1 := fun (w' : World) => conv_new w' (65 + (i : Int)) i (by omega) rfl
              have RM2 : Hid (i + 1 ≤ maxLen ∧ (i + 1) * 56 ≤ 140737488355328 ∧ (i + 1) * 48 ≤ 140737488355328) := room_l (by omega)
              have hmm : ((max M k : Nat) : Int) = (if M < k then (k : Int) else (M : Int)) := by
                by_cases h : M < k
                · rw [if_pos h]; omega
                · rw [if_neg h]; omega
              have HMM : Hid (((max M k : Nat) : Int) = (if M < k then (k : Int) else (M : Int))) := hmm
              clear hmm hrow HL
              go_wp2_with (at_builtin; refine wpList_append_own _ rfl _ _ 33 rfl w.heap.size 47 i47 (.agg #[.string ⟨#[]⟩, .slice none 0 0, .int .i64 0]) 3 48 Tryd.underlying33 I47.out.1 I47.out.2.1 I47.out.2.2.1 I47.out.2.2.2 rfl (by decide) _ _ _ rfl (owns_below O2.out (below_next L1.out (two_alloc _ _ _))) ⟨wr.heap.size + 1, 0, none⟩ 1 1 (vcl i A k C) rfl rfl (news2 _ _ _ _) (vcl_one _ _ _ _) RM2.out.1 RM2.out.2.2 (Nat.le_trans O1.out.size (below_next L1.out (two_alloc _ _ _)).size) ?_; intro v5 w5 ho5 hg5 _; have S5 : Hid (VR (nnf ss) (bbf ks) w (i + 1) v5 w5) := VR.step O1.out O2.out O3.out (below_next L1.out (two_alloc _ _ _)) (A := A) (C := C) (by rw [HNk.out, HBX.out]; exact TR.out.below (two_alloc _ _ _)) (by rw [HNk.out]; exact ho5) hg5; clear ho5 hg5)
              go_roundw
              case rel => exact ⟨i + 1, _, by omega, by omega, by go_num, by rw [HMk.out, HMM.out], rfl, by rw [HCk.out, HBX.out]; simp, S5.out⟩
              case measure => simp [intOf]; omega
        · have hbx : bbf ks i = false := by rw [HBB.out]; simp [hbt]
          have HBX : Hid (bbf ks i = false) := hbx
          rw [show kx % 2 = 0 by omega] at hb
          clear hbx
          go_loopw [7, 8, 10, 11, 13] (fun pa co lv sm kv wz => ∃ (k : Nat) (x : Int), k ≤ N ∧ kv = .int .i64 (k : Int) ∧ sm = .int .i64 (k : Int) ∧ pa = .int .i64 x ∧ co = .bool (Co && !(false && decide (0 < k))) ∧ Hid (LR false wi k lv wz)) (fun _ _ _ _ kv _ => N - (intOf kv).toNat)
          case atStart => exact ⟨0, _, Nat.zero_le _, rfl, rfl, rfl, by simp, LR.start _ _⟩
          case round =>
            obtain ⟨k, x2, hkN, rfl, rfl, rfl, rfl, HL⟩ := hrel
            obtain ⟨l1, l0, qs, l2, l3⟩ := HL.out
            have L1 : Hid (Below wi.heap.size wi wr) := l1
            have L0 : Hid (k = 0 → u10 = .slice none 0 0) := l0
            have L2 : Hid (wr.ownsRow wi.heap.size 25 4 u10 k (fl (fun j => tcl false (qs j)) k)) := l2
            have L3 : Hid (∀ j, j < k → false = true → At wr (qs j) #[.int .i64 2, .string ⟨#[]⟩, .int .i64 0, .slice none 0 0] 25) := l3
            clear l1 l0 l2 l3
            have kc := HKC.out wr L1.out
            have kz2 : kb < wr.heap.size := Nat.lt_of_lt_of_le kz L1.out.size
            by_cases hkn : k < N
            · have hkn' : (k : Int) < ((N : Nat) : Int) := by omega
              have RM : Hid (k + 1 ≤ maxLen ∧ (k + 1) * 56 ≤ 140737488355328 ∧ (k + 1) * 48 ≤ 140737488355328) := room_l (by omega)
              go_wp2_with (at_builtin; go_loud (refine wpList_append_own _ rfl _ _ 23 rfl wi.heap.size 25 i25 (.agg #[.int .i64 0, .string ⟨#[]⟩, .int .i64 0, .slice none 0 0]) 4 56 Tryd.underlying23 I25.out.1 I25.out.2.1 I25.out.2.2.1 I25.out.2.2.2 rfl (by decide) _ _ _ rfl (owns_below L2.out (two_alloc _ _ _)) ⟨wr.heap.size + 1, 0, none⟩ 1 1 (tcl false (0)) rfl rfl (news2 _ _ _ _) (tcl_one _ _) RM.out.1 RM.out.2.1 (Nat.le_trans L1.out.size (two_alloc _ _ _).size) ?_); intro v5 w5 ho5 hg5 _; have S5 : Hid (LR false wi (k + 1) v5 w5) := LR.step L1.out L0.out L2.out L3.out (two_alloc _ _ _) (q := 0) (fun h => by cases h) ho5 hg5; clear ho5 hg5)
              go_roundw
              case rel => exact ⟨k + 1, _, by omega, by go_num, by go_num, rfl, by simp, S5.out⟩
              case measure => simp [intOf]; omega
            · obtain ⟨A, C, hlv, hrow⟩ := HL.out.row
              have TR : Hid (TRow wr A k false) := hrow
              have hkeq : k = N := by omega
              have HNk : Hid (nnf ss i = k) := by show _ = _; rw [hkeq]; exact HN.out
              have HMk : Hid (mxN (nnf ss) (i + 1) = max M k) := by show _ = _; rw [hkeq]; exact HMX.out
              have HCk : Hid (cpB (nnf ss) (bbf ks) (i + 1) = (Co && !(bbf ks i && decide (0 < k)))) := by show _ = _; rw [hkeq]; exact HCP.out
              clear hkeq
              subst hlv
              have hc1 := fun (w' : World) => conv_new w' (65 + (i : Int)) i (by omega) rfl
              have RM2 : Hid (i + 1 ≤ maxLen ∧ (i + 1) * 56 ≤ 140737488355328 ∧ (i + 1) * 48 ≤ 140737488355328) := room_l (by omega)
              have hmm : ((max M k : Nat) : Int) = (if M < k then (k : Int) else (M : Int)) := by
                by_cases h : M < k
                · rw [if_pos h]; omega
                · rw [if_neg h]; omega
              have HMM : Hid (((max M k : Nat) : Int) = (if M < k then (k : Int) else (M : Int))) := hmm
              clear hmm hrow HL
              go_wp2_with (at_builtin; refine wpList_append_own _ rfl _ _ 33 rfl w.heap.size 47 i47 (.agg #[.string ⟨#[]⟩, .slice none 0 0, .int .i64 0]) 3 48 Tryd.underlying33 I47.out.1 I47.out.2.1 I47.out.2.2.1 I47.out.2.2.2 rfl (by decide) _ _ _ rfl (owns_below O2.out (below_next L1.out (two_alloc _ _ _))) ⟨wr.heap.size + 1, 0, none⟩ 1 1 (vcl i A k C) rfl rfl (news2 _ _ _ _) (vcl_one _ _ _ _) RM2.out.1 RM2.out.2.2 (Nat.le_trans O1.out.size (below_next L1.out (two_alloc _ _ _)).size) ?_; intro v5 w5 ho5 hg5 _; have S5 : Hid (VR (nnf ss) (bbf ks) w (i + 1) v5 w5) := VR.step O1.out O2.out O3.out (below_next L1.out (two_alloc _ _ _)) (A := A) (C := C) (by rw [HNk.out, HBX.out]; exact TR.out.below (two_alloc _ _ _)) (by rw [HNk.out]; exact ho5) hg5; clear ho5 hg5)
              go_roundw
              case rel => exact ⟨i + 1, _, by omega, by omega, by go_num, by rw [HMk.out, HMM.out], rfl, by rw [HCk.out, HBX.out]; simp, S5.out⟩
              case measure => simp [intOf]; omega
      · have hsz' : ¬ (i : Int) < (ss.length : Int) := by omega
        have hnn : nnf ss i = 1 := by simp [nnf, List.getElem?_eq_none (Nat.not_lt.1 hsz)]
        rw [hnn] at HMX HCP
        have HN : Hid (nnf ss i = 1) := hnn
        clear hnn hM hCo hnl
        go_wp2
        by_cases hbt : kx % 2 = 1
        · have hbx : bbf ks i = true := by rw [HBB.out]; simp [hbt]
          have HBX : Hid (bbf ks i = true) := hbx
          rw [hbt] at hb
          clear hbx
          go_loopw [7, 8, 10, 11, 13] (fun pa co lv sm kv wz => ∃ (k : Nat) (x : Int), k ≤ 1 ∧ kv = .int .i64 (k : Int) ∧ sm = .int .i64 (k : Int) ∧ pa = .int .i64 x ∧ co = .bool (Co && !(true && decide (0 < k))) ∧ Hid (LR true wi k lv wz)) (fun _ _ _ _ kv _ => 1 - (intOf kv).toNat)
          case atStart => exact ⟨0, _, Nat.zero_le _, rfl, rfl, rfl, by simp, LR.start _ _⟩
          case round =>
            obtain ⟨k, x2, hkN, rfl, rfl, rfl, rfl, HL⟩ := hrel
            obtain ⟨l1, l0, qs, l2, l3⟩ := HL.out
            have L1 : Hid (Below wi.heap.size wi wr) := l1
            have L0 : Hid (k = 0 → u10 = .slice none 0 0) := l0
            have L2 : Hid (wr.ownsRow wi.heap.size 25 4 u10 k (fl (fun j => tcl true (qs j)) k)) := l2
            have L3 : Hid (∀ j, j < k → true = true → At wr (qs j) #[.int .i64 2, .string ⟨#[]⟩, .int .i64 0, .slice none 0 0] 25) := l3
            clear l1 l0 l2 l3
            have kc := HKC.out wr L1.out
            have kz2 : kb < wr.heap.size := Nat.lt_of_lt_of_le kz L1.out.size
            by_cases hkn : k < 1
            · have hkn' : (k : Int) < ((1 : Nat) : Int) := by omega
              have RM : Hid (k + 1 ≤ maxLen ∧ (k + 1) * 56 ≤ 140737488355328 ∧ (k + 1) * 48 ≤ 140737488355328) := room_l (by omega)
              go_wp2_with (at_builtin; go_loud (refine wpList_append_own _ rfl _ _ 23 rfl wi.heap.size 25 i25 (.agg #[.int .i64 0, .string ⟨#[]⟩, .int .i64 0, .slice none 0 0]) 4 56 Tryd.underlying23 I25.out.1 I25.out.2.1 I25.out.2.2.1 I25.out.2.2.2 rfl (by decide) _ _ _ rfl (owns_below L2.out (three_alloc _ _ _ _)) ⟨wr.heap.size + 1 + 1, 0, none⟩ 1 1 (tcl true (wr.heap.size + 1)) rfl rfl (news3 _ _ _ _ _) (tcl_one _ _) RM.out.1 RM.out.2.1 (Nat.le_trans L1.out.size (three_alloc _ _ _ _).size) ?_); intro v5 w5 ho5 hg5 _; have S5 : Hid (LR true wi (k + 1) v5 w5) := LR.step L1.out L0.out L2.out L3.out (three_alloc _ _ _ _) (q := wr.heap.size + 1) (fun _ => at_mid _ _ _ _ _) ho5 hg5; clear ho5 hg5)
              go_roundw
              case rel => exact ⟨k + 1, _, by omega, by go_num, by go_num, rfl, by simp, S5.out⟩
              case measure => simp [intOf]; omega
            · obtain ⟨A, C, hlv, hrow⟩ := HL.out.row
              have TR : Hid (TRow wr A k true) := hrow
              have hkeq : k = 1 := by omega
              have HNk : Hid (nnf ss i = k) := by show _ = _; rw [hkeq]; exact HN.out
              have HMk : Hid (mxN (nnf ss) (i + 1) = max M k) := by show _ = _; rw [hkeq]; exact HMX.out
              have HCk : Hid (cpB (nnf ss) (bbf ks) (i + 1) = (Co && !(bbf ks i && decide (0 < k)))) := by show _ = _; rw [hkeq]; exact HCP.out
              clear hkeq
              subst hlv
              have hc1 := fun (w' : World) => conv_new w' (65 + (i : Int)) i (by omega) rfl
              have RM2 : Hid (i + 1 ≤ maxLen ∧ (i + 1) * 56 ≤ 140737488355328 ∧ (i + 1) * 48 ≤ 140737488355328) := room_l (by omega)
              have hmm : ((max M k : Nat) : Int) = (if M < k then (k : Int) else (M : Int)) := by
                by_cases h : M < k
                · rw [if_pos h]; omega
                · rw [if_neg h]; omega
              have HMM : Hid (((max M k : Nat) : Int) = (if M < k then (k : Int) else (M : Int))) := hmm
              clear hmm hrow HL
              go_wp2_with (at_builtin; refine wpList_append_own _ rfl _ _ 33 rfl w.heap.size 47 i47 (.agg #[.string ⟨#[]⟩, .slice none 0 0, .int .i64 0]) 3 48 Tryd.underlying33 I47.out.1 I47.out.2.1 I47.out.2.2.1 I47.out.2.2.2 rfl (by decide) _ _ _ rfl (owns_below O2.out (below_next L1.out (two_alloc _ _ _))) ⟨wr.heap.size + 1, 0, none⟩ 1 1 (vcl i A k C) rfl rfl (news2 _ _ _ _) (vcl_one _ _ _ _) RM2.out.1 RM2.out.2.2 (Nat.le_trans O1.out.size (below_next L1.out (two_alloc _ _ _)).size) ?_; intro v5 w5 ho5 hg5 _; have S5 : Hid (VR (nnf ss) (bbf ks) w (i + 1) v5 w5) := VR.step O1.out O2.out O3.out (below_next L1.out (two_alloc _ _ _)) (A := A) (C := C) (by rw [HNk.out, HBX.out]; exact TR.out.below (two_alloc _ _ _)) (by rw [HNk.out]; exact ho5) hg5; clear ho5 hg5)
              go_roundw
              case rel => exact ⟨i + 1, _, by omega, by omega, by go_num, by rw [HMk.out, HMM.out], rfl, by rw [HCk.out, HBX.out]; simp, S5.out⟩
              case measure => simp [intOf]; omega
        · have hbx : bbf ks i = false := by rw [HBB.out]; simp [hbt]
          have HBX : Hid (bbf ks i = false) := hbx
          rw [show kx % 2 = 0 by omega] at hb
          clear hbx
          go_loopw [7, 8, 10, 11, 13] (fun pa co lv sm kv wz => ∃ (k : Nat) (x : Int), k ≤ 1 ∧ kv = .int .i64 (k : Int) ∧ sm = .int .i64 (k : Int) ∧ pa = .int .i64 x ∧ co = .bool (Co && !(false && decide (0 < k))) ∧ Hid (LR false wi k lv wz)) (fun _ _ _ _ kv _ => 1 - (intOf kv).toNat)
          case atStart => exact ⟨0, _, Nat.zero_le _, rfl, rfl, rfl, by simp, LR.start _ _⟩
          case round =>
            obtain ⟨k, x2, hkN, rfl, rfl, rfl, rfl, HL⟩ := hrel
            obtain ⟨l1, l0, qs, l2, l3⟩ := HL.out
            have L1 : Hid (Below wi.heap.size wi wr) := l1
            have L0 : Hid (k = 0 → u10 = .slice none 0 0) := l0
            have L2 : Hid (wr.ownsRow wi.heap.size 25 4 u10 k (fl (fun j => tcl false (qs j)) k)) := l2
            have L3 : Hid (∀ j, j < k → false = true → At wr (qs j) #[.int .i64 2, .string ⟨#[]⟩, .int .i64 0, .slice none 0 0] 25) := l3
            clear l1 l0 l2 l3
            have kc := HKC.out wr L1.out
            have kz2 : kb < wr.heap.size := Nat.lt_of_lt_of_le kz L1.out.size
            by_cases hkn : k < 1
            · have hkn' : (k : Int) < ((1 : Nat) : Int) := by omega
              have RM : Hid (k + 1 ≤ maxLen ∧ (k + 1) * 56 ≤ 140737488355328 ∧ (k + 1) * 48 ≤ 140737488355328) := room_l (by omega)
              go_wp2_with (at_builtin; go_loud (refine wpList_append_own _ rfl _ _ 23 rfl wi.heap.size 25 i25 (.agg #[.int .i64 0, .string ⟨#[]⟩, .int .i64 0, .slice none 0 0]) 4 56 Tryd.underlying23 I25.out.1 I25.out.2.1 I25.out.2.2.1 I25.out.2.2.2 rfl (by decide) _ _ _ rfl (owns_below L2.out (two_alloc _ _ _)) ⟨wr.heap.size + 1, 0, none⟩ 1 1 (tcl false (0)) rfl rfl (news2 _ _ _ _) (tcl_one _ _) RM.out.1 RM.out.2.1 (Nat.le_trans L1.out.size (two_alloc _ _ _).size) ?_); intro v5 w5 ho5 hg5 _; have S5 : Hid (LR false wi (k + 1) v5 w5) := LR.step L1.out L0.out L2.out L3.out (two_alloc _ _ _) (q := 0) (fun h => by cases h) ho5 hg5; clear ho5 hg5)
              go_roundw
              case rel => exact ⟨k + 1, _, by omega, by go_num, by go_num, rfl, by simp, S5.out⟩
              case measure => simp [intOf]; omega
            · obtain ⟨A, C, hlv, hrow⟩ := HL.out.row
              have TR : Hid (TRow wr A k false) := hrow
              have hkeq : k = 1 := by omega
              have HNk : Hid (nnf ss i = k) := by show _ = _; rw [hkeq]; exact HN.out
              have HMk : Hid (mxN (nnf ss) (i + 1) = max M k) := by show _ = _; rw [hkeq]; exact HMX.out
              have HCk : Hid (cpB (nnf ss) (bbf ks) (i + 1) = (Co && !(bbf ks i && decide (0 < k)))) := by show _ = _; rw [hkeq]; exact HCP.out
              clear hkeq
              subst hlv
              have hc1 := fun (w' : World) => conv_new w' (65 + (i : Int)) i (by omega) rfl
              have RM2 : Hid (i + 1 ≤ maxLen ∧ (i + 1) * 56 ≤ 140737488355328 ∧ (i + 1) * 48 ≤ 140737488355328) := room_l (by omega)
              have hmm : ((max M k : Nat) : Int) = (if M < k then (k : Int) else (M : Int)) := by
                by_cases h : M < k
                · rw [if_pos h]; omega
                · rw [if_neg h]; omega
              have HMM : Hid (((max M k : Nat) : Int) = (if M < k then (k : Int) else (M : Int))) := hmm
              clear hmm hrow HL
              go_wp2_with (at_builtin; refine wpList_append_own _ rfl _ _ 33 rfl w.heap.size 47 i47 (.agg #[.string ⟨#[]⟩, .slice none 0 0, .int .i64 0]) 3 48 Tryd.underlying33 I47.out.1 I47.out.2.1 I47.out.2.2.1 I47.out.2.2.2 rfl (by decide) _ _ _ rfl (owns_below O2.out (below_next L1.out (two_alloc _ _ _))) ⟨wr.heap.size + 1, 0, none⟩ 1 1 (vcl i A k C) rfl rfl (news2 _ _ _ _) (vcl_one _ _ _ _) RM2.out.1 RM2.out.2.2 (Nat.le_trans O1.out.size (below_next L1.out (two_alloc _ _ _)).size) ?_; intro v5 w5 ho5 hg5 _; have S5 : Hid (VR (nnf ss) (bbf ks) w (i + 1) v5 w5) := VR.step O1.out O2.out O3.out (below_next L1.out (two_alloc _ _ _)) (A := A) (C := C) (by rw [HNk.out, HBX.out]; exact TR.out.below (two_alloc _ _ _)) (by rw [HNk.out]; exact ho5) hg5; clear ho5 hg5)
              go_roundw
              case rel => exact ⟨i + 1, _, by omega, by omega, by go_num, by rw [HMk.out, HMM.out], rfl, by rw [HCk.out, HBX.out]; simp, S5.out⟩
              case measure => simp [intOf]; omega
    · by_cases hlk : i < ks.length
      · have hl5 : ¬ i < 5 := fun h => hlt ⟨hlk, h⟩
        have hlk' : (i : Int) < (ks.length : Int) := by omega
        have hl5' : ¬ (i : Int) < 5 := by omega
        obtain ⟨VA, VC, hv, hvin⟩ := HV.out.isin hi5 (nnf_le ss)
        have HB0 : Hid (Below w.heap.size w wi) := HV.out.1
        have HVI : Hid (VsIn wi (vsl (nnf ss) (bbf ks) i) VA) := hvin
        have hlen : (vsl (nnf ss) (bbf ks) i).length = i := by simp [vsl]
        have ST : Hid (EN w wi (vsl (nnf ss) (bbf ks) i) VA ((wi.alloc (.cells (icells 3 ⟨#[69]⟩ none 0 0 VA i VC zr).toArray 38)).alloc (.cells #[.int .i64 9, .string ⟨#[69]⟩, .int .i64 0, .slice none 0 0] 25))) := EN.start HB0.out HVI.out hlen
        have WD : Hid (∀ w', EN w wi (vsl (nnf ss) (bbf ks) i) VA w' → _) := fun w' h => EN.words hi5 (nnf_le ss) HT.out h
        have CPY : Hid (∀ w', EN w wi (vsl (nnf ss) (bbf ks) i) VA w' → _) := fun w' h => EN.copy hi5 (nnf_le ss) HT.out h
        have VAR : Hid (∀ q w', EN w wi (vsl (nnf ss) (bbf ks) i) VA w' → _) := fun q w' h => EN.variant (nnf_le ss) q h
        have hmx : mxN (nnf ss) i ≤ 7 := mx_le _ (nnf_le ss) i
        subst hv
        unfold icells zr at ST
        generalize mxN (nnf ss) i = M at hmx WD
        generalize cpB (nnf ss) (bbf ks) i = Co at CPY
        clear hvin HV
        go_wp2_with (first
          | (go_at_call 7; refine (WD.out _ ST.out).mono ?_; rintro e w1 ⟨rfl, hb1⟩; have E1 : Hid (EN w wi (vsl (nnf ss) (bbf ks) i) VA w1) := ST.out.next hb1; have e0 : w1.cell? ⟨wi.heap.size + 1, 0, none⟩ = some (.int .i64 9) := (E1.out.2.2.1.cell 0).trans rfl; have e1 : w1.cell? ⟨wi.heap.size + 1, 1, none⟩ = some (.string ⟨#[69]⟩) := (E1.out.2.2.1.cell 1).trans rfl; have e2 : w1.cell? ⟨wi.heap.size + 1, 2, none⟩ = some (.int .i64 0) := (E1.out.2.2.1.cell 2).trans rfl; have e3 : w1.cell? ⟨wi.heap.size + 1, 3, none⟩ = some (.slice none 0 0) := (E1.out.2.2.1.cell 3).trans rfl; clear hb1)
          | (go_at_call 9; refine (CPY.out _ E1.out).mono ?_; rintro e w2 ⟨rfl, hb1⟩; have E2 : Hid (EN w wi (vsl (nnf ss) (bbf ks) i) VA w2) := E1.out.next hb1; clear hb1))
        clear e0 e1 e2 e3
        go_loopw [19] (fun iv wz => ∃ j : Nat, j ≤ i ∧ iv = .int .i64 (j : Int) ∧ Hid (EN w wi (vsl (nnf ss) (bbf ks) i) VA wz)) (fun iv _ => i - (intOf iv).toNat)
        case atStart => exact ⟨0, Nat.zero_le _, rfl, E2⟩
        case round =>
          obtain ⟨j, hji, rfl, E3⟩ := hrel
          by_cases hjl : j < i
          · have hjl' : (j : Int) < (i : Int) := by omega
            have hjv : j < (vsl (nnf ss) (bbf ks) i).length := by rw [hlen]; exact hjl
            obtain ⟨vb, vo, VB, VBC, va', rfl, hrow, _⟩ := HVI.out.2 j hjv
            have hvj : (vsl (nnf ss) (bbf ks) i)[j]'hjv = (nm j, List.replicate (nnf ss j) (lf (bbf ks j))) := by simp [vsl]
            rw [hvj] at hrow
            simp only [List.length_replicate] at hrow
            have HROW : Hid (RowAt wi vb (vo + j * 3) [.string (nm j), .slice VB (nnf ss j) VBC, .int .i64 va']) := hrow
            have VJ : Hid (∀ w', EN w wi (vsl (nnf ss) (bbf ks) i) (some ⟨vb, vo, none⟩) w' → Calls Tryd.prog 13 #[.slice (some ⟨wi.heap.size, 0, none⟩) 1 1, .agg #[.int .i64 9, .string ⟨#[69]⟩, .int .i64 0, .slice none 0 0], .string (nm j)] w' fun e w'' => (∃ A' C', e = .returned (.tuple #[.int .i64 (j : Int), .slice A' (nnf ss j) C', .bool true])) ∧ Below w'.heap.size w' w'') := fun w' h => by
              refine (VAR.out (nm j) w' h).mono ?_
              rintro e w'' ⟨h1, h2⟩
              rw [vfd_some _ _ i j hi5 hjl] at h1
              obtain ⟨A', C', rfl⟩ := h1
              refine ⟨⟨A', C', ?_⟩, h2⟩
              rw [List.getElem?_eq_getElem hjv, hvj]
              simp
            have SI : Hid (∀ w', EN w wi (vsl (nnf ss) (bbf ks) i) (some ⟨vb, vo, none⟩) w' → w'.cell? ⟨wi.heap.size + 1, 0, none⟩ = some (.int .i64 9) ∧ w'.cell? ⟨wi.heap.size + 1, 1, none⟩ = some (.string ⟨#[69]⟩) ∧ w'.cell? ⟨wi.heap.size + 1, 2, none⟩ = some (.int .i64 0) ∧ w'.cell? ⟨wi.heap.size + 1, 3, none⟩ = some (.slice none 0 0) ∧ w'.cell? ⟨vb, vo + j * 3, none⟩ = some (.string (nm j)) ∧ w'.cell? ⟨vb, vo + j * 3 + 1, none⟩ = some (.slice VB (nnf ss j) VBC) ∧ Hid (EN w wi (vsl (nnf ss) (bbf ks) i) (some ⟨vb, vo, none⟩) w')) := fun w' h =>
              ⟨(h.2.2.1.cell 0).trans rfl, (h.2.2.1.cell 1).trans rfl, (h.2.2.1.cell 2).trans rfl, (h.2.2.1.cell 3).trans rfl, (HROW.out.below h.2.2.2.2).2 0 _ rfl, (HROW.out.below h.2.2.2.2).2 1 _ rfl, h⟩
            clear hrow hvj
            generalize nnf ss j = nj at VJ HROW SI
            go_wp2
            go_region_held3 (fun w' => w'.cell? ⟨wi.heap.size + 1, 0, none⟩ = some (.int .i64 9) ∧ w'.cell? ⟨wi.heap.size + 1, 1, none⟩ = some (.string ⟨#[69]⟩) ∧ w'.cell? ⟨wi.heap.size + 1, 2, none⟩ = some (.int .i64 0) ∧ w'.cell? ⟨wi.heap.size + 1, 3, none⟩ = some (.slice none 0 0) ∧ w'.cell? ⟨vb, vo + j * 3, none⟩ = some (.string (nm j)) ∧ w'.cell? ⟨vb, vo + j * 3 + 1, none⟩ = some (.slice VB nj VBC) ∧ Hid (EN w wi (vsl (nnf ss) (bbf ks) i) (some ⟨vb, vo, none⟩) w'))
              (first
                | with_reducible exact SI.out _ (E3.out.next ((Below.refl _ _).drew))
                | with_reducible exact SI.out _ E4.out)
              (first
                | (go_at_call 13; refine (VJ.out _ (E3.out.next ((Below.refl _ _).drew))).mono ?_; rintro e w4 ⟨⟨A', C', rfl⟩, hb1⟩; have E4 : Hid (EN w wi (vsl (nnf ss) (bbf ks) i) (some ⟨vb, vo, none⟩) w4) := (E3.out.next ((Below.refl _ _).drew)).next hb1; clear hb1))
            have q1 := (SI.out _ E4.out).2.2.2.2.2.1
            all_goals go_wp2
            all_goals go_roundw
            case rel => exact ⟨j + 1, by omega, by go_num, E4.out⟩
            case measure => simp [intOf]; omega
          · have hjl' : ¬ (j : Int) < (i : Int) := by omega
            have e0 : wr.cell? ⟨wi.heap.size + 1, 0, none⟩ = some (.int .i64 9) := (E3.out.2.2.1.cell 0).trans rfl
            have e1 : wr.cell? ⟨wi.heap.size + 1, 1, none⟩ = some (.string ⟨#[69]⟩) := (E3.out.2.2.1.cell 1).trans rfl
            have e2 : wr.cell? ⟨wi.heap.size + 1, 2, none⟩ = some (.int .i64 0) := (E3.out.2.2.1.cell 2).trans rfl
            have e3 : wr.cell? ⟨wi.heap.size + 1, 3, none⟩ = some (.slice none 0 0) := (E3.out.2.2.1.cell 3).trans rfl
            have VZ : Hid (∀ w', EN w wi (vsl (nnf ss) (bbf ks) i) VA w' → Calls Tryd.prog 13 #[.slice (some ⟨wi.heap.size, 0, none⟩) 1 1, .agg #[.int .i64 9, .string ⟨#[69]⟩, .int .i64 0, .slice none 0 0], .string ⟨#[90]⟩] w' fun e w'' => e = .returned (.tuple #[.int .i64 0, .slice none 0 0, .bool false]) ∧ Below w'.heap.size w' w'') := fun w' h => by
              refine (VAR.out ⟨#[90]⟩ w' h).mono ?_
              rintro e w'' ⟨h1, h2⟩
              rw [vfd_none _ _ i hi5] at h1
              exact ⟨h1, h2⟩
            go_wp2_with (go_at_call 13; refine (VZ.out _ E3.out).mono ?_; rintro e w4 ⟨rfl, hb1⟩; have E4 : Hid (EN w wi (vsl (nnf ss) (bbf ks) i) VA w4) := E3.out.next hb1; clear hb1)
            go_ret
            exact ⟨rfl, E4.out.2.1⟩
      · have hlk' : ¬ (i : Int) < (ks.length : Int) := by omega
        obtain ⟨VA, VC, hv, hvin⟩ := HV.out.isin hi5 (nnf_le ss)
        have HB0 : Hid (Below w.heap.size w wi) := HV.out.1
        have HVI : Hid (VsIn wi (vsl (nnf ss) (bbf ks) i) VA) := hvin
        have hlen : (vsl (nnf ss) (bbf ks) i).length = i := by simp [vsl]
        have ST : Hid (EN w wi (vsl (nnf ss) (bbf ks) i) VA ((wi.alloc (.cells (icells 3 ⟨#[69]⟩ none 0 0 VA i VC zr).toArray 38)).alloc (.cells #[.int .i64 9, .string ⟨#[69]⟩, .int .i64 0, .slice none 0 0] 25))) := EN.start HB0.out HVI.out hlen
        have WD : Hid (∀ w', EN w wi (vsl (nnf ss) (bbf ks) i) VA w' → _) := fun w' h => EN.words hi5 (nnf_le ss) HT.out h
        have CPY : Hid (∀ w', EN w wi (vsl (nnf ss) (bbf ks) i) VA w' → _) := fun w' h => EN.copy hi5 (nnf_le ss) HT.out h
        have VAR : Hid (∀ q w', EN w wi (vsl (nnf ss) (bbf ks) i) VA w' → _) := fun q w' h => EN.variant (nnf_le ss) q h
        have hmx : mxN (nnf ss) i ≤ 7 := mx_le _ (nnf_le ss) i
        subst hv
        unfold icells zr at ST
        generalize mxN (nnf ss) i = M at hmx WD
        generalize cpB (nnf ss) (bbf ks) i = Co at CPY
        clear hvin HV
        go_wp2_with (first
          | (go_at_call 7; refine (WD.out _ ST.out).mono ?_; rintro e w1 ⟨rfl, hb1⟩; have E1 : Hid (EN w wi (vsl (nnf ss) (bbf ks) i) VA w1) := ST.out.next hb1; have e0 : w1.cell? ⟨wi.heap.size + 1, 0, none⟩ = some (.int .i64 9) := (E1.out.2.2.1.cell 0).trans rfl; have e1 : w1.cell? ⟨wi.heap.size + 1, 1, none⟩ = some (.string ⟨#[69]⟩) := (E1.out.2.2.1.cell 1).trans rfl; have e2 : w1.cell? ⟨wi.heap.size + 1, 2, none⟩ = some (.int .i64 0) := (E1.out.2.2.1.cell 2).trans rfl; have e3 : w1.cell? ⟨wi.heap.size + 1, 3, none⟩ = some (.slice none 0 0) := (E1.out.2.2.1.cell 3).trans rfl; clear hb1)
          | (go_at_call 9; refine (CPY.out _ E1.out).mono ?_; rintro e w2 ⟨rfl, hb1⟩; have E2 : Hid (EN w wi (vsl (nnf ss) (bbf ks) i) VA w2) := E1.out.next hb1; clear hb1))
        clear e0 e1 e2 e3
        go_loopw [19] (fun iv wz => ∃ j : Nat, j ≤ i ∧ iv = .int .i64 (j : Int) ∧ Hid (EN w wi (vsl (nnf ss) (bbf ks) i) VA wz)) (fun iv _ => i - (intOf iv).toNat)
        case atStart => exact ⟨0, Nat.zero_le _, rfl, E2⟩
        case round =>
          obtain ⟨j, hji, rfl, E3⟩ := hrel
          by_cases hjl : j < i
          · have hjl' : (j : Int) < (i : Int) := by omega
            have hjv : j < (vsl (nnf ss) (bbf ks) i).length := by rw [hlen]; exact hjl
            obtain ⟨vb, vo, VB, VBC, va', rfl, hrow, _⟩ := HVI.out.2 j hjv
            have hvj : (vsl (nnf ss) (bbf ks) i)[j]'hjv = (nm j, List.replicate (nnf ss j) (lf (bbf ks j))) := by simp [vsl]
            rw [hvj] at hrow
            simp only [List.length_replicate] at hrow
            have HROW : Hid (RowAt wi vb (vo + j * 3) [.string (nm j), .slice VB (nnf ss j) VBC, .int .i64 va']) := hrow
            have VJ : Hid (∀ w', EN w wi (vsl (nnf ss) (bbf ks) i) (some ⟨vb, vo, none⟩) w' → Calls Tryd.prog 13 #[.slice (some ⟨wi.heap.size, 0, none⟩) 1 1, .agg #[.int .i64 9, .string ⟨#[69]⟩, .int .i64 0, .slice none 0 0], .string (nm j)] w' fun e w'' => (∃ A' C', e = .returned (.tuple #[.int .i64 (j : Int), .slice A' (nnf ss j) C', .bool true])) ∧ Below w'.heap.size w' w'') := fun w' h => by
              refine (VAR.out (nm j) w' h).mono ?_
              rintro e w'' ⟨h1, h2⟩
              rw [vfd_some _ _ i j hi5 hjl] at h1
              obtain ⟨A', C', rfl⟩ := h1
              refine ⟨⟨A', C', ?_⟩, h2⟩
              rw [List.getElem?_eq_getElem hjv, hvj]
              simp
            have SI : Hid (∀ w', EN w wi (vsl (nnf ss) (bbf ks) i) (some ⟨vb, vo, none⟩) w' → w'.cell? ⟨wi.heap.size + 1, 0, none⟩ = some (.int .i64 9) ∧ w'.cell? ⟨wi.heap.size + 1, 1, none⟩ = some (.string ⟨#[69]⟩) ∧ w'.cell? ⟨wi.heap.size + 1, 2, none⟩ = some (.int .i64 0) ∧ w'.cell? ⟨wi.heap.size + 1, 3, none⟩ = some (.slice none 0 0) ∧ w'.cell? ⟨vb, vo + j * 3, none⟩ = some (.string (nm j)) ∧ w'.cell? ⟨vb, vo + j * 3 + 1, none⟩ = some (.slice VB (nnf ss j) VBC) ∧ Hid (EN w wi (vsl (nnf ss) (bbf ks) i) (some ⟨vb, vo, none⟩) w')) := fun w' h =>
              ⟨(h.2.2.1.cell 0).trans rfl, (h.2.2.1.cell 1).trans rfl, (h.2.2.1.cell 2).trans rfl, (h.2.2.1.cell 3).trans rfl, (HROW.out.below h.2.2.2.2).2 0 _ rfl, (HROW.out.below h.2.2.2.2).2 1 _ rfl, h⟩
            clear hrow hvj
            generalize nnf ss j = nj at VJ HROW SI
            go_wp2
            go_region_held3 (fun w' => w'.cell? ⟨wi.heap.size + 1, 0, none⟩ = some (.int .i64 9) ∧ w'.cell? ⟨wi.heap.size + 1, 1, none⟩ = some (.string ⟨#[69]⟩) ∧ w'.cell? ⟨wi.heap.size + 1, 2, none⟩ = some (.int .i64 0) ∧ w'.cell? ⟨wi.heap.size + 1, 3, none⟩ = some (.slice none 0 0) ∧ w'.cell? ⟨vb, vo + j * 3, none⟩ = some (.string (nm j)) ∧ w'.cell? ⟨vb, vo + j * 3 + 1, none⟩ = some (.slice VB nj VBC) ∧ Hid (EN w wi (vsl (nnf ss) (bbf ks) i) (some ⟨vb, vo, none⟩) w'))
              (first
                | with_reducible exact SI.out _ (E3.out.next ((Below.refl _ _).drew))
                | with_reducible exact SI.out _ E4.out)
              (first
                | (go_at_call 13; refine (VJ.out _ (E3.out.next ((Below.refl _ _).drew))).mono ?_; rintro e w4 ⟨⟨A', C', rfl⟩, hb1⟩; have E4 : Hid (EN w wi (vsl (nnf ss) (bbf ks) i) (some ⟨vb, vo, none⟩) w4) := (E3.out.next ((Below.refl _ _).drew)).next hb1; clear hb1))
            have q1 := (SI.out _ E4.out).2.2.2.2.2.1
            all_goals go_wp2
            all_goals go_roundw
            case rel => exact ⟨j + 1, by omega, by go_num, E4.out⟩
            case measure => simp [intOf]; omega
          · have hjl' : ¬ (j : Int) < (i : Int) := by omega
            have e0 : wr.cell? ⟨wi.heap.size + 1, 0, none⟩ = some (.int .i64 9) := (E3.out.2.2.1.cell 0).trans rfl
            have e1 : wr.cell? ⟨wi.heap.size + 1, 1, none⟩ = some (.string ⟨#[69]⟩) := (E3.out.2.2.1.cell 1).trans rfl
            have e2 : wr.cell? ⟨wi.heap.size + 1, 2, none⟩ = some (.int .i64 0) := (E3.out.2.2.1.cell 2).trans rfl
            have e3 : wr.cell? ⟨wi.heap.size + 1, 3, none⟩ = some (.slice none 0 0) := (E3.out.2.2.1.cell 3).trans rfl
            have VZ : Hid (∀ w', EN w wi (vsl (nnf ss) (bbf ks) i) VA w' → Calls Tryd.prog 13 #[.slice (some ⟨wi.heap.size, 0, none⟩) 1 1, .agg #[.int .i64 9, .string ⟨#[69]⟩, .int .i64 0, .slice none 0 0], .string ⟨#[90]⟩] w' fun e w'' => e = .returned (.tuple #[.int .i64 0, .slice none 0 0, .bool false]) ∧ Below w'.heap.size w' w'') := fun w' h => by
              refine (VAR.out ⟨#[90]⟩ w' h).mono ?_
              rintro e w'' ⟨h1, h2⟩
              rw [vfd_none _ _ i hi5] at h1
              exact ⟨h1, h2⟩
            go_wp2_with (go_at_call 13; refine (VZ.out _ E3.out).mono ?_; rintro e w4 ⟨rfl, hb1⟩; have E4 : Hid (EN w wi (vsl (nnf ss) (bbf ks) i) VA w4) := E3.out.next hb1; clear hb1)
            go_ret
            exact ⟨rfl, E4.out.2.1⟩
end Go.Proofs.YtdekgebpbopfpaaDoor
