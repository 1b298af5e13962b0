/-
  Proved: the law LexNumbers answers true for every number of 32 bits and every choice of a type's name: its digits with that name behind them are that number and type, with a nought ahead they are none, and they lex as one int.
  Conditions: the table lex.signs reads, when the call begins, as the program's own text lays it (the card ties it to that text, over the pruned copy of the project that the seat holds); nothing else beyond the given row's own.
-/
import Derived.Test.YtbfelkcaakpdiaaDoorOne
import Derived.Test.YtbfelkcaakpdiaaDoorLift
import Derived.Test.YtbfelkcaakpdiaaDoorTie
import Derived.Test.YtbfelkcaakpdiaaDoorCards
import Derived.SevenTiedAt
namespace Go.Proofs.YtbfelkcaakpdiaaDoor
open Go.ChangeShapes Go.WideShapes Go.ChangeAt Go.RowKit

theorem val_cons (c : UInt8) (r : Bs) : val (c :: r) = (c.toNat - 48) * 10 ^ r.length + val r := by
  have gen : ∀ (r : Bs) (a : Nat), r.foldl (fun v c => v * 10 + (c.toNat - 48)) a = a * 10 ^ r.length + r.foldl (fun v c => v * 10 + (c.toNat - 48)) 0 := by
    intro r
    induction r with
    | nil => intro a; simp
    | cons x r ih =>
      intro a
      rw [List.foldl_cons, ih, List.foldl_cons, ih (0 * 10 + (x.toNat - 48)), List.length_cons, Nat.pow_succ, Nat.zero_mul, Nat.zero_add]
      rw [Nat.add_mul, Nat.mul_assoc, Nat.mul_comm 10, Nat.add_assoc]
  unfold val
  rw [List.foldl_cons, gen]
  simp

/-- The digits of n: 'acc' stand behind, 'v' is what is left. -/
structure Dl (n v : Nat) (acc : Bs) : Prop where
  dig : ∀ c ∈ acc, isDig c = true
  sum : v * 10 ^ acc.length + val acc = n
  pos : acc = [] ∨ 1 ≤ v

theorem Dl.len {n v : Nat} {acc : Bs} (h : Dl n v acc) (hn : n < 4294967296) : acc.length ≤ 9 := by
  rcases h.pos with h1 | h1
  · subst h1; simp
  · have h2 := h.sum
    have h3 : 10 ^ acc.length ≤ n := by
      have := Nat.mul_le_mul_right (10 ^ acc.length) h1
      omega
    by_cases h4 : acc.length ≤ 9
    · exact h4
    · have : 10 ^ 10 ≤ 10 ^ acc.length := Nat.pow_le_pow_right (by decide) (by omega)
      omega

def dg (k : Nat) : UInt8 := UInt8.ofNat (48 + k)
theorem dg_nat {k : Nat} (h : k < 10) : (dg k).toNat = 48 + k := by
  simp [dg]; omega

theorem Dl.step {n v : Nat} {acc : Bs} (h : Dl n v acc) (hv : 10 ≤ v) : Dl n (v / 10) (dg (v % 10) :: acc) := by
  have hm : v % 10 < 10 := Nat.mod_lt _ (by decide)
  refine ⟨?_, ?_, .inr (by omega)⟩
  · intro c hc
    rcases List.mem_cons.1 hc with rfl | hc
    · simp [isDig, dg_nat hm]; omega
    · exact h.dig c hc
  · rw [val_cons, dg_nat hm, ← h.sum, List.length_cons, Nat.pow_succ]
    have e : v = v / 10 * 10 + v % 10 := by omega
    conv => rhs; rw [e]
    rw [Nat.add_mul, Nat.mul_assoc, Nat.mul_comm (10 ^ acc.length) 10]
    have : 48 + v % 10 - 48 = v % 10 := by omega
    rw [this]
    omega

theorem one_byte1 (w : World) (c : UInt8) : (convert 39 9 (.slice (some ⟨w.heap.size, 0, none⟩) 1 1)).run Tryd.prog (w.alloc (.cells #[.int .u8 (c.toNat : Int)] 5)) = .ok (.string (ofL [c])) (w.alloc (.cells #[.int .u8 (c.toNat : Int)] 5)) := by
  have hb : BA (w.alloc (.cells #[.int .u8 (c.toNat : Int)] 5)) w.heap.size 0 [c] := by
    refine ⟨by simp, fun i hi => ?_⟩
    match i, hi with
    | 0, _ => simp
  exact conv hb 1

def suffC : Array Value := (suffL.map fun s => Value.string (ofL s)).toArray
theorem suffC_eq : (#[Value.string { data := #[] }, Value.string { data := #[105, 56] }, Value.string { data := #[105, 49, 54] }, Value.string { data := #[105, 51, 50] }, Value.string { data := #[117, 56] }, Value.string { data := #[117, 49, 54] }, Value.string { data := #[117, 51, 50] }] : Array Value) = suffC := rfl
theorem suffC_at (i : Nat) (h : i < 7) : suffC[i]? = some (.string (ofL (suffL.getD i []))) := by
  have : suffC[i]? = (suffL.map fun s => Value.string (ofL s))[i]? := by simp [suffC]
  rw [this, List.getElem?_map, List.getElem?_eq_getElem (show i < suffL.length from h), List.getD_eq_getElem?_getD, List.getElem?_eq_getElem (show i < suffL.length from h)]
  rfl

theorem idx7 (a : Int) : ∃ j : Nat, j < 7 ∧ (wrap64 (a.tmod 7 + 7)).tmod 7 = (j : Int) := by
  have h1 := Int.tmod_lt_of_pos a (show (0 : Int) < 7 by decide)
  have h2 := Int.lt_tmod_of_pos a (show (0 : Int) < 7 by decide)
  have e : wrap64 (a.tmod 7 + 7) = a.tmod 7 + 7 := wrap64_of (by omega) (by omega)
  rw [e, Int.tmod_eq_emod_of_nonneg (by omega)]
  exact ⟨((a.tmod 7 + 7) % 7).toNat, by omega, by omega⟩

/-- D are the digits of n. -/
structure Dg (n : Nat) (D : Bs) : Prop where
  dig : ∀ c ∈ D, isDig c = true
  sum : val D = n
  ne : 0 < D.length
  head : D.length = 1 ∨ D.head? ≠ some 48
  len : D.length ≤ 10

theorem Dl.done {n v : Nat} {acc D : Bs} (h : Dl n v acc) (hn : n < 4294967296) (hv : v < 10) (hD : dg (v % 10) :: acc = D) : Dg n D := by
  subst hD
  have e : v % 10 = v := by omega
  rw [e]
  have hl := h.len hn
  refine ⟨?_, ?_, by simp, ?_, by simp; omega⟩
  · intro c hc
    rcases List.mem_cons.1 hc with rfl | hc
    · simp [isDig, dg_nat hv]; omega
    · exact h.dig c hc
  · rw [val_cons, dg_nat hv, ← h.sum]
    have : 48 + v - 48 = v := by omega
    rw [this]
  · rcases h.pos with h1 | h1
    · left; rw [h1]; rfl
    · right
      simp
      intro e2
      have := congrArg UInt8.toNat e2
      rw [dg_nat hv] at this
      have e3 : (48 : UInt8).toNat = 48 := rfl
      omega

theorem run_app (p : UInt8 → Bool) (t : Bs) (ht : t = [] ∨ ∃ c r, t = c :: r ∧ p c = false) : ∀ D : Bs, (∀ c ∈ D, p c = true) → run p (D ++ t) = D.length
  | [], _ => by
    rcases ht with rfl | ⟨c, r, rfl, h⟩
    · rfl
    · simp [run, h]
  | c :: r, h => by
    have h1 := run_app p t ht r (fun x hx => h x (by simp [hx]))
    simp [run, h c (by simp), h1]

theorem run_whole (p : UInt8 → Bool) (D : Bs) (h : ∀ c ∈ D, p c = true) : run p D = D.length := by
  have := run_app p [] (.inl rfl) D h
  simpa using this

def suffOk (t : Bs) : Bool := (t.length == 0 || (match t with | [] => false | c :: _ => !isDig c)) && t.all isOn && isSuff t && decide (t.length ≤ 3)
theorem suff_all : suffL.all suffOk = true := by kernel_rfl

theorem suff_facts {t : Bs} (h : t ∈ suffL) : (t = [] ∨ ∃ c r, t = c :: r ∧ isDig c = false) ∧ (∀ c ∈ t, isOn c = true) ∧ isSuff t = true ∧ t.length ≤ 3 := by
  have h1 := List.all_eq_true.1 suff_all t h
  simp only [suffOk, Bool.and_eq_true, decide_eq_true_eq] at h1
  obtain ⟨⟨⟨h1, h2⟩, h3⟩, h4⟩ := h1
  refine ⟨?_, fun c hc => List.all_eq_true.1 h2 c hc, h3, h4⟩
  match t, h1 with
  | [], _ => exact .inl rfl
  | c :: r, h1 =>
    simp at h1
    exact .inr ⟨c, r, rfl, h1⟩

theorem num_digits {n : Nat} {D t : Bs} (h : Dg n D) (hn : n < 4294967296) (ht : t ∈ suffL) : numA (D ++ t) = (n, t, 0) := by
  obtain ⟨f1, f2, f3, f4⟩ := suff_facts ht
  have hr := run_app isDig t f1 D h.dig
  have e1 : (D ++ t).take (run isDig (D ++ t)) = D := by rw [hr]; simp
  have e2 : (D ++ t).drop (run isDig (D ++ t)) = t := by rw [hr]; simp
  have hp : plain D = true := by
    have := h.ne
    have := h.len
    simp only [plain, Bool.and_eq_true, Bool.or_eq_true, decide_eq_true_eq]
    exact ⟨⟨by omega, by omega⟩, h.head⟩
  have := numA_yes (D ++ t) (by rw [e1, e2, hp, f3]; rfl) (by rw [e1, h.sum]; omega)
  rw [this, e1, e2, h.sum]

theorem num_nought {n : Nat} {D t : Bs} (h : Dg n D) (ht : t ∈ suffL) : numA (48 :: D ++ t) = (0, [], 21) := by
  obtain ⟨f1, f2, f3, f4⟩ := suff_facts ht
  have hr := run_app isDig t f1 (48 :: D) (by
    intro c hc
    rcases List.mem_cons.1 hc with rfl | hc
    · rfl
    · exact h.dig c hc)
  have e1 : (48 :: D ++ t).take (run isDig (48 :: D ++ t)) = 48 :: D := by rw [hr]; simp
  have hp : plain (48 :: D) = false := by
    have := h.ne
    have h1 : ¬ D.length + 1 = 1 := by omega
    simp only [plain, List.length_cons, h1, List.head?_cons, decide_false, ne_eq, not_true_eq_false, Bool.or_false, Bool.and_false]
  exact numA_no _ (by rw [e1, hp]; rfl)

theorem num_lex {n : Nat} {D t : Bs} (h : Dg n D) (hn : n < 4294967296) (ht : t ∈ suffL) : lex (D ++ t) = ([(2, D ++ t, 0)], 0, 0) := by
  obtain ⟨f1, f2, f3, f4⟩ := suff_facts ht
  have hA := num_digits h hn ht
  have hl : 0 < (D ++ t).length := by have := h.ne; simp; omega
  have hlen : (D ++ t).length ≤ 13 := by have := h.len; simp; omega
  have hon : run isOn (D ++ t) = (D ++ t).length := run_whole isOn (D ++ t) (by
    intro c hc
    rcases List.mem_append.1 hc with hc | hc
    · exact isOn_dig (h.dig c hc)
    · exact f2 c hc)
  have hd0 : isDig (D ++ t)[0] = true := by
    have : 0 < D.length := h.ne
    rw [List.getElem_append_left this]
    exact h.dig _ (List.getElem_mem _)
  generalize hL : D ++ t = L at *
  have hl0 : isLet L[0] = false := by
    simp [isDig] at hd0
    simp [isLet]
    omega
  have hk : skip false L = 0 := by
    have hb : isBl L[0] = false := by
      simp [isDig] at hd0
      simp [isBl]
      omega
    have hp : ([47, 47] : Bs).isPrefixOf (L.drop 0) = false := by
      rw [List.drop_eq_getElem_cons hl]
      generalize L[0] = c at hd0 ⊢
      simp [isDig] at hd0
      have hc : ¬ (47 : UInt8) = c := by
        intro e
        subst e
        have e3 : (47 : UInt8).toNat = 47 := rfl
        omega
      simp [List.isPrefixOf, hc]
    have := skip_none hl rfl hb hp
    simpa using this
  have htk : tok L = (0, 2, L.length) := by
    have := tok_int hl hl0 hd0
    rw [List.drop_zero, hon, List.take_length, hA] at this
    simpa using this
  have e1 : lex L = lexAll L := by simp only [lex, if_neg (show ¬ 65536 < L.length by omega)]
  rw [e1]
  unfold lexAll
  rw [hk, List.drop_zero, lexF_ok L.length L 0 [] (by omega) htk, List.drop_length, List.take_length]
  have e2 : skip false ([] : Bs) = 0 := rfl
  rw [e2, Nat.add_zero, List.drop_length]
  obtain ⟨g, hg⟩ : ∃ g, L.length = g + 1 := ⟨L.length - 1, by omega⟩
  rw [hg, lexF_stop _ _ _ _ rfl]
  rfl

set_option maxHeartbeats 600000 in
set_option maxRecDepth 20000 in
theorem numbers_walk (n : Nat) (a1 : Int) (j : Nat) (t : Bs) (hn : n < 4294967296) (hj : j < 7) (ej : (wrap64 (a1.tmod 7 + 7)).tmod 7 = (j : Int)) (ht : suffL.getD j [] = t) (TM : Hid (t ∈ suffL)) (htl3 : t.length ≤ 3) (w : World) (tb : Tab w) :
    Calls Tryd.prog 7 #[.int .u32 (n : Int), .int .i64 a1] w fun e w' => e = .returned (.bool true) ∧ Below w.heap.size w w' := by
  have T : Hid (Tab w) := tb
  have hcw : (w.alloc (.cells suffC 9)).cell? ⟨w.heap.size, j, none⟩ = some (.string (ofL t)) := by
    rw [← ht, ← suffC_at j hj]
    have : (w.alloc (.cells suffC 9)).cell? ⟨w.heap.size, j, none⟩ = suffC[j]? := World.cell?_alloc_mark w suffC 9 (0, 0) j
    exact this
  have hwc := suffC_eq
  clear tb ht
  go_enter Tryd.func7, Tryd.ntmps7
  go_wp2
  clear hcw hwc
  go_loopw [7, 8] (fun s v wr => ∃ (x : Nat) (acc : Bs), s = .string (ofL acc) ∧ v = .int .u32 (x : Int) ∧ Dl n x acc ∧ Below w.heap.size w wr) (fun _ v _ => (intOf v).toNat)
  case atStart => exact ⟨n, [], rfl, rfl, ⟨by simp, by simp [val], .inl rfl⟩, below_alloc _ _⟩
  case round =>
    obtain ⟨x, acc, rfl, rfl, hd, hb⟩ := hrel
    have D : Hid (Dl n x acc) := hd
    have W : Hid (Below w.heap.size w wr) := hb
    have hlen := hd.len hn
    have hxn : x ≤ n := by
      have h1 := hd.sum
      have h2 : x * 1 ≤ x * 10 ^ acc.length := Nat.mul_le_mul_left _ (Nat.pow_pos (by decide))
      omega
    clear hd hb
    have hob : (convert 39 9 (.slice (some ⟨wr.heap.size, 0, none⟩) 1 1)).run Tryd.prog (wr.alloc (.cells #[.int .u8 (48 + (x : Int) % 10)] 5)) = .ok (.string (ofL [dg (x % 10)])) (wr.alloc (.cells #[.int .u8 (48 + (x : Int) % 10)] 5)) := by
      have h1 := one_byte1 wr (dg (x % 10))
      have h2 : ((dg (x % 10)).toNat : Int) = 48 + (x : Int) % 10 := by rw [dg_nat (Nat.mod_lt _ (by decide))]; omega
      rw [h2] at h1
      exact h1
    obtain ⟨E, hE⟩ : ∃ E, dg (x % 10) :: acc = E := ⟨_, rfl⟩
    have hap : ofL [dg (x % 10)] ++ ofL acc = ofL E := by rw [ofL_app, ← hE]; rfl
    have hEl : E.length ≤ 10 := by rw [← hE]; simp; omega
    have z0 : (ofL [dg (x % 10)]).size = 1 := ofL_size _
    have z1 := ofL_size acc
    have z2 := ofL_size E
    have z3 := ofL_size t
    have HE : Hid (dg (x % 10) :: acc = E) := hE
    clear hE
    by_cases hx : x < 10
    · have G : Hid (Dg n E) := D.out.done hn hx HE.out
      have A1 : Hid (numA (E ++ t) = (n, t, 0)) := num_digits G.out hn TM.out
      have A2 : Hid (numA (48 :: E ++ t) = (0, [], 21)) := num_nought G.out TM.out
      have L1 : Hid (lex (E ++ t) = ([(2, E ++ t, 0)], 0, 0)) := num_lex G.out hn TM.out
      have ha1 := ofL_app E t
      have ha2 : ({ data := #[48] } : ByteArray) ++ ofL E = ofL (48 :: E) := ofL_app [48] E
      have ha3 : ofL (48 :: E) ++ ofL t = ofL (48 :: E ++ t) := ofL_app (48 :: E) t
      have z4 : (ofL (48 :: E)).size = E.length + 1 := ofL_size _
      have z5 : ({ data := #[48] } : ByteArray).size = 1 := rfl
      have htl := ofL_toList
      have W' : Hid (Below w.heap.size w (wr.alloc (.cells #[.int .u8 (48 + (x : Int) % 10)] 5))) := below_next W.out (below_alloc _ _)
      go_wp2_with (first
        | (go_at_call 11; have M' := M1; refine (number_c (48 :: E ++ t) _ ?_).mono ?_; (focus (simp; omega)); rintro e w2 ⟨rfl, hb⟩; rw [A2.out]; have M2 : Hid (Below w.heap.size w w2) := below_next M'.out hb; clear hb)
        | (go_at_call 11; refine (number_c (E ++ t) _ ?_).mono ?_; (focus (simp; omega)); rintro e w1 ⟨rfl, hb⟩; rw [A1.out]; have M1 : Hid (Below w.heap.size w w1) := below_next W'.out hb; clear hb)
        | (go_at_call 8; refine (lex_one L1.out ?_ _ (T.out.below M2.out)).mono ?_; (focus (simp; omega)); rintro e w3 ⟨⟨g3, c3, rfl, gl3, ga3, gb3, gc3⟩, hb⟩; have M3 : Hid (Below w.heap.size w w3) := below_next M2.out hb; clear hb gb3 gc3))
      go_ret
      exact ⟨rfl, M3.out⟩
    · go_wp2
      go_roundw
      case rel =>
        refine ⟨x / 10, E, rfl, ?_, ?_, below_next W.out (below_alloc _ _)⟩
        · congr 1
        · rw [← HE.out]
          exact D.out.step (by omega)
      case measure => simp [intOf]; omega

theorem lexNumbers_walk (a0 a1 : Int) (w0 : (Lit.int .u32 a0).wf = true) (_w1 : (Lit.int .i64 a1).wf = true) (w : World) (t : Tab w) :
    Calls Tryd.prog 7 #[.int .u32 a0, .int .i64 a1] w fun e w' => e = .returned (.bool true) ∧ Below w.heap.size w w' := by
  obtain ⟨j, hj, ej⟩ := idx7 a1
  have hr : 0 ≤ a0 ∧ a0 < 4294967296 := by
    simp [Lit.wf] at w0
    have e1 : IntKind.u32.min = 0 := rfl
    have e2 : IntKind.u32.max = 4294967295 := rfl
    omega
  obtain ⟨n, rfl⟩ : ∃ n : Nat, a0 = (n : Int) := ⟨a0.toNat, by omega⟩
  have m1 : suffL.getD j [] ∈ suffL := by
    rw [List.getD_eq_getElem?_getD, List.getElem?_eq_getElem (show j < suffL.length from hj)]
    exact List.getElem_mem _
  exact numbers_walk n a1 j _ (by omega) hj ej rfl m1 (suff_facts m1).2.2.2 w t

set_option maxRecDepth 100000 in
theorem lexNumbers_lifted (os : Os) (started : os.Started) (H : Type) (enc : TypeId × Value → H) :
    ReturnsInHanded {} Tryd.checked os 7 .any (fun w args => (Rows.lexNumbersSpec.pre enc Tryd.prog Tryd.f7 [] false w args ∧ laidMetH Tryd.prog laid1 w) ∧ sizedMet enc Tryd.prog Tryd.f7 (OpenSpec.ofChange Rows.lexNumbersSpec) false w args)
      (Rows.lexNumbersSpec.post enc Tryd.prog Tryd.f7 false true false false) := by
  refine returnsInHanded_of_change_and (C := Tryd.checked) (X := fun w _ => laidMetH Tryd.prog laid1 w) (fun _ _ _ hh h => h.of_heap hh) own started (by kernel_rfl) Tryd.func7
    (ChangeSpec.witness_shaped (enc := enc) (C := Tryd.checked) (os := os) (X := fun w _ => laidMetH Tryd.prog laid1 w) false (World.doorLaid Tryd.prog 400 os) #[.int .u32 0, .int .i64 0] 8 rfl (World.shaped_of_RefB (by kernel_rfl) (by kernel_rfl)) (by kernel_rfl) (by kernel_rfl) (by kernel_rfl) (door_met os _)) ?_
  intro W base args ds gs before hval0 hW _ _ hL _
  have hval : ∀ (j : Nat) t v, Tryd.f7.params[j]? = some t → args[j]? = some v → Value.okWide Tryd.prog W .any base t v := hval0
  have hW' := hW
  obtain ⟨p, q, hA0, hV, rfl, hfz, hnd⟩ := hW
  have hA : DataW.TrodAll enc Tryd.prog W 0 (fun _ => true) true Tryd.f7.params.toList args.toList ds p := hA0
  rw [Tryd.params7] at hA hval
  obtain ⟨v0, vs0, d0, ds0, p0, q0, hargs, rfl, rfl, h0, r0⟩ := trodAll_cons hA
  obtain ⟨v1, vs1, d1, ds1, p1, q1, rfl, rfl, rfl, h1, r1⟩ := trodAll_cons r0
  obtain ⟨rfl, rfl, rfl⟩ := trodAll_nil r1
  obtain rfl : args = #[v0, v1] := by cases args; simp_all
  obtain ⟨rfl, rfl⟩ := trodVars_none hV
  obtain ⟨a0, rfl, rfl, rfl, w0⟩ := open_int Tryd.underlying41 (hval 0 41 v0 rfl rfl) h0
  obtain ⟨a1, rfl, rfl, rfl, w1⟩ := open_int Tryd.underlying3 (hval 1 3 v1 rfl rfl) h1
  clear hA0 hval0
  simp only [List.append_nil] at hW'
  refine (lexNumbers_walk a0 a1 w0 w1 W (of_laid hL)).mono fun e W' ⟨he, hg⟩ => ?_
  subst he
  exact ⟨_, rfl, _, _, _, [], [], [], hW', (trodAll_cons_mk (shut_bool Tryd.underlying4 _) trodAll_mk0), (trodAll_cons_mk (shut_int Tryd.underlying41 w0) (trodAll_cons_mk (shut_int Tryd.underlying3 w1) trodAll_mk0)), rfl, hg.frame _, fun h => by cases h⟩

theorem lexNumbers_row : Rows.LexNumbersSaid :=
  OpenClaim.holds_of_wide 7 Tryd.f7 rfl rfl rfl rfl rfl rfl rfl ⟨rfl, rfl, rfl, rfl, rfl⟩ rfl rfl rfl rfl rfl (by kernel_rfl) Tryd.func7 (by kernel_rfl)
    (of_decide_eq_true (by kernel_rfl)) (by unfold Func.isWrapper; first | (rw [if_pos (by decide +kernel)]; kernel_rfl) | (rw [if_neg (by decide +kernel)]; exact ⟨rfl, rfl⟩))
    (fun os started H enc _ => lexNumbers_lifted os started H enc)

theorem lexNumbers_holds : Rows.LexNumbersCardSaid :=
  Claim7.holds_tied_plain_at .later [] [.data] true (true, "278e1587f10ff16485df7e10b09819ac31705590c05681b10ca7bdebc75b5a64") false
    lexNumbers_row (fun _ h => by cases h) (by kernel_rfl) (fun _ h => by cases h) lexNumbers_row_tie rfl ⟨rfl, rfl⟩ (by kernel_rfl) rfl
    (fun f fn hf hfn => by
      obtain rfl : f = 7 := Option.some.inj ((show Tryd.prog.funcNamed "ferrule/ferrulelaw02.LexNumbers" = some 7 by kernel_rfl).symm.trans hf) |>.symm
      obtain rfl : fn = Tryd.f7 := (Option.some.inj (Tryd.func7.symm.trans hfn)).symm
      exact ⟨by kernel_rfl, fun j t ht => by
        rw [Tryd.params7] at ht
        have hm : t ∈ [41, 3] := by simpa using Array.mem_of_getElem? ht
        have hall : ([41, 3].all fun u => !Tryd.prog.wantsStandIn u) = true := by kernel_rfl
        exact (show Tryd.prog.wantsStandIn t = false by simpa using List.all_eq_true.1 hall t (by simpa using hm))⟩)
    (by kernel_rfl)
#print axioms lexNumbers_holds
end Go.Proofs.YtbfelkcaakpdiaaDoor
