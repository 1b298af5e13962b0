/-
  Proved: what insn's Decode answers.
-/
import Derived.Test.YtcdeckbobabdkaaIenc
import Derived.Laws.StructEq
import Derived.Laws.ResultCell
namespace Go.Proofs.Ytcdeckbobabdkaa
open Go.RowKit
set_option linter.unusedVariables false
set_option linter.unusedSimpArgs false

theorem res2 {P : Program} {fn : Func} {p u : Tmp} {ty : TypeId} (h : fn.results = #[.cell p ty, .tmp u]) (tmps : Array Value) (w : World) (g : Nat) (t : TypeId) (cs : Array Value) (fr : Nat × Nat) (d : TypeDesc)
    (hp : tmps.getD p undef = .pointer (some ⟨g, 0, none⟩)) (hg : w.heap[g]? = some (.cells cs t fr))
    (hu : P.underlying ty = some d) (hd : (match d with | .struct _ | .array _ _ => true | _ => false) = true) (hi : (P.info? ty).map (·.size) = some cs.size) :
    (results fn tmps).run P w = .ok (.tuple #[.agg cs, tmps.getD u undef]) w := by
  rw [results_cell_tmp h, hp]
  simp [asAddr, Result.andThen, run_loadVar_row w g t ty cs fr d hg hu hd hi]

/-- What the numbers in a word have to do with the row's. -/
theorem nIn_is {r : Rw} (h : Rok r) (x : Int) : ∃ n1 n3 n4 : Int, nIn x (pfm r) = [.int .u32 n1, .int .u8 (pfm r), .int .u8 n3, .int .u8 n4] ∧ (fxB r x = true ↔ pop r = n1 ∧ r.f3 = n3 ∧ r.f7 = n4) := by
  have hc := fm_cases h
  have ho := h.1.1
  have h3 := h.2.1
  have h7 := h.2.2
  have hz := h.1.2.2.2.1
  obtain ⟨fm, op, f3, f7⟩ := r
  simp only at hc ho h3 h7 hz
  rcases hc with rfl | rfl | rfl | rfl | rfl | rfl | rfl | rfl | rfl
  · exact ⟨_, _, _, rfl, by have := hz (by decide); have := h7 (by decide) (by decide); simp [fxB, pop]; omega⟩
  · exact ⟨_, _, _, rfl, by have := hz (by decide); have := h7 (by decide) (by decide); simp [fxB, pop]; omega⟩
  · exact ⟨_, _, _, rfl, by have := h7 (by decide) (by decide); simp [fxB, pop]; omega⟩
  · exact ⟨_, _, _, rfl, by simp [fxB, pop]; omega⟩
  · exact ⟨_, _, _, rfl, by have := h7 (by decide) (by decide); simp [fxB, pop]; omega⟩
  · exact ⟨_, _, _, rfl, by have := h7 (by decide) (by decide); simp [fxB, pop]; omega⟩
  · exact ⟨_, _, _, rfl, by simp [fxB, pop]; omega⟩
  · exact ⟨_, _, _, rfl, by have := h3 (by decide); have := h7 (by decide) (by decide); simp [fxB, pop]; omega⟩
  · exact ⟨_, _, _, rfl, by have := h3 (by decide); have := h7 (by decide) (by decide); simp [fxB, pop]; omega⟩

/-- What is read by a row's form is what the document tells. -/
theorem fo_is {r : Rw} (h : Rok r) (x : Int) (x0 : 0 ≤ x) (x1 : x < 4294967296) :
    let F := fdat (pfm r)
    (0 ≤ orG x (cutP F.fi F.la) ∧ orG x (cutP F.fi F.la) ≤ 4294967296) ∧ regG F.a x 7 = (fo r x).rd ∧ regG F.b x 15 = (fo r x).r1 ∧ regG F.c x 20 = (fo r x).r2 ∧ immI F.lo F.hi F.st (orG x (cutP F.fi F.la)) = (fo r x).im := by
  have hc := fm_cases h
  obtain ⟨fm, op, f3, f7⟩ := r
  simp only at hc
  have b := fun f m => bt_of x x0 x1 f m
  rcases hc with rfl | rfl | rfl | rfl | rfl | rfl | rfl | rfl | rfl
  · show (0 ≤ orG x (cutP fdU.fi fdU.la) ∧ orG x (cutP fdU.fi fdU.la) ≤ 4294967296) ∧ regG fdU.a x 7 = _ ∧ regG fdU.b x 15 = _ ∧ regG fdU.c x 20 = _ ∧ immI fdU.lo fdU.hi fdU.st (orG x (cutP fdU.fi fdU.la)) = _
    simp only [fdU]
    rw [orG_0 x x0 x1]
    have h0 := bt_in x 4096 1048576 (by decide)
    simp only [regG, fo, immI, sgd, b 128 32, b 32768 32, b 1048576 32, Int.reducePow, if_true, Bool.false_eq_true, if_false, and_true, true_and]
    generalize bt x 4096 1048576 = v0 at *
    first | omega | (split <;> omega) | (split <;> split <;> omega)
  · show (0 ≤ orG x (cutP fdJ.fi fdJ.la) ∧ orG x (cutP fdJ.fi fdJ.la) ≤ 4294967296) ∧ regG fdJ.a x 7 = _ ∧ regG fdJ.b x 15 = _ ∧ regG fdJ.c x 20 = _ ∧ immI fdJ.lo fdJ.hi fdJ.st (orG x (cutP fdJ.fi fdJ.la)) = _
    simp only [fdJ]
    rw [orG_1 x x0 x1]
    have h0 := bt_in x 2147483648 2 (by decide)
    have h1 := bt_in x 2097152 1024 (by decide)
    have h2 := bt_in x 1048576 2 (by decide)
    have h3 := bt_in x 4096 256 (by decide)
    simp only [regG, fo, immI, sgd, b 128 32, b 32768 32, b 1048576 32, Int.reducePow, if_true, Bool.false_eq_true, if_false, and_true, true_and]
    generalize bt x 2147483648 2 = v0 at *
    generalize bt x 2097152 1024 = v1 at *
    generalize bt x 1048576 2 = v2 at *
    generalize bt x 4096 256 = v3 at *
    first | omega | (split <;> omega) | (split <;> split <;> omega)
  · show (0 ≤ orG x (cutP fdI.fi fdI.la) ∧ orG x (cutP fdI.fi fdI.la) ≤ 4294967296) ∧ regG fdI.a x 7 = _ ∧ regG fdI.b x 15 = _ ∧ regG fdI.c x 20 = _ ∧ immI fdI.lo fdI.hi fdI.st (orG x (cutP fdI.fi fdI.la)) = _
    simp only [fdI]
    rw [orG_2 x x0 x1]
    have h0 := bt_in x 1048576 4096 (by decide)
    simp only [regG, fo, immI, sgd, b 128 32, b 32768 32, b 1048576 32, Int.reducePow, if_true, Bool.false_eq_true, if_false, and_true, true_and]
    generalize bt x 1048576 4096 = v0 at *
    first | omega | (split <;> omega) | (split <;> split <;> omega)
  · show (0 ≤ orG x (cutP fdH.fi fdH.la) ∧ orG x (cutP fdH.fi fdH.la) ≤ 4294967296) ∧ regG fdH.a x 7 = _ ∧ regG fdH.b x 15 = _ ∧ regG fdH.c x 20 = _ ∧ immI fdH.lo fdH.hi fdH.st (orG x (cutP fdH.fi fdH.la)) = _
    simp only [fdH]
    rw [orG_3 x x0 x1]
    have h0 := bt_in x 1048576 32 (by decide)
    simp only [regG, fo, immI, sgd, b 128 32, b 32768 32, b 1048576 32, Int.reducePow, if_true, Bool.false_eq_true, if_false, and_true, true_and]
    first | omega | (split <;> omega) | (split <;> split <;> omega)
  · show (0 ≤ orG x (cutP fdB.fi fdB.la) ∧ orG x (cutP fdB.fi fdB.la) ≤ 4294967296) ∧ regG fdB.a x 7 = _ ∧ regG fdB.b x 15 = _ ∧ regG fdB.c x 20 = _ ∧ immI fdB.lo fdB.hi fdB.st (orG x (cutP fdB.fi fdB.la)) = _
    simp only [fdB]
    rw [orG_4 x x0 x1]
    have h0 := bt_in x 2147483648 2 (by decide)
    have h1 := bt_in x 33554432 64 (by decide)
    have h2 := bt_in x 256 16 (by decide)
    have h3 := bt_in x 128 2 (by decide)
    simp only [regG, fo, immI, sgd, b 128 32, b 32768 32, b 1048576 32, Int.reducePow, if_true, Bool.false_eq_true, if_false, and_true, true_and]
    generalize bt x 2147483648 2 = v0 at *
    generalize bt x 33554432 64 = v1 at *
    generalize bt x 256 16 = v2 at *
    generalize bt x 128 2 = v3 at *
    first | omega | (split <;> omega) | (split <;> split <;> omega)
  · show (0 ≤ orG x (cutP fdS.fi fdS.la) ∧ orG x (cutP fdS.fi fdS.la) ≤ 4294967296) ∧ regG fdS.a x 7 = _ ∧ regG fdS.b x 15 = _ ∧ regG fdS.c x 20 = _ ∧ immI fdS.lo fdS.hi fdS.st (orG x (cutP fdS.fi fdS.la)) = _
    simp only [fdS]
    rw [orG_5 x x0 x1]
    have h0 := bt_in x 33554432 128 (by decide)
    have h1 := bt_in x 128 32 (by decide)
    simp only [regG, fo, immI, sgd, b 128 32, b 32768 32, b 1048576 32, Int.reducePow, if_true, Bool.false_eq_true, if_false, and_true, true_and]
    generalize bt x 33554432 128 = v0 at *
    first | omega | (split <;> omega) | (split <;> split <;> omega)
  · show (0 ≤ orG x (cutP fdR.fi fdR.la) ∧ orG x (cutP fdR.fi fdR.la) ≤ 4294967296) ∧ regG fdR.a x 7 = _ ∧ regG fdR.b x 15 = _ ∧ regG fdR.c x 20 = _ ∧ immI fdR.lo fdR.hi fdR.st (orG x (cutP fdR.fi fdR.la)) = _
    simp only [fdR]
    rw [orG_6 x x0 x1]
    simp only [regG, fo, immI, sgd, b 128 32, b 32768 32, b 1048576 32, Int.reducePow, if_true, Bool.false_eq_true, if_false, and_true, true_and]
    first | omega | (split <;> omega) | (split <;> split <;> omega)
  · show (0 ≤ orG x (cutP fdE.fi fdE.la) ∧ orG x (cutP fdE.fi fdE.la) ≤ 4294967296) ∧ regG fdE.a x 7 = _ ∧ regG fdE.b x 15 = _ ∧ regG fdE.c x 20 = _ ∧ immI fdE.lo fdE.hi fdE.st (orG x (cutP fdE.fi fdE.la)) = _
    simp only [fdE]
    rw [orG_7 x x0 x1]
    simp only [regG, fo, immI, sgd, b 128 32, b 32768 32, b 1048576 32, Int.reducePow, if_true, Bool.false_eq_true, if_false, and_true, true_and]
    first | omega | (split <;> omega) | (split <;> split <;> omega)
  · show (0 ≤ orG x (cutP fdE.fi fdE.la) ∧ orG x (cutP fdE.fi fdE.la) ≤ 4294967296) ∧ regG fdE.a x 7 = _ ∧ regG fdE.b x 15 = _ ∧ regG fdE.c x 20 = _ ∧ immI fdE.lo fdE.hi fdE.st (orG x (cutP fdE.fi fdE.la)) = _
    simp only [fdE]
    rw [orG_7 x x0 x1]
    simp only [regG, fo, immI, sgd, b 128 32, b 32768 32, b 1048576 32, Int.reducePow, if_true, Bool.false_eq_true, if_false, and_true, true_and]
    first | omega | (split <;> omega) | (split <;> split <;> omega)

def decV (o : Option (List UInt8 × Ins)) : Value :=
  match o with
  | some (n, i) => .tuple #[.agg #[.string ⟨n.toArray⟩, .int .i64 i.rd, .int .i64 i.r1, .int .i64 i.r2, .int .i64 i.im], .int .i64 0]
  | none => .tuple #[.agg #[.string ⟨#[]⟩, .int .i64 0, .int .i64 0, .int .i64 0, .int .i64 0], .int .i64 70]

theorem decF_some {a : Nat} {y : List UInt8 × Rw} {x : Int} (h : insT[a]? = some y) (hf : fxB y.2 x = true) : decF x = some (y.1, fo y.2 x) := by
  unfold decF
  cases e : insT.find? fun z => fxB z.2 x with
  | none =>
    rw [List.find?_eq_none] at e
    exact absurd hf (e y (List.mem_of_getElem? h))
  | some z =>
    have h2 := List.find?_some e
    obtain ⟨b, hb⟩ := List.getElem?_of_mem (List.mem_of_find?_eq_some e)
    rcases Nat.decEq a b with hab | hab
    · exact (apart_fx (insT_fits h) (insT_fits hb) (insT_two h hb hab).1 ((fxB_iff (rok h) x).1 hf) ((fxB_iff (rok hb) x).1 h2)).elim
    · subst hab
      rw [h] at hb
      cases hb
      rfl

theorem decF_none {x : Int} (h : ∀ (a : Nat) y, insT[a]? = some y → fxB y.2 x = false) : decF x = none := by
  unfold decF
  rw [Option.map_eq_none_iff, List.find?_eq_none]
  intro y hy
  obtain ⟨a, ha⟩ := List.getElem?_of_mem hy
  rw [h a y ha]
  decide

/-- Row k of the table, with all that Decode asks of it. -/
def RowD (x : Int) (y : List UInt8 × Rw) : Prop :=
  ∃ (p1 p3 p4 n1 n3 n4 v1 v2 v3 v4 : Int) (p2 : Nat) (nm : List UInt8) (Fa Fb Fc : Bool) (Flo Fhi Fst : Int) (Ffi Fla : Nat), (rowV y).toArray = #[.string ⟨nm.toArray⟩, .int .u32 p1, .int .u8 (p2 : Nat), .int .u8 p3, .int .u8 p4] ∧ (fxB y.2 x = true ↔ p1 = n1 ∧ p3 = n3 ∧ p4 = n4)
    ∧ decV (some (y.1, fo y.2 x)) = .tuple #[.agg #[.string ⟨nm.toArray⟩, .int .i64 v1, .int .i64 v2, .int .i64 v3, .int .i64 v4], .int .i64 0]
    ∧ (∀ w, Calls Try.prog 13 #[.int .u32 x, .int .u8 (p2 : Nat)] w fun e w' => e = .returned (.agg #[.int .u32 n1, .int .u8 (p2 : Nat), .int .u8 n3, .int .u8 n4]) ∧ Below w.heap.size w w')
    ∧ (∀ w, Calls Try.prog 14 #[.int .u8 (p2 : Nat)] w fun e w' => e = .returned (.agg #[.bool Fa, .bool Fb, .bool Fc, .int .i64 Flo, .int .i64 Fhi, .int .i64 Fst, .int .i64 (Ffi : Nat), .int .i64 (Fla : Nat)]) ∧ Below w.heap.size w w')
    ∧ (∀ w, Calls Try.prog 15 #[.agg #[.bool Fa, .bool Fb, .bool Fc, .int .i64 Flo, .int .i64 Fhi, .int .i64 Fst, .int .i64 (Ffi : Nat), .int .i64 (Fla : Nat)], .string ⟨nm.toArray⟩, .int .u32 x] w fun e w' => e = .returned (.agg #[.string ⟨nm.toArray⟩, .int .i64 v1, .int .i64 v2, .int .i64 v3, .int .i64 v4]) ∧ Below w.heap.size w w')

theorem rowD {k : Nat} {y : List UInt8 × Rw} {x : Int} (h : insT[k]? = some y) (x0 : 0 ≤ x) (x1 : x < 4294967296) : RowD x y := by
  have RK := rok h
  obtain ⟨n1, n3, n4, hn, hi⟩ := nIn_is RK x
  have F7 : pfm y.2 ≤ 7 := by have := fm_cases RK; unfold pfm; split <;> omega
  have hf := fo_is RK x x0 x1
  obtain ⟨⟨g1, g2⟩, f1, f2, f3, f4⟩ := hf
  have fl := fdat_fl (pfm y.2)
  have fb : (-2147483648 ≤ (fdat (pfm y.2)).lo ∧ (fdat (pfm y.2)).lo ≤ 0) ∧ (0 ≤ (fdat (pfm y.2)).hi ∧ (fdat (pfm y.2)).hi ≤ 2147483648) ∧ (0 ≤ (fdat (pfm y.2)).st ∧ (fdat (pfm y.2)).st ≤ 2) := by
    unfold fdat
    split <;> decide
  refine ⟨pop y.2, y.2.f3, y.2.f7, n1, n3, n4, (fo y.2 x).rd, (fo y.2 x).r1, (fo y.2 x).r2, (fo y.2 x).im, pfm y.2, y.1, (fdat (pfm y.2)).a, (fdat (pfm y.2)).b, (fdat (pfm y.2)).c, (fdat (pfm y.2)).lo, (fdat (pfm y.2)).hi, (fdat (pfm y.2)).st, (fdat (pfm y.2)).fi, (fdat (pfm y.2)).la, rfl, hi, rfl, ?_, ?_, ?_⟩
  · intro w
    have h := numbersIn_c x (pfm y.2) F7 w
    rw [hn] at h
    exact h
  · exact fun w => formOf_c _ F7 w
  · intro w
    have h := read_c (fdat (pfm y.2)).a (fdat (pfm y.2)).b (fdat (pfm y.2)).c (fdat (pfm y.2)).lo (fdat (pfm y.2)).hi (fdat (pfm y.2)).st (fdat (pfm y.2)).fi (fdat (pfm y.2)).la ⟨y.1.toArray⟩ x fl.1 fl.2 fb.1.1 fb.1.2 fb.2.1.1 fb.2.1.2 fb.2.2.1 fb.2.2.2 g1 g2 w
    rw [f1, f2, f3, f4] at h
    exact h

set_option maxRecDepth 10000 in
set_option maxHeartbeats 2000000 in
theorem decode_c (x : Int) (x0 : 0 ≤ x) (x1 : x < 4294967296) (w : World) :
    Calls Try.prog 9 #[.int .u32 x] w fun e w' => e = .returned (decV (decF x)) ∧ Below w.heap.size w w' := by
  have TX : Hid (∀ (k : Nat) (y : List UInt8 × Rw), insT[k]? = some y → ∀ w, (Instr.index 50 (.agg (tabV insT).toArray) (.int .i64 (k : Int))).run Try.prog w = .ok (.agg (rowV y).toArray) w) := fun k y hy w => idx_c hy w
  have RDS : Hid (∀ (k : Nat) (y : List UInt8 × Rw), insT[k]? = some y → RowD x y) := fun k y hy => rowD hy x0 x1
  have DS : Hid (∀ (k : Nat) (y : List UInt8 × Rw), insT[k]? = some y → fxB y.2 x = true → decV (decF x) = decV (some (y.1, fo y.2 x))) := fun k y hy hf => by rw [decF_some hy hf]
  have DN : Hid ((∀ (a : Nat) (y : List UInt8 × Rw), insT[a]? = some y → fxB y.2 x = false) → decV (decF x) = decV none) := fun h => by rw [decF_none h]
  have LN : Hid (insT.length = 47) := rfl
  generalize hDV : decV (decF x) = DV at *
  clear x0 x1 hDV
  go_enter Try.func9, Try.ntmps9
  go_wp2_with (go_at_call 12; refine (instructions_c _).mono ?_; rintro e w1 ⟨rfl, hB⟩; have HB : Hid (Below w.heap.size w w1) := (below_alloc w (.cells #[.string ⟨#[]⟩, .int .i64 0, .int .i64 0, .int .i64 0, .int .i64 0] 28)).trans (hB.mono (below_alloc w (.cells #[.string ⟨#[]⟩, .int .i64 0, .int .i64 0, .int .i64 0, .int .i64 0] 28)).size); have HR : Hid (At w1 w.heap.size #[.string ⟨#[]⟩, .int .i64 0, .int .i64 0, .int .i64 0, .int .i64 0] 28) := (At.new w #[.string ⟨#[]⟩, .int .i64 0, .int .i64 0, .int .i64 0, .int .i64 0] 28).below hB (At.new w #[.string ⟨#[]⟩, .int .i64 0, .int .i64 0, .int .i64 0, .int .i64 0] 28).lt; clear hB; generalize (tabV insT).toArray = TA at *)
  go_loopw [7] (fun i wr => ∃ k : Nat, k ≤ 47 ∧ i = .int .i64 (k : Int) ∧ (∀ (a : Nat) (y : List UInt8 × Rw), a < k → insT[a]? = some y → fxB y.2 x = false) ∧ At wr w.heap.size #[.string ⟨#[]⟩, .int .i64 0, .int .i64 0, .int .i64 0, .int .i64 0] 28 ∧ Below w.heap.size w wr) (fun i _ => 47 - (intOf i).toNat)
  case atStart => exact ⟨0, by omega, rfl, fun a y h => absurd h (Nat.not_lt_zero _), HR.out, HB.out⟩
  case round =>
    obtain ⟨k, hk, rfl, hno, hat, hbe⟩ := hrel
    have NO : Hid (∀ (a : Nat) (y : List UInt8 × Rw), a < k → insT[a]? = some y → fxB y.2 x = false) := hno
    have AW : Hid (At wr w.heap.size #[.string ⟨#[]⟩, .int .i64 0, .int .i64 0, .int .i64 0, .int .i64 0] 28) := hat
    have BW : Hid (Below w.heap.size w wr) := hbe
    clear hno hat hbe
    rcases Nat.lt_or_ge k 47 with hk' | hk'
    · have hkz : (k : Int) < 47 := by omega
      obtain ⟨y, hy⟩ : ∃ y, insT[k]? = some y := ⟨insT[k]'hk', List.getElem?_eq_getElem hk'⟩
      have hi := TX.out k y hy wr
      have DY : Hid (fxB y.2 x = true → DV = decV (some (y.1, fo y.2 x))) := DS.out k y hy
      have NX : Hid (fxB y.2 x = false → ∀ (a : Nat) (z : List UInt8 × Rw), a < k + 1 → insT[a]? = some z → fxB z.2 x = false) := fun hf a z ha hz => by
        rcases Nat.lt_or_ge a k with h | h
        · exact NO.out a z h hz
        · obtain rfl : a = k := by omega
          rw [hy] at hz
          cases hz
          exact hf
      obtain ⟨p1, p3, p4, n1, n3, n4, v1, v2, v3, v4, p2, nm, Fa, Fb, Fc, Flo, Fhi, Fst, Ffi, Fla, hr, hx, hv, hN, hF, hR⟩ := RDS.out k y hy
      rw [hr] at hi
      rw [hv] at DY
      have NI : Hid (∀ w, Calls Try.prog 13 #[.int .u32 x, .int .u8 (p2 : Nat)] w fun e w' => e = .returned (.agg #[.int .u32 n1, .int .u8 (p2 : Nat), .int .u8 n3, .int .u8 n4]) ∧ Below w.heap.size w w') := hN
      have FO : Hid (∀ w, Calls Try.prog 14 #[.int .u8 (p2 : Nat)] w fun e w' => e = .returned (.agg #[.bool Fa, .bool Fb, .bool Fc, .int .i64 Flo, .int .i64 Fhi, .int .i64 Fst, .int .i64 (Ffi : Nat), .int .i64 (Fla : Nat)]) ∧ Below w.heap.size w w') := hF
      have RD : Hid (∀ w, Calls Try.prog 15 #[.agg #[.bool Fa, .bool Fb, .bool Fc, .int .i64 Flo, .int .i64 Fhi, .int .i64 Fst, .int .i64 (Ffi : Nat), .int .i64 (Fla : Nat)], .string ⟨nm.toArray⟩, .int .u32 x] w fun e w' => e = .returned (.agg #[.string ⟨nm.toArray⟩, .int .i64 v1, .int .i64 v2, .int .i64 v3, .int .i64 v4]) ∧ Below w.heap.size w w') := hR
      clear hr hv hN hF hR hy NO
      generalize fxB y.2 x = FX at *
      have N3 : At (wr.alloc (.cells #[.string ⟨nm.toArray⟩, .int .u32 p1, .int .u8 (p2 : Nat), .int .u8 p3, .int .u8 p4] 49)) wr.heap.size #[.string ⟨nm.toArray⟩, .int .u32 p1, .int .u8 (p2 : Nat), .int .u8 p3, .int .u8 p4] 49 := At.new _ _ _
      have A3 : Hid (At (wr.alloc (.cells #[.string ⟨nm.toArray⟩, .int .u32 p1, .int .u8 (p2 : Nat), .int .u8 p3, .int .u8 p4] 49)) w.heap.size #[.string ⟨#[]⟩, .int .i64 0, .int .i64 0, .int .i64 0, .int .i64 0] 28) := AW.out.below (below_alloc _ _) AW.out.lt
      have B3 : Hid (Below w.heap.size w (wr.alloc (.cells #[.string ⟨nm.toArray⟩, .int .u32 p1, .int .u8 (p2 : Nat), .int .u8 p3, .int .u8 p4] 49))) := next_below BW.out BW.out.size (below_alloc _ _)
      have hcase : (FX = true ∧ p1 = n1 ∧ p3 = n3 ∧ p4 = n4) ∨ (FX = false ∧ ¬ p1 = n1) ∨ (FX = false ∧ p1 = n1 ∧ ¬ p3 = n3) ∨ (FX = false ∧ p1 = n1 ∧ p3 = n3 ∧ ¬ p4 = n4) := by
        cases FX
        · by_cases c1 : p1 = n1
          · by_cases c3 : p3 = n3
            · by_cases c4 : p4 = n4
              · exact absurd (hx.2 ⟨c1, c3, c4⟩) (by decide)
              · exact Or.inr (Or.inr (Or.inr ⟨rfl, c1, c3, c4⟩))
            · exact Or.inr (Or.inr (Or.inl ⟨rfl, c1, c3⟩))
          · exact Or.inr (Or.inl ⟨rfl, c1⟩)
        · exact Or.inl ⟨rfl, hx.1 rfl⟩
      clear hx
      rcases hcase with ⟨rfl, rfl, rfl, rfl⟩ | ⟨rfl, c1⟩ | ⟨rfl, rfl, c1⟩ | ⟨rfl, rfl, rfl, c1⟩
      · skip
        go_wp2
        generalize wr.alloc (.cells #[.string ⟨nm.toArray⟩, .int .u32 p1, .int .u8 (p2 : Nat), .int .u8 p3, .int .u8 p4] 49) = w3 at *
        generalize wr.heap.size = nb at *
        have N3H : Hid (At w3 nb #[.string ⟨nm.toArray⟩, .int .u32 p1, .int .u8 (p2 : Nat), .int .u8 p3, .int .u8 p4] 49) := N3
        have g1 := fun x : After w3 => After.cell (N3H.out.cell 1) x
        have g2 := fun x : After w3 => After.cell (N3H.out.cell 2) x
        have g3 := fun x : After w3 => After.cell (N3H.out.cell 3) x
        have g4 := fun x : After w3 => After.cell (N3H.out.cell 4) x
        simp at g1 g2 g3 g4
        haveI := After.has w3
        clear N3 hi
        refine wp_region_after (by kernel_rfl) (by kernel_rfl) ?_
        repeat (quiet_step ((go_at_call 13; exact Calls.after (NI.out _))))
        refine wpQuiet_nil ?_
        intro _ hw'
        obtain ⟨xq, hw''⟩ := hw'
        subst hw''
        have B4 : Hid (Below w.heap.size w xq.w) := next_below B3.out B3.out.size xq.below
        have A4 : Hid (At xq.w w.heap.size #[.string ⟨#[]⟩, .int .i64 0, .int .i64 0, .int .i64 0, .int .i64 0] 28) := A3.out.below xq.below A3.out.lt
        have N4 : Hid (At xq.w nb #[.string ⟨nm.toArray⟩, .int .u32 p1, .int .u8 (p2 : Nat), .int .u8 p3, .int .u8 p4] 49) := N3H.out.below xq.below N3H.out.lt
        generalize xq.w = w4 at *
        clear g1 g2 g3 g4
        have HS : Hid (∀ w', Below w4.heap.size w4 w' → w'.cell? ⟨nb, 0, none⟩ = some (.string ⟨nm.toArray⟩) ∧ w'.cell? ⟨nb, 2, none⟩ = some (.int .u8 (p2 : Nat))) := fun w' hb => by
          have h := N4.out.below hb N4.out.lt
          exact ⟨h.cell 0, h.cell 2⟩
        have AR : Hid (At w4 w.heap.size #[.string ⟨#[]⟩, .int .i64 0, .int .i64 0, .int .i64 0, .int .i64 0] 28) := A4.out
        have BD : Below w4.heap.size w4 w4.drew := below_drew _
        have DE := DY.out (by first | exact rfl | trivial)
        go_upto_region 5 with fail
        · skip
          refine wp_region_N (fun w' => w'.cell? ⟨nb, 0, none⟩ = some (.string ⟨nm.toArray⟩) ∧ w'.cell? ⟨nb, 2, none⟩ = some (.int .u8 (p2 : Nat))) (fun i => i != 8 && i != 9) mixed (HS.out _ BD) ?_
          intro S0
          refine wpAnyN_take (i := 0) (v := ?_) rfl (by kernel_rfl) (by kernel_rfl) (by kernel_rfl) (by kernel_rfl) (fun _ _ _ h => h) (Or.inl ⟨by rfl, ?_⟩) S0 ?_
          rotate_left
          · intro w' hS'
            obtain ⟨h0, h1⟩ := hS'
            (try go_simp)
            first | done | exact rfl | exact ⟨rfl, rfl⟩
          (try simp only [Act.put, List.getElem_toArray, List.getElem_cons_zero, List.setIfInBounds_toArray, List.set_cons_zero, List.set_cons_succ])
          refine wpAnyN_take (i := 1) (v := ?_) rfl (by kernel_rfl) (by kernel_rfl) (by kernel_rfl) (by kernel_rfl) (fun _ _ _ h => h) (Or.inl ⟨by rfl, ?_⟩) S0 ?_
          rotate_left
          · intro w' hS'
            obtain ⟨h0, h1⟩ := hS'
            (try go_simp)
            first | done | exact rfl | exact ⟨rfl, rfl⟩
          (try simp only [Act.put, List.getElem_toArray, List.getElem_cons_succ, List.getElem_cons_zero, List.setIfInBounds_toArray, List.set_cons_zero, List.set_cons_succ])
          refine wpAnyN_take (i := 2) (v := ?_) rfl (by kernel_rfl) (by kernel_rfl) (by kernel_rfl) (by kernel_rfl) (fun _ _ _ h => h) (Or.inl ⟨by rfl, ?_⟩) S0 ?_
          rotate_left
          · intro w' hS'
            obtain ⟨h0, h1⟩ := hS'
            (try go_simp)
            first | done | exact rfl | exact ⟨rfl, rfl⟩
          (try simp only [Act.put, List.getElem_toArray, List.getElem_cons_succ, List.getElem_cons_zero, List.setIfInBounds_toArray, List.set_cons_zero, List.set_cons_succ])
          refine wpAnyN_take (i := 4) (v := ?_) rfl (by kernel_rfl) (by kernel_rfl) (by kernel_rfl) (by kernel_rfl) (fun _ _ _ h => h) (Or.inl ⟨by rfl, ?_⟩) S0 ?_
          rotate_left
          · intro w' hS'
            obtain ⟨h0, h1⟩ := hS'
            (try go_simp)
            first | done | exact rfl | exact ⟨rfl, rfl⟩
          (try simp only [Act.put, List.getElem_toArray, List.getElem_cons_succ, List.getElem_cons_zero, List.setIfInBounds_toArray, List.set_cons_zero, List.set_cons_succ])
          refine wpAnyN_take (i := 5) (v := ?_) rfl (by kernel_rfl) (by kernel_rfl) (by kernel_rfl) (by kernel_rfl) (fun _ _ _ h => h) (Or.inl ⟨by rfl, ?_⟩) S0 ?_
          rotate_left
          · intro w' hS'
            obtain ⟨h0, h1⟩ := hS'
            (try go_simp)
            first | done | exact rfl | exact ⟨rfl, rfl⟩
          (try simp only [Act.put, List.getElem_toArray, List.getElem_cons_succ, List.getElem_cons_zero, List.setIfInBounds_toArray, List.set_cons_zero, List.set_cons_succ])
          refine wpAnyN_take (i := 6) (v := ?_) rfl (by kernel_rfl) (by kernel_rfl) (by kernel_rfl) (by kernel_rfl) (fun _ _ _ h => h) (Or.inl ⟨by rfl, ?_⟩) S0 ?_
          rotate_left
          · intro w' hS'
            obtain ⟨h0, h1⟩ := hS'
            (try go_simp)
            first | done | exact rfl | exact ⟨rfl, rfl⟩
          (try simp only [Act.put, List.getElem_toArray, List.getElem_cons_succ, List.getElem_cons_zero, List.setIfInBounds_toArray, List.set_cons_zero, List.set_cons_succ])
          refine wpAnyN_one (i := 3) (by kernel_rfl) rfl (fun K hK => ?_)
          go_simp
          (go_at_call 14; refine (FO.out _).mono ?_; rintro e w5 ⟨rfl, hb5⟩)
          have B5 : Below w4.heap.size w4 w5 := next_below BD (Nat.le_refl _) hb5
          have S4 := HS.out _ B5
          go_wp2_with fail
          refine hK _ _ (fun _ => S4) ?_
          clear hK K
          (try simp only [Act.put, List.getElem_toArray, List.getElem_cons_succ, List.getElem_cons_zero, List.setIfInBounds_toArray, List.set_cons_zero, List.set_cons_succ])
          refine wpAnyN_one (i := 7) (by kernel_rfl) rfl (fun K hK => ?_)
          go_simp
          (go_at_call 15; refine (RD.out _).mono ?_; rintro e w6 ⟨rfl, hb6⟩)
          have B6 : Below w4.heap.size w4 w6 := next_below B5 B5.size hb6
          have S8 := HS.out _ B6
          go_wp2_with fail
          refine hK _ _ (fun _ => S8) ?_
          clear hK K
          (try simp only [Act.put, List.getElem_toArray, List.getElem_cons_succ, List.getElem_cons_zero, List.setIfInBounds_toArray, List.set_cons_zero, List.set_cons_succ])
          refine wpAnyN_one (i := 8) (by kernel_rfl) rfl (fun K hK => ?_)
          rw [if_pos (by rfl)]
          have A6 := AR.out.below B6 AR.out.lt
          refine wp_store_row 28 (.tmp 2) (.tmp 25) rfl w.heap.size #[.string ⟨nm.toArray⟩, .int .i64 v1, .int .i64 v2, .int .i64 v3, .int .i64 v4] rfl rfl 28 _ A6 (by kernel_rfl) (by rfl) (by kernel_rfl) ?_
          have S9 := S8
          refine hK _ _ (fun h => absurd h (by decide)) ?_
          clear hK K
          (try simp only [Act.put, List.getElem_toArray, List.getElem_cons_succ, List.getElem_cons_zero, List.setIfInBounds_toArray, List.set_cons_zero, List.set_cons_succ])
          refine wpAnyN_one (i := 9) (by kernel_rfl) rfl (fun K hK => ?_)
          go_simp
          go_wp2_with fail
          refine hK _ _ (fun h => absurd h (by decide)) ?_
          clear hK K
          (try simp only [Act.put, List.getElem_toArray, List.getElem_cons_succ, List.getElem_cons_zero, List.setIfInBounds_toArray, List.set_cons_zero, List.set_cons_succ])
          refine wpAnyN_done (by kernel_rfl) ?_ _
          go_wp2
          refine bodyPost_ret (res2 rfl _ _ w.heap.size 28 #[.string ⟨nm.toArray⟩, .int .i64 v1, .int .i64 v2, .int .i64 v3, .int .i64 v4] (0, 0) _ rfl (setRow_heap _ _ _ _ _ _ A6) Try.underlying28 rfl sizeI) rfl ?_
          exact ⟨by first | (rw [DE]; rfl) | rfl, (B4.out.trans (B6.mono B4.out.size)).trans (setRow_below _ (Nat.le_refl _))⟩
      · skip
        go_wp2
        generalize wr.alloc (.cells #[.string ⟨nm.toArray⟩, .int .u32 p1, .int .u8 (p2 : Nat), .int .u8 p3, .int .u8 p4] 49) = w3 at *
        generalize wr.heap.size = nb at *
        have N3H : Hid (At w3 nb #[.string ⟨nm.toArray⟩, .int .u32 p1, .int .u8 (p2 : Nat), .int .u8 p3, .int .u8 p4] 49) := N3
        have g1 := fun x : After w3 => After.cell (N3H.out.cell 1) x
        have g2 := fun x : After w3 => After.cell (N3H.out.cell 2) x
        have g3 := fun x : After w3 => After.cell (N3H.out.cell 3) x
        have g4 := fun x : After w3 => After.cell (N3H.out.cell 4) x
        simp at g1 g2 g3 g4
        haveI := After.has w3
        clear N3 hi
        refine wp_region_after (by kernel_rfl) (by kernel_rfl) ?_
        repeat (quiet_step ((go_at_call 13; exact Calls.after (NI.out _))))
        refine wpQuiet_nil ?_
        intro _ hw'
        obtain ⟨xq, hw''⟩ := hw'
        subst hw''
        have B4 : Hid (Below w.heap.size w xq.w) := next_below B3.out B3.out.size xq.below
        have A4 : Hid (At xq.w w.heap.size #[.string ⟨#[]⟩, .int .i64 0, .int .i64 0, .int .i64 0, .int .i64 0] 28) := A3.out.below xq.below A3.out.lt
        have N4 : Hid (At xq.w nb #[.string ⟨nm.toArray⟩, .int .u32 p1, .int .u8 (p2 : Nat), .int .u8 p3, .int .u8 p4] 49) := N3H.out.below xq.below N3H.out.lt
        generalize xq.w = w4 at *
        clear g1 g2 g3 g4
        go_wp2
        go_roundw
        case rel => exact ⟨k + 1, by omega, by go_num, NX.out (by first | exact rfl | trivial), A4.out, B4.out⟩
        case measure => simp [intOf]; omega
      · skip
        go_wp2
        generalize wr.alloc (.cells #[.string ⟨nm.toArray⟩, .int .u32 p1, .int .u8 (p2 : Nat), .int .u8 p3, .int .u8 p4] 49) = w3 at *
        generalize wr.heap.size = nb at *
        have N3H : Hid (At w3 nb #[.string ⟨nm.toArray⟩, .int .u32 p1, .int .u8 (p2 : Nat), .int .u8 p3, .int .u8 p4] 49) := N3
        have g1 := fun x : After w3 => After.cell (N3H.out.cell 1) x
        have g2 := fun x : After w3 => After.cell (N3H.out.cell 2) x
        have g3 := fun x : After w3 => After.cell (N3H.out.cell 3) x
        have g4 := fun x : After w3 => After.cell (N3H.out.cell 4) x
        simp at g1 g2 g3 g4
        haveI := After.has w3
        clear N3 hi
        refine wp_region_after (by kernel_rfl) (by kernel_rfl) ?_
        repeat (quiet_step ((go_at_call 13; exact Calls.after (NI.out _))))
        refine wpQuiet_nil ?_
        intro _ hw'
        obtain ⟨xq, hw''⟩ := hw'
        subst hw''
        have B4 : Hid (Below w.heap.size w xq.w) := next_below B3.out B3.out.size xq.below
        have A4 : Hid (At xq.w w.heap.size #[.string ⟨#[]⟩, .int .i64 0, .int .i64 0, .int .i64 0, .int .i64 0] 28) := A3.out.below xq.below A3.out.lt
        have N4 : Hid (At xq.w nb #[.string ⟨nm.toArray⟩, .int .u32 p1, .int .u8 (p2 : Nat), .int .u8 p3, .int .u8 p4] 49) := N3H.out.below xq.below N3H.out.lt
        generalize xq.w = w4 at *
        clear g1 g2 g3 g4
        go_wp2
        go_roundw
        case rel => exact ⟨k + 1, by omega, by go_num, NX.out (by first | exact rfl | trivial), A4.out, B4.out⟩
        case measure => simp [intOf]; omega
      · skip
        go_wp2
        generalize wr.alloc (.cells #[.string ⟨nm.toArray⟩, .int .u32 p1, .int .u8 (p2 : Nat), .int .u8 p3, .int .u8 p4] 49) = w3 at *
        generalize wr.heap.size = nb at *
        have N3H : Hid (At w3 nb #[.string ⟨nm.toArray⟩, .int .u32 p1, .int .u8 (p2 : Nat), .int .u8 p3, .int .u8 p4] 49) := N3
        have g1 := fun x : After w3 => After.cell (N3H.out.cell 1) x
        have g2 := fun x : After w3 => After.cell (N3H.out.cell 2) x
        have g3 := fun x : After w3 => After.cell (N3H.out.cell 3) x
        have g4 := fun x : After w3 => After.cell (N3H.out.cell 4) x
        simp at g1 g2 g3 g4
        haveI := After.has w3
        clear N3 hi
        refine wp_region_after (by kernel_rfl) (by kernel_rfl) ?_
        repeat (quiet_step ((go_at_call 13; exact Calls.after (NI.out _))))
        refine wpQuiet_nil ?_
        intro _ hw'
        obtain ⟨xq, hw''⟩ := hw'
        subst hw''
        have B4 : Hid (Below w.heap.size w xq.w) := next_below B3.out B3.out.size xq.below
        have A4 : Hid (At xq.w w.heap.size #[.string ⟨#[]⟩, .int .i64 0, .int .i64 0, .int .i64 0, .int .i64 0] 28) := A3.out.below xq.below A3.out.lt
        have N4 : Hid (At xq.w nb #[.string ⟨nm.toArray⟩, .int .u32 p1, .int .u8 (p2 : Nat), .int .u8 p3, .int .u8 p4] 49) := N3H.out.below xq.below N3H.out.lt
        generalize xq.w = w4 at *
        clear g1 g2 g3 g4
        go_wp2
        go_roundw
        case rel => exact ⟨k + 1, by omega, by go_num, NX.out (by first | exact rfl | trivial), A4.out, B4.out⟩
        case measure => simp [intOf]; omega
    · have hkz : ¬ (k : Int) < 47 := by omega
      obtain rfl : k = 47 := by omega
      have DE := DN.out (fun a y hy => NO.out a y (by
        have : a < insT.length := by
          rcases Nat.lt_or_ge a insT.length with h | h
          · exact h
          · rw [List.getElem?_eq_none h] at hy; cases hy
        rw [LN.out] at this
        exact this) hy)
      go_upto_region 7 with fail
      refine wp_region_list ?_
      refine wpList_build rfl 28 #[] rfl (by kernel_rfl) ?_
      refine wpList_store_row rfl 28 (.tmp 2) (.tmp 27) rfl w.heap.size #[.string ⟨#[]⟩, .int .i64 0, .int .i64 0, .int .i64 0, .int .i64 0] rfl (by kernel_rfl) 28 _ AW.out (by kernel_rfl) (by rfl) (by kernel_rfl) ?_
      go_wp2
      refine bodyPost_ret (res2 rfl _ _ w.heap.size 28 #[.string ⟨#[]⟩, .int .i64 0, .int .i64 0, .int .i64 0, .int .i64 0] (0, 0) _ rfl (setRow_heap _ _ _ _ _ _ AW.out) Try.underlying28 rfl sizeI) rfl ?_
      exact ⟨by first | rfl | (rw [DE]; rfl), BW.out.trans (setRow_below _ (Nat.le_refl _))⟩
end Go.Proofs.Ytcdeckbobabdkaa
