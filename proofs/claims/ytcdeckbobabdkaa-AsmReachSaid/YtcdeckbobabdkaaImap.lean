/-
  Proved: a map of values by texts, as a function: what is read of it, set in it.
-/
import Derived.Test.YtcdeckbobabdkaaIins
import Derived.Maps.OwnSet
namespace Go.Proofs.Ytcdeckbobabdkaa
open Go.RowKit Go.Maps Go.WideShapes Go.WideMaps

theorem lawS : Keyed Try.prog 9 := string_keyed Try.underlying9
def zN : Value := .agg #[.int .u32 0, .int .u8 0, .int .u8 0, .int .u8 0]
theorem zeroN (w : World) : (zeroValue 47).run Try.prog w = .ok zN w := by kernel_rfl

/-- A value is read as it is. -/
def rawE (v : Value) : Option (DataW Value × List MemPlace) := some (.held v, [])
def updV (f : List UInt8 → Option Value) (x : List UInt8) (v : Value) : List UInt8 → Option Value := fun y => if y = x then some v else f y

/-- Block b is a map that reads as f, of at most n. -/
def MapV (w : World) (b n : Nat) (f : List UInt8 → Option Value) : Prop :=
  ∃ D : DataW Value, w.ownsMap Try.prog 9 rawE b n D ∧ ∀ x, Maps.has D (.string x) = (f x).isSome ∧ ∀ v, f x = some v → ∀ z, D.atKey (.string x) z = .held v

theorem MapV.lt {w : World} {b n : Nat} {f : List UInt8 → Option Value} (h : MapV w b n f) : b < w.heap.size := by
  obtain ⟨D, ⟨es, c, hb, _⟩, _⟩ := h
  exact (Array.getElem?_eq_some_iff.1 hb).1
theorem MapV.stay {w w' : World} {b n : Nat} {f : List UInt8 → Option Value} (h : MapV w b n f) (e : w'.heap[b]? = w.heap[b]?) : MapV w' b n f := by
  obtain ⟨D, ⟨es, c, hb, h1, h2, h3⟩, h4⟩ := h
  exact ⟨D, ⟨es, c, e.trans hb, h1, h2, h3⟩, h4⟩
theorem MapV.below {w w' : World} {b n : Nat} {f : List UInt8 → Option Value} (h : MapV w b n f) (k : Below w.heap.size w w') : MapV w' b n f := h.stay (k.block b h.lt)
theorem MapV.made (w : World) : MapV (w.alloc (.map #[] 0)) w.heap.size 0 (fun _ => none) :=
  ⟨.map [], World.ownsMap_made _ _ _ _, fun _ => ⟨rfl, fun v h => by cases h⟩⟩

theorem MapV.look2 {w : World} {b n : Nat} {f : List UInt8 → Option Value} (h : MapV w b n f) {x : ByteArray} (hx : x.size ≤ maxLen) :
    (Instr.lookup 95 (.map (some b)) (.string x) true).run Try.prog w = .ok (.tuple #[(f x.data.toList).getD zN, .bool (f x.data.toList).isSome]) w := by
  obtain ⟨D, hD, h2⟩ := h
  obtain ⟨es, clock, hb, F, _, rfl⟩ := hD
  have h3 := h2 x.data.toList
  rcases Maps.fit_look true lawS Try.underlying95 (zeroN w) hb F (keyOf_string_mk Try.underlying9 hx) with ⟨hrun, _, hat⟩ | ⟨e0, y, _, _, hrun, hRv, hat, _⟩
  · have hn : f x.data.toList = none := by
      cases e : f x.data.toList with
      | none => rfl
      | some v =>
        have h5 := h3.1
        rw [e, Maps.has_false_of_atKey hat] at h5
        cases h5
    rw [hn]
    exact hrun
  · cases e : f x.data.toList with
    | none =>
      have h5 := h3.1
      rw [e, Maps.has_true_of_atKey hat] at h5
      cases h5
    | some v =>
      have h5 := h3.2 v e .nil
      rw [hat .nil] at h5
      have h6 : some (DataW.held e0.val, ([] : List MemPlace)) = some y := hRv
      have h7 := congrArg Prod.fst (Option.some.inj h6)
      have h8 : DataW.held e0.val = DataW.held v := h7.trans h5
      have h9 : e0.val = v := DataW.held.inj h8
      rw [hrun, ← h9]
      rfl

theorem turned_kp {w w' : World} {b : Nat} (h : w.mapTurned w' b) : Kp (fun k => k = b) w w' ∧ w'.heap.size = w.heap.size := by
  obtain ⟨es, c, es', c', hb, rfl⟩ := h
  exact ⟨⟨⟨rfl, rfl, rfl, by simp [ChangeMaps.setBlock], fun k hk => by omega⟩, fun k hk hne => by
    simp only [ChangeMaps.setBlock]
    rw [Array.getElem?_setIfInBounds_ne (fun e => hne e.symm)]⟩, by simp [ChangeMaps.setBlock]⟩

theorem MapV.put {w : World} {b n : Nat} {f : List UInt8 → Option Value} (h : MapV w b n f) {x : ByteArray} {v : Value} (hx : x.size ≤ maxLen) (hn : n ≤ 281474976710656) :
    ∃ w', (Instr.mapUpdate 95 (.map (some b)) (.string x) v).run Try.prog w = .ok () w' ∧ MapV w' b (n + 1) (updV f x.data.toList v) ∧ Kp (fun k => k = b) w w' ∧ w'.heap.size = w.heap.size := by
  obtain ⟨D, h1, h2⟩ := h
  obtain ⟨w', hr, ho, ht⟩ := h1.store lawS Try.underlying95 (by unfold maxLen; omega) (keyOf_string_mk Try.underlying9 hx) (show rawE v = some (.held v, []) from rfl)
  refine ⟨w', hr, ⟨_, ho, fun y => ?_⟩, turned_kp ht⟩
  by_cases e : y = x.data.toList
  · subst e
    rw [Maps.has_put_same h1.isMap (show WideAt.IsKeyLit (.string _) from trivial)]
    refine ⟨by simp [updV], fun u hu z => ?_⟩
    rw [Maps.atKey_put_same h1.isMap (show WideAt.IsKeyLit (.string _) from trivial)]
    simp [updV] at hu
    rw [hu]
  · have hne : (Lit.string y) ≠ .string x.data.toList := fun h => e (by injection h)
    rw [Maps.has_put_other hne]
    refine ⟨by rw [(h2 y).1]; simp [updV, e], fun u hu z => ?_⟩
    rw [Maps.atKey_put_other hne]
    simp [updV, e] at hu
    exact (h2 y).2 u hu z

/-- A map of rows, one behind the other. -/
def mkF (l : List (List UInt8 × Rw)) : List UInt8 → Option Value := l.foldl (fun f x => updV f x.1 (.agg (numV x.2).toArray)) (fun _ => none)

theorem mkF_step (l : List (List UInt8 × Rw)) (k : Nat) (x : List UInt8 × Rw) (h : l[k]? = some x) : mkF (l.take (k + 1)) = updV (mkF (l.take k)) x.1 (.agg (numV x.2).toArray) := by
  unfold mkF
  rw [List.take_add_one, h, List.foldl_append]
  rfl

theorem mk47 (w : World) : (Instr.makeMap 95 (some (.int .i64 47))).run Try.prog w = .ok (.map (some w.heap.size)) (w.alloc (.map #[] 0)) := by kernel_rfl

theorem below_setRow (w : World) (A cs : Array Value) {t : TypeId} : Below w.heap.size w ((w.alloc (.cells A t)).setRow w.heap.size cs) := by
  refine ⟨rfl, rfl, rfl, ?_, fun k hk => ?_⟩
  · rw [setRow_size]
    show w.heap.size ≤ (w.heap.push _).size
    simp
  · rw [setRow_other _ _ _ _ (by omega)]
    exact Below.heap_alloc w _ _ hk

theorem nameS_all : (insT.all fun x => decide (x.1.length ≤ 100)) = true := by decide +kernel
theorem nameS {k : Nat} {x : List UInt8 × Rw} (h : insT[k]? = some x) : x.1.length ≤ 100 := by
  have := List.all_eq_true.1 nameS_all x (List.mem_of_getElem? h)
  simpa using this

set_option maxRecDepth 10000 in
set_option maxHeartbeats 2000000 in
theorem byNames_c (w : World) :
    Calls Try.prog 40 #[] w fun e w' => ∃ b, e = .returned (.map (some b)) ∧ MapV w' b 47 (mkF insT) ∧ Below w.heap.size w w' := by
  have TS : (tabV insT).toArray.size = 235 := by kernel_rfl
  have TO : (tabV insT).toArray.all (·.oneCell') = true := by kernel_rfl
  have TX : Hid (∀ (k : Nat) (x : List UInt8 × Rw), insT[k]? = some x → ∀ w, (Instr.index 50 (.agg (tabV insT).toArray) (.int .i64 (k : Int))).run Try.prog w = .ok (.agg (rowV x).toArray) w) := fun k x hx w => idx_c hx w
  go_enter Try.func40, Try.ntmps40
  go_wp2_with (go_at_call 12; refine (instructions_c _).mono ?_; rintro e w1 ⟨rfl, hB⟩; have HB : Hid (Below w.heap.size w w1) := hB; clear hB; generalize (tabV insT).toArray = TA at *)
  rw [zeroA]
  simp only [Result.andThen]
  rename_i Q' K1 h1 K2 h2
  refine h2 _ _ ?_
  refine wpList_store_row rfl 50 (.tmp 1) (.tmp 5) rfl w1.heap.size TA rfl rfl 50 ZA (At.new w1 _ _) (by rw [TS]; kernel_rfl) (by rw [TS]; kernel_rfl) TO ?_
  refine wpList_nil ?_
  refine h1 _ _ ?_
  clear h1 h2
  have A2 : At ((w1.alloc (.cells ZA 50)).setRow w1.heap.size TA) w1.heap.size TA 50 := setRow_heap _ _ ZA _ _ _ (At.new w1 _ _)
  have B2 : Below w1.heap.size w1 ((w1.alloc (.cells ZA 50)).setRow w1.heap.size TA) := below_setRow _ _ _
  generalize (w1.alloc (.cells ZA 50)).setRow w1.heap.size TA = w2 at *
  have HA2 : Hid (At w2 w1.heap.size TA 50) := A2
  have HB2 : Hid (Below w.heap.size w w2) := HB.out.trans (B2.mono HB.out.size)
  clear A2 B2
  go_wp2
  rw [mk47]
  simp only [Result.andThen]
  have A3 : Hid (At (w2.alloc (.map #[] 0)) w1.heap.size TA 50) := HA2.out.below (below_alloc _ _) HA2.out.lt
  have B3 : Hid (Below w.heap.size w (w2.alloc (.map #[] 0))) := HB2.out.trans ((below_alloc _ _).mono HB2.out.size)
  have M3 : Hid (MapV (w2.alloc (.map #[] 0)) w2.heap.size 0 (mkF (insT.take 0))) := MapV.made w2
  have S3 : Hid (w.heap.size ≤ w2.heap.size) := HB2.out.size
  generalize hb3 : w2.heap.size = b3 at *
  generalize w2.alloc (.map #[] 0) = w3 at *
  go_wp2
  rename_i K4 h4 K5 h5 K6 h6
  refine wp_load_row 50 (.tmp 1) rfl w1.heap.size rfl 50 TA (0, 0) _ A3.out Try.underlying50 rfl (by rw [TS]; kernel_rfl) ?_
  refine h6 _ _ ?_
  go_wp2
  go_loopw [8] (fun i wr => ∃ k : Nat, k ≤ 47 ∧ i = .int .i64 (k : Int) ∧ MapV wr b3 k (mkF (insT.take k)) ∧ Below w.heap.size w wr) (fun i _ => 47 - (intOf i).toNat)
  case atStart => exact ⟨0, by omega, rfl, M3.out, B3.out⟩
  case round =>
    obtain ⟨k, hk, rfl, hm, hb⟩ := hrel
    have HM : Hid (MapV wr b3 k (mkF (insT.take k))) := hm
    have HK : Hid (Below w.heap.size w wr) := hb
    clear hm hb
    rcases Nat.lt_or_ge k 47 with hk' | hk'
    · have hkz : (k : Int) < 47 := by omega
      obtain ⟨x, hx⟩ : ∃ x, insT[k]? = some x := ⟨insT[k]'hk', List.getElem?_eq_getElem hk'⟩
      have ST : Hid (mkF (insT.take (k + 1)) = updV (mkF (insT.take k)) x.1 (.agg (numV x.2).toArray)) := mkF_step insT k x hx
      have NS : x.1.length ≤ 100 := nameS hx
      have hi := TX.out k x hx wr
      have hr : (rowV x).toArray = #[.string ⟨x.1.toArray⟩, .int .u32 (pop x.2), .int .u8 (pfm x.2), .int .u8 x.2.f3, .int .u8 x.2.f7] := rfl
      have hn : (numV x.2).toArray = #[.int .u32 (pop x.2), .int .u8 (pfm x.2), .int .u8 x.2.f3, .int .u8 x.2.f7] := rfl
      rw [hr] at hi
      rw [hn] at ST
      clear hx hr hn
      obtain ⟨s, r⟩ := x
      simp only at *
      generalize pop r = p1 at *
      generalize ((pfm r : Nat) : Int) = p2 at *
      generalize r.f3 = p3 at *
      generalize r.f7 = p4 at *
      generalize mkF (insT.take k) = F at *
      have HM2 := HM.out.below (below_alloc wr (.cells #[.string ⟨s.toArray⟩, .int .u32 p1, .int .u8 p2, .int .u8 p3, .int .u8 p4] 49))
      obtain ⟨w4, u1, u2, u3, u4⟩ := HM2.put (x := ⟨s.toArray⟩) (v := .agg #[.int .u32 p1, .int .u8 p2, .int .u8 p3, .int .u8 p4]) (by show s.toArray.size ≤ maxLen; unfold maxLen; simp; omega) (by omega)
      have U2 : Hid (MapV w4 b3 (k + 1) (updV F s (.agg #[.int .u32 p1, .int .u8 p2, .int .u8 p3, .int .u8 p4]))) := u2
      have U3 : Hid (Below w.heap.size w w4) := (HK.out.trans ((below_alloc _ _).mono HK.out.size)).trans (u3.below (by have := HK.out.size; have := (below_alloc wr (.cells #[.string ⟨s.toArray⟩, .int .u32 p1, .int .u8 p2, .int .u8 p3, .int .u8 p4] 49)).size; omega) (fun b hb => by subst hb; exact S3.out))
      clear u2 u3 u4 HM2
      go_wp2
      go_roundw
      case rel => exact ⟨k + 1, by omega, by go_num, by rw [ST.out]; exact U2.out, U3.out⟩
      case measure => simp [intOf]; omega
    · have hkz : ¬ (k : Int) < 47 := by omega
      obtain rfl : k = 47 := by omega
      have E : insT.take 47 = insT := rfl
      rw [E] at HM
      go_wp2
      go_ret
      exact ⟨b3, rfl, HM.out, HK.out⟩
end Go.Proofs.Ytcdeckbobabdkaa
