/-
  Proved: the two iterators over types (slices.Values over a list of types, fieldTypes over a struct's fields) hand each type on, in order.
-/
import Derived.Test.YtjdkoahbahecoaaGreatDoorFirst
import Derived.RangeFuncNested
import Derived.RangeFuncBound
import Derived.RangeFuncCalls
import Derived.RangeFuncLeaves
import Derived.Shelf.Abstract
import Derived.Shelf.RegionOpen
import Derived.OwnWalkIn
import Derived.TacticsInMore
import Derived.LoopNIn
import Derived.LoopIn
namespace Go.Proofs.YtjdkoahbahecoaaGreatDoor
open Go.RowKit Go.Shelf

attribute [local go_sem] Oper.semAt_some

/-- A type that lies in a world, with its cells. -/
abbrev Al (w : World) := { x : T × List Value // TIn w x.1 x.2 }

/-- The types that come. -/
def tys {w : World} (xs : List (Al w)) : List T := xs.map fun x => x.1.1

theorem tys_snoc {w : World} (pre : List (Al w)) (x : Al w) : tys (pre ++ [x]) = tys pre ++ [x.1.1] := by simp [tys]

theorem choice_of {α β : Type} {r : α → β → Prop} (h : ∀ a, ∃ b, r a b) : ∃ f : α → β, ∀ a, r a (f a) := ⟨fun a => Classical.choose (h a), fun a => Classical.choose_spec (h a)⟩

theorem ts_list {w : World} {ts : List T} {A : Option Addr} (h : TsIn w ts A) : ∃ xs : List (Al w), tys xs = ts ∧ xs.length = ts.length ∧ ∀ i (hi : i < xs.length), ∃ b o, A = some ⟨b, o, none⟩ ∧ RowAt w b (o + i * 4) (xs[i]'hi).1.2 := by
  have h2 : ∀ i : Fin ts.length, ∃ x : Al w, x.1.1 = ts[i] ∧ ∃ b o, A = some ⟨b, o, none⟩ ∧ RowAt w b (o + i * 4) x.1.2 := fun i => by
    obtain ⟨b, o, cs, h1, h2, h3⟩ := h.2 i i.2
    exact ⟨⟨(ts[i], cs), h3⟩, rfl, b, o, h1, h2⟩
  obtain ⟨f, hf⟩ := choice_of h2
  refine ⟨List.ofFn f, ?_, by simp, fun i hi => ?_⟩
  · apply List.ext_getElem
    · simp [tys]
    · intro i h1 h2
      simp only [tys, List.getElem_map, List.getElem_ofFn]
      exact (hf ⟨i, h2⟩).1
  · have := (hf ⟨i, by simpa using hi⟩).2
    simpa [List.getElem_ofFn] using this

theorem ps_list {w : World} {ps : List (ByteArray × T)} {A : Option Addr} (h : PsIn w ps A) : ∃ xs : List (Al w), tys xs = ps.map (·.2) ∧ xs.length = ps.length ∧ ∀ i (hi : i < xs.length), ∃ b o s mu at', A = some ⟨b, o, none⟩ ∧ RowAt w b (o + i * 7) ([.string s, .bool mu] ++ (xs[i]'hi).1.2 ++ [.int .i64 at']) := by
  have h2 : ∀ i : Fin ps.length, ∃ x : Al w, x.1.1 = ps[i].2 ∧ ∃ b o s mu at', A = some ⟨b, o, none⟩ ∧ RowAt w b (o + i * 7) ([.string s, .bool mu] ++ x.1.2 ++ [.int .i64 at']) := fun i => by
    obtain ⟨b, o, mu, at', cs, h1, h2, h3⟩ := h.2 i i.2
    exact ⟨⟨(ps[i].2, cs), h3⟩, rfl, b, o, _, mu, at', h1, h2⟩
  obtain ⟨f, hf⟩ := choice_of h2
  refine ⟨List.ofFn f, ?_, by simp, fun i hi => ?_⟩
  · apply List.ext_getElem
    · simp [tys]
    · intro i h1 h2
      have h3 : i < ps.length := by simpa using h2
      simp only [tys, List.getElem_map, List.getElem_ofFn]
      exact (hf ⟨i, h3⟩).1
  · have := (hf ⟨i, by simpa using hi⟩).2
    simpa [List.getElem_ofFn] using this

theorem take_succ' {α : Type} (xs : List α) (k : Nat) (h : k < xs.length) : xs.take (k + 1) = xs.take k ++ [xs[k]] := by
  rw [List.take_add_one, List.getElem?_eq_getElem h]; rfl

set_option maxRecDepth 100000 in
set_option maxHeartbeats 2000000 in
theorem values1 (F : Fence) (n : Nat) (h33 : F.fn 101) (hro : F.round = none) (hn : 1 ≤ n) (l Bs : Nat) (w : World) (A : Option Addr) (len cap : Nat) (hlen : len ≤ 9223372036854775807) (xs : List (Al w)) (hxl : xs.length = len)
    (hxs : ∀ i (hi : i < xs.length), ∃ b o, A = some ⟨b, o, none⟩ ∧ RowAt w b (o + i * 4) (xs[i]'hi).1.2) (J Jx : List (Al w) → World → Prop)
    (hY : ∀ pre x W, J pre W → pre.length < len → YieldAt F (n - 1) Tryz.prog l #[.agg x.1.2.toArray] W fun e W' =>
      (e = .returned (.bool true) ∧ J (pre ++ [x]) W' ∧ Below w.heap.size W W') ∨ (e = .returned (.bool false) ∧ Jx (pre ++ [x]) W'))
    (W : World) (hW : Below w.heap.size w W) (hJ : ∀ pre W1 o, J pre W1 → J pre (W1.alloc o)) (hBs : W.cell? ⟨Bs, 0, none⟩ = some (.slice A len cap)) (h0 : J [] W) :
    CallsIn F n Tryz.prog 101 #[.func (.yield l) #[] #[], .pointer (some ⟨Bs, 0, none⟩)] W fun e W' => (∃ v, e = .returned v) ∧
      ((∃ ys, ys = xs ∧ J ys W') ∨ (∃ pre, pre <+: xs ∧ Jx pre W')) := by
  have HX : Hid (∀ i (hi : i < xs.length), ∃ b o, A = some ⟨b, o, none⟩ ∧ RowAt w b (o + i * 4) (xs[i]'hi).1.2) := hxs
  have HW0 : Hid (Below w.heap.size w W) := hW
  clear hxs hW
  refine callsIn_of_wp Tryz.func101 rfl h33 ?_ hro
  simp only [Tryz.ntmps101, List.size_toArray, List.length_cons, List.length_nil, Nat.reduceAdd, Nat.reduceSub, Array.replicate_succ, Array.replicate_zero, List.push_toArray, List.append_toArray, List.nil_append, List.cons_append]
  gi_wp2
  gi_loopw [7] (fun i wr => ∃ k : Nat, k ≤ len ∧ i = .int .i64 (k : Int) ∧ J (xs.take k) wr ∧ Below w.heap.size W wr) (fun i _ => len - (intOf i).toNat)
  case atStart => exact ⟨0, Nat.zero_le _, rfl, by simpa using h0, Below.refl _ _⟩
  case round =>
    obtain ⟨k, hk, rfl, hJs, hnx⟩ := hrel
    have HN : Hid (Below w.heap.size W wr) := hnx
    clear hnx hBs
    by_cases hlt : k < len
    · have hkx : k < xs.length := by omega
      obtain ⟨b, o, rfl, hrow⟩ := HX.out k hkx
      have htk := take_succ' xs k hkx
      have hy0 := fun o => hY (xs.take k) xs[k] (wr.alloc o) (hJ _ _ o hJs) (by simp; omega)
      rw [← htk] at hy0
      have HT : Hid (xs.take (k + 1) <+: xs) := List.take_prefix _ _
      generalize hxk : xs[k] = x at hrow hy0
      obtain ⟨⟨t, cs⟩, hx⟩ := x
      clear hxk htk
      have hx' := hx
      obtain ⟨tk, ts, tn, tes⟩ := t
      obtain ⟨A1, C1, e1, _⟩ := hx'.inv
      simp only at e1
      subst e1
      have hr2 := (hrow.below (HW0.out.trans HN.out))
      have c0 := hr2.2 0 _ rfl
      have c1 := hr2.2 1 _ rfl
      have c2 := hr2.2 2 _ rfl
      have c3 := hr2.2 3 _ rfl
      simp only [Nat.add_zero] at c0
      dsimp only at hy0
      clear hr2 hrow hx hx'
      obtain ⟨fn, tmps, assign, body, hy, hR⟩ := hy0 (.cells #[.int .i64 tk, .string ts, .int .i64 tn, .slice A1 tes.length C1] 25)
      clear hy0
      gi_wp2
      refine hR.mono ?_
      rintro e W3 (⟨rfl, hJ3, hk3⟩ | ⟨rfl, hJx3⟩)
      · have HK3 : Hid (Below w.heap.size W W3) := (HN.out.trans ((Below.refl _ _).alloc (Nat.le_trans HW0.out.size HN.out.size) _)).trans hk3
        clear hk3
        gi_wp2
        go_roundw
        case rel => exact ⟨k + 1, by omega, by go_num, hJ3, HK3.out⟩
        case measure => simp [intOf]; omega
      · gi_wp2
        refine bodyPost_ret (results_none rfl _ _ _) rfl ?_
        exact ⟨⟨_, rfl⟩, .inr ⟨_, HT.out, hJx3⟩⟩
    · gi_wp2
      go_end0
      exact ⟨⟨_, rfl⟩, .inl ⟨_, rfl, by rw [List.take_of_length_le (by omega)] at hJs; exact hJs⟩⟩
set_option maxRecDepth 100000 in
set_option maxHeartbeats 2000000 in
theorem fields1 (F : Fence) (n : Nat) (h31 : F.fn 99) (hro : F.round = none) (hn : 1 ≤ n) (l Bs : Nat) (w : World) (A : Option Addr) (len cap : Nat) (hlen : len ≤ 9223372036854775807) (xs : List (Al w)) (hxl : xs.length = len)
    (hxs : ∀ i (hi : i < xs.length), ∃ b o s mu at', A = some ⟨b, o, none⟩ ∧ RowAt w b (o + i * 7) ([.string s, .bool mu] ++ (xs[i]'hi).1.2 ++ [.int .i64 at'])) (J Jx : List (Al w) → World → Prop)
    (hY : ∀ pre x W, J pre W → pre.length < len → YieldAt F (n - 1) Tryz.prog l #[.agg x.1.2.toArray] W fun e W' =>
      (e = .returned (.bool true) ∧ J (pre ++ [x]) W' ∧ Below w.heap.size W W') ∨ (e = .returned (.bool false) ∧ Jx (pre ++ [x]) W'))
    (W : World) (hW : Below w.heap.size w W) (hJ : ∀ pre W1 o, J pre W1 → J pre (W1.alloc o)) (hBs : W.cell? ⟨Bs, 3, none⟩ = some (.slice A len cap)) (h0 : J [] W) :
    CallsIn F n Tryz.prog 99 #[.func (.yield l) #[] #[], .pointer (some ⟨Bs, 0, none⟩)] W fun e W' => (∃ v, e = .returned v) ∧
      ((∃ ys, ys = xs ∧ J ys W') ∨ (∃ pre, pre <+: xs ∧ Jx pre W')) := by
  have HX : Hid (∀ i (hi : i < xs.length), ∃ b o s mu at', A = some ⟨b, o, none⟩ ∧ RowAt w b (o + i * 7) ([.string s, .bool mu] ++ (xs[i]'hi).1.2 ++ [.int .i64 at'])) := hxs
  have HW0 : Hid (Below w.heap.size w W) := hW
  clear hxs hW
  refine callsIn_of_wp Tryz.func99 rfl h31 ?_ hro
  simp only [Tryz.ntmps99, List.size_toArray, List.length_cons, List.length_nil, Nat.reduceAdd, Nat.reduceSub, Array.replicate_succ, Array.replicate_zero, List.push_toArray, List.append_toArray, List.nil_append, List.cons_append]
  gi_wp2
  gi_loopw [8] (fun i wr => ∃ k : Nat, k ≤ len ∧ i = .int .i64 (k : Int) ∧ J (xs.take k) wr ∧ Below w.heap.size W wr) (fun i _ => len - (intOf i).toNat)
  case atStart => exact ⟨0, Nat.zero_le _, rfl, by simpa using h0, Below.refl _ _⟩
  case round =>
    obtain ⟨k, hk, rfl, hJs, hnx⟩ := hrel
    have HN : Hid (Below w.heap.size W wr) := hnx
    clear hnx hBs
    by_cases hlt : k < len
    · have hkx : k < xs.length := by omega
      obtain ⟨b, o, fs, mu, at', rfl, hrow⟩ := HX.out k hkx
      have htk := take_succ' xs k hkx
      have hy0 := fun o => hY (xs.take k) xs[k] (wr.alloc o) (hJ _ _ o hJs) (by simp; omega)
      rw [← htk] at hy0
      have HT : Hid (xs.take (k + 1) <+: xs) := List.take_prefix _ _
      generalize hxk : xs[k] = x at hrow hy0
      obtain ⟨⟨t, cs⟩, hx⟩ := x
      clear hxk htk
      have hx' := hx
      obtain ⟨tk, ts, tn, tes⟩ := t
      obtain ⟨A1, C1, e1, _⟩ := hx'.inv
      simp only at e1
      subst e1
      have hr2 := (hrow.below (HW0.out.trans HN.out))
      have c0 := hr2.2 0 _ rfl
      have c1 := hr2.2 1 _ rfl
      have c2 := hr2.2 2 _ rfl
      have c3 := hr2.2 3 _ rfl
      have c4 := hr2.2 4 _ rfl
      have c5 := hr2.2 5 _ rfl
      have c6 := hr2.2 6 _ rfl
      simp only [Nat.add_zero] at c0
      dsimp only at hy0
      clear hr2 hrow hx hx'
      obtain ⟨fn, tmps, assign, body, hy, hR⟩ := hy0 (.cells #[.string fs, .bool mu, .int .i64 tk, .string ts, .int .i64 tn, .slice A1 tes.length C1, .int .i64 at'] 88)
      clear hy0
      gi_wp2
      refine hR.mono ?_
      rintro e W3 (⟨rfl, hJ3, hk3⟩ | ⟨rfl, hJx3⟩)
      · have HK3 : Hid (Below w.heap.size W W3) := (HN.out.trans ((Below.refl _ _).alloc (Nat.le_trans HW0.out.size HN.out.size) _)).trans hk3
        clear hk3
        gi_wp2
        go_roundw
        case rel => exact ⟨k + 1, by omega, by go_num, hJ3, HK3.out⟩
        case measure => simp [intOf]; omega
      · gi_wp2
        refine bodyPost_ret (results_none rfl _ _ _) rfl ?_
        exact ⟨⟨_, rfl⟩, .inr ⟨_, HT.out, hJx3⟩⟩
    · gi_wp2
      go_end0
      exact ⟨⟨_, rfl⟩, .inl ⟨_, rfl, by rw [List.take_of_length_le (by omega)] at hJs; exact hJs⟩⟩

theorem values_c (A : Option Addr) (len cap : Nat) (w : World) :
    Calls Tryz.prog 100 #[.slice A len cap] w fun e w' => e = .returned (.func (.func 101) #[] #[.pointer (some ⟨w.heap.size, 0, none⟩)]) ∧ w' = w.alloc (.cells #[.slice A len cap] 23) := by
  go_enter Tryz.func100, Tryz.ntmps100
  go_wp2
  go_ret
  exact ⟨rfl, rfl⟩

theorem fields_c (k : Int) (s : ByteArray) (P : Option Addr) (pl pc : Nat) (V : Option Addr) (vl vc : Nat) (r : Rst) (w : World) :
    Calls Tryz.prog 95 #[.agg (icells k s P pl pc V vl vc r).toArray] w fun e w' => e = .returned (.func (.func 99) #[] #[.pointer (some ⟨w.heap.size, 0, none⟩)]) ∧ w' = w.alloc (.cells (icells k s P pl pc V vl vc r).toArray 43) := by
  unfold icells
  go_enter Tryz.func95, Tryz.ntmps95
  go_wp2
  go_ret
  exact ⟨rfl, rfl⟩

theorem abides_alloc {β : Type} {B : Nat} {J : β → World → Prop} (h : AbidesFrom B J) (s : β) (W : World) (o : Obj) (hs : J s W) : J s (W.alloc o) :=
  h s W _ none hs (World.grownBy_alloc W o none) (fun _ e => by cases e)

/-- The types of a list come. -/
theorem values_stops (F : Fence) (n : Nat) (h33 : F.fn 101) (hro : F.round = none) (hn : 1 ≤ n) (Bs : Nat) (w w0 : World) (A : Option Addr) (cap : Nat) (ts : List T) (ht : TsIn w ts A) (hw : Below w.heap.size w w0) (hBs : w0.cell? ⟨Bs, 0, none⟩ = some (.slice A ts.length cap)) :
    SeqStopsK F n Tryz.prog 101 #[.pointer (some ⟨Bs, 0, none⟩)] (fun x : Al w => #[Value.agg x.1.2.toArray]) (Below w.heap.size) (fun ys => tys ys = ts) (fun pre => tys pre <+: ts) ts.length w0 := fun l J Jx W hW hJ _ hY h0 => by
  obtain ⟨xs, h1, h2, h3⟩ := ts_list ht
  refine (values1 F n h33 hro hn l Bs w A ts.length cap ht.1 xs h2 h3 J Jx hY W (hw.trans (hW.mono hw.size)) (fun s W o hs => abides_alloc hJ s W o hs) ((hW.cell (p := ⟨Bs, 0, none⟩) (World.block_lt_of_cell? _ _ hBs)).trans hBs) h0).mono ?_
  rintro e W' ⟨he, ⟨ys, rfl, hj⟩ | ⟨pre, hp, hj⟩⟩
  · exact ⟨he, .inl ⟨_, h1, hj⟩⟩
  · exact ⟨he, .inr ⟨_, by rw [← h1]; exact hp.map _, hj⟩⟩

/-- The types of a struct's fields come. -/
theorem fields_stops (F : Fence) (n : Nat) (h31 : F.fn 99) (hro : F.round = none) (hn : 1 ≤ n) (Bs : Nat) (w w0 : World) (A : Option Addr) (cap : Nat) (ps : List (ByteArray × T)) (ht : PsIn w ps A) (hw : Below w.heap.size w w0) (hBs : w0.cell? ⟨Bs, 3, none⟩ = some (.slice A ps.length cap)) :
    SeqStopsK F n Tryz.prog 99 #[.pointer (some ⟨Bs, 0, none⟩)] (fun x : Al w => #[Value.agg x.1.2.toArray]) (Below w.heap.size) (fun ys => tys ys = ps.map (·.2)) (fun pre => tys pre <+: ps.map (·.2)) (ps.map (·.2)).length w0 := fun l J Jx W hW hJ _ hY h0 => by
  obtain ⟨xs, h1, h2, h3⟩ := ps_list ht
  rw [List.length_map] at hY
  refine (fields1 F n h31 hro hn l Bs w A ps.length cap ht.1 xs h2 h3 J Jx hY W (hw.trans (hW.mono hw.size)) (fun s W o hs => abides_alloc hJ s W o hs) ((hW.cell (p := ⟨Bs, 3, none⟩) (World.block_lt_of_cell? _ _ hBs)).trans hBs) h0).mono ?_
  rintro e W' ⟨he, ⟨ys, rfl, hj⟩ | ⟨pre, hp, hj⟩⟩
  · exact ⟨he, .inl ⟨_, h1, hj⟩⟩
  · exact ⟨he, .inr ⟨_, by rw [← h1]; exact hp.map _, hj⟩⟩

end Go.Proofs.YtjdkoahbahecoaaGreatDoor
