/-
  Proved: (types.scale).named measures the struct or enum that a name means.
-/
import Derived.Test.YtjdkoahbahecoaaGreatDoorEnum
namespace Go.Proofs.YtjdkoahbahecoaaGreatDoor
open Go.RowKit

/-- What a name has. -/
def nam (is : List It) (N : Nat) (s : ByteArray) (room : Nat) : Option Am :=
  match fst s is 0 with
  | none => none
  | some j => match is[j]? with
    | none => none
    | some it => if it.k = 2 then tog (am is N) room ⟨1, 0, 0⟩ (it.ps.map (·.2))
      else (vars (am is N) room ⟨1, 0, 0⟩ (it.vs.map (·.2))).map fun a => ⟨a.p, 1 + a.w, a.m⟩

theorem fields_b (k : Int) (s : ByteArray) (P : Option Addr) (pl pc : Nat) (V : Option Addr) (vl vc : Nat) (r : Rst) (w : World) :
    Calls Tryz.prog 95 #[.agg (icells k s P pl pc V vl vc r).toArray] w fun e w' => ∃ Bs, e = .returned (.func (.func 99) #[] #[.pointer (some ⟨Bs, 0, none⟩)]) ∧ w'.cell? ⟨Bs, 3, none⟩ = some (.slice P pl pc) ∧ Below w.heap.size w w' :=
  (fields_c k s P pl pc V vl vc r w).mono fun e w' ⟨he, hw⟩ => ⟨_, he, by rw [hw]; exact ((At.new w (icells k s P pl pc V vl vc r).toArray 43).cell 3).trans rfl, by rw [hw]; exact below_alloc _ _⟩

/-- What lies in the call's own blocks. -/
def OwnN (w : World) (A : Option Addr) (l C : Nat) (w' : World) : Prop :=
  Below w.heap.size w w' ∧ At w' w.heap.size #[.slice A l C] 125 ∧ ∃ x y z, At w' (w.heap.size + 1) #[x, y, z] 113

theorem OwnN.next {w : World} {A : Option Addr} {l C : Nat} {w' w'' : World} (h : OwnN w A l C w') (hb : Below w'.heap.size w' w'') : OwnN w A l C w'' := by
  obtain ⟨h1, h2, x, y, z, h3⟩ := h
  exact ⟨h1.trans (hb.mono h1.size), h2.below hb h2.lt, x, y, z, h3.below hb h3.lt⟩

theorem OwnN.put {w : World} {A : Option Addr} {l C : Nat} {w' : World} (h : OwnN w A l C w') (x y z : Value) : OwnN w A l C (((w'.setCell ⟨w.heap.size + 1, 0, none⟩ x).setCell ⟨w.heap.size + 1, 1, none⟩ y).setCell ⟨w.heap.size + 1, 2, none⟩ z) := by
  obtain ⟨h1, h2, _, _, _, h3⟩ := h
  exact ⟨below_set3 h1 (by omega) _ _ _, h2.far3 (by omega) _ _ _, _, _, _, h3.set3 _ _ _⟩

theorem celI {w' : World} {b q : Nat} {k : Int} {s : ByteArray} {P : Option Addr} {pl pc : Nat} {V : Option Addr} {vl vc : Nat} {r : Rst} (h : RowAt w' b q (icells k s P pl pc V vl vc r)) :
    w'.cell? ⟨b, q, none⟩ = some (.int .i64 k) ∧ w'.cell? ⟨b, q + 1, none⟩ = some (.string s) ∧ w'.cell? ⟨b, q + 2, none⟩ = some (.int .i64 r.at') ∧ w'.cell? ⟨b, q + 3, none⟩ = some (.slice P pl pc) ∧ w'.cell? ⟨b, q + 4, none⟩ = some (.slice V vl vc) ∧ w'.cell? ⟨b, q + 5, none⟩ = some (.int .i64 r.p) ∧ w'.cell? ⟨b, q + 6, none⟩ = some (.string r.q) ∧ w'.cell? ⟨b, q + 7, none⟩ = some (.int .i64 r.r) ∧ w'.cell? ⟨b, q + 8, none⟩ = some (.slice r.Z r.zl r.zc) ∧ w'.cell? ⟨b, q + 9, none⟩ = some (.int .i64 r.num) ∧ w'.cell? ⟨b, q + 10, none⟩ = some (.int .i64 r.e0) ∧ w'.cell? ⟨b, q + 11, none⟩ = some (.int .i64 r.e1) ∧ w'.cell? ⟨b, q + 12, none⟩ = some (.int .i64 r.e2) ∧ w'.cell? ⟨b, q + 13, none⟩ = some (.string r.e3) ∧ w'.cell? ⟨b, q + 14, none⟩ = some (.slice r.Y r.yl r.yc) ∧ w'.cell? ⟨b, q + 15, none⟩ = some (.slice r.X r.xl r.xc) ∧ w'.cell? ⟨b, q + 16, none⟩ = some (.int .i64 r.e6) ∧ w'.cell? ⟨b, q + 17, none⟩ = some (.string r.e7) ∧ w'.cell? ⟨b, q + 18, none⟩ = some (.int .i64 r.e8) ∧ w'.cell? ⟨b, q + 19, none⟩ = some (.slice r.V r.vl r.vc) :=
  ⟨h.2 0 _ rfl, h.2 1 _ rfl, h.2 2 _ rfl, h.2 3 _ rfl, h.2 4 _ rfl, h.2 5 _ rfl, h.2 6 _ rfl, h.2 7 _ rfl, h.2 8 _ rfl, h.2 9 _ rfl, h.2 10 _ rfl, h.2 11 _ rfl, h.2 12 _ rfl, h.2 13 _ rfl, h.2 14 _ rfl, h.2 15 _ rfl, h.2 16 _ rfl, h.2 17 _ rfl, h.2 18 _ rfl, h.2 19 _ rfl⟩


theorem own_named (w : World) (A : Option Addr) (l C : Nat) (w' : World) (hw : Below ((w.alloc (.cells #[.slice A l C] 125)).alloc (.cells #[.int .i64 0, .int .i64 0, .int .i64 0] 113)).heap.size ((w.alloc (.cells #[.slice A l C] 125)).alloc (.cells #[.int .i64 0, .int .i64 0, .int .i64 0] 113)) w') : OwnN w A l C w' := by
  refine OwnN.next (w' := ((w.alloc (.cells #[.slice A l C] 125)).alloc (.cells #[.int .i64 0, .int .i64 0, .int .i64 0] 113))) ⟨two_alloc _ _ _, (At.new _ _ _).alloc _, .int .i64 0, .int .i64 0, .int .i64 0, ?_⟩ hw
  have := At.new (w.alloc (.cells #[.slice A l C] 125)) #[.int .i64 0, .int .i64 0, .int .i64 0] 113
  simpa using this

set_option maxRecDepth 100000 in
set_option maxHeartbeats 4000000 in
theorem named_none (is : List It) (room : Nat) (s : ByteArray) (A : Option Addr) (C : Nat) (w : World) (ht : Tab w) (hi : IsIn w is A) (hf : fst s is 0 = none) :
    Calls Tryz.prog 91 #[.agg #[.slice A is.length C], .string s, .int .i64 (room : Int)] w
      fun e' w' => e' = .returned (.agg #[.int .i64 513, .int .i64 0, .int .i64 0]) ∧ Below w.heap.size w w' := by
  have HT : Hid (Tab w) := ht
  have FI : Hid (∀ w', Below w.heap.size w w' → Calls Tryz.prog 80 #[.slice A is.length C, .string s, .func (.func 93) #[] #[]] w' fun e w'' => e = .returned (fstV (fst s is 0)) ∧ Below w'.heap.size w' w'') := fun w' hw => first_c is s A C w' (hi.below hw)
  have HW2 : Hid (∀ a b, Below w.heap.size w ((w.alloc a).alloc b)) := two_alloc w
  have OWN : Hid (∀ w', Below ((w.alloc (.cells #[.slice A is.length C] 125)).alloc (.cells #[.int .i64 0, .int .i64 0, .int .i64 0] 113)).heap.size ((w.alloc (.cells #[.slice A is.length C] 125)).alloc (.cells #[.int .i64 0, .int .i64 0, .int .i64 0] 113)) w' → OwnN w A is.length C w') := own_named w A is.length C
  rw [hf] at FI
  simp only [fstV] at FI
  clear hf ht hi
  go_enter Tryz.func91, Tryz.ntmps91
  go_wp2_with (go_at_call 80; refine (FI.out _ (HW2.out _ _)).mono ?_; rintro e' w1 ⟨rfl, hb1⟩; have OO : Hid (OwnN w A is.length C w1) := OWN.out _ hb1; have T1 := HT.out.below OO.out.1; have t0 := T1.c0; have t1 := T1.c1; have t2 := T1.c2; have tz := T1.z; obtain ⟨x0, x1, x2, hx⟩ := OO.out.2.2; have HX : Hid (At w1 (w.heap.size + 1) #[x0, x1, x2] 113) := hx; obtain ⟨⟨s0, s1, s2⟩, ⟨y0, y1, y2⟩, sz⟩ := cells3 hx; clear hb1 T1 hx)
  have hA := HX.out.set3 (.int .i64 513) (.int .i64 0) (.int .i64 0)
  obtain ⟨⟨k0, k1, k2⟩, _, _⟩ := cells3 hA
  refine bodyPost_ret (v := .agg #[.int .i64 513, .int .i64 0, .int .i64 0]) (by simp [results, Tryz.results91, go_sem, k0, k1, k2]) rfl ⟨rfl, ?_⟩
  exact (OO.out.put _ _ _).1

theorem size38 : (Tryz.prog.info? 43).map (·.size) = some 20 := by kernel_rfl

theorem load_item {w' : World} {b q : Nat} {k : Int} {s : ByteArray} {P : Option Addr} {pl pc : Nat} {V : Option Addr} {vl vc : Nat} {r : Rst} (h : RowAt w' b q (icells k s P pl pc V vl vc r)) :
    (Instr.loadAt 43 (.pointer (some ⟨b, q, none⟩))).run Tryz.prog w' = .ok (.agg (icells k s P pl pc V vl vc r).toArray) w' :=
  run_loadAt_mid w' b q 43 _ _ h.2 Tryz.underlying43 rfl size38

/-- A load of an item, as a whole. -/
def ldI (p : Value) : Sem Value := Instr.loadAt 43 p
theorem fold38 (p : Value) : Instr.loadAt 43 p = ldI p := rfl
attribute [local go_sem ↓] fold38

/-- What the region stands on. -/
abbrev CelN (w : World) (b o q l C : Nat) (VI : Value) (w' : World) : Prop :=
  w'.cell? ⟨w.heap.size, 0, none⟩ = some (.slice (some ⟨b, o, none⟩) l C) ∧ (ldI (.pointer (some ⟨b, q, none⟩))).run Tryz.prog w' = .ok VI w' ∧ Hid (OwnN w (some ⟨b, o, none⟩) l C w')

set_option maxRecDepth 100000 in
set_option maxHeartbeats 4000000 in
theorem named_struct (l : Nat) (room : Nat) (s : ByteArray) (b o : Nat) (C : Nat) (w : World) (j : Nat) (hj : j < l) (P : Option Addr) (pl pc : Nat) (VI : Value) (rp rn rm : Int)
    (K0 : Hid (∀ w', Below w.heap.size w w' → w'.cell? ⟨b, o + j * 20, none⟩ = some (.int .i64 2)))
    (LI : Hid (∀ w', Below w.heap.size w w' → (ldI (.pointer (some ⟨b, o + j * 20, none⟩))).run Tryz.prog w' = .ok VI w'))
    (FB : Hid (∀ w', Calls Tryz.prog 95 #[VI] w' fun e w'' => ∃ Bs, e = .returned (.func (.func 99) #[] #[.pointer (some ⟨Bs, 0, none⟩)]) ∧ w''.cell? ⟨Bs, 3, none⟩ = some (.slice P pl pc) ∧ Below w'.heap.size w' w''))
    (FI : Hid (∀ w', Below w.heap.size w w' → Calls Tryz.prog 80 #[.slice (some ⟨b, o, none⟩) l C, .string s, .func (.func 93) #[] #[]] w' fun e w'' => e = .returned (.int .i64 (j : Int)) ∧ Below w'.heap.size w' w''))
    (TOG : Hid (∀ w' Bs, Below w.heap.size w w' → w'.cell? ⟨Bs, 3, none⟩ = some (.slice P pl pc) → Calls Tryz.prog 94 #[.agg #[.int .i64 1, .int .i64 0, .int .i64 0], .func (.func 99) #[] #[.pointer (some ⟨Bs, 0, none⟩)], .int .i64 (room : Int), .func (.func 82) #[.agg #[.slice (some ⟨b, o, none⟩) l C]] #[]] w'
          fun e w'' => e = .returned (.agg #[.int .i64 rp, .int .i64 rn, .int .i64 rm]) ∧ Below w'.heap.size w' w'')) :
    Calls Tryz.prog 91 #[.agg #[.slice (some ⟨b, o, none⟩) l C], .string s, .int .i64 (room : Int)] w
      fun e' w' => e' = .returned (.agg #[.int .i64 rp, .int .i64 rn, .int .i64 rm]) ∧ Below w.heap.size w w' := by
  have hj' : (j : Int) < (l : Int) := by omega
  have HW2 : Hid (∀ a b, Below w.heap.size w ((w.alloc a).alloc b)) := two_alloc w
  have OWN : Hid (∀ w', Below ((w.alloc (.cells #[.slice (some ⟨b, o, none⟩) l C] 125)).alloc (.cells #[.int .i64 0, .int .i64 0, .int .i64 0] 113)).heap.size ((w.alloc (.cells #[.slice (some ⟨b, o, none⟩) l C] 125)).alloc (.cells #[.int .i64 0, .int .i64 0, .int .i64 0] 113)) w' → OwnN w (some ⟨b, o, none⟩) l C w') := own_named w _ l C
  have SI : Hid (∀ w', OwnN w (some ⟨b, o, none⟩) l C w' → CelN w b o (o + j * 20) l C VI w') := fun w' h => ⟨(h.2.1.cell 0).trans rfl, LI.out w' h.1, h⟩
  go_enter Tryz.func91, Tryz.ntmps91
  go_wp2_with (go_at_call 80; refine (FI.out _ (HW2.out _ _)).mono ?_; rintro e' w1 ⟨rfl, hb1⟩; have O1 : Hid (OwnN w (some ⟨b, o, none⟩) l C w1) := OWN.out _ hb1; have q0 := (O1.out.2.1.cell 0).trans (b := some (Value.slice (some ⟨b, o, none⟩) l C)) rfl; have q1 := K0.out _ O1.out.1; clear hb1)
  have OO := O1
  clear q0 q1
  go_region_held3 (fun w' => w'.cell? ⟨w.heap.size, 0, none⟩ = some (.slice (some ⟨b, o, none⟩) l C) ∧ (ldI (.pointer (some ⟨b, o + j * 20, none⟩))).run Tryz.prog w' = .ok VI w' ∧ Hid (OwnN w (some ⟨b, o, none⟩) l C w'))
    (first
      | with_reducible exact SI.out _ (O1.out.next ((Below.refl _ _).drew))
      | with_reducible exact SI.out _ OO.out
      | with_reducible exact SI.out _ (OO.out.put _ _ _))
    (first
      | (go_at_call 95; refine (FB.out _).mono ?_; rintro e' w2 ⟨Bs, rfl, hBs, hb1⟩; have CB : Hid (w2.cell? ⟨Bs, 3, none⟩ = some (.slice P pl pc)) := hBs; have OO : Hid (OwnN w (some ⟨b, o, none⟩) l C w2) := (O1.out.next ((Below.refl _ _).drew)).next hb1; clear hBs hb1)
      | (go_at_call 94; refine (TOG.out _ _ OO.out.1 CB.out).mono ?_; rintro e' w3 ⟨rfl, hb1⟩; have OO : Hid (OwnN w (some ⟨b, o, none⟩) l C w3) := OO.out.next hb1; obtain ⟨x0, x1, x2, hx⟩ := OO.out.2.2; have HX : Hid (At w3 (w.heap.size + 1) #[x0, x1, x2] 113) := hx; obtain ⟨⟨s0, s1, s2⟩, ⟨y0, y1, y2⟩, sz⟩ := cells3 hx; clear hb1 hx))
  all_goals (go_wp2_with fail)
  all_goals (
    have hA := HX.out.set3 (.int .i64 rp) (.int .i64 rn) (.int .i64 rm)
    obtain ⟨⟨k0, k1, k2⟩, _, _⟩ := cells3 hA
    refine bodyPost_ret (v := .agg #[.int .i64 rp, .int .i64 rn, .int .i64 rm]) (by simp [results, Tryz.results91, go_sem, k0, k1, k2]) rfl ⟨rfl, ?_⟩
    exact (OO.out.put _ _ _).1)

set_option maxRecDepth 100000 in
set_option maxHeartbeats 4000000 in
theorem named_enum (l : Nat) (room : Nat) (s : ByteArray) (b o : Nat) (C : Nat) (w : World) (j : Nat) (hj : j < l) (V : Option Addr) (vl vc : Nat) (rp rn rm : Int)
    (K0 : Hid (∀ w', Below w.heap.size w w' → w'.cell? ⟨b, o + j * 20, none⟩ = some (.int .i64 3) ∧ w'.cell? ⟨b, o + j * 20 + 4, none⟩ = some (.slice V vl vc)))
    (FI : Hid (∀ w', Below w.heap.size w w' → Calls Tryz.prog 80 #[.slice (some ⟨b, o, none⟩) l C, .string s, .func (.func 93) #[] #[]] w' fun e w'' => e = .returned (.int .i64 (j : Int)) ∧ Below w'.heap.size w' w''))
    (EN : Hid (∀ w', Below w.heap.size w w' → Calls Tryz.prog 96 #[.agg #[.slice (some ⟨b, o, none⟩) l C], .slice V vl vc, .int .i64 (room : Int)] w'
          fun e w'' => e = .returned (.agg #[.int .i64 rp, .int .i64 rn, .int .i64 rm]) ∧ Below w'.heap.size w' w'')) :
    Calls Tryz.prog 91 #[.agg #[.slice (some ⟨b, o, none⟩) l C], .string s, .int .i64 (room : Int)] w
      fun e' w' => e' = .returned (.agg #[.int .i64 rp, .int .i64 rn, .int .i64 rm]) ∧ Below w.heap.size w w' := by
  have hj' : (j : Int) < (l : Int) := by omega
  have HW2 : Hid (∀ a b, Below w.heap.size w ((w.alloc a).alloc b)) := two_alloc w
  have OWN : Hid (∀ w', Below ((w.alloc (.cells #[.slice (some ⟨b, o, none⟩) l C] 125)).alloc (.cells #[.int .i64 0, .int .i64 0, .int .i64 0] 113)).heap.size ((w.alloc (.cells #[.slice (some ⟨b, o, none⟩) l C] 125)).alloc (.cells #[.int .i64 0, .int .i64 0, .int .i64 0] 113)) w' → OwnN w (some ⟨b, o, none⟩) l C w') := own_named w _ l C
  have SI : Hid (∀ w', OwnN w (some ⟨b, o, none⟩) l C w' → w'.cell? ⟨w.heap.size, 0, none⟩ = some (.slice (some ⟨b, o, none⟩) l C) ∧ w'.cell? ⟨b, o + j * 20 + 4, none⟩ = some (.slice V vl vc) ∧ Hid (OwnN w (some ⟨b, o, none⟩) l C w')) := fun w' h => ⟨(h.2.1.cell 0).trans rfl, (K0.out w' h.1).2, h⟩
  go_enter Tryz.func91, Tryz.ntmps91
  go_wp2_with (go_at_call 80; refine (FI.out _ (HW2.out _ _)).mono ?_; rintro e' w1 ⟨rfl, hb1⟩; have O1 : Hid (OwnN w (some ⟨b, o, none⟩) l C w1) := OWN.out _ hb1; have q0 := (O1.out.2.1.cell 0).trans (b := some (Value.slice (some ⟨b, o, none⟩) l C)) rfl; have q1 := (K0.out _ O1.out.1).1; clear hb1)
  have OO := O1
  clear q0 q1
  go_region_held3 (fun w' => w'.cell? ⟨w.heap.size, 0, none⟩ = some (.slice (some ⟨b, o, none⟩) l C) ∧ w'.cell? ⟨b, o + j * 20 + 4, none⟩ = some (.slice V vl vc) ∧ Hid (OwnN w (some ⟨b, o, none⟩) l C w'))
    (first
      | with_reducible exact SI.out _ (O1.out.next ((Below.refl _ _).drew))
      | with_reducible exact SI.out _ OO.out
      | with_reducible exact SI.out _ (OO.out.put _ _ _))
    (first
      | (go_at_call 96; refine (EN.out _ (O1.out.next ((Below.refl _ _).drew)).1).mono ?_; rintro e' w3 ⟨rfl, hb1⟩; have OO : Hid (OwnN w (some ⟨b, o, none⟩) l C w3) := (O1.out.next ((Below.refl _ _).drew)).next hb1; obtain ⟨x0, x1, x2, hx⟩ := OO.out.2.2; have HX : Hid (At w3 (w.heap.size + 1) #[x0, x1, x2] 113) := hx; obtain ⟨⟨s0, s1, s2⟩, ⟨y0, y1, y2⟩, sz⟩ := cells3 hx; clear hb1 hx))
  all_goals (go_wp2_with fail)
  all_goals (
    have hA := HX.out.set3 (.int .i64 rp) (.int .i64 rn) (.int .i64 rm)
    obtain ⟨⟨k0, k1, k2⟩, _, _⟩ := cells3 hA
    refine bodyPost_ret (v := .agg #[.int .i64 rp, .int .i64 rn, .int .i64 rm]) (by simp [results, Tryz.results91, go_sem, k0, k1, k2]) rfl ⟨rfl, ?_⟩
    exact (OO.out.put _ _ _).1)

theorem amV_agg (X : Option Am) : ∃ p n m : Int, amV X = .agg #[.int .i64 p, .int .i64 n, .int .i64 m] := by cases X <;> exact ⟨_, _, _, rfl⟩

theorem named_c (is : List It) (N : Nat) (ih : OfC is N) (room : Nat) (hr1 : 1 ≤ room) (hr : room ≤ N + 1) (hr2 : room ≤ 512) (s : ByteArray) (A : Option Addr) (C : Nat)
    (w : World) (ht : Tab w) (hi : IsIn w is A) :
    Calls Tryz.prog 91 #[.agg #[.slice A is.length C], .string s, .int .i64 (room : Int)] w
      fun e' w' => e' = .returned (amV (nam is N s room)) ∧ Below w.heap.size w w' := by
  cases hf : fst s is 0 with
  | none =>
    have hv : nam is N s room = none := by simp [nam, hf]
    rw [hv]
    exact named_none is room s A C w ht hi hf
  | some j =>
    obtain ⟨_, hj, hjk⟩ := fst_some hf
    simp only [Nat.sub_zero] at hj hjk
    obtain ⟨_, hjk⟩ := hjk hj
    obtain ⟨b, o, P, pc, V, vc, r, rfl, hrow, hps, hvs⟩ := hi.2 j hj
    have hv : nam is N s room = if (is[j]'hj).k = 2 then tog (am is N) room ⟨1, 0, 0⟩ ((is[j]'hj).ps.map (·.2)) else enu is N room (is[j]'hj).vs := by
      simp [nam, hf, List.getElem?_eq_getElem hj, enu]
    have FI : ∀ w', Below w.heap.size w w' → Calls Tryz.prog 80 #[.slice (some ⟨b, o, none⟩) is.length C, .string s, .func (.func 93) #[] #[]] w' fun e w'' => e = .returned (.int .i64 (j : Int)) ∧ Below w'.heap.size w' w'' := fun w' hw => by
      have := first_c is s (some ⟨b, o, none⟩) C w' (hi.below hw)
      rw [hf] at this
      exact this
    rw [hv]
    generalize is[j] = it at hrow hps hvs hjk
    obtain ⟨ik, isn, ips, ivs⟩ := it
    simp only at hrow hps hvs hjk ⊢
    by_cases hk : ik = 2
    · subst hk
      rw [if_pos rfl]
      obtain ⟨rp, rn, rm, hX⟩ := amV_agg (tog (am is N) room ⟨1, 0, 0⟩ (ips.map (·.2)))
      rw [hX]
      refine named_struct is.length room s b o C w j hj P ips.length pc (.agg (icells 2 isn P ips.length pc V ivs.length vc r).toArray) rp rn rm (fun w' hw => (celI (hrow.below hw)).1) (fun w' hw => load_item (hrow.below hw)) (fun w' => fields_b 2 isn P ips.length pc V ivs.length vc r w') FI (fun w' Bs hw hB => ?_)
      rw [← hX]
      exact together_fields is N ih room hr hr2 ⟨1, 0, 0⟩ (Nat.le_refl _) hr1 (by simp) (by simp) ips _ C w' (ht.below hw) (hi.below hw) Bs P pc (hps.below hw) hB
    · have hk3 : ik = 3 := by omega
      subst hk3
      rw [if_neg (by decide)]
      obtain ⟨rp, rn, rm, hX⟩ := amV_agg (enu is N room ivs)
      rw [hX]
      refine named_enum is.length room s b o C w j hj V ivs.length vc rp rn rm (fun w' hw => ⟨(celI (hrow.below hw)).1, (celI (hrow.below hw)).2.2.2.2.1⟩) FI (fun w' hw => ?_)
      rw [← hX]
      exact enum_c is N ih room hr1 hr hr2 ivs V vc _ C w' (ht.below hw) (hi.below hw) (hvs.below hw)

end Go.Proofs.YtjdkoahbahecoaaGreatDoor
