/-
  Proved: what errors.As answers of nil and of an error of names' own type, at a variable of that type; what Check answers.
-/
import Derived.Test.YtjdkoahbahecoaaGreatDoorCheckd
import Derived.LaidEql
import Derived.Stop.Asserts
import Derived.RowKitTokens
namespace Go.Proofs.YtjdkoahbahecoaaGreatDoor
open Go.RowKit Go.Extern.Stop Go.Stop Go.Extern

theorem as_nil (t : Value) (w : World) :
    Calls Tryz.prog 12 #[.nilIface, t] w fun e w' => e = .returned (.bool false) ∧ w' = w := by
  go_enter Tryz.func12, Tryz.ntmps12
  go_wp2
  go_ret
  exact ⟨rfl, rfl⟩

theorem valueOfP (t : Addr) (w : World) : (ReflectliteValue.unpack (.iface 53 (.pointer (some t)))).run Tryz.prog w
    = .ok (.agg #[.pointer (some ⟨3, 53, none⟩), .pointer (some ⟨w.heap.size, 0, none⟩), .int .u64 150]) (w.alloc (.cells #[.pointer (some t)] 53)) := by kernel_rfl
theorem typeP (a : Addr) (w : World) : (ReflectliteValue.methodAny (ReflectliteValue.valueError "reflectlite.Value.Type" 0) (fun t _ _ _ => ReflectliteType.toType t) #[.agg #[.pointer (some ⟨3, 53, none⟩), .pointer (some a), .int .u64 150]]).run Tryz.prog w
    = .ok (.iface 95 (.agg #[.pointer (some ⟨3, 53, none⟩)])) w := by kernel_rfl
theorem methodKind (h : Value) (w : World) : (Go.method 276 95 (.agg #[h]) "Kind").run Tryz.prog w = .ok (116, h) w := by kernel_rfl
theorem kindP (w : World) : ((ReflectliteType.abiMethod fun t => (fun a : Nat => Value.int IntKind.u8 (a : Int)) <$> Rtype.kind t) #[.pointer (some ⟨3, 53, none⟩)]).run Tryz.prog w = .ok (.int .u8 22) w := by kernel_rfl
theorem kindF (w : World) : ((ReflectliteType.abiMethod fun t => (fun a : Nat => Value.int IntKind.u8 (a : Int)) <$> Rtype.kind t) #[.pointer (some ⟨3, 47, none⟩)]).run Tryz.prog w = .ok (.int .u8 25) w := by kernel_rfl

theorem method_run (z : Sem Value) (f : TypeId → Addr → Nat → Nat → Sem Value) (v : Value) (P : Program) (W : World) (t : TypeId) (a : Addr) (fl : Nat) (h : (ReflectliteValue.parts v).run P W = .ok (some (t, a, fl)) W) :
    (ReflectliteValue.method z f #[v]).run P W = (f t a fl (fl % 32)).run P W := by
  refine (Sem.run_bind _ _ (ReflectliteValue.parts v) _).trans ?_
  rw [h]
  rfl

theorem set_run (v x : Value) (P : Program) (W W' : World) (dst src : TypeId) (a b : Addr) (fl fl' : Nat) (val : Value) (hv : (ReflectliteValue.parts v).run P W = .ok (some (dst, a, fl)) W) (hx : (ReflectliteValue.parts x).run P W = .ok (some (src, b, fl')) W)
    (hf : (fl / ReflectliteValue.flagAddr % 2 == 0) = false) (hl : (loadVar src b).run P W = .ok val W) (hd : (Rtype.directlyAssignable dst src).run P W = .ok true W) (hs : (storeVar dst a val).run P W = .ok () W') :
    (ReflectliteValue.set #[v, x]).run P W = .ok (.tuple #[]) W' := by
  refine (Sem.run_bind _ _ (ReflectliteValue.parts v) _).trans ?_
  rw [hv, Result.andThen]
  refine (Sem.run_bind _ _ (ReflectliteValue.parts x) _).trans ?_
  rw [hx, Result.andThen]
  dsimp only
  simp only [hf]
  simp [hl, hd, hs, Result.andThen]

theorem partsP (a : Addr) (w : World) : (ReflectliteValue.parts (.agg #[.pointer (some ⟨3, 53, none⟩), .pointer (some a), .int .u64 150])).run Tryz.prog w = .ok (some (53, a, 150)) w := by kernel_rfl
theorem isNilP (a p : Addr) (W : World) (ha : W.cell? a = some (.pointer (some p))) :
    (ReflectliteValue.method (ReflectliteValue.valueError "reflectlite.Value.IsNil" 0) ReflectliteValue.isNil #[.agg #[.pointer (some ⟨3, 53, none⟩), .pointer (some a), .int .u64 150]]).run Tryz.prog W = .ok (.bool false) W := by
  rw [method_run _ _ _ _ _ _ _ _ (partsP a W)]
  simp [ReflectliteValue.isNil, loadVar, isAgg, underlying, Tryz.underlying53, ha, Result.andThen]

theorem methodElem (h : Value) (w : World) : (Go.method 276 95 (.agg #[h]) "Elem").run Tryz.prog w = .ok (127, .agg #[h]) w := by kernel_rfl
theorem methodImplements (h : Value) (w : World) : (Go.method 276 95 (.agg #[h]) "Implements").run Tryz.prog w = .ok (128, .agg #[h]) w := by kernel_rfl
theorem methodAssignableTo (h : Value) (w : World) : (Go.method 276 95 (.agg #[h]) "AssignableTo").run Tryz.prog w = .ok (125, .agg #[h]) w := by kernel_rfl
theorem elemP (w : World) : (ReflectliteType.method ReflectliteType.elem #[.agg #[.pointer (some ⟨3, 53, none⟩)]]).run Tryz.prog w = .ok (.iface 95 (.agg #[.pointer (some ⟨3, 47, none⟩)])) w := by kernel_rfl
theorem implementsF (w : World) : (ReflectliteType.relation "Implements" ReflectliteType.implements_ #[.agg #[.pointer (some ⟨3, 47, none⟩)], .iface 95 (.agg #[.pointer (some ⟨3, 50, none⟩)])]).run Tryz.prog w = .ok (.bool true) w := by kernel_rfl
theorem typeOfF (v : Value) (w : World) : (ReflectliteType.typeOf #[.iface 47 v]).run Tryz.prog w = .ok (.iface 95 (.agg #[.pointer (some ⟨3, 47, none⟩)])) w := by kernel_rfl
theorem assignableF (w : World) : (ReflectliteType.relation "AssignableTo" ReflectliteType.assignableTo #[.agg #[.pointer (some ⟨3, 47, none⟩)], .iface 95 (.agg #[.pointer (some ⟨3, 47, none⟩)])]).run Tryz.prog w = .ok (.bool true) w := by kernel_rfl
theorem valueOfF (x y : Int) (w : World) : (ReflectliteValue.unpack (.iface 47 (.agg #[.int .i64 x, .int .i64 y]))).run Tryz.prog w
    = .ok (.agg #[.pointer (some ⟨3, 47, none⟩), .pointer (some ⟨w.heap.size, 0, none⟩), .int .u64 153]) (w.alloc (.cells #[.int .i64 x, .int .i64 y] 47)) := by kernel_rfl

theorem elemOfP (w : World) : (Rtype.elem? 53).run Tryz.prog w = .ok (some 47) w := by kernel_rfl
theorem mkF (p : Addr) (w : World) : (ReflectliteValue.mk 47 p ReflectliteValue.flagAddr).run Tryz.prog w = .ok (.agg #[.pointer (some ⟨3, 47, none⟩), .pointer (some p), .int .u64 409]) w := by kernel_rfl
theorem elemV (a p : Addr) (W : World) (ha : W.cell? a = some (.pointer (some p))) :
    (ReflectliteValue.method (ReflectliteValue.valueError "reflectlite.Value.Elem" 0) ReflectliteValue.elem #[.agg #[.pointer (some ⟨3, 53, none⟩), .pointer (some a), .int .u64 150]]).run Tryz.prog W
      = .ok (.agg #[.pointer (some ⟨3, 47, none⟩), .pointer (some p), .int .u64 409]) W := by
  rw [method_run _ _ _ _ _ _ _ _ (partsP a W)]
  simp [ReflectliteValue.elem, loadVar, isAgg, underlying, Tryz.underlying53, ha, Result.andThen, elemOfP, mkF]
theorem partsFa (a : Addr) (w : World) : (ReflectliteValue.parts (.agg #[.pointer (some ⟨3, 47, none⟩), .pointer (some a), .int .u64 409])).run Tryz.prog w = .ok (some (47, a, 409)) w := by kernel_rfl
theorem partsF (a : Addr) (w : World) : (ReflectliteValue.parts (.agg #[.pointer (some ⟨3, 47, none⟩), .pointer (some a), .int .u64 153])).run Tryz.prog w = .ok (some (47, a, 153)) w := by kernel_rfl
theorem directF (w : World) : (Rtype.directlyAssignable 47 47).run Tryz.prog w = .ok true w := by kernel_rfl
theorem sizeF : (Tryz.prog.info? 47).map (·.size) = some 2 := by kernel_rfl

/-- (Value).Set: the variable at block B gets the two numbers that block b holds. -/
theorem setF (B b : Nat) (x y : Int) (o1 o2 : Value) (W : World) (hb : At W b #[.int .i64 x, .int .i64 y] 47) (ht : At W B #[o1, o2] 47) :
    (ReflectliteValue.set #[.agg #[.pointer (some ⟨3, 47, none⟩), .pointer (some ⟨B, 0, none⟩), .int .u64 409], .agg #[.pointer (some ⟨3, 47, none⟩), .pointer (some ⟨b, 0, none⟩), .int .u64 153]]).run Tryz.prog W
      = .ok (.tuple #[]) (W.setCells B 0 [.int .i64 x, .int .i64 y]) := by
  have hl : (loadVar 47 ⟨b, 0, none⟩).run Tryz.prog W = .ok (.agg #[.int .i64 x, .int .i64 y]) W :=
    run_loadVar_mid W b 0 47 [.int .i64 x, .int .i64 y] _ (at_row (cs := [.int .i64 x, .int .i64 y]) hb).2 Tryz.underlying47 rfl sizeF
  have th : W.there B 0 2 := fun j hj => ⟨by rw [show 0 + j = j by omega, ht.cell j, Array.getElem?_eq_getElem (by simpa using hj)]; rfl, ht.frozen _⟩
  have hs : (storeVar 47 ⟨B, 0, none⟩ (.agg #[.int .i64 x, .int .i64 y])).run Tryz.prog W = .ok () (W.setCells B 0 [.int .i64 x, .int .i64 y]) :=
    run_storeVar_mid W B 0 47 #[.int .i64 x, .int .i64 y] th sizeF (by simp [Value.oneCell'])
  exact set_run _ _ _ _ _ _ _ _ _ _ _ _ (partsFa _ _) (partsF _ _) rfl hl (directF _) hs

theorem set2 (W : World) (B : Nat) (x y : Value) : W.setCells B 0 [x, y] = (W.setCell ⟨B, 0, none⟩ x).setCell ⟨B, 1, none⟩ y := rfl

theorem four_alloc (w : World) (a b c d : Obj) : Below w.heap.size w ((((w.alloc a).alloc b).alloc c).alloc d) := below_next (three_alloc _ _ _ _) (below_alloc _ _)

/-- errors.errorType: the handle of the type error. -/
def Eht (w : World) : Prop := w.cell? ⟨0, 0, none⟩ = some (.iface 95 (.agg #[.pointer (some ⟨3, 50, none⟩)]))

theorem Eht.below {w w' : World} (h : Eht w) (k : Below w.heap.size w w') : Eht w' := (k.cell (p := ⟨0, 0, none⟩) (World.block_lt_of_cell? _ _ h)).trans h

set_option maxRecDepth 100000 in
set_option maxHeartbeats 4000000 in
theorem as_hit (x y : Int) (B : Nat) (o1 o2 : Value) (w : World) (hg : Eht w) (hB : At w B #[o1, o2] 47) :
    Calls Tryz.prog 12 #[.iface 47 (.agg #[.int .i64 x, .int .i64 y]), .iface 53 (.pointer (some ⟨B, 0, none⟩))] w fun ev w' => ev = .returned (.bool true) ∧ At w' B #[.int .i64 x, .int .i64 y] 47 ∧ ∀ n, n ≤ B → n ≤ w.heap.size → Below n w w' := by
  have h6 := @run_callFunc_extern Tryz.prog 23 _ (fun args => ReflectliteValue.unpack (args.getD 0 (.tuple #[]))) Tryz.func23 (by kernel_rfl) (by kernel_rfl) (by kernel_rfl) (by kernel_rfl)
  have h7 := @run_callFunc_extern Tryz.prog 24 _ (ReflectliteValue.methodAny (ReflectliteValue.valueError "reflectlite.Value.Type" 0) (fun t _ _ _ => ReflectliteType.toType t)) Tryz.func24 (by kernel_rfl) (by kernel_rfl) (by kernel_rfl) (by kernel_rfl)
  have h8 := @run_callFunc_extern Tryz.prog 25 _ (ReflectliteValue.method (ReflectliteValue.valueError "reflectlite.Value.IsNil" 0) ReflectliteValue.isNil) Tryz.func25 (by kernel_rfl) (by kernel_rfl) (by kernel_rfl) (by kernel_rfl)
  have h27 := @run_callFunc_extern Tryz.prog 116 _ (ReflectliteType.abiMethod fun t => do pure (.int .u8 (← Rtype.kind t))) Tryz.func116 (by kernel_rfl) (by kernel_rfl) (by kernel_rfl) (by kernel_rfl)
  have h37 := @run_callFunc_extern Tryz.prog 127 _ (ReflectliteType.method ReflectliteType.elem) Tryz.func127 (by kernel_rfl) (by kernel_rfl) (by kernel_rfl) (by kernel_rfl)
  have h38 := @run_callFunc_extern Tryz.prog 128 _ (ReflectliteType.relation "Implements" ReflectliteType.implements_) Tryz.func128 (by kernel_rfl) (by kernel_rfl) (by kernel_rfl) (by kernel_rfl)
  have h10 := @run_callFunc_extern Tryz.prog 46 _ ReflectliteType.typeOf Tryz.func46 (by kernel_rfl) (by kernel_rfl) (by kernel_rfl) (by kernel_rfl)
  have h35 := @run_callFunc_extern Tryz.prog 125 _ (ReflectliteType.relation "AssignableTo" ReflectliteType.assignableTo) Tryz.func125 (by kernel_rfl) (by kernel_rfl) (by kernel_rfl) (by kernel_rfl)
  have h11 := @run_callFunc_extern Tryz.prog 47 _ (ReflectliteValue.method (ReflectliteValue.valueError "reflectlite.Value.Elem" 0) ReflectliteValue.elem) Tryz.func47 (by kernel_rfl) (by kernel_rfl) (by kernel_rfl) (by kernel_rfl)
  have h12 := @run_callFunc_extern Tryz.prog 48 _ ReflectliteValue.set Tryz.func48 (by kernel_rfl) (by kernel_rfl) (by kernel_rfl) (by kernel_rfl)
  have tO := typeOfF
  have mA := methodAssignableTo
  have aF := assignableF
  have vF := valueOfF
  have f6 := valueOfP
  have f7 := typeP
  have mK := methodKind
  have mE := methodElem
  have mI := methodImplements
  have kP := kindP
  have kF := kindF
  have eP := elemP
  have iF := implementsF
  obtain ⟨c1, hc1⟩ : ∃ c : Obj, (.cells #[.pointer (some ⟨B, 0, none⟩)] 53 : Obj) = c := ⟨_, rfl⟩
  obtain ⟨c2, hc2⟩ : ∃ c : Obj, (.cells #[.pointer (some ⟨3, 53, none⟩), .pointer (some ⟨w.heap.size, 0, none⟩), .int .u64 150] 73 : Obj) = c := ⟨_, rfl⟩
  have hBl := hB.lt
  have n8 := isNilP ⟨w.heap.size, 0, none⟩ ⟨B, 0, none⟩ ((w.alloc (.cells #[.pointer (some ⟨B, 0, none⟩)] 53)).alloc (.cells #[.pointer (some ⟨3, 53, none⟩), .pointer (some ⟨w.heap.size, 0, none⟩), .int .u64 150] 73)) (((At.new w #[.pointer (some ⟨B, 0, none⟩)] 53).alloc _).cell 0)
  have hg2 : ((w.alloc (.cells #[.pointer (some ⟨B, 0, none⟩)] 53)).alloc (.cells #[.pointer (some ⟨3, 53, none⟩), .pointer (some ⟨w.heap.size, 0, none⟩), .int .u64 150] 73)).cell? ⟨0, 0, none⟩ = some (.iface 95 (.agg #[.pointer (some ⟨3, 50, none⟩)])) := hg.below (two_alloc _ _ _)
  have el := elemV ⟨w.heap.size, 0, none⟩ ⟨B, 0, none⟩ (((w.alloc (.cells #[.pointer (some ⟨B, 0, none⟩)] 53)).alloc (.cells #[.pointer (some ⟨3, 53, none⟩), .pointer (some ⟨w.heap.size, 0, none⟩), .int .u64 150] 73)).alloc (.cells #[.pointer (some ⟨3, 53, none⟩), .pointer (some ⟨w.heap.size, 0, none⟩), .int .u64 150] 73)) ((((At.new w #[.pointer (some ⟨B, 0, none⟩)] 53).alloc _).alloc _).cell 0)
  obtain ⟨W4, hW4⟩ : ∃ W, ((((w.alloc (.cells #[.pointer (some ⟨B, 0, none⟩)] 53)).alloc (.cells #[.pointer (some ⟨3, 53, none⟩), .pointer (some ⟨w.heap.size, 0, none⟩), .int .u64 150] 73)).alloc (.cells #[.pointer (some ⟨3, 53, none⟩), .pointer (some ⟨w.heap.size, 0, none⟩), .int .u64 150] 73)).alloc (.cells #[.int .i64 x, .int .i64 y] 47)) = W := ⟨_, rfl⟩
  have hb4 : Below w.heap.size w W4 := by rw [← hW4]; exact four_alloc _ _ _ _ _
  have hB4 : At W4 B #[o1, o2] 47 := hB.below hb4 hBl
  have hN4 : At W4 (w.heap.size + 1 + 1 + 1) #[.int .i64 x, .int .i64 y] 47 := by
    rw [← hW4]
    have := At.new (((w.alloc (.cells #[.pointer (some ⟨B, 0, none⟩)] 53)).alloc (.cells #[.pointer (some ⟨3, 53, none⟩), .pointer (some ⟨w.heap.size, 0, none⟩), .int .u64 150] 73)).alloc (.cells #[.pointer (some ⟨3, 53, none⟩), .pointer (some ⟨w.heap.size, 0, none⟩), .int .u64 150] 73)) #[.int .i64 x, .int .i64 y] 47
    simpa using this
  have st := setF B (w.heap.size + 1 + 1 + 1) x y o1 o2 W4 hN4 hB4
  rw [set2] at st
  have HR : Hid (At ((W4.setCell ⟨B, 0, none⟩ (.int .i64 x)).setCell ⟨B, 1, none⟩ (.int .i64 y)) B #[.int .i64 x, .int .i64 y] 47 ∧ ∀ n, n ≤ B → n ≤ w.heap.size → Below n w ((W4.setCell ⟨B, 0, none⟩ (.int .i64 x)).setCell ⟨B, 1, none⟩ (.int .i64 y))) :=
    ⟨(hB4.set (j := 0) _).set (j := 1) _, fun n h1 h2 => ((hb4.mono h2).setCell (p := ⟨B, 0, none⟩) h1 _).setCell (p := ⟨B, 1, none⟩) h1 _⟩
  rw [← hW4] at st HR
  clear hW4 hb4 hB4 hN4 hB hc1 hc2 hg
  go_enter Tryz.func12, Tryz.ntmps12
  go_wp2
  refine wp_loop_rounds 1 ?_
  rw [rounds_succ]
  go_wp2
  go_ret
  exact ⟨rfl, HR.out⟩

/-- What Check answers. -/
def chkV (X : Option (Int × Int)) : Value := match X with
  | none => .tuple #[.int .i64 0, .int .i64 0]
  | some (a, e) => .tuple #[.int .i64 a, .int .i64 e]

set_option maxHeartbeats 1000000 in
theorem Check_c (A : Option Addr) (js : List Jt) (hf : ∀ j ∈ js, j.ps.length ≤ 300) (C : Nat) (w : World) (hT : Tab w) (hS : Shp w) (hE : Eht w) (hi : JsIn w js A) :
    Calls Tryz.prog 5 #[.slice A js.length C] w fun e w' => e = .returned (chkV (chk js)) ∧ Below w.heap.size w w' := by
  have hb := below_alloc w (.cells #[.int .i64 0, .int .i64 0] 47)
  have CC : Hid (Calls Tryz.prog 13 #[.slice A js.length C] (w.alloc (.cells #[.int .i64 0, .int .i64 0] 47)) fun e w' => e = .returned (errV (chk js)) ∧ Below (w.alloc (.cells #[.int .i64 0, .int .i64 0] 47)).heap.size (w.alloc (.cells #[.int .i64 0, .int .i64 0] 47)) w') := check_c A js hf C _ (hT.below hb) (hS.below hb) (hi.below hb)
  have HB : Hid (Below w.heap.size w (w.alloc (.cells #[.int .i64 0, .int .i64 0] 47))) := hb
  cases hX : chk js with
  | none =>
    rw [hX] at CC
    simp only [errV] at CC
    simp only [chkV]
    have AN : Hid (∀ t w', Calls Tryz.prog 12 #[.nilIface, t] w' fun e w'' => e = .returned (.bool false) ∧ w'' = w') := as_nil
    clear hX hb hT hS hE hi hf
    go_enter Tryz.func5, Tryz.ntmps5
    go_wp2_with (first
      | (go_at_call 13; refine CC.out.mono ?_; rintro e w1 ⟨rfl, hb1⟩; have B1 : Hid (Below w.heap.size w w1) := below_next HB.out hb1; clear hb1)
      | (go_at_call 12; refine (AN.out _ _).mono ?_; rintro e w2 ⟨rfl, rfl⟩))
    go_ret2
    exact ⟨rfl, B1.out⟩
  | some ae =>
    obtain ⟨a, e⟩ := ae
    rw [hX] at CC
    simp only [errV] at CC
    simp only [chkV]
    have AH : Hid (∀ w1, Below (w.alloc (.cells #[.int .i64 0, .int .i64 0] 47)).heap.size (w.alloc (.cells #[.int .i64 0, .int .i64 0] 47)) w1 → Calls Tryz.prog 12 #[.iface 47 (.agg #[.int .i64 a, .int .i64 e]), .iface 53 (.pointer (some ⟨w.heap.size, 0, none⟩))] w1 fun ev w' => ev = .returned (.bool true) ∧ At w' w.heap.size #[.int .i64 a, .int .i64 e] 47 ∧ Below w.heap.size w w') := fun w1 hw1 => by
      have hw := below_next hb hw1
      have hn := At.new w #[.int .i64 0, .int .i64 0] 47
      refine (as_hit a e w.heap.size _ _ w1 (hE.below hw) (hn.below hw1 hn.lt)).mono ?_
      rintro ev w' ⟨rfl, h2, h3⟩
      exact ⟨rfl, h2, hw.trans (h3 w.heap.size (Nat.le_refl _) hw.size)⟩
    clear hX hb hT hS hE hi hf
    go_enter Tryz.func5, Tryz.ntmps5
    go_wp2_with (first
      | (go_at_call 13; refine CC.out.mono ?_; rintro e w1 ⟨rfl, hb1⟩; have B1 : Hid (Below (w.alloc (.cells #[.int .i64 0, .int .i64 0] 47)).heap.size (w.alloc (.cells #[.int .i64 0, .int .i64 0] 47)) w1) := hb1; clear hb1)
      | (go_at_call 12; refine (AH.out _ B1.out).mono ?_; rintro e w2 ⟨rfl, ha2, hb2⟩; have HA : Hid (At w2 w.heap.size #[.int .i64 a, .int .i64 e] 47) := ha2; have B2 : Hid (Below w.heap.size w w2) := hb2; have d0 : w2.cell? ⟨w.heap.size, 0, none⟩ = some (.int .i64 a) := (ha2.cell 0).trans rfl; have d1 : w2.cell? ⟨w.heap.size, 1, none⟩ = some (.int .i64 e) := (ha2.cell 1).trans rfl; have dz := ha2.lt; clear ha2 hb2))
    go_quiet (fail)
    go_wp2
    go_ret2
    exact ⟨rfl, by have z := B2.out; exact ⟨z.os, z.tape, z.output, z.size, z.block⟩⟩

end Go.Proofs.YtjdkoahbahecoaaGreatDoor
