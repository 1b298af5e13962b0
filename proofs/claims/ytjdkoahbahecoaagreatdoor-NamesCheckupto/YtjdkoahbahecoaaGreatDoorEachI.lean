/-
  Proved: each asks of every item of a program, till something is wrong.
-/
import Derived.Test.YtjdkoahbahecoaaGreatDoorEach
namespace Go.Proofs.YtjdkoahbahecoaaGreatDoor
open Go.RowKit

/-- A store of an item, as a whole. -/
def stI (p v : Value) : Sem Unit := Instr.storeAt 43 p v
theorem foldS (p v : Value) : Instr.storeAt 43 p v = stI p v := rfl
attribute [local go_sem ↓] fold38 foldS

theorem at_setCells {w : World} {B : Nat} {cs : Array Value} {t : TypeId} (h : At w B cs t) : ∀ (vs : List Value) (o : Nat), ∃ ds, ds.size = cs.size ∧ At (w.setCells B o vs) B ds t := by
  intro vs
  induction vs generalizing w cs with
  | nil => intro o; exact ⟨cs, rfl, h⟩
  | cons v vs ih =>
    intro o
    obtain ⟨ds, h1, h2⟩ := ih (h.set (j := o) v) (o + 1)
    exact ⟨ds, by rw [h1]; simp, h2⟩

theorem below_setCells {n : Nat} {w W : World} (h : Below n w W) {B : Nat} (hB : n ≤ B) : ∀ (vs : List Value) (o : Nat), Below n w (W.setCells B o vs) := by
  intro vs
  induction vs generalizing W with
  | nil => intro o; exact h
  | cons v vs ih => intro o; exact ih (h.setCell (p := ⟨B, o, none⟩) hB v) (o + 1)

/-- The cells of an item, whatever they hold: each is one. -/
def Cells20 (cs : List Value) : Prop := cs.length = 20 ∧ ∀ u ∈ cs, u.oneCell' = true

theorem icells_20 (k : Int) (s : ByteArray) (P : Option Addr) (pl pc : Nat) (V : Option Addr) (vl vc : Nat) (r : Rst) : Cells20 (icells k s P pl pc V vl vc r) := by
  refine ⟨rfl, fun u hu => ?_⟩
  simp only [icells, List.mem_cons, List.not_mem_nil, or_false] at hu
  rcases hu with rfl | rfl | rfl | rfl | rfl | rfl | rfl | rfl | rfl | rfl | rfl | rfl | rfl | rfl | rfl | rfl | rfl | rfl | rfl | rfl <;> rfl

theorem load20 {w' : World} {b q : Nat} {cs : List Value} (hc : Cells20 cs) (h : RowAt w' b q cs) :
    (ldI (.pointer (some ⟨b, q, none⟩))).run Tryz.prog w' = .ok (.agg cs.toArray) w' :=
  run_loadAt_mid w' b q 43 cs _ h.2 Tryz.underlying43 rfl (by rw [size38, hc.1])

theorem at_row {w' : World} {B : Nat} {cs : List Value} {t : TypeId} (h : At w' B cs.toArray t) : RowAt w' B 0 cs := ⟨h.lt, fun j v hj => by rw [Nat.zero_add, h.cell]; simpa using hj⟩

theorem loadBox {w' : World} {B : Nat} {cs : List Value} (hc : Cells20 cs) (h : At w' B cs.toArray 43) :
    (ldI (.pointer (some ⟨B, 0, none⟩))).run Tryz.prog w' = .ok (.agg cs.toArray) w' := load20 hc (at_row h)

/-- Behind the store the item lies there. -/
theorem store20 {w1 : World} {B : Nat} {ds : Array Value} {cs : List Value} (h : At w1 B ds 43) (hd : ds.size = 20) (hc : Cells20 cs) :
    ∃ W2, (stI (.pointer (some ⟨B, 0, none⟩)) (.agg cs.toArray)).run Tryz.prog w1 = .ok () W2 ∧ At W2 B cs.toArray 43 ∧ ∀ n w0, Below n w0 w1 → n ≤ B → Below n w0 W2 := by
  have th : w1.there B 0 20 := fun j hj => ⟨by rw [show 0 + j = j by omega, h.cell j, Array.getElem?_eq_getElem (by omega)]; rfl, h.frozen _⟩
  have th' : w1.there B 0 cs.toArray.size := by rw [List.size_toArray, hc.1]; exact th
  have th2 : w1.there B 0 cs.length := by rw [hc.1]; exact th
  refine ⟨_, run_storeAt_mid w1 B 0 43 cs.toArray th' (by rw [size38, List.size_toArray, hc.1]) (all_oneCell_toArray hc.2), ?_, fun n w0 hb hn => below_setCells hb hn _ _⟩
  obtain ⟨es, e1, e2⟩ := at_setCells h cs 0
  have hr := World.rangeAt_setCells_same w1 B 0 cs th2
  have : es = cs.toArray := by
    apply Array.ext_getElem?
    intro j
    by_cases hj : j < cs.length
    · have h1 := hr j _ (List.getElem?_eq_getElem hj)
      rw [Nat.zero_add, e2.cell j] at h1
      rw [h1]
      simp [hj]
    · rw [Array.getElem?_eq_none (by rw [e1, hd, ← hc.1]; omega), Array.getElem?_eq_none (by simp; omega)]
  rw [this] at e2
  exact e2

/-- What an item's rest is at first. -/
def zr : Rst := ⟨0, 0, ⟨#[]⟩, 0, none, 0, 0, 0, 0, 0, 0, ⟨#[]⟩, none, 0, 0, none, 0, 0, 0, ⟨#[]⟩, 0, none, 0, 0⟩

set_option maxRecDepth 100000 in
set_option maxHeartbeats 2000000 in
theorem eachItem_c (f : Fv) (eg : ∀ args w, (callFunc f.g args).run Tryz.prog w = .ok (.enter f.g args) w) (n : Nat) (hl : n ≤ 9223372036854775807) (ecs : Nat → List Value) (A : Option Addr) (b o C : Nat) (hA : 0 < n → A = some ⟨b, o, none⟩) (hsh : ∀ k, k < n → Cells20 (ecs k)) (R : Nat → Option (Int × Int)) (I : Nat → World → Prop) (K : World → Prop) (w : World)
    (hrow : ∀ k wr, I k wr → k < n → RowAt wr b (o + k * 20) (ecs k)) (hK : ∀ k wr, I k wr → K wr)
    (hstep : ∀ k wr, k < n → I k wr → ∀ wb, Below wr.heap.size wr wb → Calls Tryz.prog f.g (f.bnd ++ #[.agg (ecs k).toArray] ++ f.cap) wb fun e w' => e = .returned (errV (R k)) ∧ K w' ∧ (R k = none → I (k + 1) w')) (h0 : I 0 w) :
    Calls Tryz.prog 30 #[.slice A n C, f.v] w fun e w' => e = .returned (errV (fo R 0 n)) ∧ K w' ∧ (fo R 0 n = none → I n w') := by
  generalize hX : fo R 0 n = X
  have HX : Hid (fo R 0 (n - 0) = X) := hX
  have HROW : Hid (∀ k wr, I k wr → k < n → RowAt wr b (o + k * 20) (ecs k)) := hrow
  have HK : Hid (∀ k wr, I k wr → K wr) := hK
  obtain ⟨g, bnd, cap⟩ := f
  simp only at eg hstep
  have HS : Hid (∀ k wr, k < n → I k wr → ∀ wb, Below wr.heap.size wr wb → Calls Tryz.prog g (bnd ++ #[.agg (ecs k).toArray] ++ cap) wb fun e w' => e = .returned (errV (R k)) ∧ K w' ∧ (R k = none → I (k + 1) w')) := hstep
  have H0 : Hid (I 0 w) := h0
  have HSH : Hid (∀ k, k < n → Cells20 (ecs k)) := hsh
  clear hX hrow hK hstep h0 hsh
  unfold Fv.v
  go_enter Tryz.func30, Tryz.ntmps30
  go_wp2
  go_loopw [10] (fun i wr => ∃ k : Nat, k ≤ n ∧ i = .int .i64 (k : Int) ∧ fo R k (n - k) = X ∧ I k wr) (fun i _ => n - (intOf i).toNat)
  case atStart => exact ⟨0, Nat.zero_le _, rfl, HX.out, H0.out⟩
  case round =>
    obtain ⟨k, hk, rfl, hr, hi⟩ := hrel
    have HR : Hid (fo R k (n - k) = X) := hr
    have HI : Hid (I k wr) := hi
    clear hr hi
    by_cases hlt : k < n
    · have hA' := hA (by omega)
      subst hA'
      have hrw := HROW.out k wr HI.out hlt
      have hc20 := HSH.out k hlt
      have SC := HS.out k wr hlt HI.out
      have ld := load20 hc20 hrw
      obtain ⟨W2, st, at2, bl2⟩ := store20 (At.new wr (icells 0 ⟨#[]⟩ none 0 0 none 0 0 zr).toArray 43) rfl hc20
      have ld2 := loadBox hc20 at2
      have B2 : Below wr.heap.size wr W2 := bl2 _ _ (below_alloc _ _) (Nat.le_refl _)
      have SCC := SC W2 B2
      simp only [icells, zr] at st
      have hfs := fo_step (R := R) hlt
      generalize R k = rk at SC hfs SCC
      generalize (Value.agg (ecs k).toArray) = VI at ld st ld2 SCC
      have SCH : Hid (Calls Tryz.prog g (bnd ++ #[VI] ++ cap) W2 fun e w' => e = .returned (errV rk) ∧ K w' ∧ (rk = none → I (k + 1) w')) := SCC
      have HF : Hid (fo R k (n - k) = rk.or (fo R (k + 1) (n - (k + 1)))) := hfs
      have hlt' : (k : Int) < (n : Int) := by omega
      clear SC hfs hrw SCC at2 bl2 hc20 B2
      cases rk with
      | none =>
        simp only [errV] at SCH
        go_wp2
        refine SCH.out.mono ?_
        rintro e w1 ⟨rfl, hk1, hi1⟩
        have HI1 : Hid (I (k + 1) w1) := hi1 (by trivial)
        clear hi1 hk1
        go_wp2
        go_roundw
        case rel => exact ⟨k + 1, by omega, by go_num, by rw [← HR.out, HF.out]; rfl, HI1.out⟩
        case measure => simp [intOf]; omega
      | some ae =>
        obtain ⟨a', e'⟩ := ae
        simp only [errV] at SCH
        go_wp2
        refine SCH.out.mono ?_
        rintro e w1 ⟨rfl, hk1, hi1⟩
        have HK1 : Hid (K w1) := hk1
        clear hi1 hk1
        go_wp2
        go_ret
        have hx : X = some (a', e') := by rw [← HR.out, HF.out]; rfl
        subst hx
        exact ⟨rfl, HK1.out, fun h => by cases h⟩
    · go_wp2
      go_ret
      obtain rfl : k = n := by omega
      have hx : X = none := by rw [← HR.out, Nat.sub_self, fo]
      subst hx
      exact ⟨rfl, HK.out _ _ HI.out, fun _ => HI.out⟩

end Go.Proofs.YtjdkoahbahecoaaGreatDoor
