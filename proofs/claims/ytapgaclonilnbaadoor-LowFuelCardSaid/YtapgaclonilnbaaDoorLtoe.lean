/-
  Proved: what toTheEnd does where there is no main.
-/
import Derived.Test.YtapgaclonilnbaaDoorLrun
import Derived.Test.YtapgaclonilnbaaDoorLrec
namespace Go.Proofs.YtapgaclonilnbaaDoor
open Go.RowKit
set_option linter.unusedVariables false
set_option linter.unusedSimpArgs false

section
variable {X : Cx} {z : Mh} {nv : Value} {st : Int} {L : Ly} {w w' : World} {ip : List Int}

def mainT : ByteArray := { data := #[109, 97, 105, 110] }

/-- The box of the answer, beside the machine. -/
theorem MX.box (h : MX X z nv st L w) {w0 : World} (e2 : X.xo = (w0.alloc (.cells #[.int .i64 0, .int .i64 0] 48)).heap[w0.heap.size]?) : At w X.xb #[.int .i64 0, .int .i64 0] 48 := by
  exact (h.mp.2.1.trans e2).trans (At.new w0 #[.int .i64 0, .int .i64 0] 48)

theorem toe_caught (h : MX X z nv st L w) (hb : At w X.xb #[.int .i64 0, .int .i64 0] 48) (k c : Int) :
    CallsD Tryd.prog 16 #[.pointer (some ⟨X.xb, 0, none⟩)] (.panicking [{ v := endV k c, recovered := false }]) w fun e u' w' =>
      e = .returned (.tuple #[]) ∧ u' = .panicking [{ v := endV k c, recovered := true }] ∧ w'.cell? ⟨X.xb, 0, none⟩ = some (.int .i64 k) ∧ w'.cell? ⟨X.xb, 1, none⟩ = some (.int .i64 c) ∧ EndR X z.out st w' := by
  refine (catch_on X.xb k c 0 0 [] w (by rw [hb.cell]; rfl) (by rw [hb.cell]; rfl) (hb.frozen 0) (hb.frozen 1)).mono ?_
  rintro e u' w'' ⟨rfl, rfl, rfl⟩
  have b2 := (hb.set (j := 0) (.int .i64 k)).set (j := 1) (.int .i64 c)
  exact ⟨rfl, rfl, by rw [b2.cell]; rfl, by rw [b2.cell]; rfl, h.ended2 _ _ 0 1⟩

set_option maxRecDepth 20000 in
set_option maxHeartbeats 2000000 in
theorem toe_none (h : MX X ⟨[], fun _ _ => false, fun _ => 0, ip, [], 0⟩ (.pointer none) 0 L w) (hb : byN X.l [109, 97, 105, 110] = none) :
    Calls Tryd.prog 11 #[.pointer (some ⟨X.R, 0, none⟩)] w fun e w' => e = .returned (.agg #[.int .i64 5, .int .i64 0]) ∧ EndR X [] 0 w' := by
  have hmf : ∀ (fn : Fn) (first cap : Array Value) (w : World), (Instr.makeFunc fn first cap).run Tryd.prog w = .ok (.func fn first cap) w := fun _ _ _ _ => rfl
  have HX := h.boxed rfl (.cells #[.int .i64 0, .int .i64 0] 48)
  have AB := HX.box rfl
  have c1 : (w.alloc (.cells #[.int .i64 0, .int .i64 0] 48)).cell? ⟨X.R, 1, none⟩ = some (.map (some X.mb)) := HX.rr.cell 1 (by omega)
  have ML : ∀ {w' : World}, MapS w' X.mb X.mn (byN X.l) → (Instr.lookup 50 (.map (some X.mb)) (.string mainT) true).run Tryd.prog w' = .ok (.tuple #[.int .i64 0, .bool false]) w' := fun hm => by
    have := hm.look2 (x := mainT) (by decide)
    rw [this]
    have e : byN X.l mainT.data.toList = none := hb
    rw [e]
    rfl
  have HM := ML HX.mp.1
  unfold mainT at HM
  have HT := fun w => stop_c 5 0 w
  clear ML
  go_enter_defers Tryd.func11, Tryd.ntmps11
  go_wp2_with (go_at_call 17; refine (HT _).mono ?_; rintro e w3 ⟨rfl, hw⟩; rw [hw]; clear hw w3)
  refine leaves_cons (f := 16) (args := #[.pointer (some ⟨w.heap.size, 0, none⟩)]) (by simp) (by simp [go_sem]) ?_
  refine (toe_caught HX AB 5 0).mono ?_
  rintro e u' w'' ⟨rfl, rfl, d0, d1, EE⟩
  dsimp only at d0 d1
  simp [Leaves, settle, results, Tryd.results11, go_sem, d0, d1]
  exact EE
end
end Go.Proofs.YtapgaclonilnbaaDoor
