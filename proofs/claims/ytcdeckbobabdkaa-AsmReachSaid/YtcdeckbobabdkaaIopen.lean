/-
  Proved: an instruction that can be read as data is five cells.
-/
import Derived.Test.YtcdeckbobabdkaaIdec
import Derived.SizedLaws
import Derived.OpenShut
set_option linter.unusedVariables false
set_option maxRecDepth 20000
namespace Go.Proofs.Ytcdeckbobabdkaa
open Go.RowKit Go.ChangeShapes Go.WideShapes

theorem cellsInt : Try.prog.cellsOf 3 = 1 := by kernel_rfl
theorem cellsStr : Try.prog.cellsOf 9 = 1 := by kernel_rfl
theorem cellsIns : Try.prog.cellsOf 28 = 5 := by kernel_rfl

/-- An instruction with its name. -/
structure InD where
  s : ByteArray
  i : Ins

def insC (y : InD) : List Value := [.string y.s, .int .i64 y.i.rd, .int .i64 y.i.r1, .int .i64 y.i.r2, .int .i64 y.i.im]
/-- It is one that can be handed in. -/
def InOk (y : InD) : Prop := y.s.size ≤ maxLen

/-- All that a datum weighs fits. -/
def Wgt {H : Type} (t : TypeId) (d : DataW H) : Prop := ∀ n ∈ d.weights Try.prog t, n ≤ reachBytes

section
variable {H : Type} {enc : TypeId × Value → H} {w : World} {spare : Nat → Bool} {held : Bool}

theorem open_In {fuel : Nat} {cs : List Value} {x : DataW H × List MemPlace} (h : DataW.trod enc Try.prog w 0 spare held fuel 28 cs = some x) (hR : Wgt 28 x.1) :
    ∃ y, cs = insC y ∧ InOk y := by
  obtain ⟨xs, n, rfl, hx, hl, hlen, hf⟩ := DataW.trod_struct Try.underlying28 h
  rw [cellsIns] at hl
  have hlen : xs.length = 5 := hlen
  match cs, hl with
  | [c0, c1, c2, c3, c4], _ =>
  match xs, hlen with
  | [y0, y1, y2, y3, y4], _ =>
  have f0 : DataW.trod enc Try.prog w 0 spare held n 9 (([c0, c1, c2, c3, c4].drop 0).take (Try.prog.cellsOf 9)) = some y0 := hf 0 _ rfl
  rw [cellsStr] at f0
  have f1 : DataW.trod enc Try.prog w 0 spare held n 3 (([c0, c1, c2, c3, c4].drop 1).take (Try.prog.cellsOf 3)) = some y1 := hf 1 _ rfl
  rw [cellsInt] at f1
  have f2 : DataW.trod enc Try.prog w 0 spare held n 3 (([c0, c1, c2, c3, c4].drop 2).take (Try.prog.cellsOf 3)) = some y2 := hf 2 _ rfl
  rw [cellsInt] at f2
  have f3 : DataW.trod enc Try.prog w 0 spare held n 3 (([c0, c1, c2, c3, c4].drop 3).take (Try.prog.cellsOf 3)) = some y3 := hf 3 _ rfl
  rw [cellsInt] at f3
  have f4 : DataW.trod enc Try.prog w 0 spare held n 3 (([c0, c1, c2, c3, c4].drop 4).take (Try.prog.cellsOf 3)) = some y4 := hf 4 _ rfl
  rw [cellsInt] at f4
  obtain ⟨a0, e0, z0⟩ := DataW.trod_string Try.underlying9 f0
  obtain ⟨a1, e1, z1⟩ := DataW.trod_int Try.underlying3 f1
  obtain ⟨a2, e2, z2⟩ := DataW.trod_int Try.underlying3 f2
  obtain ⟨a3, e3, z3⟩ := DataW.trod_int Try.underlying3 f3
  obtain ⟨a4, e4, z4⟩ := DataW.trod_int Try.underlying3 f4
  simp at e0 e1 e2 e3 e4
  subst e0 e1 e2 e3 e4
  exact ⟨⟨a0, ⟨a1, a2, a3, a4⟩⟩, rfl, z0.2⟩
end

/-- Encode, as a caller meets it. -/
def encV (o : Option Int) : Value := .tuple #[.int .u32 (o.getD 0), .bool o.isSome]
theorem enc_u (s : ByteArray) (rd r1 r2 im : Int) (hs : s.size ≤ maxLen) {o : Option Int} (ho : encF s.data.toList ⟨rd, r1, r2, im⟩ = o) : ∀ w, Calls Try.prog 36 #[.agg #[.string s, .int .i64 rd, .int .i64 r1, .int .i64 r2, .int .i64 im]] w fun e w' => e = .returned (encV o) ∧ Below w.heap.size w w' := fun w => by
  have h := encode_c s ⟨rd, r1, r2, im⟩ hs w
  rw [ho] at h
  exact h

/-- What is encoded is one word alone. -/
theorem encF_inj {s t : List UInt8} {i j : Ins} {w : Int} (h1 : encF s i = some w) (h2 : encF t j = some w) : s = t ∧ i = j := by
  unfold encF at h1 h2
  cases e1 : rowOf s with
  | none => rw [e1] at h1; cases h1
  | some r =>
    cases e2 : rowOf t with
    | none => rw [e2] at h2; cases h2
    | some q =>
      rw [e1] at h1
      rw [e2] at h2
      simp only at h1 h2
      obtain ⟨a, ha⟩ := rowOf_at e1
      obtain ⟨b, hb⟩ := rowOf_at e2
      cases t1 : takB r i with
      | false => rw [t1] at h1; cases h1
      | true =>
        cases t2 : takB q j with
        | false => rw [t2] at h2; cases h2
        | true =>
          rw [t1] at h1
          rw [t2] at h2
          have g1 : wo r i = w := by simpa using h1
          have g2 : wo q j = w := by simpa using h2
          obtain ⟨hab, hij⟩ := ins_same (x := (s, r)) (y := (t, q)) ha hb ((takB_iff (rok ha) i).1 t1) ((takB_iff (rok hb) j).1 t2) (g1.trans g2.symm)
          subst hab
          rw [ha] at hb
          have := Option.some.inj hb
          exact ⟨congrArg Prod.fst this, hij⟩

/-- What is encoded is decoded as it was. -/
theorem dec_enc {s : List UInt8} {i : Ins} {w : Int} (h : encF s i = some w) : (0 ≤ w ∧ w < 4294967296) ∧ decF w = some (s, i) := by
  unfold encF at h
  cases e : rowOf s with
  | none => rw [e] at h; cases h
  | some r =>
    rw [e] at h
    simp only at h
    obtain ⟨a, ha⟩ := rowOf_at e
    cases t : takB r i with
    | false => rw [t] at h; cases h
    | true =>
      rw [t] at h
      have g : wo r i = w := by simpa using h
      have F := (fitB_fit (insT_fits ha)).1
      have ht := (takB_iff (rok ha) i).1 t
      subst g
      have hx := (fxB_iff (rok ha) _).2 (fx_wo F ht)
      refine ⟨wo_in F ht, ?_⟩
      rw [decF_some ha hx, fo_wo F ht]

/-- A word that is decoded is encoded as it was. -/
theorem enc_dec {s : List UInt8} {i : Ins} {w : Int} (h0 : 0 ≤ w) (h1 : w < 4294967296) (h : decF w = some (s, i)) : encF s i = some w := by
  unfold decF at h
  cases e : insT.find? fun z => fxB z.2 w with
  | none => rw [e] at h; cases h
  | some y =>
    rw [e] at h
    have h2 := List.find?_some e
    obtain ⟨a, ha⟩ := List.getElem?_of_mem (List.mem_of_find?_eq_some e)
    have h3 : (y.1, fo y.2 w) = (s, i) := Option.some.inj h
    have q1 : y.1 = s := congrArg Prod.fst h3
    have q2 : fo y.2 w = i := congrArg Prod.snd h3
    subst q1 q2
    have F := (fitB_fit (insT_fits ha)).1
    obtain ⟨g1, g2⟩ := of_fx F h0 h1 ((fxB_iff (rok ha) w).1 h2)
    have hr : rowOf y.1 = some y.2 := rowOf_of (a := a) ha
    unfold encF
    rw [hr]
    simp only
    rw [(takB_iff (rok ha) _).2 g1, g2]
    rfl
end Go.Proofs.Ytcdeckbobabdkaa
