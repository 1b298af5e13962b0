/-
  Proved: low's machine, in a form that the kernel runs.
-/
import Derived.Test.YtapgaclonilnbaaDoorGd
namespace Go.Proofs.YtapgaclonilnbaaDoor
open Go.RowKit
set_option linter.unusedVariables false
set_option linter.unusedSimpArgs false

def tAdd : ByteArray := { data := #[97, 100, 100] }
def tEq : ByteArray := { data := #[101, 113] }
def tNe : ByteArray := { data := #[110, 101] }
def tLt : ByteArray := { data := #[108, 116] }
def tMain : ByteArray := { data := #[109, 97, 105, 110] }
def tDown : ByteArray := { data := #[100, 111, 119, 110] }
def tG : ByteArray := { data := #[103] }
def tE : ByteArray := { data := #[] }
def dovK (op : ByteArray) (a b : Int) : Int := if op.data.toList = [97, 100, 100] then m_add a b else dov op a b
def cmpvK (s : ByteArray) (a b : Int) : Bool :=
  if s.data.toList = [101, 113] then a == b
  else if s.data.toList = [110, 101] then !(a == b)
  else if s.data.toList = [108, 116] then decide (a < b)
  else cmpv s a b
theorem dovK_eq (op : ByteArray) (a b : Int) : dovK op a b = dov op a b := by
  unfold dovK
  by_cases h : op.data.toList = [97, 100, 100]
  · rw [if_pos h]; unfold dov; rw [if_pos (by rw [ByteArray.toList_eq]; exact h)]
  · rw [if_neg h]
theorem cmpvK_eq (s : ByteArray) (a b : Int) : cmpvK s a b = cmpv s a b := by
  unfold cmpvK
  by_cases h1 : s.data.toList = [101, 113]
  · rw [if_pos h1]; unfold cmpv; rw [if_pos (by rw [ByteArray.toList_eq]; exact h1)]; simp
  rw [if_neg h1]
  by_cases h2 : s.data.toList = [110, 101]
  · rw [if_pos h2]; unfold cmpv; rw [if_neg (by rw [ByteArray.toList_eq]; exact h1), if_pos (by rw [ByteArray.toList_eq]; exact h2)]; cases (a == b) <;> rfl
  rw [if_neg h2]
  by_cases h3 : s.data.toList = [108, 116]
  · rw [if_pos h3]; unfold cmpv; rw [if_neg (by rw [ByteArray.toList_eq]; exact h1), if_neg (by rw [ByteArray.toList_eq]; exact h2), if_pos (by rw [ByteArray.toList_eq]; exact h3)]; simp
  rw [if_neg h3]
def instrK (l : List Lf) (m : Mc) (x : Lo) : Sx :=
  if x.op = 3 then .inl (setN m x.d (dovK x.tx (cw m.nw x.a) (cw m.nw x.b)))
  else if x.op = 4 then .inl (setN m x.d (dovK x.tx (cw m.nw x.a) (wd x.n)))
  else instrS l m x
def termK (l : List Lf) (m : Mc) (t : Le) : Sx :=
  if t.k = 2 then .inl { m with nw := goC m.nw (if cmpvK t.tx (cw m.nw t.a) (cw m.nw t.b) then t.to else t.el) }
  else termS l m t
def stepK (l : List Lf) (m : Mc) : Sx :=
  if (blkO l m.nw).li.length ≤ m.nw.nx then termK l m (blkO l m.nw).tm
  else instrK l { m with nw := { m.nw with nx := m.nw.nx + 1 } } ((blkO l m.nw).li.getD m.nw.nx noLo)
theorem instrK_eq (l : List Lf) (m : Mc) (x : Lo) : instrK l m x = instrS l m x := by
  unfold instrK
  by_cases h3 : x.op = 3
  · rw [if_pos h3, dovK_eq]; unfold instrS; simp [h3]
  rw [if_neg h3]
  by_cases h4 : x.op = 4
  · rw [if_pos h4, dovK_eq]; unfold instrS; simp [h4]
  rw [if_neg h4]
theorem termK_eq (l : List Lf) (m : Mc) (t : Le) : termK l m t = termS l m t := by
  unfold termK
  by_cases h : t.k = 2
  · rw [if_pos h, cmpvK_eq]; unfold termS; simp [h]
  rw [if_neg h]
theorem stepK_eq (l : List Lf) (m : Mc) : stepK l m = stepS l m := by unfold stepK stepS; rw [termK_eq, instrK_eq]
def goK (l : List Lf) : Nat → Mc → (Int × Int) × List Int × Nat
  | 0, m => ((0, 0), m.out, 0)
  | n + 1, m => match stepK l m with
    | .inr e => (e, m.out, 1)
    | .inl m' => ((goK l n m').1, (goK l n m').2.1, (goK l n m').2.2 + 1)
theorem goK_eq (l : List Lf) : ∀ (n : Nat) (m : Mc), goK l n m = goS l n m
  | 0, m => rfl
  | n + 1, m => by
    unfold goK goS
    rw [stepK_eq]
    cases stepS l m with
    | inr e => rfl
    | inl m' => simp only [goK_eq l n m']

/-- So many steps more. -/
def shK (k : Nat) (r : (Int × Int) × List Int × Nat) : (Int × Int) × List Int × Nat := (r.1, r.2.1, r.2.2 + k)
theorem shK_shK (a b : Nat) (r : (Int × Int) × List Int × Nat) : shK a (shK b r) = shK (b + a) r := by unfold shK; simp [Nat.add_assoc]
theorem goK_inl {l : List Lf} {n : Nat} {m m' : Mc} (hr : stepK l m = .inl m') : goK l (n + 1) m = shK 1 (goK l n m') := by
  rw [goK, hr]; rfl
theorem goK_inr {l : List Lf} {n : Nat} {m : Mc} {k : Int × Int} (hr : stepK l m = .inr k) : goK l (n + 1) m = (k, m.out, 1) := by
  rw [goK, hr]

/-- So many steps lead from one machine to another one. -/
def To (l : List Lf) (k : Nat) (m m' : Mc) : Prop := ∀ f, goK l (f + k) m = shK k (goK l f m')
theorem To.zero (l : List Lf) (m : Mc) : To l 0 m m := fun f => rfl
theorem To.one {l : List Lf} {m m' : Mc} (h : stepK l m = .inl m') : To l 1 m m' := fun f => goK_inl h
theorem To.trans {l : List Lf} {a b : Nat} {m m' m'' : Mc} (h : To l a m m') (k : To l b m' m'') : To l (a + b) m m'' := fun f => by
  rw [show f + (a + b) = (f + b) + a by omega, h, k, shK_shK, Nat.add_comm b a]
theorem To.step {l : List Lf} {k : Nat} {m m' m'' : Mc} (h : stepK l m = .inl m') (k1 : To l k m' m'') : To l (k + 1) m m'' := by
  rw [Nat.add_comm]; exact (To.one h).trans k1
end Go.Proofs.YtapgaclonilnbaaDoor
