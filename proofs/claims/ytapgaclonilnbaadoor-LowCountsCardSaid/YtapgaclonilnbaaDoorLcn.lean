/-
  Proved: how the runs of LowCounts' functions go.
-/
import Derived.Test.YtapgaclonilnbaaDoorLk
namespace Go.Proofs.YtapgaclonilnbaaDoor
open Go.RowKit
set_option linter.unusedVariables false
set_option linter.unusedSimpArgs false

def lo (op d a b n : Int) (tx : ByteArray) : Lo := ⟨op, d, a, b, n, tx, [], []⟩
def cB0 (n m : Int) : List Lo := [lo 1 0 0 0 n tE, lo 1 1 0 0 m tE, lo 6 0 (-2) 1 4 tE]
def cB2 : List Lo := [lo 5 1 (-2) 0 4 tE, lo 3 1 1 0 0 tAdd, lo 6 0 (-2) 1 4 tE, lo 4 0 0 0 (-1) tAdd]
def cB3 (n m : Int) : List Lo := [lo 4 2 (-2) 0 4 tAdd, lo 5 2 2 0 0 tE, lo 8 0 2 0 0 tE, lo 1 0 0 0 n tE, lo 1 1 0 0 m tE, ⟨7, 0, 0, 0, 0, tDown, [0, 1], [2]⟩, lo 8 0 2 0 0 tE]
def cD1 : List Lo := [lo 3 0 0 2 0 tAdd, lo 4 2 2 0 (-1) tAdd, ⟨7, 0, 0, 0, 0, tDown, [2, 0], [1]⟩]
def countsF (n m : Int) : List Lf :=
  [⟨tMain, 3, [], 0, 2, false, [⟨cB0 n m, ⟨1, 0, 0, 1, 0, tE, []⟩⟩, ⟨[], ⟨2, 0, -1, 2, 3, tNe, []⟩⟩, ⟨cB2, ⟨1, 0, 0, 1, 0, tE, []⟩⟩, ⟨cB3 n m, ⟨3, 0, 0, 0, 0, tE, []⟩⟩]⟩,
   ⟨tDown, 3, [2, 0], 1, 0, false, [⟨[], ⟨2, -1, 2, 1, 2, tLt, []⟩⟩, ⟨cD1, ⟨3, 0, 0, 0, 0, tE, [1]⟩⟩, ⟨[], ⟨3, 0, 0, 0, 0, tE, [0]⟩⟩]⟩]

theorem counts_chk (n m : Int) : chk (countsF n m) = true := by kernel_rfl
theorem counts_main (n m : Int) : byN (countsF n m) [109, 97, 105, 110] = some 0 := by kernel_rfl

/-- In main: where, the registers, the second word of the frame, what was printed. -/
def mA (bk nx : Nat) (a b c v : Int) (out : List Int) : Mc := ⟨[], ⟨0, [a, b, c], [0, v], 1234567892, bk, nx⟩, fun _ _ => false, fun _ => 0, [], out, 1⟩

section
variable {n m a b c v : Int} {o : List Int}

theorem counts_begin : beginM (countsF n m) 0 [] = mA 0 0 0 0 0 0 [] := by kernel_rfl
theorem st00 : stepK (countsF n m) (mA 0 0 a b c v o) = .inl (mA 0 1 (wd n) b c v o) := by kernel_rfl
theorem st01 : stepK (countsF n m) (mA 0 1 a b c v o) = .inl (mA 0 2 a (wd m) c v o) := by kernel_rfl
theorem st02 : stepK (countsF n m) (mA 0 2 a b c v o) = .inl (mA 0 3 a b c b o) := by kernel_rfl
theorem st03 : stepK (countsF n m) (mA 0 3 a b c v o) = .inl (mA 1 0 a b c v o) := by kernel_rfl
theorem st10 : stepK (countsF n m) (mA 1 0 a b c v o) = .inl (mA (if !(a == 0) then 2 else 3 : Int).toNat 0 a b c v o) := by kernel_rfl
theorem st20 : stepK (countsF n m) (mA 2 0 a b c v o) = .inl (mA 2 1 a v c v o) := by kernel_rfl
theorem st21 : stepK (countsF n m) (mA 2 1 a b c v o) = .inl (mA 2 2 a (m_add b a) c v o) := by kernel_rfl
theorem st22 : stepK (countsF n m) (mA 2 2 a b c v o) = .inl (mA 2 3 a b c b o) := by kernel_rfl
theorem st23 : stepK (countsF n m) (mA 2 3 a b c v o) = .inl (mA 2 4 (m_add a (-1)) b c v o) := by kernel_rfl
theorem st24 : stepK (countsF n m) (mA 2 4 a b c v o) = .inl (mA 1 0 a b c v o) := by kernel_rfl
theorem st30 : stepK (countsF n m) (mA 3 0 a b c v o) = .inl (mA 3 1 a b 1234567896 v o) := by kernel_rfl
theorem st31 : stepK (countsF n m) (mA 3 1 a b 1234567896 v o) = .inl (mA 3 2 a b v v o) := by kernel_rfl
theorem st32 : stepK (countsF n m) (mA 3 2 a b c v o) = .inl (mA 3 3 a b c v (o ++ [c])) := by kernel_rfl
theorem st33 : stepK (countsF n m) (mA 3 3 a b c v o) = .inl (mA 3 4 (wd n) b c v o) := by kernel_rfl
theorem st34 : stepK (countsF n m) (mA 3 4 a b c v o) = .inl (mA 3 5 a (wd m) c v o) := by kernel_rfl
theorem st36 : stepK (countsF n m) (mA 3 6 a b c v o) = .inl (mA 3 7 a b c v (o ++ [c])) := by kernel_rfl
theorem st37 : stepK (countsF n m) (mA 3 7 a b c v o) = .inr (1, 0) := by kernel_rfl
end

theorem To.of {l : List Lf} {k j : Nat} {m m' : Mc} (h : To l k m m') (e : k = j) : To l j m m' := e ▸ h

/-- The sum of the numbers from k down, word by word. -/
def sumK : Int → Nat → Int
  | v, 0 => v
  | v, k + 1 => sumK (m_add v ((k + 1 : Nat) : Int)) k

theorem wd_wd (x y : Int) : wd (wd x + y) = wd (x + y) := by unfold wd; omega
theorem sumK_eq (x : Int) : ∀ k : Nat, k ≤ 1000 → ∀ v, v = wd x → sumK v k = wd (x + (((k * (k + 1) / 2 : Nat)) : Int))
  | 0, _, v, e => by rw [sumK, e]; simp
  | k + 1, h, v, e => by
    rw [sumK, e]
    have h1 : (k + 1) * (k + 1 + 1) = k * (k + 1) + 2 * (k + 1) := by rw [← Nat.add_mul, Nat.mul_comm]
    have h2 : (k + 1) * (k + 1 + 1) / 2 = k * (k + 1) / 2 + (k + 1) := by omega
    rw [sumK_eq (x + ((k + 1 : Nat) : Int)) k (by omega) _ (by unfold m_add; exact wd_wd _ _), h2]
    congr 1
    omega

theorem loop_to (n m c : Int) (o : List Int) : ∀ (k : Nat), k ≤ 1000 → ∀ b v, ∃ b', To (countsF n m) (6 * k + 1) (mA 1 0 k b c v o) (mA 3 0 0 b' c (sumK v k) o)
  | 0, _, b, v => ⟨b, To.one (st10 (a := 0))⟩
  | k + 1, h, b, v => by
    have e : m_add ((k + 1 : Nat) : Int) (-1) = (k : Int) := by unfold m_add wd; omega
    obtain ⟨b', ih⟩ := loop_to n m c o k (by omega) (m_add v ((k + 1 : Nat) : Int)) (m_add v ((k + 1 : Nat) : Int))
    refine ⟨b', ?_⟩
    rw [sumK]
    refine (To.step (st10 (a := ((k + 1 : Nat) : Int))) ?_ : To _ (6 * k + 1 + 1 + 1 + 1 + 1 + 1 + 1) _ _).of (by omega)
    have h0 : (if !(((k + 1 : Nat) : Int) == 0) then 2 else 3 : Int).toNat = 2 := by
      have : (((k + 1 : Nat) : Int) == 0) = false := by simp; omega
      rw [this]; rfl
    rw [h0]
    refine To.step st20 (To.step st21 (To.step st22 (To.step st23 (To.step st24 ?_))))
    rw [e]
    exact ih

/-- In down: the calls below, the registers, where. -/
def mD (bl : List Cl) (bk nx : Nat) (a b k ba : Int) (o : List Int) (ld : Int) : Mc := ⟨bl, ⟨1, [a, b, k], [], ba, bk, nx⟩, fun _ _ => false, fun _ => 0, [], o, ld⟩

/-- What a caller is behind a call that answered s. -/
def backC (l : List Lf) (c : Cl) (s : Int) : Cl := setsR c ((blkO l c).li.getD (c.nx - 1) noLo).dsts [s]
def mR (bl : List Cl) (c : Cl) (o : List Int) (ld : Int) : Mc := ⟨bl, c, fun _ _ => false, fun _ => 0, [], o, ld⟩

section
variable {n m a b k ba ld : Int} {o : List Int} {bl : List Cl} {c : Cl}
theorem sd0 : stepK (countsF n m) (mD bl 0 0 a b k ba o ld) = .inl (mD bl (if decide (0 < k) then 1 else 2 : Int).toNat 0 a b k ba o ld) := by kernel_rfl
theorem sd10 : stepK (countsF n m) (mD bl 1 0 a b k ba o ld) = .inl (mD bl 1 1 (m_add a k) b k ba o ld) := by kernel_rfl
theorem sd11 : stepK (countsF n m) (mD bl 1 1 a b k ba o ld) = .inl (mD bl 1 2 a b (m_add k (-1)) ba o ld) := by kernel_rfl
theorem sd12 : stepK (countsF n m) (mD bl 1 2 a b k ba o ld) = enterS (countsF n m) (mD bl 1 3 a b k ba o ld) 1 [k, a] := by kernel_rfl
theorem sd13 : stepK (countsF n m) (mD bl 1 3 a b k ba o ld) = (match leaveS (countsF n m) (mD bl 1 3 a b k ba o ld) [b] with | none => .inr (1, 0) | some m' => .inl m') := by kernel_rfl
theorem sd20 : stepK (countsF n m) (mD bl 2 0 a b k ba o ld) = (match leaveS (countsF n m) (mD bl 2 0 a b k ba o ld) [a] with | none => .inr (1, 0) | some m' => .inl m') := by kernel_rfl
theorem sm5 {v : Int} : stepK (countsF n m) (mA 3 5 a b k v o) = enterS (countsF n m) (mA 3 6 a b k v o) 1 [a, b] := by kernel_rfl

theorem enter_down (M : Mc) (x y : Int) (h1 : M.ld < 48) (h2 : M.cs.length < 392) : enterS (countsF n m) M 1 [x, y] = .inl ⟨M.cs, ⟨1, [y, 0, x], [], roomB M, 0, 0⟩, M.us, M.wo, M.ip, M.out, M.ld + 1⟩ := by
  unfold enterS
  have e : ¬ (((fnO (countsF n m) 1).qu = false ∧ 48 ≤ M.ld) ∨ 392 ≤ M.cs.length) := by
    rintro (⟨_, h⟩ | h) <;> omega
  rw [if_neg e]
  rfl

theorem leave_down (nw : Cl) (s : Int) (hf : nw.fn = 1) : leaveS (countsF n m) ⟨bl ++ [c], nw, fun _ _ => false, fun _ => 0, [], o, ld⟩ [s] = some (mR bl (backC (countsF n m) c s) o (ld - 1)) := by
  unfold leaveS
  simp only [hf, List.getLast?_append, List.getLast?_singleton, Option.some_or, List.dropLast_concat]
  kernel_rfl

theorem down_to (n m : Int) (o : List Int) : ∀ (k : Nat), k ≤ 1000 → ∀ (bl : List Cl) (c : Cl) (a b ba ld : Int), ld + k ≤ 48 → bl.length + 2 + k ≤ 392 →
    To (countsF n m) (5 * k + 2) (mD (bl ++ [c]) 0 0 a b k ba o ld) (mR bl (backC (countsF n m) c (sumK a k)) o (ld - 1))
  | 0, _, bl, c, a, b, ba, ld, h1, h2 => by
    refine (To.step sd0 ?_ : To _ (1 + 1) _ _)
    refine To.one ?_
    show stepK _ (mD (bl ++ [c]) 2 0 a b 0 ba o ld) = _
    rw [sd20]
    unfold mD
    rw [leave_down _ _ rfl]
    rfl
  | k + 1, h, bl, c, a, b, ba, ld, h1, h2 => by
    have e : m_add ((k + 1 : Nat) : Int) (-1) = (k : Int) := by unfold m_add wd; omega
    have h0 : (if decide (0 < ((k + 1 : Nat) : Int)) then 1 else 2 : Int).toNat = 1 := by
      rw [if_pos (by simp)]; rfl
    refine (To.step sd0 (m'' := _) (k := ((5 * k + 2) + 1) + 1 + 1 + 1) ?_).of (by omega)
    rw [h0]
    refine To.step sd10 (To.step sd11 ?_)
    rw [e]
    have he : stepK (countsF n m) (mD (bl ++ [c]) 1 2 (m_add a ((k + 1 : Nat) : Int)) b k ba o ld) = .inl (mD ((bl ++ [c]) ++ [⟨1, [m_add a ((k + 1 : Nat) : Int), b, k], [], ba, 1, 3⟩]) 0 0 (m_add a ((k + 1 : Nat) : Int)) 0 k (roomB (mD (bl ++ [c]) 1 3 (m_add a ((k + 1 : Nat) : Int)) b k ba o ld)) o (ld + 1)) := by
      rw [sd12, enter_down _ _ _ (by show ld < 48; omega) (by simp [Mc.cs, mD]; omega)]
      rfl
    refine To.step he ?_
    refine To.trans (a := 5 * k + 2) (b := 1) (down_to n m o k (by omega) (bl ++ [c]) _ _ 0 _ (ld + 1) (by omega) (by simp; omega)) ?_
    have hb : mR (bl ++ [c]) (backC (countsF n m) ⟨1, [m_add a ((k + 1 : Nat) : Int), b, k], [], ba, 1, 3⟩ (sumK (m_add a ((k + 1 : Nat) : Int)) k)) o (ld + 1 - 1) = mD (bl ++ [c]) 1 3 (m_add a ((k + 1 : Nat) : Int)) (sumK a (k + 1)) k ba o ld := by
      rw [show ld + 1 - 1 = ld by omega]
      kernel_rfl
    rw [hb]
    refine To.one ?_
    rw [sd13]
    unfold mD
    rw [leave_down _ _ rfl]
end

theorem counts_go (k : Nat) (hk : k ≤ 31) (m : Int) : goS (countsF k m) 10000 (beginM (countsF k m) 0 []) = ((1, 0), [wd (m + ((k * (k + 1) / 2 : Nat) : Int)), wd (m + ((k * (k + 1) / 2 : Nat) : Int))], 11 * k + 15) := by
  rw [← goK_eq, counts_begin]
  have wk : wd (k : Int) = k := wd_of _ (by omega)
  obtain ⟨b', hl⟩ := loop_to k m 0 [] k (by omega) (wd m) (wd m)
  have T1 : To (countsF k m) (6 * k + 1 + 1 + 1 + 1 + 1) (mA 0 0 0 0 0 0 []) (mA 3 0 0 b' 0 (sumK (wd m) k) []) := by
    refine To.step st00 (To.step st01 (To.step st02 (To.step st03 ?_)))
    rw [wk]
    exact hl
  rw [sumK_eq m k (by omega) _ rfl] at T1
  generalize hs : wd (m + ((k * (k + 1) / 2 : Nat) : Int)) = s at *
  have T2 : To (countsF k m) (1 + 1 + 1 + 1 + 1) (mA 3 0 0 b' 0 s []) (mA 3 5 k (wd m) s s [s]) := by
    refine To.step st30 (To.step st31 (To.step st32 (To.step st33 (To.one ?_))))
    rw [wk]
    exact st34
  have he : stepK (countsF k m) (mA 3 5 k (wd m) s s [s]) = .inl (mD ([] ++ [⟨0, [(k : Int), wd m, s], [0, s], 1234567892, 3, 6⟩]) 0 0 (wd m) 0 k (roomB (mA 3 6 k (wd m) s s [s])) [s] 2) := by
    rw [sm5, enter_down _ _ _ (by show (1 : Int) < 48; omega) (by show 1 < 392; omega)]
    rfl
  have T3 := (To.one he).trans (down_to k m [s] k (by omega) [] ⟨0, [(k : Int), wd m, s], [0, s], 1234567892, 3, 6⟩ (wd m) 0 (roomB (mA 3 6 k (wd m) s s [s])) 2 (by omega) (by simp; omega))
  rw [sumK_eq m k (by omega) _ rfl, hs] at T3
  have hb : mR [] (backC (countsF k m) ⟨0, [(k : Int), wd m, s], [0, s], 1234567892, 3, 6⟩ s) [s] (2 - 1) = mA 3 6 k (wd m) s s [s] := by kernel_rfl
  rw [hb] at T3
  have T4 : To (countsF k m) 1 (mA 3 6 k (wd m) s s [s]) (mA 3 7 k (wd m) s s [s, s]) := To.one st36
  have T := ((T1.trans T2).trans T3).trans T4
  have := T (10000 - (11 * k + 14))
  rw [show 10000 - (11 * k + 14) + (6 * k + 1 + 1 + 1 + 1 + 1 + (1 + 1 + 1 + 1 + 1) + (1 + (5 * k + 2)) + 1) = 10000 by omega] at this
  rw [this, show 10000 - (11 * k + 14) = (10000 - (11 * k + 15)) + 1 by omega, goK_inr st37]
  unfold shK mA
  simp
  omega
end Go.Proofs.YtapgaclonilnbaaDoor
