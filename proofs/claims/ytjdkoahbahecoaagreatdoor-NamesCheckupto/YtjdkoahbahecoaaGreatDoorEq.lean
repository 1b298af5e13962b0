/-
  Proved: what a comparison of two amounts answers; plain facts on how much types have.
-/
import Derived.Test.YtjdkoahbahecoaaGreatDoorIter
import Derived.Laws.StructEq
namespace Go.Proofs.YtjdkoahbahecoaaGreatDoor
open Go.RowKit

theorem ag3 (w : World) : (isAgg 3).run Tryz.prog w = .ok false w := by kernel_rfl

theorem eq_none (w : World) : (binOp .eql 113 (.agg #[.int .i64 513, .int .i64 0, .int .i64 0]) (.agg #[.int .i64 513, .int .i64 0, .int .i64 0])).run Tryz.prog w = .ok (.bool true) w := by
  have h3 := Tryz.underlying3
  have a3 := ag3
  rw [run_eql_struct, run_equalIn_struct w 9999 113 _ _ (by kernel_rfl) (by kernel_rfl)]
  simp [Program.fieldsOf, Tryz.underlying113, go_sem, h3, a3, part, Result.andThen]

theorem eq_some (p n m : Nat) (h : p ≤ 512) (w : World) : (binOp .eql 113 (.agg #[.int .i64 (p : Int), .int .i64 (n : Int), .int .i64 (m : Int)]) (.agg #[.int .i64 513, .int .i64 0, .int .i64 0])).run Tryz.prog w = .ok (.bool false) w := by
  have h3 := Tryz.underlying3
  have a3 := ag3
  have hp : ¬ (p : Int) = 513 := by omega
  rw [run_eql_struct, run_equalIn_struct w 9999 113 _ _ (by kernel_rfl) (by kernel_rfl)]
  simp [Program.fieldsOf, Tryz.underlying113, go_sem, h3, a3, part, Result.andThen, hp]

theorem neq_none (w : World) : (binOp .neq 113 (.agg #[.int .i64 513, .int .i64 0, .int .i64 0]) (.agg #[.int .i64 513, .int .i64 0, .int .i64 0])).run Tryz.prog w = .ok (.bool false) w := by
  have h3 := Tryz.underlying3
  have a3 := ag3
  rw [run_neq_struct, run_equalIn_struct w 9999 113 _ _ (by kernel_rfl) (by kernel_rfl)]
  simp [Program.fieldsOf, Tryz.underlying113, go_sem, h3, a3, part, Result.andThen]

theorem neq_some (p n m : Nat) (h : p ≤ 512) (w : World) : (binOp .neq 113 (.agg #[.int .i64 (p : Int), .int .i64 (n : Int), .int .i64 (m : Int)]) (.agg #[.int .i64 513, .int .i64 0, .int .i64 0])).run Tryz.prog w = .ok (.bool true) w := by
  have h3 := Tryz.underlying3
  have a3 := ag3
  have hp : ¬ (p : Int) = 513 := by omega
  rw [run_neq_struct, run_equalIn_struct w 9999 113 _ _ (by kernel_rfl) (by kernel_rfl)]
  simp [Program.fieldsOf, Tryz.underlying113, go_sem, h3, a3, part, Result.andThen, hp]

/-- What is told of a type is no more than the room, and has no more words, and parts that are moved, than parts. -/
def Fine (f : T → Nat → Option Am) : Prop := ∀ t r o, f t r = some o → 1 ≤ o.p ∧ o.p ≤ r ∧ o.w ≤ o.p ∧ o.m ≤ o.p

theorem tog_ok {f : T → Nat → Option Am} (hf : Fine f) {room : Nat} : ∀ {ts : List T} {a b : Am}, tog f room a ts = some b → a.p ≤ room → a.p ≤ b.p ∧ b.p ≤ room ∧ b.w ≤ a.w + (b.p - a.p) ∧ b.m ≤ a.m + (b.p - a.p)
  | [], a, b, h, ha => by cases h; omega
  | t :: ts, a, b, h, ha => by
    rw [tog] at h
    cases ho : f t (room - a.p) with
    | none => rw [ho] at h; cases h
    | some o =>
      rw [ho] at h
      obtain ⟨h1, h2, h3, h4⟩ := hf _ _ _ ho
      have := tog_ok hf h (by show a.p + o.p ≤ room; omega)
      simp only at this
      omega

theorem tog_snoc (f : T → Nat → Option Am) (room : Nat) (t : T) : ∀ (ts : List T) (a : Am), tog f room a (ts ++ [t]) = (tog f room a ts).bind fun b => (f t (room - b.p)).map fun o => ⟨b.p + o.p, b.w + o.w, b.m + o.m⟩
  | [], a => by
    simp only [List.nil_append, tog, Option.bind_some]
    cases f t (room - a.p) <;> rfl
  | x :: ts, a => by
    simp only [List.cons_append, tog]
    cases f x (room - a.p) with
    | none => rfl
    | some o => exact tog_snoc f room t ts _

theorem tog_append (f : T → Nat → Option Am) (room : Nat) (us : List T) : ∀ (ts : List T) (a : Am), tog f room a (ts ++ us) = (tog f room a ts).bind fun b => tog f room b us
  | [], a => rfl
  | x :: ts, a => by
    simp only [List.cons_append, tog]
    cases f x (room - a.p) with
    | none => rfl
    | some o => exact tog_append f room us ts _

theorem tog_prefix {f : T → Nat → Option Am} {room : Nat} {a : Am} {ts us : List T} (h : ts <+: us) (hn : tog f room a ts = none) : tog f room a us = none := by
  obtain ⟨vs, rfl⟩ := h
  rw [tog_append, hn]
  rfl

theorem vars_ok {f : T → Nat → Option Am} (hf : Fine f) {room : Nat} : ∀ {l : List (List T)} {a b : Am}, vars f room a l = some b → a.p ≤ room → 1 ≤ a.p → a.w + 1 ≤ a.p → a.m + 1 ≤ a.p → a.p ≤ b.p ∧ b.p ≤ room ∧ b.w + 1 ≤ b.p ∧ b.m + 1 ≤ b.p
  | [], a, b, h, _, _, _, _ => by cases h; omega
  | ts :: l, a, b, h, h1, h2, h3, h4 => by
    rw [vars] at h
    cases ho : tog f room ⟨a.p, 0, a.m⟩ ts with
    | none => rw [ho] at h; cases h
    | some o =>
      rw [ho] at h
      have h5 := tog_ok hf ho h1
      simp only at h5
      have := vars_ok hf h (by show o.p ≤ room; omega) (by show 1 ≤ o.p; omega) (by show max a.w o.w + 1 ≤ o.p; omega) (by show o.m + 1 ≤ o.p; omega)
      simp only at this
      omega

theorem am_succ (is : List It) (N : Nat) (k : Int) (s : ByteArray) (n : Int) (es : List T) (room : Nat) : am is (N + 1) (.mk k s n es) room =
    if room < 1 then none
    else if k = 1 then some ⟨1, 0, 0⟩
    else if 2 ≤ k ∧ k ≤ 8 then some ⟨1, 1, 0⟩
    else if k = 9 then
      match fst s is 0 with
      | none => none
      | some j => match is[j]? with
        | none => none
        | some it => if it.k = 2 then tog (am is N) room ⟨1, 0, 0⟩ (it.ps.map (·.2))
          else (vars (am is N) room ⟨1, 0, 0⟩ (it.vs.map (·.2))).map fun a => ⟨a.p, 1 + a.w, a.m⟩
    else match es with
      | [] => none
      | e :: _ =>
        if k = 10 then (if n < 1 then some ⟨1, 0, 0⟩ else (am is N e ((room - 1) / n.toNat)).map fun o => ⟨1 + o.p * n.toNat, o.w * n.toNat, o.m * n.toNat⟩)
        else if k = 12 then some ⟨1, 1, 0⟩
        else if k = 11 ∨ k = 13 then some ⟨1, 1, 1⟩
        else none := by
  rw [am.eq_def]
  rfl

theorem am_ok (is : List It) : ∀ (N : Nat), Fine (am is N)
  | 0 => fun t r o h => by cases t; cases h
  | N + 1 => fun t r o h => by
    have ih := am_ok is N
    obtain ⟨k, s, n, es⟩ := t
    rw [am_succ] at h
    split at h
    · cases h
    · rename_i hr
      split at h
      · cases h; simp; omega
      · split at h
        · cases h; simp; omega
        · split at h
          · split at h
            · cases h
            · split at h
              · cases h
              · split at h
                · have := tog_ok ih h (by show 1 ≤ r; omega)
                  simp only at this
                  omega
                · obtain ⟨b, hb, rfl⟩ := Option.map_eq_some_iff.1 h
                  have := vars_ok ih hb (by show 1 ≤ r; omega) (Nat.le_refl _) (Nat.le_refl _) (Nat.le_refl _)
                  simp only at this ⊢
                  omega
          · split at h
            · cases h
            · split at h
              · split at h
                · cases h; simp; omega
                · rename_i hn
                  obtain ⟨b, hb, rfl⟩ := Option.map_eq_some_iff.1 h
                  obtain ⟨h1, h2, h3, h4⟩ := ih _ _ _ hb
                  have hn1 : 1 ≤ n.toNat := by omega
                  have h5 : b.p * n.toNat ≤ r - 1 := by
                    have := (Nat.le_div_iff_mul_le hn1).1 h2
                    exact this
                  have h6 : b.w * n.toNat ≤ b.p * n.toNat := Nat.mul_le_mul_right _ h3
                  have h7 : b.m * n.toNat ≤ b.p * n.toNat := Nat.mul_le_mul_right _ h4
                  simp only
                  omega
              · split at h
                · cases h; simp; omega
                · split at h
                  · cases h; simp; omega
                  · cases h

/-- A block of cells. -/
def At (W : World) (B : Nat) (cs : Array Value) (t : TypeId) : Prop := W.heap[B]? = some (.cells cs t (0, 0))

theorem At.lt {W : World} {B : Nat} {cs : Array Value} {t : TypeId} (h : At W B cs t) : B < W.heap.size := (Array.getElem?_eq_some_iff.1 h).1
theorem At.cell {W : World} {B : Nat} {cs : Array Value} {t : TypeId} (h : At W B cs t) (j : Nat) : W.cell? ⟨B, j, none⟩ = cs[j]? := by simp [World.cell?, show W.heap[B]? = _ from h]
theorem At.frozen {W : World} {B : Nat} {cs : Array Value} {t : TypeId} (h : At W B cs t) (j : Nat) : W.frozen? ⟨B, j, none⟩ = false := by simp [World.frozen?, show W.heap[B]? = _ from h]
theorem At.new (W : World) (cs : Array Value) (t : TypeId) : At (W.alloc (.cells cs t)) W.heap.size cs t := World.alloc_heap_new W _
theorem At.grown {W W' : World} {row : Option Nat} {B : Nat} {cs : Array Value} {t : TypeId} (h : At W B cs t) (hg : W.grownBy W' row) (hr : ∀ r, row = some r → ∃ o : Obj, W.heap[r]? = some o ∧ o.isCells = false) : At W' B cs t :=
  (hg.block B h.lt (fun e => by
    obtain ⟨o, ho, hc⟩ := hr B e.symm
    rw [show W.heap[B]? = _ from h] at ho
    cases ho
    cases hc)).trans h
theorem At.below {W W' : World} {B n : Nat} {cs : Array Value} {t : TypeId} (h : At W B cs t) (hb : Below n W W') (hn : B < n) : At W' B cs t := (hb.block B hn).trans h
theorem At.alloc {W : World} {B : Nat} {cs : Array Value} {t : TypeId} (h : At W B cs t) (o : Obj) : At (W.alloc o) B cs t := h.below (below_alloc W o) h.lt
theorem At.far {W : World} {B B' j : Nat} {cs : Array Value} {t : TypeId} (h : At W B cs t) (hne : B ≠ B') (v : Value) : At (W.setCell ⟨B', j, none⟩ v) B cs t := (Below.heap_setCell W ⟨B', j, none⟩ v B (fun e => hne (by cases e; rfl))).trans h
theorem At.set {W : World} {B j : Nat} {cs : Array Value} {t : TypeId} (h : At W B cs t) (v : Value) : At (W.setCell ⟨B, j, none⟩ v) B (cs.setIfInBounds j v) t := by
  have hv : W.heap[B]'h.lt = .cells cs t (0, 0) := (Array.getElem?_eq_some_iff.1 h).2
  unfold At World.setCell
  rw [Array.getElem?_eq_getElem (by simpa using h.lt), Array.getElem_modify]
  simp [hv]
theorem at_own {β : Type} (B : Nat) (t : TypeId) (f : β → Array Value) : Own (fun s W => At W B (f s) t) := fun _ _ _ _ hs hg hr => hs.grown hg hr

theorem others_below {W W' : World} (h : Below W.heap.size W W') : KeepsOthers W W' := ⟨h.size, fun j _ hj _ => (h.block j (Array.getElem?_eq_some_iff.1 hj).1).trans hj⟩

end Go.Proofs.YtjdkoahbahecoaaGreatDoor
