/-
  Proved: what areFormed answers of any moves.
-/
import Derived.Test.YtoagebclnaggjaaScirc
set_option linter.unusedVariables false
namespace Go.Proofs.Ytoagebclnaggjaa
open Go.RowKit Go.Maps

/-- Moves in memory. -/
def LI (w : World) (l : List Mv) (v : Value) : Prop := ∃ A C, v = .slice A l.length C ∧ RowsIn w 2 mC l A
theorem LI.below {w w' : World} {l : List Mv} {v : Value} (h : LI w l v) (k : Below w.heap.size w w') : LI w' l v := by
  obtain ⟨A, C, e, h⟩ := h
  exact ⟨A, C, e, h.below k⟩

theorem rows_cells {w w' : World} {l : List Mv} {A : Option Addr} (h : RowsIn w 2 mC l A) (k : Below w.heap.size w w') (i : Nat) (hi : i < l.length) : ∃ b o, A = some ⟨b, o, none⟩ ∧ b < w.heap.size ∧ w'.cell? ⟨b, o + i * 2, none⟩ = some (.int .i64 l[i].1) ∧ w'.cell? ⟨b, o + i * 2 + 1, none⟩ = some (.int .i64 l[i].2) := by
  obtain ⟨b, o, e, h1, h2⟩ := h i hi
  exact ⟨b, o, e, h1, (k.cell (p := ⟨b, o + i * 2, none⟩) h1).trans (h2 0 _ rfl), (k.cell (p := ⟨b, o + i * 2 + 1, none⟩) h1).trans (h2 1 _ rfl)⟩

/-- They may be. -/
def OKf (l : List Mv) (spare : Int) : Prop := ND l ∧ ∀ m ∈ l, m.1 ≠ spare ∧ m.2 ≠ spare

/-- The places so far, each once. -/
def one (l : List Mv) (y : Int) : Option Int := if y ∈ l.map (·.1) then some 1 else none

theorem one_snoc (l : List Mv) (m : Mv) : upd (one l) m.1 (some 1) = one (l ++ [m]) := by
  funext y
  unfold upd one
  by_cases e : y = m.1
  · simp [e]
  · have h : (y ∈ List.map (·.1) (l ++ [m])) ↔ y ∈ List.map (·.1) l := by
      rw [List.map_append, List.mem_append]
      simp [e]
    rw [if_neg e]
    simp only [h]

theorem OKf.snoc {l : List Mv} {m : Mv} {spare : Int} : OKf (l ++ [m]) spare ↔ OKf l spare ∧ m.1 ∉ l.map (·.1) ∧ m.1 ≠ spare ∧ m.2 ≠ spare := by
  unfold OKf ND
  rw [List.map_append, List.nodup_append]
  constructor
  · rintro ⟨⟨h1, _, h3⟩, h2⟩
    exact ⟨⟨h1, fun m hm => h2 m (by simp [hm])⟩, fun h => h3 _ h m.1 (by simp) rfl, h2 m (by simp)⟩
  · rintro ⟨⟨h1, h2⟩, h3, h4⟩
    refine ⟨⟨h1, by simp, fun a ha b hb e => ?_⟩, fun k hk => ?_⟩
    · simp at hb
      subst hb e
      exact h3 ha
    · rcases List.mem_append.1 hk with h | h
      · exact h2 k h
      · simp at h; subst h; exact h4

theorem OKf.part {l k : List Mv} {spare : Int} (h : OKf (l ++ k) spare) : OKf l spare := by
  unfold OKf ND at *
  rw [List.map_append, List.nodup_append] at h
  exact ⟨h.1.1, fun m hm => h.2 m (by simp [hm])⟩

set_option maxRecDepth 20000 in
set_option maxHeartbeats 2000000 in
theorem areFormed_c (l : List Mv) (spare : Int) (b : Bool) (hb : b = true ↔ OKf l spare) (v : Value) (w : World) (h : LI w l v) (ha : Al l) (hl : l.length ≤ 1000) :
    Calls Try.prog 12 #[v, .int .i64 spare] w fun e w' => e = .returned (.bool b) ∧ Below w.heap.size w w' := by
  obtain ⟨A, C, rfl, hr⟩ := h
  have R : Hid (RowsIn w 2 mC l A) := hr
  have HA : Hid (Al l) := ha
  have HB : Hid (b = true ↔ OKf l spare) := hb
  clear hr ha hb
  have hmm := @run_makeMap Try.prog
  go_enter Try.func12, Try.ntmps12
  go_wp2
  go_loopw [11] (fun iv wr => ∃ i : Nat, i ≤ l.length ∧ iv = .int .i64 (i : Int) ∧ MapF wr w.heap.size i (one (l.take i)) ∧ OKf (l.take i) spare ∧ Below w.heap.size w wr ∧ w.heap.size < wr.heap.size) (fun iv _ => l.length - (intOf iv).toNat)
  case atStart => exact ⟨0, by omega, rfl, MapF.made w, ⟨by simp [ND], by simp⟩, below_alloc _ _, by simp⟩
  case round =>
    obtain ⟨i, hi, rfl, hm, hok, hbl, hsz⟩ := hrel
    rcases Nat.lt_or_ge i l.length with hlt | hge
    · have hiz : (i : Int) < l.length := by omega
      obtain ⟨b1, o1, rfl, hb1, c1, c2⟩ := rows_cells R.out hbl i hlt
      have hx := (HA.out l[i] (List.getElem_mem hlt)).1
      have m1 : MapF (wr.alloc (.cells #[.int .i64 l[i].1, .int .i64 l[i].2] 28)) w.heap.size i (one (l.take i)) := hm.below (below_alloc _ _)
      have a1 : At (wr.alloc (.cells #[.int .i64 l[i].1, .int .i64 l[i].2] 28)) wr.heap.size #[.int .i64 l[i].1, .int .i64 l[i].2] 28 := At.new _ _ _
      have lk1 := m1.look1 hx
      have SN : Hid (OKf (l.take (i + 1)) spare ↔ l[i].1 ∉ (l.take i).map (·.1) ∧ l[i].1 ≠ spare ∧ l[i].2 ≠ spare) := (show OKf (l.take (i + 1)) spare ↔ _ by
        rw [List.take_succ_eq_append_getElem hlt, OKf.snoc]
        exact ⟨fun h => h.2, fun h => ⟨hok, h⟩⟩)
      have S1 : Hid (upd (one (l.take i)) l[i].1 (some 1) = one (l.take (i + 1))) := (show _ = _ by rw [List.take_succ_eq_append_getElem hlt, one_snoc])
      have NO : Hid (¬ OKf (l.take (i + 1)) spare → b = false) := fun hn => by
        cases e : b with
        | false => rfl
        | true =>
          have h1 := HB.out.1 e
          rw [← List.take_append_drop (i + 1) l] at h1
          exact absurd h1.part hn
      have O1 : one (l.take i) l[i].1 = if l[i].1 ∈ (l.take i).map (·.1) then some 1 else none := rfl
      have BW : Hid (Below w.heap.size w (wr.alloc (.cells #[.int .i64 l[i].1, .int .i64 l[i].2] 28))) := hbl.trans ((below_alloc _ _).mono hbl.size)
      generalize l[i].1 = x at *
      generalize l[i].2 = y at *
      have KK : Hid (∀ a : Int, In a → ∃ w2, (Instr.mapUpdate 38 (.map (some w.heap.size)) (.int .i64 x) (.int .i64 a)).run Try.prog (wr.alloc (.cells #[.int .i64 x, .int .i64 y] 28)) = .ok () w2 ∧ MapF w2 w.heap.size (i + 1) (upd (one (l.take i)) x (some a)) ∧ (Instr.lookup 38 (.map (some w.heap.size)) (.int .i64 x) false).run Try.prog w2 = .ok (.int .i64 a) w2 ∧ w2.cell? ⟨wr.heap.size, 0, none⟩ = some (.int .i64 x) ∧ w2.cell? ⟨wr.heap.size, 1, none⟩ = some (.int .i64 y) ∧ Below w.heap.size w w2 ∧ w.heap.size < w2.heap.size) := fun a hA => by
        obtain ⟨w2, u1, u2, u3, u4⟩ := m1.put hx hA (by omega)
        have lk2 := u2.look1 hx
        have a2 := u3.at a1 (by omega)
        refine ⟨w2, u1, u2, ?_, a2.cell 0, a2.cell 1, BW.out.trans (u3.below (by have := m1.lt; omega) (fun b hb => by omega)), by have := u2.lt; omega⟩
        simpa [upd] using lk2
      clear hm hok hbl m1 a1 BW HA R HB
      by_cases e1 : x ∈ (l.take i).map (·.1)
      · rw [O1, if_pos e1] at lk1
        simp only [Option.getD_some] at lk1
        obtain ⟨w2, u1, u2, u3, u4, u5, u6, u7⟩ := KK.out 2 (by unfold In; omega)
        have BB : Hid (Below w.heap.size w w2) := u6
        have BF : Hid (b = false) := NO.out fun h => (SN.out.1 h).1 e1
        clear KK O1 u2 u6 e1 SN NO S1
        go_wp2
        go_ret
        exact ⟨by rw [BF.out]; rfl, BB.out⟩
      · rw [O1, if_neg e1] at lk1
        simp only [Option.getD_none] at lk1
        obtain ⟨w2, u1, u2, u3, u4, u5, u6, u7⟩ := KK.out 1 (by unfold In; omega)
        have BB : Hid (Below w.heap.size w w2) := u6
        have MM : Hid (MapF w2 w.heap.size (i + 1) (one (l.take (i + 1)))) := (show MapF w2 w.heap.size (i + 1) (one (l.take (i + 1))) by rw [← S1.out]; exact u2)
        by_cases e2 : x = spare
        · have BF : Hid (b = false) := NO.out fun h => (SN.out.1 h).2.1 e2
          have q2 : (x == spare) = true := by simpa using e2
          clear KK O1 u2 u6 e1 SN NO S1 e2
          go_wp2
          go_ret
          exact ⟨by rw [BF.out]; rfl, BB.out⟩
        · by_cases e3 : y = spare
          · have BF : Hid (b = false) := NO.out fun h => (SN.out.1 h).2.2 e3
            have q2 : (x == spare) = false := by simpa using e2
            have q3 : (y == spare) = true := by simpa using e3
            clear KK O1 u2 u6 e1 SN NO S1 e2 e3
            go_wp2
            go_ret
            exact ⟨by rw [BF.out]; rfl, BB.out⟩
          · have OK : Hid (OKf (l.take (i + 1)) spare) := SN.out.2 ⟨e1, e2, e3⟩
            have q2 : (x == spare) = false := by simpa using e2
            have q3 : (y == spare) = false := by simpa using e3
            clear KK O1 u2 u6 e1 SN NO S1 e2 e3
            go_wp2
            go_roundw
            case rel => exact ⟨i + 1, by omega, by go_num, MM.out, OK.out, BB.out, u7⟩
            case measure => simp [intOf]; omega
    · have hiz : ¬ (i : Int) < l.length := by omega
      have BT : Hid (b = true) := HB.out.2 (by rw [List.take_of_length_le hge] at hok; exact hok)
      have BB : Hid (Below w.heap.size w wr) := hbl
      clear hm hok hbl HB HA R
      go_wp2
      go_ret
      exact ⟨by rw [BT.out]; rfl, BB.out⟩
end Go.Proofs.Ytoagebclnaggjaa
