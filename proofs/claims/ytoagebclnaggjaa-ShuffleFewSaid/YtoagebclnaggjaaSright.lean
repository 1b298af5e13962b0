/-
  Proved: what the law's own 'few' and 'right' answer.
-/
import Derived.Test.YtoagebclnaggjaaSmove
set_option linter.unusedVariables false
namespace Go.Proofs.Ytoagebclnaggjaa
open Go.RowKit Go.Maps

theorem few_c (l : List Mv) (v : Value) (w : World) (h : LI w l v) : Calls Try.prog 7 #[v] w fun e w' => e = .returned (.bool (decide ((l.length : Int) < 100))) ∧ w' = w := by
  obtain ⟨A, C, rfl, -⟩ := h
  go_enter Try.func7, Try.ntmps7
  go_wp2
  go_ret
  exact ⟨rfl, rfl⟩

theorem take_tos (l : List Mv) (k : Nat) (h : k < l.length) (x : Int) : x ∈ (l.take (k + 1)).map (·.1) ↔ x ∈ (l.take k).map (·.1) ∨ x = l[k].1 := by
  rw [List.take_succ_eq_append_getElem h, List.map_append, List.mem_append]
  simp

set_option maxRecDepth 20000 in
set_option maxHeartbeats 2000000 in
theorem right_c (l : List Mv) (spare : Int) (b : Bool) (hb : b = true ↔ OKf l spare) (v : Value) (w : World) (h : LI w l v) (hl : l.length ≤ 1000) :
    Calls Try.prog 9 #[v, .int .i64 spare] w fun e w' => e = .returned (.bool b) ∧ Below w.heap.size w w' := by
  obtain ⟨A, C, rfl, hr⟩ := h
  have R : Hid (RowsIn w 2 mC l A) := hr
  have HB : Hid (b = true ↔ OKf l spare) := hb
  clear hr hb
  go_enter Try.func9, Try.ntmps9
  go_wp2
  go_loopw [5] (fun iv wr => ∃ i : Nat, i ≤ l.length ∧ iv = .int .i64 (i : Int) ∧ OKf (l.take i) spare ∧ Below w.heap.size w wr) (fun iv _ => l.length - (intOf iv).toNat)
  case atStart => exact ⟨0, by omega, rfl, ⟨by simp [ND], by simp⟩, Below.refl _ _⟩
  case round =>
    obtain ⟨i, hi, rfl, hok, hbl⟩ := hrel
    rcases Nat.lt_or_ge i l.length with hlt | hge
    · have hiz : (i : Int) < l.length := by omega
      obtain ⟨b1, o1, rfl, hb1, c1, c2⟩ := rows_cells R.out hbl i hlt
      have CK : Hid (∀ wq, Below w.heap.size w wq → ∀ k (hk : k < l.length), wq.cell? ⟨b1, o1 + k * 2, none⟩ = some (.int .i64 l[k].1)) := fun wq hq k hk => by
        obtain ⟨b2, o2, e2, _, d1, _⟩ := rows_cells R.out hq k hk
        cases e2
        exact d1
      have SN : Hid (OKf (l.take (i + 1)) spare ↔ l[i].1 ∉ (l.take i).map (·.1) ∧ l[i].1 ≠ spare ∧ l[i].2 ≠ spare) := (show OKf (l.take (i + 1)) spare ↔ _ by
        rw [List.take_succ_eq_append_getElem hlt, OKf.snoc]
        exact ⟨fun h => h.2, fun h => ⟨hok, h⟩⟩)
      have NO : Hid (¬ OKf (l.take (i + 1)) spare → b = false) := fun hn => by
        cases e : b with
        | false => rfl
        | true =>
          have h1 := HB.out.1 e
          rw [← List.take_append_drop (i + 1) l] at h1
          exact absurd h1.part hn
      have BW : Hid (Below w.heap.size w wr) := hbl
      have XI : Hid (∀ wq, Below w.heap.size w wq → wq.cell? ⟨b1, o1 + i * 2, none⟩ = some (.int .i64 l[i].1)) := fun wq hq => CK.out wq hq i hlt
      have TT : Hid (∀ k (hk : k < i), l[i].1 ∈ (l.take (k + 1)).map (·.1) ↔ l[i].1 ∈ (l.take k).map (·.1) ∨ l[i].1 = (l[k]'(by omega)).1) := fun k hk => take_tos l k (by omega) _
      have IM : Hid (∀ k (hk : k < i), (l[k]'(by omega)).1 = l[i].1 → l[i].1 ∈ (l.take i).map (·.1)) := fun k hk e => by
        rw [← e]
        refine List.mem_map.2 ⟨l[k]'(by omega), ?_, rfl⟩
        rw [List.mem_take_iff_getElem]
        exact ⟨k, by omega, rfl⟩
      generalize l[i].1 = x at *
      generalize l[i].2 = y at *
      clear hok hbl
      by_cases e2 : x = spare
      · have q : (x == spare) = true := by simpa using e2
        have BF : Hid (b = false) := NO.out fun h => (SN.out.1 h).2.1 e2
        clear SN NO e2 CK XI TT IM
        go_wp2
        go_ret
        exact ⟨by rw [BF.out]; rfl, BW.out⟩
      · have q : (x == spare) = false := by simpa using e2
        by_cases e3 : y = spare
        · have q3 : (y == spare) = true := by simpa using e3
          have BF : Hid (b = false) := NO.out fun h => (SN.out.1 h).2.2 e3
          clear SN NO e2 e3 CK XI TT IM
          go_wp2
          go_ret
          exact ⟨by rw [BF.out]; rfl, BW.out⟩
        · have q3 : (y == spare) = false := by simpa using e3
          have N2 : Hid (x ∈ (l.take i).map (·.1) → b = false) := fun hm => NO.out fun h => (SN.out.1 h).1 hm
          have N3 : Hid (x ∉ (l.take i).map (·.1) → OKf (l.take (i + 1)) spare) := fun hm => SN.out.2 ⟨hm, e2, e3⟩
          clear SN NO e2 e3
          go_wp2
          clear c1 c2 q q3
          go_loopw [6] (fun kv wr => ∃ k : Nat, k ≤ i ∧ kv = .int .i64 (k : Int) ∧ x ∉ (l.take k).map (·.1) ∧ Below w.heap.size w wr) (fun kv _ => i - (intOf kv).toNat)
          case atStart => exact ⟨0, by omega, rfl, by simp, BW.out⟩
          case round =>
            clear BW
            obtain ⟨k, hk, rfl, hnm, hbl⟩ := hrel
            have BW : Hid (Below w.heap.size w wr) := hbl
            rcases Nat.lt_or_ge k i with hlt2 | hge2
            · have hkz : (k : Int) < i := by omega
              have hkl : (k : Int) < l.length := by omega
              have c1 := XI.out wr hbl
              have c2 := CK.out wr hbl k (by omega)
              have T1 := TT.out k hlt2
              have I1 := IM.out k hlt2
              generalize (l[k]'(by omega)).1 = z at *
              by_cases e : z = x
              · have q : (z == x) = true := by simpa using e
                have BF : Hid (b = false) := N2.out (I1 e)
                clear hbl T1 I1 hnm e CK XI TT IM N2 N3
                go_wp2
                go_quiet (fail)
                go_wp2
                go_ret
                exact ⟨by rw [BF.out]; rfl, BW.out.trans ((drewN_below _ _).mono BW.out.size)⟩
              · have q : (z == x) = false := by simpa using e
                have NM : Hid (x ∉ (l.take (k + 1)).map (·.1)) := fun h => (T1.1 h).elim hnm (fun h2 => e h2.symm)
                clear hbl T1 I1 hnm e CK XI TT IM N2 N3
                go_wp2
                go_quiet (fail)
                go_wp2
                go_roundw
                case rel => exact ⟨k + 1, by omega, by go_num, NM.out, BW.out.trans ((drewN_below _ _).mono BW.out.size)⟩
                case measure => simp [intOf]; omega
            · obtain rfl : k = i := by omega
              have hkz : ¬ (k : Int) < k := by omega
              have OK : Hid (OKf (l.take (k + 1)) spare) := N3.out hnm
              clear hbl hnm CK XI TT IM N2 N3
              go_wp2
              go_roundw
              case rel => exact ⟨k + 1, by omega, by go_num, OK.out, BW.out⟩
              case measure => simp [intOf]; omega
    · have hiz : ¬ (i : Int) < l.length := by omega
      have BT : Hid (b = true) := HB.out.2 (by rw [List.take_of_length_le hge] at hok; exact hok)
      have BB : Hid (Below w.heap.size w wr) := hbl
      clear hok hbl HB R
      go_wp2
      go_ret
      exact ⟨by rw [BT.out]; rfl, BB.out⟩
end Go.Proofs.Ytoagebclnaggjaa
