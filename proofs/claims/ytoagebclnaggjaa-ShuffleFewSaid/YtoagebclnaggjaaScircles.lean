/-
  Proved: what the law's own 'circles' answers.
-/
import Derived.Test.YtoagebclnaggjaaSfew2
set_option linter.unusedVariables false
namespace Go.Proofs.Ytoagebclnaggjaa
open Go.RowKit Go.Maps

theorem lk_take {l : List Mv} (hl : ND l) (k : Nat) (hk : k < l.length) (a : Int) : lk (l.take (k + 1)) a = if l[k].1 = a then some l[k].2 else lk (l.take k) a := by
  rw [List.take_succ_eq_append_getElem hk, lk_app]
  by_cases e : l[k].1 = a
  · have hn : lk (l.take k) a = none := by
      cases h : lk (l.take k) a with
      | none => rfl
      | some u =>
        have h1 : a ∈ (l.take k).map (·.1) := List.mem_map.2 ⟨_, lk_mem h, rfl⟩
        unfold ND at hl
        rw [← List.take_append_drop (k + 1) l, List.take_succ_eq_append_getElem hk, List.map_append, List.nodup_append, List.map_append, List.nodup_append] at hl
        exact absurd e.symm (hl.1.2.2 a h1 l[k].1 (by simp))
    rw [hn, if_pos e]
    simp [lk, e]
  · rw [if_neg e]
    cases lk (l.take k) a with
    | none => simp [lk, e]
    | some u => rfl

set_option maxRecDepth 20000 in
set_option maxHeartbeats 8000000 in
theorem circles_c (l : List Mv) (hn : ND l) (v : Value) (w : World) (h : LI w l v) (hl : l.length ≤ 1000) :
    Calls Try.prog 11 #[v] w fun e w' => e = .returned (.tuple #[.int .i64 (cnt l (mvs l) : Int), .int .i64 ((mvs l).length : Int)]) ∧ Below w.heap.size w w' := by
  obtain ⟨A, C, rfl, hr⟩ := h
  have R : Hid (RowsIn w 2 mC l A) := hr
  have HN : Hid (ND l) := hn
  clear hr hn
  go_enter Try.func11, Try.ntmps11
  go_wp2
  go_loopw [4, 5, 6] (fun mv nv iv wr => ∃ i : Nat, i ≤ l.length ∧ mv = .int .i64 ((mvs (l.take i)).length : Int) ∧ nv = .int .i64 (cnt l (mvs (l.take i)) : Int) ∧ iv = .int .i64 (i : Int) ∧ Below w.heap.size w wr) (fun _ _ iv _ => l.length - (intOf iv).toNat)
  case atStart => exact ⟨0, by omega, by simp [mvs], by simp [mvs, cnt], rfl, Below.refl _ _⟩
  case round =>
    obtain ⟨i, hi, rfl, rfl, rfl, hbl⟩ := hrel
    rcases Nat.lt_or_ge i l.length with hlt | hge
    · have hiz : (i : Int) < l.length := by omega
      obtain ⟨b1, o1, rfl, hb1, c1, c2⟩ := rows_cells R.out hbl i hlt
      have CK : Hid (∀ wq, Below w.heap.size w wq → ∀ k (hk : k < l.length), wq.cell? ⟨b1, o1 + k * 2, none⟩ = some (.int .i64 l[k].1) ∧ wq.cell? ⟨b1, o1 + k * 2 + 1, none⟩ = some (.int .i64 l[k].2)) := fun wq hq k hk => by
        obtain ⟨b2, o2, e2, _, d1, d2⟩ := rows_cells R.out hq k hk
        cases e2
        exact ⟨d1, d2⟩
      have CI : Hid (∀ wq, Below w.heap.size w wq → wq.cell? ⟨b1, o1 + i * 2, none⟩ = some (.int .i64 l[i].1)) := fun wq hq => (CK.out wq hq i hlt).1
      have BW : Hid (Below w.heap.size w wr) := hbl
      have SN : mvs (l.take (i + 1)) = if l[i].1 = l[i].2 then mvs (l.take i) else mvs (l.take i) ++ [l[i]] := by rw [List.take_succ_eq_append_getElem hlt, mvs_snoc]
      have M1 : (mvs (l.take i)).length ≤ i := by
        have h2 : (mvs (l.take i)).length ≤ (l.take i).length := List.length_filter_le _ _
        simp at h2
        omega
      have M2 : cnt l (mvs (l.take i)) ≤ (mvs (l.take i)).length := List.countP_le_length
      have LT : Hid (∀ k (hk : k < l.length) (a : Int), lk (l.take (k + 1)) a = if l[k].1 = a then some l[k].2 else lk (l.take k) a) := fun k hk a => lk_take HN.out k hk a
      generalize l[i] = m at *
      obtain ⟨x, y⟩ := m
      simp only at *
      clear hbl
      by_cases e : x = y
      · have q : (x == y) = true := by simpa using e
        rw [if_pos e] at SN
        have ML : Hid ((mvs (l.take (i + 1))).length = (mvs (l.take i)).length) := (show _ = _ by rw [SN])
        have CE : Hid (cnt l (mvs (l.take (i + 1))) = cnt l (mvs (l.take i))) := (show _ = _ by rw [SN])
        clear SN e CK CI LT
        generalize (mvs (l.take i)).length = mN at *
        generalize cnt l (mvs (l.take i)) = cN at *
        go_wp2
        go_quiet (fail)
        go_wp2
        go_roundw
        case rel => exact ⟨i + 1, by omega, by rw [ML.out], by rw [CE.out], by go_num, BW.out.trans ((drewN_below _ _).mono BW.out.size)⟩
        case measure => simp [intOf]; omega
      · have q : (x == y) = false := by simpa using e
        rw [if_neg e] at SN
        have ML : Hid ((mvs (l.take (i + 1))).length = (mvs (l.take i)).length + 1) := (show _ = _ by rw [SN]; simp)
        have CT : Hid (cnt l (mvs (l.take (i + 1))) = cnt l (mvs (l.take i)) + if cntd l (x, y) then 1 else 0) := (show _ = _ by rw [SN]; unfold cnt; rw [List.countP_append, List.countP_singleton])
        clear SN e
        generalize (mvs (l.take i)).length = mN at *
        generalize cnt l (mvs (l.take i)) = cN at *
        have CD : Hid (cntd l (x, y) = ((wk l x l.length y true).1 == x && (wk l x l.length y true).2)) := rfl
        go_wp2
        go_quiet (fail)
        go_wp2
        clear c1 c2 q
        go_loopw [7, 8, 9] (fun av bv kv wr => ∃ (k : Nat) (a : Int) (b : Bool), k ≤ l.length ∧ av = .int .i64 a ∧ bv = .bool b ∧ kv = .int .i64 (k : Int) ∧ wk l x (l.length - k) a b = wk l x l.length y true ∧ Below w.heap.size w wr) (fun _ _ kv _ => l.length - (intOf kv).toNat)
        case atStart => exact ⟨0, y, true, by omega, rfl, rfl, rfl, rfl, BW.out.trans ((drewN_below _ _).mono BW.out.size)⟩
        case round =>
          clear BW
          obtain ⟨k, a, b, hk, rfl, rfl, rfl, hwk, hbl⟩ := hrel
          have BW : Hid (Below w.heap.size w wr) := hbl
          have c1 := CI.out wr hbl
          by_cases ex : a = x
          · subst ex
            have q : (a != a) = false := by simp
            have q3 : (a == a) = true := by simp
            have hR : wk l a l.length y true = (a, b) := by
              rw [← hwk]
              cases l.length - k with
              | zero => rfl
              | succ f => rw [wk, if_pos rfl]
            have CE : Hid (cnt l (mvs (l.take (i + 1))) = cN + if b then 1 else 0) := (show _ = _ by rw [CT.out, CD.out, hR]; simp)
            clear hwk hR hbl CT CD CK CI LT
            rcases Nat.lt_or_ge k l.length with hlt2 | hge2
            · have hkz : (k : Int) < l.length := by omega
              cases b with
              | true =>
                have CE : Hid (cnt l (mvs (l.take (i + 1))) = cN + 1) := CE.out
                go_wp2
                go_roundw
                case rel => exact ⟨i + 1, by omega, by rw [ML.out]; go_num, by rw [CE.out]; try go_num, by go_num, BW.out⟩
                case measure => simp [intOf]; omega
              | false =>
                have CE : Hid (cnt l (mvs (l.take (i + 1))) = cN) := CE.out
                go_wp2
                go_roundw
                case rel => exact ⟨i + 1, by omega, by rw [ML.out]; go_num, by rw [CE.out]; try go_num, by go_num, BW.out⟩
                case measure => simp [intOf]; omega
            · have hkz : ¬ (k : Int) < l.length := by omega
              cases b with
              | true =>
                have CE : Hid (cnt l (mvs (l.take (i + 1))) = cN + 1) := CE.out
                go_wp2
                go_roundw
                case rel => exact ⟨i + 1, by omega, by rw [ML.out]; go_num, by rw [CE.out]; try go_num, by go_num, BW.out⟩
                case measure => simp [intOf]; omega
              | false =>
                have CE : Hid (cnt l (mvs (l.take (i + 1))) = cN) := CE.out
                go_wp2
                go_roundw
                case rel => exact ⟨i + 1, by omega, by rw [ML.out]; go_num, by rw [CE.out]; try go_num, by go_num, BW.out⟩
                case measure => simp [intOf]; omega
          · have q : (a != x) = true := by simpa using ex
            have q3 : (a == x) = false := by simpa using ex
            rcases Nat.lt_or_ge k l.length with hlt2 | hge2
            · have hkz : (k : Int) < l.length := by omega
              obtain ⟨f, hf⟩ : ∃ f, l.length - k = f + 1 := ⟨l.length - k - 1, by omega⟩
              have hf2 : f = l.length - (k + 1) := by omega
              rw [hf, wk, if_neg ex] at hwk
              have WK : Hid ((if dst l a = a then (a, b && decide (a > x)) else wk l x f (dst l a) (b && decide (a > x))) = wk l x l.length y true) := hwk
              have HF : Hid (f = l.length - (k + 1)) := hf2
              have EX : Hid (¬ a = x) := ex
              clear hwk hf hf2 hbl ex
              go_wp2
              clear q c1
              go_loopw [10, 11] (fun nv jv wr => ∃ j : Nat, j ≤ l.length ∧ nv = .int .i64 ((lk (l.take j) a).getD a) ∧ jv = .int .i64 (j : Int) ∧ Below w.heap.size w wr) (fun _ jv _ => l.length - (intOf jv).toNat)
              case atStart => exact ⟨0, by omega, rfl, rfl, BW.out⟩
              case round =>
                clear BW
                obtain ⟨j, hj, rfl, rfl, hbl⟩ := hrel
                have BW : Hid (Below w.heap.size w wr) := hbl
                rcases Nat.lt_or_ge j l.length with hlt3 | hge3
                · have hjz : (j : Int) < l.length := by omega
                  obtain ⟨c3, c4⟩ := CK.out wr hbl j hlt3
                  have T1 := LT.out j hlt3 a
                  generalize l[j] = mj at *
                  obtain ⟨jx, jy⟩ := mj
                  simp only at *
                  clear hbl
                  by_cases ej : jx = a
                  · have q5 : (jx == a) = true := by simpa using ej
                    rw [if_pos ej] at T1
                    have T2 : Hid ((lk (l.take (j + 1)) a).getD a = jy) := (show _ = _ by rw [T1]; rfl)
                    clear T1 ej
                    generalize (lk (l.take j) a).getD a = nn at *
                    go_wp2
                    go_roundw
                    case rel => exact ⟨j + 1, by omega, by rw [T2.out], by go_num, BW.out⟩
                    case measure => simp [intOf]; omega
                  · have q5 : (jx == a) = false := by simpa using ej
                    rw [if_neg ej] at T1
                    have T2 : Hid ((lk (l.take (j + 1)) a).getD a = (lk (l.take j) a).getD a) := (show _ = _ by rw [T1])
                    clear T1 ej
                    generalize (lk (l.take j) a).getD a = nn at *
                    go_wp2
                    go_roundw
                    case rel => exact ⟨j + 1, by omega, by rw [T2.out], by go_num, BW.out⟩
                    case measure => simp [intOf]; omega
                · have hjz : ¬ (j : Int) < l.length := by omega
                  have c1 := CI.out wr hbl
                  have ED : (lk (l.take j) a).getD a = dst l a := by rw [List.take_of_length_le hge3]; rfl
                  rw [ED]
                  have W1 := WK.out
                  clear ED hbl
                  by_cases ed : dst l a = a
                  · rw [if_pos ed] at W1
                    have q5 : (dst l a == a) = true := by simpa using ed
                    have CE : Hid (cnt l (mvs (l.take (i + 1))) = cN) := (show _ = _ by
                      rw [CT.out, CD.out, ← W1]
                      simp [EX.out])
                    clear W1 WK CT CD CK CI LT ed
                    generalize dst l a = da at *
                    cases b with
                    | true =>
                      go_wp2
                      go_roundw
                      case rel => exact ⟨i + 1, by omega, by rw [ML.out]; go_num, by rw [CE.out]; try go_num, by go_num, BW.out⟩
                      case measure => simp [intOf]; omega
                    | false =>
                      go_wp2
                      go_roundw
                      case rel => exact ⟨i + 1, by omega, by rw [ML.out]; go_num, by rw [CE.out]; try go_num, by go_num, BW.out⟩
                      case measure => simp [intOf]; omega
                  · rw [if_neg ed] at W1
                    have q5 : (dst l a == a) = false := by simpa using ed
                    have WN : Hid (∀ b2, (b && decide (a > x)) = b2 → wk l x (l.length - (k + 1)) (dst l a) b2 = wk l x l.length y true) := fun b2 e2 => by rw [← e2, ← HF.out]; exact W1
                    clear W1 WK CT CD CK CI LT ed
                    generalize dst l a = da at *
                    cases b with
                    | true =>
                      go_wp2
                      go_roundw
                      case rel => exact ⟨k + 1, da, decide (a > x), by omega, rfl, by first | rfl | simp, by go_num, WN.out _ (by simp), BW.out⟩
                      case measure => simp [intOf]; omega
                    | false =>
                      go_wp2
                      go_roundw
                      case rel => exact ⟨k + 1, da, false, by omega, rfl, rfl, by go_num, WN.out _ (by simp), BW.out⟩
                      case measure => simp [intOf]; omega
            · have hkz : ¬ (k : Int) < l.length := by omega
              have hR : wk l x l.length y true = (a, b) := by
                rw [← hwk, show l.length - k = 0 by omega]
                rfl
              have CE : Hid (cnt l (mvs (l.take (i + 1))) = cN) := (show _ = _ by rw [CT.out, CD.out, hR]; simp [ex])
              clear hwk hR hbl CT CD CK CI LT ex
              go_wp2
              go_roundw
              case rel => exact ⟨i + 1, by omega, by rw [ML.out]; go_num, by rw [CE.out]; try go_num, by go_num, BW.out⟩
              case measure => simp [intOf]; omega
    · have hiz : ¬ (i : Int) < l.length := by omega
      have BB : Hid (Below w.heap.size w wr) := hbl
      have EE : l.take i = l := List.take_of_length_le hge
      rw [EE]
      clear hbl EE R HN
      go_wp2
      go_ret2
      exact ⟨rfl, BB.out⟩
end Go.Proofs.Ytoagebclnaggjaa
