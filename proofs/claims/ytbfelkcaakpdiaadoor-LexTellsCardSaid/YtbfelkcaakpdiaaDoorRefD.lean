/-
  Proved: the document's own function Lex answers as the definition 'lex' says, for every text of at most 65536 bytes.
-/
import Derived.Test.YtbfelkcaakpdiaaDoorRefC
namespace Go.Proofs.YtbfelkcaakpdiaaDoor
open Go.RowKit

theorem let_dig {c : UInt8} (h : isLet c = true) : isDig c = false := by
  simp [isLet] at h
  simp [isDig]
  omega

theorem extract_mid (l : Bs) (a b : Nat) : (ofL l).extract a b = ofL ((l.drop a).take (b - a)) := by
  apply ByteArray.ext
  simp [ofL, ByteArray.data_extract]

theorem Rel.begin {l : Bs} {A : Ans} (w : World) (hA : lexAll l = A) : Rel l A w w (skip false l) (.slice none 0 0) [] (l.length + 1) :=
  ⟨skip_le _ _, hA, by omega, by simp, World.ownsRow_nil _ _ _ _, Below.refl _ _⟩

set_option maxHeartbeats 6000000 in
set_option maxRecDepth 20000 in
theorem rlex_body (l : Bs) (A : Ans) (w : World) (hm : l.length ≤ 65536) (hA : lexAll l = A) :
    Calls Tryd.prog 9 #[.string (ofL l)] w fun e w' => (∃ v, e = .returned (.tuple #[v, .int .i64 (A.2.1 : Int), .int .i64 (A.2.2 : Int)]) ∧ w'.ownsRow w.heap.size 37 3 v A.1.length (cellsT A.1)) ∧ Below w.heap.size w w' := by
  have HA : Hid (lexAll l = A) := hA
  have hz := ofL_size l
  clear hA
  go_enter Tryd.func9, Tryd.ntmps9
  go_wp2_with (go_at_call 19; refine (rblank_c l _ (by omega)).mono ?_; rintro e w1 ⟨rfl, he⟩; subst he)
  obtain ⟨i0, hi, hz0, hz1, hz2⟩ := info_parts Tryd.info37
  go_loopw [5, 6] (fun v i wr => ∃ (k f : Nat) (acc : List Tok), i = .int .i64 (k : Int) ∧ Rel l A w1 wr k v acc f) (fun _ i _ => l.length - (intOf i).toNat)
  case atStart => exact ⟨skip false l, l.length + 1, [], rfl, Rel.begin _ HA.out⟩
  case round =>
    obtain ⟨k, f, acc, rfl, hr⟩ := hrel
    have R : Hid (Rel l A w1 wr k u5 acc f) := hr
    clear hr
    by_cases hk : k < l.length
    · obtain ⟨c, hc, hcl⟩ := byte_str l k
      have CL : Hid (l[k] = c) := hcl hk
      clear hcl
      have hc' : ∀ h : k < (ofL l).size, ((ofL l)[k].toNat : Int) = (c.toNat : Int) := fun h => by rw [hc h]
      clear hc
      have hfew := R.out.few
      by_cases hon : isOn c = true
      · obtain ⟨M, hM⟩ : ∃ M, run isOn (l.drop k) = M := ⟨_, rfl⟩
        have HM : Hid (run isOn (l.drop k) = M) := hM
        have hMl : k + M ≤ l.length := by
          have := run_le isOn (l.drop k)
          simp at this
          omega
        clear hM
        have hor : isLet c = true ∨ isDig c = true := by simpa [isOn] using hon
        rcases hor with hl | hd
        · have HL : Hid (isLet c = true) := hl
          have HD : Hid (isDig c = false) := let_dig hl
          clear hl hon
          go_wp2_with (go_at_call 20; refine (letter_c c _).mono ?_; rintro e w2 ⟨rfl, he⟩; rw [HL.out]; subst he)
          go_loop [7] (fun i => ∃ m : Nat, k + m ≤ l.length ∧ i = .int .i64 (m : Int) ∧ m + run isOn (l.drop (k + m)) = M) (fun i => l.length - k - (intOf i).toNat)
          case atStart => exact ⟨0, by omega, rfl, by simpa using HM.out⟩
          case round =>
            obtain ⟨m, hm2, rfl, hr⟩ := hrel
            have HR : Hid (m + run isOn (l.drop (k + m)) = M) := hr
            clear hr
            obtain ⟨x, hx, hxl⟩ := byte_str l (k + m)
            have XL : Hid (∀ h : k + m < l.length, l[k + m] = x) := hxl
            have hx' : ∀ h : k + m < (ofL l).size, ((ofL l)[k + m].toNat : Int) = (x.toNat : Int) := fun h => by rw [hx h]
            clear hxl hx
            by_cases hxk : k + m < l.length
            · by_cases hxo : isOn x = true
              · have hxx : isLet x = true ∨ (isLet x = false ∧ isDig x = true) := by
                  cases h : isLet x
                  · right; exact ⟨rfl, by simpa [isOn, h] using hxo⟩
                  · left; rfl
                have HO : Hid (isOn x = true) := hxo
                clear hxo
                rcases hxx with hx1 | ⟨hx1, hx2⟩
                · have X1 : Hid (isLet x = true) := hx1
                  clear hx1
                  go_wp2_with (go_at_call 20; refine (letter_c x _).mono ?_; rintro e w2 ⟨rfl, he⟩; rw [X1.out]; subst he)
                  go_round
                  case rel =>
                    refine ⟨m + 1, by omega, by go_num, ?_⟩
                    have h1 := HR.out
                    rw [run_drop _ _ _ hxk, XL.out hxk, if_pos HO.out] at h1
                    rw [← Nat.add_assoc]
                    omega
                  case measure => simp [intOf]; omega
                · have X1 : Hid (isLet x = false) := hx1
                  have X2 : Hid (isDig x = true) := hx2
                  clear hx1 hx2
                  go_wp2_with (first
                    | (go_at_call 20; refine (letter_c x _).mono ?_; rintro e w2 ⟨rfl, he⟩; rw [X1.out]; subst he)
                    | (go_at_call 21; refine (rdigit_c x _).mono ?_; rintro e w2 ⟨rfl, he⟩; rw [X2.out]; subst he))
                  go_round
                  case rel =>
                    refine ⟨m + 1, by omega, by go_num, ?_⟩
                    have h1 := HR.out
                    rw [run_drop _ _ _ hxk, XL.out hxk, if_pos HO.out] at h1
                    rw [← Nat.add_assoc]
                    omega
                  case measure => simp [intOf]; omega
              · have hm0 : m = M := by
                  have h1 := HR.out
                  rw [run_drop _ _ _ hxk, XL.out hxk, if_neg hxo] at h1
                  omega
                subst hm0
                have hxn : isLet x = false ∧ isDig x = false := by simpa [isOn] using hxo
                have X1 : Hid (isLet x = false) := hxn.1
                have X2 : Hid (isDig x = false) := hxn.2
                clear hxn hxo
                obtain ⟨s, hs⟩ : ∃ s, (l.drop k).take m = s := ⟨_, rfl⟩
                have HS : Hid ((l.drop k).take m = s) := hs
                have xe : (ofL l).extract k (k + m) = ofL s := by rw [extract_mid, Nat.add_sub_cancel_left, hs]
                have hsl : s.length = m := by rw [← hs]; simp; omega
                have ye := extract_drop l (k + m)
                have hsk : skip false (l.drop (k + m)) ≤ l.length - (k + m) := by
                  have := skip_le false (l.drop (k + m))
                  simpa using this
                clear hs
                have hkk := CL.out
                have TK : Hid (tok (l.drop k) = if 40 < m then (20, 0, m) else (0, (if isWord s then 3 else 1), m)) := by
                  have := tok_name hk (by rw [hkk]; exact HL.out)
                  rw [HM.out, HS.out] at this
                  exact this
                clear hkk
                by_cases h40 : 40 < m
                · have hAe := R.out.err hk (by rw [TK.out, if_pos h40]) (by decide)
                  subst hAe
                  go_wp2_with (first
                    | (go_at_call 21; have MK' := MK; refine (rdigit_c c _).mono ?_; rintro e w3 ⟨rfl, he⟩; rw [HD.out]; subst he)
                    | (go_at_call 21; refine (rdigit_c x _).mono ?_; rintro e w2 ⟨rfl, he⟩; rw [X2.out]; subst he; have MK : Hid (0 < 1) := Nat.one_pos)
                    | (go_at_call 20; refine (letter_c x _).mono ?_; rintro e w2 ⟨rfl, he⟩; rw [X1.out]; subst he))
                  go_ret3
                  exact ⟨⟨_, rfl, World.ownsRow_nil _ _ _ _⟩, R.out.below⟩
                · cases hqq : isWord s
                  · have QW : Hid (isWord s = false) := hqq
                    have HT : Hid (tok (l.drop k) = (0, 1, m)) := by
                      have := TK.out
                      rw [if_neg h40, hqq] at this
                      exact this
                    have hmp := (tok_len HT.out).1
                    clear hqq
                    go_wp2_with (first
                      | (go_at_call 21; have MK' := MK; refine (rdigit_c c _).mono ?_; rintro e w3 ⟨rfl, he⟩; rw [HD.out]; subst he)
                      | (go_at_call 21; refine (rdigit_c x _).mono ?_; rintro e w2 ⟨rfl, he⟩; rw [X2.out]; subst he; have MK : Hid (0 < 1) := Nat.one_pos)
                      | (go_at_call 20; refine (letter_c x _).mono ?_; rintro e w2 ⟨rfl, he⟩; rw [X1.out]; subst he)
                      | (go_at_call 14; refine (rword_c s _).mono ?_; rintro e w4 ⟨rfl, hb⟩; rw [QW.out]; have O4 : Hid (w4.ownsRow w1.heap.size 37 3 u5 acc.length (cellsT acc)) := owns_below R.out.owns hb; have B4 : Hid (Below w1.heap.size w1 w4) := R.out.below.trans (hb.mono R.out.below.size); clear hb)
                      | (at_builtin; refine wpList_append_own _ rfl _ _ 22 rfl w1.heap.size 37 i0 (.agg #[.int .i64 0, .string ⟨#[]⟩, .int .i64 0]) 3 32 Tryd.underlying22 hi hz0 hz1 hz2 rfl (by decide) _ _ _ rfl (O4.out.alloc _) ⟨w4.heap.size, 0, none⟩ 1 1 [.int .i64 1, .string (ofL s), .int .i64 (k : Int)] rfl rfl (cell_three_new _ _ _ _ _) ?_ ?_ ?_ ?_ ?_; (focus (intro x hx; simp at hx; rcases hx with rfl | rfl | rfl <;> rfl)); (focus (unfold maxLen; omega)); (focus omega); (focus (have := B4.out.size; simp; omega)); intro v' w5 hown' hgrow' hnil'; have O5 : Hid (w5.ownsRow w1.heap.size 37 3 v' (acc.length + 1) (cellsT acc ++ [.int .i64 1, .string (ofL s), .int .i64 (k : Int)])) := hown'; have B5 : Hid (Below w1.heap.size w1 w5) := Below.grown (B4.out.alloc B4.out.size _) hgrow' (Nat.le_trans B4.out.size (by simp)) (fun g e => (O4.out.lt g e).1); clear hown' hgrow' hnil')
                      | (go_at_call 19; refine (rblank_c (l.drop (k + m)) _ ?_).mono ?_; (focus (simp; omega)); rintro e w6 ⟨rfl, he⟩; subst he))
                    go_roundw
                    case rel => exact ⟨_, _, _, by go_num, R.out.step hk HT.out HS.out O5.out B5.out (Below.refl _ _)⟩
                    case measure => simp [intOf]; omega
                  · have QW : Hid (isWord s = true) := hqq
                    have HT : Hid (tok (l.drop k) = (0, 3, m)) := by
                      have := TK.out
                      rw [if_neg h40, hqq] at this
                      exact this
                    have hmp := (tok_len HT.out).1
                    clear hqq
                    go_wp2_with (first
                      | (go_at_call 21; have MK' := MK; refine (rdigit_c c _).mono ?_; rintro e w3 ⟨rfl, he⟩; rw [HD.out]; subst he)
                      | (go_at_call 21; refine (rdigit_c x _).mono ?_; rintro e w2 ⟨rfl, he⟩; rw [X2.out]; subst he; have MK : Hid (0 < 1) := Nat.one_pos)
                      | (go_at_call 20; refine (letter_c x _).mono ?_; rintro e w2 ⟨rfl, he⟩; rw [X1.out]; subst he)
                      | (go_at_call 14; refine (rword_c s _).mono ?_; rintro e w4 ⟨rfl, hb⟩; rw [QW.out]; have O4 : Hid (w4.ownsRow w1.heap.size 37 3 u5 acc.length (cellsT acc)) := owns_below R.out.owns hb; have B4 : Hid (Below w1.heap.size w1 w4) := R.out.below.trans (hb.mono R.out.below.size); clear hb)
                      | (at_builtin; refine wpList_append_own _ rfl _ _ 22 rfl w1.heap.size 37 i0 (.agg #[.int .i64 0, .string ⟨#[]⟩, .int .i64 0]) 3 32 Tryd.underlying22 hi hz0 hz1 hz2 rfl (by decide) _ _ _ rfl (O4.out.alloc _) ⟨w4.heap.size, 0, none⟩ 1 1 [.int .i64 3, .string (ofL s), .int .i64 (k : Int)] rfl rfl (cell_three_new _ _ _ _ _) ?_ ?_ ?_ ?_ ?_; (focus (intro x hx; simp at hx; rcases hx with rfl | rfl | rfl <;> rfl)); (focus (unfold maxLen; omega)); (focus omega); (focus (have := B4.out.size; simp; omega)); intro v' w5 hown' hgrow' hnil'; have O5 : Hid (w5.ownsRow w1.heap.size 37 3 v' (acc.length + 1) (cellsT acc ++ [.int .i64 3, .string (ofL s), .int .i64 (k : Int)])) := hown'; have B5 : Hid (Below w1.heap.size w1 w5) := Below.grown (B4.out.alloc B4.out.size _) hgrow' (Nat.le_trans B4.out.size (by simp)) (fun g e => (O4.out.lt g e).1); clear hown' hgrow' hnil')
                      | (go_at_call 19; refine (rblank_c (l.drop (k + m)) _ ?_).mono ?_; (focus (simp; omega)); rintro e w6 ⟨rfl, he⟩; subst he))
                    go_roundw
                    case rel => exact ⟨_, _, _, by go_num, R.out.step hk HT.out HS.out O5.out B5.out (Below.refl _ _)⟩
                    case measure => simp [intOf]; omega
            · have hm0 : m = M := by
                have h1 := HR.out
                rw [run_end _ _ _ (by omega)] at h1
                omega
              subst hm0
              obtain ⟨s, hs⟩ : ∃ s, (l.drop k).take m = s := ⟨_, rfl⟩
              have HS : Hid ((l.drop k).take m = s) := hs
              have xe : (ofL l).extract k (k + m) = ofL s := by rw [extract_mid, Nat.add_sub_cancel_left, hs]
              have hsl : s.length = m := by rw [← hs]; simp; omega
              have ye := extract_drop l (k + m)
              have hsk : skip false (l.drop (k + m)) ≤ l.length - (k + m) := by
                have := skip_le false (l.drop (k + m))
                simpa using this
              clear hs
              have hkk := CL.out
              have TK : Hid (tok (l.drop k) = if 40 < m then (20, 0, m) else (0, (if isWord s then 3 else 1), m)) := by
                have := tok_name hk (by rw [hkk]; exact HL.out)
                rw [HM.out, HS.out] at this
                exact this
              clear hkk
              by_cases h40 : 40 < m
              · have hAe := R.out.err hk (by rw [TK.out, if_pos h40]) (by decide)
                subst hAe
                go_wp2_with (first
                  | (go_at_call 21; refine (rdigit_c c _).mono ?_; rintro e w3 ⟨rfl, he⟩; rw [HD.out]; subst he))
                go_ret3
                exact ⟨⟨_, rfl, World.ownsRow_nil _ _ _ _⟩, R.out.below⟩
              · cases hqq : isWord s
                · have QW : Hid (isWord s = false) := hqq
                  have HT : Hid (tok (l.drop k) = (0, 1, m)) := by
                    have := TK.out
                    rw [if_neg h40, hqq] at this
                    exact this
                  have hmp := (tok_len HT.out).1
                  clear hqq
                  go_wp2_with (first
                    | (go_at_call 21; refine (rdigit_c c _).mono ?_; rintro e w3 ⟨rfl, he⟩; rw [HD.out]; subst he)
                    | (go_at_call 14; refine (rword_c s _).mono ?_; rintro e w4 ⟨rfl, hb⟩; rw [QW.out]; have O4 : Hid (w4.ownsRow w1.heap.size 37 3 u5 acc.length (cellsT acc)) := owns_below R.out.owns hb; have B4 : Hid (Below w1.heap.size w1 w4) := R.out.below.trans (hb.mono R.out.below.size); clear hb)
                    | (at_builtin; refine wpList_append_own _ rfl _ _ 22 rfl w1.heap.size 37 i0 (.agg #[.int .i64 0, .string ⟨#[]⟩, .int .i64 0]) 3 32 Tryd.underlying22 hi hz0 hz1 hz2 rfl (by decide) _ _ _ rfl (O4.out.alloc _) ⟨w4.heap.size, 0, none⟩ 1 1 [.int .i64 1, .string (ofL s), .int .i64 (k : Int)] rfl rfl (cell_three_new _ _ _ _ _) ?_ ?_ ?_ ?_ ?_; (focus (intro x hx; simp at hx; rcases hx with rfl | rfl | rfl <;> rfl)); (focus (unfold maxLen; omega)); (focus omega); (focus (have := B4.out.size; simp; omega)); intro v' w5 hown' hgrow' hnil'; have O5 : Hid (w5.ownsRow w1.heap.size 37 3 v' (acc.length + 1) (cellsT acc ++ [.int .i64 1, .string (ofL s), .int .i64 (k : Int)])) := hown'; have B5 : Hid (Below w1.heap.size w1 w5) := Below.grown (B4.out.alloc B4.out.size _) hgrow' (Nat.le_trans B4.out.size (by simp)) (fun g e => (O4.out.lt g e).1); clear hown' hgrow' hnil')
                    | (go_at_call 19; refine (rblank_c (l.drop (k + m)) _ ?_).mono ?_; (focus (simp; omega)); rintro e w6 ⟨rfl, he⟩; subst he))
                  go_roundw
                  case rel => exact ⟨_, _, _, by go_num, R.out.step hk HT.out HS.out O5.out B5.out (Below.refl _ _)⟩
                  case measure => simp [intOf]; omega
                · have QW : Hid (isWord s = true) := hqq
                  have HT : Hid (tok (l.drop k) = (0, 3, m)) := by
                    have := TK.out
                    rw [if_neg h40, hqq] at this
                    exact this
                  have hmp := (tok_len HT.out).1
                  clear hqq
                  go_wp2_with (first
                    | (go_at_call 21; refine (rdigit_c c _).mono ?_; rintro e w3 ⟨rfl, he⟩; rw [HD.out]; subst he)
                    | (go_at_call 14; refine (rword_c s _).mono ?_; rintro e w4 ⟨rfl, hb⟩; rw [QW.out]; have O4 : Hid (w4.ownsRow w1.heap.size 37 3 u5 acc.length (cellsT acc)) := owns_below R.out.owns hb; have B4 : Hid (Below w1.heap.size w1 w4) := R.out.below.trans (hb.mono R.out.below.size); clear hb)
                    | (at_builtin; refine wpList_append_own _ rfl _ _ 22 rfl w1.heap.size 37 i0 (.agg #[.int .i64 0, .string ⟨#[]⟩, .int .i64 0]) 3 32 Tryd.underlying22 hi hz0 hz1 hz2 rfl (by decide) _ _ _ rfl (O4.out.alloc _) ⟨w4.heap.size, 0, none⟩ 1 1 [.int .i64 3, .string (ofL s), .int .i64 (k : Int)] rfl rfl (cell_three_new _ _ _ _ _) ?_ ?_ ?_ ?_ ?_; (focus (intro x hx; simp at hx; rcases hx with rfl | rfl | rfl <;> rfl)); (focus (unfold maxLen; omega)); (focus omega); (focus (have := B4.out.size; simp; omega)); intro v' w5 hown' hgrow' hnil'; have O5 : Hid (w5.ownsRow w1.heap.size 37 3 v' (acc.length + 1) (cellsT acc ++ [.int .i64 3, .string (ofL s), .int .i64 (k : Int)])) := hown'; have B5 : Hid (Below w1.heap.size w1 w5) := Below.grown (B4.out.alloc B4.out.size _) hgrow' (Nat.le_trans B4.out.size (by simp)) (fun g e => (O4.out.lt g e).1); clear hown' hgrow' hnil')
                    | (go_at_call 19; refine (rblank_c (l.drop (k + m)) _ ?_).mono ?_; (focus (simp; omega)); rintro e w6 ⟨rfl, he⟩; subst he))
                  go_roundw
                  case rel => exact ⟨_, _, _, by go_num, R.out.step hk HT.out HS.out O5.out B5.out (Below.refl _ _)⟩
                  case measure => simp [intOf]; omega
        · have HD : Hid (isDig c = true) := hd
          have HL : Hid (isLet c = false) := by
            cases h : isLet c
            · exact rfl
            · have := let_dig h
              rw [hd] at this
              cases this
          clear hd hon
          go_wp2_with (first
            | (go_at_call 20; refine (letter_c c _).mono ?_; rintro e w2 ⟨rfl, he⟩; rw [HL.out]; subst he)
            | (go_at_call 21; refine (rdigit_c c _).mono ?_; rintro e w2 ⟨rfl, he⟩; rw [HD.out]; subst he))
          go_loop [7] (fun i => ∃ m : Nat, k + m ≤ l.length ∧ i = .int .i64 (m : Int) ∧ m + run isOn (l.drop (k + m)) = M) (fun i => l.length - k - (intOf i).toNat)
          case atStart => exact ⟨0, by omega, rfl, by simpa using HM.out⟩
          case round =>
            obtain ⟨m, hm2, rfl, hr⟩ := hrel
            have HR : Hid (m + run isOn (l.drop (k + m)) = M) := hr
            clear hr
            obtain ⟨x, hx, hxl⟩ := byte_str l (k + m)
            have XL : Hid (∀ h : k + m < l.length, l[k + m] = x) := hxl
            have hx' : ∀ h : k + m < (ofL l).size, ((ofL l)[k + m].toNat : Int) = (x.toNat : Int) := fun h => by rw [hx h]
            clear hxl hx
            by_cases hxk : k + m < l.length
            · by_cases hxo : isOn x = true
              · have hxx : isLet x = true ∨ (isLet x = false ∧ isDig x = true) := by
                  cases h : isLet x
                  · right; exact ⟨rfl, by simpa [isOn, h] using hxo⟩
                  · left; rfl
                have HO : Hid (isOn x = true) := hxo
                clear hxo
                rcases hxx with hx1 | ⟨hx1, hx2⟩
                · have X1 : Hid (isLet x = true) := hx1
                  clear hx1
                  go_wp2_with (go_at_call 20; refine (letter_c x _).mono ?_; rintro e w2 ⟨rfl, he⟩; rw [X1.out]; subst he)
                  go_round
                  case rel =>
                    refine ⟨m + 1, by omega, by go_num, ?_⟩
                    have h1 := HR.out
                    rw [run_drop _ _ _ hxk, XL.out hxk, if_pos HO.out] at h1
                    rw [← Nat.add_assoc]
                    omega
                  case measure => simp [intOf]; omega
                · have X1 : Hid (isLet x = false) := hx1
                  have X2 : Hid (isDig x = true) := hx2
                  clear hx1 hx2
                  go_wp2_with (first
                    | (go_at_call 20; refine (letter_c x _).mono ?_; rintro e w2 ⟨rfl, he⟩; rw [X1.out]; subst he)
                    | (go_at_call 21; refine (rdigit_c x _).mono ?_; rintro e w2 ⟨rfl, he⟩; rw [X2.out]; subst he))
                  go_round
                  case rel =>
                    refine ⟨m + 1, by omega, by go_num, ?_⟩
                    have h1 := HR.out
                    rw [run_drop _ _ _ hxk, XL.out hxk, if_pos HO.out] at h1
                    rw [← Nat.add_assoc]
                    omega
                  case measure => simp [intOf]; omega
              · have hm0 : m = M := by
                  have h1 := HR.out
                  rw [run_drop _ _ _ hxk, XL.out hxk, if_neg hxo] at h1
                  omega
                subst hm0
                have hxn : isLet x = false ∧ isDig x = false := by simpa [isOn] using hxo
                have X1 : Hid (isLet x = false) := hxn.1
                have X2 : Hid (isDig x = false) := hxn.2
                clear hxn hxo
                obtain ⟨s, hs⟩ : ∃ s, (l.drop k).take m = s := ⟨_, rfl⟩
                have HS : Hid ((l.drop k).take m = s) := hs
                have xe : (ofL l).extract k (k + m) = ofL s := by rw [extract_mid, Nat.add_sub_cancel_left, hs]
                have hsl : s.length = m := by rw [← hs]; simp; omega
                have ye := extract_drop l (k + m)
                have hsk : skip false (l.drop (k + m)) ≤ l.length - (k + m) := by
                  have := skip_le false (l.drop (k + m))
                  simpa using this
                clear hs
                have hkk := CL.out
                have TK : Hid (tok (l.drop k) = if (numA s).2.2 = 0 then (0, 2, m) else (21, 0, m)) := by
                  have := tok_int hk (by rw [hkk]; exact HL.out) (by rw [hkk]; exact HD.out)
                  rw [HM.out, HS.out] at this
                  exact this
                clear hkk
                rcases numA_err s with ⟨_, hne⟩ | ⟨_, hne⟩
                · have NE : Hid ((numA s).2.2 = 21) := hne
                  have hAe := R.out.err (x := 21) hk (by rw [TK.out, hne, if_neg (by decide)]) (by decide)
                  subst hAe
                  clear hne
                  go_wp2_with (first
                    | (go_at_call 21; have MK' := MK; refine (rdigit_c c _).mono ?_; rintro e w3 ⟨rfl, he⟩; rw [HD.out]; subst he)
                    | (go_at_call 21; refine (rdigit_c x _).mono ?_; rintro e w2 ⟨rfl, he⟩; rw [X2.out]; subst he; have MK : Hid (0 < 1) := Nat.one_pos)
                    | (go_at_call 20; refine (letter_c x _).mono ?_; rintro e w2 ⟨rfl, he⟩; rw [X1.out]; subst he)
                    | (go_at_call 12; refine (rnumber_c s _ ?_).mono ?_; (focus omega); rintro e w4 ⟨rfl, hb⟩; rw [NE.out]; have O4 : Hid (w4.ownsRow w1.heap.size 37 3 u5 acc.length (cellsT acc)) := owns_below R.out.owns hb; have B4 : Hid (Below w1.heap.size w1 w4) := R.out.below.trans (hb.mono R.out.below.size); clear hb))
                  go_ret3
                  exact ⟨⟨_, rfl, World.ownsRow_nil _ _ _ _⟩, B4.out⟩
                · have NE : Hid ((numA s).2.2 = 0) := hne
                  have HT : Hid (tok (l.drop k) = (0, 2, m)) := by
                    have := TK.out
                    rw [hne, if_pos rfl] at this
                    exact this
                  have hmp := (tok_len HT.out).1
                  clear hne
                  go_wp2_with (first
                    | (go_at_call 21; have MK' := MK; refine (rdigit_c c _).mono ?_; rintro e w3 ⟨rfl, he⟩; rw [HD.out]; subst he)
                    | (go_at_call 21; refine (rdigit_c x _).mono ?_; rintro e w2 ⟨rfl, he⟩; rw [X2.out]; subst he; have MK : Hid (0 < 1) := Nat.one_pos)
                    | (go_at_call 20; refine (letter_c x _).mono ?_; rintro e w2 ⟨rfl, he⟩; rw [X1.out]; subst he)
                    | (go_at_call 12; refine (rnumber_c s _ ?_).mono ?_; (focus omega); rintro e w4 ⟨rfl, hb⟩; rw [NE.out]; have O4 : Hid (w4.ownsRow w1.heap.size 37 3 u5 acc.length (cellsT acc)) := owns_below R.out.owns hb; have B4 : Hid (Below w1.heap.size w1 w4) := R.out.below.trans (hb.mono R.out.below.size); clear hb)
                    | (at_builtin; refine wpList_append_own _ rfl _ _ 22 rfl w1.heap.size 37 i0 (.agg #[.int .i64 0, .string ⟨#[]⟩, .int .i64 0]) 3 32 Tryd.underlying22 hi hz0 hz1 hz2 rfl (by decide) _ _ _ rfl (O4.out.alloc _) ⟨w4.heap.size, 0, none⟩ 1 1 [.int .i64 2, .string (ofL s), .int .i64 (k : Int)] rfl rfl (cell_three_new _ _ _ _ _) ?_ ?_ ?_ ?_ ?_; (focus (intro x hx; simp at hx; rcases hx with rfl | rfl | rfl <;> rfl)); (focus (unfold maxLen; omega)); (focus omega); (focus (have := B4.out.size; simp; omega)); intro v' w5 hown' hgrow' hnil'; have O5 : Hid (w5.ownsRow w1.heap.size 37 3 v' (acc.length + 1) (cellsT acc ++ [.int .i64 2, .string (ofL s), .int .i64 (k : Int)])) := hown'; have B5 : Hid (Below w1.heap.size w1 w5) := Below.grown (B4.out.alloc B4.out.size _) hgrow' (Nat.le_trans B4.out.size (by simp)) (fun g e => (O4.out.lt g e).1); clear hown' hgrow' hnil')
                    | (go_at_call 19; refine (rblank_c (l.drop (k + m)) _ ?_).mono ?_; (focus (simp; omega)); rintro e w6 ⟨rfl, he⟩; subst he))
                  go_roundw
                  case rel => exact ⟨_, _, _, by go_num, R.out.step hk HT.out HS.out O5.out B5.out (Below.refl _ _)⟩
                  case measure => simp [intOf]; omega
            · have hm0 : m = M := by
                have h1 := HR.out
                rw [run_end _ _ _ (by omega)] at h1
                omega
              subst hm0
              obtain ⟨s, hs⟩ : ∃ s, (l.drop k).take m = s := ⟨_, rfl⟩
              have HS : Hid ((l.drop k).take m = s) := hs
              have xe : (ofL l).extract k (k + m) = ofL s := by rw [extract_mid, Nat.add_sub_cancel_left, hs]
              have hsl : s.length = m := by rw [← hs]; simp; omega
              have ye := extract_drop l (k + m)
              have hsk : skip false (l.drop (k + m)) ≤ l.length - (k + m) := by
                have := skip_le false (l.drop (k + m))
                simpa using this
              clear hs
              have hkk := CL.out
              have TK : Hid (tok (l.drop k) = if (numA s).2.2 = 0 then (0, 2, m) else (21, 0, m)) := by
                have := tok_int hk (by rw [hkk]; exact HL.out) (by rw [hkk]; exact HD.out)
                rw [HM.out, HS.out] at this
                exact this
              clear hkk
              rcases numA_err s with ⟨_, hne⟩ | ⟨_, hne⟩
              · have NE : Hid ((numA s).2.2 = 21) := hne
                have hAe := R.out.err (x := 21) hk (by rw [TK.out, hne, if_neg (by decide)]) (by decide)
                subst hAe
                clear hne
                go_wp2_with (first
                  | (go_at_call 21; refine (rdigit_c c _).mono ?_; rintro e w3 ⟨rfl, he⟩; rw [HD.out]; subst he)
                  | (go_at_call 12; refine (rnumber_c s _ ?_).mono ?_; (focus omega); rintro e w4 ⟨rfl, hb⟩; rw [NE.out]; have O4 : Hid (w4.ownsRow w1.heap.size 37 3 u5 acc.length (cellsT acc)) := owns_below R.out.owns hb; have B4 : Hid (Below w1.heap.size w1 w4) := R.out.below.trans (hb.mono R.out.below.size); clear hb))
                go_ret3
                exact ⟨⟨_, rfl, World.ownsRow_nil _ _ _ _⟩, B4.out⟩
              · have NE : Hid ((numA s).2.2 = 0) := hne
                have HT : Hid (tok (l.drop k) = (0, 2, m)) := by
                  have := TK.out
                  rw [hne, if_pos rfl] at this
                  exact this
                have hmp := (tok_len HT.out).1
                clear hne
                go_wp2_with (first
                  | (go_at_call 21; refine (rdigit_c c _).mono ?_; rintro e w3 ⟨rfl, he⟩; rw [HD.out]; subst he)
                  | (go_at_call 12; refine (rnumber_c s _ ?_).mono ?_; (focus omega); rintro e w4 ⟨rfl, hb⟩; rw [NE.out]; have O4 : Hid (w4.ownsRow w1.heap.size 37 3 u5 acc.length (cellsT acc)) := owns_below R.out.owns hb; have B4 : Hid (Below w1.heap.size w1 w4) := R.out.below.trans (hb.mono R.out.below.size); clear hb)
                  | (at_builtin; refine wpList_append_own _ rfl _ _ 22 rfl w1.heap.size 37 i0 (.agg #[.int .i64 0, .string ⟨#[]⟩, .int .i64 0]) 3 32 Tryd.underlying22 hi hz0 hz1 hz2 rfl (by decide) _ _ _ rfl (O4.out.alloc _) ⟨w4.heap.size, 0, none⟩ 1 1 [.int .i64 2, .string (ofL s), .int .i64 (k : Int)] rfl rfl (cell_three_new _ _ _ _ _) ?_ ?_ ?_ ?_ ?_; (focus (intro x hx; simp at hx; rcases hx with rfl | rfl | rfl <;> rfl)); (focus (unfold maxLen; omega)); (focus omega); (focus (have := B4.out.size; simp; omega)); intro v' w5 hown' hgrow' hnil'; have O5 : Hid (w5.ownsRow w1.heap.size 37 3 v' (acc.length + 1) (cellsT acc ++ [.int .i64 2, .string (ofL s), .int .i64 (k : Int)])) := hown'; have B5 : Hid (Below w1.heap.size w1 w5) := Below.grown (B4.out.alloc B4.out.size _) hgrow' (Nat.le_trans B4.out.size (by simp)) (fun g e => (O4.out.lt g e).1); clear hown' hgrow' hnil')
                  | (go_at_call 19; refine (rblank_c (l.drop (k + m)) _ ?_).mono ?_; (focus (simp; omega)); rintro e w6 ⟨rfl, he⟩; subst he))
                go_roundw
                case rel => exact ⟨_, _, _, by go_num, R.out.step hk HT.out HS.out O5.out B5.out (Below.refl _ _)⟩
                case measure => simp [intOf]; omega
      · have hno : isLet c = false ∧ isDig c = false := by simpa [isOn] using hon
        have HL : Hid (isLet c = false) := hno.1
        have HD : Hid (isDig c = false) := hno.2
        clear hno hon
        obtain ⟨m, hM⟩ : ∃ m, signLen (l.drop k) = m := ⟨_, rfl⟩
        have HM : Hid (signLen (l.drop k) = m) := hM
        have hm2 : k + m ≤ l.length := by
          have := (signLen_le (l.drop k)).2
          simp at this
          omega
        clear hM
        have ye0 := extract_drop l k
        obtain ⟨s, hs⟩ : ∃ s, (l.drop k).take m = s := ⟨_, rfl⟩
        have HS : Hid ((l.drop k).take m = s) := hs
        have xe : (ofL l).extract k (k + m) = ofL s := by rw [extract_mid, Nat.add_sub_cancel_left, hs]
        have ye := extract_drop l (k + m)
        have hsk : skip false (l.drop (k + m)) ≤ l.length - (k + m) := by
          have := skip_le false (l.drop (k + m))
          simpa using this
        clear hs
        have hkk := CL.out
        have TK : Hid (tok (l.drop k) = if 0 < m then (0, 4, m) else (20, 0, 0)) := by
          have := tok_sign hk (by rw [hkk]; exact HL.out) (by rw [hkk]; exact HD.out)
          rw [HM.out] at this
          exact this
        clear hkk
        by_cases h0 : m = 0
        · have hAe := R.out.err (x := 20) hk (by rw [TK.out, if_neg (by omega)]) (by decide)
          subst hAe h0
          go_wp2_with (first
            | (go_at_call 20; refine (letter_c c _).mono ?_; rintro e w2 ⟨rfl, he⟩; rw [HL.out]; subst he)
            | (go_at_call 21; refine (rdigit_c c _).mono ?_; rintro e w2 ⟨rfl, he⟩; rw [HD.out]; subst he)
            | (go_at_call 22; refine (rsign_c (l.drop k) _).mono ?_; rintro e w4 ⟨rfl, hb⟩; rw [HM.out]; have O4 : Hid (w4.ownsRow w1.heap.size 37 3 u5 acc.length (cellsT acc)) := owns_below R.out.owns hb; have B4 : Hid (Below w1.heap.size w1 w4) := R.out.below.trans (hb.mono R.out.below.size); clear hb))
          go_ret3
          exact ⟨⟨_, rfl, World.ownsRow_nil _ _ _ _⟩, B4.out⟩
        · have HT : Hid (tok (l.drop k) = (0, 4, m)) := by
            have := TK.out
            rw [if_pos (by omega)] at this
            exact this
          have hmp : 0 < m := by omega
          have n0 : ¬ (m : Int) = 0 := by omega
          have n1 : ((m : Int) == 0) = false := by simpa using n0
          go_wp2_with (first
            | (go_at_call 20; refine (letter_c c _).mono ?_; rintro e w2 ⟨rfl, he⟩; rw [HL.out]; subst he)
            | (go_at_call 21; refine (rdigit_c c _).mono ?_; rintro e w2 ⟨rfl, he⟩; rw [HD.out]; subst he)
            | (go_at_call 22; refine (rsign_c (l.drop k) _).mono ?_; rintro e w4 ⟨rfl, hb⟩; rw [HM.out]; have O4 : Hid (w4.ownsRow w1.heap.size 37 3 u5 acc.length (cellsT acc)) := owns_below R.out.owns hb; have B4 : Hid (Below w1.heap.size w1 w4) := R.out.below.trans (hb.mono R.out.below.size); clear hb)
            | (at_builtin; refine wpList_append_own _ rfl _ _ 22 rfl w1.heap.size 37 i0 (.agg #[.int .i64 0, .string ⟨#[]⟩, .int .i64 0]) 3 32 Tryd.underlying22 hi hz0 hz1 hz2 rfl (by decide) _ _ _ rfl (O4.out.alloc _) ⟨w4.heap.size, 0, none⟩ 1 1 [.int .i64 4, .string (ofL s), .int .i64 (k : Int)] rfl rfl (cell_three_new _ _ _ _ _) ?_ ?_ ?_ ?_ ?_; (focus (intro x hx; simp at hx; rcases hx with rfl | rfl | rfl <;> rfl)); (focus (unfold maxLen; omega)); (focus omega); (focus (have := B4.out.size; simp; omega)); intro v' w5 hown' hgrow' hnil'; have O5 : Hid (w5.ownsRow w1.heap.size 37 3 v' (acc.length + 1) (cellsT acc ++ [.int .i64 4, .string (ofL s), .int .i64 (k : Int)])) := hown'; have B5 : Hid (Below w1.heap.size w1 w5) := Below.grown (B4.out.alloc B4.out.size _) hgrow' (Nat.le_trans B4.out.size (by simp)) (fun g e => (O4.out.lt g e).1); clear hown' hgrow' hnil')
            | (go_at_call 19; refine (rblank_c (l.drop (k + m)) _ ?_).mono ?_; (focus (simp; omega)); rintro e w6 ⟨rfl, he⟩; subst he))
          go_roundw
          case rel => exact ⟨_, _, _, by go_num, R.out.step hk HT.out HS.out O5.out B5.out (Below.refl _ _)⟩
          case measure => simp [intOf]; omega
    · go_wp2
      have hA := R.out.stop hk
      subst hA
      go_ret3
      exact ⟨⟨_, rfl, R.out.owns⟩, R.out.below⟩
end Go.Proofs.YtbfelkcaakpdiaaDoor
