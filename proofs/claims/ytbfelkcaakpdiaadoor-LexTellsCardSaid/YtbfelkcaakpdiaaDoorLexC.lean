/-
  Proved: lex.Lex answers as the definition 'lex' says, for every text, in every world in which the table lex.signs holds what the program's text lays there; nothing that was in memory turns.
-/
import Derived.Test.YtbfelkcaakpdiaaDoorLex
namespace Go.Proofs.YtbfelkcaakpdiaaDoor
open Go.RowKit
set_option maxHeartbeats 4000000 in
set_option maxRecDepth 20000 in
theorem lex_body (l : Bs) (A : Ans) (w : World) (ht : Tab w) (hm : l.length ≤ 65536) (hA : lexAll l = A) :
    Calls Tryd.prog 8 #[.string (ofL l)] w fun e w' => (∃ v, e = .returned (.tuple #[v, .int .i64 (A.2.1 : Int), .int .i64 (A.2.2 : Int)]) ∧ w'.ownsRow w.heap.size 37 3 v A.1.length (cellsT A.1)) ∧ Below w.heap.size w w' := by
  have T : Hid (Tab w) := ht
  have HA : Hid (lexAll l = A) := hA
  have hz := ofL_size l
  have kc := conv_str
  clear ht hA
  go_enter Tryd.func8, Tryd.ntmps8
  go_wp2_with (first
      | (go_at_call 16; refine (rulesOf_c _ _ l _ (T.out.below (bw_below _ _)) (bw_BA _ _) (bcap_ge _ _) (by omega)).mono ?_; rintro e w2 ⟨rfl, he, hb⟩; have E : Hid (Env w2 (bw w l).heap.size w.heap.size (bcap w l) l) := he; have W : Hid (Below w.heap.size w w2) := below_next (bw_below _ _) hb; clear he hb)
      | (go_at_call 17; refine (pastBlanks_v _ _ 0 _ l _ E.out.ba rfl (Nat.zero_le _) E.out.lc E.out.lm).mono ?_; rintro e w3 ⟨rfl, hb⟩; have E3 : Hid (Env w3 (bw w l).heap.size w.heap.size (bcap w l) l) := E.out.below hb; have W3 : Hid (Below w.heap.size w w3) := below_next W.out hb; clear hb)
      | go_in)
  generalize (bw w l).heap.size = B at *
  generalize bcap w l = cap at *
  have hlen : Hid (l.length ≤ 65536) := hm
  obtain ⟨i0, hi, hz0, hz1, hz2⟩ := info_parts Tryd.info37
  clear kc hz
  go_loopw [7, 8] (fun v i wr => ∃ (k f : Nat) (acc : List Tok), i = .int .i64 (k : Int) ∧ Rel l A w3 wr k v acc f) (fun _ i _ => l.length - (intOf i).toNat)
  case atStart => exact ⟨skip false l, l.length + 1, [], rfl, ⟨skip_le _ _, HA.out, by omega, by simp, World.ownsRow_nil _ _ _ _, Below.refl _ _⟩⟩
  case round =>
    obtain ⟨k, f, acc, rfl, hr⟩ := hrel
    have R : Hid (Rel l A w3 wr k u7 acc f) := hr
    have Er : Hid (Env wr B w.heap.size cap l) := E3.out.below hr.below
    clear hr
    by_cases hk : k < l.length
    · obtain ⟨x, kd, m, htk⟩ : ∃ x kd m, tok (l.drop k) = (x, kd, m) := ⟨_, _, _, rfl⟩
      have HT : Hid (tok (l.drop k) = (x, kd, m)) := htk
      clear htk
      by_cases hx : x = 0
      · subst hx
        have hl := tok_len HT.out
        simp at hl
        obtain ⟨hl1, hl2⟩ := hl
        have hl2' : k + m ≤ l.length := by omega
        obtain ⟨s, hs⟩ : ∃ s, (l.drop k).take m = s := ⟨_, rfl⟩
        have hsl : (ofL s).size = m := by rw [ofL_size, ← hs]; simp; omega
        have HS : Hid ((l.drop k).take m = s) := hs
        have hfew := R.out.few
        clear hs
        go_wp2_with (first
          | (go_at_call 18; refine (tokenAt_ok Er.out k kd m hk HT.out s HS.out).mono ?_; rintro e w4 ⟨rfl, hb⟩; have O4 : Hid (w4.ownsRow w3.heap.size 37 3 u7 acc.length (cellsT acc)) := owns_below R.out.owns hb; have B4 : Hid (Below w3.heap.size w3 w4) := R.out.below.trans (hb.mono R.out.below.size); clear hb)
          | (at_builtin; refine wpList_append_own _ rfl _ _ 22 rfl w3.heap.size 37 i0 (.agg #[.int .i64 0, .string ⟨#[]⟩, .int .i64 0]) 3 32 Tryd.underlying22 hi hz0 hz1 hz2 rfl (by decide) _ _ _ rfl ((O4.out.alloc _).alloc _) ⟨w4.heap.size + 1, 0, none⟩ 1 1 [.int .i64 (kd : Int), .string (ofL s), .int .i64 (k : Int)] rfl rfl (cell_three_two _ _ _ _ _ _) ?_ ?_ ?_ ?_ ?_; (focus (intro x hx; simp at hx; rcases hx with rfl | rfl | rfl <;> rfl)); (focus (unfold maxLen; omega)); (focus omega); (focus (have := B4.out.size; simp; omega)); intro v' w5 hown' hgrow' hnil'; have O5 : Hid (w5.ownsRow w3.heap.size 37 3 v' (acc.length + 1) (cellsT acc ++ [.int .i64 (kd : Int), .string (ofL s), .int .i64 (k : Int)])) := hown'; have hcell := hgrow'.cell (text_cell w4 _ _ _ _) (fun e => Nat.lt_irrefl _ (O4.out.lt _ e.symm).2); have B5 : Hid (Below w3.heap.size w3 w5) := Below.grown ((B4.out.alloc B4.out.size _).alloc (Nat.le_trans B4.out.size (by simp)) _) hgrow' (Nat.le_trans B4.out.size (by simp; omega)) (fun g e => (O4.out.lt g e).1); clear hown' hgrow' hnil')
          | (go_at_call 17; refine (pastBlanks_v _ _ (k + m) _ l _ (E3.out.below B5.out).ba ?_ hl2' E3.out.lc E3.out.lm).mono ?_; (focus (simp)); rintro e w6 ⟨rfl, hb6⟩; have B6 : Hid (Below w5.heap.size w5 w6) := hb6; clear hb6)
          | go_in)
        go_roundw
        case rel => exact ⟨_, _, _, by go_num, R.out.step hk HT.out HS.out O5.out B5.out B6.out⟩
        case measure => simp [intOf]; omega
      · have hx1 : ¬ (x : Int) = 0 := by omega
        have hx2 : ((x : Int) == 0) = false := by simpa using hx1
        have hAe := R.out.err hk HT.out hx
        subst hAe
        go_wp2_with (first
          | (go_at_call 18; refine (tokenAt_err Er.out k x kd m hk HT.out).mono ?_; rintro e w4 ⟨⟨kv, tv, av, rfl⟩, hb⟩; have B4 : Hid (Below w.heap.size w w4) := below_next (W3.out.trans (R.out.below.mono W3.out.size)) hb; clear hb)
          | go_in)
        go_ret3
        exact ⟨⟨_, rfl, World.ownsRow_nil _ _ _ _⟩, below_next B4.out (below_alloc _ _)⟩
    · go_wp2
      have hA := R.out.stop hk
      subst hA
      go_ret3
      exact ⟨⟨_, rfl, owns_mono R.out.owns W3.out.size⟩, W3.out.trans (R.out.below.mono W3.out.size)⟩

theorem lex_big (l : Bs) (w : World) (hm : 65536 < l.length) (_hl : l.length < 4611686018427387904) :
    Calls Tryd.prog 8 #[.string (ofL l)] w fun e w' => e = .returned (.tuple #[.slice none 0 0, .int .i64 0, .int .i64 3]) ∧ w' = w := by
  have hz := ofL_size l
  go_enter Tryd.func8, Tryd.ntmps8
  go_wp2
  all_goals first
    | (go_ret3; exact ⟨rfl, rfl⟩)
    | (exfalso; have : (l.length : Int) ≤ 65536 := by assumption
       omega)

theorem lex_c (l : Bs) (w : World) (ht : Tab w) (hl : l.length < 4611686018427387904) :
    Calls Tryd.prog 8 #[.string (ofL l)] w fun e w' => (∃ v, e = .returned (.tuple #[v, .int .i64 ((lex l).2.1 : Int), .int .i64 ((lex l).2.2 : Int)]) ∧ w'.ownsRow w.heap.size 37 3 v (lex l).1.length (cellsT (lex l).1)) ∧ Below w.heap.size w w' := by
  by_cases h : 65536 < l.length
  · have e : lex l = ([], 0, 3) := by simp only [lex, if_pos h]
    rw [e]
    refine (lex_big l w h hl).mono ?_
    rintro e w' ⟨rfl, rfl⟩
    exact ⟨⟨_, rfl, World.ownsRow_nil _ _ _ _⟩, Below.refl _ _⟩
  · have e : lex l = lexAll l := by simp only [lex, if_neg h]
    rw [e]
    exact lex_body l _ w ht (by omega) rfl
end Go.Proofs.YtbfelkcaakpdiaaDoor
