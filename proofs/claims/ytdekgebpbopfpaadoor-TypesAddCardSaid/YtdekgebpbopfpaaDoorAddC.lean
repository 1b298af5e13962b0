/-
  Proved: TypesAdd answers true for all items and types in memory, whatever number.
-/
import Derived.Test.YtdekgebpbopfpaaDoorAddS
import Derived.Test.YtdekgebpbopfpaaDoorAddT
import Derived.Test.YtdekgebpbopfpaaDoorAddU
import Derived.Test.YtdekgebpbopfpaaDoorRefItem
import Derived.Test.YtdekgebpbopfpaaDoorRoundI
namespace Go.Proofs.YtdekgebpbopfpaaDoor
open Go.RowKit

theorem words_ans {is : List It} {t : T} {v : Option Nat} (hv : wrd is t = v) (cs : List Value) (A : Option Addr) (C : Nat) (w : World) (ht : Tab w) (hi : IsIn w is A) (hx : TIn w t cs) : Ans 7 #[.slice A is.length C, .agg cs.toArray] (wrdV v) w := by
  subst hv
  exact words_c is t cs A C w ht hi hx

theorem copy_ans {is : List It} {t : T} {v : Bool} (hv : cpy is t = v) (cs : List Value) (A : Option Addr) (C : Nat) (w : World) (ht : Tab w) (hi : IsIn w is A) (hx : TIn w t cs) : Ans 9 #[.slice A is.length C, .agg cs.toArray] (.bool v) w := by
  subst hv
  exact copy_c is t cs A C w ht hi hx

theorem nil_isin (w : World) : IsIn w [] none := ⟨by simp, fun i hi => absurd hi (Nat.not_lt_zero _)⟩
theorem bool_tin (w : World) : TIn w (.mk 2 ⟨#[]⟩ 0 []) [.int .i64 2, .string ⟨#[]⟩, .int .i64 0, .slice none 0 0] := TIn.of (es := []) ⟨by simp, fun i hi => absurd hi (Nat.not_lt_zero _)⟩

theorem mul_int {m a : Nat} (h1 : m ≤ 8) (h2 : a ≤ 128) : (m : Int) * (a : Int) = ((m * a : Nat) : Int) ∧ m * a ≤ 1024 := ⟨by simp, Nat.mul_le_mul h1 h2⟩

/-- Whether a field can be copied. -/
def cqf (is : List It) (ps : List (ByteArray × T)) (i : Nat) : Bool := match ps[i]? with
  | some p => cpy is p.2
  | none => true

theorem cqf_at (is : List It) (ps : List (ByteArray × T)) (i : Nat) (h : i < ps.length) : cqf is ps i = cpy is (ps[i]'h).2 := by
  unfold cqf
  rw [List.getElem?_eq_getElem h]

set_option maxRecDepth 100000 in
theorem add_c (is : List It) (k : Int) (s : ByteArray) (n : Int) (es : List T) (EA : Option Addr) (EC C : Nat) (A : Option Addr) (y : Int) (w : World) (ht : Tab w) (hi : IsIn w is A) (hs : Siz is)
    (hF : ∀ i (h : i < is.length) j (h' : j < (is[i]'h).ps.length), Fit ((is[i]'h).ps[j]'h').2) (hx : TIn w (.mk k s n es) [.int .i64 k, .string s, .int .i64 n, .slice EA es.length EC]) :
    Ans 3 #[.slice A is.length C, .agg #[.int .i64 k, .string s, .int .i64 n, .slice EA es.length EC], .int .i64 y] (.bool true) w := by
  have B0 : ∀ w', Below (w.alloc (.cells #[.int .i64 k, .string s, .int .i64 n, .slice EA es.length EC] 25)).heap.size (w.alloc (.cells #[.int .i64 k, .string s, .int .i64 n, .slice EA es.length EC] 25)) w' → Below w.heap.size w w' := fun w' h => below_next (below_alloc _ _) h
  by_cases hfew : Few is
  · have FW : ∀ w', Below (w.alloc (.cells #[.int .i64 k, .string s, .int .i64 n, .slice EA es.length EC] 25)).heap.size (w.alloc (.cells #[.int .i64 k, .string s, .int .i64 n, .slice EA es.length EC] 25)) w' → Ans 6 #[.slice A is.length C] (.bool true) w' := fun w' h => (few_c is A C w' (hi.below (B0 w' h)) hs).mono fun e w'' ⟨h1, h2⟩ => ⟨by rw [h1, decide_eq_true (show is.length + (is.map cost).sum < 300 from hfew)], h2⟩
    have WN : ∀ w', Below (w.alloc (.cells #[.int .i64 k, .string s, .int .i64 n, .slice EA es.length EC] 25)).heap.size (w.alloc (.cells #[.int .i64 k, .string s, .int .i64 n, .slice EA es.length EC] 25)) w' → Ans 7 #[.slice none 0 0, .agg #[.int .i64 2, .string ⟨#[]⟩, .int .i64 0, .slice none 0 0]] (.tuple #[.int .i64 1, .bool true]) w' := fun w' h => words_ans bool_wrd _ none 0 w' (ht.below (B0 w' h)) (nil_isin w') (bool_tin w')
    have WB : ∀ w', Below (w.alloc (.cells #[.int .i64 k, .string s, .int .i64 n, .slice EA es.length EC] 25)).heap.size (w.alloc (.cells #[.int .i64 k, .string s, .int .i64 n, .slice EA es.length EC] 25)) w' → Ans 7 #[.slice A is.length C, .agg #[.int .i64 11, .string ⟨#[]⟩, .int .i64 0, .slice (some ⟨w'.heap.size, 0, none⟩) 1 1]] (.tuple #[.int .i64 1, .bool true]) (w'.alloc (.cells #[.int .i64 k, .string s, .int .i64 n, .slice EA es.length EC] 25)) := fun w' h =>
      words_ans (box_wrd is (.mk k s n es)) _ A C _ ((ht.below (B0 w' h)).below (below_alloc _ _)) ((hi.below (B0 w' h)).below (below_alloc _ _)) (one_row (hx.stays (B0 w' h)) 0 11)
    have CB : ∀ w', Below (w.alloc (.cells #[.int .i64 k, .string s, .int .i64 n, .slice EA es.length EC] 25)).heap.size (w.alloc (.cells #[.int .i64 k, .string s, .int .i64 n, .slice EA es.length EC] 25)) w' → Ans 9 #[.slice A is.length C, .agg #[.int .i64 11, .string ⟨#[]⟩, .int .i64 0, .slice (some ⟨w'.heap.size, 0, none⟩) 1 1]] (.bool false) (w'.alloc (.cells #[.int .i64 k, .string s, .int .i64 n, .slice EA es.length EC] 25)) := fun w' h =>
      copy_ans (box_cpy is (.mk k s n es)) _ A C _ ((ht.below (B0 w' h)).below (below_alloc _ _)) ((hi.below (B0 w' h)).below (below_alloc _ _)) (one_row (hx.stays (B0 w' h)) 0 11)
    obtain ⟨m, hm1, hm8, hm⟩ : ∃ m : Nat, 1 ≤ m ∧ m ≤ 8 ∧ 1 + y % 8 = (m : Int) := ⟨(1 + y % 8).toNat, by omega, by omega, by omega⟩
    have WT : ∀ v, wrd is (.mk k s n es) = v → ∀ w', Below (w.alloc (.cells #[.int .i64 k, .string s, .int .i64 n, .slice EA es.length EC] 25)).heap.size (w.alloc (.cells #[.int .i64 k, .string s, .int .i64 n, .slice EA es.length EC] 25)) w' → Ans 7 #[.slice A is.length C, .agg #[.int .i64 k, .string s, .int .i64 n, .slice EA es.length EC]] (wrdV v) w' := fun v hv w' h => words_ans hv _ A C w' (ht.below (B0 w' h)) (hi.below (B0 w' h)) (hx.stays (B0 w' h))
    have WA : ∀ v, wrd is (.mk 10 ⟨#[]⟩ (m : Int) [.mk k s n es]) = v → ∀ w', Below (w.alloc (.cells #[.int .i64 k, .string s, .int .i64 n, .slice EA es.length EC] 25)).heap.size (w.alloc (.cells #[.int .i64 k, .string s, .int .i64 n, .slice EA es.length EC] 25)) w' → Ans 7 #[.slice A is.length C, .agg #[.int .i64 10, .string ⟨#[]⟩, .int .i64 (m : Int), .slice (some ⟨w'.heap.size, 0, none⟩) 1 1]] (wrdV v) (w'.alloc (.cells #[.int .i64 k, .string s, .int .i64 n, .slice EA es.length EC] 25)) := fun v hv w' h =>
      words_ans hv _ A C _ ((ht.below (B0 w' h)).below (below_alloc _ _)) ((hi.below (B0 w' h)).below (below_alloc _ _)) (one_row (hx.stays (B0 w' h)) m 10)
    have SM : (amt is (.mk 10 ⟨#[]⟩ (m : Int) [.mk k s n es])).isSome = false → ∀ w', Below (w.alloc (.cells #[.int .i64 k, .string s, .int .i64 n, .slice EA es.length EC] 25)).heap.size (w.alloc (.cells #[.int .i64 k, .string s, .int .i64 n, .slice EA es.length EC] 25)) w' → Ans 8 #[.slice A is.length C, .agg #[.int .i64 k, .string s, .int .i64 n, .slice EA es.length EC], .int .i64 (m : Int)] (.bool false) w' := fun hv w' h => by
      have := small_c is hfew k s n es EA EC A C (m : Int) w' (hi.below (B0 w' h)) (hx.stays (B0 w' h))
      rw [hv] at this
      exact this
    have IT : ∀ x, fst s is 0 = x → ∀ w', Below (w.alloc (.cells #[.int .i64 k, .string s, .int .i64 n, .slice EA es.length EC] 25)).heap.size (w.alloc (.cells #[.int .i64 k, .string s, .int .i64 n, .slice EA es.length EC] 25)) w' → Ans 10 #[.slice A is.length C, .string s] (fstV x) w' := fun x hv w' h => by
      subst hv
      exact ritem_c is s A C w' (hi.below (B0 w' h))
    have FI : ∃ jv, fstV (fst s is 0) = .int .i64 jv := by cases fst s is 0 <;> exact ⟨_, rfl⟩
    rcases arr_ways is (.mk k s n es) m hm1 with ⟨a, hw1, hw2, ha⟩ | ⟨a, hw1, hw2, ha, hp, hsm⟩ | ⟨a, hw1, hw2, ha, hp⟩ | ⟨hw1, hw2⟩
    · obtain ⟨hp0, hp1⟩ := mul_int hm8 ha
      by_cases hk : k = 9
      · subst hk
        obtain ⟨o', ho1, ho2, ho3⟩ := wrd_some hw1
        obtain ⟨j, hf⟩ := named_some ho1
        obtain ⟨hj, _, hkk⟩ := fst_get hf
        have hj : j < is.length := hj
        have hkk : (is[j]'hj).k = 2 ∨ (is[j]'hj).k = 3 := hkk
        have IJ := IT _ hf
        obtain ⟨b, o, P, pc, V, vc, r, hA, hrow, hps, hvs⟩ := hi.2 j hj
        subst hA
        rcases hkk with h2 | h3
        · obtain ⟨ws, cp, q1, q2, q3, q4, q5, q6⟩ := struct_ways hf hj h2 hw1
          rw [h2] at hrow
          exact add_struct1 s n EA es.length EC is.length C (some ⟨b, o, none⟩) y m hm1 hm8 hm j w a (m * a) hp0 hp1 hj b o rfl (is[j]'hj).ps P pc hps.1 ws cp (cqf is (is[j]'hj).ps)
            (fun w' h => by
              have hr := hrow.below (B0 w' h)
              exact ⟨(celI hr).1, (celI hr).2.2.2.1, hr.1⟩)
            (fun w' h => hps.below (B0 w' h)) q1 q2 ⟨q4, fun i hi' => by rw [q5 i hi', cqf_at is _ i hi']⟩
            (fun i hi' w' cs h hc => words_ans (q3 i hi') cs _ C w' (ht.below (B0 w' h)) (hi.below (B0 w' h)) hc)
            (fun i hi' w' cs h hc => copy_ans (cqf_at is _ i hi').symm cs _ C w' (ht.below (B0 w' h)) (hi.below (B0 w' h)) hc)
            (fun i hi' => by
              obtain ⟨f, hf1, hf2, hf3, hf4⟩ := first_idx (is[j]'hj).ps ((is[j]'hj).ps[i]'hi').1 (i + 1) i (Nat.lt_succ_self _) hi' rfl
              refine ⟨f, ((is[j]'hj).ps[f]'hf1).2, hf2, fun e => by subst e; rfl, fun w' h => ?_⟩
              exact (field_c is s n EA es.length EC C _ _ w' (ht.below (B0 w' h)) (hi.below (B0 w' h)) j hf hj h2 (fun i' h' => by obtain ⟨N, hN⟩ := hF j hj i' h'; exact fit_copied N _ hN) ws q1 q3 ⟨i, hi', rfl⟩).mono fun e w'' ⟨g1, g2⟩ => ⟨fld_at g1 hf1 hf3 hf4, g2⟩)
            (fun w' h => copy_ans q6 _ _ C w' (ht.below (B0 w' h)) (hi.below (B0 w' h)) (hx.stays (B0 w' h)))
            FW WN (WT _ hw1) (WA _ hw2) WB CB IJ
        · rw [h3] at hrow
          exact add_enum1 s n EA es.length EC is.length C (some ⟨b, o, none⟩) y m hm1 hm8 hm j w a (m * a) hp0 hp1 hj b o rfl
            (fun w' h => by
              have hr := hrow.below (B0 w' h)
              exact ⟨(celI hr).1, hr.1⟩)
            FW WN (WT _ hw1) (WA _ hw2) WB CB IJ
      · obtain ⟨jv, hjv⟩ := FI
        have IJ := IT _ rfl
        rw [hjv] at IJ
        exact add_other1 k s n EA es.length EC is.length C A y m hm1 hm8 hm jv hk w a (m * a) hp0 hp1 FW WN (WT _ hw1) (WA _ hw2) WB CB IJ
    · obtain ⟨hp0, hp1⟩ := mul_int hm8 ha
      by_cases hk : k = 9
      · subst hk
        obtain ⟨o', ho1, ho2, ho3⟩ := wrd_some hw1
        obtain ⟨j, hf⟩ := named_some ho1
        obtain ⟨hj, _, hkk⟩ := fst_get hf
        have hj : j < is.length := hj
        have hkk : (is[j]'hj).k = 2 ∨ (is[j]'hj).k = 3 := hkk
        have IJ := IT _ hf
        obtain ⟨b, o, P, pc, V, vc, r, hA, hrow, hps, hvs⟩ := hi.2 j hj
        subst hA
        rcases hkk with h2 | h3
        · obtain ⟨ws, cp, q1, q2, q3, q4, q5, q6⟩ := struct_ways hf hj h2 hw1
          rw [h2] at hrow
          exact add_struct2 s n EA es.length EC is.length C (some ⟨b, o, none⟩) y m hm1 hm8 hm j w a (m * a) hp0 hp1 hp hj b o rfl (is[j]'hj).ps P pc hps.1 ws cp (cqf is (is[j]'hj).ps)
            (fun w' h => by
              have hr := hrow.below (B0 w' h)
              exact ⟨(celI hr).1, (celI hr).2.2.2.1, hr.1⟩)
            (fun w' h => hps.below (B0 w' h)) q1 q2 ⟨q4, fun i hi' => by rw [q5 i hi', cqf_at is _ i hi']⟩
            (fun i hi' w' cs h hc => words_ans (q3 i hi') cs _ C w' (ht.below (B0 w' h)) (hi.below (B0 w' h)) hc)
            (fun i hi' w' cs h hc => copy_ans (cqf_at is _ i hi').symm cs _ C w' (ht.below (B0 w' h)) (hi.below (B0 w' h)) hc)
            (fun i hi' => by
              obtain ⟨f, hf1, hf2, hf3, hf4⟩ := first_idx (is[j]'hj).ps ((is[j]'hj).ps[i]'hi').1 (i + 1) i (Nat.lt_succ_self _) hi' rfl
              refine ⟨f, ((is[j]'hj).ps[f]'hf1).2, hf2, fun e => by subst e; rfl, fun w' h => ?_⟩
              exact (field_c is s n EA es.length EC C _ _ w' (ht.below (B0 w' h)) (hi.below (B0 w' h)) j hf hj h2 (fun i' h' => by obtain ⟨N, hN⟩ := hF j hj i' h'; exact fit_copied N _ hN) ws q1 q3 ⟨i, hi', rfl⟩).mono fun e w'' ⟨g1, g2⟩ => ⟨fld_at g1 hf1 hf3 hf4, g2⟩)
            (fun w' h => copy_ans q6 _ _ C w' (ht.below (B0 w' h)) (hi.below (B0 w' h)) (hx.stays (B0 w' h)))
            FW WN (WT _ hw1) (WA _ hw2) (SM hsm) WB CB IJ
        · rw [h3] at hrow
          exact add_enum2 s n EA es.length EC is.length C (some ⟨b, o, none⟩) y m hm1 hm8 hm j w a (m * a) hp0 hp1 hp hj b o rfl
            (fun w' h => by
              have hr := hrow.below (B0 w' h)
              exact ⟨(celI hr).1, hr.1⟩)
            FW WN (WT _ hw1) (WA _ hw2) (SM hsm) WB CB IJ
      · obtain ⟨jv, hjv⟩ := FI
        have IJ := IT _ rfl
        rw [hjv] at IJ
        exact add_other2 k s n EA es.length EC is.length C A y m hm1 hm8 hm jv hk w a (m * a) hp0 hp1 hp FW WN (WT _ hw1) (WA _ hw2) (SM hsm) WB CB IJ
    · obtain ⟨hp0, hp1⟩ := mul_int hm8 ha
      by_cases hk : k = 9
      · subst hk
        obtain ⟨o', ho1, ho2, ho3⟩ := wrd_some hw1
        obtain ⟨j, hf⟩ := named_some ho1
        obtain ⟨hj, _, hkk⟩ := fst_get hf
        have hj : j < is.length := hj
        have hkk : (is[j]'hj).k = 2 ∨ (is[j]'hj).k = 3 := hkk
        have IJ := IT _ hf
        obtain ⟨b, o, P, pc, V, vc, r, hA, hrow, hps, hvs⟩ := hi.2 j hj
        subst hA
        rcases hkk with h2 | h3
        · obtain ⟨ws, cp, q1, q2, q3, q4, q5, q6⟩ := struct_ways hf hj h2 hw1
          rw [h2] at hrow
          exact add_struct3 s n EA es.length EC is.length C (some ⟨b, o, none⟩) y m hm1 hm8 hm j w a (m * a) hp0 hp1 hp hj b o rfl (is[j]'hj).ps P pc hps.1 ws cp (cqf is (is[j]'hj).ps)
            (fun w' h => by
              have hr := hrow.below (B0 w' h)
              exact ⟨(celI hr).1, (celI hr).2.2.2.1, hr.1⟩)
            (fun w' h => hps.below (B0 w' h)) q1 q2 ⟨q4, fun i hi' => by rw [q5 i hi', cqf_at is _ i hi']⟩
            (fun i hi' w' cs h hc => words_ans (q3 i hi') cs _ C w' (ht.below (B0 w' h)) (hi.below (B0 w' h)) hc)
            (fun i hi' w' cs h hc => copy_ans (cqf_at is _ i hi').symm cs _ C w' (ht.below (B0 w' h)) (hi.below (B0 w' h)) hc)
            (fun i hi' => by
              obtain ⟨f, hf1, hf2, hf3, hf4⟩ := first_idx (is[j]'hj).ps ((is[j]'hj).ps[i]'hi').1 (i + 1) i (Nat.lt_succ_self _) hi' rfl
              refine ⟨f, ((is[j]'hj).ps[f]'hf1).2, hf2, fun e => by subst e; rfl, fun w' h => ?_⟩
              exact (field_c is s n EA es.length EC C _ _ w' (ht.below (B0 w' h)) (hi.below (B0 w' h)) j hf hj h2 (fun i' h' => by obtain ⟨N, hN⟩ := hF j hj i' h'; exact fit_copied N _ hN) ws q1 q3 ⟨i, hi', rfl⟩).mono fun e w'' ⟨g1, g2⟩ => ⟨fld_at g1 hf1 hf3 hf4, g2⟩)
            (fun w' h => copy_ans q6 _ _ C w' (ht.below (B0 w' h)) (hi.below (B0 w' h)) (hx.stays (B0 w' h)))
            FW WN (WT _ hw1) (WA _ hw2) WB CB IJ
        · rw [h3] at hrow
          exact add_enum3 s n EA es.length EC is.length C (some ⟨b, o, none⟩) y m hm1 hm8 hm j w a (m * a) hp0 hp1 hp hj b o rfl
            (fun w' h => by
              have hr := hrow.below (B0 w' h)
              exact ⟨(celI hr).1, hr.1⟩)
            FW WN (WT _ hw1) (WA _ hw2) WB CB IJ
      · obtain ⟨jv, hjv⟩ := FI
        have IJ := IT _ rfl
        rw [hjv] at IJ
        exact add_other3 k s n EA es.length EC is.length C A y m hm1 hm8 hm jv hk w a (m * a) hp0 hp1 hp FW WN (WT _ hw1) (WA _ hw2) WB CB IJ
    · obtain ⟨jv, hjv⟩ := FI
      have IJ := IT _ rfl
      rw [hjv] at IJ
      exact add_notok k s n EA es.length EC is.length C A y m hm1 hm8 hm jv w FW WN (WT _ hw1) (WA _ hw2) WB CB IJ
  · exact add_many k s n EA es.length EC is.length C A y w fun w' h => (few_c is A C w' (hi.below (B0 w' h)) hs).mono fun e w'' ⟨h1, h2⟩ => ⟨by rw [h1, decide_eq_false (show ¬ is.length + (is.map cost).sum < 300 from hfew)], h2⟩

end Go.Proofs.YtdekgebpbopfpaaDoor
