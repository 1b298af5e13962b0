/-
  Proved: what bytes.Equal, bytes.HasPrefix answer for slices of bytes, wherever they lie; nothing in memory turns.
-/
import Derived.Test.YtbfelkcaakpdiaaDoorBase
import Derived.Laws.IdiomStrings
import Derived.WalkSpells
namespace Go.Proofs.YtbfelkcaakpdiaaDoor
open Go.RowKit

theorem ofL_inj {a b : Bs} (h : ofL a = ofL b) : a = b := by
  have := congrArg (fun x => x.data.toList) h
  simpa [ofL] using this

theorem ofL_toList (a : Bs) : (ofL a).toList = a := by
  rw [ByteArray.toList_eq]; simp [ofL]

theorem ofL_size (a : Bs) : (ofL a).size = a.length := by simp [ofL, ByteArray.size]

theorem conv {w : World} {b o : Nat} {l : Bs} (hb : BA w b o l) (cap : Nat) : (convert 39 9 (.slice (some ⟨b, o, none⟩) l.length cap)).run Tryd.prog w = .ok (.string (ofL l)) w :=
  run_convert_bytes_back w 39 9 5 ⟨b, o, none⟩ cap l Tryd.underlying39 Tryd.underlying5 Tryd.underlying9 (fun j hj => by
    have h := hb.cell j hj
    by_cases h0 : j = 0
    · subst h0; simpa [Addr.add] using h
    · simpa [Addr.add, h0] using h)

theorem equal_c (b1 o1 c1 b2 o2 c2 n1 n2 : Nat) (l1 l2 : Bs) (w : World) (h1 : BA w b1 o1 l1) (h2 : BA w b2 o2 l2) (e1 : l1.length = n1) (e2 : l2.length = n2) :
    Calls Tryd.prog 44 #[.slice (some ⟨b1, o1, none⟩) n1 c1, .slice (some ⟨b2, o2, none⟩) n2 c2] w fun e w' => e = .returned (.bool (l1 == l2)) ∧ w' = w := by
  subst e1 e2
  have g1 := conv h1 c1
  have g2 := conv h2 c2
  clear h1 h2
  go_enter Tryd.func44, Tryd.ntmps44
  go_wp2
  go_ret
  simp [ofL_toList]

theorem BA.take {w : World} {b o : Nat} {l : Bs} (h : BA w b o l) (n : Nat) : BA w b o (l.take n) :=
  ⟨h.lt, fun i hi => by rw [h.cell i (by simp at hi; omega)]; simp⟩

theorem BA.drop {w : World} {b o : Nat} {l : Bs} (h : BA w b o l) (n : Nat) : BA w b (o + n) (l.drop n) :=
  ⟨h.lt, fun i hi => by rw [Nat.add_assoc, h.cell (n + i) (by simp at hi; omega)]; simp⟩

theorem pre_eq (l1 l2 : Bs) : l2.isPrefixOf l1 = (decide (l2.length ≤ l1.length) && (l1.take l2.length == l2)) := by
  rw [Bool.eq_iff_iff]
  simp only [List.isPrefixOf_iff_prefix, Bool.and_eq_true, decide_eq_true_eq, beq_iff_eq]
  rw [List.prefix_iff_eq_take]
  constructor
  · intro h
    refine ⟨?_, h.symm⟩
    have := congrArg List.length h
    simp at this
    omega
  · intro h; exact h.2.symm

theorem hasPrefix_c (b1 o1 c1 b2 o2 c2 : Nat) (l1 l2 : Bs) (w : World) (h1 : BA w b1 o1 l1) (h2 : BA w b2 o2 l2) (hc : l1.length ≤ c1) :
    Calls Tryd.prog 42 #[.slice (some ⟨b1, o1, none⟩) l1.length c1, .slice (some ⟨b2, o2, none⟩) l2.length c2] w fun e w' => e = .returned (.bool (l2.isPrefixOf l1)) ∧ w' = w := by
  rw [pre_eq]
  have B1 : Hid (BA w b1 o1 l1) := h1
  have B2 : Hid (BA w b2 o2 l2) := h2
  clear h1 h2
  go_enter Tryd.func42, Tryd.ntmps42
  go_wp2_with (first
      | (go_at_call 44; refine (equal_c b1 o1 _ b2 o2 _ _ _ (l1.take l2.length) l2 _ (B1.out.take _) B2.out ?_ rfl).mono ?_; (focus (simp; omega)); rintro e w' ⟨rfl, rfl⟩)
      | go_in)
  · have h : l2.length ≤ l1.length := by assumption
    go_ret
    simp [h]
  · have h : ¬ l2.length ≤ l1.length := by assumption
    go_ret
    simp [h]

theorem hasPrefix_n (b1 o1 c1 b2 o2 c2 n1 n2 : Nat) (l1 l2 : Bs) (w : World) (h1 : BA w b1 o1 l1) (h2 : BA w b2 o2 l2) (hc : l1.length ≤ c1) (e1 : l1.length = n1) (e2 : l2.length = n2) :
    Calls Tryd.prog 42 #[.slice (some ⟨b1, o1, none⟩) n1 c1, .slice (some ⟨b2, o2, none⟩) n2 c2] w fun e w' => e = .returned (.bool (l2.isPrefixOf l1)) ∧ w' = w := by
  subst e1 e2
  exact hasPrefix_c b1 o1 c1 b2 o2 c2 l1 l2 w h1 h2 hc

theorem skip_line : ∀ l : Bs, skip true l = run isLn l + skip false (l.drop (run isLn l))
  | [] => rfl
  | c :: r => by
    by_cases h : isLn c
    · simp only [skip, run, h, if_true, List.drop_succ_cons]
      rw [skip_line r]; omega
    · have hc : isBl c = true := by
        simp [isLn] at h
        simp [isBl, h]
      simp [skip, run, h, hc]

theorem skip_blank {l : Bs} {k : Nat} {c : UInt8} (h : k < l.length) (e : l[k] = c) (hc : isBl c = true) : skip false (l.drop k) = skip false (l.drop (k + 1)) + 1 := by
  rw [List.drop_eq_getElem_cons h, e]; simp [skip, hc]

theorem skip_slash {l : Bs} (hp : ([47, 47] : Bs).isPrefixOf l = true) : skip false l = run isLn l + skip false (l.drop (run isLn l)) := by
  match l, hp with
  | [_], hp => simp [List.isPrefixOf] at hp
  | a :: b :: r, hp =>
    simp [List.isPrefixOf] at hp
    obtain ⟨rfl, rfl⟩ := hp
    rw [← skip_line]
    rfl

theorem skip_none {l : Bs} {k : Nat} {c : UInt8} (h : k < l.length) (e : l[k] = c) (hc : isBl c = false) (hp : ([47, 47] : Bs).isPrefixOf (l.drop k) = false) : skip false (l.drop k) = 0 := by
  rw [List.drop_eq_getElem_cons h, e] at hp ⊢
  simp only [skip, hc]
  generalize l.drop (k + 1) = r at hp ⊢
  match r, hp with
  | [], _ => simp
  | b :: r, hp =>
    simp [List.isPrefixOf] at hp ⊢
    intro h1 h2
    exact hp h1.symm h2.symm

theorem run_le (p : UInt8 → Bool) : ∀ l : Bs, run p l ≤ l.length
  | [] => Nat.le_refl _
  | c :: r => by
    have := run_le p r
    simp only [run, List.length_cons]
    split <;> omega

theorem skip_end {l : Bs} {k : Nat} (h : l.length ≤ k) : skip false (l.drop k) = 0 := by
  rw [List.drop_eq_nil_of_le h]; rfl

theorem run_pos_slash {l : Bs} (hp : ([47, 47] : Bs).isPrefixOf l = true) : 0 < run isLn l := by
  match l, hp with
  | [_], hp => simp [List.isPrefixOf] at hp
  | a :: b :: r, hp =>
    simp [List.isPrefixOf] at hp
    obtain ⟨rfl, rfl⟩ := hp
    simp [run, isLn]
end Go.Proofs.YtbfelkcaakpdiaaDoor
