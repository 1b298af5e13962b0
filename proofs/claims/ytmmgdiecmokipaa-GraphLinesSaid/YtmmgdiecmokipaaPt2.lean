/-
  Proved: what is known of turns while the walk goes on.
-/
import Derived.Test.YtmmgdiecmokipaaPt1
namespace Go.Proofs.Ytmmgdiecmokipaa
open Go.RowKit

/-- The turns that turns were walked to from, as they are told. -/
def prL (ent : List (Nat × Int)) : List Nat := (List.range ent.length).map fun t => idx (ent.take (t + 1)) (ent.getD t (0, 0)).2.toNat

theorem prL_snoc (ent : List (Nat × Int)) (x : Nat × Int) : prL (ent ++ [x]) = prL ent ++ [idx (ent ++ [x]) x.2.toNat] := by
  unfold prL
  rw [List.length_append, List.length_cons, List.length_nil, Nat.zero_add, List.range_succ, List.map_append]
  congr 1
  · apply List.map_congr_left
    intro t ht
    have ht' : t < ent.length := by simpa using ht
    rw [List.take_append_of_le_length (by omega), List.getD_eq_getElem?_getD, List.getD_eq_getElem?_getD, List.getElem?_append_left ht']
  · simp only [List.map_cons, List.map_nil]
    rw [List.take_of_length_le (by simp), List.getD_eq_getElem?_getD, List.getElem?_append_right (by omega)]
    simp

theorem prL_done {n : Nat} {to : List (List Int)} {ent : List (Nat × Int)} {lfl : List Nat} (h : Done n to ent lfl) : prL ent = (List.range ent.length).map (par ent) := by
  unfold prL
  apply List.map_congr_left
  intro t ht
  have ht' : t < ent.length := by simpa using ht
  unfold par idx
  have hm : (ent.getD t (0, 0)).2.toNat ∈ (ent.take (t + 1)).map (·.1) := by
    rcases Nat.eq_zero_or_pos t with h0 | h0
    · subst h0
      obtain ⟨r, rfl⟩ := h.hd
      simp
    · obtain ⟨a, ha, e⟩ := h.fr t h0 ht'
      have h1 := (h.tr.2.1 t h0 ht').1
      unfold par at h1
      rw [e, Int.toNat_natCast] at h1 ⊢
      have h2 : (ent.map (·.1)).idxOf a < (ent.map (·.1)).length := List.idxOf_lt_length_of_mem ha
      have h3 := List.getElem_idxOf h2
      rw [List.map_take]
      refine List.mem_iff_getElem.2 ⟨(ent.map (·.1)).idxOf a, by rw [List.length_take]; simp at h2 ⊢; omega, ?_⟩
      rw [List.getElem_take]
      exact h3
  conv => rhs; rw [← List.take_append_drop (t + 1) ent, List.map_append, List.idxOf_append, if_pos (by rw [List.take_append_drop]; exact hm)]
  rw [List.take_append_drop]

/-- The turns of blocks. -/
def tof (ent : List (Nat × Int)) (b : Nat) : Int := if b ∈ ent.map (·.1) then (idx ent b : Int) else 0

theorem tof_snoc (ent : List (Nat × Int)) (b : Nat) (f : Int) (hb : b ∉ ent.map (·.1)) : tof (ent ++ [(b, f)]) = pu (tof ent) b (ent.length : Int) := by
  funext c
  unfold tof
  by_cases e : c = b
  · subst e
    rw [pu_self, if_pos (by simp), idx_new (x := (c, f)) hb]
  · rw [pu_ne _ _ e]
    by_cases hc : c ∈ ent.map (·.1)
    · rw [if_pos hc, if_pos (by rw [List.map_append]; exact List.mem_append_left _ hc), idx_app hc]
    · rw [if_neg hc, if_neg (by rw [List.map_append]; intro h; rcases List.mem_append.1 h with h | h; exact hc h; simp at h; exact e h)]

/-- The six rows. -/
def rws (ent : List (Nat × Int)) : Nat → List Int
  | 0 => ent.map fun e => (e.1 : Int)
  | 1 => (prL ent).map fun x : Nat => (x : Int)
  | 3 => (List.range ent.length).map fun x : Nat => (x : Int)
  | 4 => (List.range ent.length).map fun _ => (-1 : Int)
  | 5 => (List.range ent.length).map fun x : Nat => (x : Int)
  | _ => []

theorem rws_len (ent : List (Nat × Int)) (i : Nat) (hi : i < 6) (h2 : i ≠ 2) : (rws ent i).length = ent.length := by
  match i, hi, h2 with
  | 0, _, _ => simp [rws]
  | 1, _, _ => simp [rws, prL]
  | 3, _, _ => simp [rws]
  | 4, _, _ => simp [rws]
  | 5, _, _ => simp [rws]

theorem rws_snoc (ent : List (Nat × Int)) (b : Nat) (f : Int) : rws (ent ++ [(b, f)]) = pu (pu (pu (pu (pu (rws ent) 0 (rws ent 0 ++ [(b : Int)])) 1 (rws ent 1 ++ [(idx (ent ++ [(b, f)]) f.toNat : Int)])) 3 (rws ent 3 ++ [(ent.length : Int)])) 4 (rws ent 4 ++ [-1])) 5 (rws ent 5 ++ [(ent.length : Int)]) := by
  funext i
  match i with
  | 0 => simp [rws, pu]
  | 1 => simp [rws, pu, prL_snoc]
  | 2 => simp [rws, pu]
  | 3 => simp [rws, pu, List.range_succ]
  | 4 => simp [rws, pu, List.range_succ]
  | 5 => simp [rws, pu, List.range_succ]
  | i + 6 => simp [rws, pu]

/-- What turnsOf's closures keep. -/
def JT (N n : Nat) : PJ := fun ent _ F w => (∀ e ∈ ent, e.1 < n) ∧ ∃ vs, TT w N n vs (rws ent) (tof ent) ∧ F = Fr N vs

theorem JT.stay (N n : Nat) : Stay (JT N n) := by
  refine ⟨fun ent lf F G w w' h k hG => ?_, fun ent lf F w h b hb => ?_⟩
  · obtain ⟨h0, vs, h1, rfl⟩ := h
    exact ⟨h0, vs, h1.kp k hG, rfl⟩
  · obtain ⟨h0, vs, h1, rfl⟩ := h
    exact (h1.lt hb).2

theorem cf_turns1 (args : Array Value) (w : World) : (callFunc 33 args).run Try.prog w = .ok (.enter 33 args) w := by kernel_rfl
theorem cf_turns2 (args : Array Value) (w : World) : (callFunc 34 args).run Try.prog w = .ok (.enter 34 args) w := by kernel_rfl

theorem JT.ent (N n : Nat) (hn : n ≤ 1000) : Ent (JT N n) n 33 #[.pointer (some ⟨N + 1, 0, none⟩), .pointer (some ⟨N + 3, 0, none⟩)] := by
  intro ent lf F w b f h hb hne hl hf
  obtain ⟨h0, vs, h1, rfl⟩ := h
  have hf2 : max f 0 = (f.toNat : Int) ∧ f.toNat < n ∧ f.toNat ∈ (ent ++ [(b, f)]).map (·.1) := by
    rcases hf with ⟨rfl, rfl, rfl⟩ | ⟨a, ha, rfl⟩
    · exact ⟨rfl, hb, by simp⟩
    · obtain ⟨e, he, rfl⟩ := List.mem_map.1 ha
      have := h0 e he
      refine ⟨by rw [Int.toNat_natCast]; omega, by rw [Int.toNat_natCast]; exact this, ?_⟩
      rw [Int.toNat_natCast, List.map_append]
      exact List.mem_append_left _ ha
  have key := turns1_c w N n vs (rws ent) (tof ent) h1 b hb f f.toNat hf2.1 hf2.2.1 ent.length (by omega) (fun i hi h2 => rws_len ent i hi h2)
  refine key.mono ?_
  rintro e w' ⟨rfl, vs', h3, h4⟩
  refine ⟨rfl, Fr N vs', ⟨fun x hx => ?_, vs', ?_, rfl⟩, h4⟩
  · rcases List.mem_append.1 hx with h | h
    · exact h0 x h
    · simp at h; subst h; exact hb
  · rw [rws_snoc, tof_snoc ent b f hne]
    have e1 : pu (tof ent) b (ent.length : Int) f.toNat = (idx (ent ++ [(b, f)]) f.toNat : Int) := by
      rw [← tof_snoc ent b f hne]
      exact if_pos hf2.2.2
    rw [e1] at h3
    exact h3

theorem JT.lev (N n : Nat) : Lev (JT N n) n 34 #[] := by
  intro ent lf F w b h hl
  have H : Hid (JT N n ent lf F w) := h
  clear h
  show Calls Try.prog 34 #[.int .i64 (b : Int)] w _
  go_enter Try.func34, Try.ntmps34
  go_wp2
  go_end0
  exact ⟨rfl, F, H.out, Gr.of (Kp.refl _ _)⟩
end Go.Proofs.Ytmmgdiecmokipaa
