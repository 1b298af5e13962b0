/-
  Proved: which token lex.tokenAt finds at a place of any source, or that it finds none.
-/
import Derived.Test.YtbfelkcaakpdiaaDoorRules
import Derived.LoopN
import Derived.Laws.EntriesVeiled
namespace Go.Proofs.YtbfelkcaakpdiaaDoor
open Go.RowKit

theorem conv_part {w : World} {sb : Nat} {l : Bs} (h : BA w sb 0 l) (n m : Nat) (hm : n + m ≤ l.length) (cap : Nat) : (convert 39 9 (.slice (some ⟨sb, n, none⟩) m cap)).run Tryd.prog w = .ok (.string (ofL ((l.drop n).take m))) w := by
  have h1 : BA w sb n ((l.drop n).take m) := by
    have := (h.drop n).take m
    rwa [Nat.zero_add] at this
  have h2 := conv h1 cap
  have h3 : ((l.drop n).take m).length = m := by simp; omega
  rw [h3] at h2
  exact h2

theorem below2 (w : World) (o1 o2 : Obj) : Below w.heap.size w ((w.alloc o1).alloc o2) := below_next (below_alloc _ _) (below_alloc _ _)
theorem below3 (w : World) (o1 o2 o3 : Obj) : Below w.heap.size w (((w.alloc o1).alloc o2).alloc o3) := below_next (below2 _ _ _) (below_alloc _ _)
theorem below4 (w : World) (o1 o2 o3 o4 : Obj) : Below w.heap.size w ((((w.alloc o1).alloc o2).alloc o3).alloc o4) := below_next (below3 _ _ _ _) (below_alloc _ _)

set_option maxHeartbeats 1000000 in
set_option maxRecDepth 20000 in
theorem tokenAt_name {w : World} {B sb cap : Nat} {l : Bs} (h : Env w B sb cap l) (n m : Nat) (hn : n < l.length) (hl : isLet l[n] = true) (hm : run isOn (l.drop n) = m) (hp : 0 < m) :
    Calls Tryd.prog 18 #[.slice (some ⟨sb, 0, none⟩) l.length cap, .slice (some ⟨B + 3, 0, none⟩) 3 3, .int .i64 (n : Int)] w fun e w' =>
      e = .returned (.tuple #[.agg #[.int .i64 (if 40 < m then 0 else if isWord ((l.drop n).take m) then 3 else 1), .string (ofL ((l.drop n).take m)), .int .i64 (n : Int)], .int .i64 (if 40 < m then 20 else 0)]) ∧ Below w.heap.size w w' := by
  have E : Hid (Env w B sb cap l) := h
  have hlt := h.lt
  have f0 := h.f0
  have f1 := h.f1
  have f2 := h.f2
  have lm := h.lm
  have lc := h.lc
  have hle : n + m ≤ l.length := by
    have := run_le isOn (l.drop n)
    simp at this
    omega
  have hlen : ((l.drop n).take m).length = m := by simp; omega
  have hcv : ∀ (o1 o2 : Obj) (cap : Nat), (convert 39 9 (.slice (some ⟨sb, n, none⟩) m cap)).run Tryd.prog ((w.alloc o1).alloc o2) = .ok (.string (ofL ((l.drop n).take m))) ((w.alloc o1).alloc o2) := fun o1 o2 cap => conv_part (h.ba.below (below2 w o1 o2)) n m hle cap
  generalize (l.drop n).take m = s at hlen hcv
  have HL : Hid (isLet l[n] = true) := hl
  have HM : Hid (run isOn (l.drop n) = m) := hm
  generalize hk : (if 40 < m then (0 : Int) else if isWord s then 3 else 1) = kk
  generalize he : (if 40 < m then (20 : Int) else 0) = ee
  clear h hl hm
  go_enter Tryd.func18, Tryd.ntmps18
  go_wp2
  refine wp_loop_rounds 4 ?_
  rw [rounds_succ]
  go_wp2_with (first
      | (go_at_call 31; refine (name_c (E.out.below (below2 _ _ _)) n hn).mono ?_; rintro e w' ⟨rfl, hw⟩; rw [HL.out]; subst hw)
      | (go_at_call 29; refine (end_c (E.out.below (below2 _ _ _)) n (by omega)).mono ?_; rintro e w' ⟨rfl, hw⟩; rw [HM.out]; subst hw)
      | (go_at_call 33; refine (kind_c (E.out.below (below2 _ _ _)) s (by omega)).mono ?_; rintro e w' ⟨rfl, hw⟩; rw [hlen, hk, he]; subst hw)
      | go_in)
  exact bodyPost_ret (v := .tuple #[.agg #[.int .i64 kk, .string (ofL s), .int .i64 (n : Int)], .int .i64 ee]) (by simp [results, Tryd.results18, go_sem]) rfl ⟨rfl, below2 _ _ _⟩

theorem block3 {w w' : World} {cs : Array Value} {o2 o3 : Obj} (hw : Below (((w.alloc (.cells cs 37)).alloc o2).alloc o3).heap.size (((w.alloc (.cells cs 37)).alloc o2).alloc o3) w') : w'.heap[w.heap.size]? = some (.cells cs 37) := by
  rw [hw.block _ (by simp; omega)]
  show (((w.heap.push _).push _).push _)[w.heap.size]? = _
  simp [Array.getElem?_push]
  omega

theorem cells3 {w : World} {b : Nat} {x y z : Value} (h : w.heap[b]? = some (.cells #[x, y, z] 37)) :
    w.cell? ⟨b, 0, none⟩ = some x ∧ w.cell? ⟨b, 1, none⟩ = some y ∧ w.cell? ⟨b, 2, none⟩ = some z ∧ w.frozen? ⟨b, 0, none⟩ = false ∧ w.frozen? ⟨b, 1, none⟩ = false ∧ w.frozen? ⟨b, 2, none⟩ = false := by
  simp [World.cell?, World.frozen?, h]

set_option maxHeartbeats 1000000 in
set_option maxRecDepth 20000 in
theorem tokenAt_int {w : World} {B sb cap : Nat} {l : Bs} (h : Env w B sb cap l) (n m : Nat) (hn : n < l.length) (hl : isLet l[n] = false) (hd : isDig l[n] = true) (hm : run isOn (l.drop n) = m) (hp : 0 < m) (x : Nat) (hx : (numA ((l.drop n).take m)).2.2 = x) :
    Calls Tryd.prog 18 #[.slice (some ⟨sb, 0, none⟩) l.length cap, .slice (some ⟨B + 3, 0, none⟩) 3 3, .int .i64 (n : Int)] w fun e w' =>
      e = .returned (.tuple #[.agg #[.int .i64 (if x = 0 then 2 else 0), .string (ofL ((l.drop n).take m)), .int .i64 (n : Int)], .int .i64 (x : Int)]) ∧ Below w.heap.size w w' := by
  have E : Hid (Env w B sb cap l) := h
  have hlt := h.lt
  have f0 := h.f0
  have f1 := h.f1
  have f2 := h.f2
  have f3 := h.f3
  have f4 := h.f4
  have f5 := h.f5
  have lm := h.lm
  have lc := h.lc
  have hle : n + m ≤ l.length := by
    have := run_le isOn (l.drop n)
    simp at this
    omega
  have hlen : ((l.drop n).take m).length = m := by simp; omega
  have hcv : ∀ (o1 o2 o3 : Obj) (cap : Nat), (convert 39 9 (.slice (some ⟨sb, n, none⟩) m cap)).run Tryd.prog (((w.alloc o1).alloc o2).alloc o3) = .ok (.string (ofL ((l.drop n).take m))) (((w.alloc o1).alloc o2).alloc o3) := fun o1 o2 o3 cap => conv_part (h.ba.below (below3 w o1 o2 o3)) n m hle cap
  generalize (l.drop n).take m = s at hlen hcv hx
  have HL : Hid (isLet l[n] = false) := hl
  have HD : Hid (isDig l[n] = true) := hd
  have HM : Hid (run isOn (l.drop n) = m) := hm
  have HX : Hid ((numA s).2.2 = x) := hx
  generalize hk : (if x = 0 then (2 : Int) else 0) = kk
  clear h hl hm hd hx
  go_enter Tryd.func18, Tryd.ntmps18
  go_wp2
  refine wp_loop_rounds 4 ?_
  rw [rounds_succ]
  go_wp2_with (first
      | (go_at_call 31; refine (name_c (E.out.below (below2 _ _ _)) n hn).mono ?_; rintro e w' ⟨rfl, hw⟩; rw [HL.out]; subst hw)
      | go_in)
  rw [rounds_succ]
  go_wp2_with (first
      | (go_at_call 35; refine (digit_c (E.out.below (below3 _ _ _ _)) n hn).mono ?_; rintro e w' ⟨rfl, hw⟩; rw [HD.out]; subst hw)
      | (go_at_call 29; refine (end_c (E.out.below (below3 _ _ _ _)) n (by omega)).mono ?_; rintro e w' ⟨rfl, hw⟩; rw [HM.out]; subst hw)
      | (go_at_call 36; refine (intKind_c s _ (by omega)).mono ?_; rintro e w' ⟨rfl, hw⟩; rw [HX.out, hk]; have W : Hid (Below w.heap.size w w') := below_next (below3 _ _ _ _) hw; obtain ⟨c0, c1, c2, z0, z1, z2⟩ := cells3 (block3 hw); clear hw)
      | go_in)
  exact bodyPost_ret (v := .tuple #[.agg #[.int .i64 kk, .string (ofL s), .int .i64 (n : Int)], .int .i64 (x : Int)]) (by simp [results, Tryd.results18, go_sem, c0, c1, c2]) rfl ⟨rfl, ((W.out.setCell (Nat.le_refl _) _).setCell (Nat.le_refl _) _).setCell (Nat.le_refl _) _⟩

/-- The token's own block, and the third rule's. -/
structure TB (w : World) (N : Nat) (cs rs : Array Value) : Prop where
  tok : w.heap[N]? = some (.cells cs 37)
  rule : w.heap[N + 3]? = some (.cells rs 61)

theorem TB.below {w w' : World} {N : Nat} {cs rs : Array Value} (h : TB w N cs rs) (k : Below w.heap.size w w') : TB w' N cs rs := by
  have h1 := (Array.getElem?_eq_some_iff.1 h.tok).1
  have h2 := (Array.getElem?_eq_some_iff.1 h.rule).1
  exact ⟨(k.block _ h1).trans h.tok, (k.block _ h2).trans h.rule⟩

theorem tb_new (w : World) (cs rs : Array Value) (o2 o3 : Obj) : TB ((((w.alloc (.cells cs 37)).alloc o2).alloc o3).alloc (.cells rs 61)) w.heap.size cs rs := by
  constructor
  · show ((((w.heap.push _).push _).push _).push _)[w.heap.size]? = _
    rw [Array.getElem?_push, if_neg (by simp; omega), Array.getElem?_push, if_neg (by simp; omega), Array.getElem?_push, if_neg (by simp), Array.getElem?_push, if_pos rfl]
  · show ((((w.heap.push _).push _).push _).push _)[w.heap.size + 3]? = _
    rw [Array.getElem?_push, if_pos (by simp)]

theorem rules3 {w : World} {b : Nat} {x y z : Value} (h : w.heap[b]? = some (.cells #[x, y, z] 61)) : w.cell? ⟨b, 1, none⟩ = some y ∧ w.cell? ⟨b, 2, none⟩ = some z := by
  simp [World.cell?, h]

set_option maxHeartbeats 2000000 in
set_option maxRecDepth 20000 in
theorem tokenAt_sign {w : World} {B sb cap : Nat} {l : Bs} (h : Env w B sb cap l) (n m : Nat) (hn : n < l.length) (hl : isLet l[n] = false) (hd : isDig l[n] = false) (hm : signLen (l.drop n) = m) (hp : 0 < m) :
    Calls Tryd.prog 18 #[.slice (some ⟨sb, 0, none⟩) l.length cap, .slice (some ⟨B + 3, 0, none⟩) 3 3, .int .i64 (n : Int)] w fun e w' =>
      e = .returned (.tuple #[.agg #[.int .i64 4, .string (ofL ((l.drop n).take m)), .int .i64 (n : Int)], .int .i64 0]) ∧ Below w.heap.size w w' := by
  have E : Hid (Env w B sb cap l) := h
  have hlt := h.lt
  have f0 := h.f0
  have f1 := h.f1
  have f2 := h.f2
  have f3 := h.f3
  have f4 := h.f4
  have f5 := h.f5
  have f6 : ∀ o1 o2 o3 : Obj, (((w.alloc o1).alloc o2).alloc o3).cell? ⟨B + 3, 6, none⟩ = some (.func (.func 37) #[] #[.pointer (some ⟨B, 0, none⟩)]) := fun o1 o2 o3 => (h.below (below3 w o1 o2 o3)).f6
  have f7 : ∀ o1 o2 o3 : Obj, (((w.alloc o1).alloc o2).alloc o3).cell? ⟨B + 3, 7, none⟩ = some (.func (.func 39) #[] #[.pointer (some ⟨B, 0, none⟩)]) := fun o1 o2 o3 => (h.below (below3 w o1 o2 o3)).f7
  have f8 : ∀ o1 o2 o3 : Obj, (((w.alloc o1).alloc o2).alloc o3).cell? ⟨B + 3, 8, none⟩ = some (.func (.func 40) #[] #[]) := fun o1 o2 o3 => (h.below (below3 w o1 o2 o3)).f8
  have lm := h.lm
  have lc := h.lc
  have hle : n + m ≤ l.length := by
    have := (signLen_le (l.drop n)).2
    simp at this
    omega
  have hlen : ((l.drop n).take m).length = m := by simp; omega
  have CV : Hid (∀ (w' : World) (cap : Nat), BA w' sb 0 l → (convert 39 9 (.slice (some ⟨sb, n, none⟩) m cap)).run Tryd.prog w' = .ok (.string (ofL ((l.drop n).take m))) w') := fun w' cap hb => conv_part hb n m hle cap
  generalize (l.drop n).take m = s at hlen CV
  have HL : Hid (isLet l[n] = false) := hl
  have HD : Hid (isDig l[n] = false) := hd
  have HM : Hid (signLen (l.drop n) = m) := hm
  have hpd : decide (0 < m) = true := by simpa using hp
  clear h hl hm hd
  go_enter Tryd.func18, Tryd.ntmps18
  go_wp2
  refine wp_loop_rounds 4 ?_
  rw [rounds_succ]
  go_wp2_with (first
      | (go_at_call 31; refine (name_c (E.out.below (below2 _ _ _)) n hn).mono ?_; rintro e w' ⟨rfl, hw⟩; rw [HL.out]; subst hw)
      | go_in)
  rw [rounds_succ]
  go_wp2_with (first
      | (go_at_call 35; refine (digit_c (E.out.below (below3 _ _ _ _)) n hn).mono ?_; rintro e w' ⟨rfl, hw⟩; rw [HD.out]; subst hw)
      | go_in)
  rw [rounds_succ]
  go_wp2_with (first
      | (go_at_call 37; refine (signs_c (E.out.below (below4 _ _ _ _ _)) n hn).mono ?_; rintro e w1 ⟨rfl, hw⟩; rw [HM.out, hpd]; have W : Hid (Below w.heap.size w w1) := below_next (below4 _ _ _ _ _) hw; have T := (tb_new _ _ _ _ _).below hw; obtain ⟨r1, r2⟩ := rules3 T.rule; have T : Hid (TB w1 w.heap.size _ _) := T; clear hw)
      | (go_at_call 39; refine (signEnd_c (E.out.below W.out) n hn).mono ?_; rintro e w2 ⟨rfl, hw⟩; rw [HM.out]; have W : Hid (Below w.heap.size w w2) := below_next W.out hw; have T := T.out.below hw; obtain ⟨r1, r2⟩ := rules3 T.rule; obtain ⟨c0, c1, c2, z0, z1, z2⟩ := cells3 T.tok; have hcv := fun cap => CV.out w2 cap (E.out.below W.out).ba; clear hw T)
      | (go_at_call 40; refine (signKind_c s _).mono ?_; rintro e w' ⟨rfl, hw⟩; subst hw)
      | go_in)
  exact bodyPost_ret (v := .tuple #[.agg #[.int .i64 4, .string (ofL s), .int .i64 (n : Int)], .int .i64 0]) (by simp [results, Tryd.results18, go_sem, c0, c1, c2]) rfl ⟨rfl, ((W.out.setCell (Nat.le_refl _) _).setCell (Nat.le_refl _) _).setCell (Nat.le_refl _) _⟩

set_option maxHeartbeats 2000000 in
set_option maxRecDepth 20000 in
theorem tokenAt_none {w : World} {B sb cap : Nat} {l : Bs} (h : Env w B sb cap l) (n : Nat) (hn : n < l.length) (hl : isLet l[n] = false) (hd : isDig l[n] = false) (hm : signLen (l.drop n) = 0) :
    Calls Tryd.prog 18 #[.slice (some ⟨sb, 0, none⟩) l.length cap, .slice (some ⟨B + 3, 0, none⟩) 3 3, .int .i64 (n : Int)] w fun e w' =>
      e = .returned (.tuple #[.agg #[.int .i64 0, .string ⟨#[]⟩, .int .i64 0], .int .i64 20]) ∧ Below w.heap.size w w' := by
  have E : Hid (Env w B sb cap l) := h
  have hlt := h.lt
  have f0 := h.f0
  have f1 := h.f1
  have f2 := h.f2
  have f3 := h.f3
  have f4 := h.f4
  have f5 := h.f5
  have f6 : ∀ o1 o2 o3 : Obj, (((w.alloc o1).alloc o2).alloc o3).cell? ⟨B + 3, 6, none⟩ = some (.func (.func 37) #[] #[.pointer (some ⟨B, 0, none⟩)]) := fun o1 o2 o3 => (h.below (below3 w o1 o2 o3)).f6
  have f7 : ∀ o1 o2 o3 : Obj, (((w.alloc o1).alloc o2).alloc o3).cell? ⟨B + 3, 7, none⟩ = some (.func (.func 39) #[] #[.pointer (some ⟨B, 0, none⟩)]) := fun o1 o2 o3 => (h.below (below3 w o1 o2 o3)).f7
  have f8 : ∀ o1 o2 o3 : Obj, (((w.alloc o1).alloc o2).alloc o3).cell? ⟨B + 3, 8, none⟩ = some (.func (.func 40) #[] #[]) := fun o1 o2 o3 => (h.below (below3 w o1 o2 o3)).f8
  have lm := h.lm
  have lc := h.lc
  have HL : Hid (isLet l[n] = false) := hl
  have HD : Hid (isDig l[n] = false) := hd
  have HM : Hid (signLen (l.drop n) = 0) := hm
  have hpd : decide (0 < 0) = false := rfl
  clear h hl hm hd
  go_enter Tryd.func18, Tryd.ntmps18
  go_wp2
  refine wp_loop_rounds 4 ?_
  rw [rounds_succ]
  go_wp2_with (first
      | (go_at_call 31; refine (name_c (E.out.below (below2 _ _ _)) n hn).mono ?_; rintro e w' ⟨rfl, hw⟩; rw [HL.out]; subst hw)
      | go_in)
  rw [rounds_succ]
  go_wp2_with (first
      | (go_at_call 35; refine (digit_c (E.out.below (below3 _ _ _ _)) n hn).mono ?_; rintro e w' ⟨rfl, hw⟩; rw [HD.out]; subst hw)
      | go_in)
  rw [rounds_succ]
  go_wp2_with (first
      | (go_at_call 37; refine (signs_c (E.out.below (below4 _ _ _ _ _)) n hn).mono ?_; rintro e w1 ⟨rfl, hw⟩; rw [HM.out, hpd]; have W : Hid (Below w.heap.size w w1) := below_next (below4 _ _ _ _ _) hw; have T := (tb_new _ _ _ _ _).below hw; obtain ⟨c0, c1, c2, z0, z1, z2⟩ := cells3 T.tok; clear hw T)
      | go_in)
  rw [rounds_succ]
  go_wp2
  exact bodyPost_ret (v := .tuple #[.agg #[.int .i64 0, .string ⟨#[]⟩, .int .i64 0], .int .i64 20]) (by simp [results, Tryd.results18, go_sem, c0, c1, c2]) rfl ⟨rfl, ((W.out.setCell (Nat.le_refl _) _).setCell (Nat.le_refl _) _).setCell (Nat.le_refl _) _⟩
end Go.Proofs.YtbfelkcaakpdiaaDoor
