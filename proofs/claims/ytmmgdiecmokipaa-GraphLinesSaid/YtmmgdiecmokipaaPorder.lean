/-
  Proved: what the program's Order answers.
-/
import Derived.Test.YtmmgdiecmokipaaPreach
import Derived.Test.YtmmgdiecmokipaaGints
import Derived.Shelf.RegionOpenPlain
import Derived.Deep.LoopGhost
import Derived.Lib.Walk
import Derived.Sort.WalkB12
import Derived.Lib.SlicesMore
namespace Go.Proofs.Ytmmgdiecmokipaa
open Go.RowKit Go.Shelf Go.Lib Go.Sort

def eN (a : Nat) : Value := .int .i64 (a : Int)

set_option maxHeartbeats 1600000 in
set_option maxRecDepth 1000000 in
theorem rev_arr (blk off cap : Nat) (d : Array Nat) (w : World) (hH : Holds eN w blk off d) (hsz : d.size ≤ 9223372036854775807) :
    Calls Try.prog 27 #[.slice (some ⟨blk, off, none⟩) d.size cap] w fun e w' => e = .returned (.tuple #[]) ∧ ∃ n, w' = putRow eN (Sort.ahead w n) blk off d.reverse := by
  have mixed : Try.prog.follows Departure.mixedOrders = true := by kernel_rfl
  go_enter Try.func27, Try.ntmps27
  go_wp2
  go_loopg [2, 3] d.size (fun k s2 s3 wr => ∃ (i jn : Nat) (jz : Int) (dk : Array Nat) (n : Nat), s2 = .int .i64 i ∧ s3 = .int .i64 jz ∧ ((i : Int) < jz → jz = jn ∧ jn < d.size) ∧ (¬ (i : Int) < jz → ¬ i < jn) ∧ jn - i ≤ k ∧
    dk.size = d.size ∧ wr = putRow eN (Sort.ahead w n) blk off dk ∧ reverseLoop i jn dk = reverseLoop 0 (d.size - 1) d)
  case atStart => exact ⟨0, d.size - 1, (d.size : Int) - 1, d, 0, rfl, rfl, fun h => ⟨by omega, by omega⟩, fun h => by omega, by omega, rfl, (putRow_self eN w blk off d hH).symm, rfl⟩
  case round =>
    obtain ⟨i, jn, jz, dk, n, rfl, rfl, h1, h2, hk, hds, hwr, heq⟩ := hrel
    by_cases hlt : (i : Int) < jz
    · obtain ⟨rfl, hjn⟩ := h1 hlt
      have hij : i < jn := by omega
      have hid : i < d.size := by omega
      have hHk : Holds eN wr blk off dk := by rw [hwr]; exact holds_putRow eN _ blk off d dk (holds_ahead eN w n blk off d hH) hds
      obtain ⟨ci, fi⟩ := hHk i (by omega)
      obtain ⟨cj, fj⟩ := hHk jn (by omega)
      have A : Aside (wr = putRow eN (Sort.ahead w n) blk off dk) := hwr
      simp only [eN] at ci cj
      clear hwr hHk hH h1 h2
      go_wp2_with fail
      go_region_o
      go_wp2
      go_roundg (jn - 1 - (i + 1))
      case measure => omega
      case rel =>
        rw [reverseLoop, if_pos hij] at heq
        exact ⟨i + 1, jn - 1, (jn : Int) - 1, swp dk i jn, n + 1, by simp, rfl, fun h => ⟨by omega, by omega⟩, fun h => by omega, Nat.le_refl _, by rw [size_swp]; exact hds,
          swap_world eN (by omega) (by omega) A.out (by first | rfl | simp [eN, getElem!_pos, show jn < dk.size by omega]) (by first | rfl | simp [eN, getElem!_pos, show i < dk.size by omega]), heq⟩
    · have hnot := h2 hlt
      go_wp2
      go_end0
      refine ⟨rfl, n, ?_⟩
      rw [reverseLoop, if_neg hnot] at heq
      rw [← Lib.reverseLoop_reverse, ← heq]

theorem ON.holds {base : Nat} {w : World} {l : List Nat} {v : Value} (h : ON base l v w) (hne : l ≠ []) : ∃ g C, v = .slice (some ⟨g, 0, none⟩) l.length C ∧ base ≤ g ∧ g < w.heap.size ∧ Sort.Holds eN w g 0 l.toArray := by
  obtain ⟨A, C, e, h1⟩ := h.shape
  obtain ⟨B, e1, e2, e3, e4, e5⟩ := h1 (by cases l with
    | nil => exact absurd rfl hne
    | cons a l => simp)
  subst e1
  obtain ⟨_, _, cs, hA⟩ := h.blk (b := B) (by rw [e]; rfl)
  refine ⟨B, C, e, e2, e3, fun j hj => ⟨?_, hA.frozen _⟩⟩
  have hj' : j < l.length := by simpa using hj
  rw [Nat.zero_add, e5 j hj']
  simp [eN, getElem!_pos, hj']

theorem kp_putRow (w : World) (g m : Nat) (d : Array Nat) : Kp (fun b => b = g) w (Sort.putRow eN (Sort.ahead w m) g 0 d) := by
  refine ⟨⟨rfl, rfl, rfl, by simp, fun k hk => by omega⟩, fun k hk hne => ?_⟩
  simp only [Sort.putRow, Sort.mapBlock, Array.getElem?_modify]
  rw [if_neg (fun e => hne e.symm)]
  rfl

theorem rev_c {base : Nat} {w : World} {l : List Nat} {v : Value} (h : ON base l v w) (hl : l.length ≤ 100000) :
    Calls Try.prog 27 #[v] w fun e w' => e = .returned (.tuple #[]) ∧ NumsIn w' (l.reverse.map fun x : Nat => (x : Int)) v ∧ Kp (fun b => v.ownBlock = some b) w w' := by
  by_cases hne : l = []
  · subst hne
    have hs := h.shape
    obtain ⟨A, C, rfl, -⟩ := hs
    go_enter Try.func27, Try.ntmps27
    go_wp2
    go_loopw [2, 3] (fun a b wr => a = .int .i64 0 ∧ b = .int .i64 (-1) ∧ wr = w) (fun _ _ _ => 0)
    case atStart => exact ⟨rfl, rfl, rfl⟩
    case round =>
      obtain ⟨rfl, rfl, hwr⟩ := hrel
      rw [hwr]
      clear hwr wr
      go_wp2
      go_end0
      exact ⟨rfl, ⟨A, C, rfl, fun i hi => by simp at hi⟩, Kp.refl _ _⟩
  · obtain ⟨g, C, rfl, hg, hgw, hH⟩ := h.holds hne
    have key := rev_arr g 0 C l.toArray w hH (by simp; omega)
    simp only [List.size_toArray] at key
    refine key.mono ?_
    rintro e w' ⟨rfl, n, rfl⟩
    refine ⟨rfl, ⟨some ⟨g, 0, none⟩, C, by simp, fun i hi => ⟨g, 0, rfl, by simpa using hgw, ?_⟩⟩, (kp_putRow w g n _).mono fun b hb => by subst hb; rfl⟩
    have hi' : i < l.length := by simpa using hi
    have h2 := (Sort.holds_putRow eN (Sort.ahead w n) g 0 l.toArray l.toArray.reverse (Sort.holds_ahead eN w n g 0 l.toArray hH) (by simp) i (by simpa using hi')).1
    rw [h2]
    simp only [List.reverse_toArray]
    rw [getElem!_pos _ i (by simpa using hi')]
    simp [eN]

/-- What Order's closures keep. -/
def JO (bx : Nat) : PJ := fun _ lf F w => ∃ v, At w bx #[v] 28 ∧ ON (bx + 1) lf v w ∧ F = (fun b => b = bx ∨ v.ownBlock = some b)

theorem JO.stay (bx : Nat) : Stay (JO bx) := by
  refine ⟨fun ent lf F G w w' h k hG => ?_, fun ent lf F w h b hb => ?_⟩
  · obtain ⟨v, h1, h2, rfl⟩ := h
    exact ⟨v, k.at h1 fun h => hG _ h (Or.inl rfl), OwnB.but h2 k fun b hb h => hG b h (Or.inr hb), rfl⟩
  · obtain ⟨v, h1, h2, rfl⟩ := h
    rcases hb with rfl | hb
    · exact h1.lt
    · exact (h2.blk hb).2.1

theorem cf_order1 (args : Array Value) (w : World) : (callFunc 25 args).run Try.prog w = .ok (.enter 25 args) w := by kernel_rfl
theorem cf_order2 (args : Array Value) (w : World) : (callFunc 26 args).run Try.prog w = .ok (.enter 26 args) w := by kernel_rfl

theorem JO.ent (n bx : Nat) : Ent (JO bx) n 25 #[] := by
  intro ent lf F w b f h hb hne hl hf
  have H : Hid (JO bx ent lf F w) := h
  clear h hf
  show Calls Try.prog 25 #[.int .i64 (b : Int), .int .i64 f] w _
  go_enter Try.func25, Try.ntmps25
  go_wp2
  go_end0
  exact ⟨rfl, F, H.out, Gr.of (Kp.refl _ _)⟩

set_option maxHeartbeats 1000000 in
theorem JO.lev (n bx : Nat) (hn : n ≤ 1000) : Lev (JO bx) n 26 #[.pointer (some ⟨bx, 0, none⟩)] := by
  intro ent lf F w b h hl
  obtain ⟨v, h1, h2, rfl⟩ := h
  have c0 : w.cell? ⟨bx, 0, none⟩ = some v := h1.cell 0
  have B1 : Hid (At w bx #[v] 28) := h1
  have O1 : Hid (ON (bx + 1) lf v w) := h2
  obtain ⟨A, C, ev, -⟩ := h2.shape
  subst ev
  clear h1 h2
  show Calls Try.prog 26 #[.int .i64 (b : Int), .pointer (some ⟨bx, 0, none⟩)] w _
  go_enter Try.func26, Try.ntmps26
  go_wp2_with (at_builtin; refine ON.app _ rfl _ _ rfl _ rfl b (O1.out.below (below_alloc _ (.cells (iN b).toArray 3))) ⟨w.heap.size, 0, none⟩ 1 rfl (fun j u hj => cells_new _ (iN b) 3 j u hj) (by omega) ?_; intro v5 w5 ho hb5 hk5 hv5; obtain ⟨A5, C5, rfl, -⟩ := ho.shape; have O5 : Hid (ON (bx + 1) (lf ++ [b]) (.slice A5 (lf ++ [b]).length C5) w5) := ho; have K5 : Hid (Kp (fun b => (Value.slice A lf.length C).ownBlock = some b) w w5) := (Kp.of_below (below_alloc w _)).trans ⟨hb5.mono (Nat.zero_le _), fun k h1 h2 => hk5 k h1 h2⟩; have V5 : Hid (∀ c, (Value.slice A5 (lf ++ [b]).length C5).ownBlock = some c → (Value.slice A lf.length C).ownBlock = some c ∨ w.heap.size ≤ c) := (fun c h => (hv5 c h).imp id fun h => by simp at h; omega); have a5 : At w5 bx #[.slice A lf.length C] 28 := (B1.out.below (below_alloc _ _) B1.out.lt).below hb5 (by omega); have A5' : Hid (At w5 bx #[.slice A lf.length C] 28) := a5; have c5 : w5.cell? ⟨bx, 0, none⟩ = some (.slice A lf.length C) := a5.cell 0; have f5 := a5.frozen 0; clear ho hb5 hk5 hv5 a5)
  go_end0
  rw [show lf.length + 1 = (lf ++ [b]).length by simp]
  have k : Kp (fun c => c = bx ∨ (Value.slice A lf.length C).ownBlock = some c) w (w5.setCell ⟨bx, 0, none⟩ (.slice A5 (lf ++ [b]).length C5)) := (K5.out.mono fun c h => Or.inr h).trans (Kp.set w5 0 _ (Or.inl rfl))
  refine ⟨rfl, _, ⟨_, A5'.out.set (j := 0) _, OwnB.set O5.out (by omega) _, rfl⟩, k, fun c hc => ?_⟩
  rcases hc with h | h
  · exact Or.inl (Or.inl h)
  · exact (V5.out c h).imp Or.inr id

/-- What was left, turned round, is the order. -/
theorem ends_ord {n : Nat} {to : List (List Int)} {ent : List (Nat × Int)} {lfl : List Nat} (h : (n = 0 ∧ ent = [] ∧ lfl = []) ∨ (0 < n ∧ Done n to ent lfl)) : ord n to = lfl.reverse ∧ lfl.length ≤ n := by
  rcases h with ⟨rfl, _, rfl⟩ | ⟨h0, hd⟩
  · exact ⟨rfl, Nat.zero_le _⟩
  · refine ⟨by rw [ord, if_neg (by omega), hd.lft], ?_⟩
    rw [hd.lft]
    have h1 := lv_len (g := wy n to) (n := n) (fun a b hb => wy_lt n to a b hb) n 0 (fun _ => false, []) h0 rfl (Nat.le_of_eq (un_all n))
    have h2 := un_all n
    simp only [List.length_nil] at h1
    omega

set_option maxHeartbeats 2000000 in
theorem order_p (z : Int) (n : Nat) (hz : IsN z n) (hn : n ≤ 1000) (to : List (List Int)) (tv : Value) (w : World) (h : RwsIn w to tv) (hf : Fw to) :
    Calls Try.prog 13 #[.int .i64 z, tv] w fun e w' => ∃ v, e = .returned v ∧ NumsIn w' ((ord n to).map fun x : Nat => (x : Int)) v ∧ Below w.heap.size w w' := by
  have b1 := below_alloc w (.cells #[.slice none 0 0] 28)
  have B1 : Hid (Below w.heap.size w (w.alloc (.cells #[.slice none 0 0] 28))) := b1
  have PW : Hid (Calls Try.prog 18 #[.int .i64 z, tv, .func (.func 25) #[] #[], .func (.func 26) #[] #[.pointer (some ⟨w.heap.size, 0, none⟩)]] (w.alloc (.cells #[.slice none 0 0] 28)) fun e w' => e = .returned (.tuple #[]) ∧ ∃ ent lfl F', JO w.heap.size ent lfl F' w' ∧ ((n = 0 ∧ ent = [] ∧ lfl = []) ∨ (0 < n ∧ Done n to ent lfl)) ∧ Gr (fun b => b = w.heap.size ∨ (Value.slice none 0 0).ownBlock = some b) F' (w.alloc (.cells #[.slice none 0 0] 28)) w') :=
    pwalk_z z n hz hn to tv w _ h hf b1 _ (JO.stay _) _ _ _ _ _ (fun b hb => by
      rcases hb with h | h
      · omega
      · cases h) cf_order1 cf_order2 (JO.ent _ _) (JO.lev _ _ hn) ⟨_, At.new _ _ _, ON.empty (by simp), rfl⟩
  obtain ⟨A, C, rfl, -⟩ := h
  clear b1
  go_enter Try.func13, Try.ntmps13
  go_wp2_with (first
    | (go_at_call 18; refine PW.out.mono ?_; rintro e w5 ⟨rfl, ent, lfl, F5, hj5, hd5, hg5⟩; obtain ⟨v5, ha5, ho5, -⟩ := hj5; have c5 : w5.cell? ⟨w.heap.size, 0, none⟩ = some v5 := ha5.cell 0; have A5 : Hid (At w5 w.heap.size #[v5] 28) := ha5; have O5 : Hid (ON (w.heap.size + 1) lfl v5 w5) := ho5; obtain ⟨Av, Cv, ev, -⟩ := ho5.shape; subst ev; have D5 : Hid ((n = 0 ∧ ent = [] ∧ lfl = []) ∨ (0 < n ∧ Done n to ent lfl)) := hd5; have G5 : Hid (Below w.heap.size w w5) := B1.out.trans (hg5.1.below B1.out.size fun b hb => by rcases hb with h | h; (first | omega | cases h); (first | omega | cases h)); clear ha5 ho5 hd5 hg5)
    | (go_at_call 27; refine (rev_c O5.out (by have := (ends_ord D5.out).2; omega)).mono ?_; rintro e w6 ⟨rfl, hn6, hk6⟩; have N6 : Hid (NumsIn w6 (lfl.reverse.map fun x : Nat => (x : Int)) (.slice Av lfl.length Cv)) := hn6; have c6 : w6.cell? ⟨w.heap.size, 0, none⟩ = some (.slice Av lfl.length Cv) := (hk6.at A5.out (fun h => by have := (O5.out.blk h).1; omega)).cell 0; have G6 : Hid (Below w.heap.size w w6) := G5.out.trans (hk6.below G5.out.size fun b hb => by have := (O5.out.blk hb).1; omega); clear hn6 hk6))
  go_ret
  exact ⟨_, rfl, by rw [(ends_ord D5.out).1]; exact N6.out, G6.out⟩
end Go.Proofs.Ytmmgdiecmokipaa
