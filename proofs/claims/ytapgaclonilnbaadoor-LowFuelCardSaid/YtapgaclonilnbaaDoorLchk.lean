/-
  Proved: when functions in the low form are formed, as plain mathematics; one of several that are formed is so by itself, without its calls of others.
-/
import Derived.Test.YtapgaclonilnbaaDoorLdata
namespace Go.Proofs.YtapgaclonilnbaaDoor

abbrev Tx := List UInt8
def updS (f : Tx → Option Int) (x : Tx) (v : Option Int) : Tx → Option Int := fun y => if y = x then v else f y

/-- A register; one that is read; where an address begins. -/
def rgB (rg r : Int) : Bool := decide (0 ≤ r) && decide (r < rg)
def setsB (rg : Int) (l : List Int) : Bool := l.all (rgB rg)
def rdB (rg r : Int) : Bool := decide (r = -1) || rgB rg r
def readsB (rg : Int) (l : List Int) : Bool := l.all (rdB rg)
def bgB (rg r : Int) : Bool := decide (r = -2) || rdB rg r
def upB (n m : Int) : Bool := decide (0 ≤ n) && decide (n ≤ m)
def fitB (n : Int) (s : Bool) : Bool := if s then decide (0 ≤ n ∧ n ≤ 31) else decide (-2048 ≤ n ∧ n ≤ 2047)

/-- The names of operations, of those with a number, of shifts, of comparisons. -/
def doN : List Tx := [[97,100,100],[115,117,98],[109,117,108],[109,117,108,104],[109,117,108,104,117],[100,105,118],[100,105,118,117],[114,101,109],[114,101,109,117],[97,110,100],[111,114],[120,111,114],[115,108,108],[115,114,108],[115,114,97],[115,108,116],[115,108,116,117]]
def imN : List Tx := [[97,100,100],[97,110,100],[111,114],[120,111,114],[115,108,116],[115,108,116,117]]
def shN : List Tx := [[115,108,108],[115,114,108],[115,114,97]]
def cmN : List Tx := [[101,113],[110,101],[108,116],[103,101],[108,116,117],[103,101,117]]
def doB (s : ByteArray) : Bool := decide (s.toList ∈ doN)
def immB (s : ByteArray) (n : Int) : Bool := if s.toList ∈ imN then fitB n false else if s.toList ∈ shN then fitB n true else false
def cmpB (s : ByteArray) : Bool := decide (s.toList ∈ cmN)

def nmOf (f : Lf) : Tx := f.nm.data.toList
def noF : Lf := ⟨⟨#[]⟩, 0, [], 0, 0, false, []⟩

/-- Where the last function of a name stands. -/
def byN (l : List Lf) (s : Tx) : Option Int := l.zipIdx.foldl (fun o p => if nmOf p.1 = s then some (p.2 : Int) else o) none

theorem byN_snoc (l : List Lf) (f : Lf) : byN (l ++ [f]) = updS (byN l) (nmOf f) (some (l.length : Int)) := by
  funext s
  unfold byN updS
  rw [List.zipIdx_append, List.foldl_append]
  simp
  by_cases h : nmOf f = s
  · simp [h]
  · have h2 : ¬ s = nmOf f := fun e => h e.symm
    simp [h, h2]

theorem byN_take (l : List Lf) (k : Nat) (h : k < l.length) : byN (l.take (k + 1)) = updS (byN (l.take k)) (nmOf l[k]) (some (k : Int)) := by
  rw [List.take_succ_eq_append_getElem h, byN_snoc]
  simp [Nat.min_eq_left (Nat.le_of_lt h)]

theorem byN_some {l : List Lf} {s : Tx} {z : Int} (h : byN l s = some z) : ∃ k : Nat, z = k ∧ ∃ hk : k < l.length, nmOf l[k] = s := by
  have key : ∀ n, n ≤ l.length → ∀ z, byN (l.take n) s = some z → ∃ k : Nat, z = k ∧ ∃ hk : k < n, nmOf (l.getD k noF) = s := by
    intro n
    induction n with
    | zero => intro _ z h; simp [byN] at h
    | succ n ih =>
      intro hn z h
      rw [byN_take l n (by omega)] at h
      unfold updS at h
      split at h
      · cases h
        rename_i e
        exact ⟨n, rfl, by omega, by rw [List.getD_eq_getElem?_getD, List.getElem?_eq_getElem (by omega)]; exact e.symm⟩
      · obtain ⟨k, e, hk, h2⟩ := ih (by omega) z h
        exact ⟨k, e, by omega, h2⟩
  obtain ⟨k, e, hk, h2⟩ := key l.length (Nat.le_refl _) z (by rw [List.take_length]; exact h)
  exact ⟨k, e, hk, by rw [List.getD_eq_getElem?_getD, List.getElem?_eq_getElem hk] at h2; exact h2⟩

/-- How many names the first k have. -/
def cnN (l : List Lf) : Nat → Nat
  | 0 => 0
  | k + 1 => if (byN (l.take k) (nmOf (l.getD k noF))).isSome then cnN l k else cnN l k + 1

theorem cnN_le (l : List Lf) : ∀ k, cnN l k ≤ k
  | 0 => Nat.le_refl _
  | k + 1 => by
    have := cnN_le l k
    unfold cnN
    split <;> omega

theorem cnN_all {l : List Lf} {n : Nat} (h : cnN l n = n) : ∀ k, k < n → byN (l.take k) (nmOf (l.getD k noF)) = none := by
  induction n with
  | zero => intro k hk; omega
  | succ n ih =>
    unfold cnN at h
    have := cnN_le l n
    split at h
    · omega
    · rename_i e
      intro k hk
      by_cases e2 : k = n
      · subst e2; simpa using e
      · exact ih (by omega) k (by omega)

/-- Of unlike names each function is the last of its own. -/
theorem byN_own {l : List Lf} (h : cnN l l.length = l.length) {k : Nat} (hk : k < l.length) : byN l (nmOf l[k]) = some (k : Int) := by
  have key : ∀ n, k < n → n ≤ l.length → byN (l.take n) (nmOf l[k]) = some (k : Int) := by
    intro n
    induction n with
    | zero => intro h; omega
    | succ n ih =>
      intro h1 h2
      rw [byN_take l n (by omega)]
      unfold updS
      by_cases e : k = n
      · subst e; simp
      · have hi := ih (by omega) (by omega)
        have hne : nmOf l[k] ≠ nmOf l[n] := fun e2 => by
          have := cnN_all h n (by omega)
          rw [List.getD_eq_getElem?_getD, List.getElem?_eq_getElem (by omega)] at this
          simp only [Option.getD_some] at this
          rw [← e2, hi] at this
          cases this
        rw [if_neg hne, hi]
  have := key l.length hk (Nat.le_refl _)
  rwa [List.take_length] at this

def callB (l : List Lf) (rg : Int) (x : Lo) : Bool :=
  match byN l x.tx.data.toList with
  | none => false
  | some z => decide (x.args.length = (l.getD z.toNat noF).pa.length) && decide ((x.dsts.length : Int) = (l.getD z.toNat noF).an) && readsB rg x.args && setsB rg x.dsts

def instrB (l : List Lf) (rg : Int) (x : Lo) : Bool :=
  if x.op = 1 ∨ x.op = 9 then rgB rg x.d
  else if x.op = 2 then rgB rg x.d && rdB rg x.a
  else if x.op = 3 then doB x.tx && rgB rg x.d && rdB rg x.a && rdB rg x.b
  else if x.op = 4 then immB x.tx x.n && rgB rg x.d && bgB rg x.a
  else if x.op = 5 then fitB x.n false && rgB rg x.d && bgB rg x.a
  else if x.op = 6 then fitB x.n false && bgB rg x.a && rdB rg x.b
  else if x.op = 7 then callB l rg x
  else if x.op = 8 ∨ x.op = 11 then rdB rg x.a
  else if x.op = 10 then upB x.n 128 && rgB rg x.d
  else false

def toB (nb : Nat) (n : Int) : Bool := decide (0 ≤ n) && decide (n < nb)
def termB (rg an : Int) (nb : Nat) (t : Le) : Bool :=
  if t.k = 1 then toB nb t.to
  else if t.k = 2 then cmpB t.tx && rdB rg t.a && rdB rg t.b && toB nb t.to && toB nb t.el
  else if t.k = 3 then decide ((t.args.length : Int) = an) && readsB rg t.args
  else decide (t.k = 4)

def blockB (l : List Lf) (rg an : Int) (nb : Nat) (b : Lb) : Bool := b.li.all (instrB l rg) && termB rg an nb b.tm
def blocksB (l : List Lf) (f : Lf) : Bool := setsB f.rg f.pa && f.bs.all (blockB l f.rg f.an f.bs.length)
def formB (f : Lf) : Bool := decide (0 < f.bs.length) && upB f.rg 65536 && upB f.fr 65536 && upB f.an 8 && decide (f.pa.length ≤ 8)
/-- Functions are formed. -/
def chk (l : List Lf) : Bool := decide (cnN l l.length = l.length) && l.all formB && l.all (blocksB l)

/-- A call of another one. -/
def othB (f : Lf) (x : Lo) : Bool := decide (x.op = 7) && !decide (x.tx.toList = f.nm.toList)
def strip (f : Lf) (b : Lb) : Lb := ⟨b.li.filter fun x => !othB f x, b.tm⟩
def alone (f : Lf) : Lf := { f with bs := f.bs.map (strip f) }
/-- A call of another one whose registers are none. -/
def wrongB (f : Lf) (x : Lo) : Bool := othB f x && !(readsB f.rg x.args && setsB f.rg x.dsts)

theorem chk_parts {l : List Lf} (h : chk l = true) : cnN l l.length = l.length ∧ (∀ f ∈ l, formB f = true) ∧ ∀ f ∈ l, blocksB l f = true := by
  unfold chk at h
  simp only [Bool.and_eq_true, decide_eq_true_eq, List.all_eq_true] at h
  exact ⟨h.1.1, h.1.2, h.2⟩

theorem all_filter {α : Type} {p q : α → Bool} {l : List α} (h : l.all p = true) : (l.filter q).all p = true := by
  rw [List.all_eq_true] at h ⊢
  intro x hx
  exact h x (List.mem_filter.1 hx).1

theorem bytes_ne {a b : ByteArray} (h : ¬ a.toList = b.toList) : ¬ a.data.toList = b.data.toList := by
  rw [← ByteArray.toList_eq, ← ByteArray.toList_eq]
  exact h
theorem bytes_same {a b : ByteArray} (h : a.toList = b.toList) : a.data.toList = b.data.toList := by
  rw [← ByteArray.toList_eq, ← ByteArray.toList_eq]
  exact h

/-- A call that is formed reads and sets registers. -/
theorem callB_regs {l : List Lf} {rg : Int} {x : Lo} (h : callB l rg x = true) : readsB rg x.args = true ∧ setsB rg x.dsts = true := by
  unfold callB at h
  split at h
  · cases h
  · simp only [Bool.and_eq_true] at h
    exact ⟨h.1.2, h.2⟩

theorem byN_single (f : Lf) (s : Tx) : byN [f] s = if s = nmOf f then some 0 else none := by
  have := congrFun (byN_snoc [] f) s
  simpa [updS, byN] using this

theorem alone_call {l : List Lf} (h1 : cnN l l.length = l.length) {k : Nat} (hk : k < l.length) {x : Lo} (h7 : x.op = 7) (ho : othB l[k] x = false) (hx : callB l l[k].rg x = true) : callB [alone l[k]] l[k].rg x = true := by
  have e : x.tx.toList = l[k].nm.toList := by
    unfold othB at ho
    simpa [h7] using ho
  have e1 : x.tx.data.toList = nmOf l[k] := bytes_same e
  unfold callB at hx ⊢
  rw [e1, byN_own h1 hk] at hx
  rw [e1, byN_single, if_pos (by rfl)]
  simp only [Int.toNat_natCast, List.getD_eq_getElem?_getD, List.getElem?_eq_getElem hk, Option.getD_some] at hx
  simpa [alone] using hx

theorem alone_ok {l : List Lf} (h : chk l = true) {f : Lf} (hf : f ∈ l) : chk [alone f] = true ∧ ∀ b ∈ f.bs, ∀ x ∈ b.li, wrongB f x = false := by
  obtain ⟨h1, h2, h3⟩ := chk_parts h
  have hF := h2 f hf
  have hB := h3 f hf
  obtain ⟨k, hk, rfl⟩ := List.getElem_of_mem hf
  unfold blocksB at hB
  simp only [Bool.and_eq_true, List.all_eq_true] at hB
  constructor
  · unfold chk
    simp only [Bool.and_eq_true, decide_eq_true_eq, List.all_eq_true, List.mem_singleton, forall_eq]
    refine ⟨⟨rfl, ?_⟩, ?_⟩
    · unfold formB at hF ⊢
      simp only [Bool.and_eq_true, decide_eq_true_eq, alone, List.length_map] at hF ⊢
      exact ⟨hF.1, decide_eq_true hF.2⟩
    · unfold blocksB
      simp only [Bool.and_eq_true, List.all_eq_true]
      refine ⟨hB.1, fun b hb => ?_⟩
      obtain ⟨b0, hb0, rfl⟩ := List.mem_map.1 hb
      have := hB.2 b0 hb0
      unfold blockB at this ⊢
      simp only [Bool.and_eq_true, List.all_eq_true] at this ⊢
      refine ⟨fun x hx => ?_, by simpa [strip, alone] using this.2⟩
      have hx2 := List.mem_filter.1 hx
      have hx3 := this.1 x hx2.1
      by_cases h7 : x.op = 7
      · unfold instrB at hx3 ⊢
        simp only [h7] at hx3 ⊢
        simp at hx3 ⊢
        exact alone_call h1 hk h7 (by simpa using hx2.2) hx3
      · unfold instrB at hx3 ⊢
        simp only [h7, if_false] at hx3 ⊢
        exact hx3
  · intro b hb x hx
    have := hB.2 b hb
    unfold blockB at this
    simp only [Bool.and_eq_true, List.all_eq_true] at this
    have hx3 := this.1 x hx
    unfold wrongB
    cases ho : othB l[k] x with
    | false => rfl
    | true =>
      have h7 : x.op = 7 := by
        unfold othB at ho
        simp at ho
        exact ho.1
      unfold instrB at hx3
      simp only [h7] at hx3
      simp at hx3
      have := callB_regs hx3
      simp [this.1, this.2]

end Go.Proofs.YtapgaclonilnbaaDoor
