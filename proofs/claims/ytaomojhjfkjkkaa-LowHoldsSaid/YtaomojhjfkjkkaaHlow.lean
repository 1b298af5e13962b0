/-
  Proved: the reference's Holds (of low).
-/
import Derived.Test.YtaomojhjfkjkkaaHword
namespace Go.Proofs.Ytaomojhjfkjkkaa
open Go.RowKit

/-- The comparisons of words. -/
def h_eq (a b : Int) : Bool := decide (a = b)
def h_ne (a b : Int) : Bool := !decide (a = b)
def h_lt (a b : Int) : Bool := decide (a < b)
def h_ge (a b : Int) : Bool := decide (b ≤ a)
def h_ltu (a b : Int) : Bool := decide (wh a < wh b)
def h_geu (a b : Int) : Bool := decide (wh b ≤ wh a)

theorem wh_plus (a : Int) (h : -2147483648 ≤ a ∧ a ≤ 2147483647) : (a + 4294967296).tmod 4294967296 = wh a := by
  rw [Int.tmod_eq_emod_of_nonneg (by omega)]
  unfold wh
  omega

theorem holds_eq (a b : Int) (w : World) : Calls Try.prog 5 #[.string ⟨#[101,113]⟩, .int .i64 a, .int .i64 b] w fun e w' => e = .returned (.tuple #[.bool (h_eq (wd a) (wd b)), .bool true]) ∧ w' = w := by
  have x1 := wh_plus (wd a) (wd_in a)
  have y1 := wh_plus (wd b) (wd_in b)
  obtain ⟨a1, a2⟩ := wd_in a
  obtain ⟨b1, b2⟩ := wd_in b
  by_cases hc : wd a = wd b
  · rw [show h_eq (wd a) (wd b) = true by simp [h_eq, hc]]
    have hq : (wd a == wd b) = true := by simpa using hc
    have hq2 : (wd a != wd b) = false := by simpa using hc
    go_enter Try.func5, Try.ntmps5
    go_wp2_with (go_at_call 8; refine (word_c _ _).mono ?_; rintro e w1 ⟨rfl, hw⟩; rw [hw]; clear hw w1)
    go_ret2
    exact ⟨rfl, rfl⟩
  · rw [show h_eq (wd a) (wd b) = false by simp [h_eq, hc]]
    have hq : (wd a == wd b) = false := by simpa using hc
    have hq2 : (wd a != wd b) = true := by simpa using hc
    go_enter Try.func5, Try.ntmps5
    go_wp2_with (go_at_call 8; refine (word_c _ _).mono ?_; rintro e w1 ⟨rfl, hw⟩; rw [hw]; clear hw w1)
    go_ret2
    exact ⟨rfl, rfl⟩

theorem holds_ne (a b : Int) (w : World) : Calls Try.prog 5 #[.string ⟨#[110,101]⟩, .int .i64 a, .int .i64 b] w fun e w' => e = .returned (.tuple #[.bool (h_ne (wd a) (wd b)), .bool true]) ∧ w' = w := by
  have x1 := wh_plus (wd a) (wd_in a)
  have y1 := wh_plus (wd b) (wd_in b)
  obtain ⟨a1, a2⟩ := wd_in a
  obtain ⟨b1, b2⟩ := wd_in b
  by_cases hc : wd a = wd b
  · rw [show h_ne (wd a) (wd b) = false by simp [h_ne, hc]]
    have hq : (wd a == wd b) = true := by simpa using hc
    have hq2 : (wd a != wd b) = false := by simpa using hc
    go_enter Try.func5, Try.ntmps5
    go_wp2_with (go_at_call 8; refine (word_c _ _).mono ?_; rintro e w1 ⟨rfl, hw⟩; rw [hw]; clear hw w1)
    go_ret2
    exact ⟨rfl, rfl⟩
  · rw [show h_ne (wd a) (wd b) = true by simp [h_ne, hc]]
    have hq : (wd a == wd b) = false := by simpa using hc
    have hq2 : (wd a != wd b) = true := by simpa using hc
    go_enter Try.func5, Try.ntmps5
    go_wp2_with (go_at_call 8; refine (word_c _ _).mono ?_; rintro e w1 ⟨rfl, hw⟩; rw [hw]; clear hw w1)
    go_ret2
    exact ⟨rfl, rfl⟩

theorem holds_lt (a b : Int) (w : World) : Calls Try.prog 5 #[.string ⟨#[108,116]⟩, .int .i64 a, .int .i64 b] w fun e w' => e = .returned (.tuple #[.bool (h_lt (wd a) (wd b)), .bool true]) ∧ w' = w := by
  have x1 := wh_plus (wd a) (wd_in a)
  have y1 := wh_plus (wd b) (wd_in b)
  obtain ⟨a1, a2⟩ := wd_in a
  obtain ⟨b1, b2⟩ := wd_in b
  go_enter Try.func5, Try.ntmps5
  go_wp2_with (go_at_call 8; refine (word_c _ _).mono ?_; rintro e w1 ⟨rfl, hw⟩; rw [hw]; clear hw w1)
  go_ret2
  exact ⟨rfl, rfl⟩

theorem holds_ge (a b : Int) (w : World) : Calls Try.prog 5 #[.string ⟨#[103,101]⟩, .int .i64 a, .int .i64 b] w fun e w' => e = .returned (.tuple #[.bool (h_ge (wd a) (wd b)), .bool true]) ∧ w' = w := by
  have x1 := wh_plus (wd a) (wd_in a)
  have y1 := wh_plus (wd b) (wd_in b)
  obtain ⟨a1, a2⟩ := wd_in a
  obtain ⟨b1, b2⟩ := wd_in b
  go_enter Try.func5, Try.ntmps5
  go_wp2_with (go_at_call 8; refine (word_c _ _).mono ?_; rintro e w1 ⟨rfl, hw⟩; rw [hw]; clear hw w1)
  go_ret2
  exact ⟨rfl, rfl⟩

theorem holds_ltu (a b : Int) (w : World) : Calls Try.prog 5 #[.string ⟨#[108,116,117]⟩, .int .i64 a, .int .i64 b] w fun e w' => e = .returned (.tuple #[.bool (h_ltu (wd a) (wd b)), .bool true]) ∧ w' = w := by
  have x1 := wh_plus (wd a) (wd_in a)
  have y1 := wh_plus (wd b) (wd_in b)
  obtain ⟨a1, a2⟩ := wd_in a
  obtain ⟨b1, b2⟩ := wd_in b
  go_enter Try.func5, Try.ntmps5
  go_wp2_with (go_at_call 8; refine (word_c _ _).mono ?_; rintro e w1 ⟨rfl, hw⟩; rw [hw]; clear hw w1)
  go_ret2
  exact ⟨rfl, rfl⟩

theorem holds_geu (a b : Int) (w : World) : Calls Try.prog 5 #[.string ⟨#[103,101,117]⟩, .int .i64 a, .int .i64 b] w fun e w' => e = .returned (.tuple #[.bool (h_geu (wd a) (wd b)), .bool true]) ∧ w' = w := by
  have x1 := wh_plus (wd a) (wd_in a)
  have y1 := wh_plus (wd b) (wd_in b)
  obtain ⟨a1, a2⟩ := wd_in a
  obtain ⟨b1, b2⟩ := wd_in b
  go_enter Try.func5, Try.ntmps5
  go_wp2_with (go_at_call 8; refine (word_c _ _).mono ?_; rintro e w1 ⟨rfl, hw⟩; rw [hw]; clear hw w1)
  go_ret2
  exact ⟨rfl, rfl⟩

/-- The names of the comparisons. -/
def cmN : List (List UInt8) := [[101, 113], [110, 101], [108, 116], [103, 101], [108, 116, 117], [103, 101, 117]]

theorem holds_none (op : ByteArray) (hop : ∀ n ∈ cmN, ¬ op.toList = n) (a b : Int) (w : World) : Calls Try.prog 5 #[.string op, .int .i64 a, .int .i64 b] w fun e w' => e = .returned (.tuple #[.bool false, .bool false]) ∧ w' = w := by
  have x1 := wh_plus (wd a) (wd_in a)
  have y1 := wh_plus (wd b) (wd_in b)
  obtain ⟨a1, a2⟩ := wd_in a
  obtain ⟨b1, b2⟩ := wd_in b
  have n0 : ¬ op.toList = [101, 113] := hop _ (by simp [cmN])
  have m0 : (op.toList == [101, 113]) = false := by simpa using n0
  have n1 : ¬ op.toList = [110, 101] := hop _ (by simp [cmN])
  have m1 : (op.toList == [110, 101]) = false := by simpa using n1
  have n2 : ¬ op.toList = [108, 116] := hop _ (by simp [cmN])
  have m2 : (op.toList == [108, 116]) = false := by simpa using n2
  have n3 : ¬ op.toList = [103, 101] := hop _ (by simp [cmN])
  have m3 : (op.toList == [103, 101]) = false := by simpa using n3
  have n4 : ¬ op.toList = [108, 116, 117] := hop _ (by simp [cmN])
  have m4 : (op.toList == [108, 116, 117]) = false := by simpa using n4
  have n5 : ¬ op.toList = [103, 101, 117] := hop _ (by simp [cmN])
  have m5 : (op.toList == [103, 101, 117]) = false := by simpa using n5
  clear hop
  go_enter Try.func5, Try.ntmps5
  go_wp2_with (go_at_call 8; refine (word_c _ _).mono ?_; rintro e w1 ⟨rfl, hw⟩; rw [hw]; clear hw w1)
  go_ret2
  exact ⟨rfl, rfl⟩

end Go.Proofs.Ytaomojhjfkjkkaa
