/- What the small functions of chapter 1 answer, each by a walk: bounds, the order of cells, equality of cells. -/
import Derived.Test.YtgfdkolhldbehaaRows
import Derived.WalkKit
import Derived.WalkSpells
import Derived.WalkLawsBesides
namespace Go.Proofs.Ytgfdkolhldbehaa
open Go.RowKit

/-- A cell as a value. -/
def cv (c : Int × Int) : Value := .agg #[.int .i64 c.1, .int .i64 c.2]
/-- Is a cell within reach? -/
def inR (c : Int × Int) : Bool := decide (-40 ≤ c.1) && decide (c.1 ≤ 40) && decide (-40 ≤ c.2) && decide (c.2 ≤ 40)
/-- Is a cell ahead of another? -/
def ltC (a b : Int × Int) : Bool := decide (a.2 < b.2) || (decide (a.2 = b.2) && decide (a.1 < b.1))
/-- Are two cells one? -/
def eqC (a b : Int × Int) : Bool := decide (a = b)
/-- How two numbers compare. -/
def cmpI (a b : Int) : Int := if a < b then -1 else if b < a then 1 else 0
/-- How two cells compare. -/
def cmpC (a b : Int × Int) : Int := if a.2 = b.2 then cmpI a.1 b.1 else cmpI a.2 b.2

theorem ret_bool {a b : Bool} (h : a = b) : Ending.returned (.bool a) = .returned (.bool b) := by rw [h]
theorem ret_two {a b c d : Value} (h1 : a = c) (h2 : b = d) : Ending.returned (.tuple #[a, b]) = .returned (.tuple #[c, d]) := by rw [h1, h2]
theorem vbool {a b : Bool} (h : a = b) : Value.bool a = .bool b := by rw [h]
theorem ret_int {k : IntKind} {a b : Int} (h : a = b) : Ending.returned (.int k a) = .returned (.int k b) := by rw [h]

set_option maxHeartbeats 400000 in
theorem c_l1In (n lo hi : Int) (w : World) :
    Calls Try.prog 102 #[.int .i64 n, .int .i64 lo, .int .i64 hi] w fun e w' => e = .returned (.bool (decide (lo ≤ n) && decide (n ≤ hi))) ∧ w' = w := by
  by_cases h1 : lo ≤ n <;> by_cases h2 : n ≤ hi
  all_goals
    go_enter Try.func102, Try.ntmps102
    go_wp2
    go_ret
    exact ⟨ret_bool (by simp [h1, h2] <;> omega), rfl⟩

set_option maxHeartbeats 400000 in
theorem c_l1There (c : Int × Int) (w : World) :
    Calls Try.prog 119 #[.agg #[.int .i64 c.1, .int .i64 c.2]] w fun e w' => e = .returned (.bool (inR c)) ∧ Below w.heap.size w w' := by
  obtain ⟨x, y⟩ := c
  dsimp only
  by_cases h1 : (-40 ≤ x ∧ x ≤ 40)
  · have hb : (decide (-40 ≤ x) && decide (x ≤ 40)) = true := by simp; omega
    go_enter Try.func119, Try.ntmps119
    go_wp2_with (go_at_call 102; refine (c_l1In _ _ _ _).mono ?_; rintro e w' ⟨rfl, rfl⟩)
    go_ret
    exact ⟨ret_bool (by simp [inR, h1]), (Below.refl _ _).alloc (Nat.le_refl _) _⟩
  · have hb : (decide (-40 ≤ x) && decide (x ≤ 40)) = false := by simp; omega
    go_enter Try.func119, Try.ntmps119
    go_wp2_with (go_at_call 102; refine (c_l1In _ _ _ _).mono ?_; rintro e w' ⟨rfl, rfl⟩)
    go_ret
    exact ⟨ret_bool (by simp [inR]; omega), (Below.refl _ _).alloc (Nat.le_refl _) _⟩

set_option maxHeartbeats 400000 in
theorem c_inReach (c : Int × Int) (w : World) :
    Calls Try.prog 140 #[.agg #[.int .i64 c.1, .int .i64 c.2]] w fun e w' => e = .returned (.bool (inR c)) ∧ Below w.heap.size w w' := by
  obtain ⟨x, y⟩ := c
  dsimp only
  go_enter Try.func140, Try.ntmps140
  go_wp2
  all_goals
    go_ret
    exact ⟨ret_bool (by simp [inR, *] <;> omega), (Below.refl _ _).alloc (Nat.le_refl _) _⟩

set_option maxHeartbeats 400000 in
theorem c_l1Less (c d : Int × Int) (w : World) :
    Calls Try.prog 120 #[.agg #[.int .i64 c.1, .int .i64 c.2], .agg #[.int .i64 d.1, .int .i64 d.2]] w fun e w' => e = .returned (.bool (ltC c d)) ∧ Below w.heap.size w w' := by
  obtain ⟨x, y⟩ := c
  obtain ⟨u, v⟩ := d
  dsimp only
  go_enter Try.func120, Try.ntmps120
  go_wp2
  all_goals
    go_ret
    exact ⟨ret_bool (by simp [ltC, *] <;> omega), ((Below.refl _ _).alloc (Nat.le_refl _) _).alloc (by simp) _⟩

set_option maxHeartbeats 400000 in
theorem c_eqCell (c d : Int × Int) (w : World) :
    Calls Try.prog 92 #[.agg #[.int .i64 c.1, .int .i64 c.2], .agg #[.int .i64 d.1, .int .i64 d.2]] w fun e w' => e = .returned (.bool (eqC c d)) ∧ Below w.heap.size w w' := by
  obtain ⟨x, y⟩ := c
  obtain ⟨u, v⟩ := d
  dsimp only
  go_enter Try.func92, Try.ntmps92
  go_wp2
  all_goals
    go_ret
    exact ⟨ret_bool (by simp_all [eqC]), ((Below.refl _ _).alloc (Nat.le_refl _) _).alloc (by simp) _⟩

set_option maxHeartbeats 400000 in
theorem c_Compare (x y : Int) (w : World) :
    Calls Try.prog 142 #[.int .i64 x, .int .i64 y] w fun e w' => e = .returned (.int .i64 (cmpI x y)) ∧ w' = w := by
  rcases (show x < y ∨ x = y ∨ y < x by omega) with h | h | h
  all_goals
    go_enter Try.func142, Try.ntmps142
    go_wp2
    go_ret
    exact ⟨ret_int (by simp [cmpI]; omega), rfl⟩

set_option maxHeartbeats 400000 in
theorem c_compareCells (c d : Int × Int) (w : World) :
    Calls Try.prog 125 #[.agg #[.int .i64 c.1, .int .i64 c.2], .agg #[.int .i64 d.1, .int .i64 d.2]] w fun e w' => e = .returned (.int .i64 (cmpC c d)) ∧ Below w.heap.size w w' := by
  obtain ⟨x, y⟩ := c
  obtain ⟨u, v⟩ := d
  dsimp only
  by_cases h : y = v
  · have hb : (y != v) = false := by simp [h]
    have H : Hid (y = v) := h
    clear h
    go_enter Try.func125, Try.ntmps125
    go_wp2_with (go_at_call 142; refine (c_Compare _ _ _).mono ?_; rintro e w' ⟨rfl, rfl⟩)
    go_ret
    exact ⟨ret_int (by simp [cmpC, H.out]), ((Below.refl _ _).alloc (Nat.le_refl _) _).alloc (by simp) _⟩
  · have hb : (y != v) = true := by simp [h]
    go_enter Try.func125, Try.ntmps125
    go_wp2_with (go_at_call 142; refine (c_Compare _ _ _).mono ?_; rintro e w' ⟨rfl, rfl⟩)
    go_ret
    exact ⟨ret_int (by simp [cmpC, h]), ((Below.refl _ _).alloc (Nat.le_refl _) _).alloc (by simp) _⟩

end Go.Proofs.Ytgfdkolhldbehaa
