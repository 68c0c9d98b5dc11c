/- areJoined and l7Close. -/
import Derived.Test.YtgppcocfnbalfaaLonP
import Derived.Test.YtgppcocfnbalfaaLeaf
import Derived.Test.YtgppcocfnbalfaaWd
namespace Go.Proofs.Ytgppcocfnbalfaa
open Go.RowKit
set_option linter.unusedVariables false
set_option linter.unusedSimpArgs false

theorem run_max4 (w : World) (t1 t2 t3 t4 t : TypeId) (a b c d M : Int) (hM : (if d > (if c > (if b > a then b else a) then c else (if b > a then b else a)) then d else (if c > (if b > a then b else a) then c else (if b > a then b else a))) = M) :
    (Builtin.max_ #[t1, t2, t3, t4] t #[.int .i64 a, .int .i64 b, .int .i64 c, .int .i64 d]).run Try.prog w = .ok (.int .i64 M) w := by
  subst hM
  simp [Builtin.max_, Builtin.max2]
theorem joined_max {x y u z M : Int} (hM : (if z - y > (if y - z > (if u - x > x - u then u - x else x - u) then y - z else (if u - x > x - u then u - x else x - u)) then z - y else (if y - z > (if u - x > x - u then u - x else x - u) then y - z else (if u - x > x - u then u - x else x - u))) = M) :
    joined (x, y) (u, z) = decide (M ≤ 2) := by
  rw [Bool.eq_iff_iff]; simp only [joined, Bool.and_eq_true, decide_eq_true_eq]
  subst hM
  split <;> split <;> split <;> omega

set_option maxHeartbeats 1000000 in
theorem c_areJoined (a b : Cl) (w : World) (ha : inR a = true) (hb : inR b = true) :
    Calls Try.prog 91 #[.agg #[.int .i64 a.1, .int .i64 a.2], .agg #[.int .i64 b.1, .int .i64 b.2]] w fun e w' => e = .returned (.bool (joined a b)) ∧ Below w.heap.size w w' := by
  simp only [inR, Bool.and_eq_true, decide_eq_true_eq] at ha hb
  obtain ⟨x, y⟩ := a
  obtain ⟨u, z⟩ := b
  dsimp only at ha hb ⊢
  obtain ⟨M, hM⟩ : ∃ M, (if z - y > (if y - z > (if u - x > x - u then u - x else x - u) then y - z else (if u - x > x - u then u - x else x - u)) then z - y else (if y - z > (if u - x > x - u then u - x else x - u) then y - z else (if u - x > x - u then u - x else x - u))) = M := ⟨_, rfl⟩
  have hmx := fun (W : World) t1 t2 t3 t4 t => run_max4 W t1 t2 t3 t4 t (x - u) (u - x) (y - z) (z - y) M hM
  have hv := hid (joined_max hM)
  have HB := hid (((Below.refl w.heap.size w).alloc (Nat.le_refl _) (.cells #[.int .i64 x, .int .i64 y] 44)).alloc (by simp) (.cells #[.int .i64 u, .int .i64 z] 44))
  clear hM
  go_enter Try.func91, Try.ntmps91
  go_wp2
  go_ret
  exact ⟨by rw [hv.out]; rfl, HB.out⟩

theorem c_l1In2 (n : Int) (v : Bool) (h : (decide (-2 ≤ n) && decide (n ≤ 2)) = v) (w : World) : Calls Try.prog 59 #[.int .i64 n, .int .i64 (-2), .int .i64 2] w fun e w' => e = .returned (.bool v) ∧ w' = w := by
  rw [← h]; exact c_l1In n (-2) 2 w

set_option maxHeartbeats 1000000 in
theorem c_l7Close (a b : Cl) (w : World) (ha : inR a = true) (hb : inR b = true) :
    Calls Try.prog 71 #[.agg #[.int .i64 a.1, .int .i64 a.2], .agg #[.int .i64 b.1, .int .i64 b.2]] w fun e w' => e = .returned (.bool (joined a b)) ∧ Below w.heap.size w w' := by
  simp only [inR, Bool.and_eq_true, decide_eq_true_eq] at ha hb
  have hv := hid (show joined a b = ((decide (-2 ≤ a.1 - b.1) && decide (a.1 - b.1 ≤ 2)) && (decide (-2 ≤ a.2 - b.2) && decide (a.2 - b.2 ≤ 2))) from rfl)
  obtain ⟨x, y⟩ := a
  obtain ⟨u, z⟩ := b
  dsimp only at ha hb hv ⊢
  have HB := hid (((Below.refl w.heap.size w).alloc (Nat.le_refl _) (.cells #[.int .i64 x, .int .i64 y] 44)).alloc (by simp) (.cells #[.int .i64 u, .int .i64 z] 44))
  cases h1 : (decide (-2 ≤ x - u) && decide (x - u ≤ 2))
  · rw [h1] at hv
    have C1 := hid (fun W => c_l1In2 (x - u) false h1 W)
    clear h1
    go_enter Try.func71, Try.ntmps71
    go_wp2_with fail
    refine (C1.out _).mono ?_
    rintro e w1 ⟨rfl, rfl⟩
    go_wp2
    go_ret
    exact ⟨by rw [hv.out]; rfl, HB.out⟩
  · rw [h1] at hv
    have C1 := hid (fun W => c_l1In2 (x - u) true h1 W)
    have C2 := hid (fun W => c_l1In2 (y - z) _ rfl W)
    clear h1
    generalize (decide (-2 ≤ y - z) && decide (y - z ≤ 2)) = q at *
    go_enter Try.func71, Try.ntmps71
    go_wp2_with fail
    refine (C1.out _).mono ?_
    rintro e w1 ⟨rfl, rfl⟩
    go_wp2_with fail
    refine (C2.out _).mono ?_
    rintro e w2 ⟨rfl, rfl⟩
    go_wp2
    go_ret
    exact ⟨by rw [hv.out]; simp, HB.out⟩
end Go.Proofs.Ytgppcocfnbalfaa
