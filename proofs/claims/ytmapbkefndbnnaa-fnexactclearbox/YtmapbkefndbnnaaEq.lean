/- What toCell and eqCellS answer: a cell taken over, and whether two lists of cells are one. -/
import Derived.Test.YtmapbkefndbnnaaBase
import Derived.Deep.RegionHeld3
import Derived.Deep.DrawnRows
namespace Go.Proofs.Ytmapbkefndbnnaa
open Go.RowKit
set_option linter.unusedVariables false
attribute [local go_sem ↓] Go.wp_at_zero Go.wp_at_succ

set_option maxHeartbeats 400000 in
theorem c_toCell (x y : Int) (w : World) :
    Calls Try.prog 68 #[.agg #[.int .i64 x, .int .i64 y]] w fun e w' => e = .returned (.agg #[.int .i64 x, .int .i64 y]) ∧ Below w.heap.size w w' := by
  go_enter Try.func68, Try.ntmps68
  go_wp2
  exact bodyPost_ret (v := .agg #[.int .i64 x, .int .i64 y]) (by simp [results, Try.results68, go_sem]) rfl ⟨rfl, (((Below.refl _ _).alloc (Nat.le_refl _) _).alloc (by simp) _).alloc (by simp; omega) _⟩

theorem take_eq_succ {l m : List (Int × Int)} {k : Nat} {x y : Int × Int} (h1 : k < l.length) (h2 : k < m.length) (hx : l.getD k (0, 0) = x) (hy : m.getD k (0, 0) = y) (ht : l.take k = m.take k) (h : x = y) : l.take (k + 1) = m.take (k + 1) := by
  rw [List.take_succ_eq_append_getElem h1, List.take_succ_eq_append_getElem h2, ht]
  simp [h1, h2] at hx hy
  rw [hx, hy, h]
theorem ne_of_at {l m : List (Int × Int)} {k : Nat} {x y : Int × Int} (hx : l.getD k (0, 0) = x) (hy : m.getD k (0, 0) = y) (h : ¬ x = y) : decide (l = m) = false := by
  simp
  intro e
  subst e
  exact h (hx.symm.trans hy)

end Go.Proofs.Ytmapbkefndbnnaa
