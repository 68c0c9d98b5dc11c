/- What toCell and eqCellS answer: a cell taken over, and whether two lists of cells are one. -/
import Derived.Test.YtnabgfbempkgnaaDoorBase
import Derived.Deep.RegionHeld3
import Derived.Deep.DrawnRows
namespace Go.Proofs.YtnabgfbempkgnaaDoor
open Go.RowKit
set_option linter.unusedVariables false
attribute [local go_sem ↓] Go.wp_at_zero Go.wp_at_succ

theorem take_eq_succ {l m : List (Int × Int)} {k : Nat} {x y : Int × Int} (h1 : k < l.length) (h2 : k < m.length) (hx : l.getD k (0, 0) = x) (hy : m.getD k (0, 0) = y) (ht : l.take k = m.take k) (h : x = y) : l.take (k + 1) = m.take (k + 1) := by
  rw [List.take_succ_eq_append_getElem h1, List.take_succ_eq_append_getElem h2, ht]
  simp [h1, h2] at hx hy
  rw [hx, hy, h]
theorem ne_of_at {l m : List (Int × Int)} {k : Nat} {x y : Int × Int} (hx : l.getD k (0, 0) = x) (hy : m.getD k (0, 0) = y) (h : ¬ x = y) : decide (l = m) = false := by
  simp
  intro e
  subst e
  exact h (hx.symm.trans hy)

end Go.Proofs.YtnabgfbempkgnaaDoor
