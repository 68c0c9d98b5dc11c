/- Marking a forest of the call's own, and finding the marks. -/
import Derived.Test.YtgppcocfnbalfaaFMem
namespace Go.Proofs.Ytgppcocfnbalfaa
open Go.RowKit
set_option linter.unusedVariables false
set_option linter.unusedSimpArgs false
attribute [local go_sem ↓] Go.wp_at_zero Go.wp_at_succ

/-- Marks of kids. -/
def marksI (k : Int) (n : Nat) : List Int := (List.range n).map fun j : Nat => k + (j : Int)
theorem marksI_length (k : Int) (n : Nat) : (marksI k n).length = n := by simp [marksI]
theorem marksI_at (k : Int) {n j : Nat} (h : j < n) : ia (marksI k n) j = k + (j : Int) := by simp [ia, marksI, h]

end Go.Proofs.Ytgppcocfnbalfaa
