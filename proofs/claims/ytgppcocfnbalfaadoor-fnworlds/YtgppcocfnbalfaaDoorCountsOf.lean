/- Texts of this seat, one behind the other: CountsOf. -/
import Derived.Test.YtgppcocfnbalfaaDoorCounts
namespace Go.Proofs.YtgppcocfnbalfaaDoor
open Go.RowKit Go.Maps
set_option linter.unusedVariables false

theorem range_cat (M : Nat → List Cl) (k : Nat) : (List.range (k + 1)).flatMap M = (List.range k).flatMap M ++ M k := by
  rw [List.range_succ, List.flatMap_append, List.flatMap_singleton]
theorem range_cat_len {M : Nat → List Cl} {m : Nat} : ∀ {k : Nat}, (∀ i, i < k → (M i).length ≤ m) → ((List.range k).flatMap M).length ≤ k * m
  | 0, _ => by simp
  | k + 1, h => by
    rw [range_cat, List.length_append]
    have h1 := range_cat_len (M := M) (m := m) (k := k) (fun i hi => h i (by omega))
    have h2 := h k (by omega)
    rw [Nat.succ_mul]; omega

end Go.Proofs.YtgppcocfnbalfaaDoor
