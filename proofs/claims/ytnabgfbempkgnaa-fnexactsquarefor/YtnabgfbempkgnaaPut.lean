/- Is a number there (l1Has); putting a number to its place, once (l1Put). -/
import Derived.Test.YtnabgfbempkgnaaInts
namespace Go.Proofs.Ytnabgfbempkgnaa
open Go.RowKit
set_option linter.unusedVariables false
set_option linter.unusedSimpArgs false
attribute [local go_sem ↓] Go.wp_at_zero Go.wp_at_succ

theorem mem_take_ia {l : List Int} {k : Nat} {n : Int} (h : ¬ n ∈ l.take k) (hk : k < l.length) (h2 : ¬ ia l k = n) : ¬ n ∈ l.take (k + 1) := by
  rw [List.take_succ_eq_append_getElem hk, List.mem_append]
  rintro (h1 | h1)
  · exact h h1
  · simp at h1
    exact h2 (by simp [ia, hk, h1])

end Go.Proofs.Ytnabgfbempkgnaa
