/- A few cells that are known (the cursor's known). -/
import Derived.Test.YthmjcjcamcdpkaaDoorCur
namespace Go.Proofs.YthmjcjcamcdpkaaDoor
open Go.RowKit
set_option linter.unusedVariables false

/-- A slice's literal owns its memory. -/
theorem own_lit (w : World) (l : List Cl) (cs : Array Value) (k : Nat) (hk : l.length = k) (hl : k ≤ 1000) (hc : cs.toList = flat l) : OwnS (w.alloc (.cells cs 33)) w.heap.size (.slice (some ⟨w.heap.size, 0, none⟩) k k) l := by
  subst hk
  have hsz : cs.size = l.length * 2 := by
    have := congrArg List.length hc
    rw [flat_length] at this
    simpa using this
  refine ⟨flat_length l, .inr ⟨w.heap.size, l.length, cs, rfl, Nat.le_refl _, heap_alloc_new w _, Nat.le_refl _, by unfold maxLen; omega, hsz, ?_⟩⟩
  rw [hc]
  first | rfl | exact List.take_of_length_le (Nat.le_of_eq (flat_length l)) | exact List.take_length | (rw [← flat_length]; exact List.take_length) | trace_state

/-- Cells that are small. -/
def Small (l : List Cl) : Prop := ∀ c ∈ l, -100 ≤ c.1 ∧ c.1 ≤ 100 ∧ -100 ≤ c.2 ∧ c.2 ≤ 100

end Go.Proofs.YthmjcjcamcdpkaaDoor
