/- CellsOf of both sides. -/
import Derived.Test.YtgfdkolhldbehaaSortS
import Derived.Test.YtgfdkolhldbehaaCountsOf
import Derived.Test.YtgfdkolhldbehaaOrder
import Derived.Test.YtgfdkolhldbehaaMove
namespace Go.Proofs.Ytgfdkolhldbehaa
open Go.RowKit Go.Maps
set_option linter.unusedVariables false

/-- What CellsOf answers. -/
noncomputable def cofOk (l : List Cl) : Bool := decide (l.length ≤ 200) && good (ordL l)
noncomputable def cofL (l : List Cl) : List Cl := if l.length ≤ 200 then tellV (ordL l) else []
theorem cofL_le (l : List Cl) : (cofL l).length ≤ 120 := by
  unfold cofL; split
  · exact tellV_le _
  · simp

theorem cell_one (w : World) (u : Value) (t : TypeId) : (w.alloc (.cells #[u] t)).cell? ⟨w.heap.size, 0, none⟩ = some u := by
  unfold World.cell?; rw [heap_alloc_new]; rfl
theorem cnt_one (l : List Cl) : (List.range 1).flatMap (fun _ => l) = l := by simp [List.range_succ]

end Go.Proofs.Ytgfdkolhldbehaa
