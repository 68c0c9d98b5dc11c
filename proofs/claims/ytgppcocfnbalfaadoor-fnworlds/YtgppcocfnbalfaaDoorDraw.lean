/- Texts of this seat, one behind the other: Draw. -/
import Derived.Test.YtgppcocfnbalfaaDoorCells
import Derived.Test.YtgppcocfnbalfaaDoorSame
import Derived.OwnWalk
namespace Go.Proofs.YtgppcocfnbalfaaDoor
open Go.RowKit
set_option linter.unusedVariables false

/-- The world with a new cursor. -/
abbrev curW (w : World) (a : Option Addr) (n ca : Nat) : World := w.alloc (.cells #[.slice a n ca, .int .i64 0, .int .u64 0] 53)
theorem cur_new (w : World) (a : Option Addr) (l : List Int) (ca : Nat) (ha : BSeg w a l) (hl : l.length ≤ 9223372036854775807) : CurAt (curW w a l.length ca) w.heap.size w.heap.size l.length 0 := by
  refine ⟨a, ca, 0, 0, by simp, Nat.le_refl _, ?_, ?_, ?_, ?_, ?_, by omega, by omega, hl, fun i hi => ?_⟩
  · unfold World.cell?; rw [heap_alloc_new]; rfl
  · unfold World.cell?; rw [heap_alloc_new]; rfl
  · unfold World.cell?; rw [heap_alloc_new]; rfl
  · unfold World.frozen?; rw [heap_alloc_new]; rfl
  · unfold World.frozen?; rw [heap_alloc_new]; rfl
  · obtain ⟨g, o, e, hg, hc, h0, h1⟩ := ha i hi
    exact ⟨g, o, _, e, hg, cell_old w _ hc hg, h0, h1⟩
theorem below_cur {w w' : World} {a : Option Addr} {n ca : Nat} (h : (curW w a n ca).grownBy w' (some w.heap.size)) : Below w.heap.size w w' :=
  ((Below.refl w.heap.size w).alloc (Nat.le_refl _) _).grown h (by simp) (fun k e => by simp only [Option.some.injEq] at e; omega)

end Go.Proofs.YtgppcocfnbalfaaDoor
