/- Texts of this seat, one behind the other: StepS. -/
import Derived.Test.YtgppcocfnbalfaaDoorStep
import Derived.Test.YtgppcocfnbalfaaDoorCellsOf
namespace Go.Proofs.YtgppcocfnbalfaaDoor
open Go.RowKit Go.Maps
set_option linter.unusedVariables false

/-- A cell and the eight about it, row by row. -/
def blk (x : Cl) : List Cl := [(x.1 + -1, x.2 + -1), (x.1 + 0, x.2 + -1), (x.1 + 1, x.2 + -1), (x.1 + -1, x.2 + 0), (x.1 + 0, x.2 + 0), (x.1 + 1, x.2 + 0), (x.1 + -1, x.2 + 1), (x.1 + 0, x.2 + 1), (x.1 + 1, x.2 + 1)]
theorem blk_at (x : Cl) {i j : Nat} (hi : i < 3) (hj : j < 3) : at_ (blk x) (3 * i + j) = (x.1 + (-1 + (j : Int)), x.2 + (-1 + (i : Int))) := by
  rcases (show i = 0 ∨ i = 1 ∨ i = 2 by omega) with e | e | e <;> rcases (show j = 0 ∨ j = 1 ∨ j = 2 by omega) with e' | e' | e' <;> subst e <;> subst e' <;> simp [at_, blk]
theorem near_blk {x c : Cl} (h : nearB c x = true) : c ∈ blk x := by
  obtain ⟨a, b⟩ := x
  obtain ⟨u, v⟩ := c
  simp [nearB] at h
  simp [blk]
  omega

/-- What has been gathered of the next cells among those seen. -/
def Next (l m seen : List Cl) : Prop := risTo m m.length = true ∧ ∀ c, c ∈ m ↔ (nxtB l c = true ∧ c ∈ seen)
theorem Next.add {l m seen m' : List Cl} {y : Cl} (h : Next l m seen) (hw : With m y m') (hy : nxtB l y = true) : Next l m' (seen ++ [y]) := by
  refine ⟨hw.1, fun c => ?_⟩
  rw [hw.2.1, h.2, List.mem_append, List.mem_singleton]
  constructor
  · rintro (rfl | ⟨h1, h2⟩)
    · exact ⟨hy, .inr rfl⟩
    · exact ⟨h1, .inl h2⟩
  · rintro ⟨h1, h2 | h2⟩
    · exact .inr ⟨h1, h2⟩
    · exact .inl h2
theorem Next.skip {l m seen : List Cl} {y : Cl} (h : Next l m seen) (hy : nxtB l y = false) : Next l m (seen ++ [y]) := by
  refine ⟨h.1, fun c => ?_⟩
  rw [h.2, List.mem_append, List.mem_singleton]
  constructor
  · rintro ⟨h1, h2⟩
    exact ⟨h1, .inl h2⟩
  · rintro ⟨h1, h2 | h2⟩
    · exact ⟨h1, h2⟩
    · subst h2; rw [hy] at h1; cases h1
theorem blk_take (x : Cl) {i j : Nat} (hi : i < 3) (hj : j < 3) : (blk x).take (3 * i + j + 1) = (blk x).take (3 * i + j) ++ [(x.1 + (-1 + (j : Int)), x.2 + (-1 + (i : Int)))] := by
  rw [take_snoc' (by simp [blk]; omega), blk_at x hi hj]

end Go.Proofs.YtgppcocfnbalfaaDoor
