/- What comes of the middle of a quad: the specification's result. -/
import Derived.Test.YtnabgfbempkgnaaL5A
import Derived.Test.YtnabgfbempkgnaaCellF
import Derived.Test.YtnabgfbempkgnaaSTreeE
namespace Go.Proofs.Ytnabgfbempkgnaa
open Go.RowKit
set_option linter.unusedVariables false
set_option linter.unusedSimpArgs false
attribute [local go_sem ↓] Go.wp_at_zero Go.wp_at_succ

/-- What a quad's cells come to by a quarter of its side, and the tree of their middle. -/
noncomputable def resC (F : List Qd) (q : Nat) : List Cl := stepsL (2 ^ (levN F q - 2)) (ordL (cellsOfQ F q))
noncomputable def resT (F : List Qd) (q : Nat) : List Qd × Nat := treeL (mv (resC F q) (-(2 ^ (levN F q - 2))) (-(2 ^ (levN F q - 2)))) (levN F q - 1) 0 0 F

theorem cells_in (F : List Qd) (q : Nat) (h : levN F q ≤ 5) : InB 0 31 (cellsOfQ F q) := by
  intro c hc
  have h1 := cellsL_in F (levN F q) q 0 0 c hc
  have h2 := pow2F h
  omega
theorem cells_few (F : List Qd) (q : Nat) (h : levN F q ≤ 5) : (cellsOfQ F q).length ≤ 1024 := by
  have h1 := cellsL_len F (levN F q) q 0 0
  have h2 := pow4F h
  unfold cellsOfQ
  omega
/-- What a quad comes to is ordered, and near by. -/
theorem resC_facts (F : List Qd) (q : Nat) (h : levN F q ≤ 5) : risTo (resC F q) (resC F q).length = true ∧ InB (-8) 39 (resC F q) ∧ (resC F q).length ≤ 6561 := by
  obtain ⟨l', h1, h2⟩ := ord_ex (cellsOfQ F q)
  have e : ordL (cellsOfQ F q) = l' := ordL_eq h1 h2
  have hI : InB 0 31 l' := fun c hc => cells_in F q h c ((h2 c).1 hc)
  have hk : 2 ^ (levN F q - 2) ≤ 8 := by
    rcases (show levN F q - 2 = 0 ∨ levN F q - 2 = 1 ∨ levN F q - 2 = 2 ∨ levN F q - 2 = 3 by omega) with e | e | e | e <;> rw [e] <;> decide
  unfold resC
  rw [e]
  have hr := steps_ris (n := 2 ^ (levN F q - 2)) h1
  have hS : InB (-8) 39 (stepsL (2 ^ (levN F q - 2)) l') := (InB.steps (l := l') (n := 2 ^ (levN F q - 2)) hI).wide (by omega) (by omega)
  exact ⟨hr, hS, len_box hr (hS.wide (by omega) (by omega))⟩

end Go.Proofs.Ytnabgfbempkgnaa
