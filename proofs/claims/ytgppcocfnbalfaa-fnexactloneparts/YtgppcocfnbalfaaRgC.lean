/- What callers of the iterator carry: boxes, prefixes of what is handed on. -/
import Derived.Test.YtgppcocfnbalfaaStO
import Derived.Test.YtgppcocfnbalfaaPicO
namespace Go.Proofs.Ytgppcocfnbalfaa
open Go.RowKit Go.Shelf
set_option linter.unusedVariables false
set_option linter.unusedSimpArgs false

theorem c_isMost (t : Int) (w : World) : Calls Try.prog 50 #[.int .i64 t] w fun e w' => e = .returned (.bool (inMo t)) ∧ w' = w := by
  by_cases h1 : 1 ≤ t <;> by_cases h2 : t ≤ 20
  all_goals
    go_enter Try.func50, Try.ntmps50
    go_wp2
    go_ret
    exact ⟨ret_bool (by simp [inMo, h1, h2] <;> omega), rfl⟩

theorem boxed_other {W W' : World} {row : Option Nat} {B : Nat} {t : TypeId} {v : Value} (h : Boxed W B t v) (hg : W.grownBy W' row) (hr : ∀ r, row = some r → ∃ o : Obj, W.heap[r]? = some o ∧ o.isCells = false) : Boxed W' B t v :=
  h.kept hg fun e => by
    obtain ⟨o, ho, hc⟩ := hr B e.symm
    rw [show W.heap[B]? = _ from h] at ho; cases ho; cases hc
theorem boxed_below {W W' : World} {B : Nat} {t : TypeId} {v : Value} (h : Boxed W B t v) (hb : Below W.heap.size W W') : Boxed W' B t v := (hb.block B h.lt).trans h
theorem boxed_ne {W : World} {B b : Nat} {t : TypeId} {v u : Value} (h : Boxed W B t v) (hne : B ≠ b) : Boxed (W.setCell ⟨b, 0, none⟩ u) B t v :=
  h.kept (grownBy_setCell' W b u) (by simp; exact hne)
theorem keeps_below {W W' : World} (hb : Below W.heap.size W W') : KeepsOthers W W' := ⟨hb.size, fun k o hk _ => (hb.block k (Array.getElem?_eq_some_iff.1 hk).1).trans hk⟩
theorem pre_ht {A F : List (List Cl)} (h : A <+: F) {i : Nat} (hi : i < A.length) : ht F i = ht A i := by
  obtain ⟨r, rfl⟩ := h
  simp [ht, List.getElem?_append_left hi]
theorem pre_le {A F : List (List Cl)} (h : A <+: F) : A.length ≤ F.length := h.length_le
theorem hFull_good {T : Nat} {l : List Cl} {x : List Cl} {A : List (List Cl)} (h : A ++ [x] <+: hFull T l) : good l = true := by
  cases hg : good l
  · have := pre_le h
    simp [hFull, hg] at this
  · rfl
theorem hFull_is {T : Nat} {l : List Cl} (h : inMo (T : Int) = true) : hFull T l = histG l (T : Int) := by
  cases hg : good l <;> simp [hFull, histG, hg, h]
/-- A store into a box of its own type keeps what a round is to keep. -/
theorem hKp.set {b c B : Nat} {W : World} {t : TypeId} {v u : Value} (h : Boxed W B t v) (ht : t ≠ 44) (hb : b ≠ B) (hc : c ≠ B) : hKp b c W (W.setCell ⟨B, 0, none⟩ u) := by
  have hg := grownBy_setCell' W B u
  refine ⟨hg.size, fun k cs f hk => ?_, Below.heap_setCell _ _ _ b hb, Below.heap_setCell _ _ _ c hc⟩
  refine (hg.block k (Array.getElem?_eq_some_iff.1 hk).1 (fun e => ?_)).trans hk
  simp only [Option.some.injEq] at e
  subst e
  rw [show W.heap[k]? = _ from h] at hk
  simp only [Option.some.injEq, Obj.cells.injEq] at hk
  exact ht hk.2.1
end Go.Proofs.Ytgppcocfnbalfaa
