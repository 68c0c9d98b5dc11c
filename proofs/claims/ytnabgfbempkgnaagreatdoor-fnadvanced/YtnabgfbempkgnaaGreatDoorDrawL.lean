/- Texts of this seat, one behind the other: DrawL. -/
import Derived.Test.YtnabgfbempkgnaaGreatDoorDraw
namespace Go.Proofs.YtnabgfbempkgnaaGreatDoor
open Go.RowKit
set_option linter.unusedVariables false

theorem BoxAt.grown {w w' : World} {B : Nat} {c : Cl} {row : Option Nat} (h : BoxAt w B c) (hg : w.grownBy w' row) (hne : some B ≠ row) : BoxAt w' B c := by
  obtain ⟨h1, h2, h3, h4, h5⟩ := h
  exact ⟨(cell_grown1 hg h5 hne).trans h1, (cell_grown1 hg h5 hne).trans h2, (frozen_grown1 hg h5 hne).trans h3, (frozen_grown1 hg h5 hne).trans h4, Nat.lt_of_lt_of_le h5 hg.size⟩
theorem CU.nilset {w W : World} {base b n : Nat} {A : Int} (h : CU w W base b n A (.slice none 0 0) []) {B : Nat} (hB : w.heap.size ≤ B) (o : Nat) (u : Value) : CU w (W.setCell ⟨B, o, none⟩ u) base b n A (.slice none 0 0) [] :=
  ⟨OwnS.nil _ _, h.cur.kept (grown_set1 W B o u) (fun e => by have := h.bl; simp only [Option.some.injEq] at e; omega) (fun k e => by have := h.bl; have := h.cur.lt; simp only [Option.some.injEq] at e; omega), grown_over h.gr (grown_set1 W B o u) (fun k e => by simp only [Option.some.injEq] at e; omega), h.bl⟩

end Go.Proofs.YtnabgfbempkgnaaGreatDoor
