/- Texts of this seat, one behind the other: DrawL. -/
import Derived.Test.YtgppcocfnbalfaaDoorDraw
namespace Go.Proofs.YtgppcocfnbalfaaDoor
open Go.RowKit
set_option linter.unusedVariables false

theorem BoxAt.grown {w w' : World} {B : Nat} {c : Cl} {row : Option Nat} (h : BoxAt w B c) (hg : w.grownBy w' row) (hne : some B ≠ row) : BoxAt w' B c := by
  obtain ⟨h1, h2, h3, h4, h5⟩ := h
  exact ⟨(cell_grown1 hg h5 hne).trans h1, (cell_grown1 hg h5 hne).trans h2, (frozen_grown1 hg h5 hne).trans h3, (frozen_grown1 hg h5 hne).trans h4, Nat.lt_of_lt_of_le h5 hg.size⟩
theorem CU.nilset {w W : World} {base b n : Nat} {A : Int} (h : CU w W base b n A (.slice none 0 0) []) {B : Nat} (hB : w.heap.size ≤ B) (o : Nat) (u : Value) : CU w (W.setCell ⟨B, o, none⟩ u) base b n A (.slice none 0 0) [] :=
  ⟨OwnS.nil _ _, h.cur.kept (grown_set1 W B o u) (fun e => by have := h.bl; simp only [Option.some.injEq] at e; omega) (fun k e => by have := h.bl; have := h.cur.lt; simp only [Option.some.injEq] at e; omega), grown_over h.gr (grown_set1 W B o u) (fun k e => by simp only [Option.some.injEq] at e; omega), h.bl⟩

set_option maxHeartbeats 1000000 in
set_option maxRecDepth 100000 in
theorem c_DrawGoodCells (a : Option Addr) (l : List Int) (ca : Nat) (w : World) (ha : BSeg w a l) (hl : l.length ≤ 9223372036854775807) :
    Calls Tryd.prog 38 #[.slice a l.length ca] w fun e w' => ∃ (v : Value) (L : List Cl), e = .returned v ∧ OwnS w' w.heap.size v L ∧ L.length ≤ 105 ∧ Small L ∧ Below w.heap.size w w' := by
  have HC := hid (cur_new w a l ca ha hl)
  clear ha
  go_enter Tryd.func38, Tryd.ntmps38
  go_wp2_with fail
  refine (c_cells w.heap.size w.heap.size l.length 0 12 9 4 (curW w a l.length ca) HC.out (by omega) (by omega) (by omega) (by omega) (by omega) rfl (by omega) (by omega) (by omega)).mono ?_
  rintro e w1 ⟨v1, L, rfl, hO1, hl1, hs1, hc1, hg1⟩
  have HO := hid (hO1.mono (show w.heap.size ≤ (curW w a l.length ca).heap.size by simp))
  have HS := hid hs1
  have HB := hid (below_cur hg1)
  clear hO1 hs1 hc1 hg1 HC
  go_wp2
  go_ret
  exact ⟨_, L, rfl, HO.out, hl1, HS.out, HB.out⟩
end Go.Proofs.YtgppcocfnbalfaaDoor
