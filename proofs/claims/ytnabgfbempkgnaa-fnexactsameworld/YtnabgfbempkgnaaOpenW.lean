/- A world that came in by value, opened. -/
import Derived.Test.YtnabgfbempkgnaaOpen
namespace Go.Proofs.Ytnabgfbempkgnaa
open Go.RowKit Go.ChangeShapes Go.WideShapes Go.ChangeAt Go.Deep Go.Joins

theorem cells_World : Try.prog.cellsOf 36 = 2 := by kernel_rfl
set_option maxRecDepth 100000 in
/-- A world that came in. -/
theorem open_world {H : Type} {enc : TypeId × Value → H} {W : World} {base base' : Nat} {spare : Nat → Bool} {held : Bool} {v : Value} {d : DataW H} {p : List MemPlace}
    (hval : Value.okWide Try.prog W .any base' 36 v) (h : DataW.Trod enc Try.prog W base spare held 36 v d p) :
    ∃ (a : Option Addr) (l : List Cl) (cap : Nat) (t : Int), v = .agg #[.slice a l.length cap, .int .i64 t] ∧ l.length ≤ maxLen ∧ Seg W a l := by
  obtain ⟨c0, c1, y0, y1, m, rfl, _, _, hy0, hy1⟩ := open_agg2 Try.underlying36 (by kernel_rfl) cells_World hval h
  obtain ⟨t, e1, _, _⟩ := DataW.trod_int Try.underlying3 hy1
  obtain ⟨a, len, cap, e0⟩ := slice_form Try.underlying22 hy0
  simp only [List.cons.injEq, and_true] at e0 e1
  subst e0 e1
  obtain ⟨l, rfl, h1, h2⟩ := open_cells hy0
  exact ⟨a, l, cap, t, rfl, h1, h2⟩

end Go.Proofs.Ytnabgfbempkgnaa
