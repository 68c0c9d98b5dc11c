/- A slice of cells that came in, opened: the list of cells that it holds. -/
import Derived.Test.YtgfdkolhldbehaaGood
import Derived.ProofKit
import Derived.OpenShut
import Derived.ShutString
import Derived.ChangeOld
import Derived.Below
import Derived.Deep.SlicePairs
import Derived.Lib.SmallJoins
namespace Go.Proofs.Ytgfdkolhldbehaa
open Go.RowKit Go.ChangeShapes Go.WideShapes Go.ChangeAt Go.Deep Go.Joins

theorem own : ownKnob Try.prog.godebug = none := by kernel_rfl
theorem laidOut : laidOutB Try.prog = true := by kernel_rfl
theorem cells_Cell : Try.prog.cellsOf 106 = 2 := by kernel_rfl
theorem cells_int : Try.prog.cellsOf 3 = 1 := by kernel_rfl

theorem lt_of_cell {w : World} {p : Addr} {v : Value} (h : w.cell? p = some v) : p.block < w.heap.size := by
  unfold World.cell? at h
  split at h
  · rename_i hb
    exact (Array.getElem?_eq_some_iff.1 hb).1
  · cases h

theorem und_Cell : ∃ f0 f1 : Field, Try.prog.underlying 106 = some (.struct #[f0, f1]) ∧ f0.offset = 0 ∧ f1.offset = 1 ∧ f0.type = 3 ∧ f1.type = 3 :=
  ⟨_, _, Try.underlying106, rfl, rfl, rfl, rfl⟩

/-- A slice of cells that came in. -/
theorem open_cells {H : Type} {enc : TypeId × Value → H} {W : World} {base fuel : Nat} {spare : Nat → Bool} {held : Bool} {a : Option Addr} {len cap : Nat} {x : DataW H × List MemPlace}
    (h : DataW.trod enc Try.prog W base spare held fuel 51 [.slice a len cap] = some x) : ∃ l : List Cl, l.length = len ∧ l.length ≤ maxLen ∧ Seg W a l := by
  obtain ⟨f0, f1, he, o0, o1, t0, t1⟩ := und_Cell
  rcases open_slice_pairs Try.underlying51 he cells_Cell o0 o1 (by rw [t0]; exact cells_int) (by rw [t1]; exact cells_int) h with ⟨hcs, _⟩ | ⟨ad, len', cap', m, n, V0, V1, D0, D1, P0, P1, hcs, _, hl, hm, hmm, _, hc⟩
  · simp at hcs
    obtain ⟨rfl, rfl, rfl⟩ := hcs
    exact ⟨[], rfl, by simp [maxLen], fun i hi => by simp at hi⟩
  · simp at hcs
    obtain ⟨rfl, rfl, rfl⟩ := hcs
    have hlm : len ≤ m := by rw [hmm]; split <;> omega
    have each : ∀ i, i < len → ∃ c : Cl, V0 i = .int .i64 c.1 ∧ V1 i = .int .i64 c.2 := by
      intro i hi
      obtain ⟨_, _, r0, r1⟩ := hc i (by omega)
      rw [t0] at r0
      rw [t1] at r1
      obtain ⟨n0, e0, _⟩ := DataW.trod_int Try.underlying3 r0
      obtain ⟨n1, e1, _⟩ := DataW.trod_int Try.underlying3 r1
      simp at e0 e1
      exact ⟨(n0, n1), e0, e1⟩
    obtain ⟨q, hq⟩ := choose_lt each
    refine ⟨(List.range len).map q, by simp, by simp; omega, fun i hi => ?_⟩
    simp at hi
    obtain ⟨c0, c1, _, _⟩ := hc i (by omega)
    obtain ⟨c00, _, _, _⟩ := hc 0 (by omega)
    obtain ⟨b, o, spot⟩ := ad
    have hspot : spot = none := by simpa [Addr.add] using World.cell?_spot c00
    subst hspot
    rw [add_plain] at c0 c1
    have hlt := lt_of_cell c0
    refine ⟨b, o, rfl, hlt, ?_, ?_⟩
    · rw [c0, (hq i hi).1]; simp [hi]
    · rw [show o + i * 2 + 1 = o + (i * 2 + 1) by omega, c1, (hq i hi).2]; simp [hi]

set_option maxRecDepth 100000 in
/-- A cell that came in by value. -/
theorem open_cell {H : Type} {enc : TypeId × Value → H} {W : World} {base base' : Nat} {spare : Nat → Bool} {held : Bool} {v : Value} {d : DataW H} {p : List MemPlace}
    (hval : Value.okWide Try.prog W .any base' 106 v) (h : DataW.Trod enc Try.prog W base spare held 106 v d p) : ∃ c : Cl, v = .agg #[.int .i64 c.1, .int .i64 c.2] := by
  obtain ⟨c0, c1, y0, y1, m, rfl, _, _, hy0, hy1⟩ := open_agg2 Try.underlying106 (by kernel_rfl) cells_Cell hval h
  obtain ⟨x, e0, _, _⟩ := DataW.trod_int Try.underlying3 hy0
  obtain ⟨y, e1, _, _⟩ := DataW.trod_int Try.underlying3 hy1
  simp at e0 e1
  subst e0 e1
  exact ⟨(x, y), rfl⟩
set_option maxRecDepth 100000 in
/-- A number that came in. -/
theorem open_num {H : Type} {enc : TypeId × Value → H} {W : World} {base base' : Nat} {spare : Nat → Bool} {held : Bool} {v : Value} {d : DataW H} {p : List MemPlace}
    (hval : Value.okWide Try.prog W .any base' 3 v) (h : DataW.Trod enc Try.prog W base spare held 3 v d p) : ∃ n : Int, v = .int .i64 n ∧ (Lit.int .i64 n).wf = true := by
  obtain ⟨n, rfl, _, _, wn⟩ := open_int Try.underlying3 hval h
  exact ⟨n, rfl, wn⟩

end Go.Proofs.Ytgfdkolhldbehaa
