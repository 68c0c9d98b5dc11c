/- A slice of cells that came in, opened, with the bounds of its numbers. -/
import Derived.Test.YtapinopicehdmaaMap
import Derived.Test.YtapinopicehdmaaOpen
namespace Go.Proofs.Ytapinopicehdmaa
open Go.RowKit Go.ChangeShapes Go.WideShapes Go.ChangeAt Go.Deep Go.Joins

/-- A slice of cells that came in, and its cells' numbers fit. -/
theorem open_cells_fit {H : Type} {enc : TypeId × Value → H} {W : World} {base fuel : Nat} {spare : Nat → Bool} {held : Bool} {a : Option Addr} {len cap : Nat} {x : DataW H × List MemPlace}
    (h : DataW.trod enc Try.prog W base spare held fuel 22 [.slice a len cap] = some x) : ∃ l : List Cl, l.length = len ∧ l.length ≤ maxLen ∧ Seg W a l ∧ ∀ c ∈ l, fits c := by
  obtain ⟨f0, f1, he, o0, o1, t0, t1⟩ := und_Cell
  rcases open_slice_pairs Try.underlying22 he cells_Cell o0 o1 (by rw [t0]; exact cells_int) (by rw [t1]; exact cells_int) h with ⟨hcs, _⟩ | ⟨ad, len', cap', m, n, V0, V1, D0, D1, P0, P1, hcs, _, hl, hm, hmm, _, hc⟩
  · simp at hcs
    obtain ⟨rfl, rfl, rfl⟩ := hcs
    exact ⟨[], rfl, by simp [maxLen], fun i hi => by simp at hi, fun c hc => by simp at hc⟩
  · simp at hcs
    obtain ⟨rfl, rfl, rfl⟩ := hcs
    have hlm : len ≤ m := by rw [hmm]; split <;> omega
    have each : ∀ i, i < len → ∃ c : Cl, V0 i = .int .i64 c.1 ∧ V1 i = .int .i64 c.2 ∧ fits c := by
      intro i hi
      obtain ⟨_, _, r0, r1⟩ := hc i (by omega)
      rw [t0] at r0
      rw [t1] at r1
      obtain ⟨n0, e0, _, w0⟩ := DataW.trod_int Try.underlying3 r0
      obtain ⟨n1, e1, _, w1⟩ := DataW.trod_int Try.underlying3 r1
      simp at e0 e1
      exact ⟨(n0, n1), e0, e1, (of_wf w0).1, (of_wf w0).2, (of_wf w1).1, (of_wf w1).2⟩
    obtain ⟨q, hq⟩ := choose_lt each
    refine ⟨(List.range len).map q, by simp, by simp; omega, fun i hi => ?_, fun c hc => ?_⟩
    rotate_left
    · rw [List.mem_map] at hc
      obtain ⟨i, hi, rfl⟩ := hc
      exact (hq i (List.mem_range.1 hi)).2.2
    simp at hi
    obtain ⟨c0, c1, _, _⟩ := hc i (by omega)
    obtain ⟨c00, _, _, _⟩ := hc 0 (by omega)
    obtain ⟨b, o, spot⟩ := ad
    have hspot : spot = none := by simpa [Addr.add] using World.cell?_spot c00
    subst hspot
    rw [add_plain] at c0 c1
    have hlt := lt_of_cell c0
    refine ⟨b, o, rfl, hlt, ?_, ?_⟩
    · rw [c0, (hq i hi).1]; simp [hi]
    · rw [show o + i * 2 + 1 = o + (i * 2 + 1) by omega, c1, (hq i hi).2.1]; simp [hi]

end Go.Proofs.Ytapinopicehdmaa
