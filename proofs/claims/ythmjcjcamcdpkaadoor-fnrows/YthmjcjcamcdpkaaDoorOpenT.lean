/- A slice of texts that came in, opened: the list of texts that it holds; how much they hold together. -/
import Derived.Test.YthmjcjcamcdpkaaDoorOpen
import Derived.Test.YthmjcjcamcdpkaaDoorTxt
import Derived.Deep.Strs
namespace Go.Proofs.YthmjcjcamcdpkaaDoor
open Go.RowKit Go.ChangeShapes Go.WideShapes Go.ChangeAt Go.Deep Go.Joins
set_option linter.unusedVariables false

theorem cells_string : Tryd.prog.cellsOf 9 = 1 := by kernel_rfl

/-- A slice of texts that came in. -/
theorem open_texts {H : Type} {enc : TypeId × Value → H} {W : World} {base fuel : Nat} {spare : Nat → Bool} {held : Bool} {a : Option Addr} {len cap : Nat} {x : DataW H × List MemPlace}
    (h : DataW.trod enc Tryd.prog W base spare held fuel 26 [.slice a len cap] = some x) : ∃ L : List Tx, L.length = len ∧ L.length ≤ maxLen ∧ TSeg W a L ∧ ∀ i, i < L.length → (tx L i).size ≤ maxLen := by
  rcases open_strs Tryd.underlying26 Tryd.underlying9 cells_string h with ⟨hcs, _⟩ | ⟨ad, len', cap', m, Sx, hcs, _, hl, hm, hmm, _, hc⟩
  · simp at hcs
    obtain ⟨rfl, rfl, rfl⟩ := hcs
    exact ⟨[], rfl, by simp [maxLen], fun i hi => by simp at hi, fun i hi => by simp at hi⟩
  · simp at hcs
    obtain ⟨rfl, rfl, rfl⟩ := hcs
    have hlm : len ≤ m := by rw [hmm]; split <;> omega
    refine ⟨(List.range len).map Sx, by simp, by simp; omega, fun i hi => ?_, fun i hi => ?_⟩
    · simp at hi
      obtain ⟨c0, _⟩ := hc i (by omega)
      obtain ⟨c00, _⟩ := hc 0 (by omega)
      obtain ⟨b, o, spot⟩ := ad
      have hspot : spot = none := by simpa [Addr.add] using World.cell?_spot c00
      subst hspot
      rw [add_plain] at c0
      have hlt := lt_of_cell c0
      refine ⟨b, o, rfl, hlt, ?_⟩
      rw [c0]; simp [tx, hi]
    · simp at hi
      have := (hc i (by omega)).2
      simpa [tx, hi] using this

/-- How much the first k texts hold together. -/
def totTo (L : List Tx) : Nat → Nat
  | 0 => 0
  | k + 1 => totTo L k + (tx L k).size
theorem totTo_mono (L : List Tx) {j k : Nat} (h : j ≤ k) : totTo L j ≤ totTo L k := by
  induction k with
  | zero => have : j = 0 := by omega
            subst this; exact Nat.le_refl _
  | succ k ih =>
    by_cases e : j = k + 1
    · rw [e]; exact Nat.le_refl _
    · have := ih (by omega)
      simp only [totTo]; omega
theorem totTo_le (L : List Tx) {k n : Nat} (h : k < n) : (tx L k).size ≤ totTo L n := by
  have := totTo_mono L (show k + 1 ≤ n by omega)
  simp only [totTo] at this; omega
/-- All that texts hold. -/
def tot (L : List Tx) : Nat := L.length + totTo L L.length

/-- What is left. -/
def leftT (L : List Tx) : Int := if tot L ≤ 1048576 then 1048576 - (tot L : Int) else -1

end Go.Proofs.YthmjcjcamcdpkaaDoor
