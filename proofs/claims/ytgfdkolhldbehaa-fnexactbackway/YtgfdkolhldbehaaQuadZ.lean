/- A forest that came in, opened; how much it holds. -/
import Derived.Test.YtgfdkolhldbehaaQuadT
import Derived.Test.YtgfdkolhldbehaaOpen
import Derived.ChangeSlices
import Derived.ChangeSame
namespace Go.Proofs.Ytgfdkolhldbehaa
open Go.RowKit Go.ChangeShapes Go.WideShapes Go.ChangeAt Go.Deep Go.Joins
set_option linter.unusedVariables false
attribute [local go_sem ↓] Go.wp_at_zero Go.wp_at_succ

theorem cells_Ints : Try.prog.cellsOf 61 = 1 := by kernel_rfl
/-- A slice of numbers that came in. -/
theorem open_nums {H : Type} {enc : TypeId × Value → H} {W : World} {base fuel : Nat} {spare : Nat → Bool} {held : Bool} {v : Value} {x : DataW H × List MemPlace}
    (h : DataW.trod enc Try.prog W base spare held fuel 61 [v] = some x) : ∃ (a : Option Addr) (l : List Int) (cap : Nat), v = .slice a l.length cap ∧ l.length ≤ maxLen ∧ l.length ≤ cap ∧ ISeg W a l := by
  rcases open_ints Try.underlying61 Try.underlying3 cells_int h with ⟨hcs, _⟩ | ⟨ad, len', cap', zs, hcs, _, hl, hm, hz, _, hc, hw⟩
  · simp at hcs
    exact ⟨none, [], 0, hcs, by simp [maxLen], by simp, fun i hi => by simp at hi⟩
  · simp at hcs
    have hlm : len' ≤ zs.length := by rw [hz]; split <;> omega
    refine ⟨some ad, zs.take len', cap', by rw [hcs]; simp; omega, by simp; omega, by simp; omega, fun i hi => ?_⟩
    have hi' : i < len' := by simp at hi; omega
    have c0 := hc i (by omega)
    have c00 := hc 0 (by omega)
    obtain ⟨b, o, spot⟩ := ad
    have hspot : spot = none := by simpa [Addr.add] using World.cell?_spot c00
    subst hspot
    rw [add_plain] at c0
    have hlt := lt_of_cell c0
    have hget : ia (zs.take len') i = zs.getD i 0 := by
      unfold ia
      rw [List.getD_eq_getElem?_getD, List.getD_eq_getElem?_getD, List.getElem?_take_of_lt hi']
    exact ⟨b, o, rfl, hlt, by rw [hget]; exact c0⟩

/-- How many kids the first k quads have. -/
def kidTo (F : List Qd) : Nat → Nat
  | 0 => 0
  | k + 1 => kidTo F k + (qa F k).2.length
theorem kidTo_mono (F : List Qd) {j k : Nat} (h : j ≤ k) : kidTo F j ≤ kidTo F k := by
  induction k with
  | zero => have : j = 0 := by omega
            subst this; exact Nat.le_refl _
  | succ k ih =>
    by_cases e : j = k + 1
    · rw [e]; exact Nat.le_refl _
    · have := ih (by omega)
      simp only [kidTo]; omega
def totQ (F : List Qd) : Nat := F.length + kidTo F F.length
def leftQ (F : List Qd) : Int := if totQ F ≤ 1048576 then 1048576 - (totQ F : Int) else -1
theorem totQ_kids {F : List Qd} (h : totQ F ≤ 1048576) : KidsLe F ∧ F.length ≤ 1048576 := by
  unfold totQ at h
  refine ⟨fun i hi => ?_, by omega⟩
  have := kidTo_mono F (show i + 1 ≤ F.length by omega)
  simp only [kidTo] at this
  omega

end Go.Proofs.Ytgfdkolhldbehaa
