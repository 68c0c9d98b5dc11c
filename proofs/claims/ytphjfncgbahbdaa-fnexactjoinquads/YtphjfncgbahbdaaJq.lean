/- What both JoinQuads answer. -/
import Derived.Test.YtphjfncgbahbdaaBlank
import Derived.Test.YtphjfncgbahbdaaGroveJ
import Derived.Deep.RegionHeld3
namespace Go.Proofs.Ytphjfncgbahbdaa
open Go.RowKit Go.Maps
set_option linter.unusedVariables false
set_option linter.unusedSimpArgs false
attribute [local go_sem ↓] Go.wp_at_zero Go.wp_at_succ

/-- May these be joined? -/
def jqOK (F : List Qd) (l : List Int) : Bool := goodF F && decide (l.length = 4) && canJ F l
def jqF (F : List Qd) (l : List Int) : List Qd := if jqOK F l then tellF (joinF F l).1 else []
def jqQ (F : List Qd) (l : List Int) : Int := if jqOK F l then tellQ (joinF F l).1 ((joinF F l).2 : Int) else 0
def jqB (F : List Qd) (l : List Int) : Bool := jqOK F l && tellB (joinF F l).1
theorem canJ_all {F : List Qd} {l : List Int} (hl : l.length = 4) (h : canJ F l = true) : allIn l 0 ((F.length : Int) - 1) = true := by
  simp only [canJ, Bool.and_eq_true] at h
  refine allB_iff.2 fun i hi => ?_
  have := allB_iff.1 h.1 i (by omega)
  simp only [kidB, Bool.and_eq_true] at this
  exact this.1
theorem canJ_lev {F : List Qd} {l : List Int} (h : canJ F l = true) : ∀ i, i < 4 → (0 ≤ ia l i ∧ ia l i < (F.length : Int)) ∧ (qa F (ia l i).toNat).1 = (qa F (ia l 0).toNat).1 ∧ (qa F (ia l i).toNat).1 < 5 := by
  simp only [canJ, Bool.and_eq_true, decide_eq_true_eq] at h
  intro i hi
  have := allB_iff.1 h.1 i hi
  simp only [kidB, Bool.and_eq_true, decide_eq_true_eq] at this
  have b := inB_bd this.1
  exact ⟨⟨by omega, by omega⟩, this.2, by omega⟩
/-- Is kid i of the first one's level, and not too high? -/
def okK (F : List Qd) (l : List Int) (i : Nat) : Bool := decide ((qa F (ia l i).toNat).1 = (qa F (ia l 0).toNat).1) && decide ((qa F (ia l i).toNat).1 < 5)
theorem canJ_of {F : List Qd} {l : List Int} (hl : l.length = 4) (h1 : allIn l 0 ((F.length : Int) - 1) = true) (h2 : allB (okK F l) 4 = true) : canJ F l = true := by
  simp only [canJ, Bool.and_eq_true, decide_eq_true_eq]
  have h0 := allB_iff.1 h2 0 (by omega)
  simp only [okK, Bool.and_eq_true, decide_eq_true_eq] at h0
  refine ⟨allB_iff.2 fun i hi => ?_, h0.2⟩
  have a := allB_iff.1 h1 i (by omega)
  have b := allB_iff.1 h2 i hi
  simp only [okK, Bool.and_eq_true, decide_eq_true_eq] at b
  simp only [kidB, Bool.and_eq_true, decide_eq_true_eq]
  exact ⟨a, b.1⟩
theorem canJ_no_all {F : List Qd} {l : List Int} (hl : l.length = 4) (h1 : allIn l 0 ((F.length : Int) - 1) = false) : canJ F l = false := by
  cases h : canJ F l
  · rfl
  · rw [canJ_all hl h] at h1; cases h1
theorem canJ_no_ok {F : List Qd} {l : List Int} {k : Nat} (hk : k < 4) (h1 : okK F l k = false) : canJ F l = false := by
  cases h : canJ F l
  · rfl
  · have := canJ_lev h k hk
    simp only [okK, this.2.1, decide_true, Bool.true_and, decide_eq_false_iff_not] at h1
    rw [this.2.1] at this
    omega

theorem jq_small (F : List Qd) (l : List Int) : (jqF F l).length ≤ 1048576 ∧ KidsLe (jqF F l) ∧ posF (nsF (jqF F l)) (jqF F l).length ≤ 8388608 := by
  unfold jqF
  split
  · rename_i hok
    unfold tellF
    split
    · rename_i h4
      simp only [jqOK, Bool.and_eq_true, decide_eq_true_eq] at hok
      have hlv := canJ_lev hok.2
      have hG := joinF_grows (good_grows hok.1.1) hok.1.2 (fun j hj => (hlv j hj).1) (hlv 0 (by omega)).2.2
      refine ⟨by omega, hG.kidsLe, ?_⟩
      have hp : ∀ G : List Qd, Grows G → ∀ k, k ≤ G.length → posF (nsF G) k ≤ 1 + 5 * k := by
        intro G hG k
        induction k with
        | zero => intro _; simp [posF]
        | succ k ih =>
          intro hk
          have := ih (by omega)
          have : nsF G k ≤ 4 := by
            unfold nsF
            by_cases h2 : k < 2
            · rw [hG.low k h2]; simp
            · have := hG.len k (by omega) (by omega); omega
          simp only [posF]; omega
      have := hp _ hG (joinF F l).1.length (Nat.le_refl _)
      omega
    · exact ⟨by simp, fun i hi => by simp at hi, by simp [posF]⟩
  · exact ⟨by simp, fun i hi => by simp at hi, by simp [posF]⟩

end Go.Proofs.Ytphjfncgbahbdaa
