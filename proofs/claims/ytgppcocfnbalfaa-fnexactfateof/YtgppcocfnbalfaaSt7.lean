/- IsStill of both sides. -/
import Derived.Test.YtgppcocfnbalfaaPicO
import Derived.Test.YtgppcocfnbalfaaSmW
import Derived.Test.YtgppcocfnbalfaaHistP
namespace Go.Proofs.Ytgppcocfnbalfaa
open Go.RowKit
set_option linter.unusedVariables false
set_option linter.unusedSimpArgs false

/-- Is it still? -/
noncomputable def stB (l : List Cl) : Bool := stepOk l && decide (stepL l = l)
theorem stepOk_good {l : List Cl} (h : stepOk l = true) : good l = true := by
  cases hg : good l
  · simp [stepOk, hg] at h
  · rfl
theorem stepL_le7 (l : List Cl) : (stepL l).length ≤ 120 := by
  unfold stepL
  split
  · unfold tellV
    split
    · rename_i h; exact good_le h
    · simp
  · simp

set_option maxHeartbeats 1000000 in
set_option maxRecDepth 100000 in
theorem c_sIsStill (a : Option Addr) (l : List Cl) (ca : Nat) (w : World) (ha : Seg w a l) (hl : l.length ≤ 1048576) :
    Calls Try.prog 22 #[.slice a l.length ca] w fun e w' => e = .returned (.tuple #[.bool (stB l), .bool (stepOk l)]) ∧ Below w.heap.size w w' := by
  have HC := hid (c_sStepCells a l ca w ha hl)
  have hle := stepL_le7 l
  have HA := hid ha
  cases hok : stepOk l
  · rw [hok] at HC
    have HV : Hid (stB l = false) := by simp [Hid, stB, hok]
    clear ha
    go_enter Try.func22, Try.ntmps22
    go_wp2_with fail
    refine HC.out.mono ?_
    rintro e w1 ⟨v, rfl, o1, b1⟩
    go_wp2_with fail
    go_ret2
    exact ⟨by rw [HV.out]; rfl, b1⟩
  · rw [hok] at HC
    have HV : Hid (stB l = decide (stepL l = l)) := by simp [Hid, stB, hok]
    clear ha
    go_enter Try.func22, Try.ntmps22
    go_wp2_with fail
    refine HC.out.mono ?_
    rintro e w1 ⟨v, rfl, o1, b1⟩
    obtain ⟨a1, c1, rfl, s1⟩ := o1.form
    have S1 := hid s1
    have A1 := hid (HA.out.below b1)
    have B1 := hid b1
    clear o1 s1 b1 HC HA
    go_wp2_with fail
    refine (c_l6Same a1 a (stepL l) l c1 ca w1 S1.out A1.out (by omega) hl).mono ?_
    rintro e w2 ⟨rfl, b2⟩
    have B2 := hid (B1.out.trans (b2.mono B1.out.size))
    clear b2
    go_wp2_with fail
    go_ret2
    exact ⟨by rw [HV.out]; rfl, B2.out⟩

set_option maxHeartbeats 1000000 in
set_option maxRecDepth 100000 in
theorem c_iIsStill (a : Option Addr) (l : List Cl) (ca : Nat) (w : World) (ha : Seg w a l) (hl : l.length ≤ 1048576) :
    Calls Try.prog 17 #[.slice a l.length ca] w fun e w' => e = .returned (.tuple #[.bool (stB l), .bool (stepOk l)]) ∧ Below w.heap.size w w' := by
  have HC := hid (c_iStepCells a l ca w ha hl)
  have hle := stepL_le7 l
  have HA := hid ha
  cases hok : stepOk l
  · rw [hok] at HC
    have HV : Hid (stB l = false) := by simp [Hid, stB, hok]
    clear ha
    go_enter Try.func17, Try.ntmps17
    go_wp2_with fail
    refine HC.out.mono ?_
    rintro e w1 ⟨v, rfl, o1, b1⟩
    go_wp2_with fail
    go_ret2
    exact ⟨by rw [HV.out]; rfl, b1⟩
  · rw [hok] at HC
    have HV : Hid (stB l = decide (stepL l = l)) := by simp [Hid, stB, hok]
    have hg := good_le (stepOk_good hok)
    clear ha
    go_enter Try.func17, Try.ntmps17
    go_wp2_with fail
    refine HC.out.mono ?_
    rintro e w1 ⟨v, rfl, o1, b1⟩
    obtain ⟨a1, c1, rfl, s1⟩ := o1.form
    have S1 := hid s1
    have A1 := hid (HA.out.below b1)
    have B1 := hid b1
    clear o1 s1 b1 HC HA
    go_wp2_with fail
    refine (c_isSame a1 a (stepL l) l c1 ca w1 S1.out A1.out hle hg).mono ?_
    rintro e w2 ⟨rfl, b2⟩
    have B2 := hid (B1.out.trans (b2.mono B1.out.size))
    clear b2
    go_wp2_with fail
    go_ret2
    exact ⟨by rw [HV.out]; rfl, B2.out⟩

/-! ### HomeOf -/
def homeOk (l : List Cl) : Bool := good l && good (home l)
def homeL (l : List Cl) : List Cl := if homeOk l then home l else []
def homeC (l : List Cl) : Cl := if homeOk l then boxLo l else (0, 0)
end Go.Proofs.Ytgppcocfnbalfaa
