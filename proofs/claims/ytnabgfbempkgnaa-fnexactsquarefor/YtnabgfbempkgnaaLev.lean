/- What both LevelOf answer. -/
import Derived.Test.YtnabgfbempkgnaaGroveP
namespace Go.Proofs.Ytnabgfbempkgnaa
open Go.RowKit Go.Maps
set_option linter.unusedVariables false
set_option linter.unusedSimpArgs false
attribute [local go_sem ↓] Go.wp_at_zero Go.wp_at_succ

/-- Is there such a quad in a good forest? -/
def thereB (F : List Qd) (q : Int) : Bool := goodF F && inB 0 ((F.length : Int) - 1) q
def levV (F : List Qd) (q : Int) : Int := if thereB F q then (qa F q.toNat).1 else 0
theorem c_sGoodForest' (a : Option Addr) (F : List Qd) (ca : Nat) (v : Bool) (hv : goodF F = v) (w : World) (ha : QSeg w a F) (hl : F.length ≤ 1048576) (hk : KidsLe F) (hca : F.length ≤ ca) (hcm : ca ≤ 9223372036854775807) :
    Calls Try.prog 105 #[.agg #[.slice a F.length ca]] w fun e w' => e = .returned (.bool v) ∧ Below w.heap.size w w' := by
  rw [← hv]; exact c_sGoodForest a F ca w ha hl hk hca hcm

set_option maxHeartbeats 1000000 in
theorem c_l3There (a : Option Addr) (F : List Qd) (ca : Nat) (q : Int) (w : World) (ha : QSeg w a F) (hl : F.length ≤ 1048576) (hk : KidsLe F) (hca : F.length ≤ ca) (hcm : ca ≤ 9223372036854775807) :
    Calls Try.prog 91 #[.agg #[.slice a F.length ca], .int .i64 q] w fun e w' => e = .returned (.bool (thereB F q)) ∧ Below w.heap.size w w' := by
  have BX := hid (Box1.new w (.slice a F.length ca) 69)
  cases hg : goodF F
  · have HC := hid (c_sGoodForest' a F ca false hg _ (ha.below BX.out.2.2) hl hk hca hcm)
    have HV : Hid (thereB F q = false) := by simp [Hid, thereB, hg]
    clear ha hg
    go_enter Try.func91, Try.ntmps91
    go_wp2_with fail
    refine HC.out.mono ?_
    rintro e w1 ⟨rfl, hb⟩
    clear HC
    go_wp2
    go_ret
    exact ⟨ret_bool HV.out.symm, (BX.out.step hb).2.2⟩
  · have HC := hid (c_sGoodForest' a F ca true hg _ (ha.below BX.out.2.2) hl hk hca hcm)
    have HV0 : Hid (thereB F q = inB 0 ((F.length : Int) - 1) q) := by simp [Hid, thereB, hg]
    clear ha hg
    by_cases h0 : 0 ≤ q
    · have d0 : decide (0 ≤ q) = true := decide_eq_true h0
      by_cases h1 : q < (F.length : Int)
      · have d1 : decide (q < (F.length : Int)) = true := decide_eq_true h1
        have HV := hid (show thereB F q = true by rw [HV0.out]; simp [inB]; omega)
        go_enter Try.func91, Try.ntmps91
        go_wp2_with fail
        refine HC.out.mono ?_
        rintro e w1 ⟨rfl, hb⟩
        clear HC
        have x := (BX.out.step hb).1
        go_wp2
        go_ret
        exact ⟨ret_bool HV.out.symm, (BX.out.step hb).2.2⟩
      · have d1 : decide (q < (F.length : Int)) = false := decide_eq_false h1
        have HV := hid (show thereB F q = false by rw [HV0.out]; unfold inB; rw [decide_eq_false (show ¬ q ≤ (F.length : Int) - 1 by omega)]; simp)
        go_enter Try.func91, Try.ntmps91
        go_wp2_with fail
        refine HC.out.mono ?_
        rintro e w1 ⟨rfl, hb⟩
        clear HC
        have x := (BX.out.step hb).1
        go_wp2
        go_ret
        exact ⟨ret_bool HV.out.symm, (BX.out.step hb).2.2⟩
    · have d0 : decide (0 ≤ q) = false := decide_eq_false h0
      have HV := hid (show thereB F q = false by rw [HV0.out]; unfold inB; rw [d0]; rfl)
      go_enter Try.func91, Try.ntmps91
      go_wp2_with fail
      refine HC.out.mono ?_
      rintro e w1 ⟨rfl, hb⟩
      clear HC
      go_wp2
      go_ret
      exact ⟨ret_bool HV.out.symm, (BX.out.step hb).2.2⟩
theorem c_l3There' (a : Option Addr) (F : List Qd) (ca : Nat) (q : Int) (v : Bool) (hv : thereB F q = v) (w : World) (ha : QSeg w a F) (hl : F.length ≤ 1048576) (hk : KidsLe F) (hca : F.length ≤ ca) (hcm : ca ≤ 9223372036854775807) :
    Calls Try.prog 91 #[.agg #[.slice a F.length ca], .int .i64 q] w fun e w' => e = .returned (.bool v) ∧ Below w.heap.size w w' := by
  rw [← hv]; exact c_l3There a F ca q w ha hl hk hca hcm
theorem there_bd {F : List Qd} {q : Int} (h : thereB F q = true) : goodF F = true ∧ 0 ≤ q ∧ q < (F.length : Int) := by
  simp only [thereB, Bool.and_eq_true] at h
  have := inB_bd h.2
  exact ⟨h.1, by omega, by omega⟩

end Go.Proofs.Ytnabgfbempkgnaa
