/- Cells after so many steps, without limits: l5After. -/
import Derived.Test.YtnabgfbempkgnaaStepF
namespace Go.Proofs.Ytnabgfbempkgnaa
open Go.RowKit Go.Maps
set_option linter.unusedVariables false


set_option maxRecDepth 100000 in
set_option maxHeartbeats 4000000 in
theorem c_l5After (a : Option Addr) (l : List Cl) (ca n : Nat) (w : World) (ha : Seg w a l) (hl : l.length ≤ 2000) (hb : InB 0 31 l) (hn : n ≤ 8) :
    Calls Try.prog 72 #[.slice a l.length ca, .int .i64 (n : Int)] w fun e w' => ∃ v, e = .returned v ∧ SL w' v (stepsL n (ordL l)) ∧ Below w.heap.size w w' := by
  have HC := hid (c_l1Sort a l ca w ha (by omega))
  have HB0 := hid hb
  clear ha hb
  go_enter Try.func72, Try.ntmps72
  go_wp2_with fail
  refine HC.out.mono ?_
  rintro e w1 ⟨v1, l1, rfl, hO, hr, hm, hl1, hb1⟩
  have HORD := hid (show ordL l = l1 from ordL_eq hr hm)
  have HSL := hid hO.sl
  have HR := hid hr
  have HB1 := hid (show InB 0 31 l1 from fun c hc => HB0.out c ((hm c).1 hc))
  have HBW := hid hb1
  clear hO hr hm hb1 HB0 HC
  go_wp2_with fail
  go_loopw [0, 1] (fun lv sv wr => ∃ (j : Nat) (m : List Cl), sv = .int .i64 (j : Int) ∧ j ≤ n ∧ Hid (SL wr lv m) ∧ Hid (stepsL j m = stepsL n l1) ∧ Hid (risTo m m.length = true) ∧ Hid (InB (-((n - j : Nat) : Int)) (31 + ((n - j : Nat) : Int)) m) ∧ Hid (Below w.heap.size w wr)) (fun _ sv _ => (intOf sv).toNat)
  case atStart => exact ⟨n, l1, rfl, Nat.le_refl _, HSL.out, rfl, HR.out, by rw [Nat.sub_self]; simpa [Hid] using HB1.out, HBW.out⟩
  case round =>
    obtain ⟨j, m, rfl, hj, hS, hE, hR, hI, hB⟩ := hrel
    clear HSL HR HB1 HBW
    obtain ⟨ma, mc, rfl, hseg, _⟩ := hS.out.form
    have HSG := hid hseg
    clear hseg
    by_cases hj0 : 0 < j
    · have j0 : (0 : Int) < (j : Int) := by omega
      have hwide : InB (-40) 40 m := hI.out.wide (by omega) (by omega)
      have hlen := len_box hR.out hwide
      have HST := hid (c_l1StepF ma m mc wr HSG.out (by omega) hwide.inR)
      clear hwide
      go_wp2_with fail
      refine HST.out.mono ?_
      rintro e w2 ⟨v2, m2, rfl, hS2, hr2, hm2, hl2, hb2⟩
      have hp : pickL (nxtB m) = m2 := pickL_eq hr2 hm2
      have HS2 := hid hS2
      have HR2 := hid hr2
      have HE2 := hid (show stepsL (j - 1) m2 = stepsL n l1 by
        have := hE.out
        rw [← hp]
        rw [show j = j - 1 + 1 by omega] at this
        exact this)
      have HI2 := hid (show InB (-((n - (j - 1) : Nat) : Int)) (31 + ((n - (j - 1) : Nat) : Int)) m2 by
        have := hI.out.next
        rw [hp] at this
        exact this.wide (by omega) (by omega))
      have HB2 := hid (hB.out.trans (hb2.mono hB.out.size))
      clear hS2 hr2 hm2 hl2 hb2 hp HST hE hI hR
      go_wp2_with fail
      go_roundw
      case rel => exact ⟨j - 1, m2, by go_num, by omega, HS2.out, HE2.out, HR2.out, HI2.out, HB2.out⟩
      case measure => simp [intOf]; omega
    · obtain rfl : j = 0 := by omega
      have HEQ := hid (show m = stepsL n l1 from hE.out)
      go_wp2_with fail
      go_ret
      exact ⟨_, rfl, by rw [HORD.out, ← HEQ.out]; exact hS.out, hB.out⟩

end Go.Proofs.Ytnabgfbempkgnaa
