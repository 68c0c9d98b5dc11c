/- The specification's ResultOf. -/
import Derived.Test.YtnabgfbempkgnaaSRes
import Derived.Test.YtnabgfbempkgnaaAnsP
namespace Go.Proofs.Ytnabgfbempkgnaa
open Go.RowKit
set_option linter.unusedVariables false
set_option linter.unusedSimpArgs false
attribute [local go_sem ↓] Go.wp_at_zero Go.wp_at_succ

set_option maxHeartbeats 1000000 in
set_option maxRecDepth 100000 in
theorem c_l5Quad (a : Option Addr) (F : List Qd) (ca : Nat) (q m : Int) (v : Bool) (hv : quadB F q m = v) (w : World) (ha : QSeg w a F) (hl : F.length ≤ 1048576) (hk : KidsLe F) (hca : F.length ≤ ca) (hcm : ca ≤ 9223372036854775807) :
    Calls Try.prog 71 #[.agg #[.slice a F.length ca], .int .i64 q, .int .i64 m] w fun e w' => e = .returned (.bool v) ∧ Below w.heap.size w w' := by
  have HX := hid (Box1.new w (.slice a F.length ca) 69)
  have HQ := hid (ha.below HX.out.2.2)
  have x0 := HX.out.1
  clear ha
  unfold quadB at hv
  cases hth : thereB F q
  · have HC := hid (c_l3There' a F ca q false hth _ HQ.out hl hk hca hcm)
    have HV := hid (show v = false by rw [← hv, hth]; rfl)
    clear hv hth
    go_enter Try.func71, Try.ntmps71
    go_wp2_with fail
    refine HC.out.mono ?_
    rintro e w3 ⟨rfl, hb⟩
    have HB := hid (HX.out.step hb).2.2
    clear HC hb
    go_wp2_with fail
    go_ret
    exact ⟨ret_bool HV.out.symm, HB.out⟩
  · have HC := hid (c_l3There' a F ca q true hth _ HQ.out hl hk hca hcm)
    obtain ⟨hg, h0, h1⟩ := there_bd hth
    obtain ⟨b1, o1, ak, ck, rfl, hb1, p1, _⟩ := HQ.out q.toNat (by omega)
    have HV := hid (show decide (m ≤ (qa F q.toNat).1) = v by rw [← hv, hth]; rfl)
    clear hv hth
    generalize (qa F q.toNat).1 = lv at *
    go_enter Try.func71, Try.ntmps71
    go_wp2_with fail
    refine HC.out.mono ?_
    rintro e w3 ⟨rfl, hb⟩
    have HB := hid (HX.out.step hb).2.2
    have x3 := (HX.out.step hb).1
    have y3 := (hb.cell (p := ⟨b1, o1 + q.toNat * 2, none⟩) hb1).trans p1
    clear HC hb p1 x0
    go_wp2_with fail
    go_ret
    exact ⟨ret_bool HV.out, HB.out⟩

end Go.Proofs.Ytnabgfbempkgnaa
