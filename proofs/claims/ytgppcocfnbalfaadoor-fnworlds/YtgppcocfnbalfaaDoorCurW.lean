/- Texts of this seat, one behind the other: CurW. -/
import Derived.Test.YtgppcocfnbalfaaDoorCur
namespace Go.Proofs.YtgppcocfnbalfaaDoor
open Go.RowKit
set_option linter.unusedVariables false

set_option maxRecDepth 100000 in
/-- A pick among more than 200: two bytes. -/
theorem c_pickW (base b n : Nat) (A m : Int) (w : World) (h : CurAt w base b n A) (hA : A ≤ 1000000000) (hm : 200 < m) (hm2 : m ≤ 1000) :
    Calls Tryd.prog 22 #[.pointer (some ⟨b, 0, none⟩), .int .i64 m] w fun e w' => ∃ v : Int, e = .returned (.int .i64 v) ∧ 0 ≤ v ∧ v < m ∧ CurAt w' base b n (A + 2) ∧ w.grownBy w' (some b) := by
  have HN := hid (c_next base b n A w h (by omega))
  clear h
  go_enter Tryd.func22, Tryd.ntmps22
  go_wp2_with fail
  refine HN.out.mono ?_
  rintro e w1 ⟨v, rfl, v0, v1, hc, hg⟩
  have HN2 := hid (c_next base b n (A + 1) w1 hc (by omega))
  have HG := hid hg
  clear hc hg HN
  go_wp2_with fail
  refine HN2.out.mono ?_
  rintro e w2 ⟨u, rfl, u0, u1, hc, hg⟩
  have HC := hid (show CurAt w2 base b n (A + 2) by have := hc; rwa [show A + 1 + 1 = A + 2 by omega] at this)
  have HG2 := hid (HG.out.trans hg)
  clear hc hg HG HN2
  have r0 : 0 ≤ (v * 256 + u) % m := Int.emod_nonneg _ (by omega)
  have r1 : (v * 256 + u) % m < m := Int.emod_lt_of_pos _ (by omega)
  have r2 : (v * 256 + u).tmod m = (v * 256 + u) % m := Int.tmod_eq_emod_of_nonneg (by omega)
  go_wp2
  go_ret
  exact ⟨_, rfl, r0, r1, HC.out, HG2.out⟩

end Go.Proofs.YtgppcocfnbalfaaDoor
