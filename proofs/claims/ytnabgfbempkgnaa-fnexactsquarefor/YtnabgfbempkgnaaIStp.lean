/- The program's StepsFor. -/
import Derived.Test.YtnabgfbempkgnaaSSafe
namespace Go.Proofs.Ytnabgfbempkgnaa
open Go.RowKit
set_option linter.unusedVariables false
set_option linter.unusedSimpArgs false

set_option maxHeartbeats 1000000 in
theorem c_iStepsFor (n : Int) (w : World) (hn : -9223372036854775808 ≤ n ∧ n ≤ 9223372036854775807) :
    Calls Try.prog 45 #[.int .i64 n] w fun e w' => e = .returned (.tuple #[.int .i64 (stpV n), .bool (inB 2 5 n)]) ∧ w' = w := by
  cases hin : inB 2 5 n
  · have HV := hid (show stpV n = 0 by simp [stpV, hin])
    have hb : n < 2 ∨ 5 < n := by
      simp [inB] at hin
      omega
    clear hin
    by_cases h2 : n < 2
    · go_enter Try.func45, Try.ntmps45
      go_wp2_with fail
      exact bodyPost_ret (v := .tuple #[.int .i64 0, .bool false]) (by simp [results, Try.results45, go_sem]) rfl ⟨by rw [HV.out], rfl⟩
    · have h5 : n > 5 := by omega
      go_enter Try.func45, Try.ntmps45
      go_wp2_with fail
      exact bodyPost_ret (v := .tuple #[.int .i64 0, .bool false]) (by simp [results, Try.results45, go_sem]) rfl ⟨by rw [HV.out], rfl⟩
  · have hb := inB_bd hin
    rcases (show n = 2 ∨ n = 3 ∨ n = 4 ∨ n = 5 by omega) with rfl | rfl | rfl | rfl
    · go_enter Try.func45, Try.ntmps45
      go_wp2_with fail
      exact bodyPost_ret (v := .tuple #[.int .i64 1, .bool true]) (by simp [results, Try.results45, go_sem]) rfl ⟨rfl, rfl⟩
    · go_enter Try.func45, Try.ntmps45
      go_wp2_with fail
      exact bodyPost_ret (v := .tuple #[.int .i64 2, .bool true]) (by simp [results, Try.results45, go_sem]) rfl ⟨rfl, rfl⟩
    · go_enter Try.func45, Try.ntmps45
      go_wp2_with fail
      exact bodyPost_ret (v := .tuple #[.int .i64 4, .bool true]) (by simp [results, Try.results45, go_sem]) rfl ⟨rfl, rfl⟩
    · go_enter Try.func45, Try.ntmps45
      go_wp2_with fail
      exact bodyPost_ret (v := .tuple #[.int .i64 8, .bool true]) (by simp [results, Try.results45, go_sem]) rfl ⟨rfl, rfl⟩
end Go.Proofs.Ytnabgfbempkgnaa
