/- FnExactIsFramed answers true at every argument: IsFramed answers as the specification does, and writes into no argument. No condition. -/
import Derived.Test.YtmapbkefndbnnaaKb
import Derived.Test.YtmapbkefndbnnaaKi
namespace Go.Proofs.Ytmapbkefndbnnaa.lIsFramed
open Go.RowKit Go.ChangeShapes Go.WideShapes Go.ChangeAt
set_option linter.unusedVariables false

set_option maxHeartbeats 2000000 in
set_option maxRecDepth 100000 in
theorem walk (a : Option Addr) (F : List Qd) (ca : Nat) (q : Int) (w : World) (hm : F.length ≤ maxLen) (hs : ∀ i, i < F.length → (qa F i).2.length ≤ maxLen) (ha : QSeg w a F) (hq : (Lit.int .i64 q).wf = true) :
    Calls Try.prog 14 #[.agg #[.slice a F.length ca], .int .i64 q] w fun e w' => e = .returned (.bool true) ∧ Below w.heap.size w w' := by
  unfold maxLen at hm hs
  have X0 := hid (Box1.new w (.slice a F.length ca) 73)
  have HC := hid (c_szForest a F ca _ (ha.below X0.out.2.2) hm hs)
  by_cases hT : totQ F ≤ 1048576
  · obtain ⟨hk, hl⟩ := totQ_kids hT
    have hz : (0 : Int) ≤ 1048576 - (totQ F : Int) := by omega
    rw [show leftQ F = 1048576 - (totQ F : Int) by simp [leftQ, hT]] at HC
    generalize 1048576 - (totQ F : Int) = T at *
    have HA := hid ha
    clear ha hs hm hT
    go_enter Try.func14, Try.ntmps14
    go_wp2_with fail
    refine HC.out.mono ?_
    rintro e w1 ⟨rfl, b⟩
    have X1 := hid (X0.out.step b)
    clear HC X0 b
    have x := X1.out.1
    go_wp2_with fail
    refine (c_toForest a F ca w1 (HA.out.below X1.out.2.2) hl hk).mono ?_
    rintro e w2 ⟨rfl, ⟨ks, r⟩, b⟩
    have X2 := hid (X1.out.step b)
    have R := hid r.seg
    clear X1 b r x
    go_wp2_with fail
    refine (c_sIsFramed _ F F.length q w2 R.out hl hk (Nat.le_refl _) (by omega)).mono ?_
    rintro e w3 ⟨rfl, b⟩
    have X3 := hid (X2.out.step b)
    clear X2 b R
    have x := X3.out.1
    go_wp2_with fail
    refine (c_toForest a F ca w3 (HA.out.below X3.out.2.2) hl hk).mono ?_
    rintro e w4 ⟨rfl, ⟨ks4, r⟩, b⟩
    have X4 := hid (X3.out.step b)
    have Y4 := hid (Box1.new w4 (.slice (some ⟨w3.heap.size + 3, 0, none⟩) F.length F.length) 25)
    have X5 := hid (X4.out.step Y4.out.2.2)
    have R5 := hid (r.seg.below Y4.out.2.2)
    clear X3 X4 b r x
    have HG := hid (c_iIsFramed _ F F.length q _ R5.out hl hk (Nat.le_refl _) (by omega))
    go_wp2_with fail
    refine HG.out.mono ?_
    rintro e w5 ⟨rfl, b⟩
    have X6 := hid (X5.out.step b)
    have Y6 := hid (Y4.out.step b)
    have R6 := hid (R5.out.below b)
    clear HG X5 Y4 R5 b
    generalize frdV F q = lv at *
    generalize cenOK F q = tb at *
    have d1 : (tb != tb) = false := by simp
    have d0 : (lv != lv) = false := by simp
    have hd : decide (F = F) = true := by simp
    have x := X6.out.1
    have y := Y6.out.1
    have hx := X6.out.2.1
    have hy := Y6.out.2.1
    have HQ := hid ((HA.out.below X6.out.2.2).below ((Below.refl w5.heap.size w5).drew))
    have R7 := hid (R6.out.below ((Below.refl w5.heap.size w5).drew))
    clear R6
    go_wp2
    go_region_with (first
      | (go_at_call 67; refine (c_toForest a F ca _ HQ.out hl hk).mono ?_; rintro e w6 ⟨rfl, ⟨ks6, r6⟩, b6⟩; have R8 := hid (R7.out.below b6); have S6 := hid r6.seg; have b6' := ofDrew b6; have y6 := (b6'.cell (p := ⟨w4.heap.size, 0, none⟩) hy).trans y)
      | (go_at_call 69; refine (c_eqForest _ _ F F F.length F.length _ R8.out S6.out hl hl hk hk).mono ?_; rintro e w7 ⟨rfl, b7⟩))
    all_goals
      go_wp2
      go_ret
      exact ⟨rfl, (X6.out.step (b6'.trans (b7.mono b6'.size))).2.2⟩
  · rw [show leftQ F = -1 by simp [leftQ, hT]] at HC
    go_enter Try.func14, Try.ntmps14
    go_wp2_with fail
    refine HC.out.mono ?_
    rintro e w1 ⟨rfl, b⟩
    clear HC
    go_wp2
    go_ret
    exact ⟨rfl, (X0.out.step b).2.2⟩

set_option maxRecDepth 100000 in
theorem lifted (os : Os) (started : os.Started) (H : Type) (enc : TypeId × Value → H) :
    ReturnsInHanded {} Try.checked os 14 .any (Rows.fnExactIsFramedSpec.pre6 enc Try.prog Try.f14 Rows.fnExactIsFramedRow.domain false) (Rows.fnExactIsFramedSpec.post enc Try.prog Try.f14 false true false false) := by
  refine returnsInHanded_of_change (C := Try.checked) own started (by kernel_rfl) Try.func14
    (ChangeSpec.witness6 (enc := enc) (C := Try.checked) false ⟨#[], #[.agg #[.slice none 0 0], .int .i64 0], []⟩ 8 (by kernel_rfl) (by kernel_rfl) (by kernel_rfl) (by kernel_rfl)) ?_
  intro W base args ds gs before hval0 hW hcnd _
  have hval : ∀ (j : Nat) t v, Try.f14.params[j]? = some t → args[j]? = some v → Value.okWide Try.prog W .any base t v := hval0
  have hW' := hW
  obtain ⟨p, q, hA0, hV, rfl, hfz, hnd⟩ := hW
  have hA : DataW.TrodAll enc Try.prog W 0 (fun _ => true) true Try.f14.params.toList args.toList ds p := hA0
  rw [Try.params14] at hA hval
  obtain ⟨v0, vs0, d0, ds0, p0, q0, hargs, rfl, rfl, h0, r0⟩ := trodAll_cons hA
  obtain ⟨v1, vs1, d1, ds1, p1, q1, rfl, rfl, rfl, h1, r1⟩ := trodAll_cons r0
  obtain ⟨rfl, rfl, rfl⟩ := trodAll_nil r1
  obtain rfl : args = #[v0, v1] := by cases args; simp_all
  obtain ⟨rfl, rfl⟩ := trodVars_none hV
  have k0 := h0
  have lt0 : ∀ x ∈ p0, x.block < W.heap.size := by obtain ⟨m, hm⟩ := k0; exact DataW.trod_lt m _ _ _ hm
  obtain ⟨a0, F0, cap0, rfl, m0, f0, s0⟩ := open_forest (hval 0 73 v0 rfl rfl) h0
  have k1 := h1
  have lt1 : ∀ x ∈ p1, x.block < W.heap.size := by obtain ⟨m, hm⟩ := k1; exact DataW.trod_lt m _ _ _ hm
  obtain ⟨n1, rfl, w1⟩ : ∃ n : Int, v1 = .int .i64 n ∧ (Lit.int .i64 n).wf = true := open_num (hval 1 3 v1 rfl rfl) h1
  clear hA0 hval0
  refine (walk a0 F0 cap0 n1 W m0 f0 s0 w1).mono fun e W' ⟨he, bel⟩ => ?_
  subst he
  exact ⟨_, rfl, _, _, _, [], _, [], hW', trodAll_mk1 (shut_bool Try.underlying4 _), (trodAll_cons_mk (Below.trod laidOut (by kernel_rfl) (of_decide_eq_true (by kernel_rfl)) k0 bel lt0) (trodAll_cons_mk (Below.trod laidOut (by kernel_rfl) (of_decide_eq_true (by kernel_rfl)) k1 bel lt1) trodAll_mk0)), rfl, bel.frame _, fun h => by cases h⟩

theorem over : Rows.fnExactIsFramedRow.holds Try.pinned (OpenSpec.ofChange Rows.fnExactIsFramedSpec) :=
  OpenClaim.holds_of_wide 14 Try.f14 rfl rfl rfl rfl rfl rfl rfl ⟨rfl, rfl, rfl, rfl, rfl⟩ rfl rfl rfl rfl rfl (by kernel_rfl) Try.func14 (by kernel_rfl)
    (of_decide_eq_true (by kernel_rfl)) (by unfold Func.isWrapper; first | (rw [if_pos (by decide +kernel)]; kernel_rfl) | (rw [if_neg (by decide +kernel)]; exact ⟨rfl, rfl⟩))
    (fun os started H enc _ => lifted os started H enc)

end Go.Proofs.Ytmapbkefndbnnaa.lIsFramed
namespace Go.Proofs.Ytmapbkefndbnnaa
/-- THE STATEMENT. -/
theorem isFramed_holds : Rows.FnExactIsFramedSaid := lIsFramed.over
#print axioms isFramed_holds
end Go.Proofs.Ytmapbkefndbnnaa
