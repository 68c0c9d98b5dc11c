/- FnExactSquareBy answers true at every argument: SquareBy answers as the specification does, and its answer owns its memory. No condition. -/
import Derived.Test.YtgfdkolhldbehaaOpen
import Derived.Test.YtgfdkolhldbehaaSquB
namespace Go.Proofs.Ytgfdkolhldbehaa.lSquareBy
open Go.RowKit Go.ChangeShapes Go.WideShapes Go.ChangeAt
set_option linter.unusedVariables false

set_option maxHeartbeats 2000000 in
theorem walk (s n : Int) (w : World) (ws : (Lit.int .i64 s).wf = true) (wn : (Lit.int .i64 n).wf = true) :
    Calls Try.prog 12 #[.int .i64 s, .int .i64 n] w fun e w' => e = .returned (.bool true) ∧ Below w.heap.size w w' := by
  have hs : -9223372036854775808 ≤ s ∧ s ≤ 9223372036854775807 := of_wf ws
  have hn : -9223372036854775808 ≤ n ∧ n ≤ 9223372036854775807 := of_wf wn
  have hR := sqbL_le s n
  have HS := hid (fun W => c_sSquareBy s n W hs hn)
  have HI := hid (fun W => c_iSquareBy s n W hs hn)
  have hd : decide (sqbL s n = sqbL s n) = true := by simp
  clear hs hn
  generalize sqbL s n = R at *
  generalize sqbOk s n = ok at *
  go_enter Try.func12, Try.ntmps12
  go_wp2_with fail
  refine (HS.out _).mono ?_
  rintro e w2 ⟨v1, rfl, o1, b2⟩
  obtain ⟨a1, c1, rfl, s1⟩ := o1.form
  have L1 := hid (fun k hk => (o1.lt k hk).2)
  have M1 := hid (fun k hk => (o1.lt k hk).1)
  have O1 := hid o1
  have B2 := hid b2
  clear o1 s1 b2
  go_wp2_with fail
  refine (HI.out _).mono ?_
  rintro e w4 ⟨v2, rfl, o2, b4⟩
  obtain ⟨a2, c2, rfl, s2⟩ := o2.form
  have L2 := hid (fun k hk => (o2.lt k hk).1)
  have O2 := hid o2
  have O1c := hid (O1.out.below b4)
  have W2 := hid B2.out.size
  have B4 := hid (B2.out.trans (b4.mono B2.out.size))
  clear o2 s2 b4 O1 B2
  go_wp2_with fail
  refine (c_eqCellS a2 a1 R R c2 c1 w4 O2.out.seg O1c.out.seg (by omega) (by omega)).mono ?_
  rintro e w9 ⟨rfl, b9⟩
  have O1h := hid (O1c.out.below b9)
  have O2h := hid (O2.out.below b9)
  have B9 := hid (B4.out.trans (b9.mono B4.out.size))
  clear O1c O2 B4 b9
  go_wp2_with fail
  refine (c_mark a2 c2 w2.heap.size R 1 w9 O2h.out (by omega) (by omega) (by omega)).mono ?_
  rintro e w10 ⟨rfl, o10, g10⟩
  have O1i := hid (own_keep O1h.out g10 (fun k hk e => by have h1 := L1.out k hk; have h2 := L2.out k e; omega))
  have M10 := hid o10
  have B10 := hid (below_row B9.out g10 (fun k e => by have h2 := L2.out k e; have := W2.out; omega))
  clear o10 g10 O1h O2h B9
  have hq1 : ¬ 1 + 2 * (R.length : Int) < 0 := by omega
  have hq2 : ((1 + 2 * (R.length : Int)) != (1 + 2 * (R.length : Int))) = false := by simp
  go_wp2_with fail
  refine (c_held a2 c2 R.length 1 w10 M10.out.seg (by omega) (by omega) (by omega)).mono ?_
  rintro e w10' ⟨rfl, rfl⟩
  go_wp2_with fail
  refine (HI.out _).mono ?_
  rintro e w12 ⟨v3, rfl, o3, b12⟩
  obtain ⟨a3, c3, rfl, s3⟩ := o3.form
  have O3 := hid o3
  have O1k := hid (O1i.out.below b12)
  have M12 := hid (M10.out.below b12)
  have B12 := hid (B10.out.trans (b12.mono B10.out.size))
  clear o3 s3 b12 O1i M10 B10
  go_wp2_with fail
  refine (c_eqCellS a3 a1 R R c3 c1 w12 O3.out.seg O1k.out.seg (by omega) (by omega)).mono ?_
  rintro e w13 ⟨rfl, b13⟩
  have M13 := hid (M12.out.below b13)
  have B13 := hid (B12.out.trans (b13.mono B12.out.size))
  clear M12 B12 O3 O1k b13
  go_wp2_with fail
  refine (c_held a2 c2 R.length 1 w13 M13.out.seg (by omega) (by omega) (by omega)).mono ?_
  rintro e w13' ⟨rfl, rfl⟩
  go_wp2
  go_ret
  exact ⟨rfl, B13.out⟩

set_option maxRecDepth 100000 in
theorem lifted (os : Os) (started : os.Started) (H : Type) (enc : TypeId × Value → H) :
    ReturnsInHanded {} Try.checked os 12 .any (Rows.fnExactSquareBySpec.pre6 enc Try.prog Try.f12 Rows.fnExactSquareByRow.domain false) (Rows.fnExactSquareBySpec.post enc Try.prog Try.f12 false true false false) := by
  refine returnsInHanded_of_change (C := Try.checked) own started (by kernel_rfl) Try.func12
    (ChangeSpec.witness6 (enc := enc) (C := Try.checked) false ⟨#[], #[.int .i64 0, .int .i64 0], []⟩ 8 (by kernel_rfl) (by kernel_rfl) (by kernel_rfl) (by kernel_rfl)) ?_
  intro W base args ds gs before hval0 hW hcnd _
  have hval : ∀ (j : Nat) t v, Try.f12.params[j]? = some t → args[j]? = some v → Value.okWide Try.prog W .any base t v := hval0
  have hW' := hW
  obtain ⟨p, q, hA0, hV, rfl, hfz, hnd⟩ := hW
  have hA : DataW.TrodAll enc Try.prog W 0 (fun _ => true) true Try.f12.params.toList args.toList ds p := hA0
  rw [Try.params12] at hA hval
  obtain ⟨v0, vs0, d0, ds0, p0, q0, hargs, rfl, rfl, h0, r0⟩ := trodAll_cons hA
  obtain ⟨v1, vs1, d1, ds1, p1, q1, rfl, rfl, rfl, h1, r1⟩ := trodAll_cons r0
  obtain ⟨rfl, rfl, rfl⟩ := trodAll_nil r1
  obtain rfl : args = #[v0, v1] := by cases args; simp_all
  obtain ⟨rfl, rfl⟩ := trodVars_none hV
  have k0 := h0
  have lt0 : ∀ x ∈ p0, x.block < W.heap.size := by obtain ⟨m, hm⟩ := k0; exact DataW.trod_lt m _ _ _ hm
  obtain ⟨n0, rfl, w0⟩ : ∃ n : Int, v0 = .int .i64 n ∧ (Lit.int .i64 n).wf = true := open_num (hval 0 3 v0 rfl rfl) h0
  have k1 := h1
  have lt1 : ∀ x ∈ p1, x.block < W.heap.size := by obtain ⟨m, hm⟩ := k1; exact DataW.trod_lt m _ _ _ hm
  obtain ⟨n1, rfl, w1⟩ : ∃ n : Int, v1 = .int .i64 n ∧ (Lit.int .i64 n).wf = true := open_num (hval 1 3 v1 rfl rfl) h1
  clear hA0 hval0
  refine (walk n0 n1 W w0 w1).mono fun e W' ⟨he, bel⟩ => ?_
  subst he
  exact ⟨_, rfl, _, _, _, [], _, [], hW', trodAll_mk1 (shut_bool Try.underlying4 _), (trodAll_cons_mk (Below.trod laidOut (by kernel_rfl) (of_decide_eq_true (by kernel_rfl)) k0 bel lt0) (trodAll_cons_mk (Below.trod laidOut (by kernel_rfl) (of_decide_eq_true (by kernel_rfl)) k1 bel lt1) trodAll_mk0)), rfl, bel.frame _, fun h => by cases h⟩

theorem over : Rows.fnExactSquareByRow.holds Try.pinned (OpenSpec.ofChange Rows.fnExactSquareBySpec) :=
  OpenClaim.holds_of_wide 12 Try.f12 rfl rfl rfl rfl rfl rfl rfl ⟨rfl, rfl, rfl, rfl, rfl⟩ rfl rfl rfl rfl rfl (by kernel_rfl) Try.func12 (by kernel_rfl)
    (of_decide_eq_true (by kernel_rfl)) (by unfold Func.isWrapper; first | (rw [if_pos (by decide +kernel)]; kernel_rfl) | (rw [if_neg (by decide +kernel)]; exact ⟨rfl, rfl⟩))
    (fun os started H enc _ => lifted os started H enc)

end Go.Proofs.Ytgfdkolhldbehaa.lSquareBy
namespace Go.Proofs.Ytgfdkolhldbehaa
/-- THE STATEMENT. -/
theorem squareBy_holds : Rows.FnExactSquareBySaid := lSquareBy.over
#print axioms squareBy_holds
end Go.Proofs.Ytgfdkolhldbehaa
