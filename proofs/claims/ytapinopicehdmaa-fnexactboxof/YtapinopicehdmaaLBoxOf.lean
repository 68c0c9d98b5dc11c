/- FnExactBoxOf answers true at every argument: BoxOf answers as the specification does, and writes into no argument. No condition. -/
import Derived.Test.YtapinopicehdmaaOpen
import Derived.Test.YtapinopicehdmaaBoxY
import Derived.Test.YtapinopicehdmaaBoxS
namespace Go.Proofs.Ytapinopicehdmaa.lBoxOf
open Go.RowKit Go.ChangeShapes Go.WideShapes Go.ChangeAt
set_option linter.unusedVariables false

theorem c_eqSame (c : Cl) (w : World) :
    Calls Try.prog 30 #[.agg #[.int .i64 c.1, .int .i64 c.2], .agg #[.int .i64 c.1, .int .i64 c.2]] w fun e w' => e = .returned (.bool true) ∧ Below w.heap.size w w' := by
  have h := c_eqCell c c w
  rw [show eqC c c = true by simp [eqC]] at h
  exact h

set_option maxHeartbeats 4000000 in
theorem walk (a : Option Addr) (l : List Cl) (ca : Nat) (w : World) (ha : Seg w a l) (hm : l.length ≤ maxLen) :
    Calls Try.prog 8 #[.slice a l.length ca] w fun e w' => e = .returned (.bool true) ∧ Below w.heap.size w w' := by
  unfold maxLen at hm
  by_cases hl : l.length ≤ 1048576
  · have hz : (0 : Int) ≤ 1048576 - (l.length : Int) := by omega
    have HA := hid ha
    clear ha
    go_enter Try.func8, Try.ntmps8
    go_wp2_with fail
    refine (c_szCellS a l.length ca 1048576 _ (by omega) (by omega)).mono ?_
    rintro e w0 ⟨rfl, rfl⟩
    go_wp2_with fail
    refine (c_toCellS a l ca _ HA.out hl).mono ?_
    rintro e w1 ⟨rfl, r1, b1⟩
    have R1 := hid r1
    have B1 := hid b1
    clear r1 b1
    go_wp2_with fail
    refine (c_sBoxOf _ l l.length w1 R1.out.seg hl).mono ?_
    rintro e w2 ⟨rfl, b2⟩
    have B2 := hid (B1.out.trans (b2.mono B1.out.size))
    clear b2 R1 B1
    have CI := hid (fun (g : Nat) (w : World) (h : Row w g l) => c_iBoxOf (some ⟨g, 0, none⟩) l l.length w h.seg hl)
    generalize boxLo l = lo at *
    generalize boxHi l = hi at *
    generalize boxOk l = ok at *
    have X0 := hid ((BoxAt.new w2 lo).alloc (.cells #[.int .i64 hi.1, .int .i64 hi.2] 33))
    have X1 := hid (BoxAt.new (w2.alloc (.cells #[.int .i64 lo.1, .int .i64 lo.2] 33)) hi)
    have hz1 : (w2.alloc (.cells #[.int .i64 lo.1, .int .i64 lo.2] 33)).heap.size = w2.heap.size + 1 := by simp
    rw [hz1] at X1
    have B3 := hid ((B2.out.alloc B2.out.size (.cells #[.int .i64 lo.1, .int .i64 lo.2] 33)).alloc (by have := B2.out.size; simp; omega) (.cells #[.int .i64 hi.1, .int .i64 hi.2] 33))
    clear hz1 B2
    go_wp2_with fail
    generalize (w2.alloc (.cells #[.int .i64 lo.1, .int .i64 lo.2] 33)).alloc (.cells #[.int .i64 hi.1, .int .i64 hi.2] 33) = w3 at *
    refine (c_toCellS a l ca w3 (HA.out.below B3.out) hl).mono ?_
    rintro e w4 ⟨rfl, r4, b4⟩
    have X0 := hid (X0.out.below b4 X0.out.2.2.2.2)
    have X1 := hid (X1.out.below b4 X1.out.2.2.2.2)
    have R4 := hid r4
    have B4 := hid (B3.out.trans (b4.mono B3.out.size))
    clear r4 b4 B3
    generalize w2.heap.size + 1 = q0 at *
    generalize w2.heap.size = p0 at *
    go_wp2_with fail
    refine (CI.out _ w4 R4.out).mono ?_
    rintro e w5 ⟨rfl, b5⟩
    have X0 := hid (X0.out.below b5 X0.out.2.2.2.2)
    have X1 := hid (X1.out.below b5 X1.out.2.2.2.2)
    have R5 := hid (R4.out.below b5)
    have B5 := hid (B4.out.trans (b5.mono B4.out.size))
    clear b5 R4 B4 CI
    obtain ⟨f1, f2, _, _, f5⟩ := X0.out
    obtain ⟨h1, h2, _, _, h5⟩ := X1.out
    have X0 := hid ((X0.out.alloc (.cells #[.int .i64 lo.1, .int .i64 lo.2] 33)).alloc (.cells #[.int .i64 hi.1, .int .i64 hi.2] 33))
    have X1 := hid ((X1.out.alloc (.cells #[.int .i64 lo.1, .int .i64 lo.2] 33)).alloc (.cells #[.int .i64 hi.1, .int .i64 hi.2] 33))
    have Y0 := hid ((BoxAt.new w5 lo).alloc (.cells #[.int .i64 hi.1, .int .i64 hi.2] 33))
    have Y1 := hid (BoxAt.new (w5.alloc (.cells #[.int .i64 lo.1, .int .i64 lo.2] 33)) hi)
    have hz1 : (w5.alloc (.cells #[.int .i64 lo.1, .int .i64 lo.2] 33)).heap.size = w5.heap.size + 1 := by simp
    rw [hz1] at Y1
    have B6 := hid ((B5.out.alloc B5.out.size (.cells #[.int .i64 lo.1, .int .i64 lo.2] 33)).alloc (by have := B5.out.size; simp; omega) (.cells #[.int .i64 hi.1, .int .i64 hi.2] 33))
    have R6 := hid ((R5.out.below ((Below.refl w5.heap.size w5).alloc (Nat.le_refl _) (.cells #[.int .i64 lo.1, .int .i64 lo.2] 33))).below ((Below.refl _ _).alloc (Nat.le_refl _) (.cells #[.int .i64 hi.1, .int .i64 hi.2] 33)))
    clear hz1 B5 R5
    go_wp2_with fail
    generalize (w5.alloc (.cells #[.int .i64 lo.1, .int .i64 lo.2] 33)).alloc (.cells #[.int .i64 hi.1, .int .i64 hi.2] 33) = w6 at *
    generalize w5.heap.size + 1 = q1 at *
    generalize w5.heap.size = p1 at *
    refine (c_eqSame lo w6).mono ?_
    rintro e w7 ⟨rfl, b7⟩
    obtain ⟨k1, k2, _, _, k5⟩ := Y1.out.below b7 Y1.out.2.2.2.2
    obtain ⟨j1, j2, _, _, j5⟩ := X1.out.below b7 X1.out.2.2.2.2
    have R7 := hid (R6.out.below b7)
    have B7 := hid (B6.out.trans (b7.mono B6.out.size))
    clear b7 R6 B6 X0 X1 Y0 Y1 f1 f2 f5 h1 h2 h5
    go_wp2_with fail
    refine (c_eqSame hi w7).mono ?_
    rintro e w8 ⟨rfl, b8⟩
    have R8 := hid (R7.out.below b8)
    have B8 := hid (B7.out.trans (b8.mono B7.out.size))
    clear b8 R7 B7 k1 k2 k5 j1 j2 j5
    have hoo : (ok != ok) = false := by cases ok <;> rfl
    go_wp2_with fail
    refine (c_toCellS a l ca w8 (HA.out.below B8.out) hl).mono ?_
    rintro e w9 ⟨rfl, r9, b9⟩
    have R9 := hid (R8.out.below b9)
    have S9 := hid r9
    have B9 := hid (B8.out.trans (b9.mono B8.out.size))
    clear b9 r9 R8 B8
    go_wp2_with fail
    refine (c_eqCellS _ _ l l l.length l.length w9 R9.out.seg S9.out.seg hl hl).mono ?_
    rintro e w10 ⟨rfl, b10⟩
    have hd : decide (l = l) = true := by simp
    have B10 := hid (B9.out.trans (b10.mono B9.out.size))
    clear b10 R9 S9 B9
    go_wp2
    go_ret
    exact ⟨rfl, B10.out⟩
  · go_enter Try.func8, Try.ntmps8
    go_wp2_with fail
    refine (c_szCellS_no a l.length ca 1048576 _ (by omega) (by omega) (by omega) (by omega)).mono ?_
    rintro e w0 ⟨rfl, rfl⟩
    go_wp2
    go_ret
    exact ⟨rfl, Below.refl _ _⟩

set_option maxRecDepth 100000 in
theorem lifted (os : Os) (started : os.Started) (H : Type) (enc : TypeId × Value → H) :
    ReturnsInHanded {} Try.checked os 8 .any (Rows.fnExactBoxOfSpec.pre6 enc Try.prog Try.f8 Rows.fnExactBoxOfRow.domain false) (Rows.fnExactBoxOfSpec.post enc Try.prog Try.f8 false true false false) := by
  refine returnsInHanded_of_change (C := Try.checked) own started (by kernel_rfl) Try.func8
    (ChangeSpec.witness6 (enc := enc) (C := Try.checked) false ⟨#[], #[.slice none 0 0], []⟩ 8 (by kernel_rfl) (by kernel_rfl) (by kernel_rfl) (by kernel_rfl)) ?_
  intro W base args ds gs before hval0 hW hcnd _
  have hval : ∀ (j : Nat) t v, Try.f8.params[j]? = some t → args[j]? = some v → Value.okWide Try.prog W .any base t v := hval0
  have hW' := hW
  obtain ⟨p, q, hA0, hV, rfl, hfz, hnd⟩ := hW
  have hA : DataW.TrodAll enc Try.prog W 0 (fun _ => true) true Try.f8.params.toList args.toList ds p := hA0
  rw [Try.params8] at hA hval
  obtain ⟨v0, vs0, d0, ds0, p0, q0, hargs, rfl, rfl, h0, r0⟩ := trodAll_cons hA
  obtain ⟨rfl, rfl, rfl⟩ := trodAll_nil r0
  obtain rfl : args = #[v0] := by cases args; simp_all
  obtain ⟨rfl, rfl⟩ := trodVars_none hV
  have k0 := h0
  have lt0 : ∀ x ∈ p0, x.block < W.heap.size := by obtain ⟨m, hm⟩ := k0; exact DataW.trod_lt m _ _ _ hm
  obtain ⟨a0, len0, cap0, rfl⟩ := okWide_slice Try.underlying22 (hval 0 22 v0 rfl rfl)
  obtain ⟨l0, rfl, m0, s0⟩ : ∃ l : List Cl, l.length = len0 ∧ l.length ≤ maxLen ∧ Seg W a0 l := by
    obtain ⟨fuel, hf⟩ := h0
    exact open_cells hf
  clear hA0 hval0
  refine (walk a0 l0 cap0 W s0 m0).mono fun e W' ⟨he, bel⟩ => ?_
  subst he
  exact ⟨_, rfl, _, _, _, [], _, [], hW', trodAll_mk1 (shut_bool Try.underlying4 _), (trodAll_cons_mk (Below.trod laidOut (by kernel_rfl) (of_decide_eq_true (by kernel_rfl)) k0 bel lt0) trodAll_mk0), rfl, bel.frame _, fun h => by cases h⟩

theorem over : Rows.fnExactBoxOfRow.holds Try.pinned (OpenSpec.ofChange Rows.fnExactBoxOfSpec) :=
  OpenClaim.holds_of_wide 8 Try.f8 rfl rfl rfl rfl rfl rfl rfl ⟨rfl, rfl, rfl, rfl, rfl⟩ rfl rfl rfl rfl rfl (by kernel_rfl) Try.func8 (by kernel_rfl)
    (of_decide_eq_true (by kernel_rfl)) (by unfold Func.isWrapper; first | (rw [if_pos (by decide +kernel)]; kernel_rfl) | (rw [if_neg (by decide +kernel)]; exact ⟨rfl, rfl⟩))
    (fun os started H enc _ => lifted os started H enc)

end Go.Proofs.Ytapinopicehdmaa.lBoxOf
namespace Go.Proofs.Ytapinopicehdmaa
/-- THE STATEMENT. -/
theorem boxOf_holds : Rows.FnExactBoxOfSaid := lBoxOf.over
#print axioms boxOf_holds
end Go.Proofs.Ytapinopicehdmaa
