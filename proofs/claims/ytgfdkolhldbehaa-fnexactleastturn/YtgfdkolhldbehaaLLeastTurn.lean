/- FnExactLeastTurn answers true at every argument: LeastTurn answers as the specification does, writes into no argument, and its answer owns its memory. No condition. -/
import Derived.Test.YtgfdkolhldbehaaLa
import Derived.Test.YtgfdkolhldbehaaLs
namespace Go.Proofs.Ytgfdkolhldbehaa.lLeastTurn
open Go.RowKit Go.ChangeShapes Go.WideShapes Go.ChangeAt
set_option linter.unusedVariables false

set_option maxHeartbeats 2000000 in
theorem walk (a : Option Addr) (l : List Cl) (ca : Nat)  (w : World) (ha : Seg w a l) (hm : l.length ≤ maxLen)  :
    Calls Try.prog 8 #[.slice a l.length ca] w fun e w' => e = .returned (.bool true) ∧ Below w.heap.size w w' := by
  unfold maxLen at hm
  by_cases hl : l.length ≤ 1048576
  · have hz : (0 : Int) ≤ 1048576 - (l.length : Int) := by omega
    have hR := leastL_le l
    go_enter Try.func8, Try.ntmps8
    go_wp2_with fail
    refine (c_szCellS a l.length ca 1048576 _ (by omega) (by omega)).mono ?_
    rintro e w0 ⟨rfl, rfl⟩
    go_wp2_with fail
    refine (c_toCellS a l ca _ ha hl).mono ?_
    rintro e w1 ⟨rfl, r1, b1⟩
    have R1 := hid r1
    have B1 := hid b1
    clear r1 b1
    go_wp2_with fail
    refine (c_sLeastTurn _ l l.length  w1 R1.out.seg hl).mono ?_
    rintro e w2 ⟨v1, rfl, o1, b2⟩
    obtain ⟨a1, c1, rfl, s1⟩ := o1.form
    have L1 := hid (fun k hk => (o1.lt k hk).2)
    have M1 := hid (fun k hk => Nat.le_trans B1.out.size (o1.lt k hk).1)
    have O1 := hid o1
    have B2 := hid (B1.out.trans (b2.mono B1.out.size))
    clear o1 s1 b2 R1 B1
    go_wp2_with fail
    refine (c_toCellS a l ca w2 (ha.below B2.out) hl).mono ?_
    rintro e w3 ⟨rfl, r3, b3⟩
    have R3 := hid r3
    have O1b := hid (O1.out.below b3)
    have B3 := hid (B2.out.trans (b3.mono B2.out.size))
    have G3 := hid r3.lt
    have G2 := hid B2.out.size
    clear r3 b3 O1 B2
    go_wp2_with fail
    refine (c_iLeastTurn _ l l.length  w3 R3.out.seg hl).mono ?_
    rintro e w4 ⟨v2, rfl, o2, b4⟩
    obtain ⟨a2, c2, rfl, s2⟩ := o2.form
    have L2 := hid (fun k hk => (o2.lt k hk).1)
    have O2 := hid o2
    have O1c := hid (O1b.out.below b4)
    have R4 := hid (R3.out.below b4)
    have B4 := hid (B3.out.trans (b4.mono B3.out.size))
    have S34 := hid b4.size
    have W3 := hid B3.out.size
    clear o2 s2 b4 R3 O1b B3
    have hd : decide (leastL l = leastL l) = true := by simp
    have hdl : decide (l = l) = true := by simp
    generalize hRE : leastL l = R at *
    generalize hOK : homeOk l = ok at *
    have RE := hid hRE
    have OK := hid hOK
    clear hRE hOK
    go_wp2_with fail
    refine (c_eqCellS a2 a1 R R c2 c1 w4 O2.out.seg O1c.out.seg (by omega) (by omega)).mono ?_
    rintro e w5 ⟨rfl, b5⟩
    have O1d := hid (O1c.out.below b5)
    have O2d := hid (O2.out.below b5)
    have R5 := hid (R4.out.below b5)
    have B5 := hid (B4.out.trans (b5.mono B4.out.size))
    clear O1c O2 R4 B4 b5 S34
    go_wp2_with fail
    refine (c_toCellS a l ca w5 (ha.below B5.out) hl).mono ?_
    rintro e w6 ⟨rfl, r6, b6⟩
    have O1e := hid (O1d.out.below b6)
    have O2e := hid (O2d.out.below b6)
    have R6 := hid (R5.out.below b6)
    have T6 := hid r6
    have B6 := hid (B5.out.trans (b6.mono B5.out.size))
    clear O1d O2d R5 B5 r6 b6
    go_wp2_with fail
    refine (c_eqCellS _ _ l l l.length l.length w6 R6.out.seg T6.out.seg hl hl).mono ?_
    rintro e w7 ⟨rfl, b7⟩
    have O1f := hid (O1e.out.below b7)
    have O2f := hid (O2e.out.below b7)
    have R7 := hid (R6.out.below b7)
    have B7 := hid (B6.out.trans (b7.mono B6.out.size))
    clear O1e O2e R6 B6 T6 b7
    go_wp2_with fail
    refine (c_mark _ l.length w2.heap.size l 1 w7 (R7.out.own hl) hl (by omega) (by omega)).mono ?_
    rintro e w8 ⟨rfl, o8, g8⟩
    have O1g := hid (own_keep O1f.out g8 (fun k hk e => by have := L1.out k hk; simp [Value.ownBlock] at e; omega))
    have O2g := hid (own_keep O2f.out g8 (fun k hk e => by have := L2.out k hk; have := G3.out; simp [Value.ownBlock] at e; omega))
    have B8 := hid (below_row B7.out g8 (fun k e => by have := G2.out; simp [Value.ownBlock] at e; omega))
    clear o8 g8 R7 O1f O2f B7
    have hk1 : (0 : Int) ≤ 1 + 2 * (l.length : Int) := by omega
    have hk2 : ¬ 1 + 2 * (l.length : Int) < 0 := by omega
    go_wp2_with fail
    refine (c_eqCellS a2 a1 R R c2 c1 w8 O2g.out.seg O1g.out.seg (by omega) (by omega)).mono ?_
    rintro e w9 ⟨rfl, b9⟩
    have O1h := hid (O1g.out.below b9)
    have O2h := hid (O2g.out.below b9)
    have B9 := hid (B8.out.trans (b9.mono B8.out.size))
    clear O1g O2g B8 b9
    go_wp2_with fail
    refine (c_mark a2 c2 w3.heap.size R 1 w9 O2h.out (by omega) (by omega) (by omega)).mono ?_
    rintro e w10 ⟨rfl, o10, g10⟩
    have O1i := hid (own_keep O1h.out g10 (fun k hk e => by have h1 := L1.out k hk; have h2 := L2.out k e; have := G3.out; omega))
    have M10 := hid o10
    have B10 := hid (below_row B9.out g10 (fun k e => by have h2 := L2.out k e; have := W3.out; omega))
    clear o10 g10 O1h O2h B9
    have hq1 : ¬ 1 + 2 * (R.length : Int) < 0 := by omega
    have hq2 : ((1 + 2 * (R.length : Int)) != (1 + 2 * (R.length : Int))) = false := by simp
    go_wp2_with fail
    refine (c_held a2 c2 R.length 1 w10 M10.out.seg (by omega) (by omega) (by omega)).mono ?_
    rintro e w10' ⟨rfl, rfl⟩
    go_wp2_with fail
    refine (c_toCellS a l ca w10' (ha.below B10.out) hl).mono ?_
    rintro e w11 ⟨rfl, r11, b11⟩
    have O1j := hid (O1i.out.below b11)
    have M11 := hid (M10.out.below b11)
    have R11 := hid r11
    have B11 := hid (B10.out.trans (b11.mono B10.out.size))
    clear r11 b11 O1i M10 B10
    have CI := hid (c_iLeastTurn _ l l.length  w11 R11.out.seg hl)
    rw [RE.out, OK.out] at CI
    go_wp2_with fail
    refine CI.out.mono ?_
    rintro e w12 ⟨v3, rfl, o3, b12⟩
    obtain ⟨a3, c3, rfl, s3⟩ := o3.form
    have O3 := hid o3
    have O1k := hid (O1j.out.below b12)
    have M12 := hid (M11.out.below b12)
    have B12 := hid (B11.out.trans (b12.mono B11.out.size))
    clear o3 s3 b12 O1j M11 B11 R11 CI
    go_wp2_with fail
    refine (c_eqCellS a3 a1 R R c3 c1 w12 O3.out.seg O1k.out.seg (by omega) (by omega)).mono ?_
    rintro e w13 ⟨rfl, b13⟩
    have M13 := hid (M12.out.below b13)
    have B13 := hid (B12.out.trans (b13.mono B12.out.size))
    clear M12 B12 O3 O1k b13
    go_wp2_with fail
    refine (c_held a2 c2 R.length 1 w13 M13.out.seg (by omega) (by omega) (by omega)).mono ?_
    rintro e w13' ⟨rfl, rfl⟩
    go_wp2
    go_ret
    exact ⟨rfl, B13.out⟩
  · go_enter Try.func8, Try.ntmps8
    go_wp2_with fail
    refine (c_szCellS_no a l.length ca 1048576 _ (by omega) (by omega) (by omega) (by omega)).mono ?_
    rintro e w0 ⟨rfl, rfl⟩
    go_wp2
    go_ret
    exact ⟨rfl, Below.refl _ _⟩

set_option maxRecDepth 100000 in
theorem lifted (os : Os) (started : os.Started) (H : Type) (enc : TypeId × Value → H) :
    ReturnsInHanded {} Try.checked os 8 .any (Rows.fnExactLeastTurnSpec.pre6 enc Try.prog Try.f8 Rows.fnExactLeastTurnRow.domain false) (Rows.fnExactLeastTurnSpec.post enc Try.prog Try.f8 false true false false) := by
  refine returnsInHanded_of_change (C := Try.checked) own started (by kernel_rfl) Try.func8
    (ChangeSpec.witness6 (enc := enc) (C := Try.checked) false ⟨#[], #[.slice none 0 0], []⟩ 8 (by kernel_rfl) (by kernel_rfl) (by kernel_rfl) (by kernel_rfl)) ?_
  intro W base args ds gs before hval0 hW hcnd _
  have hval : ∀ (j : Nat) t v, Try.f8.params[j]? = some t → args[j]? = some v → Value.okWide Try.prog W .any base t v := hval0
  have hW' := hW
  obtain ⟨p, q, hA0, hV, rfl, hfz, hnd⟩ := hW
  have hA : DataW.TrodAll enc Try.prog W 0 (fun _ => true) true Try.f8.params.toList args.toList ds p := hA0
  rw [Try.params8] at hA hval
  obtain ⟨v0, vs0, d0, ds0, p0, q0, hargs, rfl, rfl, h0, r0⟩ := trodAll_cons hA
  obtain ⟨rfl, rfl, rfl⟩ := trodAll_nil r0
  obtain rfl : args = #[v0] := by cases args; simp_all
  obtain ⟨rfl, rfl⟩ := trodVars_none hV
  have k0 := h0
  have lt0 : ∀ x ∈ p0, x.block < W.heap.size := by obtain ⟨m, hm⟩ := k0; exact DataW.trod_lt m _ _ _ hm
  obtain ⟨a0, len0, cap0, rfl⟩ := okWide_slice Try.underlying51 (hval 0 51 v0 rfl rfl)
  obtain ⟨l0, rfl, m0, s0⟩ : ∃ l : List Cl, l.length = len0 ∧ l.length ≤ maxLen ∧ Seg W a0 l := by
    obtain ⟨fuel, hf⟩ := h0
    exact open_cells hf
  clear hA0 hval0
  refine (walk a0 l0 cap0 W s0 m0).mono fun e W' ⟨he, bel⟩ => ?_
  subst he
  exact ⟨_, rfl, _, _, _, [], _, [], hW', trodAll_mk1 (shut_bool Try.underlying4 _), (trodAll_cons_mk (Below.trod laidOut (by kernel_rfl) (of_decide_eq_true (by kernel_rfl)) k0 bel lt0) trodAll_mk0), rfl, bel.frame _, fun h => by cases h⟩

theorem over : Rows.fnExactLeastTurnRow.holds Try.pinned (OpenSpec.ofChange Rows.fnExactLeastTurnSpec) :=
  OpenClaim.holds_of_wide 8 Try.f8 rfl rfl rfl rfl rfl rfl rfl ⟨rfl, rfl, rfl, rfl, rfl⟩ rfl rfl rfl rfl rfl (by kernel_rfl) Try.func8 (by kernel_rfl)
    (of_decide_eq_true (by kernel_rfl)) (by unfold Func.isWrapper; first | (rw [if_pos (by decide +kernel)]; kernel_rfl) | (rw [if_neg (by decide +kernel)]; exact ⟨rfl, rfl⟩))
    (fun os started H enc _ => lifted os started H enc)

end Go.Proofs.Ytgfdkolhldbehaa.lLeastTurn
namespace Go.Proofs.Ytgfdkolhldbehaa
/-- THE STATEMENT. -/
theorem leastTurn_holds : Rows.FnExactLeastTurnSaid := lLeastTurn.over
#print axioms leastTurn_holds
end Go.Proofs.Ytgfdkolhldbehaa
