/- FnExactTurnsOf answers true at every argument: TurnsOf answers as the specification does, writes into no argument, and its answer owns its memory. No condition. -/
import Derived.Test.YtgfdkolhldbehaaLa
import Derived.Test.YtgfdkolhldbehaaLt
namespace Go.Proofs.Ytgfdkolhldbehaa.lTurnsOf
open Go.RowKit Go.ChangeShapes Go.WideShapes Go.ChangeAt
set_option linter.unusedVariables false

set_option maxHeartbeats 4000000 in
set_option maxRecDepth 100000 in
theorem walk (a : Option Addr) (l : List Cl) (ca : Nat) (w : World) (ha : Seg w a l) (hm : l.length ≤ maxLen) :
    Calls Try.prog 9 #[.slice a l.length ca] w fun e w' => e = .returned (.bool true) ∧ Below w.heap.size w w' := by
  unfold maxLen at hm
  by_cases hl : l.length ≤ 1048576
  · have hz : (0 : Int) ≤ 1048576 - (l.length : Int) := by omega
    have hdl : decide (l = l) = true := by simp
    have CS := hid (fun (g : Nat) (c : Nat) (W : World) (h : Seg W (some ⟨g, 0, none⟩) l) => c_sTurnsOf (some ⟨g, 0, none⟩) l c W h hl)
    have CI := hid (fun (g : Nat) (c : Nat) (W : World) (h : Seg W (some ⟨g, 0, none⟩) l) => c_iTurnsOf (some ⟨g, 0, none⟩) l c W h hl)
    have hRl : (turnsL l).length ≤ 1000 := by have := turnsL_len l; omega
    have HRE := hid (fun i (hi : i < (turnsL l).length) => turnsL_each l hi)
    have hk : ((homeOk l) != (homeOk l)) = false := by simp
    generalize turnsL l = R at *
    generalize homeOk l = ok at *
    have hd : decide (R = R) = true := by simp
    have HE2 := hid (fun i (hi : i < R.length) => Nat.le_trans (HRE.out i hi) (show 120 ≤ 1048576 by omega))
    have htot : totTo R R.length ≤ 120000 := by
      have h1 := totTo_le R 120 HRE.out R.length (Nat.le_refl _)
      have h2 : R.length * 120 ≤ 1000 * 120 := Nat.mul_le_mul_right _ hRl
      omega
    go_enter Try.func9, Try.ntmps9
    go_wp2_with fail
    refine (c_szCellS a l.length ca 1048576 _ (by omega) (by omega)).mono ?_
    rintro e w0 ⟨rfl, rfl⟩
    go_wp2_with fail
    refine (c_toCellS a l ca _ ha hl).mono ?_
    rintro e w1 ⟨rfl, r1, b1⟩
    have R1 := hid r1
    have B1 := hid b1
    clear r1 b1
    go_wp2_with fail
    refine (CS.out _ l.length w1 R1.out.seg).mono ?_
    rintro e w2 ⟨v1, vs1, rfl, o1, b2⟩
    obtain ⟨a1, c1, rfl, s1, _⟩ := o1.form
    have O1 := hid (HIn.of o1.seg)
    have B2 := hid (B1.out.trans (b2.mono B1.out.size))
    clear o1 s1 b2 R1 B1
    go_wp2_with fail
    refine (c_toCellS a l ca w2 (ha.below B2.out) hl).mono ?_
    rintro e w3 ⟨rfl, r3, b3⟩
    have R3 := hid r3
    have O1b := hid (O1.out.below (b3))
    have B3 := hid (B2.out.trans (b3.mono B2.out.size))
    have G3 := hid r3.lt
    have G2 := hid B2.out.size
    have ZW := hid (show w2.heap.size ≤ w3.heap.size from b3.size)
    have K3 := hid b3
    clear r3 b3 O1 B2
    go_wp2_with fail
    refine (CI.out _ l.length w3 R3.out.seg).mono ?_
    rintro e w4 ⟨v2, vs2, rfl, o2, b4⟩
    obtain ⟨a2, c2, rfl, s2, _⟩ := o2.form
    have O2 := hid o2
    have O1c := hid (O1b.out.below b4)
    have R4 := hid (R3.out.below b4)
    have B4 := hid (B3.out.trans (b4.mono B3.out.size))
    have W3 := hid B3.out.size
    have K4 := hid b4
    clear o2 s2 b4 R3 B3
    go_wp2_with fail
    refine (c_eqCellSS a2 a1 R R c2 c1 w4 O2.out.seg O1c.out.2 (by omega) (by omega) HE2.out HE2.out).mono ?_
    rintro e w5 ⟨rfl, b5⟩
    have O2d := hid (O2.out.below b5)
    have R5 := hid (R4.out.below b5)
    have B5 := hid (B4.out.trans (b5.mono B4.out.size))
    have K5 := hid (K4.out.trans (b5.mono K4.out.size))
    clear O1c O2 R4 B4 b5 K4
    go_wp2_with fail
    refine (c_toCellS a l ca w5 (ha.below B5.out) hl).mono ?_
    rintro e w6 ⟨rfl, r6, b6⟩
    have O2e := hid (O2d.out.below b6)
    have R6 := hid (R5.out.below b6)
    have T6 := hid r6
    have B6 := hid (B5.out.trans (b6.mono B5.out.size))
    have K6 := hid (K5.out.trans (b6.mono K5.out.size))
    clear O2d R5 B5 r6 b6 K5
    go_wp2_with fail
    refine (c_eqCellS _ _ l l l.length l.length w6 R6.out.seg T6.out.seg hl hl).mono ?_
    rintro e w7 ⟨rfl, b7⟩
    have O2f := hid (O2e.out.below b7)
    have R7 := hid (R6.out.below b7)
    have B7 := hid (B6.out.trans (b7.mono B6.out.size))
    have K7 := hid (K6.out.trans (b7.mono K6.out.size))
    clear O2e R6 B6 T6 b7 K6
    go_wp2_with fail
    refine (c_mark _ l.length w2.heap.size l 1 w7 (R7.out.own hl) hl (by omega) (by omega)).mono ?_
    rintro e w8 ⟨rfl, o8, g8⟩
    have O1g := hid ((O1b.out.below K7.out).kept g8 (fun k e => by simp [Value.ownBlock] at e; omega) (by have := ZW.out; have := K7.out.size; omega))
    have O2g := hid (O2f.out.kept g8 (fun k e => by have := G3.out; simp [Value.ownBlock] at e; omega))
    have B8 := hid (below_row B7.out g8 (fun k e => by have := G2.out; simp [Value.ownBlock] at e; omega))
    have Z7 := hid (show w3.heap.size ≤ w7.heap.size from K7.out.size)
    have Z8 := hid (show w7.heap.size ≤ w8.heap.size from g8.size)
    clear o8 g8 R7 O2f B7 K7 O1b K3
    have hk1 : (0 : Int) ≤ 1 + 2 * (l.length : Int) := by omega
    have hk2 : ¬ 1 + 2 * (l.length : Int) < 0 := by omega
    go_wp2_with fail
    refine (c_eqCellSS a2 a1 R R c2 c1 w8 O2g.out.seg O1g.out.2 (by omega) (by omega) HE2.out HE2.out).mono ?_
    rintro e w9 ⟨rfl, b9⟩
    have O1h := hid (O1g.out.below b9)
    have O2h := hid (O2g.out.below b9)
    have B9 := hid (B8.out.trans (b9.mono B8.out.size))
    have Z9 := hid (show w8.heap.size ≤ w9.heap.size from b9.size)
    clear O2g B8 b9
    go_wp2_with fail
    refine (c_markCellSS a2 c2 w3.heap.size vs2 R 1 w9 O2h.out (by have := Z7.out; have := Z8.out; have := Z9.out; omega) (by omega) HE2.out (by omega) (by omega)).mono ?_
    rintro e w10 ⟨rfl, o10, g10⟩
    have O1i := hid (O1h.out.under g10 ZW.out)
    have M10 := hid o10
    have B10 := hid (B9.out.trans (g10.mono W3.out))
    clear o10 g10 O1h B9
    have hq1 : ¬ 1 + 2 * (totTo R R.length : Int) < 0 := by omega
    have hq2 : ((1 + 2 * (totTo R R.length : Int)) != (1 + 2 * (totTo R R.length : Int))) = false := by simp
    go_wp2_with fail
    refine (c_heldCellSS a2 c2 w3.heap.size vs2 R 1 w10 M10.out (by omega) HE2.out (by omega) (by omega)).mono ?_
    rintro e w10' ⟨rfl, rfl⟩
    go_wp2_with fail
    refine (c_toCellS a l ca w10' (ha.below B10.out) hl).mono ?_
    rintro e w11 ⟨rfl, r11, b11⟩
    have O1j := hid (O1i.out.below b11)
    have M11 := hid (M10.out.below b11)
    have R11 := hid r11
    have B11 := hid (B10.out.trans (b11.mono B10.out.size))
    clear r11 b11 O1i M10 B10
    go_wp2_with fail
    refine (CI.out _ l.length w11 R11.out.seg).mono ?_
    rintro e w12 ⟨v3, vs3, rfl, o3, b12⟩
    obtain ⟨a3, c3, rfl, s3, _⟩ := o3.form
    have O3 := hid o3.seg
    have O1k := hid (O1j.out.below b12)
    have M12 := hid (M11.out.below b12)
    have B12 := hid (B11.out.trans (b12.mono B11.out.size))
    clear o3 s3 b12 O1j M11 B11 R11 CI
    go_wp2_with fail
    refine (c_eqCellSS a3 a1 R R c3 c1 w12 O3.out O1k.out.2 (by omega) (by omega) HE2.out HE2.out).mono ?_
    rintro e w13 ⟨rfl, b13⟩
    have M13 := hid (M12.out.below b13)
    have B13 := hid (B12.out.trans (b13.mono B12.out.size))
    clear M12 B12 O3 O1k b13
    go_wp2_with fail
    refine (c_heldCellSS a2 c2 w3.heap.size vs2 R 1 w13 M13.out (by omega) HE2.out (by omega) (by omega)).mono ?_
    rintro e w13' ⟨rfl, rfl⟩
    go_wp2
    go_ret
    exact ⟨rfl, B13.out⟩
  · go_enter Try.func9, Try.ntmps9
    go_wp2_with fail
    refine (c_szCellS_no a l.length ca 1048576 _ (by omega) (by omega) (by omega) (by omega)).mono ?_
    rintro e w0 ⟨rfl, rfl⟩
    go_wp2
    go_ret
    exact ⟨rfl, Below.refl _ _⟩

set_option maxRecDepth 100000 in
theorem lifted (os : Os) (started : os.Started) (H : Type) (enc : TypeId × Value → H) :
    ReturnsInHanded {} Try.checked os 9 .any (Rows.fnExactTurnsOfSpec.pre6 enc Try.prog Try.f9 Rows.fnExactTurnsOfRow.domain false) (Rows.fnExactTurnsOfSpec.post enc Try.prog Try.f9 false true false false) := by
  refine returnsInHanded_of_change (C := Try.checked) own started (by kernel_rfl) Try.func9
    (ChangeSpec.witness6 (enc := enc) (C := Try.checked) false ⟨#[], #[.slice none 0 0], []⟩ 8 (by kernel_rfl) (by kernel_rfl) (by kernel_rfl) (by kernel_rfl)) ?_
  intro W base args ds gs before hval0 hW hcnd _
  have hval : ∀ (j : Nat) t v, Try.f9.params[j]? = some t → args[j]? = some v → Value.okWide Try.prog W .any base t v := hval0
  have hW' := hW
  obtain ⟨p, q, hA0, hV, rfl, hfz, hnd⟩ := hW
  have hA : DataW.TrodAll enc Try.prog W 0 (fun _ => true) true Try.f9.params.toList args.toList ds p := hA0
  rw [Try.params9] at hA hval
  obtain ⟨v0, vs0, d0, ds0, p0, q0, hargs, rfl, rfl, h0, r0⟩ := trodAll_cons hA
  obtain ⟨rfl, rfl, rfl⟩ := trodAll_nil r0
  obtain rfl : args = #[v0] := by cases args; simp_all
  obtain ⟨rfl, rfl⟩ := trodVars_none hV
  have k0 := h0
  have lt0 : ∀ x ∈ p0, x.block < W.heap.size := by obtain ⟨m, hm⟩ := k0; exact DataW.trod_lt m _ _ _ hm
  obtain ⟨a0, len0, cap0, rfl⟩ := okWide_slice Try.underlying51 (hval 0 51 v0 rfl rfl)
  obtain ⟨l0, rfl, m0, s0⟩ : ∃ l : List Cl, l.length = len0 ∧ l.length ≤ maxLen ∧ Seg W a0 l := by
    obtain ⟨fuel, hf⟩ := h0
    exact open_cells hf
  clear hA0 hval0
  refine (walk a0 l0 cap0 W s0 m0).mono fun e W' ⟨he, bel⟩ => ?_
  subst he
  exact ⟨_, rfl, _, _, _, [], _, [], hW', trodAll_mk1 (shut_bool Try.underlying4 _), (trodAll_cons_mk (Below.trod laidOut (by kernel_rfl) (of_decide_eq_true (by kernel_rfl)) k0 bel lt0) trodAll_mk0), rfl, bel.frame _, fun h => by cases h⟩

theorem over : Rows.fnExactTurnsOfRow.holds Try.pinned (OpenSpec.ofChange Rows.fnExactTurnsOfSpec) :=
  OpenClaim.holds_of_wide 9 Try.f9 rfl rfl rfl rfl rfl rfl rfl ⟨rfl, rfl, rfl, rfl, rfl⟩ rfl rfl rfl rfl rfl (by kernel_rfl) Try.func9 (by kernel_rfl)
    (of_decide_eq_true (by kernel_rfl)) (by unfold Func.isWrapper; first | (rw [if_pos (by decide +kernel)]; kernel_rfl) | (rw [if_neg (by decide +kernel)]; exact ⟨rfl, rfl⟩))
    (fun os started H enc _ => lifted os started H enc)

end Go.Proofs.Ytgfdkolhldbehaa.lTurnsOf
namespace Go.Proofs.Ytgfdkolhldbehaa
/-- THE STATEMENT. -/
theorem turnsOf_holds : Rows.FnExactTurnsOfSaid := lTurnsOf.over
#print axioms turnsOf_holds
end Go.Proofs.Ytgfdkolhldbehaa
