/- FnMoved answers true at every argument: cells that are moved come to the same, moved, and steps add up, for drawn cells. No condition. (Written by wip/tools/mkmoved.py.) -/
import Derived.Test.YtkapdjlaebidnaaMoved
namespace Go.Proofs.Ytkapdjlaebidnaa.lMoved
open Go.RowKit Go.ChangeShapes Go.WideShapes Go.ChangeAt
set_option linter.unusedVariables false

set_option maxHeartbeats 4000000 in
set_option maxRecDepth 100000 in
theorem walk (a0 : Option Addr) (l0 : List Int) (c0 : Nat) (a1 : Option Addr) (l1 : List Int) (c1 : Nat) (w0 : World) (ha : BSeg w0 a0 l0) (hm0 : l0.length ≤ maxLen) (hb : BSeg w0 a1 l1) (hm1 : l1.length ≤ maxLen) :
    Calls Try.prog 4 #[.slice a0 l0.length c0, .slice a1 l1.length c1] w0 fun e w' => e = .returned (.bool true) ∧ Below w0.heap.size w0 w' := by
  unfold maxLen at hm0 hm1
  by_cases hl : wrap64 ((l0.length : Int) + (l1.length : Int)) ≤ 1048576
  · have SM := hid hb
    have BB := hid (Below.refl w0.heap.size w0)
    have HA := hid ha
    clear ha hb
    go_enter Try.func4, Try.ntmps4
    go_wp2_with fail
    refine (c_DrawStepTimes a0 l0 c0 w0 HA.out (by omega)).mono ?_
    rintro e w1 ⟨v, L, t, rfl, o, hL, hsL, t0, t1, b⟩
    replace SM := hid (SM.out.below b)
    replace BB := hid (BB.out.trans (b.mono BB.out.size))
    clear b
    obtain ⟨aL, cL, rfl, _⟩ := o.form
    have OL := hid o
    clear o
    clear hsL HA
    have hsl := timesL_le L t
    go_wp2_with fail
    refine (c_iStepTimes aL L cL t w1 OL.out.seg OL.out.cap0 (by omega)).mono ?_
    rintro e w2 ⟨v, rfl, o, b⟩
    replace SM := hid (SM.out.below b)
    replace OL := hid (OL.out.below b)
    replace BB := hid (BB.out.trans (b.mono BB.out.size))
    clear b
    obtain ⟨aS, cS, rfl, _⟩ := o.form
    have Os := hid o
    clear o
    go_wp2_with fail
    refine (c_sStepTimes aL L cL t w2 OL.out.seg OL.out.cap0 (by omega)).mono ?_
    rintro e w3 ⟨v, rfl, o, b⟩
    replace SM := hid (SM.out.below b)
    replace OL := hid (OL.out.below b)
    replace Os := hid (Os.out.below b)
    replace BB := hid (BB.out.trans (b.mono BB.out.size))
    clear b
    obtain ⟨ax, cx, rfl, _⟩ := o.form
    have Ox := hid o
    clear o
    have d0 : decide (timesL L t = timesL L t) = true := by simp
    go_wp2_with fail
    refine (c_sameCells aS ax (timesL L t) (timesL L t) cS cx w3 Os.out.seg Ox.out.seg (by omega) (by omega)).mono ?_
    rintro e w4 ⟨rfl, b⟩
    replace SM := hid (SM.out.below b)
    replace OL := hid (OL.out.below b)
    replace Os := hid (Os.out.below b)
    replace Ox := hid (Ox.out.below b)
    replace BB := hid (BB.out.trans (b.mono BB.out.size))
    clear b
    clear Ox
    cases hok : timesOk L t
    case false =>
      clear hok
      clear OL Os
      clear hsl d0
      go_wp2_with fail
      refine (c_DrawMoveCells a1 l1 c1 w4 SM.out (by omega)).mono ?_
      rintro e w5 ⟨v, U, x, y, rfl, o, hU, hsU, x0, x1, y0, y1, b⟩
      replace SM := hid (SM.out.below b)
      replace BB := hid (BB.out.trans (b.mono BB.out.size))
      clear b
      obtain ⟨aU, cU, rfl, _⟩ := o.form
      have OU := hid o
      clear o
      clear hsU
      have hmU := moveL_le U x y
      have M3 := hid (moved3 U x y)
      go_wp2_with fail
      refine (c_iMoveCells aU U cU x y w5 OU.out.seg (by omega)).mono ?_
      rintro e w6 ⟨v, rfl, o, b⟩
      replace SM := hid (SM.out.below b)
      replace OU := hid (OU.out.below b)
      replace BB := hid (BB.out.trans (b.mono BB.out.size))
      clear b
      obtain ⟨am, cm, rfl, _⟩ := o.form
      have Om := hid o
      clear o
      go_wp2_with fail
      refine (c_sMoveCells aU U cU x y w6 OU.out.seg (by omega)).mono ?_
      rintro e w7 ⟨v, rfl, o, b⟩
      replace SM := hid (SM.out.below b)
      replace OU := hid (OU.out.below b)
      replace Om := hid (Om.out.below b)
      replace BB := hid (BB.out.trans (b.mono BB.out.size))
      clear b
      obtain ⟨an, cn, rfl, _⟩ := o.form
      have On := hid o
      clear o
      generalize moveOk U x y = one at *
      generalize moveL U x y = Um at *
      go_wp2_with fail
      refine (c_DrawBothCells a1 l1 c1 w7 SM.out (by omega)).mono ?_
      rintro e w8 ⟨v, v', P, Q, rfl, o, hP, hsP, o', hQ, hsQ, b⟩
      replace SM := hid (SM.out.below b)
      replace OU := hid (OU.out.below b)
      replace Om := hid (Om.out.below b)
      replace On := hid (On.out.below b)
      replace BB := hid (BB.out.trans (b.mono BB.out.size))
      clear b
      obtain ⟨aP, cP, rfl, _⟩ := o.form
      have OP := hid o
      clear o
      obtain ⟨aQ, cQ, rfl, _⟩ := o'.form
      have OQ := hid o'
      clear o'
      clear hsP hsQ
      have hPQ := bothL_le P Q
      go_wp2_with fail
      refine (c_iBothCells aP aQ P Q cP cQ w8 OP.out.seg OQ.out.seg (by omega) (by omega)).mono ?_
      rintro e w9 ⟨v, rfl, o, b⟩
      replace SM := hid (SM.out.below b)
      replace OU := hid (OU.out.below b)
      replace Om := hid (Om.out.below b)
      replace On := hid (On.out.below b)
      replace OP := hid (OP.out.below b)
      replace OQ := hid (OQ.out.below b)
      replace BB := hid (BB.out.trans (b.mono BB.out.size))
      clear b
      obtain ⟨aR, cR, rfl, _⟩ := o.form
      have OR := hid o
      clear o
      go_wp2_with fail
      refine (c_sBothCells aP aQ P Q cP cQ w9 OP.out.sl OQ.out.seg (by omega) (by omega)).mono ?_
      rintro e w10 ⟨v, rfl, o, b⟩
      replace SM := hid (SM.out.below b)
      replace OU := hid (OU.out.below b)
      replace Om := hid (Om.out.below b)
      replace On := hid (On.out.below b)
      replace OP := hid (OP.out.below b)
      replace OQ := hid (OQ.out.below b)
      replace OR := hid (OR.out.below b)
      replace BB := hid (BB.out.trans (b.mono BB.out.size))
      clear b
      obtain ⟨aT, cT, rfl, _⟩ := o.form
      have OT := hid o
      clear o
      generalize bothOk P Q = three at *
      generalize bothL P Q = PQ at *
      clear OP OQ
      go_wp2_with fail
      refine (c_DrawCellsOf a1 l1 c1 w10 SM.out (by omega)).mono ?_
      rintro e w11 ⟨v, V, rfl, o, hV, hsV, b⟩
      replace SM := hid (SM.out.below b)
      replace OU := hid (OU.out.below b)
      replace Om := hid (Om.out.below b)
      replace On := hid (On.out.below b)
      replace OR := hid (OR.out.below b)
      replace OT := hid (OT.out.below b)
      replace BB := hid (BB.out.trans (b.mono BB.out.size))
      clear b
      obtain ⟨aV, cV, rfl, _⟩ := o.form
      have OV := hid o
      clear o
      have hfV := hid (small_fits hsV)
      clear hsV
      have hVV := cofL_le V
      go_wp2_with fail
      refine (c_iCellsOf aV V cV w11 OV.out.seg hfV.out (by omega)).mono ?_
      rintro e w12 ⟨v, rfl, o, b⟩
      replace SM := hid (SM.out.below b)
      replace OU := hid (OU.out.below b)
      replace Om := hid (Om.out.below b)
      replace On := hid (On.out.below b)
      replace OR := hid (OR.out.below b)
      replace OT := hid (OT.out.below b)
      replace OV := hid (OV.out.below b)
      replace BB := hid (BB.out.trans (b.mono BB.out.size))
      clear b
      obtain ⟨aD, cD, rfl, _⟩ := o.form
      have OD := hid o
      clear o
      go_wp2_with fail
      refine (c_sCellsOf aV V cV w12 OV.out.seg (by omega)).mono ?_
      rintro e w13 ⟨v, rfl, o, b⟩
      replace SM := hid (SM.out.below b)
      replace OU := hid (OU.out.below b)
      replace Om := hid (Om.out.below b)
      replace On := hid (On.out.below b)
      replace OR := hid (OR.out.below b)
      replace OT := hid (OT.out.below b)
      replace OV := hid (OV.out.below b)
      replace OD := hid (OD.out.below b)
      replace BB := hid (BB.out.trans (b.mono BB.out.size))
      clear b
      obtain ⟨aE, cE, rfl, _⟩ := o.form
      have OE := hid o
      clear o
      generalize cofOk V = five at *
      generalize cofL V = VV at *
      clear OV SM
      have d1 : decide (Um = Um) = true := by simp
      have d2 : decide (PQ = PQ) = true := by simp
      have d3 : decide (VV = VV) = true := by simp
      have d4 : decide (U = U) = true := by simp
      go_wp2_with fail
      refine (c_sameCells am an Um Um cm cn w13 Om.out.seg On.out.seg (by omega) (by omega)).mono ?_
      rintro e w14 ⟨rfl, b⟩
      replace OU := hid (OU.out.below b)
      replace Om := hid (Om.out.below b)
      replace On := hid (On.out.below b)
      replace OR := hid (OR.out.below b)
      replace OT := hid (OT.out.below b)
      replace OD := hid (OD.out.below b)
      replace OE := hid (OE.out.below b)
      replace BB := hid (BB.out.trans (b.mono BB.out.size))
      clear b
      clear On
      go_wp2_with fail
      refine (c_sameCells aR aT PQ PQ cR cT w14 OR.out.seg OT.out.seg (by omega) (by omega)).mono ?_
      rintro e w15 ⟨rfl, b⟩
      replace OU := hid (OU.out.below b)
      replace Om := hid (Om.out.below b)
      replace OR := hid (OR.out.below b)
      replace OT := hid (OT.out.below b)
      replace OD := hid (OD.out.below b)
      replace OE := hid (OE.out.below b)
      replace BB := hid (BB.out.trans (b.mono BB.out.size))
      clear b
      clear OR OT
      go_wp2_with fail
      refine (c_sameCells aD aE VV VV cD cE w15 OD.out.seg OE.out.seg (by omega) (by omega)).mono ?_
      rintro e w16 ⟨rfl, b⟩
      replace OU := hid (OU.out.below b)
      replace Om := hid (Om.out.below b)
      replace OD := hid (OD.out.below b)
      replace OE := hid (OE.out.below b)
      replace BB := hid (BB.out.trans (b.mono BB.out.size))
      clear b
      clear OD OE
      cases one
      case false =>
        go_wp2
        go_ret
        exact ⟨rfl, BB.out⟩
      case true =>
        have M3' := M3.out (by first | rfl | trivial)
        have CC := hid (c_iMoveCells am Um cm (-x) (-y) w16 Om.out.seg (by omega))
        rw [M3'.1, M3'.2] at CC
        go_wp2_with fail
        refine CC.out.mono ?_
        rintro e w17 ⟨v, rfl, o, b⟩
        replace OU := hid (OU.out.below b)
        replace Om := hid (Om.out.below b)
        replace BB := hid (BB.out.trans (b.mono BB.out.size))
        clear b CC
        obtain ⟨aB, cB, rfl, _⟩ := o.form
        have OB := hid o
        clear o
        go_wp2_with fail
        refine (c_sameCells aB aU U U cB cU w17 OB.out.seg OU.out.seg (by omega) (by omega)).mono ?_
        rintro e w18 ⟨rfl, b⟩
        replace OU := hid (OU.out.below b)
        replace Om := hid (Om.out.below b)
        replace OB := hid (OB.out.below b)
        replace BB := hid (BB.out.trans (b.mono BB.out.size))
        clear b
        go_wp2
        go_ret
        exact ⟨rfl, BB.out⟩
    case true =>
      have hT := timesOk_bd hok
      have M1 := hid (moved1 hok)
      have M2 := hid (moved2 hok)
      clear hok
      go_wp2_with fail
      refine (c_numberOf a1 l1 c1 w4 SM.out (by omega)).mono ?_
      rintro e w5 ⟨n, rfl, n0, n1, b⟩
      replace SM := hid (SM.out.below b)
      replace OL := hid (OL.out.below b)
      replace Os := hid (Os.out.below b)
      replace BB := hid (BB.out.trans (b.mono BB.out.size))
      clear b
      have r0 : 0 ≤ n % (t + 1) := Int.emod_nonneg _ (by omega)
      have r1 : n % (t + 1) < t + 1 := Int.emod_lt_of_pos _ (by omega)
      have r2 : n.tmod (t + 1) = n % (t + 1) := Int.tmod_eq_emod_of_nonneg n0
      have hkz : ((t + 1) == 0) = false := beq_eq_false_iff_ne.2 (by omega)
      have K := M1.out (n % (t + 1)) r0 (by omega)
      have K1 := hid K.1
      have K2 := hid K.2.1
      have K3 := hid K.2.2
      clear K M1
      have hka := timesL_le L (n % (t + 1))
      have CC := hid (c_iStepTimes aL L cL (n % (t + 1)) w5 OL.out.seg OL.out.cap0 (by omega))
      rw [K1.out] at CC
      go_wp2_with fail
      refine CC.out.mono ?_
      rintro e w6 ⟨v, rfl, o, b⟩
      replace SM := hid (SM.out.below b)
      replace OL := hid (OL.out.below b)
      replace Os := hid (Os.out.below b)
      replace BB := hid (BB.out.trans (b.mono BB.out.size))
      clear b CC
      obtain ⟨aA, cA, rfl, _⟩ := o.form
      have Oa := hid o
      clear o
      have CC := hid (c_iStepTimes aA (timesL L (n % (t + 1))) cA (t - n % (t + 1)) w6 Oa.out.seg Oa.out.cap0 (by omega))
      rw [K2.out, K3.out] at CC
      go_wp2_with fail
      refine CC.out.mono ?_
      rintro e w7 ⟨v, rfl, o, b⟩
      replace SM := hid (SM.out.below b)
      replace OL := hid (OL.out.below b)
      replace Os := hid (Os.out.below b)
      replace Oa := hid (Oa.out.below b)
      replace BB := hid (BB.out.trans (b.mono BB.out.size))
      clear b CC
      obtain ⟨aB, cB, rfl, _⟩ := o.form
      have Ob := hid o
      clear o
      go_wp2_with fail
      refine (c_sameCells aB aS (timesL L t) (timesL L t) cB cS w7 Ob.out.seg Os.out.seg (by omega) (by omega)).mono ?_
      rintro e w8 ⟨rfl, b⟩
      replace SM := hid (SM.out.below b)
      replace OL := hid (OL.out.below b)
      replace Os := hid (Os.out.below b)
      replace Oa := hid (Oa.out.below b)
      replace Ob := hid (Ob.out.below b)
      replace BB := hid (BB.out.trans (b.mono BB.out.size))
      clear b
      clear Oa Ob
      clear K1 K2 K3 hka
      go_wp2_with fail
      refine (c_numberOf a1 l1 c1 w8 SM.out (by omega)).mono ?_
      rintro e w9 ⟨n', rfl, n0', n1', b⟩
      replace SM := hid (SM.out.below b)
      replace OL := hid (OL.out.below b)
      replace Os := hid (Os.out.below b)
      replace BB := hid (BB.out.trans (b.mono BB.out.size))
      clear b
      have q0 : 0 ≤ n' % 7 := Int.emod_nonneg _ (by omega)
      have q1 : n' % 7 < 7 := Int.emod_lt_of_pos _ (by omega)
      have q2 : n'.tmod 7 = n' % 7 := Int.tmod_eq_emod_of_nonneg n0'
      have hml := moveL_le L (n' % 7 - 3) 2
      have hmt := timesL_le (moveL L (n' % 7 - 3) 2) t
      have hms := moveL_le (timesL L t) (n' % 7 - 3) 2
      have M2' := hid (M2.out (n' % 7 - 3) 2)
      clear M2
      go_wp2_with fail
      refine (c_iMoveCells aL L cL (n' % 7 - 3) 2 w9 OL.out.seg (by omega)).mono ?_
      rintro e w10 ⟨v, rfl, o, b⟩
      replace SM := hid (SM.out.below b)
      replace OL := hid (OL.out.below b)
      replace Os := hid (Os.out.below b)
      replace BB := hid (BB.out.trans (b.mono BB.out.size))
      clear b
      obtain ⟨aP, cP, rfl, _⟩ := o.form
      have Op := hid o
      clear o
      go_wp2_with fail
      refine (c_iStepTimes aP (moveL L (n' % 7 - 3) 2) cP t w10 Op.out.seg Op.out.cap0 (by omega)).mono ?_
      rintro e w11 ⟨v, rfl, o, b⟩
      replace SM := hid (SM.out.below b)
      replace OL := hid (OL.out.below b)
      replace Os := hid (Os.out.below b)
      replace Op := hid (Op.out.below b)
      replace BB := hid (BB.out.trans (b.mono BB.out.size))
      clear b
      obtain ⟨aQ, cQ, rfl, _⟩ := o.form
      have Oq := hid o
      clear o
      go_wp2_with fail
      refine (c_iMoveCells aS (timesL L t) cS (n' % 7 - 3) 2 w11 Os.out.seg (by omega)).mono ?_
      rintro e w12 ⟨v, rfl, o, b⟩
      replace SM := hid (SM.out.below b)
      replace OL := hid (OL.out.below b)
      replace Os := hid (Os.out.below b)
      replace Op := hid (Op.out.below b)
      replace Oq := hid (Oq.out.below b)
      replace BB := hid (BB.out.trans (b.mono BB.out.size))
      clear b
      obtain ⟨aR, cR, rfl, _⟩ := o.form
      have Or := hid o
      clear o
      cases h3 : moveOk L (n' % 7 - 3) 2
      case false =>
        go_wp2_with fail
        clear h3
        clear OL Os Op Oq Or
        clear M2' hsl hml hmt hms d0 n0 n1 n0' n1' r0 r1 r2 q0 q1 q2 hkz hT
        go_wp2_with fail
        refine (c_DrawMoveCells a1 l1 c1 w12 SM.out (by omega)).mono ?_
        rintro e w13 ⟨v, U, x, y, rfl, o, hU, hsU, x0, x1, y0, y1, b⟩
        replace SM := hid (SM.out.below b)
        replace BB := hid (BB.out.trans (b.mono BB.out.size))
        clear b
        obtain ⟨aU, cU, rfl, _⟩ := o.form
        have OU := hid o
        clear o
        clear hsU
        have hmU := moveL_le U x y
        have M3 := hid (moved3 U x y)
        go_wp2_with fail
        refine (c_iMoveCells aU U cU x y w13 OU.out.seg (by omega)).mono ?_
        rintro e w14 ⟨v, rfl, o, b⟩
        replace SM := hid (SM.out.below b)
        replace OU := hid (OU.out.below b)
        replace BB := hid (BB.out.trans (b.mono BB.out.size))
        clear b
        obtain ⟨am, cm, rfl, _⟩ := o.form
        have Om := hid o
        clear o
        go_wp2_with fail
        refine (c_sMoveCells aU U cU x y w14 OU.out.seg (by omega)).mono ?_
        rintro e w15 ⟨v, rfl, o, b⟩
        replace SM := hid (SM.out.below b)
        replace OU := hid (OU.out.below b)
        replace Om := hid (Om.out.below b)
        replace BB := hid (BB.out.trans (b.mono BB.out.size))
        clear b
        obtain ⟨an, cn, rfl, _⟩ := o.form
        have On := hid o
        clear o
        generalize moveOk U x y = one at *
        generalize moveL U x y = Um at *
        go_wp2_with fail
        refine (c_DrawBothCells a1 l1 c1 w15 SM.out (by omega)).mono ?_
        rintro e w16 ⟨v, v', P, Q, rfl, o, hP, hsP, o', hQ, hsQ, b⟩
        replace SM := hid (SM.out.below b)
        replace OU := hid (OU.out.below b)
        replace Om := hid (Om.out.below b)
        replace On := hid (On.out.below b)
        replace BB := hid (BB.out.trans (b.mono BB.out.size))
        clear b
        obtain ⟨aP, cP, rfl, _⟩ := o.form
        have OP := hid o
        clear o
        obtain ⟨aQ, cQ, rfl, _⟩ := o'.form
        have OQ := hid o'
        clear o'
        clear hsP hsQ
        have hPQ := bothL_le P Q
        go_wp2_with fail
        refine (c_iBothCells aP aQ P Q cP cQ w16 OP.out.seg OQ.out.seg (by omega) (by omega)).mono ?_
        rintro e w17 ⟨v, rfl, o, b⟩
        replace SM := hid (SM.out.below b)
        replace OU := hid (OU.out.below b)
        replace Om := hid (Om.out.below b)
        replace On := hid (On.out.below b)
        replace OP := hid (OP.out.below b)
        replace OQ := hid (OQ.out.below b)
        replace BB := hid (BB.out.trans (b.mono BB.out.size))
        clear b
        obtain ⟨aR, cR, rfl, _⟩ := o.form
        have OR := hid o
        clear o
        go_wp2_with fail
        refine (c_sBothCells aP aQ P Q cP cQ w17 OP.out.sl OQ.out.seg (by omega) (by omega)).mono ?_
        rintro e w18 ⟨v, rfl, o, b⟩
        replace SM := hid (SM.out.below b)
        replace OU := hid (OU.out.below b)
        replace Om := hid (Om.out.below b)
        replace On := hid (On.out.below b)
        replace OP := hid (OP.out.below b)
        replace OQ := hid (OQ.out.below b)
        replace OR := hid (OR.out.below b)
        replace BB := hid (BB.out.trans (b.mono BB.out.size))
        clear b
        obtain ⟨aT, cT, rfl, _⟩ := o.form
        have OT := hid o
        clear o
        generalize bothOk P Q = three at *
        generalize bothL P Q = PQ at *
        clear OP OQ
        go_wp2_with fail
        refine (c_DrawCellsOf a1 l1 c1 w18 SM.out (by omega)).mono ?_
        rintro e w19 ⟨v, V, rfl, o, hV, hsV, b⟩
        replace SM := hid (SM.out.below b)
        replace OU := hid (OU.out.below b)
        replace Om := hid (Om.out.below b)
        replace On := hid (On.out.below b)
        replace OR := hid (OR.out.below b)
        replace OT := hid (OT.out.below b)
        replace BB := hid (BB.out.trans (b.mono BB.out.size))
        clear b
        obtain ⟨aV, cV, rfl, _⟩ := o.form
        have OV := hid o
        clear o
        have hfV := hid (small_fits hsV)
        clear hsV
        have hVV := cofL_le V
        go_wp2_with fail
        refine (c_iCellsOf aV V cV w19 OV.out.seg hfV.out (by omega)).mono ?_
        rintro e w20 ⟨v, rfl, o, b⟩
        replace SM := hid (SM.out.below b)
        replace OU := hid (OU.out.below b)
        replace Om := hid (Om.out.below b)
        replace On := hid (On.out.below b)
        replace OR := hid (OR.out.below b)
        replace OT := hid (OT.out.below b)
        replace OV := hid (OV.out.below b)
        replace BB := hid (BB.out.trans (b.mono BB.out.size))
        clear b
        obtain ⟨aD, cD, rfl, _⟩ := o.form
        have OD := hid o
        clear o
        go_wp2_with fail
        refine (c_sCellsOf aV V cV w20 OV.out.seg (by omega)).mono ?_
        rintro e w21 ⟨v, rfl, o, b⟩
        replace SM := hid (SM.out.below b)
        replace OU := hid (OU.out.below b)
        replace Om := hid (Om.out.below b)
        replace On := hid (On.out.below b)
        replace OR := hid (OR.out.below b)
        replace OT := hid (OT.out.below b)
        replace OV := hid (OV.out.below b)
        replace OD := hid (OD.out.below b)
        replace BB := hid (BB.out.trans (b.mono BB.out.size))
        clear b
        obtain ⟨aE, cE, rfl, _⟩ := o.form
        have OE := hid o
        clear o
        generalize cofOk V = five at *
        generalize cofL V = VV at *
        clear OV SM
        have d1 : decide (Um = Um) = true := by simp
        have d2 : decide (PQ = PQ) = true := by simp
        have d3 : decide (VV = VV) = true := by simp
        have d4 : decide (U = U) = true := by simp
        go_wp2_with fail
        refine (c_sameCells am an Um Um cm cn w21 Om.out.seg On.out.seg (by omega) (by omega)).mono ?_
        rintro e w22 ⟨rfl, b⟩
        replace OU := hid (OU.out.below b)
        replace Om := hid (Om.out.below b)
        replace On := hid (On.out.below b)
        replace OR := hid (OR.out.below b)
        replace OT := hid (OT.out.below b)
        replace OD := hid (OD.out.below b)
        replace OE := hid (OE.out.below b)
        replace BB := hid (BB.out.trans (b.mono BB.out.size))
        clear b
        clear On
        go_wp2_with fail
        refine (c_sameCells aR aT PQ PQ cR cT w22 OR.out.seg OT.out.seg (by omega) (by omega)).mono ?_
        rintro e w23 ⟨rfl, b⟩
        replace OU := hid (OU.out.below b)
        replace Om := hid (Om.out.below b)
        replace OR := hid (OR.out.below b)
        replace OT := hid (OT.out.below b)
        replace OD := hid (OD.out.below b)
        replace OE := hid (OE.out.below b)
        replace BB := hid (BB.out.trans (b.mono BB.out.size))
        clear b
        clear OR OT
        go_wp2_with fail
        refine (c_sameCells aD aE VV VV cD cE w23 OD.out.seg OE.out.seg (by omega) (by omega)).mono ?_
        rintro e w24 ⟨rfl, b⟩
        replace OU := hid (OU.out.below b)
        replace Om := hid (Om.out.below b)
        replace OD := hid (OD.out.below b)
        replace OE := hid (OE.out.below b)
        replace BB := hid (BB.out.trans (b.mono BB.out.size))
        clear b
        clear OD OE
        cases one
        case false =>
          go_wp2
          go_ret
          exact ⟨rfl, BB.out⟩
        case true =>
          have M3' := M3.out (by first | rfl | trivial)
          have CC := hid (c_iMoveCells am Um cm (-x) (-y) w24 Om.out.seg (by omega))
          rw [M3'.1, M3'.2] at CC
          go_wp2_with fail
          refine CC.out.mono ?_
          rintro e w25 ⟨v, rfl, o, b⟩
          replace OU := hid (OU.out.below b)
          replace Om := hid (Om.out.below b)
          replace BB := hid (BB.out.trans (b.mono BB.out.size))
          clear b CC
          obtain ⟨aB, cB, rfl, _⟩ := o.form
          have OB := hid o
          clear o
          go_wp2_with fail
          refine (c_sameCells aB aU U U cB cU w25 OB.out.seg OU.out.seg (by omega) (by omega)).mono ?_
          rintro e w26 ⟨rfl, b⟩
          replace OU := hid (OU.out.below b)
          replace Om := hid (Om.out.below b)
          replace OB := hid (OB.out.below b)
          replace BB := hid (BB.out.trans (b.mono BB.out.size))
          clear b
          go_wp2
          go_ret
          exact ⟨rfl, BB.out⟩
      case true =>
        cases h4 : timesOk (moveL L (n' % 7 - 3) 2) t
        case false =>
          clear h3 h4
          go_wp2_with fail
          clear OL Os Op Oq Or
          clear M2' hsl hml hmt hms d0 n0 n1 n0' n1' r0 r1 r2 q0 q1 q2 hkz hT
          go_wp2_with fail
          refine (c_DrawMoveCells a1 l1 c1 w12 SM.out (by omega)).mono ?_
          rintro e w13 ⟨v, U, x, y, rfl, o, hU, hsU, x0, x1, y0, y1, b⟩
          replace SM := hid (SM.out.below b)
          replace BB := hid (BB.out.trans (b.mono BB.out.size))
          clear b
          obtain ⟨aU, cU, rfl, _⟩ := o.form
          have OU := hid o
          clear o
          clear hsU
          have hmU := moveL_le U x y
          have M3 := hid (moved3 U x y)
          go_wp2_with fail
          refine (c_iMoveCells aU U cU x y w13 OU.out.seg (by omega)).mono ?_
          rintro e w14 ⟨v, rfl, o, b⟩
          replace SM := hid (SM.out.below b)
          replace OU := hid (OU.out.below b)
          replace BB := hid (BB.out.trans (b.mono BB.out.size))
          clear b
          obtain ⟨am, cm, rfl, _⟩ := o.form
          have Om := hid o
          clear o
          go_wp2_with fail
          refine (c_sMoveCells aU U cU x y w14 OU.out.seg (by omega)).mono ?_
          rintro e w15 ⟨v, rfl, o, b⟩
          replace SM := hid (SM.out.below b)
          replace OU := hid (OU.out.below b)
          replace Om := hid (Om.out.below b)
          replace BB := hid (BB.out.trans (b.mono BB.out.size))
          clear b
          obtain ⟨an, cn, rfl, _⟩ := o.form
          have On := hid o
          clear o
          generalize moveOk U x y = one at *
          generalize moveL U x y = Um at *
          go_wp2_with fail
          refine (c_DrawBothCells a1 l1 c1 w15 SM.out (by omega)).mono ?_
          rintro e w16 ⟨v, v', P, Q, rfl, o, hP, hsP, o', hQ, hsQ, b⟩
          replace SM := hid (SM.out.below b)
          replace OU := hid (OU.out.below b)
          replace Om := hid (Om.out.below b)
          replace On := hid (On.out.below b)
          replace BB := hid (BB.out.trans (b.mono BB.out.size))
          clear b
          obtain ⟨aP, cP, rfl, _⟩ := o.form
          have OP := hid o
          clear o
          obtain ⟨aQ, cQ, rfl, _⟩ := o'.form
          have OQ := hid o'
          clear o'
          clear hsP hsQ
          have hPQ := bothL_le P Q
          go_wp2_with fail
          refine (c_iBothCells aP aQ P Q cP cQ w16 OP.out.seg OQ.out.seg (by omega) (by omega)).mono ?_
          rintro e w17 ⟨v, rfl, o, b⟩
          replace SM := hid (SM.out.below b)
          replace OU := hid (OU.out.below b)
          replace Om := hid (Om.out.below b)
          replace On := hid (On.out.below b)
          replace OP := hid (OP.out.below b)
          replace OQ := hid (OQ.out.below b)
          replace BB := hid (BB.out.trans (b.mono BB.out.size))
          clear b
          obtain ⟨aR, cR, rfl, _⟩ := o.form
          have OR := hid o
          clear o
          go_wp2_with fail
          refine (c_sBothCells aP aQ P Q cP cQ w17 OP.out.sl OQ.out.seg (by omega) (by omega)).mono ?_
          rintro e w18 ⟨v, rfl, o, b⟩
          replace SM := hid (SM.out.below b)
          replace OU := hid (OU.out.below b)
          replace Om := hid (Om.out.below b)
          replace On := hid (On.out.below b)
          replace OP := hid (OP.out.below b)
          replace OQ := hid (OQ.out.below b)
          replace OR := hid (OR.out.below b)
          replace BB := hid (BB.out.trans (b.mono BB.out.size))
          clear b
          obtain ⟨aT, cT, rfl, _⟩ := o.form
          have OT := hid o
          clear o
          generalize bothOk P Q = three at *
          generalize bothL P Q = PQ at *
          clear OP OQ
          go_wp2_with fail
          refine (c_DrawCellsOf a1 l1 c1 w18 SM.out (by omega)).mono ?_
          rintro e w19 ⟨v, V, rfl, o, hV, hsV, b⟩
          replace SM := hid (SM.out.below b)
          replace OU := hid (OU.out.below b)
          replace Om := hid (Om.out.below b)
          replace On := hid (On.out.below b)
          replace OR := hid (OR.out.below b)
          replace OT := hid (OT.out.below b)
          replace BB := hid (BB.out.trans (b.mono BB.out.size))
          clear b
          obtain ⟨aV, cV, rfl, _⟩ := o.form
          have OV := hid o
          clear o
          have hfV := hid (small_fits hsV)
          clear hsV
          have hVV := cofL_le V
          go_wp2_with fail
          refine (c_iCellsOf aV V cV w19 OV.out.seg hfV.out (by omega)).mono ?_
          rintro e w20 ⟨v, rfl, o, b⟩
          replace SM := hid (SM.out.below b)
          replace OU := hid (OU.out.below b)
          replace Om := hid (Om.out.below b)
          replace On := hid (On.out.below b)
          replace OR := hid (OR.out.below b)
          replace OT := hid (OT.out.below b)
          replace OV := hid (OV.out.below b)
          replace BB := hid (BB.out.trans (b.mono BB.out.size))
          clear b
          obtain ⟨aD, cD, rfl, _⟩ := o.form
          have OD := hid o
          clear o
          go_wp2_with fail
          refine (c_sCellsOf aV V cV w20 OV.out.seg (by omega)).mono ?_
          rintro e w21 ⟨v, rfl, o, b⟩
          replace SM := hid (SM.out.below b)
          replace OU := hid (OU.out.below b)
          replace Om := hid (Om.out.below b)
          replace On := hid (On.out.below b)
          replace OR := hid (OR.out.below b)
          replace OT := hid (OT.out.below b)
          replace OV := hid (OV.out.below b)
          replace OD := hid (OD.out.below b)
          replace BB := hid (BB.out.trans (b.mono BB.out.size))
          clear b
          obtain ⟨aE, cE, rfl, _⟩ := o.form
          have OE := hid o
          clear o
          generalize cofOk V = five at *
          generalize cofL V = VV at *
          clear OV SM
          have d1 : decide (Um = Um) = true := by simp
          have d2 : decide (PQ = PQ) = true := by simp
          have d3 : decide (VV = VV) = true := by simp
          have d4 : decide (U = U) = true := by simp
          go_wp2_with fail
          refine (c_sameCells am an Um Um cm cn w21 Om.out.seg On.out.seg (by omega) (by omega)).mono ?_
          rintro e w22 ⟨rfl, b⟩
          replace OU := hid (OU.out.below b)
          replace Om := hid (Om.out.below b)
          replace On := hid (On.out.below b)
          replace OR := hid (OR.out.below b)
          replace OT := hid (OT.out.below b)
          replace OD := hid (OD.out.below b)
          replace OE := hid (OE.out.below b)
          replace BB := hid (BB.out.trans (b.mono BB.out.size))
          clear b
          clear On
          go_wp2_with fail
          refine (c_sameCells aR aT PQ PQ cR cT w22 OR.out.seg OT.out.seg (by omega) (by omega)).mono ?_
          rintro e w23 ⟨rfl, b⟩
          replace OU := hid (OU.out.below b)
          replace Om := hid (Om.out.below b)
          replace OR := hid (OR.out.below b)
          replace OT := hid (OT.out.below b)
          replace OD := hid (OD.out.below b)
          replace OE := hid (OE.out.below b)
          replace BB := hid (BB.out.trans (b.mono BB.out.size))
          clear b
          clear OR OT
          go_wp2_with fail
          refine (c_sameCells aD aE VV VV cD cE w23 OD.out.seg OE.out.seg (by omega) (by omega)).mono ?_
          rintro e w24 ⟨rfl, b⟩
          replace OU := hid (OU.out.below b)
          replace Om := hid (Om.out.below b)
          replace OD := hid (OD.out.below b)
          replace OE := hid (OE.out.below b)
          replace BB := hid (BB.out.trans (b.mono BB.out.size))
          clear b
          clear OD OE
          cases one
          case false =>
            go_wp2
            go_ret
            exact ⟨rfl, BB.out⟩
          case true =>
            have M3' := M3.out (by first | rfl | trivial)
            have CC := hid (c_iMoveCells am Um cm (-x) (-y) w24 Om.out.seg (by omega))
            rw [M3'.1, M3'.2] at CC
            go_wp2_with fail
            refine CC.out.mono ?_
            rintro e w25 ⟨v, rfl, o, b⟩
            replace OU := hid (OU.out.below b)
            replace Om := hid (Om.out.below b)
            replace BB := hid (BB.out.trans (b.mono BB.out.size))
            clear b CC
            obtain ⟨aB, cB, rfl, _⟩ := o.form
            have OB := hid o
            clear o
            go_wp2_with fail
            refine (c_sameCells aB aU U U cB cU w25 OB.out.seg OU.out.seg (by omega) (by omega)).mono ?_
            rintro e w26 ⟨rfl, b⟩
            replace OU := hid (OU.out.below b)
            replace Om := hid (Om.out.below b)
            replace OB := hid (OB.out.below b)
            replace BB := hid (BB.out.trans (b.mono BB.out.size))
            clear b
            go_wp2
            go_ret
            exact ⟨rfl, BB.out⟩
        case true =>
          have M4 := M2'.out h3 h4
          rw [M4.1]
          have E := hid M4.2
          clear M4 h3 h4
          have d5 : decide (timesL (moveL L (n' % 7 - 3) 2) t = moveL (timesL L t) (n' % 7 - 3) 2) = true := by rw [E.out]; simp
          go_wp2_with fail
          refine (c_sameCells aQ aR (timesL (moveL L (n' % 7 - 3) 2) t) (moveL (timesL L t) (n' % 7 - 3) 2) cQ cR w12 Oq.out.seg Or.out.seg (by omega) (by omega)).mono ?_
          rintro e w13 ⟨rfl, b⟩
          replace SM := hid (SM.out.below b)
          replace OL := hid (OL.out.below b)
          replace Os := hid (Os.out.below b)
          replace Op := hid (Op.out.below b)
          replace Oq := hid (Oq.out.below b)
          replace Or := hid (Or.out.below b)
          replace BB := hid (BB.out.trans (b.mono BB.out.size))
          clear b
          go_wp2_with fail
          clear E d5
          clear OL Os Op Oq Or
          clear M2' hsl hml hmt hms d0 n0 n1 n0' n1' r0 r1 r2 q0 q1 q2 hkz hT
          go_wp2_with fail
          refine (c_DrawMoveCells a1 l1 c1 w13 SM.out (by omega)).mono ?_
          rintro e w14 ⟨v, U, x, y, rfl, o, hU, hsU, x0, x1, y0, y1, b⟩
          replace SM := hid (SM.out.below b)
          replace BB := hid (BB.out.trans (b.mono BB.out.size))
          clear b
          obtain ⟨aU, cU, rfl, _⟩ := o.form
          have OU := hid o
          clear o
          clear hsU
          have hmU := moveL_le U x y
          have M3 := hid (moved3 U x y)
          go_wp2_with fail
          refine (c_iMoveCells aU U cU x y w14 OU.out.seg (by omega)).mono ?_
          rintro e w15 ⟨v, rfl, o, b⟩
          replace SM := hid (SM.out.below b)
          replace OU := hid (OU.out.below b)
          replace BB := hid (BB.out.trans (b.mono BB.out.size))
          clear b
          obtain ⟨am, cm, rfl, _⟩ := o.form
          have Om := hid o
          clear o
          go_wp2_with fail
          refine (c_sMoveCells aU U cU x y w15 OU.out.seg (by omega)).mono ?_
          rintro e w16 ⟨v, rfl, o, b⟩
          replace SM := hid (SM.out.below b)
          replace OU := hid (OU.out.below b)
          replace Om := hid (Om.out.below b)
          replace BB := hid (BB.out.trans (b.mono BB.out.size))
          clear b
          obtain ⟨an, cn, rfl, _⟩ := o.form
          have On := hid o
          clear o
          generalize moveOk U x y = one at *
          generalize moveL U x y = Um at *
          go_wp2_with fail
          refine (c_DrawBothCells a1 l1 c1 w16 SM.out (by omega)).mono ?_
          rintro e w17 ⟨v, v', P, Q, rfl, o, hP, hsP, o', hQ, hsQ, b⟩
          replace SM := hid (SM.out.below b)
          replace OU := hid (OU.out.below b)
          replace Om := hid (Om.out.below b)
          replace On := hid (On.out.below b)
          replace BB := hid (BB.out.trans (b.mono BB.out.size))
          clear b
          obtain ⟨aP, cP, rfl, _⟩ := o.form
          have OP := hid o
          clear o
          obtain ⟨aQ, cQ, rfl, _⟩ := o'.form
          have OQ := hid o'
          clear o'
          clear hsP hsQ
          have hPQ := bothL_le P Q
          go_wp2_with fail
          refine (c_iBothCells aP aQ P Q cP cQ w17 OP.out.seg OQ.out.seg (by omega) (by omega)).mono ?_
          rintro e w18 ⟨v, rfl, o, b⟩
          replace SM := hid (SM.out.below b)
          replace OU := hid (OU.out.below b)
          replace Om := hid (Om.out.below b)
          replace On := hid (On.out.below b)
          replace OP := hid (OP.out.below b)
          replace OQ := hid (OQ.out.below b)
          replace BB := hid (BB.out.trans (b.mono BB.out.size))
          clear b
          obtain ⟨aR, cR, rfl, _⟩ := o.form
          have OR := hid o
          clear o
          go_wp2_with fail
          refine (c_sBothCells aP aQ P Q cP cQ w18 OP.out.sl OQ.out.seg (by omega) (by omega)).mono ?_
          rintro e w19 ⟨v, rfl, o, b⟩
          replace SM := hid (SM.out.below b)
          replace OU := hid (OU.out.below b)
          replace Om := hid (Om.out.below b)
          replace On := hid (On.out.below b)
          replace OP := hid (OP.out.below b)
          replace OQ := hid (OQ.out.below b)
          replace OR := hid (OR.out.below b)
          replace BB := hid (BB.out.trans (b.mono BB.out.size))
          clear b
          obtain ⟨aT, cT, rfl, _⟩ := o.form
          have OT := hid o
          clear o
          generalize bothOk P Q = three at *
          generalize bothL P Q = PQ at *
          clear OP OQ
          go_wp2_with fail
          refine (c_DrawCellsOf a1 l1 c1 w19 SM.out (by omega)).mono ?_
          rintro e w20 ⟨v, V, rfl, o, hV, hsV, b⟩
          replace SM := hid (SM.out.below b)
          replace OU := hid (OU.out.below b)
          replace Om := hid (Om.out.below b)
          replace On := hid (On.out.below b)
          replace OR := hid (OR.out.below b)
          replace OT := hid (OT.out.below b)
          replace BB := hid (BB.out.trans (b.mono BB.out.size))
          clear b
          obtain ⟨aV, cV, rfl, _⟩ := o.form
          have OV := hid o
          clear o
          have hfV := hid (small_fits hsV)
          clear hsV
          have hVV := cofL_le V
          go_wp2_with fail
          refine (c_iCellsOf aV V cV w20 OV.out.seg hfV.out (by omega)).mono ?_
          rintro e w21 ⟨v, rfl, o, b⟩
          replace SM := hid (SM.out.below b)
          replace OU := hid (OU.out.below b)
          replace Om := hid (Om.out.below b)
          replace On := hid (On.out.below b)
          replace OR := hid (OR.out.below b)
          replace OT := hid (OT.out.below b)
          replace OV := hid (OV.out.below b)
          replace BB := hid (BB.out.trans (b.mono BB.out.size))
          clear b
          obtain ⟨aD, cD, rfl, _⟩ := o.form
          have OD := hid o
          clear o
          go_wp2_with fail
          refine (c_sCellsOf aV V cV w21 OV.out.seg (by omega)).mono ?_
          rintro e w22 ⟨v, rfl, o, b⟩
          replace SM := hid (SM.out.below b)
          replace OU := hid (OU.out.below b)
          replace Om := hid (Om.out.below b)
          replace On := hid (On.out.below b)
          replace OR := hid (OR.out.below b)
          replace OT := hid (OT.out.below b)
          replace OV := hid (OV.out.below b)
          replace OD := hid (OD.out.below b)
          replace BB := hid (BB.out.trans (b.mono BB.out.size))
          clear b
          obtain ⟨aE, cE, rfl, _⟩ := o.form
          have OE := hid o
          clear o
          generalize cofOk V = five at *
          generalize cofL V = VV at *
          clear OV SM
          have d1 : decide (Um = Um) = true := by simp
          have d2 : decide (PQ = PQ) = true := by simp
          have d3 : decide (VV = VV) = true := by simp
          have d4 : decide (U = U) = true := by simp
          go_wp2_with fail
          refine (c_sameCells am an Um Um cm cn w22 Om.out.seg On.out.seg (by omega) (by omega)).mono ?_
          rintro e w23 ⟨rfl, b⟩
          replace OU := hid (OU.out.below b)
          replace Om := hid (Om.out.below b)
          replace On := hid (On.out.below b)
          replace OR := hid (OR.out.below b)
          replace OT := hid (OT.out.below b)
          replace OD := hid (OD.out.below b)
          replace OE := hid (OE.out.below b)
          replace BB := hid (BB.out.trans (b.mono BB.out.size))
          clear b
          clear On
          go_wp2_with fail
          refine (c_sameCells aR aT PQ PQ cR cT w23 OR.out.seg OT.out.seg (by omega) (by omega)).mono ?_
          rintro e w24 ⟨rfl, b⟩
          replace OU := hid (OU.out.below b)
          replace Om := hid (Om.out.below b)
          replace OR := hid (OR.out.below b)
          replace OT := hid (OT.out.below b)
          replace OD := hid (OD.out.below b)
          replace OE := hid (OE.out.below b)
          replace BB := hid (BB.out.trans (b.mono BB.out.size))
          clear b
          clear OR OT
          go_wp2_with fail
          refine (c_sameCells aD aE VV VV cD cE w24 OD.out.seg OE.out.seg (by omega) (by omega)).mono ?_
          rintro e w25 ⟨rfl, b⟩
          replace OU := hid (OU.out.below b)
          replace Om := hid (Om.out.below b)
          replace OD := hid (OD.out.below b)
          replace OE := hid (OE.out.below b)
          replace BB := hid (BB.out.trans (b.mono BB.out.size))
          clear b
          clear OD OE
          cases one
          case false =>
            go_wp2
            go_ret
            exact ⟨rfl, BB.out⟩
          case true =>
            have M3' := M3.out (by first | rfl | trivial)
            have CC := hid (c_iMoveCells am Um cm (-x) (-y) w25 Om.out.seg (by omega))
            rw [M3'.1, M3'.2] at CC
            go_wp2_with fail
            refine CC.out.mono ?_
            rintro e w26 ⟨v, rfl, o, b⟩
            replace OU := hid (OU.out.below b)
            replace Om := hid (Om.out.below b)
            replace BB := hid (BB.out.trans (b.mono BB.out.size))
            clear b CC
            obtain ⟨aB, cB, rfl, _⟩ := o.form
            have OB := hid o
            clear o
            go_wp2_with fail
            refine (c_sameCells aB aU U U cB cU w26 OB.out.seg OU.out.seg (by omega) (by omega)).mono ?_
            rintro e w27 ⟨rfl, b⟩
            replace OU := hid (OU.out.below b)
            replace Om := hid (Om.out.below b)
            replace OB := hid (OB.out.below b)
            replace BB := hid (BB.out.trans (b.mono BB.out.size))
            clear b
            go_wp2
            go_ret
            exact ⟨rfl, BB.out⟩
  · have hz : (1048576 : Int) < wrap64 ((l0.length : Int) + (l1.length : Int)) := by omega
    go_enter Try.func4, Try.ntmps4
    go_wp2
    go_ret
    exact ⟨rfl, Below.refl _ _⟩

set_option maxRecDepth 100000 in
theorem lifted (os : Os) (started : os.Started) (H : Type) (enc : TypeId × Value → H) :
    ReturnsInHanded {} Try.checked os 4 .any (Rows.fnMovedSpec.pre6 enc Try.prog Try.f4 Rows.fnMovedRow.domain false) (Rows.fnMovedSpec.post enc Try.prog Try.f4 false true false false) := by
  refine returnsInHanded_of_change (C := Try.checked) own started (by kernel_rfl) Try.func4
    (ChangeSpec.witness6 (enc := enc) (C := Try.checked) false ⟨#[], #[.slice none 0 0, .slice none 0 0], []⟩ 8 (by kernel_rfl) (by kernel_rfl) (by kernel_rfl) (by kernel_rfl)) ?_
  intro W base args ds gs before hval0 hW hcnd _
  have hval : ∀ (j : Nat) t v, Try.f4.params[j]? = some t → args[j]? = some v → Value.okWide Try.prog W .any base t v := hval0
  have hW' := hW
  obtain ⟨p, q, hA0, hV, rfl, hfz, hnd⟩ := hW
  have hA : DataW.TrodAll enc Try.prog W 0 (fun _ => true) true Try.f4.params.toList args.toList ds p := hA0
  rw [Try.params4] at hA hval
  obtain ⟨v0, vs0, d0, ds0, p0, q0, hargs, rfl, rfl, h0, r0⟩ := trodAll_cons hA
  obtain ⟨v1, vs1, d1, ds1, p1, q1, rfl, rfl, rfl, h1, r1⟩ := trodAll_cons r0
  obtain ⟨rfl, rfl, rfl⟩ := trodAll_nil r1
  obtain rfl : args = #[v0, v1] := by cases args; simp_all
  obtain ⟨rfl, rfl⟩ := trodVars_none hV
  have k0 := h0
  have lt0 : ∀ x ∈ p0, x.block < W.heap.size := by obtain ⟨m, hm⟩ := k0; exact DataW.trod_lt m _ _ _ hm
  obtain ⟨a0, len0, cap0, rfl⟩ := okWide_slice Try.underlying22 (hval 0 22 v0 rfl rfl)
  obtain ⟨l0, rfl, m0, s0⟩ : ∃ l : List Int, l.length = len0 ∧ l.length ≤ maxLen ∧ BSeg W a0 l := by
    obtain ⟨fuel, hf⟩ := h0
    exact open_bytes hf
  have k1 := h1
  have lt1 : ∀ x ∈ p1, x.block < W.heap.size := by obtain ⟨m, hm⟩ := k1; exact DataW.trod_lt m _ _ _ hm
  obtain ⟨a1, len1, cap1, rfl⟩ := okWide_slice Try.underlying22 (hval 1 22 v1 rfl rfl)
  obtain ⟨l1, rfl, m1, s1⟩ : ∃ l : List Int, l.length = len1 ∧ l.length ≤ maxLen ∧ BSeg W a1 l := by
    obtain ⟨fuel, hf⟩ := h1
    exact open_bytes hf
  clear hA0 hval0
  refine (walk a0 l0 cap0 a1 l1 cap1 W s0 m0 s1 m1).mono fun e W' ⟨he, bel⟩ => ?_
  subst he
  exact ⟨_, rfl, _, _, _, [], _, [], hW', trodAll_mk1 (shut_bool Try.underlying4 _), (trodAll_cons_mk (Below.trod laidOut (by kernel_rfl) (of_decide_eq_true (by kernel_rfl)) k0 bel lt0) (trodAll_cons_mk (Below.trod laidOut (by kernel_rfl) (of_decide_eq_true (by kernel_rfl)) k1 bel lt1) trodAll_mk0)), rfl, bel.frame _, fun h => by cases h⟩

theorem over : Rows.fnMovedRow.holds Try.pinned (OpenSpec.ofChange Rows.fnMovedSpec) :=
  OpenClaim.holds_of_wide 4 Try.f4 rfl rfl rfl rfl rfl rfl rfl ⟨rfl, rfl, rfl, rfl, rfl⟩ rfl rfl rfl rfl rfl (by kernel_rfl) Try.func4 (by kernel_rfl)
    (of_decide_eq_true (by kernel_rfl)) (by unfold Func.isWrapper; first | (rw [if_pos (by decide +kernel)]; kernel_rfl) | (rw [if_neg (by decide +kernel)]; exact ⟨rfl, rfl⟩))
    (fun os started H enc _ => lifted os started H enc)

end Go.Proofs.Ytkapdjlaebidnaa.lMoved
namespace Go.Proofs.Ytkapdjlaebidnaa
/-- THE STATEMENT. -/
theorem moved_holds : Rows.FnMovedSaid := lMoved.over
#print axioms moved_holds
end Go.Proofs.Ytkapdjlaebidnaa
