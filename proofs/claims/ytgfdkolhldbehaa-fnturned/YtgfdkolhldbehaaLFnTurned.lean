/- FnTurned answers true at every argument: cells turned about come to the same, turned about, and ways make a group, for drawn cells. No condition. (Written by wip/tools/mktur.py.) -/
import Derived.Test.YtgfdkolhldbehaaLq
import Derived.Test.YtgfdkolhldbehaaLj
namespace Go.Proofs.Ytgfdkolhldbehaa.lTurned
open Go.RowKit Go.ChangeShapes Go.WideShapes Go.ChangeAt
set_option linter.unusedVariables false
set_option linter.unusedSimpArgs false

set_option maxHeartbeats 16000000 in
set_option maxRecDepth 100000 in
theorem walk (a0 : Option Addr) (l0 : List Int) (c0 : Nat) (a1 : Option Addr) (l1 : List Int) (c1 : Nat) (w0 : World) (ha : BSeg w0 a0 l0) (hm0 : l0.length ≤ maxLen) (hb : BSeg w0 a1 l1) (hm1 : l1.length ≤ maxLen) :
    Calls Try.prog 4 #[.slice a0 l0.length c0, .slice a1 l1.length c1] w0 fun e w' => e = .returned (.bool true) ∧ Below w0.heap.size w0 w' := by
  unfold maxLen at hm0 hm1
  by_cases hl : wrap64 ((l0.length : Int) + (l1.length : Int)) ≤ 1048576
  · have SM := hid hb
    have BB := hid (Below.refl w0.heap.size w0)
    have HA := hid ha
    clear ha hb
    go_enter Try.func4, Try.ntmps4
    go_wp2_with fail
    refine (c_DrawTurnCells a0 l0 c0 w0 HA.out (by omega)).mono ?_
    rintro e w1 ⟨v, L, t, rfl, o, hL, hsL, t0, t1, b⟩
    replace SM := hid (SM.out.below b)
    replace BB := hid (BB.out.trans (b.mono BB.out.size))
    clear b
    obtain ⟨aL, cL, rfl, _⟩ := o.form
    have OL := hid o
    clear o
    clear hsL HA
    have F1 := hid (fun (h : turnOk L t = true) (h2 : stepOk L = true) => turned1 h h2)
    have F2 := hid (fun (a b : Int) (h : turnOk L t = true) (h2 : thenOk a b = true) => turned2 h h2)
    have F3 := hid (fun (d : Int) (h : turnOk L t = true) (h2 : inW d = true) => turned3 h h2)
    have hTl := turnL_le L t
    go_wp2_with fail
    refine (c_iTurnCells aL L cL t w1 OL.out.seg (by omega)).mono ?_
    rintro e w2 ⟨v, rfl, o, b⟩
    replace SM := hid (SM.out.below b)
    replace OL := hid (OL.out.below b)
    replace BB := hid (BB.out.trans (b.mono BB.out.size))
    clear b
    obtain ⟨aT, cT, rfl, _⟩ := o.form
    have OT := hid o
    clear o
    go_wp2_with fail
    refine (c_sTurnCells aL L cL t w2 OL.out.seg (by omega)).mono ?_
    rintro e w3 ⟨v, rfl, o, b⟩
    replace SM := hid (SM.out.below b)
    replace OL := hid (OL.out.below b)
    replace OT := hid (OT.out.below b)
    replace BB := hid (BB.out.trans (b.mono BB.out.size))
    clear b
    obtain ⟨aX, cX, rfl, _⟩ := o.form
    have OX := hid o
    clear o
    generalize turnOk L t = ok at *
    generalize turnL L t = T at *
    go_wp2_with fail
    have CC := hid (c_sameCells aT aX T T cT cX w3 OT.out.seg OX.out.seg (by omega) (by omega))
    rw [show decide (T = T) = true from by simp] at CC
    refine CC.out.mono ?_
    rintro e w4 ⟨rfl, b⟩
    replace SM := hid (SM.out.below b)
    replace OL := hid (OL.out.below b)
    replace OT := hid (OT.out.below b)
    replace OX := hid (OX.out.below b)
    replace BB := hid (BB.out.trans (b.mono BB.out.size))
    clear b CC
    clear OX
    go_wp2_with fail
    refine (c_DrawThenWay a1 l1 c1 w4 SM.out (by omega)).mono ?_
    rintro e w5 ⟨a, b', rfl, a0', a1', b0', b1', b⟩
    replace SM := hid (SM.out.below b)
    replace OL := hid (OL.out.below b)
    replace OT := hid (OT.out.below b)
    replace BB := hid (BB.out.trans (b.mono BB.out.size))
    clear b
    have CI := hid (fun W => c_iThenWay a b' W (by omega) (by omega))
    have CS := hid (fun W => c_sThenWay a b' W (by omega) (by omega))
    have G2 := hid (F2.out a b')
    clear F2
    have hVb : 0 ≤ thenV a b' ∧ thenV a b' < 8 := thenV_bd a b'
    generalize thenV a b' = th at *
    generalize thenOk a b' = one at *
    go_wp2_with fail
    refine (CI.out w5).mono ?_
    rintro e w6 ⟨rfl, b⟩
    replace SM := hid (SM.out.below b)
    replace OL := hid (OL.out.below b)
    replace OT := hid (OT.out.below b)
    replace BB := hid (BB.out.trans (b.mono BB.out.size))
    clear b
    clear CI
    go_wp2_with fail
    refine (CS.out w6).mono ?_
    rintro e w7 ⟨rfl, b⟩
    replace SM := hid (SM.out.below b)
    replace OL := hid (OL.out.below b)
    replace OT := hid (OT.out.below b)
    replace BB := hid (BB.out.trans (b.mono BB.out.size))
    clear b
    clear CS
    go_wp2_with fail
    refine (c_DrawBackWay a1 l1 c1 w7 SM.out (by omega)).mono ?_
    rintro e w8 ⟨d, rfl, d0, d1, b⟩
    replace SM := hid (SM.out.below b)
    replace OL := hid (OL.out.below b)
    replace OT := hid (OT.out.below b)
    replace BB := hid (BB.out.trans (b.mono BB.out.size))
    clear b
    clear SM
    have CI := hid (fun W => c_iBackWay d W (by omega))
    have CS := hid (fun W => c_sBackWay d W (by omega))
    have G3 := hid (F3.out d)
    clear F3
    have hKb : 0 ≤ backV d ∧ backV d < 9 := backV_bd d
    generalize backV d = bk at *
    generalize inW d = three at *
    go_wp2_with fail
    refine (CI.out w8).mono ?_
    rintro e w9 ⟨rfl, b⟩
    replace OL := hid (OL.out.below b)
    replace OT := hid (OT.out.below b)
    replace BB := hid (BB.out.trans (b.mono BB.out.size))
    clear b
    clear CI
    go_wp2_with fail
    refine (CS.out w9).mono ?_
    rintro e w10 ⟨rfl, b⟩
    replace OL := hid (OL.out.below b)
    replace OT := hid (OT.out.below b)
    replace BB := hid (BB.out.trans (b.mono BB.out.size))
    clear b
    clear CS
    have k1 : (one != one) = false := by simp
    have k2 : (th != th) = false := by simp
    have k3 : (three != three) = false := by simp
    have k4 : (bk != bk) = false := by simp
    cases ok
    case false =>
      go_wp2
      go_ret
      exact ⟨rfl, BB.out⟩
    case true =>
      have hSl := stepL_le L
      have hS2 := stepL_le T
      have hS3 := turnL_le (stepL L) t
      have F1' := hid (F1.out (by first | rfl | trivial))
      have G2' := hid (G2.out (by first | rfl | trivial))
      have G3' := hid (G3.out (by first | rfl | trivial))
      clear F1 G2 G3
      go_wp2_with fail
      refine (c_iStepCells aL L cL w10 OL.out.seg (by omega)).mono ?_
      rintro e w11 ⟨v, rfl, o, b⟩
      replace OL := hid (OL.out.below b)
      replace OT := hid (OT.out.below b)
      replace BB := hid (BB.out.trans (b.mono BB.out.size))
      clear b
      obtain ⟨aS, cS, rfl, _⟩ := o.form
      have OS := hid o
      clear o
      clear k1 k2 k3 k4
      go_wp2_with fail
      refine (c_iTurnCells aS (stepL L) cS t w11 OS.out.seg (by omega)).mono ?_
      rintro e w12 ⟨v, rfl, o, b⟩
      replace OL := hid (OL.out.below b)
      replace OT := hid (OT.out.below b)
      replace OS := hid (OS.out.below b)
      replace BB := hid (BB.out.trans (b.mono BB.out.size))
      clear b
      obtain ⟨aU, cU, rfl, _⟩ := o.form
      have OU := hid o
      clear o
      clear OS
      go_wp2_with fail
      refine (c_iStepCells aT T cT w12 OT.out.seg (by omega)).mono ?_
      rintro e w13 ⟨v, rfl, o, b⟩
      replace OL := hid (OL.out.below b)
      replace OT := hid (OT.out.below b)
      replace OU := hid (OU.out.below b)
      replace BB := hid (BB.out.trans (b.mono BB.out.size))
      clear b
      obtain ⟨aV, cV, rfl, _⟩ := o.form
      have OV := hid o
      clear o
      clear OT
      generalize stepOk T = seven at *
      generalize turnOk (stepL L) t = six at *
      generalize turnL (stepL L) t = X at *
      generalize stepL T = Y at *
      generalize stepOk L = five at *
      cases five
      case false =>
        clear OU OV
        clear F1' hSl hS2 hS3
        cases one
        case false =>
          clear G2'
          cases three
          case false =>
            go_wp2
            go_ret
            exact ⟨rfl, BB.out⟩
          case true =>
            have K := G3'.out (by first | rfl | trivial)
            have K1 := hid K.1
            have K2 := hid K.2.1
            have K3 := hid K.2.2
            clear K G3'
            have hPl := turnL_le L d
            go_wp2_with fail
            have CC := hid (c_iTurnCells aL L cL d w13 OL.out.seg (by omega))
            rw [K1.out] at CC
            refine CC.out.mono ?_
            rintro e w14 ⟨v, rfl, o, b⟩
            replace OL := hid (OL.out.below b)
            replace BB := hid (BB.out.trans (b.mono BB.out.size))
            clear b CC
            obtain ⟨aP, cP, rfl, _⟩ := o.form
            have OP := hid o
            clear o
            go_wp2_with fail
            have CC := hid (c_iTurnCells aP (turnL L d) cP bk w14 OP.out.seg (by omega))
            rw [K2.out, K3.out] at CC
            refine CC.out.mono ?_
            rintro e w15 ⟨v, rfl, o, b⟩
            replace OL := hid (OL.out.below b)
            replace OP := hid (OP.out.below b)
            replace BB := hid (BB.out.trans (b.mono BB.out.size))
            clear b CC
            obtain ⟨aQ, cQ, rfl, _⟩ := o.form
            have OQ := hid o
            clear o
            clear OP
            go_wp2_with fail
            have CC := hid (c_sameCells aQ aL L L cQ cL w15 OQ.out.seg OL.out.seg (by omega) (by omega))
            rw [show decide (L = L) = true from by simp] at CC
            refine CC.out.mono ?_
            rintro e w16 ⟨rfl, b⟩
            replace OL := hid (OL.out.below b)
            replace OQ := hid (OQ.out.below b)
            replace BB := hid (BB.out.trans (b.mono BB.out.size))
            clear b CC
            go_wp2
            go_ret
            exact ⟨rfl, BB.out⟩
        case true =>
          have K := G2'.out (by first | rfl | trivial)
          have K1 := hid K.1
          have K2 := hid K.2.1
          have K3 := hid K.2.2.1
          have K4 := hid K.2.2.2
          clear K G2'
          have hPl := turnL_le L a
          have hRl := turnL_le L th
          go_wp2_with fail
          have CC := hid (c_iTurnCells aL L cL a w13 OL.out.seg (by omega))
          rw [K1.out] at CC
          refine CC.out.mono ?_
          rintro e w14 ⟨v, rfl, o, b⟩
          replace OL := hid (OL.out.below b)
          replace BB := hid (BB.out.trans (b.mono BB.out.size))
          clear b CC
          obtain ⟨aP, cP, rfl, _⟩ := o.form
          have OP := hid o
          clear o
          go_wp2_with fail
          have CC := hid (c_iTurnCells aP (turnL L a) cP b' w14 OP.out.seg (by omega))
          rw [K2.out, K4.out] at CC
          refine CC.out.mono ?_
          rintro e w15 ⟨v, rfl, o, b⟩
          replace OL := hid (OL.out.below b)
          replace OP := hid (OP.out.below b)
          replace BB := hid (BB.out.trans (b.mono BB.out.size))
          clear b CC
          obtain ⟨aQ, cQ, rfl, _⟩ := o.form
          have OQ := hid o
          clear o
          clear OP
          go_wp2_with fail
          have CC := hid (c_iTurnCells aL L cL th w15 OL.out.seg (by omega))
          rw [K3.out] at CC
          refine CC.out.mono ?_
          rintro e w16 ⟨v, rfl, o, b⟩
          replace OL := hid (OL.out.below b)
          replace OQ := hid (OQ.out.below b)
          replace BB := hid (BB.out.trans (b.mono BB.out.size))
          clear b CC
          obtain ⟨aR, cR, rfl, _⟩ := o.form
          have OR := hid o
          clear o
          clear K1 K2 K3 K4
          generalize turnL L th = R at *
          go_wp2_with fail
          have CC := hid (c_sameCells aQ aR R R cQ cR w16 OQ.out.seg OR.out.seg (by omega) (by omega))
          rw [show decide (R = R) = true from by simp] at CC
          refine CC.out.mono ?_
          rintro e w17 ⟨rfl, b⟩
          replace OL := hid (OL.out.below b)
          replace OQ := hid (OQ.out.below b)
          replace OR := hid (OR.out.below b)
          replace BB := hid (BB.out.trans (b.mono BB.out.size))
          clear b CC
          clear OQ OR
          clear hPl hRl
          cases three
          case false =>
            go_wp2
            go_ret
            exact ⟨rfl, BB.out⟩
          case true =>
            have K := G3'.out (by first | rfl | trivial)
            have K1 := hid K.1
            have K2 := hid K.2.1
            have K3 := hid K.2.2
            clear K G3'
            have hPl := turnL_le L d
            go_wp2_with fail
            have CC := hid (c_iTurnCells aL L cL d w17 OL.out.seg (by omega))
            rw [K1.out] at CC
            refine CC.out.mono ?_
            rintro e w18 ⟨v, rfl, o, b⟩
            replace OL := hid (OL.out.below b)
            replace BB := hid (BB.out.trans (b.mono BB.out.size))
            clear b CC
            obtain ⟨aP, cP, rfl, _⟩ := o.form
            have OP := hid o
            clear o
            go_wp2_with fail
            have CC := hid (c_iTurnCells aP (turnL L d) cP bk w18 OP.out.seg (by omega))
            rw [K2.out, K3.out] at CC
            refine CC.out.mono ?_
            rintro e w19 ⟨v, rfl, o, b⟩
            replace OL := hid (OL.out.below b)
            replace OP := hid (OP.out.below b)
            replace BB := hid (BB.out.trans (b.mono BB.out.size))
            clear b CC
            obtain ⟨aQ, cQ, rfl, _⟩ := o.form
            have OQ := hid o
            clear o
            clear OP
            go_wp2_with fail
            have CC := hid (c_sameCells aQ aL L L cQ cL w19 OQ.out.seg OL.out.seg (by omega) (by omega))
            rw [show decide (L = L) = true from by simp] at CC
            refine CC.out.mono ?_
            rintro e w20 ⟨rfl, b⟩
            replace OL := hid (OL.out.below b)
            replace OQ := hid (OQ.out.below b)
            replace BB := hid (BB.out.trans (b.mono BB.out.size))
            clear b CC
            go_wp2
            go_ret
            exact ⟨rfl, BB.out⟩
      case true =>
        have K := F1'.out (by first | rfl | trivial)
        obtain ⟨rfl, rfl, rfl⟩ := K
        clear F1'
        go_wp2_with fail
        have CC := hid (c_sameCells aU aV X X cU cV w13 OU.out.seg OV.out.seg (by omega) (by omega))
        rw [show decide (X = X) = true from by simp] at CC
        refine CC.out.mono ?_
        rintro e w14 ⟨rfl, b⟩
        replace OL := hid (OL.out.below b)
        replace OU := hid (OU.out.below b)
        replace OV := hid (OV.out.below b)
        replace BB := hid (BB.out.trans (b.mono BB.out.size))
        clear b CC
        clear OU OV
        clear hSl hS2 hS3
        cases one
        case false =>
          clear G2'
          cases three
          case false =>
            go_wp2
            go_ret
            exact ⟨rfl, BB.out⟩
          case true =>
            have K := G3'.out (by first | rfl | trivial)
            have K1 := hid K.1
            have K2 := hid K.2.1
            have K3 := hid K.2.2
            clear K G3'
            have hPl := turnL_le L d
            go_wp2_with fail
            have CC := hid (c_iTurnCells aL L cL d w14 OL.out.seg (by omega))
            rw [K1.out] at CC
            refine CC.out.mono ?_
            rintro e w15 ⟨v, rfl, o, b⟩
            replace OL := hid (OL.out.below b)
            replace BB := hid (BB.out.trans (b.mono BB.out.size))
            clear b CC
            obtain ⟨aP, cP, rfl, _⟩ := o.form
            have OP := hid o
            clear o
            go_wp2_with fail
            have CC := hid (c_iTurnCells aP (turnL L d) cP bk w15 OP.out.seg (by omega))
            rw [K2.out, K3.out] at CC
            refine CC.out.mono ?_
            rintro e w16 ⟨v, rfl, o, b⟩
            replace OL := hid (OL.out.below b)
            replace OP := hid (OP.out.below b)
            replace BB := hid (BB.out.trans (b.mono BB.out.size))
            clear b CC
            obtain ⟨aQ, cQ, rfl, _⟩ := o.form
            have OQ := hid o
            clear o
            clear OP
            go_wp2_with fail
            have CC := hid (c_sameCells aQ aL L L cQ cL w16 OQ.out.seg OL.out.seg (by omega) (by omega))
            rw [show decide (L = L) = true from by simp] at CC
            refine CC.out.mono ?_
            rintro e w17 ⟨rfl, b⟩
            replace OL := hid (OL.out.below b)
            replace OQ := hid (OQ.out.below b)
            replace BB := hid (BB.out.trans (b.mono BB.out.size))
            clear b CC
            go_wp2
            go_ret
            exact ⟨rfl, BB.out⟩
        case true =>
          have K := G2'.out (by first | rfl | trivial)
          have K1 := hid K.1
          have K2 := hid K.2.1
          have K3 := hid K.2.2.1
          have K4 := hid K.2.2.2
          clear K G2'
          have hPl := turnL_le L a
          have hRl := turnL_le L th
          go_wp2_with fail
          have CC := hid (c_iTurnCells aL L cL a w14 OL.out.seg (by omega))
          rw [K1.out] at CC
          refine CC.out.mono ?_
          rintro e w15 ⟨v, rfl, o, b⟩
          replace OL := hid (OL.out.below b)
          replace BB := hid (BB.out.trans (b.mono BB.out.size))
          clear b CC
          obtain ⟨aP, cP, rfl, _⟩ := o.form
          have OP := hid o
          clear o
          go_wp2_with fail
          have CC := hid (c_iTurnCells aP (turnL L a) cP b' w15 OP.out.seg (by omega))
          rw [K2.out, K4.out] at CC
          refine CC.out.mono ?_
          rintro e w16 ⟨v, rfl, o, b⟩
          replace OL := hid (OL.out.below b)
          replace OP := hid (OP.out.below b)
          replace BB := hid (BB.out.trans (b.mono BB.out.size))
          clear b CC
          obtain ⟨aQ, cQ, rfl, _⟩ := o.form
          have OQ := hid o
          clear o
          clear OP
          go_wp2_with fail
          have CC := hid (c_iTurnCells aL L cL th w16 OL.out.seg (by omega))
          rw [K3.out] at CC
          refine CC.out.mono ?_
          rintro e w17 ⟨v, rfl, o, b⟩
          replace OL := hid (OL.out.below b)
          replace OQ := hid (OQ.out.below b)
          replace BB := hid (BB.out.trans (b.mono BB.out.size))
          clear b CC
          obtain ⟨aR, cR, rfl, _⟩ := o.form
          have OR := hid o
          clear o
          clear K1 K2 K3 K4
          generalize turnL L th = R at *
          go_wp2_with fail
          have CC := hid (c_sameCells aQ aR R R cQ cR w17 OQ.out.seg OR.out.seg (by omega) (by omega))
          rw [show decide (R = R) = true from by simp] at CC
          refine CC.out.mono ?_
          rintro e w18 ⟨rfl, b⟩
          replace OL := hid (OL.out.below b)
          replace OQ := hid (OQ.out.below b)
          replace OR := hid (OR.out.below b)
          replace BB := hid (BB.out.trans (b.mono BB.out.size))
          clear b CC
          clear OQ OR
          clear hPl hRl
          cases three
          case false =>
            go_wp2
            go_ret
            exact ⟨rfl, BB.out⟩
          case true =>
            have K := G3'.out (by first | rfl | trivial)
            have K1 := hid K.1
            have K2 := hid K.2.1
            have K3 := hid K.2.2
            clear K G3'
            have hPl := turnL_le L d
            go_wp2_with fail
            have CC := hid (c_iTurnCells aL L cL d w18 OL.out.seg (by omega))
            rw [K1.out] at CC
            refine CC.out.mono ?_
            rintro e w19 ⟨v, rfl, o, b⟩
            replace OL := hid (OL.out.below b)
            replace BB := hid (BB.out.trans (b.mono BB.out.size))
            clear b CC
            obtain ⟨aP, cP, rfl, _⟩ := o.form
            have OP := hid o
            clear o
            go_wp2_with fail
            have CC := hid (c_iTurnCells aP (turnL L d) cP bk w19 OP.out.seg (by omega))
            rw [K2.out, K3.out] at CC
            refine CC.out.mono ?_
            rintro e w20 ⟨v, rfl, o, b⟩
            replace OL := hid (OL.out.below b)
            replace OP := hid (OP.out.below b)
            replace BB := hid (BB.out.trans (b.mono BB.out.size))
            clear b CC
            obtain ⟨aQ, cQ, rfl, _⟩ := o.form
            have OQ := hid o
            clear o
            clear OP
            go_wp2_with fail
            have CC := hid (c_sameCells aQ aL L L cQ cL w20 OQ.out.seg OL.out.seg (by omega) (by omega))
            rw [show decide (L = L) = true from by simp] at CC
            refine CC.out.mono ?_
            rintro e w21 ⟨rfl, b⟩
            replace OL := hid (OL.out.below b)
            replace OQ := hid (OQ.out.below b)
            replace BB := hid (BB.out.trans (b.mono BB.out.size))
            clear b CC
            go_wp2
            go_ret
            exact ⟨rfl, BB.out⟩
  · have hz : (1048576 : Int) < wrap64 ((l0.length : Int) + (l1.length : Int)) := by omega
    go_enter Try.func4, Try.ntmps4
    go_wp2
    go_ret
    exact ⟨rfl, Below.refl _ _⟩

set_option maxRecDepth 100000 in
theorem lifted (os : Os) (started : os.Started) (H : Type) (enc : TypeId × Value → H) :
    ReturnsInHanded {} Try.checked os 4 .any (Rows.fnTurnedSpec.pre6 enc Try.prog Try.f4 Rows.fnTurnedRow.domain false) (Rows.fnTurnedSpec.post enc Try.prog Try.f4 false true false false) := by
  refine returnsInHanded_of_change (C := Try.checked) own started (by kernel_rfl) Try.func4
    (ChangeSpec.witness6 (enc := enc) (C := Try.checked) false ⟨#[], #[.slice none 0 0, .slice none 0 0], []⟩ 8 (by kernel_rfl) (by kernel_rfl) (by kernel_rfl) (by kernel_rfl)) ?_
  intro W base args ds gs before hval0 hW hcnd _
  have hval : ∀ (j : Nat) t v, Try.f4.params[j]? = some t → args[j]? = some v → Value.okWide Try.prog W .any base t v := hval0
  have hW' := hW
  obtain ⟨p, q, hA0, hV, rfl, hfz, hnd⟩ := hW
  have hA : DataW.TrodAll enc Try.prog W 0 (fun _ => true) true Try.f4.params.toList args.toList ds p := hA0
  rw [Try.params4] at hA hval
  obtain ⟨v0, vs0, d0, ds0, p0, q0, hargs, rfl, rfl, h0, r0⟩ := trodAll_cons hA
  obtain ⟨v1, vs1, d1, ds1, p1, q1, rfl, rfl, rfl, h1, r1⟩ := trodAll_cons r0
  obtain ⟨rfl, rfl, rfl⟩ := trodAll_nil r1
  obtain rfl : args = #[v0, v1] := by cases args; simp_all
  obtain ⟨rfl, rfl⟩ := trodVars_none hV
  have k0 := h0
  have lt0 : ∀ x ∈ p0, x.block < W.heap.size := by obtain ⟨m, hm⟩ := k0; exact DataW.trod_lt m _ _ _ hm
  obtain ⟨a0, len0, cap0, rfl⟩ := okWide_slice Try.underlying22 (hval 0 22 v0 rfl rfl)
  obtain ⟨l0, rfl, m0, s0⟩ : ∃ l : List Int, l.length = len0 ∧ l.length ≤ maxLen ∧ BSeg W a0 l := by
    obtain ⟨fuel, hf⟩ := h0
    exact open_bytes hf
  have k1 := h1
  have lt1 : ∀ x ∈ p1, x.block < W.heap.size := by obtain ⟨m, hm⟩ := k1; exact DataW.trod_lt m _ _ _ hm
  obtain ⟨a1, len1, cap1, rfl⟩ := okWide_slice Try.underlying22 (hval 1 22 v1 rfl rfl)
  obtain ⟨l1, rfl, m1, s1⟩ : ∃ l : List Int, l.length = len1 ∧ l.length ≤ maxLen ∧ BSeg W a1 l := by
    obtain ⟨fuel, hf⟩ := h1
    exact open_bytes hf
  clear hA0 hval0
  refine (walk a0 l0 cap0 a1 l1 cap1 W s0 m0 s1 m1).mono fun e W' ⟨he, bel⟩ => ?_
  subst he
  exact ⟨_, rfl, _, _, _, [], _, [], hW', trodAll_mk1 (shut_bool Try.underlying4 _), (trodAll_cons_mk (Below.trod laidOut (by kernel_rfl) (of_decide_eq_true (by kernel_rfl)) k0 bel lt0) (trodAll_cons_mk (Below.trod laidOut (by kernel_rfl) (of_decide_eq_true (by kernel_rfl)) k1 bel lt1) trodAll_mk0)), rfl, bel.frame _, fun h => by cases h⟩

theorem over : Rows.fnTurnedRow.holds Try.pinned (OpenSpec.ofChange Rows.fnTurnedSpec) :=
  OpenClaim.holds_of_wide 4 Try.f4 rfl rfl rfl rfl rfl rfl rfl ⟨rfl, rfl, rfl, rfl, rfl⟩ rfl rfl rfl rfl rfl (by kernel_rfl) Try.func4 (by kernel_rfl)
    (of_decide_eq_true (by kernel_rfl)) (by unfold Func.isWrapper; first | (rw [if_pos (by decide +kernel)]; kernel_rfl) | (rw [if_neg (by decide +kernel)]; exact ⟨rfl, rfl⟩))
    (fun os started H enc _ => lifted os started H enc)

end Go.Proofs.Ytgfdkolhldbehaa.lTurned
namespace Go.Proofs.Ytgfdkolhldbehaa
/-- THE STATEMENT. -/
theorem fnTurned_holds : Rows.FnTurnedSaid := lTurned.over
#print axioms fnTurned_holds
end Go.Proofs.Ytgfdkolhldbehaa
