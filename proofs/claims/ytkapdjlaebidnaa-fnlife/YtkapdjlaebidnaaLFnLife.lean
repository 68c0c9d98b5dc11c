/- FnLife answers true at every argument: a cell is alive just where three are near, or two and it was, and none is born further off than one, for drawn cells. No condition. (Written by wip/tools/mklife.py.) -/
import Derived.Test.YtkapdjlaebidnaaLife
namespace Go.Proofs.Ytkapdjlaebidnaa.lLife
open Go.RowKit Go.ChangeShapes Go.WideShapes Go.ChangeAt
set_option linter.unusedVariables false

set_option maxHeartbeats 4000000 in
set_option maxRecDepth 100000 in
theorem walk (a0 : Option Addr) (l0 : List Int) (c0 : Nat) (a1 : Option Addr) (l1 : List Int) (c1 : Nat) (w0 : World) (ha : BSeg w0 a0 l0) (hm0 : l0.length ≤ maxLen) (hb : BSeg w0 a1 l1) (hm1 : l1.length ≤ maxLen) :
    Calls Try.prog 3 #[.slice a0 l0.length c0, .slice a1 l1.length c1] w0 fun e w' => e = .returned (.bool true) ∧ Below w0.heap.size w0 w' := by
  unfold maxLen at hm0 hm1
  by_cases hl : wrap64 ((l0.length : Int) + (l1.length : Int)) ≤ 1048576
  · have SM := hid hb
    have BB := hid (Below.refl w0.heap.size w0)
    have HA := hid ha
    clear ha hb
    go_enter Try.func3, Try.ntmps3
    go_wp2_with fail
    refine (c_DrawStepCells a0 l0 c0 w0 HA.out (by omega)).mono ?_
    rintro e w1 ⟨v, L, rfl, o, hL, hsL, b⟩
    replace SM := hid (SM.out.below b)
    replace BB := hid (BB.out.trans (b.mono BB.out.size))
    clear b
    obtain ⟨aL, cL, rfl, _⟩ := o.form
    have OL := hid o
    clear o
    clear hsL HA
    have hsl := stepL_le L
    go_wp2_with fail
    refine (c_iStepCells aL L cL w1 OL.out.seg (by omega)).mono ?_
    rintro e w2 ⟨v, rfl, o, b⟩
    replace SM := hid (SM.out.below b)
    replace OL := hid (OL.out.below b)
    replace BB := hid (BB.out.trans (b.mono BB.out.size))
    clear b
    obtain ⟨aS, cS, rfl, _⟩ := o.form
    have Os := hid o
    clear o
    go_wp2_with fail
    refine (c_sStepCells aL L cL w2 OL.out.seg (by omega)).mono ?_
    rintro e w3 ⟨v, rfl, o, b⟩
    replace SM := hid (SM.out.below b)
    replace OL := hid (OL.out.below b)
    replace Os := hid (Os.out.below b)
    replace BB := hid (BB.out.trans (b.mono BB.out.size))
    clear b
    obtain ⟨aX, cX, rfl, _⟩ := o.form
    have Ox := hid o
    clear o
    have d0 : decide (stepL L = stepL L) = true := by simp
    go_wp2_with fail
    refine (c_sameCells aS aX (stepL L) (stepL L) cS cX w3 Os.out.seg Ox.out.seg (by omega) (by omega)).mono ?_
    rintro e w4 ⟨rfl, b⟩
    replace SM := hid (SM.out.below b)
    replace OL := hid (OL.out.below b)
    replace Os := hid (Os.out.below b)
    replace Ox := hid (Ox.out.below b)
    replace BB := hid (BB.out.trans (b.mono BB.out.size))
    clear b
    clear Ox
    go_wp2_with fail
    refine (c_iGood aL L cL w4 OL.out.seg (by omega)).mono ?_
    rintro e w5 ⟨rfl, b⟩
    replace SM := hid (SM.out.below b)
    replace OL := hid (OL.out.below b)
    replace Os := hid (Os.out.below b)
    replace BB := hid (BB.out.trans (b.mono BB.out.size))
    clear b
    go_wp2_with fail
    refine (c_sGood aL L cL w5 OL.out.seg (by omega)).mono ?_
    rintro e w6 ⟨rfl, b⟩
    replace SM := hid (SM.out.below b)
    replace OL := hid (OL.out.below b)
    replace Os := hid (Os.out.below b)
    replace BB := hid (BB.out.trans (b.mono BB.out.size))
    clear b
    cases hok : stepOk L
    case false =>
      clear hok
      clear OL Os
      clear hsl d0
      go_wp2_with fail
      refine (c_DrawNearOf a1 l1 c1 w6 SM.out (by omega)).mono ?_
      rintro e w7 ⟨v, U, c, rfl, o, hU, hsU, b⟩
      replace SM := hid (SM.out.below b)
      replace BB := hid (BB.out.trans (b.mono BB.out.size))
      clear b
      obtain ⟨aU, cU, rfl, _⟩ := o.form
      have OU := hid o
      clear o
      clear hsU
      have TN := hid (BoxAt.new w7 c)
      have b := (Below.refl w7.heap.size w7).alloc (Nat.le_refl _) (.cells #[.int .i64 c.1, .int .i64 c.2] 30)
      replace SM := hid (SM.out.below b)
      replace OU := hid (OU.out.below b)
      replace BB := hid (BB.out.trans (b.mono BB.out.size))
      clear b
      go_wp2_with fail
      generalize w7.alloc (.cells #[.int .i64 c.1, .int .i64 c.2] 30) = w8 at *
      have XC := hid TN.out
      clear TN
      generalize w7.heap.size = pc at *
      refine (c_iNearOf aU U cU c w8 OU.out.seg (by omega)).mono ?_
      rintro e w9 ⟨rfl, b⟩
      replace SM := hid (SM.out.below b)
      replace OU := hid (OU.out.below b)
      replace XC := hid (XC.out.bel b)
      replace BB := hid (BB.out.trans (b.mono BB.out.size))
      clear b
      obtain ⟨f0, g0, _, _, k0⟩ := XC.out
      go_wp2_with fail
      refine (c_sNearOf aU U cU c w9 OU.out.seg (by omega)).mono ?_
      rintro e w10 ⟨rfl, b⟩
      replace SM := hid (SM.out.below b)
      replace OU := hid (OU.out.below b)
      replace XC := hid (XC.out.bel b)
      replace BB := hid (BB.out.trans (b.mono BB.out.size))
      clear f0 g0 k0
      clear b
      generalize (nearV U c).1 = nn at *
      generalize (nearV U c).2 = one at *
      obtain ⟨f0, g0, _, _, k0⟩ := XC.out
      go_wp2_with fail
      refine (c_iIsAlive aU U cU c w10 OU.out.seg (by omega)).mono ?_
      rintro e w11 ⟨rfl, b⟩
      replace SM := hid (SM.out.below b)
      replace OU := hid (OU.out.below b)
      replace XC := hid (XC.out.bel b)
      replace BB := hid (BB.out.trans (b.mono BB.out.size))
      clear f0 g0 k0
      clear b
      obtain ⟨f0, g0, _, _, k0⟩ := XC.out
      go_wp2_with fail
      refine (c_sIsAlive aU U cU c w11 OU.out.seg (by omega)).mono ?_
      rintro e w12 ⟨rfl, b⟩
      replace SM := hid (SM.out.below b)
      replace OU := hid (OU.out.below b)
      replace XC := hid (XC.out.bel b)
      replace BB := hid (BB.out.trans (b.mono BB.out.size))
      clear f0 g0 k0
      clear b
      clear OU XC
      generalize (aliveV U c).1 = al at *
      generalize (aliveV U c).2 = four at *
      go_wp2_with fail
      refine (c_DrawBoxOf a1 l1 c1 w12 SM.out (by omega)).mono ?_
      rintro e w13 ⟨v, V, rfl, o, hV, hsV, b⟩
      replace SM := hid (SM.out.below b)
      replace BB := hid (BB.out.trans (b.mono BB.out.size))
      clear b
      obtain ⟨aV, cV, rfl, _⟩ := o.form
      have OV := hid o
      clear o
      clear hsV
      clear SM
      have CS := hid (fun (W : World) (h : Seg W aV V) => c_sBoxOf aV V cV W h (by omega))
      go_wp2_with fail
      refine (c_iBoxOf aV V cV w13 OV.out.seg (by omega)).mono ?_
      rintro e w14 ⟨rfl, b⟩
      replace OV := hid (OV.out.below b)
      replace BB := hid (BB.out.trans (b.mono BB.out.size))
      clear b
      generalize boxLo V = lo at *
      generalize boxHi V = hi at *
      generalize boxOk V = five at *
      have TN := hid (two_new w14 lo hi)
      go_wp2_with fail
      generalize (w14.alloc (.cells #[.int .i64 lo.1, .int .i64 lo.2] 30)).alloc (.cells #[.int .i64 hi.1, .int .i64 hi.2] 30) = w15 at *
      have b := TN.out.2.2
      replace OV := hid (OV.out.below b)
      replace BB := hid (BB.out.trans (b.mono BB.out.size))
      have XA := hid TN.out.1
      have XB := hid TN.out.2.1
      clear b TN
      generalize w14.heap.size + 1 = pb at *
      generalize w14.heap.size = pa at *
      refine (CS.out w15 OV.out.seg).mono ?_
      rintro e w16 ⟨rfl, b⟩
      replace OV := hid (OV.out.below b)
      replace XA := hid (XA.out.bel b)
      replace XB := hid (XB.out.bel b)
      replace BB := hid (BB.out.trans (b.mono BB.out.size))
      clear b
      clear OV
      clear CS
      obtain ⟨f0, g0, _, _, k0⟩ := XA.out
      obtain ⟨f1, g1, _, _, k1⟩ := XB.out
      have TN := hid (two_new w16 lo hi)
      go_wp2
      go_ret
      first | exact ⟨rfl, BB.out.trans (TN.out.2.2.mono BB.out.size)⟩ | exact ⟨ret_bool (by simp), BB.out.trans (TN.out.2.2.mono BB.out.size)⟩
    case true =>
      have HN := hid (life_next hok)
      have HX := hid (life_box hok)
      clear hok d0
      have HO := hid OL.out.seg
      have HP := hid Os.out.seg
      go_wp2
      go_loopw [10] (fun yv wr => ∃ i : Nat, i ≤ 15 ∧ yv = .int .i64 (-7 + (i : Int)) ∧ Hid (Below w6.heap.size w6 wr)) (fun yv _ => 15 - (intOf yv + 7).toNat)
      case atStart => exact ⟨0, by omega, rfl, Below.refl _ _⟩
      case round =>
        obtain ⟨i, hi, rfl, HB⟩ := hrel
        by_cases hit : i < 15
        · have d1 : -7 + (i : Int) ≤ 7 := by omega
          have d0 : -7 ≤ -7 + (i : Int) := by omega
          rename World => wo
          go_wp2
          go_loopw [11] (fun xv wr => ∃ j : Nat, j ≤ 15 ∧ xv = .int .i64 (-7 + (j : Int)) ∧ Hid (Below w6.heap.size w6 wr)) (fun xv _ => 15 - (intOf xv + 7).toNat)
          case atStart => exact ⟨0, by omega, rfl, HB.out⟩
          case round =>
            clear HB
            obtain ⟨j, hj, rfl, HB⟩ := hrel
            by_cases hjt : j < 15
            · have e1 : -7 + (j : Int) ≤ 7 := by omega
              have e0 : -7 ≤ -7 + (j : Int) := by omega
              have K := HN.out (-7 + (j : Int), -7 + (i : Int)) (by simp [inR]; omega)
              have K1 := hid K.1
              have K2 := hid K.2.1
              have K3 := hid K.2.2
              clear K
              have XN := hid (BoxAt.new wr (-7 + (j : Int), -7 + (i : Int)))
              have HB1 := hid (HB.out.alloc HB.out.size (.cells #[.int .i64 (-7 + (j : Int)), .int .i64 (-7 + (i : Int))] 30))
              have CC := hid (c_iNearOf aL L cL (-7 + (j : Int), -7 + (i : Int)) _ (HO.out.below HB1.out) (by omega))
              rw [K1.out] at CC
              go_wp2_with fail
              refine CC.out.mono ?_
              rintro e z1 ⟨rfl, b⟩
              replace XN := hid (XN.out.bel b)
              replace HB1 := hid (HB1.out.trans (b.mono HB1.out.size))
              clear b CC
              have hsz : wr.heap.size < z1.heap.size := XN.out.2.2.2.2
              generalize wr.heap.size = pw at *
              obtain ⟨f0, g0, _, _, k0⟩ := XN.out
              have CC := hid (c_iIsAlive aL L cL (-7 + (j : Int), -7 + (i : Int)) z1 (HO.out.below HB1.out) (by omega))
              rw [K2.out] at CC
              go_wp2_with fail
              refine CC.out.mono ?_
              rintro e z2 ⟨rfl, b⟩
              replace XN := hid (XN.out.bel b)
              replace HB1 := hid (HB1.out.trans (b.mono HB1.out.size))
              clear b CC f0 g0 k0 hsz
              obtain ⟨f0, g0, _, _, k0⟩ := XN.out
              have CC := hid (c_iIsAlive aS (stepL L) cS (-7 + (j : Int), -7 + (i : Int)) z2 (HP.out.below HB1.out) (by omega))
              rw [K3.out] at CC
              go_wp2_with fail
              refine CC.out.mono ?_
              rintro e z3 ⟨rfl, b⟩
              replace HB1 := hid (HB1.out.trans (b.mono HB1.out.size))
              clear b CC f0 g0 k0 K1 K2 K3 XN
              generalize (((near L (-7 + (j : Int), -7 + (i : Int)) : Nat)) : Int) = nn at *
              generalize decide ((-7 + (j : Int), -7 + (i : Int)) ∈ L) = al at *
              by_cases h3 : nn = 3
              · subst h3
                go_wp2
                go_roundw
                case rel => exact ⟨j + 1, by omega, by go_num, HB1.out⟩
                case measure => simp [intOf]; omega
              · by_cases h2 : nn = 2
                · subst h2
                  cases al
                  case false =>
                    go_wp2
                    go_roundw
                    case rel => exact ⟨j + 1, by omega, by go_num, HB1.out⟩
                    case measure => simp [intOf]; omega
                  case true =>
                    go_wp2
                    go_roundw
                    case rel => exact ⟨j + 1, by omega, by go_num, HB1.out⟩
                    case measure => simp [intOf]; omega
                · have t3 : (nn == 3) = false := beq_eq_false_iff_ne.2 h3
                  have t2 : (nn == 2) = false := beq_eq_false_iff_ne.2 h2
                  have s3 : decide (nn = 3) = false := by simpa using h3
                  have s2 : decide (nn = 2) = false := by simpa using h2
                  rw [s3, s2]
                  go_wp2
                  go_roundw
                  case rel => exact ⟨j + 1, by omega, by go_num, HB1.out⟩
                  case measure => simp [intOf]; omega
            · go_wp2
              go_roundw
              case rel => exact ⟨i + 1, by omega, by go_num, HB.out⟩
              case measure => simp [intOf]; omega
        · clear HO HP HN
          have b := HB.out
          replace SM := hid (SM.out.below b)
          replace OL := hid (OL.out.below b)
          replace Os := hid (Os.out.below b)
          replace BB := hid (BB.out.trans (b.mono BB.out.size))
          clear b HB
          have zL := box_bd L
          have zS := box_bd (stepL L)
          have CS := hid (fun (W : World) (h : Seg W aS (stepL L)) => c_iBoxOf aS (stepL L) cS W h (by omega))
          cases hbs : boxOk (stepL L)
          case false =>
            clear HX
            have CC := hid (c_iBoxOf aL L cL wr OL.out.seg (by omega))
            skip
            go_wp2_with fail
            refine CC.out.mono ?_
            rintro e w8 ⟨rfl, b⟩
            replace SM := hid (SM.out.below b)
            replace OL := hid (OL.out.below b)
            replace Os := hid (Os.out.below b)
            replace BB := hid (BB.out.trans (b.mono BB.out.size))
            clear b CC
            rw [hbs] at CS
            clear hbs
            generalize boxLo L = lo at *
            generalize boxHi L = hi at *
            generalize boxOk L = bo at *
            generalize boxLo (stepL L) = lo' at *
            generalize boxHi (stepL L) = hi' at *
            have TN := hid (two_new w8 lo hi)
            go_wp2_with fail
            generalize (w8.alloc (.cells #[.int .i64 lo.1, .int .i64 lo.2] 30)).alloc (.cells #[.int .i64 hi.1, .int .i64 hi.2] 30) = w9 at *
            have b := TN.out.2.2
            replace SM := hid (SM.out.below b)
            replace OL := hid (OL.out.below b)
            replace Os := hid (Os.out.below b)
            replace BB := hid (BB.out.trans (b.mono BB.out.size))
            have XA := hid TN.out.1
            have XB := hid TN.out.2.1
            clear b TN
            generalize w8.heap.size + 1 = pb at *
            generalize w8.heap.size = pa at *
            refine (CS.out w9 Os.out.seg).mono ?_
            rintro e w10 ⟨rfl, b⟩
            replace SM := hid (SM.out.below b)
            replace OL := hid (OL.out.below b)
            replace Os := hid (Os.out.below b)
            replace XA := hid (XA.out.bel b)
            replace XB := hid (XB.out.bel b)
            replace BB := hid (BB.out.trans (b.mono BB.out.size))
            clear b
            clear OL Os
            clear CS
            obtain ⟨f0, g0, _, _, k0⟩ := XA.out
            obtain ⟨f1, g1, _, _, k1⟩ := XB.out
            have TN := hid (two_new w10 lo' hi')
            have b := TN.out.2.2
            replace SM := hid (SM.out.below b)
            replace BB := hid (BB.out.trans (b.mono BB.out.size))
            clear b TN
            go_wp2_with fail
            clear f0 g0 k0 f1 g1 k1
            clear XA XB
            generalize (w10.alloc (.cells #[.int .i64 lo'.1, .int .i64 lo'.2] 30)).alloc (.cells #[.int .i64 hi'.1, .int .i64 hi'.2] 30) = w11 at *
            clear zL zS hsl
            refine (c_DrawNearOf a1 l1 c1 w11 SM.out (by omega)).mono ?_
            rintro e w12 ⟨v, U, c, rfl, o, hU, hsU, b⟩
            replace SM := hid (SM.out.below b)
            replace BB := hid (BB.out.trans (b.mono BB.out.size))
            clear b
            obtain ⟨aU, cU, rfl, _⟩ := o.form
            have OU := hid o
            clear o
            clear hsU
            have TN := hid (BoxAt.new w12 c)
            have b := (Below.refl w12.heap.size w12).alloc (Nat.le_refl _) (.cells #[.int .i64 c.1, .int .i64 c.2] 30)
            replace SM := hid (SM.out.below b)
            replace OU := hid (OU.out.below b)
            replace BB := hid (BB.out.trans (b.mono BB.out.size))
            clear b
            go_wp2_with fail
            generalize w12.alloc (.cells #[.int .i64 c.1, .int .i64 c.2] 30) = w13 at *
            have XC := hid TN.out
            clear TN
            generalize w12.heap.size = pc at *
            refine (c_iNearOf aU U cU c w13 OU.out.seg (by omega)).mono ?_
            rintro e w14 ⟨rfl, b⟩
            replace SM := hid (SM.out.below b)
            replace OU := hid (OU.out.below b)
            replace XC := hid (XC.out.bel b)
            replace BB := hid (BB.out.trans (b.mono BB.out.size))
            clear b
            obtain ⟨f0, g0, _, _, k0⟩ := XC.out
            go_wp2_with fail
            refine (c_sNearOf aU U cU c w14 OU.out.seg (by omega)).mono ?_
            rintro e w15 ⟨rfl, b⟩
            replace SM := hid (SM.out.below b)
            replace OU := hid (OU.out.below b)
            replace XC := hid (XC.out.bel b)
            replace BB := hid (BB.out.trans (b.mono BB.out.size))
            clear f0 g0 k0
            clear b
            generalize (nearV U c).1 = nn at *
            generalize (nearV U c).2 = one at *
            obtain ⟨f0, g0, _, _, k0⟩ := XC.out
            go_wp2_with fail
            refine (c_iIsAlive aU U cU c w15 OU.out.seg (by omega)).mono ?_
            rintro e w16 ⟨rfl, b⟩
            replace SM := hid (SM.out.below b)
            replace OU := hid (OU.out.below b)
            replace XC := hid (XC.out.bel b)
            replace BB := hid (BB.out.trans (b.mono BB.out.size))
            clear f0 g0 k0
            clear b
            obtain ⟨f0, g0, _, _, k0⟩ := XC.out
            go_wp2_with fail
            refine (c_sIsAlive aU U cU c w16 OU.out.seg (by omega)).mono ?_
            rintro e w17 ⟨rfl, b⟩
            replace SM := hid (SM.out.below b)
            replace OU := hid (OU.out.below b)
            replace XC := hid (XC.out.bel b)
            replace BB := hid (BB.out.trans (b.mono BB.out.size))
            clear f0 g0 k0
            clear b
            clear OU XC
            generalize (aliveV U c).1 = al at *
            generalize (aliveV U c).2 = four at *
            go_wp2_with fail
            refine (c_DrawBoxOf a1 l1 c1 w17 SM.out (by omega)).mono ?_
            rintro e w18 ⟨v, V, rfl, o, hV, hsV, b⟩
            replace SM := hid (SM.out.below b)
            replace BB := hid (BB.out.trans (b.mono BB.out.size))
            clear b
            obtain ⟨aV, cV, rfl, _⟩ := o.form
            have OV := hid o
            clear o
            clear hsV
            clear SM
            have CS := hid (fun (W : World) (h : Seg W aV V) => c_sBoxOf aV V cV W h (by omega))
            go_wp2_with fail
            refine (c_iBoxOf aV V cV w18 OV.out.seg (by omega)).mono ?_
            rintro e w19 ⟨rfl, b⟩
            replace OV := hid (OV.out.below b)
            replace BB := hid (BB.out.trans (b.mono BB.out.size))
            clear b
            generalize boxLo V = lo at *
            generalize boxHi V = hi at *
            generalize boxOk V = five at *
            have TN := hid (two_new w19 lo hi)
            go_wp2_with fail
            generalize (w19.alloc (.cells #[.int .i64 lo.1, .int .i64 lo.2] 30)).alloc (.cells #[.int .i64 hi.1, .int .i64 hi.2] 30) = w20 at *
            have b := TN.out.2.2
            replace OV := hid (OV.out.below b)
            replace BB := hid (BB.out.trans (b.mono BB.out.size))
            have XA := hid TN.out.1
            have XB := hid TN.out.2.1
            clear b TN
            generalize w19.heap.size + 1 = pb at *
            generalize w19.heap.size = pa at *
            refine (CS.out w20 OV.out.seg).mono ?_
            rintro e w21 ⟨rfl, b⟩
            replace OV := hid (OV.out.below b)
            replace XA := hid (XA.out.bel b)
            replace XB := hid (XB.out.bel b)
            replace BB := hid (BB.out.trans (b.mono BB.out.size))
            clear b
            clear OV
            clear CS
            obtain ⟨f0, g0, _, _, k0⟩ := XA.out
            obtain ⟨f1, g1, _, _, k1⟩ := XB.out
            have TN := hid (two_new w21 lo hi)
            go_wp2
            go_ret
            first | exact ⟨rfl, BB.out.trans (TN.out.2.2.mono BB.out.size)⟩ | exact ⟨ret_bool (by simp), BB.out.trans (TN.out.2.2.mono BB.out.size)⟩
          case true =>
            have HY := hid (HX.out hbs)
            clear HX
            have CC := hid (c_iBoxOf aL L cL wr OL.out.seg (by omega))
            rw [HY.out.1] at CC
            go_wp2_with fail
            refine CC.out.mono ?_
            rintro e w8 ⟨rfl, b⟩
            replace SM := hid (SM.out.below b)
            replace OL := hid (OL.out.below b)
            replace Os := hid (Os.out.below b)
            replace BB := hid (BB.out.trans (b.mono BB.out.size))
            clear b CC
            rw [hbs] at CS
            clear hbs
            generalize boxLo L = lo at *
            generalize boxHi L = hi at *
            generalize boxLo (stepL L) = lo' at *
            generalize boxHi (stepL L) = hi' at *
            have y1 := HY.out.2.1
            have y2 := HY.out.2.2.1
            have y3 := HY.out.2.2.2.1
            have y4 := HY.out.2.2.2.2
            clear HY
            have TN := hid (two_new w8 lo hi)
            go_wp2_with fail
            generalize (w8.alloc (.cells #[.int .i64 lo.1, .int .i64 lo.2] 30)).alloc (.cells #[.int .i64 hi.1, .int .i64 hi.2] 30) = w9 at *
            have b := TN.out.2.2
            replace SM := hid (SM.out.below b)
            replace OL := hid (OL.out.below b)
            replace Os := hid (Os.out.below b)
            replace BB := hid (BB.out.trans (b.mono BB.out.size))
            have XA := hid TN.out.1
            have XB := hid TN.out.2.1
            clear b TN
            generalize w8.heap.size + 1 = pb at *
            generalize w8.heap.size = pa at *
            refine (CS.out w9 Os.out.seg).mono ?_
            rintro e w10 ⟨rfl, b⟩
            replace SM := hid (SM.out.below b)
            replace OL := hid (OL.out.below b)
            replace Os := hid (Os.out.below b)
            replace XA := hid (XA.out.bel b)
            replace XB := hid (XB.out.bel b)
            replace BB := hid (BB.out.trans (b.mono BB.out.size))
            clear b
            clear OL Os
            clear CS
            obtain ⟨f0, g0, _, _, k0⟩ := XA.out
            obtain ⟨f1, g1, _, _, k1⟩ := XB.out
            have TN := hid (two_new w10 lo' hi')
            have b := TN.out.2.2
            replace SM := hid (SM.out.below b)
            replace BB := hid (BB.out.trans (b.mono BB.out.size))
            clear b TN
            go_wp2_with fail
            clear f0 g0 k0 f1 g1 k1
            clear XA XB
            generalize (w10.alloc (.cells #[.int .i64 lo'.1, .int .i64 lo'.2] 30)).alloc (.cells #[.int .i64 hi'.1, .int .i64 hi'.2] 30) = w11 at *
            clear zL zS hsl y1 y2 y3 y4
            refine (c_DrawNearOf a1 l1 c1 w11 SM.out (by omega)).mono ?_
            rintro e w12 ⟨v, U, c, rfl, o, hU, hsU, b⟩
            replace SM := hid (SM.out.below b)
            replace BB := hid (BB.out.trans (b.mono BB.out.size))
            clear b
            obtain ⟨aU, cU, rfl, _⟩ := o.form
            have OU := hid o
            clear o
            clear hsU
            have TN := hid (BoxAt.new w12 c)
            have b := (Below.refl w12.heap.size w12).alloc (Nat.le_refl _) (.cells #[.int .i64 c.1, .int .i64 c.2] 30)
            replace SM := hid (SM.out.below b)
            replace OU := hid (OU.out.below b)
            replace BB := hid (BB.out.trans (b.mono BB.out.size))
            clear b
            go_wp2_with fail
            generalize w12.alloc (.cells #[.int .i64 c.1, .int .i64 c.2] 30) = w13 at *
            have XC := hid TN.out
            clear TN
            generalize w12.heap.size = pc at *
            refine (c_iNearOf aU U cU c w13 OU.out.seg (by omega)).mono ?_
            rintro e w14 ⟨rfl, b⟩
            replace SM := hid (SM.out.below b)
            replace OU := hid (OU.out.below b)
            replace XC := hid (XC.out.bel b)
            replace BB := hid (BB.out.trans (b.mono BB.out.size))
            clear b
            obtain ⟨f0, g0, _, _, k0⟩ := XC.out
            go_wp2_with fail
            refine (c_sNearOf aU U cU c w14 OU.out.seg (by omega)).mono ?_
            rintro e w15 ⟨rfl, b⟩
            replace SM := hid (SM.out.below b)
            replace OU := hid (OU.out.below b)
            replace XC := hid (XC.out.bel b)
            replace BB := hid (BB.out.trans (b.mono BB.out.size))
            clear f0 g0 k0
            clear b
            generalize (nearV U c).1 = nn at *
            generalize (nearV U c).2 = one at *
            obtain ⟨f0, g0, _, _, k0⟩ := XC.out
            go_wp2_with fail
            refine (c_iIsAlive aU U cU c w15 OU.out.seg (by omega)).mono ?_
            rintro e w16 ⟨rfl, b⟩
            replace SM := hid (SM.out.below b)
            replace OU := hid (OU.out.below b)
            replace XC := hid (XC.out.bel b)
            replace BB := hid (BB.out.trans (b.mono BB.out.size))
            clear f0 g0 k0
            clear b
            obtain ⟨f0, g0, _, _, k0⟩ := XC.out
            go_wp2_with fail
            refine (c_sIsAlive aU U cU c w16 OU.out.seg (by omega)).mono ?_
            rintro e w17 ⟨rfl, b⟩
            replace SM := hid (SM.out.below b)
            replace OU := hid (OU.out.below b)
            replace XC := hid (XC.out.bel b)
            replace BB := hid (BB.out.trans (b.mono BB.out.size))
            clear f0 g0 k0
            clear b
            clear OU XC
            generalize (aliveV U c).1 = al at *
            generalize (aliveV U c).2 = four at *
            go_wp2_with fail
            refine (c_DrawBoxOf a1 l1 c1 w17 SM.out (by omega)).mono ?_
            rintro e w18 ⟨v, V, rfl, o, hV, hsV, b⟩
            replace SM := hid (SM.out.below b)
            replace BB := hid (BB.out.trans (b.mono BB.out.size))
            clear b
            obtain ⟨aV, cV, rfl, _⟩ := o.form
            have OV := hid o
            clear o
            clear hsV
            clear SM
            have CS := hid (fun (W : World) (h : Seg W aV V) => c_sBoxOf aV V cV W h (by omega))
            go_wp2_with fail
            refine (c_iBoxOf aV V cV w18 OV.out.seg (by omega)).mono ?_
            rintro e w19 ⟨rfl, b⟩
            replace OV := hid (OV.out.below b)
            replace BB := hid (BB.out.trans (b.mono BB.out.size))
            clear b
            generalize boxLo V = lo at *
            generalize boxHi V = hi at *
            generalize boxOk V = five at *
            have TN := hid (two_new w19 lo hi)
            go_wp2_with fail
            generalize (w19.alloc (.cells #[.int .i64 lo.1, .int .i64 lo.2] 30)).alloc (.cells #[.int .i64 hi.1, .int .i64 hi.2] 30) = w20 at *
            have b := TN.out.2.2
            replace OV := hid (OV.out.below b)
            replace BB := hid (BB.out.trans (b.mono BB.out.size))
            have XA := hid TN.out.1
            have XB := hid TN.out.2.1
            clear b TN
            generalize w19.heap.size + 1 = pb at *
            generalize w19.heap.size = pa at *
            refine (CS.out w20 OV.out.seg).mono ?_
            rintro e w21 ⟨rfl, b⟩
            replace OV := hid (OV.out.below b)
            replace XA := hid (XA.out.bel b)
            replace XB := hid (XB.out.bel b)
            replace BB := hid (BB.out.trans (b.mono BB.out.size))
            clear b
            clear OV
            clear CS
            obtain ⟨f0, g0, _, _, k0⟩ := XA.out
            obtain ⟨f1, g1, _, _, k1⟩ := XB.out
            have TN := hid (two_new w21 lo hi)
            go_wp2
            go_ret
            first | exact ⟨rfl, BB.out.trans (TN.out.2.2.mono BB.out.size)⟩ | exact ⟨ret_bool (by simp), BB.out.trans (TN.out.2.2.mono BB.out.size)⟩
  · have hz : (1048576 : Int) < wrap64 ((l0.length : Int) + (l1.length : Int)) := by omega
    go_enter Try.func3, Try.ntmps3
    go_wp2
    go_ret
    exact ⟨rfl, Below.refl _ _⟩

set_option maxRecDepth 100000 in
theorem lifted (os : Os) (started : os.Started) (H : Type) (enc : TypeId × Value → H) :
    ReturnsInHanded {} Try.checked os 3 .any (Rows.fnLifeSpec.pre6 enc Try.prog Try.f3 Rows.fnLifeRow.domain false) (Rows.fnLifeSpec.post enc Try.prog Try.f3 false true false false) := by
  refine returnsInHanded_of_change (C := Try.checked) own started (by kernel_rfl) Try.func3
    (ChangeSpec.witness6 (enc := enc) (C := Try.checked) false ⟨#[], #[.slice none 0 0, .slice none 0 0], []⟩ 8 (by kernel_rfl) (by kernel_rfl) (by kernel_rfl) (by kernel_rfl)) ?_
  intro W base args ds gs before hval0 hW hcnd _
  have hval : ∀ (j : Nat) t v, Try.f3.params[j]? = some t → args[j]? = some v → Value.okWide Try.prog W .any base t v := hval0
  have hW' := hW
  obtain ⟨p, q, hA0, hV, rfl, hfz, hnd⟩ := hW
  have hA : DataW.TrodAll enc Try.prog W 0 (fun _ => true) true Try.f3.params.toList args.toList ds p := hA0
  rw [Try.params3] at hA hval
  obtain ⟨v0, vs0, d0, ds0, p0, q0, hargs, rfl, rfl, h0, r0⟩ := trodAll_cons hA
  obtain ⟨v1, vs1, d1, ds1, p1, q1, rfl, rfl, rfl, h1, r1⟩ := trodAll_cons r0
  obtain ⟨rfl, rfl, rfl⟩ := trodAll_nil r1
  obtain rfl : args = #[v0, v1] := by cases args; simp_all
  obtain ⟨rfl, rfl⟩ := trodVars_none hV
  have k0 := h0
  have lt0 : ∀ x ∈ p0, x.block < W.heap.size := by obtain ⟨m, hm⟩ := k0; exact DataW.trod_lt m _ _ _ hm
  obtain ⟨a0, len0, cap0, rfl⟩ := okWide_slice Try.underlying22 (hval 0 22 v0 rfl rfl)
  obtain ⟨l0, rfl, m0, s0⟩ : ∃ l : List Int, l.length = len0 ∧ l.length ≤ maxLen ∧ BSeg W a0 l := by
    obtain ⟨fuel, hf⟩ := h0
    exact open_bytes hf
  have k1 := h1
  have lt1 : ∀ x ∈ p1, x.block < W.heap.size := by obtain ⟨m, hm⟩ := k1; exact DataW.trod_lt m _ _ _ hm
  obtain ⟨a1, len1, cap1, rfl⟩ := okWide_slice Try.underlying22 (hval 1 22 v1 rfl rfl)
  obtain ⟨l1, rfl, m1, s1⟩ : ∃ l : List Int, l.length = len1 ∧ l.length ≤ maxLen ∧ BSeg W a1 l := by
    obtain ⟨fuel, hf⟩ := h1
    exact open_bytes hf
  clear hA0 hval0
  refine (walk a0 l0 cap0 a1 l1 cap1 W s0 m0 s1 m1).mono fun e W' ⟨he, bel⟩ => ?_
  subst he
  exact ⟨_, rfl, _, _, _, [], _, [], hW', trodAll_mk1 (shut_bool Try.underlying4 _), (trodAll_cons_mk (Below.trod laidOut (by kernel_rfl) (of_decide_eq_true (by kernel_rfl)) k0 bel lt0) (trodAll_cons_mk (Below.trod laidOut (by kernel_rfl) (of_decide_eq_true (by kernel_rfl)) k1 bel lt1) trodAll_mk0)), rfl, bel.frame _, fun h => by cases h⟩

theorem over : Rows.fnLifeRow.holds Try.pinned (OpenSpec.ofChange Rows.fnLifeSpec) :=
  OpenClaim.holds_of_wide 3 Try.f3 rfl rfl rfl rfl rfl rfl rfl ⟨rfl, rfl, rfl, rfl, rfl⟩ rfl rfl rfl rfl rfl (by kernel_rfl) Try.func3 (by kernel_rfl)
    (of_decide_eq_true (by kernel_rfl)) (by unfold Func.isWrapper; first | (rw [if_pos (by decide +kernel)]; kernel_rfl) | (rw [if_neg (by decide +kernel)]; exact ⟨rfl, rfl⟩))
    (fun os started H enc _ => lifted os started H enc)

end Go.Proofs.Ytkapdjlaebidnaa.lLife
namespace Go.Proofs.Ytkapdjlaebidnaa
/-- THE STATEMENT. -/
theorem life_holds : Rows.FnLifeSaid := lLife.over
#print axioms life_holds
end Go.Proofs.Ytkapdjlaebidnaa
