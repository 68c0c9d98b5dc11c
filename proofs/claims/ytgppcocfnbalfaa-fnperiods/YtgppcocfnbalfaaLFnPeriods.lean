/- FnPeriods answers true at every argument: what has come back comes back again and again, and the least period parts all, for drawn cells. No condition. (Written by wip/tools/mkper.py.) -/
import Derived.Test.YtgppcocfnbalfaaKh
import Derived.Test.YtgppcocfnbalfaaKg
import Derived.Test.YtgppcocfnbalfaaKj
import Derived.Test.YtgppcocfnbalfaaKi
namespace Go.Proofs.Ytgppcocfnbalfaa.lPeriods
open Go.RowKit Go.ChangeShapes Go.WideShapes Go.ChangeAt
set_option linter.unusedVariables false
set_option linter.unusedSimpArgs false

set_option maxHeartbeats 8000000 in
set_option maxRecDepth 100000 in
theorem walk (a0 : Option Addr) (l0 : List Int) (c0 : Nat) (a1 : Option Addr) (l1 : List Int) (c1 : Nat) (w0 : World) (ha : BSeg w0 a0 l0) (hm0 : l0.length ≤ maxLen) (hb : BSeg w0 a1 l1) (hm1 : l1.length ≤ maxLen) :
    Calls Try.prog 3 #[.slice a0 l0.length c0, .slice a1 l1.length c1] w0 fun e w' => e = .returned (.bool true) ∧ Below w0.heap.size w0 w' := by
  unfold maxLen at hm0 hm1
  by_cases hl : wrap64 ((l0.length : Int) + (l1.length : Int)) ≤ 1048576
  · have SM := hid hb
    have BB := hid (Below.refl w0.heap.size w0)
    have HA := hid ha
    clear ha hb
    go_enter Try.func3, Try.ntmps3
    go_wp2_with fail
    refine (c_DrawPeriodOf a0 l0 c0 w0 HA.out (by omega)).mono ?_
    rintro e w1 ⟨v, L, t, rfl, o, hL, hsL, t0, t1, b⟩
    replace SM := hid (SM.out.below b)
    replace BB := hid (BB.out.trans (b.mono BB.out.size))
    clear b
    obtain ⟨aL, cL, rfl, _⟩ := o.form
    have OL := hid o
    clear o
    clear hsL HA
    go_wp2_with fail
    refine (c_iPeriodOf aL L cL t w1 OL.out.seg OL.out.cap0 (by omega)).mono ?_
    rintro e w2 ⟨rfl, b⟩
    replace SM := hid (SM.out.below b)
    replace OL := hid (OL.out.below b)
    replace BB := hid (BB.out.trans (b.mono BB.out.size))
    clear b
    go_wp2_with fail
    refine (c_sPeriodOf aL L cL t w2 OL.out.seg OL.out.cap0 (by omega)).mono ?_
    rintro e w3 ⟨rfl, b⟩
    replace SM := hid (SM.out.below b)
    replace OL := hid (OL.out.below b)
    replace BB := hid (BB.out.trans (b.mono BB.out.size))
    clear b
    cases hper : perO L t
    case none =>
      have hn1 : ((oN none) != (oN none)) = false := by simp
      have hn2 : (Option.isSome (none : Option Nat)) = false := rfl
      rw [hn2]
      generalize oN none = z at *
      clear OL
      go_wp2_with fail
      refine (c_DrawHistoryOf a1 l1 c1 w3 SM.out (by omega)).mono ?_
      rintro e w4 ⟨v, U, u, rfl, o, hU, hsU, u0, u1, b⟩
      replace SM := hid (SM.out.below b)
      replace BB := hid (BB.out.trans (b.mono BB.out.size))
      clear b
      obtain ⟨aU, cU, rfl, _⟩ := o.form
      have OU := hid o
      clear o
      clear hsU
      have hhl := hisL_len U u
      have HHE := hid (fun i (hi : i < (hisL U u).length) => hisL_each U u hi)
      go_wp2_with fail
      refine (c_iHistoryOf aU U cU u w4 OU.out.seg OU.out.cap0 (by omega)).mono ?_
      rintro e w5 ⟨v, vs1, rfl, o, b⟩
      replace SM := hid (SM.out.below b)
      replace OU := hid (OU.out.below b)
      replace BB := hid (BB.out.trans (b.mono BB.out.size))
      clear b
      obtain ⟨aH, cH, rfl, _, _⟩ := o.form
      have OH := hid o
      clear o
      go_wp2_with fail
      refine (c_sHistoryOf aU U cU u w5 OU.out.seg OU.out.cap0 (by omega)).mono ?_
      rintro e w6 ⟨v, vs2, rfl, o, b⟩
      replace SM := hid (SM.out.below b)
      replace OU := hid (OU.out.below b)
      replace OH := hid (OH.out.below b)
      replace BB := hid (BB.out.trans (b.mono BB.out.size))
      clear b
      obtain ⟨aI, cI, rfl, _, _⟩ := o.form
      have OI := hid o
      clear o
      clear OU
      generalize hisL U u = HL at *
      generalize hisOk U u = hok2 at *
      have hlen : ((HL.length : Int) != (HL.length : Int)) = false := by simp
      have HOH := hid OH.out
      have HOI := hid OI.out
      go_wp2
      go_loopw [130] (fun iv wr => ∃ i : Nat, i ≤ HL.length ∧ iv = .int .i64 (i : Int) ∧ Hid (Below w6.heap.size w6 wr)) (fun iv _ => HL.length - (intOf iv).toNat)
      case atStart => exact ⟨0, by omega, rfl, Below.refl _ _⟩
      case round =>
        obtain ⟨i, hi, rfl, HB⟩ := hrel
        by_cases hit : i < HL.length
        · have i0 : (0 : Int) ≤ (i : Int) := by omega
          have i1 : (i : Int) < (HL.length : Int) := by omega
          obtain ⟨g1, a1', c1', e1, -, hg1, e1b, p1⟩ := (HOH.out.below HB.out).at (j := i) hit
          obtain ⟨g2, a2', c2', e2, -, hg2, e2b, p2⟩ := (HOI.out.below HB.out).at (j := i) hit
          have hs1 := (HOH.out.below HB.out).each i hit
          rw [e1b] at hs1
          have hs2 := (HOI.out.below HB.out).each i hit
          rw [e2b] at hs2
          subst e1
          subst e2
          have HS1 := hid (hs1.seg.below ((Below.refl wr.heap.size wr).drew))
          have HS2 := hid (hs2.seg.below ((Below.refl wr.heap.size wr).drew))
          have hxl := HHE.out i hit
          generalize ht HL i = x at *
          clear hs1 hs2 e1b e2b OH OI
          have dx : decide (x = x) = true := by simp
          have CS := c_sameCells a1' a2' x x c1' c2' wr.drew HS1.out HS2.out (by omega) (by omega)
          rw [dx] at CS
          have HCS := hid CS
          clear CS dx
          go_wp2
          go_region_held3 (fun W => W.cell? ⟨g1, i, none⟩ = some (.slice a1' x.length c1') ∧ W.cell? ⟨g2, i, none⟩ = some (.slice a2' x.length c2'))
            (first | exact ⟨p1, p2⟩ | exact ⟨((ofDrew b).cell (p := ⟨g1, i, none⟩) hg1).trans p1, ((ofDrew b).cell (p := ⟨g2, i, none⟩) hg2).trans p2⟩ | go_keep)
            (first | (go_at_call 16; refine HCS.out.mono ?_; rintro e z1 ⟨rfl, b⟩; have HB1 := hid (HB.out.trans ((ofDrew b).mono HB.out.size))))
          go_wp2
          go_roundw
          case rel => exact ⟨i + 1, by omega, by go_num, HB1.out⟩
          case measure => simp [intOf]; omega
        · clear HOH HOI HHE hlen
          have b := HB.out
          replace SM := hid (SM.out.below b)
          replace OH := hid (OH.out.below b)
          replace OI := hid (OI.out.below b)
          replace BB := hid (BB.out.trans (b.mono BB.out.size))
          clear b HB
          clear OH OI
          go_wp2_with fail
          refine (c_DrawIsStill a1 l1 c1 wr SM.out (by omega)).mono ?_
          rintro e w8 ⟨v, V, rfl, o, hV, hsV, b⟩
          replace SM := hid (SM.out.below b)
          replace BB := hid (BB.out.trans (b.mono BB.out.size))
          clear b
          obtain ⟨aV, cV, rfl, _⟩ := o.form
          have OV := hid o
          clear o
          clear hsV
          go_wp2_with fail
          refine (c_iIsStill aV V cV w8 OV.out.seg (by omega)).mono ?_
          rintro e w9 ⟨rfl, b⟩
          replace SM := hid (SM.out.below b)
          replace OV := hid (OV.out.below b)
          replace BB := hid (BB.out.trans (b.mono BB.out.size))
          clear b
          go_wp2_with fail
          refine (c_sIsStill aV V cV w9 OV.out.seg (by omega)).mono ?_
          rintro e w10 ⟨rfl, b⟩
          replace SM := hid (SM.out.below b)
          replace OV := hid (OV.out.below b)
          replace BB := hid (BB.out.trans (b.mono BB.out.size))
          clear b
          clear OV
          generalize stB V = st at *
          generalize stepOk V = so at *
          go_wp2_with fail
          refine (c_DrawDiesWithin a1 l1 c1 w10 SM.out (by omega)).mono ?_
          rintro e w11 ⟨v, X, m, rfl, o, hX, hsX, m0, m1, b⟩
          replace SM := hid (SM.out.below b)
          replace BB := hid (BB.out.trans (b.mono BB.out.size))
          clear b
          obtain ⟨aX, cX, rfl, _⟩ := o.form
          have OX := hid o
          clear o
          clear hsX
          clear SM
          go_wp2_with fail
          refine (c_iDiesWithin aX X cX m w11 OX.out.seg OX.out.cap0 (by omega)).mono ?_
          rintro e w12 ⟨rfl, b⟩
          replace OX := hid (OX.out.below b)
          replace BB := hid (BB.out.trans (b.mono BB.out.size))
          clear b
          go_wp2_with fail
          refine (c_sDiesWithin aX X cX m w12 OX.out.seg OX.out.cap0 (by omega)).mono ?_
          rintro e w13 ⟨rfl, b⟩
          replace OX := hid (OX.out.below b)
          replace BB := hid (BB.out.trans (b.mono BB.out.size))
          clear b
          clear OX
          generalize oN (dieO X m) = dn at *
          generalize (dieO X m).isSome = dk at *
          go_wp2
          go_ret
          first | exact ⟨rfl, BB.out⟩ | exact ⟨ret_bool (by simp), BB.out⟩
    case some p =>
      have HPA := hid (fun k hk => per_all hper k hk)
      have HPS := hid (per_still hper)
      have hp0 := (per_is hper).2.1
      have hgL := (per_is hper).1
      have hn2 : (Option.isSome (some p)) = true := rfl
      rw [hn2]
      have hz : oN (some p) = (p : Int) := rfl
      rw [hz]
      have hn1 : (((p : Nat) : Int) != (p : Int)) = false := by simp
      have hp1 : ¬ ((p : Int) = 0) := by omega
      have hp2 : ((p : Int) == 0) = false := by simp; omega
      have hpl : p ≤ 20 := by
        have h1 := (fstAt_is hper).1
        have h2 := histG_len L t
        omega
      have HO := hid OL.out
      clear hper hn2 hz
      go_wp2
      go_loopw [11] (fun kv wr => ∃ k : Nat, 1 ≤ k ∧ k ≤ 21 ∧ kv = .int .i64 (k : Int) ∧ Hid (Below w3.heap.size w3 wr)) (fun kv _ => 21 - (intOf kv).toNat)
      case atStart => exact ⟨1, by omega, by omega, rfl, Below.refl _ _⟩
      case round =>
        obtain ⟨k, hk1, hk2, rfl, HB⟩ := hrel
        by_cases hkt : k ≤ 20
        · have k0 : (k : Int) ≤ 20 := by omega
          obtain ⟨K1, K2⟩ := HPA.out k hkt
          have hsl := timesL_le L (k : Int)
          have CT := c_iStepTimes aL L cL (k : Int) wr (HO.out.below HB.out).seg (HO.out.below HB.out).cap0 (by omega)
          rw [K1] at CT
          have HCT := hid CT
          have HK2 := hid K2
          clear K1 K2 CT
          have hmd := tmod_dec k p
          have hme := emod_dec k p
          generalize timesL L (k : Int) = m at *
          go_wp2_with fail
          refine HCT.out.mono ?_
          rintro e z1 ⟨v, rfl, oz, b⟩
          obtain ⟨az, cz, rfl, _⟩ := oz.form
          have HZ := hid oz.seg
          have HB1 := hid (HB.out.trans (b.mono HB.out.size))
          have HL1 := hid ((HO.out.below HB1.out).seg)
          clear oz b HCT
          have hne := Gr.ne z1
          have CS := hid (fun (g : Gr z1) => c_sameCells az aL m L cz cL g.val (HZ.out.below g.below) (HL1.out.below g.below) (by omega) (by omega))
          rw [HK2.out] at CS
          generalize hqq : decide (k % p = 0) = q at *
          clear hqq
          have hq : (q != q) = false := by simp
          go_wp2
          refine wp_region_gr (by kernel_rfl) (by kernel_rfl) ?_
          repeat (go_big_quiet_step (first | (go_at_call 16; exact Calls.gr _ (CS.out _))))
          refine wpQuiet_nil ?_
          rintro _ ⟨g, rfl⟩
          have HB2 := hid (HB1.out.trans (g.below.mono HB1.out.size))
          go_wp2
          go_roundw
          case rel => exact ⟨k + 1, by omega, by omega, by go_num, HB2.out⟩
          case measure => simp [intOf]; omega
        · clear HPA HO
          have b := HB.out
          replace SM := hid (SM.out.below b)
          replace OL := hid (OL.out.below b)
          replace BB := hid (BB.out.trans (b.mono BB.out.size))
          clear b HB
          have k0 : ¬ (k : Int) ≤ 20 := by omega
          have CC := hid (c_iIsStill aL L cL wr OL.out.seg (by omega))
          rw [HPS.out.1, HPS.out.2] at CC
          have hps : ((p : Int) == 1) = decide (p = 1) := by rw [Bool.eq_iff_iff]; simp; omega
          generalize decide (p = 1) = q at *
          have hq : (q != q) = false := by simp
          go_wp2_with fail
          refine (CC.out).mono ?_
          rintro e w5 ⟨rfl, b⟩
          replace SM := hid (SM.out.below b)
          replace OL := hid (OL.out.below b)
          replace BB := hid (BB.out.trans (b.mono BB.out.size))
          clear b
          clear OL
          clear CC HPS
          go_wp2_with fail
          refine (c_DrawHistoryOf a1 l1 c1 w5 SM.out (by omega)).mono ?_
          rintro e w6 ⟨v, U, u, rfl, o, hU, hsU, u0, u1, b⟩
          replace SM := hid (SM.out.below b)
          replace BB := hid (BB.out.trans (b.mono BB.out.size))
          clear b
          obtain ⟨aU, cU, rfl, _⟩ := o.form
          have OU := hid o
          clear o
          clear hsU
          have hhl := hisL_len U u
          have HHE := hid (fun i (hi : i < (hisL U u).length) => hisL_each U u hi)
          go_wp2_with fail
          refine (c_iHistoryOf aU U cU u w6 OU.out.seg OU.out.cap0 (by omega)).mono ?_
          rintro e w7 ⟨v, vs1, rfl, o, b⟩
          replace SM := hid (SM.out.below b)
          replace OU := hid (OU.out.below b)
          replace BB := hid (BB.out.trans (b.mono BB.out.size))
          clear b
          obtain ⟨aH, cH, rfl, _, _⟩ := o.form
          have OH := hid o
          clear o
          go_wp2_with fail
          refine (c_sHistoryOf aU U cU u w7 OU.out.seg OU.out.cap0 (by omega)).mono ?_
          rintro e w8 ⟨v, vs2, rfl, o, b⟩
          replace SM := hid (SM.out.below b)
          replace OU := hid (OU.out.below b)
          replace OH := hid (OH.out.below b)
          replace BB := hid (BB.out.trans (b.mono BB.out.size))
          clear b
          obtain ⟨aI, cI, rfl, _, _⟩ := o.form
          have OI := hid o
          clear o
          clear OU
          generalize hisL U u = HL at *
          generalize hisOk U u = hok2 at *
          have hlen : ((HL.length : Int) != (HL.length : Int)) = false := by simp
          have HOH := hid OH.out
          have HOI := hid OI.out
          go_wp2
          go_loopw [130] (fun iv wr => ∃ i : Nat, i ≤ HL.length ∧ iv = .int .i64 (i : Int) ∧ Hid (Below w8.heap.size w8 wr)) (fun iv _ => HL.length - (intOf iv).toNat)
          case atStart => exact ⟨0, by omega, rfl, Below.refl _ _⟩
          case round =>
            obtain ⟨i, hi, rfl, HB⟩ := hrel
            by_cases hit : i < HL.length
            · have i0 : (0 : Int) ≤ (i : Int) := by omega
              have i1 : (i : Int) < (HL.length : Int) := by omega
              obtain ⟨g1, a1', c1', e1, -, hg1, e1b, p1⟩ := (HOH.out.below HB.out).at (j := i) hit
              obtain ⟨g2, a2', c2', e2, -, hg2, e2b, p2⟩ := (HOI.out.below HB.out).at (j := i) hit
              have hs1 := (HOH.out.below HB.out).each i hit
              rw [e1b] at hs1
              have hs2 := (HOI.out.below HB.out).each i hit
              rw [e2b] at hs2
              subst e1
              subst e2
              have HS1 := hid (hs1.seg.below ((Below.refl wr.heap.size wr).drew))
              have HS2 := hid (hs2.seg.below ((Below.refl wr.heap.size wr).drew))
              have hxl := HHE.out i hit
              generalize ht HL i = x at *
              clear hs1 hs2 e1b e2b OH OI
              have dx : decide (x = x) = true := by simp
              have CS := c_sameCells a1' a2' x x c1' c2' wr.drew HS1.out HS2.out (by omega) (by omega)
              rw [dx] at CS
              have HCS := hid CS
              clear CS dx
              go_wp2
              go_region_held3 (fun W => W.cell? ⟨g1, i, none⟩ = some (.slice a1' x.length c1') ∧ W.cell? ⟨g2, i, none⟩ = some (.slice a2' x.length c2'))
                (first | exact ⟨p1, p2⟩ | exact ⟨((ofDrew b).cell (p := ⟨g1, i, none⟩) hg1).trans p1, ((ofDrew b).cell (p := ⟨g2, i, none⟩) hg2).trans p2⟩ | go_keep)
                (first | (go_at_call 16; refine HCS.out.mono ?_; rintro e z1 ⟨rfl, b⟩; have HB1 := hid (HB.out.trans ((ofDrew b).mono HB.out.size))))
              go_wp2
              go_roundw
              case rel => exact ⟨i + 1, by omega, by go_num, HB1.out⟩
              case measure => simp [intOf]; omega
            · clear HOH HOI HHE hlen
              have b := HB.out
              replace SM := hid (SM.out.below b)
              replace OH := hid (OH.out.below b)
              replace OI := hid (OI.out.below b)
              replace BB := hid (BB.out.trans (b.mono BB.out.size))
              clear b HB
              clear OH OI
              go_wp2_with fail
              refine (c_DrawIsStill a1 l1 c1 wr SM.out (by omega)).mono ?_
              rintro e w10 ⟨v, V, rfl, o, hV, hsV, b⟩
              replace SM := hid (SM.out.below b)
              replace BB := hid (BB.out.trans (b.mono BB.out.size))
              clear b
              obtain ⟨aV, cV, rfl, _⟩ := o.form
              have OV := hid o
              clear o
              clear hsV
              go_wp2_with fail
              refine (c_iIsStill aV V cV w10 OV.out.seg (by omega)).mono ?_
              rintro e w11 ⟨rfl, b⟩
              replace SM := hid (SM.out.below b)
              replace OV := hid (OV.out.below b)
              replace BB := hid (BB.out.trans (b.mono BB.out.size))
              clear b
              go_wp2_with fail
              refine (c_sIsStill aV V cV w11 OV.out.seg (by omega)).mono ?_
              rintro e w12 ⟨rfl, b⟩
              replace SM := hid (SM.out.below b)
              replace OV := hid (OV.out.below b)
              replace BB := hid (BB.out.trans (b.mono BB.out.size))
              clear b
              clear OV
              generalize stB V = st at *
              generalize stepOk V = so at *
              go_wp2_with fail
              refine (c_DrawDiesWithin a1 l1 c1 w12 SM.out (by omega)).mono ?_
              rintro e w13 ⟨v, X, m, rfl, o, hX, hsX, m0, m1, b⟩
              replace SM := hid (SM.out.below b)
              replace BB := hid (BB.out.trans (b.mono BB.out.size))
              clear b
              obtain ⟨aX, cX, rfl, _⟩ := o.form
              have OX := hid o
              clear o
              clear hsX
              clear SM
              go_wp2_with fail
              refine (c_iDiesWithin aX X cX m w13 OX.out.seg OX.out.cap0 (by omega)).mono ?_
              rintro e w14 ⟨rfl, b⟩
              replace OX := hid (OX.out.below b)
              replace BB := hid (BB.out.trans (b.mono BB.out.size))
              clear b
              go_wp2_with fail
              refine (c_sDiesWithin aX X cX m w14 OX.out.seg OX.out.cap0 (by omega)).mono ?_
              rintro e w15 ⟨rfl, b⟩
              replace OX := hid (OX.out.below b)
              replace BB := hid (BB.out.trans (b.mono BB.out.size))
              clear b
              clear OX
              generalize oN (dieO X m) = dn at *
              generalize (dieO X m).isSome = dk at *
              go_wp2
              go_ret
              first | exact ⟨rfl, BB.out⟩ | exact ⟨ret_bool (by simp), BB.out⟩
  · have hz : (1048576 : Int) < wrap64 ((l0.length : Int) + (l1.length : Int)) := by omega
    go_enter Try.func3, Try.ntmps3
    go_wp2
    go_ret
    exact ⟨rfl, Below.refl _ _⟩

set_option maxRecDepth 100000 in
theorem lifted (os : Os) (started : os.Started) (H : Type) (enc : TypeId × Value → H) :
    ReturnsInHanded {} Try.checked os 3 .any (Rows.fnPeriodsSpec.pre6 enc Try.prog Try.f3 Rows.fnPeriodsRow.domain false) (Rows.fnPeriodsSpec.post enc Try.prog Try.f3 false true false false) := by
  refine returnsInHanded_of_change (C := Try.checked) own started (by kernel_rfl) Try.func3
    (ChangeSpec.witness6 (enc := enc) (C := Try.checked) false ⟨#[], #[.slice none 0 0, .slice none 0 0], []⟩ 8 (by kernel_rfl) (by kernel_rfl) (by kernel_rfl) (by kernel_rfl)) ?_
  intro W base args ds gs before hval0 hW hcnd _
  have hval : ∀ (j : Nat) t v, Try.f3.params[j]? = some t → args[j]? = some v → Value.okWide Try.prog W .any base t v := hval0
  have hW' := hW
  obtain ⟨p, q, hA0, hV, rfl, hfz, hnd⟩ := hW
  have hA : DataW.TrodAll enc Try.prog W 0 (fun _ => true) true Try.f3.params.toList args.toList ds p := hA0
  rw [Try.params3] at hA hval
  obtain ⟨v0, vs0, d0, ds0, p0, q0, hargs, rfl, rfl, h0, r0⟩ := trodAll_cons hA
  obtain ⟨v1, vs1, d1, ds1, p1, q1, rfl, rfl, rfl, h1, r1⟩ := trodAll_cons r0
  obtain ⟨rfl, rfl, rfl⟩ := trodAll_nil r1
  obtain rfl : args = #[v0, v1] := by cases args; simp_all
  obtain ⟨rfl, rfl⟩ := trodVars_none hV
  have k0 := h0
  have lt0 : ∀ x ∈ p0, x.block < W.heap.size := by obtain ⟨m, hm⟩ := k0; exact DataW.trod_lt m _ _ _ hm
  obtain ⟨a0, len0, cap0, rfl⟩ := okWide_slice Try.underlying22 (hval 0 22 v0 rfl rfl)
  obtain ⟨l0, rfl, m0, s0⟩ : ∃ l : List Int, l.length = len0 ∧ l.length ≤ maxLen ∧ BSeg W a0 l := by
    obtain ⟨fuel, hf⟩ := h0
    exact open_bytes hf
  have k1 := h1
  have lt1 : ∀ x ∈ p1, x.block < W.heap.size := by obtain ⟨m, hm⟩ := k1; exact DataW.trod_lt m _ _ _ hm
  obtain ⟨a1, len1, cap1, rfl⟩ := okWide_slice Try.underlying22 (hval 1 22 v1 rfl rfl)
  obtain ⟨l1, rfl, m1, s1⟩ : ∃ l : List Int, l.length = len1 ∧ l.length ≤ maxLen ∧ BSeg W a1 l := by
    obtain ⟨fuel, hf⟩ := h1
    exact open_bytes hf
  clear hA0 hval0
  refine (walk a0 l0 cap0 a1 l1 cap1 W s0 m0 s1 m1).mono fun e W' ⟨he, bel⟩ => ?_
  subst he
  exact ⟨_, rfl, _, _, _, [], _, [], hW', trodAll_mk1 (shut_bool Try.underlying4 _), (trodAll_cons_mk (Below.trod laidOut (by kernel_rfl) (of_decide_eq_true (by kernel_rfl)) k0 bel lt0) (trodAll_cons_mk (Below.trod laidOut (by kernel_rfl) (of_decide_eq_true (by kernel_rfl)) k1 bel lt1) trodAll_mk0)), rfl, bel.frame _, fun h => by cases h⟩

theorem over : Rows.fnPeriodsRow.holds Try.pinned (OpenSpec.ofChange Rows.fnPeriodsSpec) :=
  OpenClaim.holds_of_wide 3 Try.f3 rfl rfl rfl rfl rfl rfl rfl ⟨rfl, rfl, rfl, rfl, rfl⟩ rfl rfl rfl rfl rfl (by kernel_rfl) Try.func3 (by kernel_rfl)
    (of_decide_eq_true (by kernel_rfl)) (by unfold Func.isWrapper; first | (rw [if_pos (by decide +kernel)]; kernel_rfl) | (rw [if_neg (by decide +kernel)]; exact ⟨rfl, rfl⟩))
    (fun os started H enc _ => lifted os started H enc)

end Go.Proofs.Ytgppcocfnbalfaa.lPeriods
namespace Go.Proofs.Ytgppcocfnbalfaa
/-- THE STATEMENT. -/
theorem periods_holds : Rows.FnPeriodsSaid := lPeriods.over
#print axioms periods_holds
end Go.Proofs.Ytgppcocfnbalfaa
