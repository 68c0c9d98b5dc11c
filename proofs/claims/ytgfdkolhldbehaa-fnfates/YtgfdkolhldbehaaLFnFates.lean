/- FnFates answers true at every argument: what is the same further on goes on so, at most one cell a step; parts that are apart go their own ways, for drawn cells. No condition. (Written by wip/tools/mkfat.py.) -/
import Derived.Test.YtgfdkolhldbehaaKk
import Derived.Test.YtgfdkolhldbehaaKl
import Derived.Test.YtgfdkolhldbehaaKg
import Derived.Test.YtgfdkolhldbehaaKj
import Derived.Test.YtgfdkolhldbehaaKe
import Derived.Test.YtgfdkolhldbehaaKi
import Derived.Test.YtgfdkolhldbehaaMeet
import Derived.Deep.RegionHeld3
namespace Go.Proofs.Ytgfdkolhldbehaa.lFates
open Go.RowKit Go.ChangeShapes Go.WideShapes Go.ChangeAt
set_option linter.unusedVariables false
set_option linter.unusedSimpArgs false
attribute [local go_sem ↓] Go.wp_at_zero Go.wp_at_succ

set_option maxHeartbeats 16000000 in
set_option maxRecDepth 100000 in
theorem walk (a0 : Option Addr) (l0 : List Int) (c0 : Nat) (a1 : Option Addr) (l1 : List Int) (c1 : Nat) (w0 : World) (ha : BSeg w0 a0 l0) (hm0 : l0.length ≤ maxLen) (hb : BSeg w0 a1 l1) (hm1 : l1.length ≤ maxLen) :
    Calls Try.prog 3 #[.slice a0 l0.length c0, .slice a1 l1.length c1] w0 fun e w' => e = .returned (.bool true) ∧ Below w0.heap.size w0 w' := by
  unfold maxLen at hm0 hm1
  by_cases hl : wrap64 ((l0.length : Int) + (l1.length : Int)) ≤ 1048576
  · have SM := hid hb
    have BB := hid (Below.refl w0.heap.size w0)
    have HA := hid ha
    clear ha hb
    go_enter Try.func3, Try.ntmps3
    go_wp2_with fail
    refine (c_DrawFateOf a0 l0 c0 w0 HA.out (by omega)).mono ?_
    rintro e w1 ⟨v, L, t, rfl, o, hL, hsL, t0, t1, b⟩
    replace SM := hid (SM.out.below b)
    replace BB := hid (BB.out.trans (b.mono BB.out.size))
    clear b
    obtain ⟨aL, cL, rfl, _⟩ := o.form
    have OL := hid o
    clear o
    clear hsL HA
    have FAI := hid (fun h : ftK (histG L t) = true => fat_all h)
    have hk : (ftK (histG L t) != ftK (histG L t)) = false := by simp
    have CI := hid (fun W (h : Seg W aL L) (h2 : aL = none → cL = 0) => c_iFateOf aL L cL t W h h2 (by omega))
    have CS := hid (fun W (h : Seg W aL L) (h2 : aL = none → cL = 0) => c_sFateOf aL L cL t W h h2 (by omega))
    generalize ftV (histG L t) 0 = fa at *
    generalize ftV (histG L t) 1 = fe at *
    generalize ftV (histG L t) 2 = fx at *
    generalize ftV (histG L t) 3 = fy at *
    generalize ftK (histG L t) = ok at *
    go_wp2_with fail
    refine (CI.out w1 OL.out.seg OL.out.cap0).mono ?_
    rintro e w2 ⟨rfl, b⟩
    replace SM := hid (SM.out.below b)
    replace OL := hid (OL.out.below b)
    replace BB := hid (BB.out.trans (b.mono BB.out.size))
    clear b
    clear CI
    have ba := (Below.refl w2.heap.size w2).alloc (Nat.le_refl _) (.cells #[.int .i64 fa, .int .i64 fe, .int .i64 fx, .int .i64 fy] 27)
    replace SM := hid (SM.out.below ba)
    replace OL := hid (OL.out.below ba)
    replace BB := hid (BB.out.trans (ba.mono BB.out.size))
    have F := hid (FRow.new w2 fa fe fx fy)
    clear ba
    go_wp2_with fail
    generalize w2.alloc (.cells #[.int .i64 fa, .int .i64 fe, .int .i64 fx, .int .i64 fy] 27) = W2 at *
    generalize w2.heap.size = bF at *
    refine (CS.out W2 OL.out.seg OL.out.cap0).mono ?_
    rintro e w3 ⟨rfl, b⟩
    replace SM := hid (SM.out.below b)
    replace OL := hid (OL.out.below b)
    replace F := hid (F.out.below b)
    replace BB := hid (BB.out.trans (b.mono BB.out.size))
    clear b
    clear CS
    have ba := (Below.refl w3.heap.size w3).alloc (Nat.le_refl _) (.cells #[.int .i64 fa, .int .i64 fe, .int .i64 fx, .int .i64 fy] 27)
    replace SM := hid (SM.out.below ba)
    replace OL := hid (OL.out.below ba)
    replace F := hid (F.out.below ba)
    replace BB := hid (BB.out.trans (ba.mono BB.out.size))
    have G := hid (FRow.new w3 fa fe fx fy)
    clear ba
    have p0 := F.out.cell 0 (by omega)
    have p1 := F.out.cell 1 (by omega)
    have p2 := F.out.cell 2 (by omega)
    have p3 := F.out.cell 3 (by omega)
    have q0 := G.out.cell 0 (by omega)
    have q1 := G.out.cell 1 (by omega)
    have q2 := G.out.cell 2 (by omega)
    have q3 := G.out.cell 3 (by omega)
    simp only [reduceIte, Nat.reduceEqDiff] at p0 p1 p2 p3 q0 q1 q2 q3
    have hfa : (fa != fa) = false := by simp
    have hfe : (fe != fe) = false := by simp
    have hfx : (fx != fx) = false := by simp
    have hfy : (fy != fy) = false := by simp
    go_upto_if 78 with fail
    generalize w3.alloc (.cells #[.int .i64 fa, .int .i64 fe, .int .i64 fx, .int .i64 fy] 27) = W3 at *
    generalize w3.heap.size = bG at *
    clear p0 p1 p2 p3 q0 q1 q2 q3 hfa hfe hfx hfy hk
    clear G
    refine wp_cut (fun a' wx => ∃ sl : Nat → Value, a' = Act.mk #[.slice a0 l0.length c0, .slice a1 l1.length c1, sl 2, sl 3, sl 4, sl 5, sl 6, sl 7, sl 8, sl 9, sl 10, sl 11, sl 12, sl 13, sl 14, sl 15, sl 16, sl 17, sl 18, sl 19, sl 20, sl 21, sl 22, sl 23, sl 24, sl 25, sl 26, sl 27, sl 28, sl 29, sl 30, sl 31, sl 32, sl 33, sl 34, sl 35, sl 36, sl 37, sl 38, sl 39, sl 40, sl 41, sl 42, sl 43, sl 44, sl 45, sl 46, sl 47, sl 48, sl 49, sl 50, sl 51, sl 52, sl 53, sl 54, sl 55, sl 56, sl 57, sl 58, sl 59, sl 60, sl 61, sl 62, sl 63, sl 64, sl 65, sl 66, sl 67, sl 68, sl 69, sl 70, sl 71, sl 72, sl 73, sl 74, sl 75, sl 76, sl 77, sl 78, sl 79, sl 80, sl 81, sl 82, sl 83, sl 84, sl 85, sl 86, sl 87, sl 88, sl 89, sl 90, sl 91, sl 92, sl 93, sl 94, sl 95, sl 96, sl 97, sl 98, sl 99, sl 100, sl 101, sl 102, sl 103, sl 104, sl 105, sl 106, sl 107, sl 108, sl 109, sl 110, sl 111, sl 112, sl 113, sl 114, sl 115, sl 116, sl 117, sl 118, sl 119, sl 120, sl 121, sl 122, sl 123, sl 124, sl 125, sl 126, sl 127, sl 128, sl 129, sl 130, sl 131, sl 132, sl 133, sl 134, sl 135, sl 136, sl 137, sl 138, sl 139, sl 140, sl 141, sl 142, sl 143, sl 144, sl 145, sl 146, sl 147, sl 148, sl 149, sl 150, sl 151, sl 152, sl 153, sl 154, sl 155, sl 156, sl 157, sl 158, sl 159, sl 160, sl 161, sl 162, sl 163, sl 164, sl 165, sl 166, sl 167, sl 168, sl 169, sl 170, sl 171, sl 172, sl 173, sl 174, sl 175, sl 176, sl 177, sl 178, sl 179, sl 180, sl 181, sl 182, sl 183, sl 184, sl 185, sl 186, sl 187, sl 188, sl 189, sl 190, sl 191, sl 192, sl 193, sl 194, sl 195, sl 196, sl 197, sl 198, sl 199, sl 200, sl 201, sl 202, sl 203, sl 204, sl 205, sl 206, sl 207, sl 208, sl 209, sl 210, sl 211, sl 212, sl 213, sl 214, sl 215, sl 216, sl 217, sl 218, sl 219, sl 220, sl 221, sl 222, sl 223, sl 224, sl 225, sl 226, sl 227, sl 228, sl 229, sl 230, sl 231, sl 232, sl 233, sl 234, sl 235, sl 236, sl 237, sl 238, sl 239, sl 240, sl 241, sl 242, sl 243, sl 244, sl 245, sl 246, sl 247, sl 248, sl 249, sl 250, sl 251, sl 252, sl 253, sl 254, sl 255, sl 256, sl 257, sl 258, sl 259, sl 260, sl 261, sl 262, sl 263, sl 264, sl 265, sl 266, sl 267, sl 268, sl 269, sl 270, sl 271, sl 272, sl 273, sl 274, sl 275, sl 276, sl 277, sl 278, sl 279, sl 280, sl 281, sl 282, sl 283, sl 284, sl 285, sl 286, sl 287, sl 288, sl 289, sl 290, sl 291, sl 292, sl 293, sl 294, sl 295, sl 296, sl 297, sl 298, sl 299, sl 300, sl 301, sl 302, sl 303, sl 304, sl 305, sl 306, sl 307, sl 308, sl 309, sl 310, sl 311, sl 312, sl 313, sl 314, sl 315, sl 316, sl 317, sl 318] [] ∧ Hid (BSeg wx a1 l1) ∧ Hid (Below w0.heap.size w0 wx)) ?rest ?first
    case first =>
      intro J K' hJ hK
      cases ok
      case false =>
        go_wp2_with fail
        refine Met.intro (hJ _ _ (meet_fun ⟨hid SM.out, hid BB.out⟩ ?_))
        kernel_rfl
      case true =>
        obtain ⟨o1, o2, o3, o4, e1, e2, x1, x2, y1, y2, on⟩ := FAI.out rfl
        clear FAI
        have O1 := hid o1
        have O2 := hid o2
        have O3 := hid o3
        have O4 := hid o4
        have ON := hid on
        clear o1 o2 o3 o4 on
        have hAl := timesL_le L fa
        have hBl := timesL_le (timesL L fa) fe
        have p0 := F.out.cell 0 (by omega)
        have p1 := F.out.cell 1 (by omega)
        have p2 := F.out.cell 2 (by omega)
        have p3 := F.out.cell 3 (by omega)
        simp only [reduceIte, Nat.reduceEqDiff] at p0 p1 p2 p3
        go_wp2_with fail
        have CC := hid (c_iStepTimes aL L cL fa W3 OL.out.seg OL.out.cap0 (by omega))
        rw [O1.out] at CC
        refine CC.out.mono ?_
        rintro e w4 ⟨v, rfl, o, b⟩
        replace SM := hid (SM.out.below b)
        replace OL := hid (OL.out.below b)
        replace F := hid (F.out.below b)
        replace BB := hid (BB.out.trans (b.mono BB.out.size))
        clear b CC
        clear p0 p1 p2 p3
        obtain ⟨aA, cA, rfl, _⟩ := o.form
        have OA := hid o
        clear o
        clear OL
        generalize timesL L fa = A at *
        have p0 := F.out.cell 0 (by omega)
        have p1 := F.out.cell 1 (by omega)
        have p2 := F.out.cell 2 (by omega)
        have p3 := F.out.cell 3 (by omega)
        simp only [reduceIte, Nat.reduceEqDiff] at p0 p1 p2 p3
        go_wp2_with fail
        have CC := hid (c_iStepTimes aA A cA fe w4 OA.out.seg OA.out.cap0 (by omega))
        rw [O2.out] at CC
        refine CC.out.mono ?_
        rintro e w5 ⟨v, rfl, o, b⟩
        replace SM := hid (SM.out.below b)
        replace F := hid (F.out.below b)
        replace OA := hid (OA.out.below b)
        replace BB := hid (BB.out.trans (b.mono BB.out.size))
        clear b CC
        clear p0 p1 p2 p3
        obtain ⟨aB, cB, rfl, _⟩ := o.form
        have OB := hid o
        clear o
        generalize timesL A fe = B at *
        have p0 := F.out.cell 0 (by omega)
        have p1 := F.out.cell 1 (by omega)
        have p2 := F.out.cell 2 (by omega)
        have p3 := F.out.cell 3 (by omega)
        simp only [reduceIte, Nat.reduceEqDiff] at p0 p1 p2 p3
        go_wp2_with fail
        have CC := hid (c_iMoveCells aA A cA fx fy w5 OA.out.seg (by omega))
        rw [O3.out, O4.out] at CC
        refine CC.out.mono ?_
        rintro e w6 ⟨v, rfl, o, b⟩
        replace SM := hid (SM.out.below b)
        replace F := hid (F.out.below b)
        replace OA := hid (OA.out.below b)
        replace OB := hid (OB.out.below b)
        replace BB := hid (BB.out.trans (b.mono BB.out.size))
        clear b CC
        clear p0 p1 p2 p3
        obtain ⟨aM, cM, rfl, _⟩ := o.form
        have OM := hid o
        clear o
        clear OA
        clear O1 O2 O3 O4
        have p0 := F.out.cell 0 (by omega)
        have p1 := F.out.cell 1 (by omega)
        have p2 := F.out.cell 2 (by omega)
        have p3 := F.out.cell 3 (by omega)
        simp only [reduceIte, Nat.reduceEqDiff] at p0 p1 p2 p3
        have n1 : ¬ fe < 1 := by omega
        have n2 : ¬ fe < fx := by omega
        have n3 : ¬ fe < -fx := by omega
        have n4 : ¬ fe < fy := by omega
        have n5 : ¬ fe < -fy := by omega
        go_wp2_with fail
        have CC := hid (c_sameCells aM aB B B cM cB w6 OM.out.seg OB.out.seg (by omega) (by omega))
        rw [show decide (B = B) = true from by simp] at CC
        refine CC.out.mono ?_
        rintro e w7 ⟨rfl, b⟩
        replace SM := hid (SM.out.below b)
        replace F := hid (F.out.below b)
        replace OB := hid (OB.out.below b)
        replace OM := hid (OM.out.below b)
        replace BB := hid (BB.out.trans (b.mono BB.out.size))
        clear b CC
        clear p0 p1 p2 p3
        clear OM
        have p0 := F.out.cell 0 (by omega)
        have p1 := F.out.cell 1 (by omega)
        have p2 := F.out.cell 2 (by omega)
        have p3 := F.out.cell 3 (by omega)
        simp only [reduceIte, Nat.reduceEqDiff] at p0 p1 p2 p3
        have hCl := timesL_le B fe
        have hDl := moveL_le B fx fy
        go_wp2_with fail
        refine (c_iStepTimes aB B cB fe w7 OB.out.seg OB.out.cap0 (by omega)).mono ?_
        rintro e w8 ⟨v, rfl, o, b⟩
        replace SM := hid (SM.out.below b)
        replace F := hid (F.out.below b)
        replace OB := hid (OB.out.below b)
        replace BB := hid (BB.out.trans (b.mono BB.out.size))
        clear b
        clear p0 p1 p2 p3
        obtain ⟨aC, cC, rfl, _⟩ := o.form
        have OC := hid o
        clear o
        have p0 := F.out.cell 0 (by omega)
        have p1 := F.out.cell 1 (by omega)
        have p2 := F.out.cell 2 (by omega)
        have p3 := F.out.cell 3 (by omega)
        simp only [reduceIte, Nat.reduceEqDiff] at p0 p1 p2 p3
        go_wp2_with fail
        refine (c_iMoveCells aB B cB fx fy w8 OB.out.seg (by omega)).mono ?_
        rintro e w9 ⟨v, rfl, o, b⟩
        replace SM := hid (SM.out.below b)
        replace F := hid (F.out.below b)
        replace OB := hid (OB.out.below b)
        replace OC := hid (OC.out.below b)
        replace BB := hid (BB.out.trans (b.mono BB.out.size))
        clear b
        clear p0 p1 p2 p3
        obtain ⟨aD, cD, rfl, _⟩ := o.form
        have OD := hid o
        clear o
        clear OB F
        generalize timesOk B fe = fo at *
        generalize moveOk B fx fy = fi at *
        generalize timesL B fe = C at *
        generalize moveL B fx fy = D at *
        cases fo <;> cases fi
        case false.false => 
          go_wp2_with fail
          refine Met.intro (hJ _ _ (meet_fun ⟨hid SM.out, hid BB.out⟩ ?_))
          kernel_rfl
        case false.true => 
          go_wp2_with fail
          refine Met.intro (hJ _ _ (meet_fun ⟨hid SM.out, hid BB.out⟩ ?_))
          kernel_rfl
        case true.false => 
          go_wp2_with fail
          refine Met.intro (hJ _ _ (meet_fun ⟨hid SM.out, hid BB.out⟩ ?_))
          kernel_rfl
        case true.true =>
          obtain rfl := ON.out rfl rfl
          clear ON
          go_wp2_with fail
          have CC := hid (c_sameCells aC aD C C cC cD w9 OC.out.seg OD.out.seg (by omega) (by omega))
          rw [show decide (C = C) = true from by simp] at CC
          refine CC.out.mono ?_
          rintro e w10 ⟨rfl, b⟩
          replace SM := hid (SM.out.below b)
          replace OC := hid (OC.out.below b)
          replace OD := hid (OD.out.below b)
          replace BB := hid (BB.out.trans (b.mono BB.out.size))
          clear b CC
          go_wp2_with fail
          refine Met.intro (hJ _ _ (meet_fun ⟨hid SM.out, hid BB.out⟩ ?_))
          kernel_rfl
    case rest =>
      clear SM BB F OL FAI
      rintro _ wc ⟨sl, rfl, SM, BB⟩
      go_wp2_with fail
      refine (c_DrawHomeOf a1 l1 c1 wc SM.out (by omega)).mono ?_
      rintro e w4 ⟨v, U, rfl, o, hU, hsU, b⟩
      replace SM := hid (SM.out.below b)
      replace BB := hid (BB.out.trans (b.mono BB.out.size))
      clear b
      obtain ⟨aU, cU, rfl, _⟩ := o.form
      have OU := hid o
      clear o
      clear hsU
      have HBK := hid (fun h : homeOk U = true => home_back h)
      have CI := hid (fun W (h : Seg W aU U) => c_iHomeOf aU U cU W h (by omega))
      have CS := hid (fun W (h : Seg W aU U) => c_sHomeOf aU U cU W h (by omega))
      have hHl : (homeL U).length ≤ 1048576 := by have := homeL_le U; omega
      generalize homeL U = HL at *
      generalize (homeC U).1 = x1 at *
      generalize (homeC U).2 = x2 at *
      generalize homeOk U = one at *
      go_wp2_with fail
      refine (CI.out w4 OU.out.seg).mono ?_
      rintro e w5 ⟨v, rfl, o, b⟩
      replace SM := hid (SM.out.below b)
      replace OU := hid (OU.out.below b)
      replace BB := hid (BB.out.trans (b.mono BB.out.size))
      clear b
      obtain ⟨aH, cH, rfl, _⟩ := o.form
      have OH := hid o
      clear o
      clear CI
      have ba := (Below.refl w5.heap.size w5).alloc (Nat.le_refl _) (.cells #[.int .i64 x1, .int .i64 x2] 36)
      replace SM := hid (SM.out.below ba)
      replace OU := hid (OU.out.below ba)
      replace OH := hid (OH.out.below ba)
      replace BB := hid (BB.out.trans (ba.mono BB.out.size))
      have X := hid (WRow.new w5 (.int .i64 x1) x2 36)
      clear ba
      go_wp2_with fail
      generalize w5.alloc (.cells #[.int .i64 x1, .int .i64 x2] 36) = W5 at *
      generalize w5.heap.size = bX at *
      refine (CS.out W5 OU.out.seg).mono ?_
      rintro e w6 ⟨v, rfl, o, b⟩
      replace SM := hid (SM.out.below b)
      replace OU := hid (OU.out.below b)
      replace OH := hid (OH.out.below b)
      replace X := hid (X.out.below b)
      replace BB := hid (BB.out.trans (b.mono BB.out.size))
      clear b
      obtain ⟨aI, cI, rfl, _⟩ := o.form
      have OI := hid o
      clear o
      clear CS
      have ba := (Below.refl w6.heap.size w6).alloc (Nat.le_refl _) (.cells #[.int .i64 x1, .int .i64 x2] 36)
      replace SM := hid (SM.out.below ba)
      replace OU := hid (OU.out.below ba)
      replace OH := hid (OH.out.below ba)
      replace X := hid (X.out.below ba)
      replace OI := hid (OI.out.below ba)
      replace BB := hid (BB.out.trans (ba.mono BB.out.size))
      have Y := hid (WRow.new w6 (.int .i64 x1) x2 36)
      clear ba
      go_wp2_with fail
      generalize w6.alloc (.cells #[.int .i64 x1, .int .i64 x2] 36) = W6 at *
      generalize w6.heap.size = bY at *
      refine (c_DrawLoneParts a1 l1 c1 W6 SM.out (by omega)).mono ?_
      rintro e w7 ⟨v, V, rfl, o, hV, hsV, b⟩
      replace SM := hid (SM.out.below b)
      replace OU := hid (OU.out.below b)
      replace OH := hid (OH.out.below b)
      replace X := hid (X.out.below b)
      replace OI := hid (OI.out.below b)
      replace Y := hid (Y.out.below b)
      replace BB := hid (BB.out.trans (b.mono BB.out.size))
      clear b
      obtain ⟨aV, cV, rfl, _⟩ := o.form
      have OV := hid o
      clear o
      clear hsV
      clear SM
      have PF := hid (fun h : good V = true => (⟨sumS_all h, fun g q => own_ways h g q⟩ : sumS (lpL V) (lpL V).length = V.length ∧ ((allS (lpL V) (lpL V).length).2 = true → stepOk V = true → (allS (lpL V) (lpL V).length).1 = stepL V)))
      have hPn := lpL_len V
      have HPE := hid (fun i (hi : i < (lpL V).length) => lpL_each V hi)
      have hty := hid OV.out.ty
      have hcp : V.length ≤ cV := own_cap OV.out
      have CI := hid (fun W (h : Seg W aV V) (h2 : Ty W aV) => c_iLoneParts aV V cV W h h2 hcp (by omega))
      have CS := hid (fun W (h : Seg W aV V) => c_sLoneParts aV V cV W h (by omega))
      clear hty hcp
      generalize lpL V = P at *
      generalize good V = three at *
      go_wp2_with fail
      refine (CI.out w7 OV.out.seg OV.out.ty).mono ?_
      rintro e w8 ⟨v, vs1, rfl, o, b⟩
      replace OU := hid (OU.out.below b)
      replace OH := hid (OH.out.below b)
      replace X := hid (X.out.below b)
      replace OI := hid (OI.out.below b)
      replace Y := hid (Y.out.below b)
      replace OV := hid (OV.out.below b)
      replace BB := hid (BB.out.trans (b.mono BB.out.size))
      clear b
      obtain ⟨aP, cP, rfl, _, _⟩ := o.form
      have OP := hid o
      clear o
      clear CI
      go_wp2_with fail
      refine (CS.out w8 OV.out.seg).mono ?_
      rintro e w9 ⟨v, vs2, rfl, o, b⟩
      replace OU := hid (OU.out.below b)
      replace OH := hid (OH.out.below b)
      replace X := hid (X.out.below b)
      replace OI := hid (OI.out.below b)
      replace Y := hid (Y.out.below b)
      replace OV := hid (OV.out.below b)
      replace OP := hid (OP.out.below b)
      replace BB := hid (BB.out.trans (b.mono BB.out.size))
      clear b
      obtain ⟨aQ, cQ, rfl, _, _⟩ := o.form
      have OQ := hid o
      clear o
      clear CS
      have x0 := X.out.c0
      have xx := X.out.c1
      have y0 := Y.out.c0
      have yy := Y.out.c1
      have k1 : (one != one) = false := by simp
      have k2 : (three != three) = false := by simp
      have k3 : (x1 != x1) = false := by simp
      have k4 : (x2 != x2) = false := by simp
      have k5 : ((P.length : Int) != (P.length : Int)) = false := by simp
      go_wp2_with fail
      have CC := hid (c_sameCells aH aI HL HL cH cI w9 OH.out.seg OI.out.seg (by omega) (by omega))
      rw [show decide (HL = HL) = true from by simp] at CC
      refine CC.out.mono ?_
      rintro e w10 ⟨rfl, b⟩
      replace OU := hid (OU.out.below b)
      replace OH := hid (OH.out.below b)
      replace X := hid (X.out.below b)
      replace OI := hid (OI.out.below b)
      replace Y := hid (Y.out.below b)
      replace OV := hid (OV.out.below b)
      replace OP := hid (OP.out.below b)
      replace OQ := hid (OQ.out.below b)
      replace BB := hid (BB.out.trans (b.mono BB.out.size))
      clear b CC
      clear x0 xx y0 yy
      clear Y OI
      have HOP := hid OP.out
      have HOQ := hid OQ.out
      go_wp2_with fail
      go_loopw [33, 233] (fun nv iv wr => ∃ i : Nat, i ≤ P.length ∧ iv = .int .i64 (i : Int) ∧ nv = .int .i64 (sumS P i : Int) ∧ sumS P i ≤ i * 120 ∧ Hid (Below w10.heap.size w10 wr)) (fun _ iv _ => P.length - (intOf iv).toNat)
      case atStart => exact ⟨0, by omega, rfl, rfl, Nat.zero_le _, Below.refl _ _⟩
      case round =>
        obtain ⟨i, hi, rfl, rfl, hsm, HB⟩ := hrel
        by_cases hit : i < P.length
        · have i0 : (0 : Int) ≤ (i : Int) := by omega
          have i1 : (i : Int) < (P.length : Int) := by omega
          obtain ⟨g1, a1', c1', e1, -, hg1, e1b, p1⟩ := (HOP.out.below HB.out).at (j := i) hit
          obtain ⟨g2, a2', c2', e2, -, hg2, e2b, p2⟩ := (HOQ.out.below HB.out).at (j := i) hit
          have hs1 := (HOP.out.below HB.out).each i hit
          rw [e1b] at hs1
          have hs2 := (HOQ.out.below HB.out).each i hit
          rw [e2b] at hs2
          subst e1
          subst e2
          have HS1 := hid (hs1.seg.below ((Below.refl wr.heap.size wr).drew))
          have HS2 := hid (hs2.seg.below ((Below.refl wr.heap.size wr).drew))
          have hxl := HPE.out i hit
          have HSS := hid (sumS_succ hit)
          generalize hx : ht P i = x at *
          generalize hsn : sumS P i = sn at *
          clear hs1 hs2 e1b e2b OP OQ hx hsn
          have dx : decide (x = x) = true := by simp
          have CS := c_sameCells a1' a2' x x c1' c2' wr.drew HS1.out HS2.out (by omega) (by omega)
          rw [dx] at CS
          have HCS := hid CS
          clear CS dx
          go_wp2
          go_region_held3 (fun W => W.cell? ⟨g1, i, none⟩ = some (.slice a1' x.length c1') ∧ W.cell? ⟨g2, i, none⟩ = some (.slice a2' x.length c2'))
            (first | exact ⟨p1, p2⟩ | exact ⟨((ofDrew b).cell (p := ⟨g1, i, none⟩) hg1).trans p1, ((ofDrew b).cell (p := ⟨g2, i, none⟩) hg2).trans p2⟩ | go_keep)
            (first | (go_at_call 18; refine HCS.out.mono ?_; rintro e z1 ⟨rfl, b⟩; have HB1 := hid (HB.out.trans ((ofDrew b).mono HB.out.size))))
          go_wp2
          go_roundw
          case rel => exact ⟨i + 1, by omega, by go_num, by rw [HSS.out]; go_num, by rw [HSS.out]; omega, HB1.out⟩
          case measure => simp [intOf]; omega
        · obtain rfl : i = P.length := by omega
          have b := HB.out
          replace OU := hid (OU.out.below b)
          replace OH := hid (OH.out.below b)
          replace X := hid (X.out.below b)
          replace OV := hid (OV.out.below b)
          replace OP := hid (OP.out.below b)
          replace OQ := hid (OQ.out.below b)
          replace BB := hid (BB.out.trans (b.mono BB.out.size))
          clear b HB
          clear HOP HOQ k1 k2 k3 k4 k5 hit hi
          clear OQ
          have PFX := hid (show three = true → sumS P P.length = V.length from fun h => (PF.out h).1)
          generalize sumS P P.length = sn at *
          cases three
          case false =>
            clear OV OP
            clear PF PFX
            cases one
            case false =>
              go_wp2
              go_ret
              exact ⟨rfl, BB.out⟩
            case true =>
              obtain ⟨r1, r2⟩ := HBK.out rfl
              have R1 := hid r1
              have R2 := hid r2
              clear r1 r2 HBK
              have x0 := X.out.c0
              have xx := X.out.c1
              go_wp2_with fail
              have CC := hid (c_iMoveCells aH HL cH x1 x2 wr OH.out.seg (by omega))
              rw [R1.out, R2.out] at CC
              refine CC.out.mono ?_
              rintro e w12 ⟨v, rfl, o, b⟩
              replace OU := hid (OU.out.below b)
              replace OH := hid (OH.out.below b)
              replace X := hid (X.out.below b)
              replace BB := hid (BB.out.trans (b.mono BB.out.size))
              clear b CC
              obtain ⟨aZ, cZ, rfl, _⟩ := o.form
              have OZ := hid o
              clear o
              clear x0 xx
              go_wp2_with fail
              have CC := hid (c_sameCells aZ aU U U cZ cU w12 OZ.out.seg OU.out.seg (by omega) (by omega))
              rw [show decide (U = U) = true from by simp] at CC
              refine CC.out.mono ?_
              rintro e w13 ⟨rfl, b⟩
              replace OU := hid (OU.out.below b)
              replace OH := hid (OH.out.below b)
              replace X := hid (X.out.below b)
              replace OZ := hid (OZ.out.below b)
              replace BB := hid (BB.out.trans (b.mono BB.out.size))
              clear b CC
              go_wp2
              go_ret
              exact ⟨rfl, BB.out⟩
          case true =>
            obtain ⟨-, q2⟩ := PF.out rfl
            have q1 := PFX.out rfl
            have Q2 := hid q2
            clear q2 PF PFX
            subst q1
            have HOP := hid OP.out
            have hAl := allS_le P
            go_wp2_with fail
            go_loopw [35, 36, 257] (fun av gv iv wz => ∃ i : Nat, i ≤ P.length ∧ iv = .int .i64 (i : Int) ∧ gv = .bool (allS P i).2 ∧ OwnS wz wr.heap.size av (allS P i).1 ∧ Hid (Below wr.heap.size wr wz)) (fun _ _ iv _ => P.length - (intOf iv).toNat)
            case atStart => exact ⟨0, Nat.zero_le _, rfl, rfl, OwnS.nil _ _, Below.refl _ _⟩
            case round =>
              rename_i wz _
              obtain ⟨i, hi, rfl, rfl, oA, HB⟩ := hrel
              obtain ⟨aA, cA, rfl, _⟩ := oA.form
              have OA := hid oA
              clear oA
              by_cases hit : i < P.length
              · have i0 : (0 : Int) ≤ (i : Int) := by omega
                have i1 : (i : Int) < (P.length : Int) := by omega
                obtain ⟨g1, a1', c1', e1, -, hg1, e1b, p1⟩ := (HOP.out.below HB.out).at (j := i) hit
                have hs1 := (HOP.out.below HB.out).each i hit
                rw [e1b] at hs1
                subst e1
                have HS1 := hid hs1.seg
                have hxl := HPE.out i hit
                have hyl := stepL_le (ht P i)
                have hal := hAl i
                have AS : allS P (i + 1) = (bothL (allS P i).1 (stepL (ht P i)), ((allS P i).2 && stepOk (ht P i)) && bothOk (allS P i).1 (stepL (ht P i))) := rfl
                have HAS := hid AS
                clear AS hs1 e1b
                generalize hx : ht P i = x at *
                generalize hac : (allS P i).1 = ac at *
                generalize hgd : (allS P i).2 = gd at *
                clear hx hac hgd
                go_wp2_with fail
                refine (c_iStepCells a1' x c1' wr HS1.out (by omega)).mono ?_
                rintro e z1 ⟨v, rfl, o, b⟩
                obtain ⟨aS, cS, rfl, _⟩ := o.form
                have OS := hid o
                have HB1 := hid (HB.out.trans (b.mono HB.out.size))
                replace OA := hid (OA.out.below b)
                clear o b p1
                generalize stepL x = sx at *
                generalize stepOk x = fv at *
                have CB := hid (c_iBothCells aA aS ac sx cA cS z1 OA.out.seg OS.out.seg (by omega) (by omega))
                generalize bothL ac sx = bl at *
                generalize bothOk ac sx = bo at *
                cases gd <;> cases fv <;> cases bo
                all_goals
                  go_wp2_with fail
                  refine CB.out.mono ?_
                  rintro e z2 ⟨v, rfl, o, b⟩
                  have HB2 := hid (HB1.out.trans (b.mono HB1.out.size))
                  have hz := HB1.out.size
                  have OF := hid (o.mono hz)
                  clear o b
                  go_wp2_with fail
                  go_roundw
                  case rel => exact ⟨i + 1, by omega, by go_num, by rw [HAS.out]; rfl, by rw [HAS.out]; exact OF.out, HB2.out⟩
                  case measure => simp [intOf]; omega
              · obtain rfl : i = P.length := by omega
                clear OP
                have b := HB.out
                replace OU := hid (OU.out.below b)
                replace OH := hid (OH.out.below b)
                replace X := hid (X.out.below b)
                replace OV := hid (OV.out.below b)
                replace BB := hid (BB.out.trans (b.mono BB.out.size))
                clear b HB
                have hal := hAl P.length
                have hsl := stepL_le V
                clear HOP hAl hit hi
                generalize (allS P P.length).1 = ac at *
                generalize (allS P P.length).2 = gd at *
                go_wp2_with fail
                refine (c_iStepCells aV V cV wr OV.out.seg (by omega)).mono ?_
                rintro e w13 ⟨v, rfl, o, b⟩
                replace OU := hid (OU.out.below b)
                replace OH := hid (OH.out.below b)
                replace X := hid (X.out.below b)
                replace OV := hid (OV.out.below b)
                replace OA := hid (OA.out.below b)
                replace BB := hid (BB.out.trans (b.mono BB.out.size))
                clear b
                obtain ⟨aS, cS, rfl, _⟩ := o.form
                have OS := hid o
                clear o
                clear OV
                generalize stepL V = sx at *
                generalize stepOk V = fv at *
                have kn : ((V.length : Int) != (V.length : Int)) = false := by simp
                cases gd <;> cases fv
                case false.false =>
                  clear OA OS
                  clear Q2
                  cases one
                  case false =>
                    go_wp2
                    go_ret
                    exact ⟨rfl, BB.out⟩
                  case true =>
                    obtain ⟨r1, r2⟩ := HBK.out rfl
                    have R1 := hid r1
                    have R2 := hid r2
                    clear r1 r2 HBK
                    have x0 := X.out.c0
                    have xx := X.out.c1
                    go_wp2_with fail
                    have CC := hid (c_iMoveCells aH HL cH x1 x2 w13 OH.out.seg (by omega))
                    rw [R1.out, R2.out] at CC
                    refine CC.out.mono ?_
                    rintro e w14 ⟨v, rfl, o, b⟩
                    replace OU := hid (OU.out.below b)
                    replace OH := hid (OH.out.below b)
                    replace X := hid (X.out.below b)
                    replace BB := hid (BB.out.trans (b.mono BB.out.size))
                    clear b CC
                    obtain ⟨aZ, cZ, rfl, _⟩ := o.form
                    have OZ := hid o
                    clear o
                    clear x0 xx
                    go_wp2_with fail
                    have CC := hid (c_sameCells aZ aU U U cZ cU w14 OZ.out.seg OU.out.seg (by omega) (by omega))
                    rw [show decide (U = U) = true from by simp] at CC
                    refine CC.out.mono ?_
                    rintro e w15 ⟨rfl, b⟩
                    replace OU := hid (OU.out.below b)
                    replace OH := hid (OH.out.below b)
                    replace X := hid (X.out.below b)
                    replace OZ := hid (OZ.out.below b)
                    replace BB := hid (BB.out.trans (b.mono BB.out.size))
                    clear b CC
                    go_wp2
                    go_ret
                    exact ⟨rfl, BB.out⟩
                case false.true =>
                  clear OA OS
                  clear Q2
                  cases one
                  case false =>
                    go_wp2
                    go_ret
                    exact ⟨rfl, BB.out⟩
                  case true =>
                    obtain ⟨r1, r2⟩ := HBK.out rfl
                    have R1 := hid r1
                    have R2 := hid r2
                    clear r1 r2 HBK
                    have x0 := X.out.c0
                    have xx := X.out.c1
                    go_wp2_with fail
                    have CC := hid (c_iMoveCells aH HL cH x1 x2 w13 OH.out.seg (by omega))
                    rw [R1.out, R2.out] at CC
                    refine CC.out.mono ?_
                    rintro e w14 ⟨v, rfl, o, b⟩
                    replace OU := hid (OU.out.below b)
                    replace OH := hid (OH.out.below b)
                    replace X := hid (X.out.below b)
                    replace BB := hid (BB.out.trans (b.mono BB.out.size))
                    clear b CC
                    obtain ⟨aZ, cZ, rfl, _⟩ := o.form
                    have OZ := hid o
                    clear o
                    clear x0 xx
                    go_wp2_with fail
                    have CC := hid (c_sameCells aZ aU U U cZ cU w14 OZ.out.seg OU.out.seg (by omega) (by omega))
                    rw [show decide (U = U) = true from by simp] at CC
                    refine CC.out.mono ?_
                    rintro e w15 ⟨rfl, b⟩
                    replace OU := hid (OU.out.below b)
                    replace OH := hid (OH.out.below b)
                    replace X := hid (X.out.below b)
                    replace OZ := hid (OZ.out.below b)
                    replace BB := hid (BB.out.trans (b.mono BB.out.size))
                    clear b CC
                    go_wp2
                    go_ret
                    exact ⟨rfl, BB.out⟩
                case true.false =>
                  clear OA OS
                  clear Q2
                  cases one
                  case false =>
                    go_wp2
                    go_ret
                    exact ⟨rfl, BB.out⟩
                  case true =>
                    obtain ⟨r1, r2⟩ := HBK.out rfl
                    have R1 := hid r1
                    have R2 := hid r2
                    clear r1 r2 HBK
                    have x0 := X.out.c0
                    have xx := X.out.c1
                    go_wp2_with fail
                    have CC := hid (c_iMoveCells aH HL cH x1 x2 w13 OH.out.seg (by omega))
                    rw [R1.out, R2.out] at CC
                    refine CC.out.mono ?_
                    rintro e w14 ⟨v, rfl, o, b⟩
                    replace OU := hid (OU.out.below b)
                    replace OH := hid (OH.out.below b)
                    replace X := hid (X.out.below b)
                    replace BB := hid (BB.out.trans (b.mono BB.out.size))
                    clear b CC
                    obtain ⟨aZ, cZ, rfl, _⟩ := o.form
                    have OZ := hid o
                    clear o
                    clear x0 xx
                    go_wp2_with fail
                    have CC := hid (c_sameCells aZ aU U U cZ cU w14 OZ.out.seg OU.out.seg (by omega) (by omega))
                    rw [show decide (U = U) = true from by simp] at CC
                    refine CC.out.mono ?_
                    rintro e w15 ⟨rfl, b⟩
                    replace OU := hid (OU.out.below b)
                    replace OH := hid (OH.out.below b)
                    replace X := hid (X.out.below b)
                    replace OZ := hid (OZ.out.below b)
                    replace BB := hid (BB.out.trans (b.mono BB.out.size))
                    clear b CC
                    go_wp2
                    go_ret
                    exact ⟨rfl, BB.out⟩
                case true.true =>
                  obtain rfl := Q2.out rfl rfl
                  clear Q2
                  go_wp2_with fail
                  have CC := hid (c_sameCells aA aS ac ac cA cS w13 OA.out.seg OS.out.seg (by omega) (by omega))
                  rw [show decide (ac = ac) = true from by simp] at CC
                  refine CC.out.mono ?_
                  rintro e w14 ⟨rfl, b⟩
                  replace OU := hid (OU.out.below b)
                  replace OH := hid (OH.out.below b)
                  replace X := hid (X.out.below b)
                  replace OA := hid (OA.out.below b)
                  replace OS := hid (OS.out.below b)
                  replace BB := hid (BB.out.trans (b.mono BB.out.size))
                  clear b CC
                  clear OA OS
                  cases one
                  case false =>
                    go_wp2
                    go_ret
                    exact ⟨rfl, BB.out⟩
                  case true =>
                    obtain ⟨r1, r2⟩ := HBK.out rfl
                    have R1 := hid r1
                    have R2 := hid r2
                    clear r1 r2 HBK
                    have x0 := X.out.c0
                    have xx := X.out.c1
                    go_wp2_with fail
                    have CC := hid (c_iMoveCells aH HL cH x1 x2 w14 OH.out.seg (by omega))
                    rw [R1.out, R2.out] at CC
                    refine CC.out.mono ?_
                    rintro e w15 ⟨v, rfl, o, b⟩
                    replace OU := hid (OU.out.below b)
                    replace OH := hid (OH.out.below b)
                    replace X := hid (X.out.below b)
                    replace BB := hid (BB.out.trans (b.mono BB.out.size))
                    clear b CC
                    obtain ⟨aZ, cZ, rfl, _⟩ := o.form
                    have OZ := hid o
                    clear o
                    clear x0 xx
                    go_wp2_with fail
                    have CC := hid (c_sameCells aZ aU U U cZ cU w15 OZ.out.seg OU.out.seg (by omega) (by omega))
                    rw [show decide (U = U) = true from by simp] at CC
                    refine CC.out.mono ?_
                    rintro e w16 ⟨rfl, b⟩
                    replace OU := hid (OU.out.below b)
                    replace OH := hid (OH.out.below b)
                    replace X := hid (X.out.below b)
                    replace OZ := hid (OZ.out.below b)
                    replace BB := hid (BB.out.trans (b.mono BB.out.size))
                    clear b CC
                    go_wp2
                    go_ret
                    exact ⟨rfl, BB.out⟩
  · have hz : (1048576 : Int) < wrap64 ((l0.length : Int) + (l1.length : Int)) := by omega
    go_enter Try.func3, Try.ntmps3
    go_wp2
    go_ret
    exact ⟨rfl, Below.refl _ _⟩

set_option maxRecDepth 100000 in
theorem lifted (os : Os) (started : os.Started) (H : Type) (enc : TypeId × Value → H) :
    ReturnsInHanded {} Try.checked os 3 .any (Rows.fnFatesSpec.pre6 enc Try.prog Try.f3 Rows.fnFatesRow.domain false) (Rows.fnFatesSpec.post enc Try.prog Try.f3 false true false false) := by
  refine returnsInHanded_of_change (C := Try.checked) own started (by kernel_rfl) Try.func3
    (ChangeSpec.witness6 (enc := enc) (C := Try.checked) false ⟨#[], #[.slice none 0 0, .slice none 0 0], []⟩ 8 (by kernel_rfl) (by kernel_rfl) (by kernel_rfl) (by kernel_rfl)) ?_
  intro W base args ds gs before hval0 hW hcnd _
  have hval : ∀ (j : Nat) t v, Try.f3.params[j]? = some t → args[j]? = some v → Value.okWide Try.prog W .any base t v := hval0
  have hW' := hW
  obtain ⟨p, q, hA0, hV, rfl, hfz, hnd⟩ := hW
  have hA : DataW.TrodAll enc Try.prog W 0 (fun _ => true) true Try.f3.params.toList args.toList ds p := hA0
  rw [Try.params3] at hA hval
  obtain ⟨v0, vs0, d0, ds0, p0, q0, hargs, rfl, rfl, h0, r0⟩ := trodAll_cons hA
  obtain ⟨v1, vs1, d1, ds1, p1, q1, rfl, rfl, rfl, h1, r1⟩ := trodAll_cons r0
  obtain ⟨rfl, rfl, rfl⟩ := trodAll_nil r1
  obtain rfl : args = #[v0, v1] := by cases args; simp_all
  obtain ⟨rfl, rfl⟩ := trodVars_none hV
  have k0 := h0
  have lt0 : ∀ x ∈ p0, x.block < W.heap.size := by obtain ⟨m, hm⟩ := k0; exact DataW.trod_lt m _ _ _ hm
  obtain ⟨a0, len0, cap0, rfl⟩ := okWide_slice Try.underlying22 (hval 0 22 v0 rfl rfl)
  obtain ⟨l0, rfl, m0, s0⟩ : ∃ l : List Int, l.length = len0 ∧ l.length ≤ maxLen ∧ BSeg W a0 l := by
    obtain ⟨fuel, hf⟩ := h0
    exact open_bytes hf
  have k1 := h1
  have lt1 : ∀ x ∈ p1, x.block < W.heap.size := by obtain ⟨m, hm⟩ := k1; exact DataW.trod_lt m _ _ _ hm
  obtain ⟨a1, len1, cap1, rfl⟩ := okWide_slice Try.underlying22 (hval 1 22 v1 rfl rfl)
  obtain ⟨l1, rfl, m1, s1⟩ : ∃ l : List Int, l.length = len1 ∧ l.length ≤ maxLen ∧ BSeg W a1 l := by
    obtain ⟨fuel, hf⟩ := h1
    exact open_bytes hf
  clear hA0 hval0
  refine (walk a0 l0 cap0 a1 l1 cap1 W s0 m0 s1 m1).mono fun e W' ⟨he, bel⟩ => ?_
  subst he
  exact ⟨_, rfl, _, _, _, [], _, [], hW', trodAll_mk1 (shut_bool Try.underlying4 _), (trodAll_cons_mk (Below.trod laidOut (by kernel_rfl) (of_decide_eq_true (by kernel_rfl)) k0 bel lt0) (trodAll_cons_mk (Below.trod laidOut (by kernel_rfl) (of_decide_eq_true (by kernel_rfl)) k1 bel lt1) trodAll_mk0)), rfl, bel.frame _, fun h => by cases h⟩

theorem over : Rows.fnFatesRow.holds Try.pinned (OpenSpec.ofChange Rows.fnFatesSpec) :=
  OpenClaim.holds_of_wide 3 Try.f3 rfl rfl rfl rfl rfl rfl rfl ⟨rfl, rfl, rfl, rfl, rfl⟩ rfl rfl rfl rfl rfl (by kernel_rfl) Try.func3 (by kernel_rfl)
    (of_decide_eq_true (by kernel_rfl)) (by unfold Func.isWrapper; first | (rw [if_pos (by decide +kernel)]; kernel_rfl) | (rw [if_neg (by decide +kernel)]; exact ⟨rfl, rfl⟩))
    (fun os started H enc _ => lifted os started H enc)

end Go.Proofs.Ytgfdkolhldbehaa.lFates
namespace Go.Proofs.Ytgfdkolhldbehaa
/-- THE STATEMENT. -/
theorem fates_holds : Rows.FnFatesSaid := lFates.over
#print axioms fates_holds
end Go.Proofs.Ytgfdkolhldbehaa
