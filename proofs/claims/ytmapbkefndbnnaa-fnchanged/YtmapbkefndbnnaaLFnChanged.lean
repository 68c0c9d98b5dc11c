/- FnChanged answers true at every argument: a cell that is set is so, and no other one changes, for drawn trees. No condition. (Written by wip/tools/mkchanged.py.) -/
import Derived.Test.YtmapbkefndbnnaaKm
import Derived.Test.YtmapbkefndbnnaaKk
import Derived.Test.YtmapbkefndbnnaaKi
import Derived.Deep.RegionHeld3
import Derived.Test.YtmapbkefndbnnaaKl
namespace Go.Proofs.Ytmapbkefndbnnaa.lChanged
open Go.RowKit Go.ChangeShapes Go.WideShapes Go.ChangeAt
set_option linter.unusedVariables false
set_option linter.unusedSimpArgs false
attribute [local go_sem ↓] Go.wp_at_zero Go.wp_at_succ

/-- A cell in a variable whose box is block b. -/
def CX (W : World) (b : Nat) (c : Cl) : Prop := W.cell? ⟨b, 0, none⟩ = some (.int .i64 c.1) ∧ W.cell? ⟨b, 1, none⟩ = some (.int .i64 c.2) ∧ b < W.heap.size
theorem CX.below {W W' : World} {b : Nat} {c : Cl} (h : CX W b c) (hb : Below W.heap.size W W') : CX W' b c := ⟨(hb.cell (p := ⟨b, 0, none⟩) h.2.2).trans h.1, (hb.cell (p := ⟨b, 1, none⟩) h.2.2).trans h.2.1, Nat.lt_of_lt_of_le h.2.2 hb.size⟩
theorem CX.new (w : World) (c : Cl) : CX (w.alloc (.cells #[.int .i64 c.1, .int .i64 c.2] 39)) w.heap.size c := ⟨cell_new0 _ _ _ _, cell_new1 _ _ _ _, by simp⟩
theorem alloc_sz (w : World) (o : Obj) : (w.alloc o).heap.size = w.heap.size + 1 := by simp

set_option maxHeartbeats 16000000 in
set_option maxRecDepth 100000 in
theorem walk (a0 : Option Addr) (l0 : List Int) (c0 : Nat) (a1 : Option Addr) (l1 : List Int) (c1 : Nat) (w0 : World) (ha : BSeg w0 a0 l0) (hm0 : l0.length ≤ maxLen) (hb : BSeg w0 a1 l1) (hm1 : l1.length ≤ maxLen) :
    Calls Try.prog 5 #[.slice a0 l0.length c0, .slice a1 l1.length c1] w0 fun e w' => e = .returned (.bool true) ∧ Below w0.heap.size w0 w' := by
  unfold maxLen at hm0 hm1
  by_cases hl : wrap64 ((l0.length : Int) + (l1.length : Int)) ≤ 1048576
  · have SM := hid hb
    have BB := hid (Below.refl w0.heap.size w0)
    have HA := hid ha
    clear ha hb
    go_enter Try.func5, Try.ntmps5
    go_wp2_with fail
    refine (c_DrawSetCell a0 l0 c0 w0 HA.out (by omega)).mono ?_
    rintro e w1 ⟨u, q, F, c, al, rfl, hG, hF, b⟩
    replace SM := hid (SM.out.below b)
    replace BB := hid (BB.out.trans (b.mono BB.out.size))
    clear b
    clear HA
    obtain ⟨fa, fc, rfl, k1, k2, hQ⟩ := hG.form
    have FNf := hid (show FN _ fa F from ⟨hQ, hG.noneCap⟩)
    have b0 := Below.refl w1.heap.size w1
    have b1 := b0.alloc (Nat.le_of_lt_succ (Nat.lt_succ_of_le b0.size)) (.cells #[.slice fa F.length fc] 25)
    have b2 := b1.alloc (Nat.le_of_lt_succ (Nat.lt_succ_of_le b1.size)) (.cells #[.int .i64 c.1, .int .i64 c.2] 39)
    replace SM := hid (SM.out.below b2)
    replace FNf := hid (FNf.out.below b2)
    replace BB := hid (BB.out.trans (b2.mono BB.out.size))
    have f := hid (show FV ((w1.alloc (.cells #[.slice fa F.length fc] 25)).alloc (.cells #[.int .i64 c.1, .int .i64 c.2] 39)) w1.heap.size fa fc F from ((FV.new hQ k1 k2 25).below ((Below.refl _ _).alloc (Nat.le_refl _) _)))
    have xc0 := CX.new (w1.alloc (.cells #[.slice fa F.length fc] 25)) c
    rw [show (w1.alloc (.cells #[.slice fa F.length fc] 25)).heap.size = w1.heap.size + 1 by simp] at xc0
    have xc := hid (show CX ((w1.alloc (.cells #[.slice fa F.length fc] 25)).alloc (.cells #[.int .i64 c.1, .int .i64 c.2] 39)) (w1.heap.size + 1) c from xc0)
    clear xc0
    clear b0 b1 b2 hQ k1 k2 hG
    have hFk := hid hF.2.2
    have hFl : F.length ≤ 1048576 := by have := hF.2.1; omega
    clear hF
    obtain ⟨hTg, hGk, _⟩ := ans_small (setOK F q c) (setR F q c al) (set_grows al)
    have HGK := hid hGk
    clear hGk
    have SEF := hid (set_facts (F := F) (q := q) (c := c) (al := al))
    have y00 := xc.out.1
    have y01 := xc.out.2.1
    have x0 := f.out.2.1
    go_wp2_with fail
    generalize ((w1.alloc (.cells #[.slice fa F.length fc] 25)).alloc (.cells #[.int .i64 c.1, .int .i64 c.2] 39)) = W1 at *
    generalize w1.heap.size = bf at *
    refine (c_iSetCell fa F fc q c al W1 f.out.2.2.1 hFl hFk.out f.out.2.2.2.1 f.out.2.2.2.2).mono ?_
    rintro e w2 ⟨u, rfl, hO, b⟩
    replace SM := hid (SM.out.below b)
    replace FNf := hid (FNf.out.below b)
    replace f := hid (f.out.below b)
    replace xc := hid (xc.out.below b)
    replace BB := hid (BB.out.trans (b.mono BB.out.size))
    clear b x0
    clear y00 y01
    obtain ⟨ga, gc, rfl, k1, k2, hQ⟩ := hO.form
    have ba := (Below.refl w2.heap.size w2).alloc (Nat.le_refl _) (.cells #[.slice ga (ansF (setOK F q c) (setR F q c al)).length gc] 25)
    replace SM := hid (SM.out.below ba)
    replace FNf := hid (FNf.out.below ba)
    replace f := hid (f.out.below ba)
    replace xc := hid (xc.out.below ba)
    replace BB := hid (BB.out.trans (ba.mono BB.out.size))
    have g := hid (show FV (w2.alloc (.cells #[.slice ga (ansF (setOK F q c) (setR F q c al)).length gc] 25)) w2.heap.size ga gc (ansF (setOK F q c) (setR F q c al)) from FV.new hQ k1 k2 25)
    clear ba hQ k1 k2 hO
    have y00 := xc.out.1
    have y01 := xc.out.2.1
    have x0 := f.out.2.1
    go_wp2_with fail
    generalize w2.alloc (.cells #[.slice ga (ansF (setOK F q c) (setR F q c al)).length gc] 25) = W2 at *
    generalize w2.heap.size = bg at *
    refine (c_sSetCell fa F fc q c al W2 f.out.2.2.1 hFl hFk.out f.out.2.2.2.1 f.out.2.2.2.2 FNf.out.2).mono ?_
    rintro e w3 ⟨u, rfl, hG, b⟩
    replace SM := hid (SM.out.below b)
    replace FNf := hid (FNf.out.below b)
    replace f := hid (f.out.below b)
    replace xc := hid (xc.out.below b)
    replace g := hid (g.out.below b)
    replace BB := hid (BB.out.trans (b.mono BB.out.size))
    clear b x0
    clear y00 y01
    obtain ⟨wa, wc, rfl, k1, k2, hQ⟩ := hG.form
    have ba := (Below.refl w3.heap.size w3).alloc (Nat.le_refl _) (.cells #[.slice wa (ansF (setOK F q c) (setR F q c al)).length wc] 25)
    replace SM := hid (SM.out.below ba)
    replace FNf := hid (FNf.out.below ba)
    replace f := hid (f.out.below ba)
    replace xc := hid (xc.out.below ba)
    replace g := hid (g.out.below ba)
    replace BB := hid (BB.out.trans (ba.mono BB.out.size))
    have want := hid (show FV (w3.alloc (.cells #[.slice wa (ansF (setOK F q c) (setR F q c al)).length wc] 25)) w3.heap.size wa wc (ansF (setOK F q c) (setR F q c al)) from FV.new hQ k1 k2 25)
    clear ba hQ k1 k2 hG
    have xg := g.out.2.1
    have xw := want.out.2.1
    have d3 : (ansB (setOK F q c) (setR F q c al) != ansB (setOK F q c) (setR F q c al)) = false := by simp
    have d4 : (ansQ (setOK F q c) (setR F q c al) != ansQ (setOK F q c) (setR F q c al)) = false := by simp
    go_wp2_with fail
    generalize w3.alloc (.cells #[.slice wa (ansF (setOK F q c) (setR F q c al)).length wc] 25) = W3 at *
    generalize w3.heap.size = bwant at *
    clear xg xw d3 d4
    generalize ansF (setOK F q c) (setR F q c al) = G at *
    generalize ansQ (setOK F q c) (setR F q c al) = Q at *
    generalize ansB (setOK F q c) (setR F q c al) = ok at *
    refine (c_sameForest ga wa G gc wc W3 g.out.2.2.1 want.out.2.2.1 hTg HGK.out).mono ?_
    rintro e w4 ⟨rfl, b⟩
    replace SM := hid (SM.out.below b)
    replace FNf := hid (FNf.out.below b)
    replace f := hid (f.out.below b)
    replace xc := hid (xc.out.below b)
    replace g := hid (g.out.below b)
    replace want := hid (want.out.below b)
    replace BB := hid (BB.out.trans (b.mono BB.out.size))
    clear b
    clear want FNf
    go_upto_if 91 with fail
    refine wp_cut (fun a' wx => ∃ sl : Nat → Value, a' = Act.mk #[.slice a0 l0.length c0, .slice a1 l1.length c1, sl 2, sl 3, sl 4, sl 5, sl 6, sl 7, sl 8, sl 9, sl 10, sl 11, sl 12, sl 13, sl 14, sl 15, sl 16, sl 17, sl 18, sl 19, sl 20, sl 21, sl 22, sl 23, sl 24, sl 25, sl 26, sl 27, sl 28, sl 29, sl 30, sl 31, sl 32, sl 33, sl 34, sl 35, sl 36, sl 37, sl 38, sl 39, sl 40, sl 41, sl 42, sl 43, sl 44, sl 45, sl 46, sl 47, sl 48, sl 49, sl 50, sl 51, sl 52, sl 53, sl 54, sl 55, sl 56, sl 57, sl 58, sl 59, sl 60, sl 61, sl 62, sl 63, sl 64, sl 65, sl 66, sl 67, sl 68, sl 69, sl 70, sl 71, sl 72, sl 73, sl 74, sl 75, sl 76, sl 77, sl 78, sl 79, sl 80, sl 81, sl 82, sl 83, sl 84, sl 85, sl 86, sl 87, sl 88, sl 89, sl 90, sl 91, sl 92, sl 93, sl 94, sl 95, sl 96, sl 97, sl 98, sl 99, sl 100, sl 101, sl 102, sl 103, sl 104, sl 105, sl 106, sl 107, sl 108, sl 109, sl 110, sl 111, sl 112, sl 113, sl 114, sl 115, sl 116, sl 117, sl 118, sl 119, sl 120, sl 121, sl 122, sl 123, sl 124, sl 125, sl 126, sl 127, sl 128, sl 129, sl 130, sl 131, sl 132, sl 133, sl 134, sl 135, sl 136, sl 137, sl 138, sl 139, sl 140, sl 141, sl 142, sl 143, sl 144, sl 145, sl 146, sl 147, sl 148, sl 149, sl 150, sl 151, sl 152, sl 153, sl 154, sl 155, sl 156, sl 157, sl 158, sl 159, sl 160, sl 161, sl 162, sl 163, sl 164, sl 165, sl 166, sl 167, sl 168, sl 169, sl 170, sl 171, sl 172, sl 173, sl 174, sl 175, sl 176, sl 177, sl 178, sl 179, sl 180, sl 181, sl 182, sl 183, sl 184, sl 185, sl 186, sl 187, sl 188, sl 189, sl 190, sl 191, sl 192, sl 193, sl 194, sl 195, sl 196, sl 197, sl 198, sl 199, sl 200, sl 201, sl 202, sl 203, sl 204, sl 205, sl 206, sl 207, sl 208, sl 209, sl 210, sl 211, sl 212, sl 213, sl 214, sl 215, sl 216, sl 217, sl 218, sl 219, sl 220, sl 221, sl 222, sl 223, sl 224, sl 225, sl 226, sl 227, sl 228, sl 229, sl 230, sl 231, sl 232, sl 233, sl 234, sl 235, sl 236, sl 237, sl 238, sl 239, sl 240, sl 241, sl 242, sl 243, sl 244, sl 245, sl 246, sl 247, sl 248, sl 249, sl 250, sl 251, sl 252, sl 253, sl 254, sl 255, sl 256, sl 257, sl 258, sl 259, sl 260, sl 261, sl 262, sl 263, sl 264, sl 265, sl 266, sl 267, sl 268, sl 269, sl 270, sl 271, sl 272, sl 273] [] ∧ Hid (BSeg wx a1 l1) ∧ Hid (Below w0.heap.size w0 wx)) ?rest ?first
    case first =>
      intro J K' hJ hK
      cases ok
      case false =>
        go_wp2_with fail
        refine Met.intro (hJ _ _ (meet_fun ⟨hid SM.out, hid BB.out⟩ ?_))
        kernel_rfl
      case true =>
        obtain ⟨t1, t2, t3, t4, t5, t6⟩ := SEF.out (by first | rfl | trivial)
        have T1 := hid t1
        have T2 := hid t2
        have T3 := hid t3
        have T4 := hid t4
        have T5 := hid t5
        have T6 := hid t6
        clear t1 t2 t3 t4 t5 t6 SEF
        have x0 := f.out.2.1
        go_wp2_with fail
        have CC := hid (c_iCellsIn fa F fc q w4 f.out.2.2.1 hFl hFk.out f.out.2.2.2.1 f.out.2.2.2.2)
        rw [T1.out] at CC
        refine CC.out.mono ?_
        rintro e w5 ⟨v, rfl, hO, b⟩
        replace SM := hid (SM.out.below b)
        replace f := hid (f.out.below b)
        replace xc := hid (xc.out.below b)
        replace g := hid (g.out.below b)
        replace BB := hid (BB.out.trans (b.mono BB.out.size))
        clear b CC x0
        obtain ⟨xa, xb, rfl, hS⟩ := hO.form
        have CA := hid hS
        clear hS hO
        have x0 := g.out.2.1
        go_wp2_with fail
        have CC := hid (c_iCellsIn ga G gc Q w5 g.out.2.2.1 hTg HGK.out g.out.2.2.2.1 g.out.2.2.2.2)
        rw [T3.out] at CC
        refine CC.out.mono ?_
        rintro e w6 ⟨v, rfl, hO, b⟩
        replace SM := hid (SM.out.below b)
        replace f := hid (f.out.below b)
        replace xc := hid (xc.out.below b)
        replace g := hid (g.out.below b)
        replace CA := hid (CA.out.below b)
        replace BB := hid (BB.out.trans (b.mono BB.out.size))
        clear b CC x0
        obtain ⟨ya, yb, rfl, hS⟩ := hO.form
        have CB := hid hS
        clear hS hO
        have y00 := xc.out.1
        have y01 := xc.out.2.1
        have x0 := g.out.2.1
        go_wp2_with fail
        have CC := hid (c_iGetCell ga G gc Q c w6 g.out.2.2.1 hTg HGK.out g.out.2.2.2.1 g.out.2.2.2.2)
        rw [T5.out, T4.out] at CC
        refine CC.out.mono ?_
        rintro e w7 ⟨rfl, b⟩
        replace SM := hid (SM.out.below b)
        replace f := hid (f.out.below b)
        replace xc := hid (xc.out.below b)
        replace g := hid (g.out.below b)
        replace CA := hid (CA.out.below b)
        replace CB := hid (CB.out.below b)
        replace BB := hid (BB.out.trans (b.mono BB.out.size))
        clear b CC x0
        clear y00 y01
        have da : (al != al) = false := by simp
        have x0 := g.out.2.1
        go_wp2_with fail
        have CC := hid (c_iGoodForest ga G gc w7 g.out.2.2.1 hTg HGK.out g.out.2.2.2.1 g.out.2.2.2.2)
        rw [T2.out] at CC
        refine CC.out.mono ?_
        rintro e w8 ⟨rfl, b⟩
        replace SM := hid (SM.out.below b)
        replace f := hid (f.out.below b)
        replace xc := hid (xc.out.below b)
        replace g := hid (g.out.below b)
        replace CA := hid (CA.out.below b)
        replace CB := hid (CB.out.below b)
        replace BB := hid (BB.out.trans (b.mono BB.out.size))
        clear b CC x0
        have hAl := cin_le F q
        have hBl := cin_le G Q
        clear f g
        clear T1 T2 T3 T4 T5 hFk hFl hTg HGK
        generalize cinV F q = LA at *
        generalize cinV G Q = LB at *
        go_wp2_with fail
        clear da
        go_loopw [133] (fun iv wr => ∃ k : Nat, k ≤ LA.length ∧ iv = .int .i64 k ∧ Hid (Below w8.heap.size w8 wr)) (fun iv _ => LA.length - (intOf iv).toNat)
        case atStart => exact ⟨0, Nat.zero_le _, rfl, Below.refl _ _⟩
        case round =>
          obtain ⟨k, hk, rfl, HB⟩ := hrel
          by_cases hlt : k < LA.length
          · have hmk := mem_at.2 ⟨k, hlt, rfl⟩
            have HT := hid (fun h : at_ LA k ≠ c => (T6.out (at_ LA k) h).1 hmk)
            obtain ⟨bz, oz, rfl, hbz, p1, p2⟩ := CA.out k hlt
            have g1 := (HB.out.cell (p := ⟨bz, oz + k * 2, none⟩) hbz).trans p1
            have g2 := (HB.out.cell (p := ⟨bz, oz + k * 2 + 1, none⟩) hbz).trans p2
            change _ = some (Value.int .i64 (at_ LA k).1) at g1
            change _ = some (Value.int .i64 (at_ LA k).2) at g2
            clear p1 p2 hmk
            have k0 : (0 : Int) ≤ (k : Int) := by omega
            have k1 : (k : Int) < (LA.length : Int) := by omega
            generalize at_ LA k = z at *
            have HZB := hid ((Below.refl wr.heap.size wr).alloc (Nat.le_refl _) (.cells #[.int .i64 z.1, .int .i64 z.2] 39))
            have hc1 := ((xc.out.below HB.out).below HZB.out).1
            have hc2 := ((xc.out.below HB.out).below HZB.out).2.1
            have hz1 := (CX.new wr z).1
            have hz2 := (CX.new wr z).2.1
            have HCB := hid (fun (hn : z ≠ c) (W : World) (h : Below wr.heap.size wr W) => by have := c_hasCellL ya LB yb z W (CB.out.below (bel_step HB.out h)) (by omega); rw [decide_eq_true (HT.out hn)] at this; exact this)
            clear HT
            by_cases e1 : z.1 = c.1
            · have b1 : (z.1 == c.1) = true := by simp [e1]
              by_cases e2 : z.2 = c.2
              · have b2 : (z.2 == c.2) = true := by simp [e2]
                clear e1 e2
                have d0 := True.intro
                clear HCB d0
                have HBN := hid (bel_step HB.out HZB.out)
                go_wp2_with fail
                go_roundw
                case rel => first | exact ⟨k + 1, by omega, by go_num, HBN.out⟩ | ((repeat apply Exists.intro); exact ⟨⟨k + 1, by omega, by go_num, HBN.out⟩, rfl⟩)
                case measure => simp [intOf]; omega
              · have b2 : (z.2 == c.2) = false := by simp [e2]
                have d0 : ¬ z = c := fun e => e2 (by rw [e])
                clear e1 e2
                have HCC := hid (HCB.out (fun e => d0 e))
                clear HCB d0
                go_wp2_with fail
                refine (HCC.out _ HZB.out).mono ?_
                rintro e w9 ⟨rfl, b⟩
                have HBN := hid (bel_step HB.out (bel_step HZB.out b))
                clear b
                go_wp2_with fail
                go_roundw
                case rel => first | exact ⟨k + 1, by omega, by go_num, HBN.out⟩ | ((repeat apply Exists.intro); exact ⟨⟨k + 1, by omega, by go_num, HBN.out⟩, rfl⟩)
                case measure => simp [intOf]; omega
            · have b1 : (z.1 == c.1) = false := by simp [e1]
              have d0 : ¬ z = c := fun e => e1 (by rw [e])
              clear e1
              have HCC := hid (HCB.out (fun e => d0 e))
              clear HCB d0
              go_wp2_with fail
              refine (HCC.out _ HZB.out).mono ?_
              rintro e w9 ⟨rfl, b⟩
              have HBN := hid (bel_step HB.out (bel_step HZB.out b))
              clear b
              go_wp2_with fail
              go_roundw
              case rel => first | exact ⟨k + 1, by omega, by go_num, HBN.out⟩ | ((repeat apply Exists.intro); exact ⟨⟨k + 1, by omega, by go_num, HBN.out⟩, rfl⟩)
              case measure => simp [intOf]; omega
          · have hkk : k = LA.length := by omega
            subst hkk
            replace SM := hid (SM.out.below HB.out)
            replace xc := hid (xc.out.below HB.out)
            replace CA := hid (CA.out.below HB.out)
            replace CB := hid (CB.out.below HB.out)
            replace BB := hid (BB.out.trans (HB.out.mono BB.out.size))
            clear HB
            go_wp2_with fail
            rename World => wq
            go_loopw [149] (fun iv wr => ∃ k : Nat, k ≤ LB.length ∧ iv = .int .i64 k ∧ Hid (Below wq.heap.size wq wr)) (fun iv _ => LB.length - (intOf iv).toNat)
            case atStart => exact ⟨0, Nat.zero_le _, rfl, Below.refl _ _⟩
            case round =>
              obtain ⟨k, hk, rfl, HB⟩ := hrel
              by_cases hlt : k < LB.length
              · have hmk := mem_at.2 ⟨k, hlt, rfl⟩
                have HT := hid (fun h : at_ LB k ≠ c => (T6.out (at_ LB k) h).2 hmk)
                obtain ⟨bz, oz, rfl, hbz, p1, p2⟩ := CB.out k hlt
                have g1 := (HB.out.cell (p := ⟨bz, oz + k * 2, none⟩) hbz).trans p1
                have g2 := (HB.out.cell (p := ⟨bz, oz + k * 2 + 1, none⟩) hbz).trans p2
                change _ = some (Value.int .i64 (at_ LB k).1) at g1
                change _ = some (Value.int .i64 (at_ LB k).2) at g2
                clear p1 p2 hmk
                have k0 : (0 : Int) ≤ (k : Int) := by omega
                have k1 : (k : Int) < (LB.length : Int) := by omega
                generalize at_ LB k = z at *
                have HZB := hid ((Below.refl wr.heap.size wr).alloc (Nat.le_refl _) (.cells #[.int .i64 z.1, .int .i64 z.2] 39))
                have hc1 := ((xc.out.below HB.out).below HZB.out).1
                have hc2 := ((xc.out.below HB.out).below HZB.out).2.1
                have hz1 := (CX.new wr z).1
                have hz2 := (CX.new wr z).2.1
                have HCB := hid (fun (hn : z ≠ c) (W : World) (h : Below wr.heap.size wr W) => by have := c_hasCellL xa LA xb z W (CA.out.below (bel_step HB.out h)) (by omega); rw [decide_eq_true (HT.out hn)] at this; exact this)
                clear HT
                by_cases e1 : z.1 = c.1
                · have b1 : (z.1 == c.1) = true := by simp [e1]
                  by_cases e2 : z.2 = c.2
                  · have b2 : (z.2 == c.2) = true := by simp [e2]
                    clear e1 e2
                    have d0 := True.intro
                    clear HCB d0
                    have HBN := hid (bel_step HB.out HZB.out)
                    go_wp2_with fail
                    go_roundw
                    case rel => first | exact ⟨k + 1, by omega, by go_num, HBN.out⟩ | ((repeat apply Exists.intro); exact ⟨⟨k + 1, by omega, by go_num, HBN.out⟩, rfl⟩)
                    case measure => simp [intOf]; omega
                  · have b2 : (z.2 == c.2) = false := by simp [e2]
                    have d0 : ¬ z = c := fun e => e2 (by rw [e])
                    clear e1 e2
                    have HCC := hid (HCB.out (fun e => d0 e))
                    clear HCB d0
                    go_wp2_with fail
                    refine (HCC.out _ HZB.out).mono ?_
                    rintro e w9 ⟨rfl, b⟩
                    have HBN := hid (bel_step HB.out (bel_step HZB.out b))
                    clear b
                    go_wp2_with fail
                    go_roundw
                    case rel => first | exact ⟨k + 1, by omega, by go_num, HBN.out⟩ | ((repeat apply Exists.intro); exact ⟨⟨k + 1, by omega, by go_num, HBN.out⟩, rfl⟩)
                    case measure => simp [intOf]; omega
                · have b1 : (z.1 == c.1) = false := by simp [e1]
                  have d0 : ¬ z = c := fun e => e1 (by rw [e])
                  clear e1
                  have HCC := hid (HCB.out (fun e => d0 e))
                  clear HCB d0
                  go_wp2_with fail
                  refine (HCC.out _ HZB.out).mono ?_
                  rintro e w9 ⟨rfl, b⟩
                  have HBN := hid (bel_step HB.out (bel_step HZB.out b))
                  clear b
                  go_wp2_with fail
                  go_roundw
                  case rel => first | exact ⟨k + 1, by omega, by go_num, HBN.out⟩ | ((repeat apply Exists.intro); exact ⟨⟨k + 1, by omega, by go_num, HBN.out⟩, rfl⟩)
                  case measure => simp [intOf]; omega
              · have hkk : k = LB.length := by omega
                subst hkk
                replace SM := hid (SM.out.below HB.out)
                replace xc := hid (xc.out.below HB.out)
                replace CA := hid (CA.out.below HB.out)
                replace CB := hid (CB.out.below HB.out)
                replace BB := hid (BB.out.trans (HB.out.mono BB.out.size))
                clear HB
                go_wp2_with fail
                refine Met.intro (hJ _ _ (meet_fun ⟨hid SM.out, hid BB.out⟩ ?_))
                kernel_rfl
    case rest =>
      clear SM BB f g xc hTg HGK SEF hFk hFl
      rintro _ wc ⟨sl, rfl, SM, BB⟩
      go_wp2_with fail
      refine (c_DrawClearBox a1 l1 c1 wc SM.out (by omega)).mono ?_
      rintro e w5 ⟨u, q1, F1, c2, d2, rfl, hG, hF1, b⟩
      replace SM := hid (SM.out.below b)
      replace BB := hid (BB.out.trans (b.mono BB.out.size))
      clear b
      obtain ⟨fa1, fc1, rfl, k1, k2, hQ⟩ := hG.form
      have FN1 := hid (show FN _ fa1 F1 from ⟨hQ, hG.noneCap⟩)
      have b0 := Below.refl w5.heap.size w5
      have b1 := b0.alloc (Nat.le_of_lt_succ (Nat.lt_succ_of_le b0.size)) (.cells #[.slice fa1 F1.length fc1] 25)
      have b2 := b1.alloc (Nat.le_of_lt_succ (Nat.lt_succ_of_le b1.size)) (.cells #[.int .i64 c2.1, .int .i64 c2.2] 39)
      have b3 := b2.alloc (Nat.le_of_lt_succ (Nat.lt_succ_of_le b2.size)) (.cells #[.int .i64 d2.1, .int .i64 d2.2] 39)
      replace SM := hid (SM.out.below b3)
      replace FN1 := hid (FN1.out.below b3)
      replace BB := hid (BB.out.trans (b3.mono BB.out.size))
      have f1 := hid (show FV (((w5.alloc (.cells #[.slice fa1 F1.length fc1] 25)).alloc (.cells #[.int .i64 c2.1, .int .i64 c2.2] 39)).alloc (.cells #[.int .i64 d2.1, .int .i64 d2.2] 39)) w5.heap.size fa1 fc1 F1 from (((FV.new hQ k1 k2 25).below ((Below.refl _ _).alloc (Nat.le_refl _) _)).below ((Below.refl _ _).alloc (Nat.le_refl _) _)))
      have xc0 := CX.new (w5.alloc (.cells #[.slice fa1 F1.length fc1] 25)) c2
      rw [show (w5.alloc (.cells #[.slice fa1 F1.length fc1] 25)).heap.size = w5.heap.size + 1 by simp] at xc0
      have xc := hid (show CX (((w5.alloc (.cells #[.slice fa1 F1.length fc1] 25)).alloc (.cells #[.int .i64 c2.1, .int .i64 c2.2] 39)).alloc (.cells #[.int .i64 d2.1, .int .i64 d2.2] 39)) (w5.heap.size + 1) c2 from (xc0.below ((Below.refl _ _).alloc (Nat.le_refl _) _)))
      clear xc0
      have xd0 := CX.new ((w5.alloc (.cells #[.slice fa1 F1.length fc1] 25)).alloc (.cells #[.int .i64 c2.1, .int .i64 c2.2] 39)) d2
      rw [show ((w5.alloc (.cells #[.slice fa1 F1.length fc1] 25)).alloc (.cells #[.int .i64 c2.1, .int .i64 c2.2] 39)).heap.size = w5.heap.size + 2 by simp] at xd0
      have xd := hid (show CX (((w5.alloc (.cells #[.slice fa1 F1.length fc1] 25)).alloc (.cells #[.int .i64 c2.1, .int .i64 c2.2] 39)).alloc (.cells #[.int .i64 d2.1, .int .i64 d2.2] 39)) (w5.heap.size + 2) d2 from xd0)
      clear xd0
      clear b0 b1 b2 b3 hQ k1 k2 hG
      have hF1k := hid hF1.2.2
      have hF1l : F1.length ≤ 1048576 := by have := hF1.2.1; omega
      clear hF1
      obtain ⟨hTh, hHk, _⟩ := ans_small (clrOK F1 q1 c2 d2) (clrR F1 q1 c2 d2) clr_grows
      have HHK := hid hHk
      clear hHk
      have CLF := hid (clr_facts (F := F1) (q := q1) (a := c2) (b := d2))
      have y00 := xc.out.1
      have y01 := xc.out.2.1
      have y10 := xd.out.1
      have y11 := xd.out.2.1
      have x0 := f1.out.2.1
      go_wp2_with fail
      generalize (((w5.alloc (.cells #[.slice fa1 F1.length fc1] 25)).alloc (.cells #[.int .i64 c2.1, .int .i64 c2.2] 39)).alloc (.cells #[.int .i64 d2.1, .int .i64 d2.2] 39)) = W5 at *
      generalize w5.heap.size = bf1 at *
      refine (c_iClearBox fa1 F1 fc1 q1 c2 d2 W5 f1.out.2.2.1 hF1l hF1k.out f1.out.2.2.2.1 f1.out.2.2.2.2).mono ?_
      rintro e w6 ⟨u, rfl, hO, b⟩
      replace SM := hid (SM.out.below b)
      replace FN1 := hid (FN1.out.below b)
      replace f1 := hid (f1.out.below b)
      replace xc := hid (xc.out.below b)
      replace xd := hid (xd.out.below b)
      replace BB := hid (BB.out.trans (b.mono BB.out.size))
      clear b x0
      clear y00 y01 y10 y11
      obtain ⟨ha, hc, rfl, k1, k2, hQ⟩ := hO.form
      have ba := (Below.refl w6.heap.size w6).alloc (Nat.le_refl _) (.cells #[.slice ha (ansF (clrOK F1 q1 c2 d2) (clrR F1 q1 c2 d2)).length hc] 25)
      replace SM := hid (SM.out.below ba)
      replace FN1 := hid (FN1.out.below ba)
      replace f1 := hid (f1.out.below ba)
      replace xc := hid (xc.out.below ba)
      replace xd := hid (xd.out.below ba)
      replace BB := hid (BB.out.trans (ba.mono BB.out.size))
      have h := hid (show FV (w6.alloc (.cells #[.slice ha (ansF (clrOK F1 q1 c2 d2) (clrR F1 q1 c2 d2)).length hc] 25)) w6.heap.size ha hc (ansF (clrOK F1 q1 c2 d2) (clrR F1 q1 c2 d2)) from FV.new hQ k1 k2 25)
      clear ba hQ k1 k2 hO
      have y00 := xc.out.1
      have y01 := xc.out.2.1
      have y10 := xd.out.1
      have y11 := xd.out.2.1
      have x0 := f1.out.2.1
      go_wp2_with fail
      generalize w6.alloc (.cells #[.slice ha (ansF (clrOK F1 q1 c2 d2) (clrR F1 q1 c2 d2)).length hc] 25) = W6 at *
      generalize w6.heap.size = bh at *
      refine (c_sClearBox fa1 F1 fc1 q1 c2 d2 W6 f1.out.2.2.1 hF1l hF1k.out f1.out.2.2.2.1 f1.out.2.2.2.2 FN1.out.2).mono ?_
      rintro e w7 ⟨u, rfl, hG, b⟩
      replace SM := hid (SM.out.below b)
      replace FN1 := hid (FN1.out.below b)
      replace f1 := hid (f1.out.below b)
      replace xc := hid (xc.out.below b)
      replace xd := hid (xd.out.below b)
      replace h := hid (h.out.below b)
      replace BB := hid (BB.out.trans (b.mono BB.out.size))
      clear b x0
      clear y00 y01 y10 y11
      obtain ⟨ka, kc, rfl, k1, k2, hQ⟩ := hG.form
      have ba := (Below.refl w7.heap.size w7).alloc (Nat.le_refl _) (.cells #[.slice ka (ansF (clrOK F1 q1 c2 d2) (clrR F1 q1 c2 d2)).length kc] 25)
      replace SM := hid (SM.out.below ba)
      replace FN1 := hid (FN1.out.below ba)
      replace f1 := hid (f1.out.below ba)
      replace xc := hid (xc.out.below ba)
      replace xd := hid (xd.out.below ba)
      replace h := hid (h.out.below ba)
      replace BB := hid (BB.out.trans (ba.mono BB.out.size))
      have clear_ := hid (show FV (w7.alloc (.cells #[.slice ka (ansF (clrOK F1 q1 c2 d2) (clrR F1 q1 c2 d2)).length kc] 25)) w7.heap.size ka kc (ansF (clrOK F1 q1 c2 d2) (clrR F1 q1 c2 d2)) from FV.new hQ k1 k2 25)
      clear ba hQ k1 k2 hG
      go_wp2_with fail
      generalize w7.alloc (.cells #[.slice ka (ansF (clrOK F1 q1 c2 d2) (clrR F1 q1 c2 d2)).length kc] 25) = W7 at *
      generalize w7.heap.size = bclear_ at *
      generalize ansF (clrOK F1 q1 c2 d2) (clrR F1 q1 c2 d2) = H at *
      generalize ansQ (clrOK F1 q1 c2 d2) (clrR F1 q1 c2 d2) = R at *
      generalize ansB (clrOK F1 q1 c2 d2) (clrR F1 q1 c2 d2) = one at *
      clear f1 FN1
      clear hF1k hF1l
      refine (c_DrawGetCell a1 l1 c1 W7 SM.out (by omega)).mono ?_
      rintro e w8 ⟨u, q3, F3, e3, rfl, hG, hF3, b⟩
      replace SM := hid (SM.out.below b)
      replace xc := hid (xc.out.below b)
      replace xd := hid (xd.out.below b)
      replace h := hid (h.out.below b)
      replace clear_ := hid (clear_.out.below b)
      replace BB := hid (BB.out.trans (b.mono BB.out.size))
      clear b
      obtain ⟨fa3, fc3, rfl, k1, k2, hQ⟩ := hG.form
      have b0 := Below.refl w8.heap.size w8
      have b1 := b0.alloc (Nat.le_of_lt_succ (Nat.lt_succ_of_le b0.size)) (.cells #[.slice fa3 F3.length fc3] 25)
      have b2 := b1.alloc (Nat.le_of_lt_succ (Nat.lt_succ_of_le b1.size)) (.cells #[.int .i64 e3.1, .int .i64 e3.2] 39)
      replace SM := hid (SM.out.below b2)
      replace xc := hid (xc.out.below b2)
      replace xd := hid (xd.out.below b2)
      replace h := hid (h.out.below b2)
      replace clear_ := hid (clear_.out.below b2)
      replace BB := hid (BB.out.trans (b2.mono BB.out.size))
      have f3 := hid (show FV ((w8.alloc (.cells #[.slice fa3 F3.length fc3] 25)).alloc (.cells #[.int .i64 e3.1, .int .i64 e3.2] 39)) w8.heap.size fa3 fc3 F3 from ((FV.new hQ k1 k2 25).below ((Below.refl _ _).alloc (Nat.le_refl _) _)))
      have xe0 := CX.new (w8.alloc (.cells #[.slice fa3 F3.length fc3] 25)) e3
      rw [show (w8.alloc (.cells #[.slice fa3 F3.length fc3] 25)).heap.size = w8.heap.size + 1 by simp] at xe0
      have xe := hid (show CX ((w8.alloc (.cells #[.slice fa3 F3.length fc3] 25)).alloc (.cells #[.int .i64 e3.1, .int .i64 e3.2] 39)) (w8.heap.size + 1) e3 from xe0)
      clear xe0
      clear b0 b1 b2 hQ k1 k2 hG
      clear SM
      have hF3k := hid hF3.2.2
      have hF3l : F3.length ≤ 1048576 := by have := hF3.2.1; omega
      clear hF3
      have y00 := xe.out.1
      have y01 := xe.out.2.1
      have x0 := f3.out.2.1
      go_wp2_with fail
      generalize ((w8.alloc (.cells #[.slice fa3 F3.length fc3] 25)).alloc (.cells #[.int .i64 e3.1, .int .i64 e3.2] 39)) = W8 at *
      generalize w8.heap.size = bf3 at *
      refine (c_iGetCell fa3 F3 fc3 q3 e3 W8 f3.out.2.2.1 hF3l hF3k.out f3.out.2.2.2.1 f3.out.2.2.2.2).mono ?_
      rintro e w9 ⟨rfl, b⟩
      replace xc := hid (xc.out.below b)
      replace xd := hid (xd.out.below b)
      replace h := hid (h.out.below b)
      replace clear_ := hid (clear_.out.below b)
      replace f3 := hid (f3.out.below b)
      replace xe := hid (xe.out.below b)
      replace BB := hid (BB.out.trans (b.mono BB.out.size))
      clear b x0
      clear y00 y01
      have y00 := xe.out.1
      have y01 := xe.out.2.1
      have x0 := f3.out.2.1
      go_wp2_with fail
      refine (c_sGetCell fa3 F3 fc3 q3 e3 w9 f3.out.2.2.1 hF3l hF3k.out f3.out.2.2.2.1 f3.out.2.2.2.2).mono ?_
      rintro e w10 ⟨rfl, b⟩
      replace xc := hid (xc.out.below b)
      replace xd := hid (xd.out.below b)
      replace h := hid (h.out.below b)
      replace clear_ := hid (clear_.out.below b)
      replace f3 := hid (f3.out.below b)
      replace xe := hid (xe.out.below b)
      replace BB := hid (BB.out.trans (b.mono BB.out.size))
      clear b x0
      clear y00 y01
      generalize getV F3 q3 e3 = gv at *
      generalize setOK F3 q3 e3 = so at *
      clear f3 xe
      clear hF3k hF3l
      have d1 : (one != one) = false := by simp
      have d2' : (R != R) = false := by simp
      have d3 : (so != so) = false := by simp
      have d4 : (gv != gv) = false := by simp
      have xg := h.out.2.1
      have xw := clear_.out.2.1
      go_wp2_with fail
      refine (c_sameForest ha ka H hc kc w10 h.out.2.2.1 clear_.out.2.2.1 hTh HHK.out).mono ?_
      rintro e w11 ⟨rfl, b⟩
      replace xc := hid (xc.out.below b)
      replace xd := hid (xd.out.below b)
      replace h := hid (h.out.below b)
      replace clear_ := hid (clear_.out.below b)
      replace BB := hid (BB.out.trans (b.mono BB.out.size))
      clear b
      clear clear_
      clear xg xw
      cases one
      case false =>
        go_wp2_with fail
        go_ret
        exact ⟨rfl, BB.out⟩
      case true =>
        obtain ⟨t1, t2⟩ := CLF.out (by first | rfl | trivial)
        have T1 := hid t1
        have T2 := hid t2
        clear t1 t2 CLF
        have x0 := h.out.2.1
        go_wp2_with fail
        have CC := hid (c_iCellsIn ha H hc R w11 h.out.2.2.1 hTh HHK.out h.out.2.2.2.1 h.out.2.2.2.2)
        rw [T1.out] at CC
        refine CC.out.mono ?_
        rintro e w12 ⟨v, rfl, hO, b⟩
        replace xc := hid (xc.out.below b)
        replace xd := hid (xd.out.below b)
        replace h := hid (h.out.below b)
        replace BB := hid (BB.out.trans (b.mono BB.out.size))
        clear b CC x0
        obtain ⟨ya, yb, rfl, hS⟩ := hO.form
        have CB := hid hS
        clear hS hO
        have hBl := cin_le H R
        clear h
        clear T1 hTh HHK
        generalize cinV H R = LB at *
        go_wp2_with fail
        go_loopw [243] (fun iv wr => ∃ k : Nat, k ≤ LB.length ∧ iv = .int .i64 k ∧ Hid (Below w12.heap.size w12 wr)) (fun iv _ => LB.length - (intOf iv).toNat)
        case atStart => exact ⟨0, Nat.zero_le _, rfl, Below.refl _ _⟩
        case round =>
          obtain ⟨k, hk, rfl, HB⟩ := hrel
          by_cases hlt : k < LB.length
          · have HT := hid (T2.out (at_ LB k) (mem_at.2 ⟨k, hlt, rfl⟩))
            obtain ⟨bz, oz, rfl, hbz, p1, p2⟩ := CB.out k hlt
            have g1 := (HB.out.cell (p := ⟨bz, oz + k * 2, none⟩) hbz).trans p1
            have g2 := (HB.out.cell (p := ⟨bz, oz + k * 2 + 1, none⟩) hbz).trans p2
            change _ = some (Value.int .i64 (at_ LB k).1) at g1
            change _ = some (Value.int .i64 (at_ LB k).2) at g2
            clear p1 p2
            have k0 : (0 : Int) ≤ (k : Int) := by omega
            have k1 : (k : Int) < (LB.length : Int) := by omega
            generalize at_ LB k = z at *
            have HZB := hid ((Below.refl wr.heap.size wr).alloc (Nat.le_refl _) (.cells #[.int .i64 z.1, .int .i64 z.2] 39))
            have hc1 := ((xc.out.below HB.out).below HZB.out).1
            have hc2 := ((xc.out.below HB.out).below HZB.out).2.1
            have he1 := ((xd.out.below HB.out).below HZB.out).1
            have he2 := ((xd.out.below HB.out).below HZB.out).2.1
            have hz1 := (CX.new wr z).1
            have hz2 := (CX.new wr z).2.1
            have HBN := hid (bel_step HB.out HZB.out)
            by_cases e0 : c2.1 ≤ z.1
            · have f0 : decide (c2.1 ≤ z.1) = true := decide_eq_true e0
              by_cases e1 : z.1 ≤ d2.1
              · have f1 : decide (z.1 ≤ d2.1) = true := decide_eq_true e1
                by_cases e2 : c2.2 ≤ z.2
                · have f2 : decide (c2.2 ≤ z.2) = true := decide_eq_true e2
                  by_cases e3' : z.2 ≤ d2.2
                  · have f3 : decide (z.2 ≤ d2.2) = true := decide_eq_true e3'
                    exact (HT.out ⟨e0, e1, e2, e3'⟩).elim
                  · have f3 : decide (z.2 ≤ d2.2) = false := decide_eq_false e3'
                    go_wp2_with fail
                    go_roundw
                    case rel => exact ⟨k + 1, by omega, by go_num, HBN.out⟩
                    case measure => simp [intOf]; omega
                · have f2 : decide (c2.2 ≤ z.2) = false := decide_eq_false e2
                  go_wp2_with fail
                  go_roundw
                  case rel => exact ⟨k + 1, by omega, by go_num, HBN.out⟩
                  case measure => simp [intOf]; omega
              · have f1 : decide (z.1 ≤ d2.1) = false := decide_eq_false e1
                go_wp2_with fail
                go_roundw
                case rel => exact ⟨k + 1, by omega, by go_num, HBN.out⟩
                case measure => simp [intOf]; omega
            · have f0 : decide (c2.1 ≤ z.1) = false := decide_eq_false e0
              go_wp2_with fail
              go_roundw
              case rel => exact ⟨k + 1, by omega, by go_num, HBN.out⟩
              case measure => simp [intOf]; omega
          · have BF := hid (bel_step BB.out HB.out)
            go_wp2_with fail
            go_ret
            exact ⟨rfl, BF.out⟩
  · have hz : (1048576 : Int) < wrap64 ((l0.length : Int) + (l1.length : Int)) := by omega
    go_enter Try.func5, Try.ntmps5
    go_wp2
    go_ret
    exact ⟨rfl, Below.refl _ _⟩

set_option maxRecDepth 100000 in
theorem lifted (os : Os) (started : os.Started) (H : Type) (enc : TypeId × Value → H) :
    ReturnsInHanded {} Try.checked os 5 .any (Rows.fnChangedSpec.pre6 enc Try.prog Try.f5 Rows.fnChangedRow.domain false) (Rows.fnChangedSpec.post enc Try.prog Try.f5 false true false false) := by
  refine returnsInHanded_of_change (C := Try.checked) own started (by kernel_rfl) Try.func5
    (ChangeSpec.witness6 (enc := enc) (C := Try.checked) false ⟨#[], #[.slice none 0 0, .slice none 0 0], []⟩ 8 (by kernel_rfl) (by kernel_rfl) (by kernel_rfl) (by kernel_rfl)) ?_
  intro W base args ds gs before hval0 hW hcnd _
  have hval : ∀ (j : Nat) t v, Try.f5.params[j]? = some t → args[j]? = some v → Value.okWide Try.prog W .any base t v := hval0
  have hW' := hW
  obtain ⟨p, q, hA0, hV, rfl, hfz, hnd⟩ := hW
  have hA : DataW.TrodAll enc Try.prog W 0 (fun _ => true) true Try.f5.params.toList args.toList ds p := hA0
  rw [Try.params5] at hA hval
  obtain ⟨v0, vs0, d0, ds0, p0, q0, hargs, rfl, rfl, h0, r0⟩ := trodAll_cons hA
  obtain ⟨v1, vs1, d1, ds1, p1, q1, rfl, rfl, rfl, h1, r1⟩ := trodAll_cons r0
  obtain ⟨rfl, rfl, rfl⟩ := trodAll_nil r1
  obtain rfl : args = #[v0, v1] := by cases args; simp_all
  obtain ⟨rfl, rfl⟩ := trodVars_none hV
  have k0 := h0
  have lt0 : ∀ x ∈ p0, x.block < W.heap.size := by obtain ⟨m, hm⟩ := k0; exact DataW.trod_lt m _ _ _ hm
  obtain ⟨a0, len0, cap0, rfl⟩ := okWide_slice Try.underlying22 (hval 0 22 v0 rfl rfl)
  obtain ⟨l0, rfl, m0, s0⟩ : ∃ l : List Int, l.length = len0 ∧ l.length ≤ maxLen ∧ BSeg W a0 l := by
    obtain ⟨fuel, hf⟩ := h0
    exact open_bytes hf
  have k1 := h1
  have lt1 : ∀ x ∈ p1, x.block < W.heap.size := by obtain ⟨m, hm⟩ := k1; exact DataW.trod_lt m _ _ _ hm
  obtain ⟨a1, len1, cap1, rfl⟩ := okWide_slice Try.underlying22 (hval 1 22 v1 rfl rfl)
  obtain ⟨l1, rfl, m1, s1⟩ : ∃ l : List Int, l.length = len1 ∧ l.length ≤ maxLen ∧ BSeg W a1 l := by
    obtain ⟨fuel, hf⟩ := h1
    exact open_bytes hf
  clear hA0 hval0
  refine (walk a0 l0 cap0 a1 l1 cap1 W s0 m0 s1 m1).mono fun e W' ⟨he, bel⟩ => ?_
  subst he
  exact ⟨_, rfl, _, _, _, [], _, [], hW', trodAll_mk1 (shut_bool Try.underlying4 _), (trodAll_cons_mk (Below.trod laidOut (by kernel_rfl) (of_decide_eq_true (by kernel_rfl)) k0 bel lt0) (trodAll_cons_mk (Below.trod laidOut (by kernel_rfl) (of_decide_eq_true (by kernel_rfl)) k1 bel lt1) trodAll_mk0)), rfl, bel.frame _, fun h => by cases h⟩

theorem over : Rows.fnChangedRow.holds Try.pinned (OpenSpec.ofChange Rows.fnChangedSpec) :=
  OpenClaim.holds_of_wide 5 Try.f5 rfl rfl rfl rfl rfl rfl rfl ⟨rfl, rfl, rfl, rfl, rfl⟩ rfl rfl rfl rfl rfl (by kernel_rfl) Try.func5 (by kernel_rfl)
    (of_decide_eq_true (by kernel_rfl)) (by unfold Func.isWrapper; first | (rw [if_pos (by decide +kernel)]; kernel_rfl) | (rw [if_neg (by decide +kernel)]; exact ⟨rfl, rfl⟩))
    (fun os started H enc _ => lifted os started H enc)

end Go.Proofs.Ytmapbkefndbnnaa.lChanged
namespace Go.Proofs.Ytmapbkefndbnnaa
/-- THE STATEMENT. -/
theorem changed_holds : Rows.FnChangedSaid := lChanged.over
#print axioms changed_holds
end Go.Proofs.Ytmapbkefndbnnaa
