/- FnFramed answers true at every argument: trees put together and apart have all cells they are to have, and a tree that is framed has itself in its middle, for drawn trees. No condition. (Written by wip/tools/mkframed.py.) -/
import Derived.Test.YtmapbkefndbnnaaKm
import Derived.Test.YtmapbkefndbnnaaKk
import Derived.Test.YtmapbkefndbnnaaKh
import Derived.Test.YtmapbkefndbnnaaKi
import Derived.Deep.RegionHeld3
import Derived.Test.YtmapbkefndbnnaaKl
namespace Go.Proofs.Ytmapbkefndbnnaa.lFramed
open Go.RowKit Go.ChangeShapes Go.WideShapes Go.ChangeAt
set_option linter.unusedVariables false
set_option linter.unusedSimpArgs false
attribute [local go_sem ↓] Go.wp_at_zero Go.wp_at_succ

set_option maxHeartbeats 16000000 in
set_option maxRecDepth 100000 in
theorem walk (a0 : Option Addr) (l0 : List Int) (c0 : Nat) (a1 : Option Addr) (l1 : List Int) (c1 : Nat) (w0 : World) (ha : BSeg w0 a0 l0) (hm0 : l0.length ≤ maxLen) (hb : BSeg w0 a1 l1) (hm1 : l1.length ≤ maxLen) :
    Calls Try.prog 6 #[.slice a0 l0.length c0, .slice a1 l1.length c1] w0 fun e w' => e = .returned (.bool true) ∧ Below w0.heap.size w0 w' := by
  unfold maxLen at hm0 hm1
  by_cases hl : wrap64 ((l0.length : Int) + (l1.length : Int)) ≤ 1048576
  · have SM := hid hb
    have BB := hid (Below.refl w0.heap.size w0)
    have HA := hid ha
    clear ha hb
    go_enter Try.func6, Try.ntmps6
    go_wp2_with fail
    refine (c_DrawUnionOf a0 l0 c0 w0 HA.out (by omega)).mono ?_
    rintro e w1 ⟨u, p, q, F, rfl, hG, hF, b⟩
    replace SM := hid (SM.out.below b)
    replace BB := hid (BB.out.trans (b.mono BB.out.size))
    clear b
    clear HA
    obtain ⟨fa, fc, rfl, k1, k2, hQ⟩ := hG.form
    have FNf := hid (show FN _ fa F from ⟨hQ, hG.noneCap⟩)
    have ba := (Below.refl w1.heap.size w1).alloc (Nat.le_refl _) (.cells #[.slice fa F.length fc] 25)
    replace SM := hid (SM.out.below ba)
    replace FNf := hid (FNf.out.below ba)
    replace BB := hid (BB.out.trans (ba.mono BB.out.size))
    have f := hid (show FV (w1.alloc (.cells #[.slice fa F.length fc] 25)) w1.heap.size fa fc F from FV.new hQ k1 k2 25)
    clear ba hQ k1 k2 hG
    have hFk := hid hF.2.2
    have hFl : F.length ≤ 1048576 := by have := hF.2.1; omega
    clear hF
    obtain ⟨hTu, hUk, _⟩ := ans_small (twoOK F p q) (uniR F p q) uni_grows
    have HUK := hid hUk
    clear hUk
    obtain ⟨hTw, hWk, _⟩ := ans_small (twoOK F p q) (witR F p q) wit_grows
    have HWK := hid hWk
    clear hWk
    have TWF := hid (two_facts (F := F) (a := p) (b := q))
    have x0 := f.out.2.1
    go_wp2_with fail
    generalize w1.alloc (.cells #[.slice fa F.length fc] 25) = W1 at *
    generalize w1.heap.size = bf at *
    refine (c_iUnionOf fa F fc p q W1 f.out.2.2.1 hFl hFk.out f.out.2.2.2.1 f.out.2.2.2.2).mono ?_
    rintro e w2 ⟨u, rfl, hO, b⟩
    replace SM := hid (SM.out.below b)
    replace FNf := hid (FNf.out.below b)
    replace f := hid (f.out.below b)
    replace BB := hid (BB.out.trans (b.mono BB.out.size))
    clear b x0
    obtain ⟨ga, gc, rfl, k1, k2, hQ⟩ := hO.form
    have ba := (Below.refl w2.heap.size w2).alloc (Nat.le_refl _) (.cells #[.slice ga (ansF (twoOK F p q) (uniR F p q)).length gc] 25)
    replace SM := hid (SM.out.below ba)
    replace FNf := hid (FNf.out.below ba)
    replace f := hid (f.out.below ba)
    replace BB := hid (BB.out.trans (ba.mono BB.out.size))
    have g := hid (show FV (w2.alloc (.cells #[.slice ga (ansF (twoOK F p q) (uniR F p q)).length gc] 25)) w2.heap.size ga gc (ansF (twoOK F p q) (uniR F p q)) from FV.new hQ k1 k2 25)
    clear ba hQ k1 k2 hO
    have x0 := f.out.2.1
    go_wp2_with fail
    generalize w2.alloc (.cells #[.slice ga (ansF (twoOK F p q) (uniR F p q)).length gc] 25) = W2 at *
    generalize w2.heap.size = bg at *
    refine (c_sUnionOf fa F fc p q W2 f.out.2.2.1 hFl hFk.out f.out.2.2.2.1 f.out.2.2.2.2 FNf.out.2).mono ?_
    rintro e w3 ⟨u, rfl, hG, b⟩
    replace SM := hid (SM.out.below b)
    replace FNf := hid (FNf.out.below b)
    replace f := hid (f.out.below b)
    replace g := hid (g.out.below b)
    replace BB := hid (BB.out.trans (b.mono BB.out.size))
    clear b x0
    obtain ⟨wa, wc, rfl, k1, k2, hQ⟩ := hG.form
    have ba := (Below.refl w3.heap.size w3).alloc (Nat.le_refl _) (.cells #[.slice wa (ansF (twoOK F p q) (uniR F p q)).length wc] 25)
    replace SM := hid (SM.out.below ba)
    replace FNf := hid (FNf.out.below ba)
    replace f := hid (f.out.below ba)
    replace g := hid (g.out.below ba)
    replace BB := hid (BB.out.trans (ba.mono BB.out.size))
    have want := hid (show FV (w3.alloc (.cells #[.slice wa (ansF (twoOK F p q) (uniR F p q)).length wc] 25)) w3.heap.size wa wc (ansF (twoOK F p q) (uniR F p q)) from FV.new hQ k1 k2 25)
    clear ba hQ k1 k2 hG
    have x0 := f.out.2.1
    go_wp2_with fail
    generalize w3.alloc (.cells #[.slice wa (ansF (twoOK F p q) (uniR F p q)).length wc] 25) = W3 at *
    generalize w3.heap.size = bwant at *
    refine (c_iWithoutOf fa F fc p q W3 f.out.2.2.1 hFl hFk.out f.out.2.2.2.1 f.out.2.2.2.2).mono ?_
    rintro e w4 ⟨u, rfl, hO, b⟩
    replace SM := hid (SM.out.below b)
    replace FNf := hid (FNf.out.below b)
    replace f := hid (f.out.below b)
    replace g := hid (g.out.below b)
    replace want := hid (want.out.below b)
    replace BB := hid (BB.out.trans (b.mono BB.out.size))
    clear b x0
    obtain ⟨ha, hc, rfl, k1, k2, hQ⟩ := hO.form
    have ba := (Below.refl w4.heap.size w4).alloc (Nat.le_refl _) (.cells #[.slice ha (ansF (twoOK F p q) (witR F p q)).length hc] 25)
    replace SM := hid (SM.out.below ba)
    replace FNf := hid (FNf.out.below ba)
    replace f := hid (f.out.below ba)
    replace g := hid (g.out.below ba)
    replace want := hid (want.out.below ba)
    replace BB := hid (BB.out.trans (ba.mono BB.out.size))
    have h := hid (show FV (w4.alloc (.cells #[.slice ha (ansF (twoOK F p q) (witR F p q)).length hc] 25)) w4.heap.size ha hc (ansF (twoOK F p q) (witR F p q)) from FV.new hQ k1 k2 25)
    clear ba hQ k1 k2 hO
    have x0 := f.out.2.1
    go_wp2_with fail
    generalize w4.alloc (.cells #[.slice ha (ansF (twoOK F p q) (witR F p q)).length hc] 25) = W4 at *
    generalize w4.heap.size = bh at *
    refine (c_sWithoutOf fa F fc p q W4 f.out.2.2.1 hFl hFk.out f.out.2.2.2.1 f.out.2.2.2.2 FNf.out.2).mono ?_
    rintro e w5 ⟨u, rfl, hG, b⟩
    replace SM := hid (SM.out.below b)
    replace FNf := hid (FNf.out.below b)
    replace f := hid (f.out.below b)
    replace g := hid (g.out.below b)
    replace want := hid (want.out.below b)
    replace h := hid (h.out.below b)
    replace BB := hid (BB.out.trans (b.mono BB.out.size))
    clear b x0
    obtain ⟨la, lc, rfl, k1, k2, hQ⟩ := hG.form
    have ba := (Below.refl w5.heap.size w5).alloc (Nat.le_refl _) (.cells #[.slice la (ansF (twoOK F p q) (witR F p q)).length lc] 25)
    replace SM := hid (SM.out.below ba)
    replace FNf := hid (FNf.out.below ba)
    replace f := hid (f.out.below ba)
    replace g := hid (g.out.below ba)
    replace want := hid (want.out.below ba)
    replace h := hid (h.out.below ba)
    replace BB := hid (BB.out.trans (ba.mono BB.out.size))
    have less := hid (show FV (w5.alloc (.cells #[.slice la (ansF (twoOK F p q) (witR F p q)).length lc] 25)) w5.heap.size la lc (ansF (twoOK F p q) (witR F p q)) from FV.new hQ k1 k2 25)
    clear ba hQ k1 k2 hG
    have xg := g.out.2.1
    have xw := want.out.2.1
    have d1 : ∀ b : Bool, (b != b) = false := by simp
    have d2 : ∀ b : Int, (b != b) = false := by simp
    have d3 := d1 (ansB (twoOK F p q) (uniR F p q))
    have d4 := d2 (ansQ (twoOK F p q) (uniR F p q))
    have d5 := d1 (ansB (twoOK F p q) (witR F p q))
    have d6 := d2 (ansQ (twoOK F p q) (witR F p q))
    go_wp2_with fail
    generalize w5.alloc (.cells #[.slice la (ansF (twoOK F p q) (witR F p q)).length lc] 25) = W5 at *
    generalize w5.heap.size = bless at *
    clear xg xw d3 d4
    generalize ansF (twoOK F p q) (uniR F p q) = GU at *
    generalize ansQ (twoOK F p q) (uniR F p q) = QU at *
    generalize ansB (twoOK F p q) (uniR F p q) = okU at *
    generalize ansF (twoOK F p q) (witR F p q) = GW at *
    generalize ansQ (twoOK F p q) (witR F p q) = QW at *
    generalize ansB (twoOK F p q) (witR F p q) = okW at *
    refine (c_sameForest ga wa GU gc wc W5 g.out.2.2.1 want.out.2.2.1 hTu HUK.out).mono ?_
    rintro e w6 ⟨rfl, b⟩
    replace SM := hid (SM.out.below b)
    replace FNf := hid (FNf.out.below b)
    replace f := hid (f.out.below b)
    replace g := hid (g.out.below b)
    replace want := hid (want.out.below b)
    replace h := hid (h.out.below b)
    replace less := hid (less.out.below b)
    replace BB := hid (BB.out.trans (b.mono BB.out.size))
    clear b
    clear want
    have x0 := h.out.2.1
    have x1 := less.out.2.1
    go_wp2_with fail
    refine (c_sameForest ha la GW hc lc w6 h.out.2.2.1 less.out.2.2.1 hTw HWK.out).mono ?_
    rintro e w7 ⟨rfl, b⟩
    replace SM := hid (SM.out.below b)
    replace FNf := hid (FNf.out.below b)
    replace f := hid (f.out.below b)
    replace g := hid (g.out.below b)
    replace h := hid (h.out.below b)
    replace less := hid (less.out.below b)
    replace BB := hid (BB.out.trans (b.mono BB.out.size))
    clear b x0 x1
    clear less FNf
    clear d5 d6
    go_upto_region 10 with fail
    refine wp_cut (fun a' wx => ∃ sl : Nat → Value, a' = Act.mk #[.slice a0 l0.length c0, .slice a1 l1.length c1, sl 2, sl 3, sl 4, .pointer (some ⟨bf, 0, none⟩), .int .i64 p, .int .i64 q, .pointer (some ⟨bg, 0, none⟩), .int .i64 QU, sl 10, sl 11, sl 12, sl 13, .pointer (some ⟨bh, 0, none⟩), .int .i64 QW, sl 16, sl 17, sl 18, sl 19, sl 20, sl 21, sl 22, sl 23, sl 24, sl 25, sl 26, sl 27, sl 28, sl 29, sl 30, sl 31, sl 32, sl 33, sl 34, sl 35, sl 36, sl 37, sl 38, sl 39, sl 40, sl 41, sl 42, sl 43, sl 44, sl 45, sl 46, sl 47, sl 48, sl 49, sl 50, sl 51, sl 52, sl 53, sl 54, sl 55, sl 56, sl 57, sl 58, sl 59, sl 60, sl 61, sl 62, sl 63, sl 64, sl 65, sl 66, sl 67, sl 68, sl 69, sl 70, sl 71, sl 72, sl 73, sl 74, sl 75, sl 76, sl 77, sl 78, sl 79, sl 80, sl 81, sl 82, sl 83, sl 84, sl 85, sl 86, sl 87, sl 88, sl 89, sl 90, sl 91, sl 92, sl 93, sl 94, sl 95, sl 96, sl 97, sl 98, sl 99, sl 100, sl 101, sl 102, sl 103, sl 104, sl 105, sl 106, sl 107, sl 108, sl 109, sl 110, sl 111, sl 112, sl 113, sl 114, sl 115, sl 116, sl 117, sl 118, sl 119, sl 120, sl 121, sl 122, sl 123, sl 124, sl 125, sl 126, sl 127, sl 128, sl 129, sl 130, sl 131, sl 132, sl 133, .bool (okU && okW), sl 135, sl 136, sl 137, sl 138, sl 139, sl 140, sl 141, sl 142, sl 143, sl 144, sl 145, sl 146, sl 147, sl 148, sl 149, sl 150, sl 151, sl 152, sl 153, sl 154, sl 155, sl 156, sl 157, sl 158, sl 159, sl 160, sl 161, sl 162, sl 163, sl 164, sl 165, sl 166, sl 167, sl 168, sl 169, sl 170, sl 171, sl 172, sl 173, sl 174, sl 175, sl 176, sl 177, sl 178, sl 179, sl 180, sl 181, sl 182, sl 183, sl 184, sl 185, sl 186, sl 187, sl 188, sl 189, sl 190, sl 191, sl 192, sl 193, sl 194, sl 195, sl 196, sl 197, sl 198, sl 199, sl 200, sl 201, sl 202, sl 203, sl 204, sl 205, sl 206, sl 207, sl 208, sl 209, sl 210, sl 211, sl 212, sl 213, sl 214, sl 215, sl 216, sl 217, sl 218, sl 219, sl 220, sl 221, sl 222, sl 223, sl 224, sl 225, sl 226, sl 227, sl 228, sl 229, sl 230, sl 231, sl 232, sl 233, sl 234, sl 235, sl 236, sl 237, sl 238, sl 239, sl 240, sl 241, sl 242, sl 243, sl 244, sl 245, sl 246, sl 247, sl 248, sl 249, sl 250, sl 251, sl 252, sl 253, sl 254, sl 255, sl 256, sl 257, sl 258, sl 259, sl 260, sl 261, sl 262, sl 263, sl 264, sl 265, sl 266, sl 267, sl 268, sl 269, sl 270, sl 271, sl 272, sl 273, sl 274, sl 275, sl 276, sl 277, sl 278, sl 279, sl 280, sl 281, sl 282, sl 283, sl 284, sl 285, sl 286, sl 287, sl 288, sl 289, sl 290, sl 291, sl 292, sl 293, sl 294, sl 295, sl 296, sl 297, sl 298, sl 299, sl 300, sl 301, sl 302, sl 303, sl 304, sl 305, sl 306, sl 307, sl 308, sl 309, sl 310, sl 311, sl 312, sl 313, sl 314, sl 315, sl 316, sl 317, sl 318, sl 319, sl 320, sl 321, sl 322, sl 323, sl 324, sl 325, sl 326, sl 327, sl 328, sl 329] [] ∧ w7 = wx) ?rest ?first
    case first =>
      intro J K' hJ hK
      cases okU <;> cases okW <;> (go_wp2_with fail; refine Met.intro (hJ _ _ (meet_fun rfl ?_)); kernel_rfl)
    case rest =>
      rintro _ _ ⟨sl, rfl, rfl⟩
      go_upto_if 134 with fail
      refine wp_cut (fun a' wx => ∃ sl : Nat → Value, a' = Act.mk #[.slice a0 l0.length c0, .slice a1 l1.length c1, sl 2, sl 3, sl 4, sl 5, sl 6, sl 7, sl 8, sl 9, sl 10, sl 11, sl 12, sl 13, sl 14, sl 15, sl 16, sl 17, sl 18, sl 19, sl 20, sl 21, sl 22, sl 23, sl 24, sl 25, sl 26, sl 27, sl 28, sl 29, sl 30, sl 31, sl 32, sl 33, sl 34, sl 35, sl 36, sl 37, sl 38, sl 39, sl 40, sl 41, sl 42, sl 43, sl 44, sl 45, sl 46, sl 47, sl 48, sl 49, sl 50, sl 51, sl 52, sl 53, sl 54, sl 55, sl 56, sl 57, sl 58, sl 59, sl 60, sl 61, sl 62, sl 63, sl 64, sl 65, sl 66, sl 67, sl 68, sl 69, sl 70, sl 71, sl 72, sl 73, sl 74, sl 75, sl 76, sl 77, sl 78, sl 79, sl 80, sl 81, sl 82, sl 83, sl 84, sl 85, sl 86, sl 87, sl 88, sl 89, sl 90, sl 91, sl 92, sl 93, sl 94, sl 95, sl 96, sl 97, sl 98, sl 99, sl 100, sl 101, sl 102, sl 103, sl 104, sl 105, sl 106, sl 107, sl 108, sl 109, sl 110, sl 111, sl 112, sl 113, sl 114, sl 115, sl 116, sl 117, sl 118, sl 119, sl 120, sl 121, sl 122, sl 123, sl 124, sl 125, sl 126, sl 127, sl 128, sl 129, sl 130, sl 131, sl 132, sl 133, sl 134, sl 135, sl 136, sl 137, sl 138, sl 139, sl 140, sl 141, sl 142, sl 143, sl 144, sl 145, sl 146, sl 147, sl 148, sl 149, sl 150, sl 151, sl 152, sl 153, sl 154, sl 155, sl 156, sl 157, sl 158, sl 159, sl 160, sl 161, sl 162, sl 163, sl 164, sl 165, sl 166, sl 167, sl 168, sl 169, sl 170, sl 171, sl 172, sl 173, sl 174, sl 175, sl 176, sl 177, sl 178, sl 179, sl 180, sl 181, sl 182, sl 183, sl 184, sl 185, sl 186, sl 187, sl 188, sl 189, sl 190, sl 191, sl 192, sl 193, sl 194, sl 195, sl 196, sl 197, sl 198, sl 199, sl 200, sl 201, sl 202, sl 203, sl 204, sl 205, sl 206, sl 207, sl 208, sl 209, sl 210, sl 211, sl 212, sl 213, sl 214, sl 215, sl 216, sl 217, sl 218, sl 219, sl 220, sl 221, sl 222, sl 223, sl 224, sl 225, sl 226, sl 227, sl 228, sl 229, sl 230, sl 231, sl 232, sl 233, sl 234, sl 235, sl 236, sl 237, sl 238, sl 239, sl 240, sl 241, sl 242, sl 243, sl 244, sl 245, sl 246, sl 247, sl 248, sl 249, sl 250, sl 251, sl 252, sl 253, sl 254, sl 255, sl 256, sl 257, sl 258, sl 259, sl 260, sl 261, sl 262, sl 263, sl 264, sl 265, sl 266, sl 267, sl 268, sl 269, sl 270, sl 271, sl 272, sl 273, sl 274, sl 275, sl 276, sl 277, sl 278, sl 279, sl 280, sl 281, sl 282, sl 283, sl 284, sl 285, sl 286, sl 287, sl 288, sl 289, sl 290, sl 291, sl 292, sl 293, sl 294, sl 295, sl 296, sl 297, sl 298, sl 299, sl 300, sl 301, sl 302, sl 303, sl 304, sl 305, sl 306, sl 307, sl 308, sl 309, sl 310, sl 311, sl 312, sl 313, sl 314, sl 315, sl 316, sl 317, sl 318, sl 319, sl 320, sl 321, sl 322, sl 323, sl 324, sl 325, sl 326, sl 327, sl 328, sl 329] [] ∧ Hid (BSeg wx a1 l1) ∧ Hid (Below w0.heap.size w0 wx)) ?rest ?first
      case first =>
        intro J K' hJ hK
        cases okU
        case false =>
          rw [show (false && okW) = false from rfl]
          go_wp2_with fail
          refine Met.intro (hJ _ _ (meet_fun ⟨hid SM.out, hid BB.out⟩ ?_))
          kernel_rfl
        case true =>
          cases okW
          case false =>
            rw [show (true && false) = false from rfl]
            go_wp2_with fail
            refine Met.intro (hJ _ _ (meet_fun ⟨hid SM.out, hid BB.out⟩ ?_))
            kernel_rfl
          case true =>
            rw [show (true && true) = true from rfl]
            obtain ⟨t1, t2, t3, t4, t5, t6⟩ := TWF.out (by first | rfl | trivial) (by first | rfl | trivial)
            have T1 := hid t1
            have T2 := hid t2
            have T3 := hid t3
            have T4 := hid t4
            have T5 := hid t5
            have T6 := hid t6
            clear t1 t2 t3 t4 t5 t6 TWF
            have x0 := f.out.2.1
            go_wp2_with fail
            have CC := hid (c_iCellsIn fa F fc p w7 f.out.2.2.1 hFl hFk.out f.out.2.2.2.1 f.out.2.2.2.2)
            rw [T1.out] at CC
            refine CC.out.mono ?_
            rintro e w8 ⟨v, rfl, hO, b⟩
            replace SM := hid (SM.out.below b)
            replace f := hid (f.out.below b)
            replace g := hid (g.out.below b)
            replace h := hid (h.out.below b)
            replace BB := hid (BB.out.trans (b.mono BB.out.size))
            clear b CC x0
            obtain ⟨xa, xc, rfl, hS⟩ := hO.form
            have CX := hid hS
            clear hS hO
            have x0 := f.out.2.1
            go_wp2_with fail
            have CC := hid (c_iCellsIn fa F fc q w8 f.out.2.2.1 hFl hFk.out f.out.2.2.2.1 f.out.2.2.2.2)
            rw [T2.out] at CC
            refine CC.out.mono ?_
            rintro e w9 ⟨v, rfl, hO, b⟩
            replace SM := hid (SM.out.below b)
            replace f := hid (f.out.below b)
            replace g := hid (g.out.below b)
            replace h := hid (h.out.below b)
            replace CX := hid (CX.out.below b)
            replace BB := hid (BB.out.trans (b.mono BB.out.size))
            clear b CC x0
            obtain ⟨ya, yc, rfl, hS⟩ := hO.form
            have CY := hid hS
            clear hS hO
            have x0 := g.out.2.1
            go_wp2_with fail
            have CC := hid (c_iCellsIn ga GU gc QU w9 g.out.2.2.1 hTu HUK.out g.out.2.2.2.1 g.out.2.2.2.2)
            rw [T3.out] at CC
            refine CC.out.mono ?_
            rintro e w10 ⟨v, rfl, hO, b⟩
            replace SM := hid (SM.out.below b)
            replace f := hid (f.out.below b)
            replace g := hid (g.out.below b)
            replace h := hid (h.out.below b)
            replace CX := hid (CX.out.below b)
            replace CY := hid (CY.out.below b)
            replace BB := hid (BB.out.trans (b.mono BB.out.size))
            clear b CC x0
            obtain ⟨da, dc, rfl, hS⟩ := hO.form
            have CB := hid hS
            clear hS hO
            have x0 := h.out.2.1
            go_wp2_with fail
            have CC := hid (c_iCellsIn ha GW hc QW w10 h.out.2.2.1 hTw HWK.out h.out.2.2.2.1 h.out.2.2.2.2)
            rw [T4.out] at CC
            refine CC.out.mono ?_
            rintro e w11 ⟨v, rfl, hO, b⟩
            replace SM := hid (SM.out.below b)
            replace f := hid (f.out.below b)
            replace g := hid (g.out.below b)
            replace h := hid (h.out.below b)
            replace CX := hid (CX.out.below b)
            replace CY := hid (CY.out.below b)
            replace CB := hid (CB.out.below b)
            replace BB := hid (BB.out.trans (b.mono BB.out.size))
            clear b CC x0
            obtain ⟨ea, ec, rfl, hS⟩ := hO.form
            have CL := hid hS
            clear hS hO
            have hXl := cin_le F p
            have hYl := cin_le F q
            have hBl := cin_le GU QU
            have hLl := cin_le GW QW
            clear T1 T2 T3 T4
            generalize cinV F p = LX at *
            generalize cinV F q = LY at *
            generalize cinV GU QU = LB at *
            generalize cinV GW QW = LL at *
            have dS : ((LB.length : Int) != (LL.length : Int) + (LY.length : Int)) = false := by have := T5.out; simp; omega
            go_wp2_with fail
            go_loopw [185] (fun iv wr => ∃ k : Nat, k ≤ LX.length ∧ iv = .int .i64 k ∧ Hid (Below w11.heap.size w11 wr)) (fun iv _ => LX.length - (intOf iv).toNat)
            case atStart => exact ⟨0, Nat.zero_le _, rfl, Below.refl _ _⟩
            case round =>
              obtain ⟨k, hk, rfl, HB⟩ := hrel
              by_cases hlt : k < LX.length
              · obtain ⟨m1, m2⟩ := T6.out (at_ LX k) (mem_at.2 ⟨k, hlt, rfl⟩)
                obtain ⟨bz, oz, rfl, hbz, p1, p2⟩ := CX.out k hlt
                have g1 := (HB.out.cell (p := ⟨bz, oz + k * 2, none⟩) hbz).trans p1
                have g2 := (HB.out.cell (p := ⟨bz, oz + k * 2 + 1, none⟩) hbz).trans p2
                change _ = some (Value.int .i64 (at_ LX k).1) at g1
                change _ = some (Value.int .i64 (at_ LX k).2) at g2
                clear p1 p2
                have k0 : (0 : Int) ≤ (k : Int) := by omega
                have k1 : (k : Int) < (LX.length : Int) := by omega
                generalize at_ LX k = z at *
                have HZ := hid (⟨cell_new0 wr (.int .i64 z.1) (.int .i64 z.2) 39, cell_new1 wr (.int .i64 z.1) (.int .i64 z.2) 39, by simp⟩ : (wr.alloc (.cells #[.int .i64 z.1, .int .i64 z.2] 39)).cell? ⟨wr.heap.size, 0, none⟩ = some (.int .i64 z.1) ∧ (wr.alloc (.cells #[.int .i64 z.1, .int .i64 z.2] 39)).cell? ⟨wr.heap.size, 1, none⟩ = some (.int .i64 z.2) ∧ wr.heap.size < (wr.alloc (.cells #[.int .i64 z.1, .int .i64 z.2] 39)).heap.size)
                have HZB := hid ((Below.refl wr.heap.size wr).alloc (Nat.le_refl _) (.cells #[.int .i64 z.1, .int .i64 z.2] 39))
                have HCB : Hid (∀ (W : World), Below wr.heap.size wr W → Calls Try.prog 24 #[.slice da LB.length dc, .agg #[.int .i64 z.1, .int .i64 z.2]] W fun e w' => e = .returned (.bool true) ∧ Below W.heap.size W w') := fun W h => by have := c_hasCellL da LB dc z W (CB.out.below (bel_step HB.out h)) (by omega); rw [decide_eq_true m1] at this; exact this
                have HCY := hid (fun (W : World) (h : Below wr.heap.size wr W) => c_hasCellL ya LY yc z W (CY.out.below (bel_step HB.out h)) (by omega))
                have HCL : Hid (∀ (W : World), Below wr.heap.size wr W → Calls Try.prog 24 #[.slice ea LL.length ec, .agg #[.int .i64 z.1, .int .i64 z.2]] W fun e w' => e = .returned (.bool (!decide (z ∈ LY))) ∧ Below W.heap.size W w') := fun W h => by have := c_hasCellL ea LL ec z W (CL.out.below (bel_step HB.out h)) (by omega); rw [m2] at this; exact this
                clear m1 m2 dS
                generalize decide (z ∈ LY) = vy at *
                cases vy
                case false =>
                  go_wp2_with fail
                  generalize wr.alloc (.cells #[.int .i64 z.1, .int .i64 z.2] 39) = Wz at *
                  have BR := (Below.refl Wz.heap.size Wz).drew
                  have keep : Hid (∀ W : World, Below Wz.heap.size Wz W → W.cell? ⟨wr.heap.size, 0, none⟩ = some (.int .i64 z.1) ∧ W.cell? ⟨wr.heap.size, 1, none⟩ = some (.int .i64 z.2)) := fun W h => ⟨(h.cell (p := ⟨wr.heap.size, 0, none⟩) HZ.out.2.2).trans HZ.out.1, (h.cell (p := ⟨wr.heap.size, 1, none⟩) HZ.out.2.2).trans HZ.out.2.1⟩
                  go_region_held3 (fun W => W.cell? ⟨wr.heap.size, 0, none⟩ = some (.int .i64 z.1) ∧ W.cell? ⟨wr.heap.size, 1, none⟩ = some (.int .i64 z.2))
                    (first | exact keep.out _ (Below.refl Wz.heap.size Wz) | exact keep.out _ BR | go_keep)
                    (first
                      | (go_at_call 24; have _g := hq2; refine (HCY.out _ (bel_step HZB.out BR)).mono ?_; rintro e w9 ⟨rfl, b⟩; replace BR := bel_step BR b; clear b)
                      | (go_at_call 24; have _g := hq1; refine (HCL.out _ (bel_step HZB.out BR)).mono ?_; rintro e w9 ⟨rfl, b⟩; replace BR := bel_step BR b; have hq2 : True := trivial; clear b)
                      | (go_at_call 24; refine (HCB.out _ (bel_step HZB.out BR)).mono ?_; rintro e w9 ⟨rfl, b⟩; replace BR := bel_step BR b; have hq1 : True := trivial; clear b))
                  have HBN := hid (bel_step HB.out (bel_step HZB.out BR))
                  clear keep BR
                  go_wp2_with fail
                  go_roundw
                  case rel => exact ⟨k + 1, by omega, by go_num, HBN.out⟩
                  case measure => simp [intOf]; omega
                case true =>
                  go_wp2_with fail
                  generalize wr.alloc (.cells #[.int .i64 z.1, .int .i64 z.2] 39) = Wz at *
                  have BR := (Below.refl Wz.heap.size Wz).drew
                  have keep : Hid (∀ W : World, Below Wz.heap.size Wz W → W.cell? ⟨wr.heap.size, 0, none⟩ = some (.int .i64 z.1) ∧ W.cell? ⟨wr.heap.size, 1, none⟩ = some (.int .i64 z.2)) := fun W h => ⟨(h.cell (p := ⟨wr.heap.size, 0, none⟩) HZ.out.2.2).trans HZ.out.1, (h.cell (p := ⟨wr.heap.size, 1, none⟩) HZ.out.2.2).trans HZ.out.2.1⟩
                  go_region_held3 (fun W => W.cell? ⟨wr.heap.size, 0, none⟩ = some (.int .i64 z.1) ∧ W.cell? ⟨wr.heap.size, 1, none⟩ = some (.int .i64 z.2))
                    (first | exact keep.out _ (Below.refl Wz.heap.size Wz) | exact keep.out _ BR | go_keep)
                    (first
                      | (go_at_call 24; have _g := hq2; refine (HCY.out _ (bel_step HZB.out BR)).mono ?_; rintro e w9 ⟨rfl, b⟩; replace BR := bel_step BR b; clear b)
                      | (go_at_call 24; have _g := hq1; refine (HCL.out _ (bel_step HZB.out BR)).mono ?_; rintro e w9 ⟨rfl, b⟩; replace BR := bel_step BR b; have hq2 : True := trivial; clear b)
                      | (go_at_call 24; refine (HCB.out _ (bel_step HZB.out BR)).mono ?_; rintro e w9 ⟨rfl, b⟩; replace BR := bel_step BR b; have hq1 : True := trivial; clear b))
                  have HBN := hid (bel_step HB.out (bel_step HZB.out BR))
                  clear keep BR
                  go_wp2_with fail
                  go_roundw
                  case rel => exact ⟨k + 1, by omega, by go_num, HBN.out⟩
                  case measure => simp [intOf]; omega
              · have BF := hid (bel_step BB.out HB.out)
                have SF := hid (SM.out.below HB.out)
                go_wp2_with fail
                refine Met.intro (hJ _ _ (meet_fun ⟨SF, BF⟩ ?_))
                kernel_rfl
      case rest =>
        clear SM BB f g h hTu HUK hTw HWK TWF hFk hFl d1 d2
        rintro _ wc ⟨sl, rfl, SM, BB⟩
        go_wp2_with fail
        refine (c_DrawFrameOf a1 l1 c1 wc SM.out (by omega)).mono ?_
        rintro e w8 ⟨u, q1, F1, rfl, hG, hF1, p0, p1, b⟩
        replace SM := hid (SM.out.below b)
        replace BB := hid (BB.out.trans (b.mono BB.out.size))
        clear b
        obtain ⟨fa1, fc1, rfl, k1, k2, hQ⟩ := hG.form
        have FN1 := hid (show FN _ fa1 F1 from ⟨hQ, hG.noneCap⟩)
        have ba := (Below.refl w8.heap.size w8).alloc (Nat.le_refl _) (.cells #[.slice fa1 F1.length fc1] 25)
        replace SM := hid (SM.out.below ba)
        replace FN1 := hid (FN1.out.below ba)
        replace BB := hid (BB.out.trans (ba.mono BB.out.size))
        have f1 := hid (show FV (w8.alloc (.cells #[.slice fa1 F1.length fc1] 25)) w8.heap.size fa1 fc1 F1 from FV.new hQ k1 k2 25)
        clear ba hQ k1 k2 hG
        have hF1k := hid hF1.2.2
        have hF1l : F1.length ≤ 1048576 := by have := hF1.2.1; omega
        clear hF1
        obtain ⟨hTm, hMk, _⟩ := ans_small (frmOK F1 q1) (frmR F1 q1) frm_grows
        have HMK := hid hMk
        clear hMk
        have FRF := hid (frm_facts (F := F1) (q := q1))
        have x0 := f1.out.2.1
        go_wp2_with fail
        generalize w8.alloc (.cells #[.slice fa1 F1.length fc1] 25) = W8 at *
        generalize w8.heap.size = bf1 at *
        refine (c_iFrameOf fa1 F1 fc1 q1 W8 f1.out.2.2.1 hF1l hF1k.out f1.out.2.2.2.1 f1.out.2.2.2.2).mono ?_
        rintro e w9 ⟨u, rfl, hO, b⟩
        replace SM := hid (SM.out.below b)
        replace FN1 := hid (FN1.out.below b)
        replace f1 := hid (f1.out.below b)
        replace BB := hid (BB.out.trans (b.mono BB.out.size))
        clear b x0
        obtain ⟨ma, mc, rfl, k1, k2, hQ⟩ := hO.form
        have ba := (Below.refl w9.heap.size w9).alloc (Nat.le_refl _) (.cells #[.slice ma (ansF (frmOK F1 q1) (frmR F1 q1)).length mc] 25)
        replace SM := hid (SM.out.below ba)
        replace FN1 := hid (FN1.out.below ba)
        replace f1 := hid (f1.out.below ba)
        replace BB := hid (BB.out.trans (ba.mono BB.out.size))
        have m := hid (show FV (w9.alloc (.cells #[.slice ma (ansF (frmOK F1 q1) (frmR F1 q1)).length mc] 25)) w9.heap.size ma mc (ansF (frmOK F1 q1) (frmR F1 q1)) from FV.new hQ k1 k2 25)
        clear ba hQ k1 k2 hO
        have x0 := f1.out.2.1
        go_wp2_with fail
        generalize w9.alloc (.cells #[.slice ma (ansF (frmOK F1 q1) (frmR F1 q1)).length mc] 25) = W9 at *
        generalize w9.heap.size = bm at *
        refine (c_sFrameOf fa1 F1 fc1 q1 W9 f1.out.2.2.1 hF1l hF1k.out f1.out.2.2.2.1 f1.out.2.2.2.2 FN1.out.2).mono ?_
        rintro e w10 ⟨u, rfl, hG, b⟩
        replace SM := hid (SM.out.below b)
        replace FN1 := hid (FN1.out.below b)
        replace f1 := hid (f1.out.below b)
        replace m := hid (m.out.below b)
        replace BB := hid (BB.out.trans (b.mono BB.out.size))
        clear b x0
        obtain ⟨ra, rc, rfl, k1, k2, hQ⟩ := hG.form
        have ba := (Below.refl w10.heap.size w10).alloc (Nat.le_refl _) (.cells #[.slice ra (ansF (frmOK F1 q1) (frmR F1 q1)).length rc] 25)
        replace SM := hid (SM.out.below ba)
        replace FN1 := hid (FN1.out.below ba)
        replace f1 := hid (f1.out.below ba)
        replace m := hid (m.out.below ba)
        replace BB := hid (BB.out.trans (ba.mono BB.out.size))
        have frame := hid (show FV (w10.alloc (.cells #[.slice ra (ansF (frmOK F1 q1) (frmR F1 q1)).length rc] 25)) w10.heap.size ra rc (ansF (frmOK F1 q1) (frmR F1 q1)) from FV.new hQ k1 k2 25)
        clear ba hQ k1 k2 hG
        have xg := m.out.2.1
        have xw := frame.out.2.1
        have d3 : (ansB (frmOK F1 q1) (frmR F1 q1) != ansB (frmOK F1 q1) (frmR F1 q1)) = false := by simp
        have d4 : (ansQ (frmOK F1 q1) (frmR F1 q1) != ansQ (frmOK F1 q1) (frmR F1 q1)) = false := by simp
        go_wp2_with fail
        generalize w10.alloc (.cells #[.slice ra (ansF (frmOK F1 q1) (frmR F1 q1)).length rc] 25) = W10 at *
        generalize w10.heap.size = bframe at *
        clear xg xw d3 d4
        generalize ansF (frmOK F1 q1) (frmR F1 q1) = M at *
        generalize ansQ (frmOK F1 q1) (frmR F1 q1) = R at *
        generalize ansB (frmOK F1 q1) (frmR F1 q1) = two at *
        refine (c_sameForest ma ra M mc rc W10 m.out.2.2.1 frame.out.2.2.1 hTm HMK.out).mono ?_
        rintro e w11 ⟨rfl, b⟩
        replace SM := hid (SM.out.below b)
        replace FN1 := hid (FN1.out.below b)
        replace f1 := hid (f1.out.below b)
        replace m := hid (m.out.below b)
        replace frame := hid (frame.out.below b)
        replace BB := hid (BB.out.trans (b.mono BB.out.size))
        clear b
        clear frame FN1 f1
        clear hF1k hF1l
        go_upto_if 236 with fail
        refine wp_cut (fun a' wx => ∃ sl : Nat → Value, a' = Act.mk #[.slice a0 l0.length c0, .slice a1 l1.length c1, sl 2, sl 3, sl 4, sl 5, sl 6, sl 7, sl 8, sl 9, sl 10, sl 11, sl 12, sl 13, sl 14, sl 15, sl 16, sl 17, sl 18, sl 19, sl 20, sl 21, sl 22, sl 23, sl 24, sl 25, sl 26, sl 27, sl 28, sl 29, sl 30, sl 31, sl 32, sl 33, sl 34, sl 35, sl 36, sl 37, sl 38, sl 39, sl 40, sl 41, sl 42, sl 43, sl 44, sl 45, sl 46, sl 47, sl 48, sl 49, sl 50, sl 51, sl 52, sl 53, sl 54, sl 55, sl 56, sl 57, sl 58, sl 59, sl 60, sl 61, sl 62, sl 63, sl 64, sl 65, sl 66, sl 67, sl 68, sl 69, sl 70, sl 71, sl 72, sl 73, sl 74, sl 75, sl 76, sl 77, sl 78, sl 79, sl 80, sl 81, sl 82, sl 83, sl 84, sl 85, sl 86, sl 87, sl 88, sl 89, sl 90, sl 91, sl 92, sl 93, sl 94, sl 95, sl 96, sl 97, sl 98, sl 99, sl 100, sl 101, sl 102, sl 103, sl 104, sl 105, sl 106, sl 107, sl 108, sl 109, sl 110, sl 111, sl 112, sl 113, sl 114, sl 115, sl 116, sl 117, sl 118, sl 119, sl 120, sl 121, sl 122, sl 123, sl 124, sl 125, sl 126, sl 127, sl 128, sl 129, sl 130, sl 131, sl 132, sl 133, sl 134, sl 135, sl 136, sl 137, sl 138, sl 139, sl 140, sl 141, sl 142, sl 143, sl 144, sl 145, sl 146, sl 147, sl 148, sl 149, sl 150, sl 151, sl 152, sl 153, sl 154, sl 155, sl 156, sl 157, sl 158, sl 159, sl 160, sl 161, sl 162, sl 163, sl 164, sl 165, sl 166, sl 167, sl 168, sl 169, sl 170, sl 171, sl 172, sl 173, sl 174, sl 175, sl 176, sl 177, sl 178, sl 179, sl 180, sl 181, sl 182, sl 183, sl 184, sl 185, sl 186, sl 187, sl 188, sl 189, sl 190, sl 191, sl 192, sl 193, sl 194, sl 195, sl 196, sl 197, sl 198, sl 199, sl 200, sl 201, sl 202, sl 203, sl 204, sl 205, sl 206, sl 207, sl 208, sl 209, sl 210, sl 211, sl 212, sl 213, sl 214, sl 215, sl 216, sl 217, sl 218, sl 219, sl 220, sl 221, sl 222, sl 223, sl 224, sl 225, sl 226, sl 227, sl 228, sl 229, sl 230, sl 231, sl 232, sl 233, sl 234, sl 235, sl 236, sl 237, sl 238, sl 239, sl 240, sl 241, sl 242, sl 243, sl 244, sl 245, sl 246, sl 247, sl 248, sl 249, sl 250, sl 251, sl 252, sl 253, sl 254, sl 255, sl 256, sl 257, sl 258, sl 259, sl 260, sl 261, sl 262, sl 263, sl 264, sl 265, sl 266, sl 267, sl 268, sl 269, sl 270, sl 271, sl 272, sl 273, sl 274, sl 275, sl 276, sl 277, sl 278, sl 279, sl 280, sl 281, sl 282, sl 283, sl 284, sl 285, sl 286, sl 287, sl 288, sl 289, sl 290, sl 291, sl 292, sl 293, sl 294, sl 295, sl 296, sl 297, sl 298, sl 299, sl 300, sl 301, sl 302, sl 303, sl 304, sl 305, sl 306, sl 307, sl 308, sl 309, sl 310, sl 311, sl 312, sl 313, sl 314, sl 315, sl 316, sl 317, sl 318, sl 319, sl 320, sl 321, sl 322, sl 323, sl 324, sl 325, sl 326, sl 327, sl 328, sl 329] [] ∧ Hid (BSeg wx a1 l1) ∧ Hid (Below w0.heap.size w0 wx)) ?rest ?first
        case first =>
          intro J K' hJ hK
          cases two
          case false =>
            go_wp2_with fail
            refine Met.intro (hJ _ _ (meet_fun ⟨hid SM.out, hid BB.out⟩ ?_))
            kernel_rfl
          case true =>
            obtain ⟨t1, t2, t3, t4, t5⟩ := FRF.out (by first | rfl | trivial)
            have T1 := hid t1
            have T2 := hid t2
            have T3 := hid t3
            have T4 := hid t4
            have T5 := hid t5
            clear t1 t2 t3 t4 t5 FRF
            have x0 := m.out.2.1
            go_wp2_with fail
            have CC := hid (c_iIsFramed ma M mc R w11 m.out.2.2.1 hTm HMK.out m.out.2.2.2.1 m.out.2.2.2.2)
            rw [T2.out, T1.out] at CC
            refine CC.out.mono ?_
            rintro e w12 ⟨rfl, b⟩
            replace SM := hid (SM.out.below b)
            replace m := hid (m.out.below b)
            replace BB := hid (BB.out.trans (b.mono BB.out.size))
            clear b CC x0
            have x0 := m.out.2.1
            go_wp2_with fail
            have CC := hid (c_iCentreOf ma M mc R w12 m.out.2.2.1 hTm HMK.out m.out.2.2.2.1 m.out.2.2.2.2)
            rw [T3.out, T4.out, T5.out] at CC
            refine CC.out.mono ?_
            rintro e w13 ⟨u, rfl, hO, b⟩
            replace SM := hid (SM.out.below b)
            replace m := hid (m.out.below b)
            replace BB := hid (BB.out.trans (b.mono BB.out.size))
            clear b CC x0
            obtain ⟨na, nc, rfl, k1, k2, hQ⟩ := hO.form
            have ba := (Below.refl w13.heap.size w13).alloc (Nat.le_refl _) (.cells #[.slice na M.length nc] 25)
            replace SM := hid (SM.out.below ba)
            replace m := hid (m.out.below ba)
            replace BB := hid (BB.out.trans (ba.mono BB.out.size))
            have n := hid (show FV (w13.alloc (.cells #[.slice na M.length nc] 25)) w13.heap.size na nc M from FV.new hQ k1 k2 25)
            clear ba hQ k1 k2 hO
            clear T1 T2 T3 T4 T5
            have dq : (q1 != q1) = false := by simp
            have xg := n.out.2.1
            have xw := m.out.2.1
            go_wp2_with fail
            generalize w13.alloc (.cells #[.slice na M.length nc] 25) = W13 at *
            generalize w13.heap.size = bn at *
            clear xg xw dq
            refine (c_sameForest na ma M nc mc W13 n.out.2.2.1 m.out.2.2.1 hTm HMK.out).mono ?_
            rintro e w14 ⟨rfl, b⟩
            replace SM := hid (SM.out.below b)
            replace m := hid (m.out.below b)
            replace n := hid (n.out.below b)
            replace BB := hid (BB.out.trans (b.mono BB.out.size))
            clear b
            go_wp2_with fail
            refine Met.intro (hJ _ _ (meet_fun ⟨hid SM.out, hid BB.out⟩ ?_))
            kernel_rfl
        case rest =>
          clear SM BB m hTm HMK FRF
          rintro _ wc ⟨sl, rfl, SM, BB⟩
          go_wp2_with fail
          refine (c_DrawCentreOf a1 l1 c1 wc SM.out (by omega)).mono ?_
          rintro e w12 ⟨u, q2, F2, rfl, hG, hF2, p2, p3, b⟩
          replace SM := hid (SM.out.below b)
          replace BB := hid (BB.out.trans (b.mono BB.out.size))
          clear b
          obtain ⟨fa2, fc2, rfl, k1, k2, hQ⟩ := hG.form
          have FN2 := hid (show FN _ fa2 F2 from ⟨hQ, hG.noneCap⟩)
          have ba := (Below.refl w12.heap.size w12).alloc (Nat.le_refl _) (.cells #[.slice fa2 F2.length fc2] 25)
          replace SM := hid (SM.out.below ba)
          replace FN2 := hid (FN2.out.below ba)
          replace BB := hid (BB.out.trans (ba.mono BB.out.size))
          have f2 := hid (show FV (w12.alloc (.cells #[.slice fa2 F2.length fc2] 25)) w12.heap.size fa2 fc2 F2 from FV.new hQ k1 k2 25)
          clear ba hQ k1 k2 hG
          have hF2k := hid hF2.2.2
          have hF2l : F2.length ≤ 1048576 := by have := hF2.2.1; omega
          clear hF2
          obtain ⟨hTc, hCk, _⟩ := ans_small (cenOK F2 q2) (cenR F2 q2) cen_grows
          have HCK := hid hCk
          clear hCk
          have x0 := f2.out.2.1
          go_wp2_with fail
          generalize w12.alloc (.cells #[.slice fa2 F2.length fc2] 25) = W12 at *
          generalize w12.heap.size = bf2 at *
          refine (c_iCentreOf fa2 F2 fc2 q2 W12 f2.out.2.2.1 hF2l hF2k.out f2.out.2.2.2.1 f2.out.2.2.2.2).mono ?_
          rintro e w13 ⟨u, rfl, hO, b⟩
          replace SM := hid (SM.out.below b)
          replace FN2 := hid (FN2.out.below b)
          replace f2 := hid (f2.out.below b)
          replace BB := hid (BB.out.trans (b.mono BB.out.size))
          clear b x0
          obtain ⟨na, nc, rfl, k1, k2, hQ⟩ := hO.form
          have ba := (Below.refl w13.heap.size w13).alloc (Nat.le_refl _) (.cells #[.slice na (ansF (cenOK F2 q2) (cenR F2 q2)).length nc] 25)
          replace SM := hid (SM.out.below ba)
          replace FN2 := hid (FN2.out.below ba)
          replace f2 := hid (f2.out.below ba)
          replace BB := hid (BB.out.trans (ba.mono BB.out.size))
          have n := hid (show FV (w13.alloc (.cells #[.slice na (ansF (cenOK F2 q2) (cenR F2 q2)).length nc] 25)) w13.heap.size na nc (ansF (cenOK F2 q2) (cenR F2 q2)) from FV.new hQ k1 k2 25)
          clear ba hQ k1 k2 hO
          have x0 := f2.out.2.1
          go_wp2_with fail
          generalize w13.alloc (.cells #[.slice na (ansF (cenOK F2 q2) (cenR F2 q2)).length nc] 25) = W13 at *
          generalize w13.heap.size = bn at *
          refine (c_sCentreOf fa2 F2 fc2 q2 W13 f2.out.2.2.1 hF2l hF2k.out f2.out.2.2.2.1 f2.out.2.2.2.2 FN2.out.2).mono ?_
          rintro e w14 ⟨u, rfl, hG, b⟩
          replace SM := hid (SM.out.below b)
          replace FN2 := hid (FN2.out.below b)
          replace f2 := hid (f2.out.below b)
          replace n := hid (n.out.below b)
          replace BB := hid (BB.out.trans (b.mono BB.out.size))
          clear b x0
          obtain ⟨ca, cc, rfl, k1, k2, hQ⟩ := hG.form
          have ba := (Below.refl w14.heap.size w14).alloc (Nat.le_refl _) (.cells #[.slice ca (ansF (cenOK F2 q2) (cenR F2 q2)).length cc] 25)
          replace SM := hid (SM.out.below ba)
          replace FN2 := hid (FN2.out.below ba)
          replace f2 := hid (f2.out.below ba)
          replace n := hid (n.out.below ba)
          replace BB := hid (BB.out.trans (ba.mono BB.out.size))
          have centre := hid (show FV (w14.alloc (.cells #[.slice ca (ansF (cenOK F2 q2) (cenR F2 q2)).length cc] 25)) w14.heap.size ca cc (ansF (cenOK F2 q2) (cenR F2 q2)) from FV.new hQ k1 k2 25)
          clear ba hQ k1 k2 hG
          go_wp2_with fail
          generalize w14.alloc (.cells #[.slice ca (ansF (cenOK F2 q2) (cenR F2 q2)).length cc] 25) = W14 at *
          generalize w14.heap.size = bcentre at *
          generalize ansF (cenOK F2 q2) (cenR F2 q2) = C2 at *
          generalize ansQ (cenOK F2 q2) (cenR F2 q2) = Q2 at *
          generalize ansB (cenOK F2 q2) (cenR F2 q2) = ok2 at *
          clear f2 FN2
          clear hF2k hF2l
          refine (c_DrawIsFramed a1 l1 c1 W14 SM.out (by omega)).mono ?_
          rintro e w15 ⟨u, q3, F3, rfl, hG, hF3, b⟩
          replace SM := hid (SM.out.below b)
          replace n := hid (n.out.below b)
          replace centre := hid (centre.out.below b)
          replace BB := hid (BB.out.trans (b.mono BB.out.size))
          clear b
          obtain ⟨fa3, fc3, rfl, k1, k2, hQ⟩ := hG.form
          have ba := (Below.refl w15.heap.size w15).alloc (Nat.le_refl _) (.cells #[.slice fa3 F3.length fc3] 25)
          replace SM := hid (SM.out.below ba)
          replace n := hid (n.out.below ba)
          replace centre := hid (centre.out.below ba)
          replace BB := hid (BB.out.trans (ba.mono BB.out.size))
          have f3 := hid (show FV (w15.alloc (.cells #[.slice fa3 F3.length fc3] 25)) w15.heap.size fa3 fc3 F3 from FV.new hQ k1 k2 25)
          clear ba hQ k1 k2 hG
          clear SM
          have hF3k := hid hF3.2
          have hF3l := hF3.1
          clear hF3
          have x0 := f3.out.2.1
          go_wp2_with fail
          generalize w15.alloc (.cells #[.slice fa3 F3.length fc3] 25) = W15 at *
          generalize w15.heap.size = bf3 at *
          refine (c_iIsFramed fa3 F3 fc3 q3 W15 f3.out.2.2.1 hF3l hF3k.out f3.out.2.2.2.1 f3.out.2.2.2.2).mono ?_
          rintro e w16 ⟨rfl, b⟩
          replace n := hid (n.out.below b)
          replace centre := hid (centre.out.below b)
          replace f3 := hid (f3.out.below b)
          replace BB := hid (BB.out.trans (b.mono BB.out.size))
          clear b x0
          have x0 := f3.out.2.1
          go_wp2_with fail
          refine (c_sIsFramed fa3 F3 fc3 q3 w16 f3.out.2.2.1 hF3l hF3k.out f3.out.2.2.2.1 f3.out.2.2.2.2).mono ?_
          rintro e w17 ⟨rfl, b⟩
          replace n := hid (n.out.below b)
          replace centre := hid (centre.out.below b)
          replace f3 := hid (f3.out.below b)
          replace BB := hid (BB.out.trans (b.mono BB.out.size))
          clear b x0
          generalize frdV F3 q3 = fr3 at *
          generalize cenOK F3 q3 = ok3 at *
          clear f3
          clear hF3k hF3l
          have d1 : (ok2 == ok2) = true := by simp
          have d2 : (Q2 == Q2) = true := by simp
          have d3 : (ok3 == ok3) = true := by simp
          have d4 : (fr3 == fr3) = true := by simp
          have xg := n.out.2.1
          have xw := centre.out.2.1
          go_wp2_with fail
          refine (c_sameForest na ca C2 nc cc w17 n.out.2.2.1 centre.out.2.2.1 hTc HCK.out).mono ?_
          rintro e w18 ⟨rfl, b⟩
          replace n := hid (n.out.below b)
          replace centre := hid (centre.out.below b)
          replace BB := hid (BB.out.trans (b.mono BB.out.size))
          clear b
          go_wp2_with fail
          go_ret
          exact ⟨rfl, BB.out⟩
  · have hz : (1048576 : Int) < wrap64 ((l0.length : Int) + (l1.length : Int)) := by omega
    go_enter Try.func6, Try.ntmps6
    go_wp2
    go_ret
    exact ⟨rfl, Below.refl _ _⟩

set_option maxRecDepth 100000 in
theorem lifted (os : Os) (started : os.Started) (H : Type) (enc : TypeId × Value → H) :
    ReturnsInHanded {} Try.checked os 6 .any (Rows.fnFramedSpec.pre6 enc Try.prog Try.f6 Rows.fnFramedRow.domain false) (Rows.fnFramedSpec.post enc Try.prog Try.f6 false true false false) := by
  refine returnsInHanded_of_change (C := Try.checked) own started (by kernel_rfl) Try.func6
    (ChangeSpec.witness6 (enc := enc) (C := Try.checked) false ⟨#[], #[.slice none 0 0, .slice none 0 0], []⟩ 8 (by kernel_rfl) (by kernel_rfl) (by kernel_rfl) (by kernel_rfl)) ?_
  intro W base args ds gs before hval0 hW hcnd _
  have hval : ∀ (j : Nat) t v, Try.f6.params[j]? = some t → args[j]? = some v → Value.okWide Try.prog W .any base t v := hval0
  have hW' := hW
  obtain ⟨p, q, hA0, hV, rfl, hfz, hnd⟩ := hW
  have hA : DataW.TrodAll enc Try.prog W 0 (fun _ => true) true Try.f6.params.toList args.toList ds p := hA0
  rw [Try.params6] at hA hval
  obtain ⟨v0, vs0, d0, ds0, p0, q0, hargs, rfl, rfl, h0, r0⟩ := trodAll_cons hA
  obtain ⟨v1, vs1, d1, ds1, p1, q1, rfl, rfl, rfl, h1, r1⟩ := trodAll_cons r0
  obtain ⟨rfl, rfl, rfl⟩ := trodAll_nil r1
  obtain rfl : args = #[v0, v1] := by cases args; simp_all
  obtain ⟨rfl, rfl⟩ := trodVars_none hV
  have k0 := h0
  have lt0 : ∀ x ∈ p0, x.block < W.heap.size := by obtain ⟨m, hm⟩ := k0; exact DataW.trod_lt m _ _ _ hm
  obtain ⟨a0, len0, cap0, rfl⟩ := okWide_slice Try.underlying22 (hval 0 22 v0 rfl rfl)
  obtain ⟨l0, rfl, m0, s0⟩ : ∃ l : List Int, l.length = len0 ∧ l.length ≤ maxLen ∧ BSeg W a0 l := by
    obtain ⟨fuel, hf⟩ := h0
    exact open_bytes hf
  have k1 := h1
  have lt1 : ∀ x ∈ p1, x.block < W.heap.size := by obtain ⟨m, hm⟩ := k1; exact DataW.trod_lt m _ _ _ hm
  obtain ⟨a1, len1, cap1, rfl⟩ := okWide_slice Try.underlying22 (hval 1 22 v1 rfl rfl)
  obtain ⟨l1, rfl, m1, s1⟩ : ∃ l : List Int, l.length = len1 ∧ l.length ≤ maxLen ∧ BSeg W a1 l := by
    obtain ⟨fuel, hf⟩ := h1
    exact open_bytes hf
  clear hA0 hval0
  refine (walk a0 l0 cap0 a1 l1 cap1 W s0 m0 s1 m1).mono fun e W' ⟨he, bel⟩ => ?_
  subst he
  exact ⟨_, rfl, _, _, _, [], _, [], hW', trodAll_mk1 (shut_bool Try.underlying4 _), (trodAll_cons_mk (Below.trod laidOut (by kernel_rfl) (of_decide_eq_true (by kernel_rfl)) k0 bel lt0) (trodAll_cons_mk (Below.trod laidOut (by kernel_rfl) (of_decide_eq_true (by kernel_rfl)) k1 bel lt1) trodAll_mk0)), rfl, bel.frame _, fun h => by cases h⟩

theorem over : Rows.fnFramedRow.holds Try.pinned (OpenSpec.ofChange Rows.fnFramedSpec) :=
  OpenClaim.holds_of_wide 6 Try.f6 rfl rfl rfl rfl rfl rfl rfl ⟨rfl, rfl, rfl, rfl, rfl⟩ rfl rfl rfl rfl rfl (by kernel_rfl) Try.func6 (by kernel_rfl)
    (of_decide_eq_true (by kernel_rfl)) (by unfold Func.isWrapper; first | (rw [if_pos (by decide +kernel)]; kernel_rfl) | (rw [if_neg (by decide +kernel)]; exact ⟨rfl, rfl⟩))
    (fun os started H enc _ => lifted os started H enc)

end Go.Proofs.Ytmapbkefndbnnaa.lFramed
namespace Go.Proofs.Ytmapbkefndbnnaa
/-- THE STATEMENT. -/
theorem framed_holds : Rows.FnFramedSaid := lFramed.over
#print axioms framed_holds
end Go.Proofs.Ytmapbkefndbnnaa
