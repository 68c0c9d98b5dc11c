/- FnShared answers true at every argument: four kids are joined once, and a tree is made of no more quads than it has squares, for drawn trees. No condition. (Written by wip/tools/mkshared.py.) -/
import Derived.Test.YtmapbkefndbnnaaKl
import Derived.Deep.RegionHeld3
namespace Go.Proofs.Ytmapbkefndbnnaa.lShared
open Go.RowKit Go.ChangeShapes Go.WideShapes Go.ChangeAt
set_option linter.unusedVariables false
set_option linter.unusedSimpArgs false
attribute [local go_sem ↓] Go.wp_at_zero Go.wp_at_succ

/-- The counts of the first k kids. -/
def csum (G : List Qd) (l : List Int) : Nat → Int
  | 0 => 0
  | k + 1 => csum G l k + cntV G (ia l k)

theorem csum_bd {G : List Qd} {l : List Int} (h : ∀ i, i < 4 → thereB G (ia l i) = true ∧ 0 ≤ cntV G (ia l i) ∧ cntV G (ia l i) ≤ 1024) : ∀ k, k ≤ 4 → 0 ≤ csum G l k ∧ csum G l k ≤ 1024 * (k : Int)
  | 0, _ => ⟨by simp [csum], by simp [csum]⟩
  | k + 1, hk => by
    have h1 := csum_bd h k (by omega)
    have h2 := h k (by omega)
    simp only [csum]
    omega

set_option maxHeartbeats 16000000 in
set_option maxRecDepth 100000 in
theorem walk (a0 : Option Addr) (l0 : List Int) (c0 : Nat) (a1 : Option Addr) (l1 : List Int) (c1 : Nat) (w0 : World) (ha : BSeg w0 a0 l0) (hm0 : l0.length ≤ maxLen) (hb : BSeg w0 a1 l1) (hm1 : l1.length ≤ maxLen) :
    Calls Try.prog 4 #[.slice a0 l0.length c0, .slice a1 l1.length c1] w0 fun e w' => e = .returned (.bool true) ∧ Below w0.heap.size w0 w' := by
  unfold maxLen at hm0 hm1
  by_cases hl : wrap64 ((l0.length : Int) + (l1.length : Int)) ≤ 1048576
  · have SM := hid hb
    have BB := hid (Below.refl w0.heap.size w0)
    have HA := hid ha
    clear ha hb
    go_enter Try.func4, Try.ntmps4
    go_wp2_with fail
    refine (c_DrawJoinQuads a0 l0 c0 w0 HA.out (by omega)).mono ?_
    rintro e w1 ⟨u, F, kd, kids, kc, rfl, hG, hF, hK, hkl, b⟩
    replace SM := hid (SM.out.below b)
    replace BB := hid (BB.out.trans (b.mono BB.out.size))
    clear b
    have KI := hid hK
    clear HA hK
    obtain ⟨fa, fc, rfl, k1, k2, hQ⟩ := hG.form
    have FNf := hid (show FN _ fa F from ⟨hQ, hG.noneCap⟩)
    have ba := (Below.refl w1.heap.size w1).alloc (Nat.le_refl _) (.cells #[.slice fa F.length fc] 25)
    replace SM := hid (SM.out.below ba)
    replace KI := hid (KI.out.below ba)
    replace FNf := hid (FNf.out.below ba)
    replace BB := hid (BB.out.trans (ba.mono BB.out.size))
    have f := hid (show FV (w1.alloc (.cells #[.slice fa F.length fc] 25)) w1.heap.size fa fc F from FV.new hQ k1 k2 25)
    clear ba hQ k1 k2 hG
    have hFk := hid hF.2.2
    have hF4 := hF.2.1
    have hFl : F.length ≤ 1048576 := by omega
    clear hF
    obtain ⟨hTl, hTk⟩ := joined_small F kids
    have HTK := hid hTk
    clear hTk
    have JFF := hid (join_facts (F := F) (l := kids))
    have x0 := f.out.2.1
    go_wp2_with fail
    generalize w1.alloc (.cells #[.slice fa F.length fc] 25) = W1 at *
    generalize w1.heap.size = bf at *
    refine (c_iJoinQuads fa F fc kd kids kc W1 f.out.2.2.1 hFl hFk.out f.out.2.2.2.1 f.out.2.2.2.2 KI.out (by omega)).mono ?_
    rintro e w2 ⟨u, rfl, hO, b⟩
    replace SM := hid (SM.out.below b)
    replace KI := hid (KI.out.below b)
    replace FNf := hid (FNf.out.below b)
    replace f := hid (f.out.below b)
    replace BB := hid (BB.out.trans (b.mono BB.out.size))
    clear b x0
    obtain ⟨ga, gc, rfl, k1, k2, hQ⟩ := hO.form
    have ba := (Below.refl w2.heap.size w2).alloc (Nat.le_refl _) (.cells #[.slice ga (jqF F kids).length gc] 25)
    replace SM := hid (SM.out.below ba)
    replace KI := hid (KI.out.below ba)
    replace FNf := hid (FNf.out.below ba)
    replace f := hid (f.out.below ba)
    replace BB := hid (BB.out.trans (ba.mono BB.out.size))
    have g := hid (show FV (w2.alloc (.cells #[.slice ga (jqF F kids).length gc] 25)) w2.heap.size ga gc (jqF F kids) from FV.new hQ k1 k2 25)
    clear ba hQ k1 k2 hO
    have x0 := f.out.2.1
    go_wp2_with fail
    generalize w2.alloc (.cells #[.slice ga (jqF F kids).length gc] 25) = W2 at *
    generalize w2.heap.size = bg at *
    refine (c_sJoinQuads fa F fc kd kids kc W2 f.out.2.2.1 hFl hFk.out f.out.2.2.2.1 f.out.2.2.2.2 FNf.out.2 KI.out (by omega)).mono ?_
    rintro e w3 ⟨u, rfl, hG, b⟩
    replace SM := hid (SM.out.below b)
    replace KI := hid (KI.out.below b)
    replace FNf := hid (FNf.out.below b)
    replace f := hid (f.out.below b)
    replace g := hid (g.out.below b)
    replace BB := hid (BB.out.trans (b.mono BB.out.size))
    clear b x0
    obtain ⟨wa, wc, rfl, k1, k2, hQ⟩ := hG.form
    have ba := (Below.refl w3.heap.size w3).alloc (Nat.le_refl _) (.cells #[.slice wa (jqF F kids).length wc] 25)
    replace SM := hid (SM.out.below ba)
    replace KI := hid (KI.out.below ba)
    replace FNf := hid (FNf.out.below ba)
    replace f := hid (f.out.below ba)
    replace g := hid (g.out.below ba)
    replace BB := hid (BB.out.trans (ba.mono BB.out.size))
    have want := hid (show FV (w3.alloc (.cells #[.slice wa (jqF F kids).length wc] 25)) w3.heap.size wa wc (jqF F kids) from FV.new hQ k1 k2 25)
    clear ba hQ k1 k2 hG
    have xg := g.out.2.1
    have xw := want.out.2.1
    have d1 : ∀ b : Bool, (b != b) = false := by simp
    have d2 : ∀ b : Int, (b != b) = false := by simp
    have d3 := d1 (jqB F kids)
    have d4 := d2 (jqQ F kids)
    go_wp2_with fail
    generalize w3.alloc (.cells #[.slice wa (jqF F kids).length wc] 25) = W3 at *
    generalize w3.heap.size = bwant at *
    clear xg xw d3 d4
    generalize jqF F kids = G at *
    generalize jqQ F kids = Q at *
    generalize jqB F kids = ok at *
    refine (c_sameForest ga wa G gc wc W3 g.out.2.2.1 want.out.2.2.1 hTl HTK.out).mono ?_
    rintro e w4 ⟨rfl, b⟩
    replace SM := hid (SM.out.below b)
    replace KI := hid (KI.out.below b)
    replace FNf := hid (FNf.out.below b)
    replace f := hid (f.out.below b)
    replace g := hid (g.out.below b)
    replace want := hid (want.out.below b)
    replace BB := hid (BB.out.trans (b.mono BB.out.size))
    clear b
    clear want FNf
    go_upto_if 82 with fail
    refine wp_cut (fun a' wx => ∃ sl : Nat → Value, a' = Act.mk #[.slice a0 l0.length c0, .slice a1 l1.length c1, sl 2, sl 3, sl 4, sl 5, sl 6, sl 7, sl 8, sl 9, sl 10, sl 11, sl 12, sl 13, sl 14, sl 15, sl 16, sl 17, sl 18, sl 19, sl 20, sl 21, sl 22, sl 23, sl 24, sl 25, sl 26, sl 27, sl 28, sl 29, sl 30, sl 31, sl 32, sl 33, sl 34, sl 35, sl 36, sl 37, sl 38, sl 39, sl 40, sl 41, sl 42, sl 43, sl 44, sl 45, sl 46, sl 47, sl 48, sl 49, sl 50, sl 51, sl 52, sl 53, sl 54, sl 55, sl 56, sl 57, sl 58, sl 59, sl 60, sl 61, sl 62, sl 63, sl 64, sl 65, sl 66, sl 67, sl 68, sl 69, sl 70, sl 71, sl 72, sl 73, sl 74, sl 75, sl 76, sl 77, sl 78, sl 79, sl 80, sl 81, sl 82, sl 83, sl 84, sl 85, sl 86, sl 87, sl 88, sl 89, sl 90, sl 91, sl 92, sl 93, sl 94, sl 95, sl 96, sl 97, sl 98, sl 99, sl 100, sl 101, sl 102, sl 103, sl 104, sl 105, sl 106, sl 107, sl 108, sl 109, sl 110, sl 111, sl 112, sl 113, sl 114, sl 115, sl 116, sl 117, sl 118, sl 119, sl 120, sl 121, sl 122, sl 123, sl 124, sl 125, sl 126, sl 127, sl 128, sl 129, sl 130, sl 131, sl 132, sl 133, sl 134, sl 135, sl 136, sl 137, sl 138, sl 139, sl 140, sl 141, sl 142, sl 143, sl 144, sl 145, sl 146, sl 147, sl 148, sl 149, sl 150, sl 151, sl 152, sl 153, sl 154, sl 155, sl 156, sl 157, sl 158, sl 159, sl 160, sl 161, sl 162, sl 163, sl 164, sl 165, sl 166, sl 167, sl 168, sl 169, sl 170, sl 171, sl 172, sl 173, sl 174, sl 175, sl 176, sl 177, sl 178, sl 179, sl 180, sl 181, sl 182, sl 183, sl 184, sl 185, sl 186, sl 187, sl 188, sl 189, sl 190, sl 191, sl 192, sl 193, sl 194, sl 195, sl 196, sl 197, sl 198, sl 199, sl 200, sl 201, sl 202, sl 203, sl 204, sl 205, sl 206, sl 207, sl 208, sl 209, sl 210, sl 211, sl 212, sl 213, sl 214, sl 215, sl 216, sl 217, sl 218, sl 219, sl 220, sl 221, sl 222, sl 223, sl 224, sl 225, sl 226, sl 227, sl 228, sl 229, sl 230, sl 231, sl 232, sl 233, sl 234, sl 235, sl 236, sl 237, sl 238, sl 239, sl 240, sl 241, sl 242, sl 243, sl 244, sl 245, sl 246, sl 247, sl 248, sl 249, sl 250, sl 251, sl 252, sl 253, sl 254, sl 255, sl 256, sl 257, sl 258, sl 259, sl 260] [] ∧ Hid (BSeg wx a1 l1) ∧ Hid (Below w0.heap.size w0 wx)) ?rest ?first
    case first =>
      intro J K' hJ hK
      cases ok
      case false =>
        go_wp2_with fail
        refine Met.intro (hJ _ _ (meet_fun ⟨hid SM.out, hid BB.out⟩ ?_))
        kernel_rfl
      case true =>
        obtain ⟨t1, ⟨t2, t3, t4⟩, t5, t6, t7, t8⟩ := JFF.out (by first | rfl | trivial)
        have T1 := hid t1
        have T2 := hid t2
        have T3 := hid t3
        have T4 := hid t4
        have T5 := hid t5
        have T6 := hid t6
        have T7 := hid t7
        have T8 := hid t8
        have hcs := csum_bd (G := G) (l := kids) t6
        have HCS := hid hcs
        clear t1 t2 t3 t4 t5 t6 t7 t8 hcs JFF
        have x0 := g.out.2.1
        go_wp2_with fail
        have CC := hid (c_iJoinQuads ga G gc kd kids kc w4 g.out.2.2.1 hTl HTK.out g.out.2.2.2.1 g.out.2.2.2.2 KI.out (by omega))
        rw [T2.out, T3.out, T4.out] at CC
        refine CC.out.mono ?_
        rintro e w5 ⟨u, rfl, hO, b⟩
        replace SM := hid (SM.out.below b)
        replace KI := hid (KI.out.below b)
        replace f := hid (f.out.below b)
        replace g := hid (g.out.below b)
        replace BB := hid (BB.out.trans (b.mono BB.out.size))
        clear b CC x0
        obtain ⟨ha, hc, rfl, k1, k2, hQ⟩ := hO.form
        have ba := (Below.refl w5.heap.size w5).alloc (Nat.le_refl _) (.cells #[.slice ha G.length hc] 25)
        replace SM := hid (SM.out.below ba)
        replace KI := hid (KI.out.below ba)
        replace f := hid (f.out.below ba)
        replace g := hid (g.out.below ba)
        replace BB := hid (BB.out.trans (ba.mono BB.out.size))
        have h := hid (show FV (w5.alloc (.cells #[.slice ha G.length hc] 25)) w5.heap.size ha hc G from FV.new hQ k1 k2 25)
        clear ba hQ k1 k2 hO
        have x0 := g.out.2.1
        go_wp2_with fail
        generalize w5.alloc (.cells #[.slice ha G.length hc] 25) = W5 at *
        generalize w5.heap.size = bh at *
        have CC := hid (c_iCountOf ga G gc Q W5 g.out.2.2.1 hTl HTK.out g.out.2.2.2.1 g.out.2.2.2.2)
        rw [T1.out] at CC
        refine CC.out.mono ?_
        rintro e w6 ⟨rfl, b⟩
        replace SM := hid (SM.out.below b)
        replace KI := hid (KI.out.below b)
        replace f := hid (f.out.below b)
        replace g := hid (g.out.below b)
        replace h := hid (h.out.below b)
        replace BB := hid (BB.out.trans (b.mono BB.out.size))
        clear b CC x0
        have HNQ := hid (show cntV G Q = csum G kids 4 by rw [T7.out]; simp only [csum]; omega)
        generalize cntV G Q = NQ at *
        clear T1 T2 T3 T4
        go_wp2_with fail
        go_loopw [18, 98] (fun sv iv wr => ∃ k : Nat, k ≤ kids.length ∧ iv = .int .i64 k ∧ sv = .int .i64 (csum G kids k) ∧ Hid (Below w6.heap.size w6 wr)) (fun _ iv _ => kids.length - (intOf iv).toNat)
        case atStart => exact ⟨0, Nat.zero_le _, rfl, rfl, Below.refl _ _⟩
        case round =>
          obtain ⟨k, hk, rfl, rfl, HB⟩ := hrel
          by_cases hlt : k < kids.length
          · have hg1 := g.out.below HB.out
            have hk4 : k < 4 := by omega
            have hcb := HCS.out k (by omega)
            obtain ⟨c1', c2', c3'⟩ := T6.out k hk4
            have HSC := hid (show csum G kids (k + 1) = csum G kids k + cntV G (ia kids k) from rfl)
            have HCO := hid (c_iCountOf ga G gc (ia kids k) wr hg1.2.2.1 hTl HTK.out hg1.2.2.2.1 hg1.2.2.2.2)
            rw [c1'] at HCO
            have x1 := hg1.2.1
            obtain ⟨b1, o1, rfl, hb1, p1⟩ := (KI.out.below HB.out) k hlt
            have k0 : (0 : Int) ≤ (k : Int) := by omega
            have k1 : (k : Int) < (kids.length : Int) := by omega
            clear c1' hg1
            generalize ia kids k = kk at *
            generalize csum G kids k = sk at *
            generalize cntV G kk = ck at *
            go_wp2_with fail
            refine HCO.out.mono ?_
            rintro e w9 ⟨rfl, b⟩
            have HBK := hid (bel_step HB.out b)
            clear b
            go_wp2_with fail
            go_roundw
            case rel => exact ⟨k + 1, by omega, by go_num, by first | (rw [HSC.out]; done) | (rw [HSC.out]; go_num), HBK.out⟩
            case measure => simp [intOf]; omega
          · have hkk : k = kids.length := by omega
            subst hkk
            rw [show csum G kids kids.length = NQ by rw [HNQ.out, T5.out]]
            replace SM := hid (SM.out.below HB.out)
            replace KI := hid (KI.out.below HB.out)
            replace f := hid (f.out.below HB.out)
            replace g := hid (g.out.below HB.out)
            replace h := hid (h.out.below HB.out)
            replace BB := hid (BB.out.trans (HB.out.mono BB.out.size))
            clear HB T5 T6 HCS HNQ
            have dQ := d2 Q
            have dN := d2 NQ
            have dl : ¬ (F.length : Int) + 1 < (G.length : Int) := by have := T8.out; omega
            have dd : decide ((F.length : Int) + 1 < (G.length : Int)) = false := decide_eq_false dl
            have x0 := h.out.2.1
            have x1 := g.out.2.1
            go_wp2_with fail
            refine (c_sameForest ha ga G hc gc wr h.out.2.2.1 g.out.2.2.1 hTl HTK.out).mono ?_
            rintro e w7 ⟨rfl, b⟩
            replace SM := hid (SM.out.below b)
            replace KI := hid (KI.out.below b)
            replace f := hid (f.out.below b)
            replace g := hid (g.out.below b)
            replace h := hid (h.out.below b)
            replace BB := hid (BB.out.trans (b.mono BB.out.size))
            clear b x0 x1
            have z1 := g.out.2.1
            have z2 := f.out.2.1
            go_wp2_with fail
            refine Met.intro (hJ _ _ (meet_fun ⟨hid SM.out, hid BB.out⟩ ?_))
            kernel_rfl
    case rest =>
      clear SM BB
      rintro _ wc ⟨sl, rfl, SM, BB⟩
      clear f g KI hTl HTK JFF d1 d2 hkl hFk hF4 hFl
      go_wp2_with fail
      refine (c_DrawSharedIn a1 l1 c1 wc SM.out (by omega)).mono ?_
      rintro e w5 ⟨u, q1, F1, rfl, hG, hF1, p0, p1, b⟩
      replace SM := hid (SM.out.below b)
      replace BB := hid (BB.out.trans (b.mono BB.out.size))
      clear b
      obtain ⟨fa1, fc1, rfl, k1, k2, hQ⟩ := hG.form
      have ba := (Below.refl w5.heap.size w5).alloc (Nat.le_refl _) (.cells #[.slice fa1 F1.length fc1] 25)
      replace SM := hid (SM.out.below ba)
      replace BB := hid (BB.out.trans (ba.mono BB.out.size))
      have f1 := hid (show FV (w5.alloc (.cells #[.slice fa1 F1.length fc1] 25)) w5.heap.size fa1 fc1 F1 from FV.new hQ k1 k2 25)
      clear ba hQ k1 k2 hG
      clear SM
      have hF1k := hid hF1.2.2
      have hF14 := hF1.2.1
      have hF1l : F1.length ≤ 1048576 := by omega
      clear hF1
      have SHF := hid (shared_facts (F := F1) (q := q1))
      have hSl := shrV_le F1 q1
      have x0 := f1.out.2.1
      go_wp2_with fail
      generalize w5.alloc (.cells #[.slice fa1 F1.length fc1] 25) = W5 at *
      generalize w5.heap.size = bf1 at *
      refine (c_iSharedIn' fa1 F1 fc1 q1 W5 f1.out.2.2.1 hF1l hF1k.out f1.out.2.2.2.1 f1.out.2.2.2.2).mono ?_
      rintro e w6 ⟨v, rfl, hO, b⟩
      replace f1 := hid (f1.out.below b)
      replace BB := hid (BB.out.trans (b.mono BB.out.size))
      clear b x0
      obtain ⟨ia1, ic1, rfl, _, _, hS⟩ := hO.kidAt
      have SI := hid hS.seg
      clear hS hO
      have x0 := f1.out.2.1
      go_wp2_with fail
      refine (c_sSharedIn fa1 F1 fc1 q1 w6 f1.out.2.2.1 hF1l hF1k.out f1.out.2.2.2.1 f1.out.2.2.2.2).mono ?_
      rintro e w7 ⟨v, rfl, hO, b⟩
      replace f1 := hid (f1.out.below b)
      replace SI := hid (SI.out.below b)
      replace BB := hid (BB.out.trans (b.mono BB.out.size))
      clear b x0
      obtain ⟨ja1, jc1, rfl, _, _, hS⟩ := hO.kidAt
      have SJ := hid hS.seg
      clear hS hO
      have x0 := f1.out.2.1
      go_wp2_with fail
      refine (c_iCountOf fa1 F1 fc1 q1 w7 f1.out.2.2.1 hF1l hF1k.out f1.out.2.2.2.1 f1.out.2.2.2.2).mono ?_
      rintro e w8 ⟨rfl, b⟩
      replace f1 := hid (f1.out.below b)
      replace SI := hid (SI.out.below b)
      replace SJ := hid (SJ.out.below b)
      replace BB := hid (BB.out.trans (b.mono BB.out.size))
      clear b x0
      have x0 := f1.out.2.1
      go_wp2_with fail
      refine (c_sCountOf fa1 F1 fc1 q1 w8 f1.out.2.2.1 hF1l hF1k.out f1.out.2.2.2.1 f1.out.2.2.2.2).mono ?_
      rintro e w9 ⟨rfl, b⟩
      replace f1 := hid (f1.out.below b)
      replace SI := hid (SI.out.below b)
      replace SJ := hid (SJ.out.below b)
      replace BB := hid (BB.out.trans (b.mono BB.out.size))
      clear b x0
      have x0 := f1.out.2.1
      go_wp2_with fail
      refine (c_iLevelOf fa1 F1 fc1 q1 w9 f1.out.2.2.1 hF1l hF1k.out f1.out.2.2.2.1 f1.out.2.2.2.2).mono ?_
      rintro e w10 ⟨rfl, b⟩
      replace f1 := hid (f1.out.below b)
      replace SI := hid (SI.out.below b)
      replace SJ := hid (SJ.out.below b)
      replace BB := hid (BB.out.trans (b.mono BB.out.size))
      clear b x0
      have x0 := f1.out.2.1
      go_wp2_with fail
      refine (c_sLevelOf fa1 F1 fc1 q1 w10 f1.out.2.2.1 hF1l hF1k.out f1.out.2.2.2.1 f1.out.2.2.2.2).mono ?_
      rintro e w11 ⟨rfl, b⟩
      replace f1 := hid (f1.out.below b)
      replace SI := hid (SI.out.below b)
      replace SJ := hid (SJ.out.below b)
      replace BB := hid (BB.out.trans (b.mono BB.out.size))
      clear b x0
      generalize shrV F1 q1 = SV at *
      generalize cntV F1 q1 = CV1 at *
      generalize levV F1 q1 = LV1 at *
      generalize thereB F1 q1 = th1 at *
      have e1 : (th1 != th1) = false := by simp
      have e2 : (CV1 != CV1) = false := by simp
      have e3 : (LV1 != LV1) = false := by simp
      go_wp2_with fail
      refine (c_sameInts ia1 ja1 SV ic1 jc1 w11 SI.out SJ.out hSl).mono ?_
      rintro e w12 ⟨rfl, b⟩
      replace f1 := hid (f1.out.below b)
      replace SI := hid (SI.out.below b)
      replace SJ := hid (SJ.out.below b)
      replace BB := hid (BB.out.trans (b.mono BB.out.size))
      clear b
      clear SJ
      cases th1
      case false =>
        go_wp2_with fail
        go_ret
        exact ⟨rfl, BB.out⟩
      case true =>
        obtain ⟨y1, y2, y3, y4, y5⟩ := SHF.out (by first | rfl | trivial)
        have Y3 := hid y3
        have Y4 := hid y4
        have Y5 := hid y5
        clear y3 y4 y5 SHF e1 e2 e3
        obtain ⟨n1, rfl⟩ : ∃ n1 : Nat, LV1 = (n1 : Int) := ⟨LV1.toNat, by omega⟩
        rw [Int.toNat_natCast] at Y3
        go_wp2_with fail
        go_loopw [37, 38] (fun sv iv wr => ∃ k : Nat, k ≤ n1 + 1 ∧ iv = .int .i64 k ∧ sv = .int .i64 (sqT k) ∧ Hid (Below w12.heap.size w12 wr)) (fun _ iv _ => n1 + 1 - (intOf iv).toNat)
        case atStart => exact ⟨0, by omega, rfl, rfl, Below.refl _ _⟩
        case round =>
          obtain ⟨k, hk, rfl, rfl, HB⟩ := hrel
          have hsq := sqT_le (show k ≤ 6 by omega)
          by_cases hlt : k ≤ n1
          · have hl1 : (k : Int) ≤ (n1 : Int) := by omega
            have hs1 : sqT (k + 1) = sqT k + 4 ^ k := rfl
            have HS1 := hid hs1
            clear hs1
            generalize sqT k = sk at *
            rcases (show k = 0 ∨ k = 1 ∨ k = 2 ∨ k = 3 ∨ k = 4 ∨ k = 5 by omega) with rfl | rfl | rfl | rfl | rfl | rfl
            · go_wp2_with fail
              go_roundw
              case rel => exact ⟨1, by omega, by go_num, by first | (rw [HS1.out]; done) | (rw [HS1.out]; go_num) | (show _ = Value.int .i64 (sqT (0 + 1)); rw [HS1.out]; go_num), HB.out⟩
              case measure => simp [intOf]; try omega
            · go_wp2_with fail
              go_roundw
              case rel => exact ⟨2, by omega, by go_num, by first | (rw [HS1.out]; done) | (rw [HS1.out]; go_num) | (show _ = Value.int .i64 (sqT (1 + 1)); rw [HS1.out]; go_num), HB.out⟩
              case measure => simp [intOf]; try omega
            · go_wp2_with fail
              go_roundw
              case rel => exact ⟨3, by omega, by go_num, by first | (rw [HS1.out]; done) | (rw [HS1.out]; go_num) | (show _ = Value.int .i64 (sqT (2 + 1)); rw [HS1.out]; go_num), HB.out⟩
              case measure => simp [intOf]; try omega
            · go_wp2_with fail
              go_roundw
              case rel => exact ⟨4, by omega, by go_num, by first | (rw [HS1.out]; done) | (rw [HS1.out]; go_num) | (show _ = Value.int .i64 (sqT (3 + 1)); rw [HS1.out]; go_num), HB.out⟩
              case measure => simp [intOf]; try omega
            · go_wp2_with fail
              go_roundw
              case rel => exact ⟨5, by omega, by go_num, by first | (rw [HS1.out]; done) | (rw [HS1.out]; go_num) | (show _ = Value.int .i64 (sqT (4 + 1)); rw [HS1.out]; go_num), HB.out⟩
              case measure => simp [intOf]; try omega
            · go_wp2_with fail
              go_roundw
              case rel => exact ⟨6, by omega, by go_num, by first | (rw [HS1.out]; done) | (rw [HS1.out]; go_num) | (show _ = Value.int .i64 (sqT (5 + 1)); rw [HS1.out]; go_num), HB.out⟩
              case measure => simp [intOf]; try omega
          · obtain rfl : k = n1 + 1 := by omega
            have dgt : ¬ ((n1 + 1 : Nat) : Int) ≤ (n1 : Int) := by omega
            have dd : decide (((n1 + 1 : Nat) : Int) ≤ (n1 : Int)) = false := decide_eq_false dgt
            replace f1 := hid (f1.out.below HB.out)
            replace SI := hid (SI.out.below HB.out)
            replace BB := hid (BB.out.trans (HB.out.mono BB.out.size))
            have HX := hid hsq
            have hlen : ¬ sqT (n1 + 1) < (SV.length : Int) := by have := Y3.out; omega
            have dlen : decide (sqT (n1 + 1) < (SV.length : Int)) = false := decide_eq_false hlen
            generalize sqT (n1 + 1) = SQ at *
            clear HB
            have HH := hid (fun (W : World) (x : Int) (h : ISeg W ia1 SV) (hx : x ∈ SV) => by have := c_has_ ia1 SV ic1 x W h hSl; rw [decide_eq_true hx] at this; exact this)
            go_wp2_with fail
            refine (HH.out _ _ SI.out Y4.out).mono ?_
            rintro e wh ⟨rfl, rfl⟩
            clear Y4 dlen hlen HX
            go_wp2_with fail
            go_loopw [240] (fun iv wr => ∃ k : Nat, k ≤ SV.length ∧ iv = .int .i64 k ∧ Hid (Below wh.heap.size wh wr)) (fun iv _ => SV.length - (intOf iv).toNat)
            case atStart => exact ⟨0, Nat.zero_le _, rfl, Below.refl _ _⟩
            case round =>
              obtain ⟨k, hk, rfl, HB⟩ := hrel
              by_cases hlt : k < SV.length
              · obtain ⟨v0, v1, v2⟩ := Y5.out (ia SV k) (mem_ia.2 ⟨k, hlt, rfl⟩)
                have V2 := hid v2
                clear v2
                have HHK : Hid (∀ (W : World) (x : Int), Below wr.heap.size wr W → x ∈ SV → Calls Try.prog 42 #[.slice ia1 SV.length ic1, .int .i64 x] W fun e w' => e = .returned (.bool true) ∧ w' = W) := fun W x h hx => HH.out W x (SI.out.below (bel_step HB.out h)) hx
                have hf1 := f1.out.below HB.out
                have x1 := hf1.2.1
                obtain ⟨b2, o2, ak, ck, rfl, hb2, _, q2, q3, q4⟩ := hf1.2.2.1 (ia SV k).toNat (by omega)
                obtain ⟨b1, o1, rfl, hb1, p1⟩ := (SI.out.below HB.out) k hlt
                have k0 : (0 : Int) ≤ (k : Int) := by omega
                have k1 : (k : Int) < (SV.length : Int) := by omega
                have hkl := hF1k.out (ia SV k).toNat (by omega)
                have Q3 := hid q3
                clear q3 q4 hf1
                generalize ia SV k = xx at *
                generalize hKL : (qa F1 xx.toNat).2 = KL at *
                clear hKL
                go_wp2_with fail
                rename World => wo
                go_loopw [251] (fun jv wr => ∃ m : Nat, m ≤ KL.length ∧ jv = .int .i64 m ∧ Hid (Below wo.heap.size wo wr)) (fun jv _ => KL.length - (intOf jv).toNat)
                case atStart => exact ⟨0, Nat.zero_le _, rfl, Below.refl _ _⟩
                case round =>
                  obtain ⟨m, hm, rfl, HB2⟩ := hrel
                  by_cases hlt2 : m < KL.length
                  · have HY := hid (V2.out m hlt2)
                    obtain ⟨b3, o3, rfl, hb3, p3⟩ := (Q3.out.below HB2.out) m hlt2
                    have m0 : (0 : Int) ≤ (m : Int) := by omega
                    have m1 : (m : Int) < (KL.length : Int) := by omega
                    generalize ia KL m = yy at *
                    go_wp2_with fail
                    refine (HHK.out _ yy HB2.out HY.out).mono ?_
                    rintro e w9 ⟨rfl, rfl⟩
                    go_wp2_with fail
                    go_roundw
                    case rel => exact ⟨m + 1, by omega, by go_num, HB2.out⟩
                    case measure => simp [intOf]; omega
                  · have HBK := hid (bel_step HB.out HB2.out)
                    go_wp2_with fail
                    go_roundw
                    case rel => exact ⟨k + 1, by omega, by go_num, HBK.out⟩
                    case measure => simp [intOf]; omega
              · have BF := hid (bel_step BB.out HB.out)
                go_wp2_with fail
                go_ret
                exact ⟨rfl, BF.out⟩
  · have hz : (1048576 : Int) < wrap64 ((l0.length : Int) + (l1.length : Int)) := by omega
    go_enter Try.func4, Try.ntmps4
    go_wp2
    go_ret
    exact ⟨rfl, Below.refl _ _⟩

set_option maxRecDepth 100000 in
theorem lifted (os : Os) (started : os.Started) (H : Type) (enc : TypeId × Value → H) :
    ReturnsInHanded {} Try.checked os 4 .any (Rows.fnSharedSpec.pre6 enc Try.prog Try.f4 Rows.fnSharedRow.domain false) (Rows.fnSharedSpec.post enc Try.prog Try.f4 false true false false) := by
  refine returnsInHanded_of_change (C := Try.checked) own started (by kernel_rfl) Try.func4
    (ChangeSpec.witness6 (enc := enc) (C := Try.checked) false ⟨#[], #[.slice none 0 0, .slice none 0 0], []⟩ 8 (by kernel_rfl) (by kernel_rfl) (by kernel_rfl) (by kernel_rfl)) ?_
  intro W base args ds gs before hval0 hW hcnd _
  have hval : ∀ (j : Nat) t v, Try.f4.params[j]? = some t → args[j]? = some v → Value.okWide Try.prog W .any base t v := hval0
  have hW' := hW
  obtain ⟨p, q, hA0, hV, rfl, hfz, hnd⟩ := hW
  have hA : DataW.TrodAll enc Try.prog W 0 (fun _ => true) true Try.f4.params.toList args.toList ds p := hA0
  rw [Try.params4] at hA hval
  obtain ⟨v0, vs0, d0, ds0, p0, q0, hargs, rfl, rfl, h0, r0⟩ := trodAll_cons hA
  obtain ⟨v1, vs1, d1, ds1, p1, q1, rfl, rfl, rfl, h1, r1⟩ := trodAll_cons r0
  obtain ⟨rfl, rfl, rfl⟩ := trodAll_nil r1
  obtain rfl : args = #[v0, v1] := by cases args; simp_all
  obtain ⟨rfl, rfl⟩ := trodVars_none hV
  have k0 := h0
  have lt0 : ∀ x ∈ p0, x.block < W.heap.size := by obtain ⟨m, hm⟩ := k0; exact DataW.trod_lt m _ _ _ hm
  obtain ⟨a0, len0, cap0, rfl⟩ := okWide_slice Try.underlying22 (hval 0 22 v0 rfl rfl)
  obtain ⟨l0, rfl, m0, s0⟩ : ∃ l : List Int, l.length = len0 ∧ l.length ≤ maxLen ∧ BSeg W a0 l := by
    obtain ⟨fuel, hf⟩ := h0
    exact open_bytes hf
  have k1 := h1
  have lt1 : ∀ x ∈ p1, x.block < W.heap.size := by obtain ⟨m, hm⟩ := k1; exact DataW.trod_lt m _ _ _ hm
  obtain ⟨a1, len1, cap1, rfl⟩ := okWide_slice Try.underlying22 (hval 1 22 v1 rfl rfl)
  obtain ⟨l1, rfl, m1, s1⟩ : ∃ l : List Int, l.length = len1 ∧ l.length ≤ maxLen ∧ BSeg W a1 l := by
    obtain ⟨fuel, hf⟩ := h1
    exact open_bytes hf
  clear hA0 hval0
  refine (walk a0 l0 cap0 a1 l1 cap1 W s0 m0 s1 m1).mono fun e W' ⟨he, bel⟩ => ?_
  subst he
  exact ⟨_, rfl, _, _, _, [], _, [], hW', trodAll_mk1 (shut_bool Try.underlying4 _), (trodAll_cons_mk (Below.trod laidOut (by kernel_rfl) (of_decide_eq_true (by kernel_rfl)) k0 bel lt0) (trodAll_cons_mk (Below.trod laidOut (by kernel_rfl) (of_decide_eq_true (by kernel_rfl)) k1 bel lt1) trodAll_mk0)), rfl, bel.frame _, fun h => by cases h⟩

theorem over : Rows.fnSharedRow.holds Try.pinned (OpenSpec.ofChange Rows.fnSharedSpec) :=
  OpenClaim.holds_of_wide 4 Try.f4 rfl rfl rfl rfl rfl rfl rfl ⟨rfl, rfl, rfl, rfl, rfl⟩ rfl rfl rfl rfl rfl (by kernel_rfl) Try.func4 (by kernel_rfl)
    (of_decide_eq_true (by kernel_rfl)) (by unfold Func.isWrapper; first | (rw [if_pos (by decide +kernel)]; kernel_rfl) | (rw [if_neg (by decide +kernel)]; exact ⟨rfl, rfl⟩))
    (fun os started H enc _ => lifted os started H enc)

end Go.Proofs.Ytmapbkefndbnnaa.lShared
namespace Go.Proofs.Ytmapbkefndbnnaa
/-- THE STATEMENT. -/
theorem shared_holds : Rows.FnSharedSaid := lShared.over
#print axioms shared_holds
end Go.Proofs.Ytmapbkefndbnnaa
