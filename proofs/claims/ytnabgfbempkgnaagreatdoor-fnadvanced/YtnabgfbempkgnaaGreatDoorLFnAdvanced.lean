/- FnAdvanced answers true at every argument: steps that are parted add up, and a tree goes on as the plane does, for drawn worlds. The listed variable (the table of powers of two) holds what its initialiser lays (the card ties it). (Written by wip/tools/mkadv.py.) -/
import Derived.Test.YtnabgfbempkgnaaGreatDoorCards
import Derived.Test.YtnabgfbempkgnaaGreatDoorTie
import Derived.Test.YtnabgfbempkgnaaGreatDoorKa
import Derived.Test.YtnabgfbempkgnaaGreatDoorAdvW
import Derived.Test.YtnabgfbempkgnaaGreatDoorKp
import Derived.Deep.DeepHandedRow
import Derived.Deep.DeepWitnessRowRef
import Derived.Lib.LaidTab
import Derived.Deep.RegionHeld3
namespace Go.Proofs.YtnabgfbempkgnaaGreatDoor.lAdvanced
open Go.RowKit Go.ChangeShapes Go.WideShapes Go.ChangeAt
set_option linter.unusedVariables false
attribute [local go_sem ↓] Go.wp_at_zero Go.wp_at_succ

/-- The table's cells. -/
theorem parts_tab {W : World} (h : laidMetH Tryz.prog Rows.fnAdvancedRow.laid W) : ∀ k, k < 10 → W.cell? ⟨0, k, none⟩ = some (.int .i64 (2 ^ k)) := by
  have h0 : laidMet Tryz.prog (("loop.example/g00613/impl.parts", Lib.tabData .i64 [1, 2, 4, 8, 16, 32, 64, 128, 256, 512]) :: []) W := h
  have hg : Tryz.prog.globalNamed "loop.example/g00613/impl.parts" = some 0 := by kernel_rfl
  have T := Lib.tabIs_of_head hg (t := 49) (e := 3) (n := 10) (by kernel_rfl) Tryz.underlying49 Tryz.underlying3 (by kernel_rfl) (by kernel_rfl) h0
  intro k hk
  have := T.cell hg k (by simpa using hk)
  rcases (show k = 0 ∨ k = 1 ∨ k = 2 ∨ k = 3 ∨ k = 4 ∨ k = 5 ∨ k = 6 ∨ k = 7 ∨ k = 8 ∨ k = 9 by omega) with rfl | rfl | rfl | rfl | rfl | rfl | rfl | rfl | rfl | rfl <;> simpa using this

set_option maxHeartbeats 4000000 in
set_option maxRecDepth 100000 in
theorem walk (a0 : Option Addr) (l0 : List Int) (c0 : Nat) (a1 : Option Addr) (l1 : List Int) (c1 : Nat) (w0 : World) (ha : BSeg w0 a0 l0) (hm0 : l0.length ≤ maxLen) (hb : BSeg w0 a1 l1) (hm1 : l1.length ≤ maxLen) (hL : laidMetH Tryz.prog Rows.fnAdvancedRow.laid w0) :
    Calls Tryz.prog 3 #[.slice a0 l0.length c0, .slice a1 l1.length c1] w0 fun e w' => e = .returned (.bool true) ∧ Below w0.heap.size w0 w' := by
  unfold maxLen at hm0 hm1
  by_cases hl : wrap64 ((l0.length : Int) + (l1.length : Int)) ≤ 1048576
  · have HTB := hid (parts_tab hL)
    have HLT := hid (lt_of_cell (HTB.out 0 (by omega)))
    have SM := hid hb
    have BB := hid (Below.refl w0.heap.size w0)
    have HA := hid ha
    clear ha hb hL
    go_enter Tryz.func3, Tryz.ntmps3
    go_wp2_with fail
    refine (c_DrawAdvance a0 l0 c0 w0 HA.out (by omega)).mono ?_
    rintro e w1 ⟨v, L, t, s, rfl, o, hL, hsL, ht, hst, b⟩
    obtain ⟨a5, c5, rfl, _⟩ := o.form
    have V5 := hid (WV.new (t := t) o)
    have bb := b.trans (((Below.refl w1.heap.size w1).alloc (Nat.le_refl _) (.cells #[.slice a5 L.length c5, .int .i64 t] 25)).mono b.size)
    replace SM := hid (SM.out.below bb)
    replace BB := hid (BB.out.trans (bb.mono BB.out.size))
    clear b bb o
    have HLL := hid hL
    clear hL hsL ht hst HA
    have II := hid (fun (W : World) (h : WV W w1.heap.size a5 L c5 t) => c_iAdvance a5 L c5 t s W h.seg (by have := HLL.out; omega) (own_none h.1))
    have SS := hid (fun (W : World) (h : WV W w1.heap.size a5 L c5 t) => c_sAdvance a5 L c5 t s W h.seg (by have := HLL.out; omega) (own_none h.1))
    have IG := hid (fun (W : World) (h : WV W w1.heap.size a5 L c5 t) => c_iGoodWorld a5 L c5 t W h.seg (by have := HLL.out; omega))
    have SG := hid (fun (W : World) (h : WV W w1.heap.size a5 L c5 t) => c_sGoodWorld a5 L c5 t W h.seg (by have := HLL.out; omega))
    have ADV := hid (fun (h : advOk L t s = true) => adv_parts h)
    have HLE := hid (advL_le L t s)
    generalize advL L t s = R at *
    generalize advT L t s = RT at *
    generalize advOk L t s = RB at *
    generalize gw L t = G at *
    have d1 : (RB != RB) = false := by simp
    have d2 : (G != G) = false := by simp
    have x0 := V5.out.c0
    have x1 := V5.out.c1
    go_wp2_with fail
    generalize w1.alloc (.cells #[.slice a5 L.length c5, .int .i64 t] 25) = W1 at *
    clear x0 x1
    refine (II.out W1 V5.out).mono ?_
    rintro e w2 ⟨v, rfl, o, b⟩
    obtain ⟨a7, c7, rfl, _⟩ := o.form
    have V7 := hid (WV.new (t := RT) o)
    have bb := b.trans (((Below.refl w2.heap.size w2).alloc (Nat.le_refl _) (.cells #[.slice a7 R.length c7, .int .i64 RT] 25)).mono b.size)
    replace SM := hid (SM.out.below bb)
    replace V5 := hid (V5.out.below bb)
    replace BB := hid (BB.out.trans (bb.mono BB.out.size))
    clear b bb o
    have x0 := V5.out.c0
    have x1 := V5.out.c1
    go_wp2_with fail
    generalize w2.alloc (.cells #[.slice a7 R.length c7, .int .i64 RT] 25) = W2 at *
    clear x0 x1
    refine (SS.out W2 V5.out).mono ?_
    rintro e w3 ⟨v, rfl, o, b⟩
    obtain ⟨a9, c9, rfl, _⟩ := o.form
    have V9 := hid (WV.new (t := RT) o)
    have bb := b.trans (((Below.refl w3.heap.size w3).alloc (Nat.le_refl _) (.cells #[.slice a9 R.length c9, .int .i64 RT] 25)).mono b.size)
    replace SM := hid (SM.out.below bb)
    replace V5 := hid (V5.out.below bb)
    replace V7 := hid (V7.out.below bb)
    replace BB := hid (BB.out.trans (bb.mono BB.out.size))
    clear b bb o
    have x0 := V5.out.c0
    have x1 := V5.out.c1
    have y0 := V7.out.c0
    have y1 := V7.out.c1
    have z0 := V9.out.c0
    have z1 := V9.out.c1
    go_wp2_with fail
    generalize w3.alloc (.cells #[.slice a9 R.length c9, .int .i64 RT] 25) = W3 at *
    clear x0 x1 y0 y1 z0 z1
    have dr := (Below.refl W3.heap.size W3).drew
    have D5 := hid (V5.out.below dr)
    have D7 := hid (V7.out.below dr)
    have D9 := hid (V9.out.below dr)
    have DM := hid (SM.out.below dr)
    have DB := hid (BB.out.trans (dr.mono BB.out.size))
    clear dr
    go_region_held3 (fun W => W.cell? ⟨w1.heap.size, 0, none⟩ = some (.slice a5 L.length c5) ∧ W.cell? ⟨w1.heap.size, 1, none⟩ = some (.int .i64 t) ∧ W.cell? ⟨w2.heap.size, 0, none⟩ = some (.slice a7 R.length c7) ∧ W.cell? ⟨w2.heap.size, 1, none⟩ = some (.int .i64 RT) ∧ W.cell? ⟨w3.heap.size, 0, none⟩ = some (.slice a9 R.length c9) ∧ W.cell? ⟨w3.heap.size, 1, none⟩ = some (.int .i64 RT))
      (first | exact ⟨V5.out.c0, V5.out.c1, V7.out.c0, V7.out.c1, V9.out.c0, V9.out.c1⟩ | exact ⟨D5.out.c0, D5.out.c1, D7.out.c0, D7.out.c1, D9.out.c0, D9.out.c1⟩ | exact ⟨E5.out.c0, E5.out.c1, E7.out.c0, E7.out.c1, E9.out.c0, E9.out.c1⟩ | exact ⟨F5.out.c0, F5.out.c1, F7.out.c0, F7.out.c1, F9.out.c0, F9.out.c1⟩ | exact ⟨H5.out.c0, H5.out.c1, H7.out.c0, H7.out.c1, H9.out.c0, H9.out.c1⟩ | go_keep)
      (first
        | (go_at_call 9; refine (SG.out _ F5.out).mono ?_; rintro e w6 ⟨rfl, b6⟩; have H5 := hid (F5.out.below b6); have H7 := hid (F7.out.below b6); have H9 := hid (F9.out.below b6); have HM := hid (FM.out.below b6); have HB := hid (FB.out.trans (b6.mono FB.out.size)))
        | (go_at_call 8; refine (IG.out _ E5.out).mono ?_; rintro e w5 ⟨rfl, b5⟩; have F5 := hid (E5.out.below b5); have F7 := hid (E7.out.below b5); have F9 := hid (E9.out.below b5); have FM := hid (EM.out.below b5); have FB := hid (EB.out.trans (b5.mono EB.out.size)))
        | (go_at_call 7; refine (c_sameWorld a7 a9 R c7 c9 RT _ D7.out.seg D9.out.seg (by have := HLE.out; omega)).mono ?_; rintro e w4 ⟨rfl, b4⟩; have E5 := hid (D5.out.below b4); have E7 := hid (D7.out.below b4); have E9 := hid (D9.out.below b4); have EM := hid (DM.out.below b4); have EB := hid (DB.out.trans (b4.mono DB.out.size))))
    replace SM := hid HM.out
    replace BB := hid HB.out
    replace V5 := hid H5.out
    replace V7 := hid H7.out
    clear D5 D7 D9 DM DB E5 E7 E9 EM EB F5 F7 F9 FM FB H5 H7 H9 HM HB b4 b5 b6 V9 SS IG SG II d1 d2
    cases RB
    case false =>
      clear ADV HLE
      clear V5 V7
      go_wp2_with fail
      refine (c_DrawAdvanceByTree a1 l1 c1 w6 SM.out (by omega)).mono ?_
      rintro e w7 ⟨v, M, u, n, rfl, o, hM, hsM, hu, hn, b⟩
      clear hsM hu hn
      obtain ⟨a18, c18, rfl, _⟩ := o.form
      have V18 := hid (WV.new (t := u) o)
      have bb := b.trans (((Below.refl w7.heap.size w7).alloc (Nat.le_refl _) (.cells #[.slice a18 M.length c18, .int .i64 u] 25)).mono b.size)
      clear SM
      replace BB := hid (BB.out.trans (bb.mono BB.out.size))
      clear b bb o
      have HM := hid hM
      clear hM
      have II := hid (fun (W : World) (h : WV W w7.heap.size a18 M c18 u) => c_iAdvance a18 M c18 u n W h.seg (by have := HM.out; omega) (own_none h.1))
      have IT := hid (fun (W : World) (h : WV W w7.heap.size a18 M c18 u) => c_iAdvanceByTree a18 M c18 u n W h.seg (by have := HM.out; omega))
      have ST := hid (fun (W : World) (h : WV W w7.heap.size a18 M c18 u) => c_sAdvanceByTree a18 M c18 u n W h.seg (by have := HM.out; omega))
      have TL := hid (abtL_le M u n)
      have AB := hid (fun (h1 : abtOk M u n = true) (h2 : advOk M u n = true) => ab_adv h1 h2)
      generalize abtL M u n = TR at *
      generalize abtT M u n = TT at *
      generalize abtOk M u n = TB at *
      generalize advL M u n = AR at *
      generalize advT M u n = AT at *
      generalize advOk M u n = AO at *
      have e1 : (TB != TB) = false := by simp
      have x0 := V18.out.c0
      have x1 := V18.out.c1
      go_wp2_with fail
      generalize w7.alloc (.cells #[.slice a18 M.length c18, .int .i64 u] 25) = W7 at *
      clear x0 x1
      refine (IT.out W7 V18.out).mono ?_
      rintro e w9 ⟨v, rfl, o, b⟩
      obtain ⟨a20, c20, rfl, _⟩ := o.form
      have V20 := hid (WV.new (t := TT) o)
      have bb := b.trans (((Below.refl w9.heap.size w9).alloc (Nat.le_refl _) (.cells #[.slice a20 TR.length c20, .int .i64 TT] 25)).mono b.size)
      replace V18 := hid (V18.out.below bb)
      replace BB := hid (BB.out.trans (bb.mono BB.out.size))
      clear b bb o
      have x0 := V18.out.c0
      have x1 := V18.out.c1
      go_wp2_with fail
      generalize w9.alloc (.cells #[.slice a20 TR.length c20, .int .i64 TT] 25) = W9 at *
      clear x0 x1
      refine (ST.out W9 V18.out).mono ?_
      rintro e w10 ⟨v, rfl, o, b⟩
      obtain ⟨a22, c22, rfl, _⟩ := o.form
      have V22 := hid (WV.new (t := TT) o)
      have bb := b.trans (((Below.refl w10.heap.size w10).alloc (Nat.le_refl _) (.cells #[.slice a22 TR.length c22, .int .i64 TT] 25)).mono b.size)
      replace V18 := hid (V18.out.below bb)
      replace V20 := hid (V20.out.below bb)
      replace BB := hid (BB.out.trans (bb.mono BB.out.size))
      clear b bb o
      have x0 := V20.out.c0
      have x1 := V20.out.c1
      have y0 := V22.out.c0
      have y1 := V22.out.c1
      go_wp2_with fail
      generalize w10.alloc (.cells #[.slice a22 TR.length c22, .int .i64 TT] 25) = W10 at *
      clear x0 x1 y0 y1
      refine (c_sameWorld a20 a22 TR c20 c22 TT W10 V20.out.seg V22.out.seg (by have := TL.out; omega)).mono ?_
      rintro e w11 ⟨rfl, b⟩
      clear V22
      replace V18 := hid (V18.out.below b)
      replace V20 := hid (V20.out.below b)
      replace BB := hid (BB.out.trans (b.mono BB.out.size))
      clear b
      cases TB
      case false =>
        go_wp2
        go_ret
        exact ⟨rfl, BB.out⟩
      case true =>
        have x0 := V18.out.c0
        have x1 := V18.out.c1
        go_wp2_with fail
        clear x0 x1
        refine (II.out w11 V18.out).mono ?_
        rintro e w12 ⟨v, rfl, o, b⟩
        obtain ⟨a24, c24, rfl, _⟩ := o.form
        have V24 := hid (WV.new (t := AT) o)
        have bb := b.trans (((Below.refl w12.heap.size w12).alloc (Nat.le_refl _) (.cells #[.slice a24 AR.length c24, .int .i64 AT] 25)).mono b.size)
        replace V18 := hid (V18.out.below bb)
        replace V20 := hid (V20.out.below bb)
        replace BB := hid (BB.out.trans (bb.mono BB.out.size))
        clear b bb o
        have x0 := V20.out.c0
        have x1 := V20.out.c1
        have y0 := V24.out.c0
        have y1 := V24.out.c1
        cases AO
        case false =>
          go_wp2
          go_ret
          exact ⟨rfl, BB.out⟩
        case true =>
          obtain ⟨rfl, rfl⟩ := AB.out (by first | rfl | trivial) (by first | rfl | trivial)
          go_wp2_with fail
          generalize w12.alloc (.cells #[.slice a24 TR.length c24, .int .i64 TT] 25) = W12 at *
          clear x0 x1 y0 y1
          refine (c_sameWorld a24 a20 TR c24 c20 TT W12 V24.out.seg V20.out.seg (by have := TL.out; omega)).mono ?_
          rintro e w13 ⟨rfl, b⟩
          replace BB := hid (BB.out.trans (b.mono BB.out.size))
          go_wp2
          go_ret
          exact ⟨rfl, BB.out⟩
    case true =>
      obtain ⟨hin, X, T, hX0, hT0, hXn, hTn, hst⟩ := ADV.out (by first | rfl | trivial)
      have CC := hid (c_iSplit s w6 (fun k hk => (BB.out.cell (p := ⟨0, k, none⟩) HLT.out).trans (HTB.out k hk)))
      rw [hin] at CC
      have HST := hid hst
      have HX0 := hid hX0
      have HT0 := hid hT0
      have HXn := hid hXn
      have HTn := hid hTn
      clear hst hX0 hT0 hXn hTn hin ADV
      go_wp2_with fail
      refine CC.out.mono ?_
      rintro e w7 ⟨pv, rfl, oI, b⟩
      obtain ⟨pa, pc, rfl, hI⟩ := oI.seg
      have PI := hid hI
      replace SM := hid (SM.out.below b)
      replace V5 := hid (V5.out.below b)
      replace V7 := hid (V7.out.below b)
      replace BB := hid (BB.out.trans (b.mono BB.out.size))
      clear b oI hI CC
      have hpl := splV_le s
      generalize splV s = P at *
      have V13 := hid (WV.new (t := t) V5.out.1)
      have BL := hid ((Below.refl w7.heap.size w7).alloc (Nat.le_refl _) (.cells #[.slice a5 L.length c5, .int .i64 t] 25))
      have x0 := V5.out.c0
      have x1 := V5.out.c1
      go_upto_region 11 with fail
      generalize w7.alloc (.cells #[.slice a5 L.length c5, .int .i64 t] 25) = W13 at *
      clear x0 x1 V5
      go_wp2
      go_loopw [74] (fun iv wr => ∃ (k : Nat) (a : Option Addr) (c : Nat), k ≤ P.length ∧ iv = .int .i64 k ∧ Hid (Below w7.heap.size w7 wr) ∧ Hid (WV wr w7.heap.size a (X k) c (T k))) (fun iv _ => P.length - (intOf iv).toNat)
      case atStart => exact ⟨0, a5, c5, Nat.zero_le _, rfl, BL, by rw [HX0.out, HT0.out]; exact V13⟩
      case round =>
        obtain ⟨k, ax, cx, hk, rfl, bl, hv⟩ := hrel
        clear BL V13 HX0 HT0
        by_cases hlt : k < P.length
        · obtain ⟨b1, o1, rfl, hb1, p1⟩ := PI.out k hlt
          have g1 := (bl.out.cell (p := ⟨b1, o1 + k, none⟩) hb1).trans p1
          change _ = some (Value.int .i64 (ia P k)) at g1
          obtain ⟨h1, h2, h3, h4⟩ := HST.out k hlt
          have CC := hid (c_iAdvance ax (X k) cx (T k) (ia P k) wr hv.out.seg h4 (own_none hv.out.1))
          rw [h1, h2, h3] at CC
          have k0 : (0 : Int) ≤ (k : Int) := by omega
          have k1 : (k : Int) < (P.length : Int) := by omega
          have HK := hid (And.intro hlt hk)
          clear h1 h2 h3 h4 p1 hb1 HST HXn HTn
          have x0 := hv.out.c0
          have x1 := hv.out.c1
          generalize ia P k = p at *
          have KR := hid (fun (W : World) (a : Option Addr) (c : Nat) (h1 : Below w7.heap.size w7 W) (h2 : WV W w7.heap.size a (X (k + 1)) c (T (k + 1))) => (⟨k + 1, a, c, HK.out.1, rfl, h1, h2⟩ : ∃ (k' : Nat) (a : Option Addr) (c : Nat), k' ≤ P.length ∧ (k + 1 : Nat) = k' ∧ Below w7.heap.size w7 W ∧ WV W w7.heap.size a (X k') c (T k')))
          clear KR
          generalize hY : X (k + 1) = Y at *
          generalize hU : T (k + 1) = U at *
          have HY := hid hY
          have HU := hid hU
          clear hY hU
          generalize X k = Z at *
          generalize T k = zt at *
          go_wp2_with fail
          refine CC.out.mono ?_
          rintro e w8 ⟨v8, rfl, o8, b8⟩
          obtain ⟨a8, c8, rfl, _⟩ := o8.form
          have ba := (Below.refl w8.heap.size w8).alloc (Nat.le_refl _) (.cells #[.slice a8 Y.length c8, .int .i64 U] 25)
          have bb := b8.trans (ba.mono b8.size)
          have ltb := World.rowIs.lt hv.out.2.2
          have VX := hid (hv.out.2.2.below bb)
          have OX := hid (o8.below ba)
          have NE := hid (show ∀ j, (Value.slice a8 Y.length c8).ownBlock = some j → j ≠ w7.heap.size from fun j hj => by have := (o8.lt j hj).1; omega)
          have VY := hid (WRow.new w8 (.slice a8 Y.length c8) U 25)
          have BX := hid (bl.out.trans (bb.mono bl.out.size))
          clear b8 ba bb ltb o8 hv bl x0 x1 CC
          go_upto_region 15 with fail
          generalize w8.alloc (.cells #[.slice a8 Y.length c8, .int .i64 U] 25) = W8 at *
          have f0 := VX.out.fr 0
          have f1 := VX.out.fr 1
          have d0 := VX.out.c0
          have d1 := VX.out.c1
          have y0 := VY.out.c0
          have y1 := VY.out.c1
          have BY := hid (belW BX.out (b := w7.heap.size) (Nat.le_refl _) (.slice a8 Y.length c8) (.int .i64 U))
          have VZ := hid (WV.put (t := U) VX.out OX.out NE.out)
          clear VX OX VY BX NE
          go_wp2
          go_roundw
          case rel => exact ⟨k + 1, a8, c8, HK.out.1, by go_num, BY.out, by rw [HY.out, HU.out]; exact VZ.out⟩
          case measure => have := HK.out.1; simp [intOf]; omega
        · have hkn : k = P.length := by omega
          subst hkn
          rw [HXn.out, HTn.out] at hv
          clear HXn HTn HST PI hlt hk
          replace SM := hid (SM.out.below bl.out)
          replace V7 := hid (V7.out.below bl.out)
          replace BB := hid (BB.out.trans (bl.out.mono BB.out.size))
          have VX := hid hv.out
          clear hv bl
          have x0 := VX.out.c0
          have x1 := VX.out.c1
          have y0 := V7.out.c0
          have y1 := V7.out.c1
          go_wp2_with fail
          clear x0 x1 y0 y1
          refine (c_sameWorld ax a7 R cx c7 RT wr VX.out.seg V7.out.seg (by have := HLE.out; omega)).mono ?_
          rintro e w9 ⟨rfl, b⟩
          clear VX V7
          replace SM := hid (SM.out.below b)
          replace BB := hid (BB.out.trans (b.mono BB.out.size))
          clear b HLE
          go_wp2_with fail
          refine (c_DrawAdvanceByTree a1 l1 c1 w9 SM.out (by omega)).mono ?_
          rintro e w10 ⟨v, M, u, n, rfl, o, hM, hsM, hu, hn, b⟩
          clear hsM hu hn
          obtain ⟨a18, c18, rfl, _⟩ := o.form
          have V18 := hid (WV.new (t := u) o)
          have bb := b.trans (((Below.refl w10.heap.size w10).alloc (Nat.le_refl _) (.cells #[.slice a18 M.length c18, .int .i64 u] 25)).mono b.size)
          clear SM
          replace BB := hid (BB.out.trans (bb.mono BB.out.size))
          clear b bb o
          have HM := hid hM
          clear hM
          have II := hid (fun (W : World) (h : WV W w10.heap.size a18 M c18 u) => c_iAdvance a18 M c18 u n W h.seg (by have := HM.out; omega) (own_none h.1))
          have IT := hid (fun (W : World) (h : WV W w10.heap.size a18 M c18 u) => c_iAdvanceByTree a18 M c18 u n W h.seg (by have := HM.out; omega))
          have ST := hid (fun (W : World) (h : WV W w10.heap.size a18 M c18 u) => c_sAdvanceByTree a18 M c18 u n W h.seg (by have := HM.out; omega))
          have TL := hid (abtL_le M u n)
          have AB := hid (fun (h1 : abtOk M u n = true) (h2 : advOk M u n = true) => ab_adv h1 h2)
          generalize abtL M u n = TR at *
          generalize abtT M u n = TT at *
          generalize abtOk M u n = TB at *
          generalize advL M u n = AR at *
          generalize advT M u n = AT at *
          generalize advOk M u n = AO at *
          have e1 : (TB != TB) = false := by simp
          have x0 := V18.out.c0
          have x1 := V18.out.c1
          go_wp2_with fail
          generalize w10.alloc (.cells #[.slice a18 M.length c18, .int .i64 u] 25) = W10 at *
          clear x0 x1
          refine (IT.out W10 V18.out).mono ?_
          rintro e w12 ⟨v, rfl, o, b⟩
          obtain ⟨a20, c20, rfl, _⟩ := o.form
          have V20 := hid (WV.new (t := TT) o)
          have bb := b.trans (((Below.refl w12.heap.size w12).alloc (Nat.le_refl _) (.cells #[.slice a20 TR.length c20, .int .i64 TT] 25)).mono b.size)
          replace V18 := hid (V18.out.below bb)
          replace BB := hid (BB.out.trans (bb.mono BB.out.size))
          clear b bb o
          have x0 := V18.out.c0
          have x1 := V18.out.c1
          go_wp2_with fail
          generalize w12.alloc (.cells #[.slice a20 TR.length c20, .int .i64 TT] 25) = W12 at *
          clear x0 x1
          refine (ST.out W12 V18.out).mono ?_
          rintro e w13 ⟨v, rfl, o, b⟩
          obtain ⟨a22, c22, rfl, _⟩ := o.form
          have V22 := hid (WV.new (t := TT) o)
          have bb := b.trans (((Below.refl w13.heap.size w13).alloc (Nat.le_refl _) (.cells #[.slice a22 TR.length c22, .int .i64 TT] 25)).mono b.size)
          replace V18 := hid (V18.out.below bb)
          replace V20 := hid (V20.out.below bb)
          replace BB := hid (BB.out.trans (bb.mono BB.out.size))
          clear b bb o
          have x0 := V20.out.c0
          have x1 := V20.out.c1
          have y0 := V22.out.c0
          have y1 := V22.out.c1
          go_wp2_with fail
          generalize w13.alloc (.cells #[.slice a22 TR.length c22, .int .i64 TT] 25) = W13 at *
          clear x0 x1 y0 y1
          refine (c_sameWorld a20 a22 TR c20 c22 TT W13 V20.out.seg V22.out.seg (by have := TL.out; omega)).mono ?_
          rintro e w14 ⟨rfl, b⟩
          clear V22
          replace V18 := hid (V18.out.below b)
          replace V20 := hid (V20.out.below b)
          replace BB := hid (BB.out.trans (b.mono BB.out.size))
          clear b
          cases TB
          case false =>
            go_wp2
            go_ret
            exact ⟨rfl, BB.out⟩
          case true =>
            have x0 := V18.out.c0
            have x1 := V18.out.c1
            go_wp2_with fail
            clear x0 x1
            refine (II.out w14 V18.out).mono ?_
            rintro e w15 ⟨v, rfl, o, b⟩
            obtain ⟨a24, c24, rfl, _⟩ := o.form
            have V24 := hid (WV.new (t := AT) o)
            have bb := b.trans (((Below.refl w15.heap.size w15).alloc (Nat.le_refl _) (.cells #[.slice a24 AR.length c24, .int .i64 AT] 25)).mono b.size)
            replace V18 := hid (V18.out.below bb)
            replace V20 := hid (V20.out.below bb)
            replace BB := hid (BB.out.trans (bb.mono BB.out.size))
            clear b bb o
            have x0 := V20.out.c0
            have x1 := V20.out.c1
            have y0 := V24.out.c0
            have y1 := V24.out.c1
            cases AO
            case false =>
              go_wp2
              go_ret
              exact ⟨rfl, BB.out⟩
            case true =>
              obtain ⟨rfl, rfl⟩ := AB.out (by first | rfl | trivial) (by first | rfl | trivial)
              go_wp2_with fail
              generalize w15.alloc (.cells #[.slice a24 TR.length c24, .int .i64 TT] 25) = W15 at *
              clear x0 x1 y0 y1
              refine (c_sameWorld a24 a20 TR c24 c20 TT W15 V24.out.seg V20.out.seg (by have := TL.out; omega)).mono ?_
              rintro e w16 ⟨rfl, b⟩
              replace BB := hid (BB.out.trans (b.mono BB.out.size))
              go_wp2
              go_ret
              exact ⟨rfl, BB.out⟩
  · have hz : (1048576 : Int) < wrap64 ((l0.length : Int) + (l1.length : Int)) := by omega
    go_enter Tryz.func3, Tryz.ntmps3
    go_wp2
    go_ret
    exact ⟨rfl, Below.refl _ _⟩

theorem var_below {W W' : World} {n : String} {g : Nat} {cs : Array Value} (hB : Below W.heap.size W W') (hg : Tryz.prog.globalNamed n = some g) (h : g < W.heap.size) (hv : W.var? Tryz.prog n = some cs) : W'.var? Tryz.prog n = some cs := by
  simp only [World.var?, hg, Option.bind_some] at hv ⊢
  rw [hB.block g h]
  exact hv
set_option maxRecDepth 100000 in
theorem contract (H : Type) (enc : TypeId × Value → H) (W : World) (base : Nat) (args : Array Value) (ds gs : List (DataW H)) (before : List MemPlace)
    (hval0 : ∀ (j : Nat) t v, Tryz.f3.params[j]? = some t → args[j]? = some v → Value.okWide Tryz.prog W .any base t v)
    (hW : DataW.Whole enc Tryz.prog Tryz.f3.params.toList Rows.fnAdvancedSpec.vars false W args.toList ds gs before) (hL : laidMetH Tryz.prog Rows.fnAdvancedRow.laid W) :
    Calls Tryz.prog 3 args W fun e W' => ∃ v, e = .returned v ∧ Rows.fnAdvancedSpec.post enc Tryz.prog Tryz.f3 false true false false W args v W' := by
  have hcnd : True := trivial
  have hval : ∀ (j : Nat) t v, Tryz.f3.params[j]? = some t → args[j]? = some v → Value.okWide Tryz.prog W .any base t v := hval0
  have hW' := hW
  obtain ⟨p, q, hA0, hV, rfl, hfz, hnd⟩ := hW
  have hA : DataW.TrodAll enc Tryz.prog W 0 (fun _ => true) true Tryz.f3.params.toList args.toList ds p := hA0
  rw [Tryz.params3] at hA hval
  obtain ⟨v0, vs0, d0, ds0, p0, q0, hargs, rfl, rfl, h0, r0⟩ := trodAll_cons hA
  obtain ⟨v1, vs1, d1, ds1, p1, q1, rfl, rfl, rfl, h1, r1⟩ := trodAll_cons r0
  obtain ⟨rfl, rfl, rfl⟩ := trodAll_nil r1
  obtain rfl : args = #[v0, v1] := by cases args; simp_all
  have hV1 : DataW.TrodVars enc Tryz.prog W (fun _ => true) ["loop.example/g00613/impl.parts"] gs q := hV
  obtain ⟨gg, gt, gcs, gfuel, gd, gp, rfl, hg, hgt, hvar, hgd, rfl⟩ := trodVars_one hV1
  obtain rfl := Option.some.inj ((show Tryz.prog.globalNamed "loop.example/g00613/impl.parts" = some 0 by kernel_rfl).symm.trans hg)
  obtain rfl := Option.some.inj ((show (Tryz.prog.globals[0]?).map (·.type) = some 49 by kernel_rfl).symm.trans hgt)
  have glt : ∀ x ∈ gp, x.block < W.heap.size := fun x hx => hW'.lt x (List.mem_append_right _ (List.mem_append_right _ hx))
  have g0lt : 0 < W.heap.size := lt_of_cell (parts_tab hL 0 (by omega))
  have k0 := h0
  have lt0 : ∀ x ∈ p0, x.block < W.heap.size := by obtain ⟨m, hm⟩ := k0; exact DataW.trod_lt m _ _ _ hm
  obtain ⟨a0, len0, cap0, rfl⟩ := okWide_slice Tryz.underlying22 (hval 0 22 v0 rfl rfl)
  obtain ⟨l0, rfl, m0, s0⟩ : ∃ l : List Int, l.length = len0 ∧ l.length ≤ maxLen ∧ BSeg W a0 l := by
    obtain ⟨fuel, hf⟩ := h0
    exact open_bytes hf
  have k1 := h1
  have lt1 : ∀ x ∈ p1, x.block < W.heap.size := by obtain ⟨m, hm⟩ := k1; exact DataW.trod_lt m _ _ _ hm
  obtain ⟨a1, len1, cap1, rfl⟩ := okWide_slice Tryz.underlying22 (hval 1 22 v1 rfl rfl)
  obtain ⟨l1, rfl, m1, s1⟩ : ∃ l : List Int, l.length = len1 ∧ l.length ≤ maxLen ∧ BSeg W a1 l := by
    obtain ⟨fuel, hf⟩ := h1
    exact open_bytes hf
  clear hA0 hval0
  refine (walk a0 l0 cap0 a1 l1 cap1 W s0 m0 s1 m1 hL).mono fun e W' ⟨he, bel⟩ => ?_
  subst he
  obtain ⟨gf, ghd⟩ := Below.trod laidOut (by kernel_rfl) (of_decide_eq_true (by kernel_rfl)) (v := .agg gcs) (⟨gfuel, by simpa [Value.cells] using hgd⟩ : DataW.Trod enc Tryz.prog W 0 (fun _ => true) true 49 (.agg gcs) gd gp) bel glt
  exact ⟨_, rfl, _, _, _, [], _, _, hW', trodAll_mk1 (shut_bool Tryz.underlying4 _), (trodAll_cons_mk (Below.trod laidOut (by kernel_rfl) (of_decide_eq_true (by kernel_rfl)) k0 bel lt0) (trodAll_cons_mk (Below.trod laidOut (by kernel_rfl) (of_decide_eq_true (by kernel_rfl)) k1 bel lt1) trodAll_mk0)), trodVars_mk1 (enc := enc) (spare := fun b => decide (b < W.heap.size)) hg hgt (var_below bel hg g0lt hvar) (by simpa [Value.cells] using ghd), bel.frame _, fun h => by cases h⟩

/-- A world for the witness: the settled one, the listed variables holding what their initialisers lay. -/
noncomputable def laidWorld (os : Os) : World :=
  { (World.holding Tryz.prog os ⟨#[], #[], []⟩) with heap := ((World.holding Tryz.prog os ⟨#[], #[], []⟩).heap.modify 0 fun
      | .cells _ t frozen => .cells #[.int .i64 1, .int .i64 2, .int .i64 4, .int .i64 8, .int .i64 16, .int .i64 32, .int .i64 64, .int .i64 128, .int .i64 256, .int .i64 512] t frozen
      | o => o) }
theorem laid_met (os : Os) : laidMet Tryz.prog Rows.fnAdvancedRow.laid ((laidWorld os).forCall (fun _ _ => 0) ⟨#[], #[.slice none 0 0, .slice none 0 0], []⟩).memory :=
  laidMet_of_run' 8 (by kernel_rfl) (by kernel_rfl)
theorem reads (os : Os) {H : Type} (enc : TypeId × Value → H) : ∃ places, DataW.whole enc Tryz.prog ((laidWorld os).forCall (fun _ _ => 0) ⟨#[], #[.slice none 0 0, .slice none 0 0], []⟩).memory Tryz.f3.params.toList Rows.fnAdvancedSpec.vars false (#[.slice none 0 0, .slice none 0 0] : Array Value).toList 8 = some ([.nil, .nil], [.agg [.lit (.int .i64 1), .lit (.int .i64 2), .lit (.int .i64 4), .lit (.int .i64 8), .lit (.int .i64 16), .lit (.int .i64 32), .lit (.int .i64 64), .lit (.int .i64 128), .lit (.int .i64 256), .lit (.int .i64 512)]], places) :=
  ⟨MemPlace.row ⟨0, 0, none⟩ 10, by kernel_rfl⟩
set_option maxRecDepth 100000 in
theorem lifted (os : Os) (started : os.Started) (H : Type) (enc : TypeId × Value → H) (F' : Stop.Interp) :
    ReturnsInHanded {} Tryz.checked os 3 .any ((OpenSpec.ofChange Rows.fnAdvancedSpec).preRow enc Tryz.prog Tryz.f3 Rows.fnAdvancedRow.domain false Rows.fnAdvancedRow.laid) (((OpenSpec.ofChange Rows.fnAdvancedSpec).at F').post enc Tryz.prog Tryz.f3 false true false false) := by
  obtain ⟨places, hx⟩ := reads os enc
  refine returnsInHanded_of_row (C := Tryz.checked) (s := OpenSpec.ofChange Rows.fnAdvancedSpec) own started (by kernel_rfl) Tryz.func3
    (witness_row_at (enc := enc) (C := Tryz.checked) false (laidWorld os) #[.slice none 0 0, .slice none 0 0] rfl (by kernel_rfl) (by kernel_rfl) (by kernel_rfl)
      (OpenSpec.preRow_of_cond 8 hx (by kernel_rfl) (fun k hk => by cases hk) (by kernel_rfl) (laid_met os))) ?_
  intro W base args ds gs before hval hW _ _ _ hL _ _
  exact contract H enc W base args ds gs before hval hW hL
theorem said : Rows.FnAdvancedSaid :=
  OpenClaim.holds_of_cond 3 Tryz.f3 rfl rfl rfl rfl rfl rfl rfl ⟨rfl, rfl, rfl, rfl, rfl⟩ rfl rfl rfl rfl rfl (by kernel_rfl) Tryz.func3 (by kernel_rfl)
    (of_decide_eq_true (by kernel_rfl)) (by unfold Func.isWrapper; first | (rw [if_pos (by decide +kernel)]; kernel_rfl) | (rw [if_neg (by decide +kernel)]; exact ⟨rfl, rfl⟩))
    (fun os started H enc _ F' => by rw [OpenClaim.pre_eq_preRow]; exact lifted os started H enc F')
theorem plain (f : FuncId) (fn : Func) (hf : Tryz.pinned.checked.prog.funcNamed "loop.example/g00613/laws.FnAdvanced" = some f) (hfn : Tryz.pinned.checked.prog.funcs[f]? = some fn) :
    false = Tryz.pinned.checked.prog.looks [] ∧ ∀ (j : Nat) t, fn.params[j]? = some t → Tryz.pinned.checked.prog.wantsStandIn t = false := by
  obtain rfl : f = 3 := Option.some.inj ((show Tryz.prog.funcNamed "loop.example/g00613/laws.FnAdvanced" = some 3 by kernel_rfl).symm.trans hf) |>.symm
  obtain rfl : fn = Tryz.f3 := (Option.some.inj (Tryz.func3.symm.trans hfn)).symm
  refine ⟨by kernel_rfl, fun j t ht => ?_⟩
  rw [Tryz.params3] at ht
  obtain rfl : t = 22 := by simpa using Array.mem_of_getElem? ht
  exact (show Tryz.prog.wantsStandIn 22 = false by kernel_rfl)
theorem card : Rows.FnAdvancedCardSaid :=
  Claim7.holds_tied_plain_at .later [] _ _ _ _ said (fun _ h => by cases h) (by kernel_rfl) (fun _ h => by cases h) fnAdvanced_row_tie rfl ⟨rfl, rfl⟩ (by kernel_rfl) rfl plain (by kernel_rfl)
end Go.Proofs.YtnabgfbempkgnaaGreatDoor.lAdvanced
namespace Go.Proofs.YtnabgfbempkgnaaGreatDoor
/-- THE STATEMENT. -/
theorem advanced_holds : Rows.FnAdvancedCardSaid := lAdvanced.card
#print axioms advanced_holds
end Go.Proofs.YtnabgfbempkgnaaGreatDoor
