/- FnExactSetCell answers true at every argument: SetCell answers as the specification does, writes into no argument, and its answer owns its memory. No condition. -/
import Derived.Test.YtmapbkefndbnnaaKi
import Derived.Deep.RegionHeld3
namespace Go.Proofs.Ytmapbkefndbnnaa.lSetCell
open Go.RowKit Go.ChangeShapes Go.WideShapes Go.ChangeAt
set_option linter.unusedVariables false
attribute [local go_sem ↓] Go.wp_at_zero Go.wp_at_succ

set_option maxHeartbeats 8000000 in
set_option maxRecDepth 100000 in
theorem walk (a : Option Addr) (F : List Qd) (ca : Nat) (q : Int) (c : Cl) (al : Bool) (w : World) (hm : F.length ≤ maxLen) (hs : ∀ i, i < F.length → (qa F i).2.length ≤ maxLen) (ha : QSeg w a F) (hq : (Lit.int .i64 q).wf = true) :
    Calls Try.prog 8 #[.agg #[.slice a F.length ca], .int .i64 q, .agg #[.int .i64 c.1, .int .i64 c.2], .bool al] w fun e w' => e = .returned (.bool true) ∧ Below w.heap.size w w' := by
  unfold maxLen at hm hs
  have X00 := Box1.new w (.slice a F.length ca) 73
  have C00 := CBs.nil w (w.alloc (.cells #[.slice a F.length ca] 73))
  have X01 := X00.step ((Below.refl _ (w.alloc (.cells #[.slice a F.length ca] 73))).alloc (Nat.le_refl _) (.cells #[.int .i64 c.1, .int .i64 c.2] 74))
  have C01 := C00.add (by simp) c
  have X0 := hid X01
  have C0 := hid (show CBs w _ [c] from C01)
  clear X00 C00 X01 C01
  have HC := hid (c_szForest a F ca _ (ha.below X0.out.2.2) hm hs)
  by_cases hT : totQ F ≤ 1048576
  · obtain ⟨hk, hl⟩ := totQ_kids hT
    have hz : (0 : Int) ≤ 1048576 - (totQ F : Int) := by omega
    have HPO := hid (show posF (nsF F) F.length ≤ 8388608 by rw [posF_tot]; omega)
    obtain ⟨hTl, hTk, hTp⟩ := ans_small (setOK F q c) (setR F q c al) (set_grows al)
    have HII := hid (fun (W : World) (aa : Option Addr) (h : QSeg W aa F) => c_iSetCell aa F F.length q c al W h hl hk (Nat.le_refl _) (by omega))
    have HSS := hid (fun (W : World) (aa : Option Addr) (h : QSeg W aa F) (h' : NoneCap W aa F) => c_sSetCell aa F F.length q c al W h hl hk (Nat.le_refl _) (by omega) h')
    generalize ansF (setOK F q c) (setR F q c al) = TF at *
    generalize ansQ (setOK F q c) (setR F q c al) = TQ at *
    generalize ansB (setOK F q c) (setR F q c al) = TB at *
    have HTK := hid hTk
    have HTP := hid hTp
    clear hTk hTp
    rw [show leftQ F = 1048576 - (totQ F : Int) by simp [leftQ, hT]] at HC
    generalize 1048576 - (totQ F : Int) = T at *
    have HA := hid ha
    clear ha hs hm hT
    go_enter Try.func8, Try.ntmps8
    go_wp2_with fail
    refine HC.out.mono ?_
    rintro e w1 ⟨rfl, b⟩
    have X1 := hid (X0.out.step b)
    have C1 := hid (C0.out.below b)
    clear HC X0 C0 b
    have keepR : Hid (∀ W : World, Below w1.heap.size w1 W → W.cell? ⟨w.heap.size, 0, none⟩ = some (.slice a F.length ca) ∧ W.cell? ⟨w.heap.size + 1, 0, none⟩ = some (.int .i64 c.1) ∧ W.cell? ⟨w.heap.size + 1, 1, none⟩ = some (.int .i64 c.2)) := fun W h => ⟨(X1.out.step h).1, ((C1.out.below h).cell 0 rfl).1, ((C1.out.below h).cell 0 rfl).2⟩
    have HA1 := hid (fun (W : World) (h : Below w1.heap.size w1 W) => HA.out.below (X1.out.step h).2.2)
    go_wp2_with fail
    apply cut5 (C := fun (_ wa : Option Addr) (wk bw : Nat) (W : World) => Below w1.heap.size w1 W ∧ PSb W w1.heap.size W.heap.size bw (.slice wa TF.length wk) TF)
    case main =>
      intro key
      have BB := (Below.refl w1.heap.size w1).drew
      go_region_held3 (fun W => W.cell? ⟨w.heap.size, 0, none⟩ = some (.slice a F.length ca) ∧ W.cell? ⟨w.heap.size + 1, 0, none⟩ = some (.int .i64 c.1) ∧ W.cell? ⟨w.heap.size + 1, 1, none⟩ = some (.int .i64 c.2))
        (first | exact keepR.out _ (Below.refl w1.heap.size w1) | first | exact keepR.out _ BB | exact keepR.out _ (BB.alloc BB.size _) | exact keepR.out _ (BB.setCell (by dsimp only; omega) _) | go_keep)
        (first
          | (go_at_call 67; refine (c_toForestA a F ca _ (HA1.out _ (by first | exact BB | exact BB.alloc BB.size _)) hl hk).mono ?_; rintro e wF ⟨aF, rfl, hR, hRN, b⟩; replace BB := bel_step (show Below w1.heap.size w1 _ by first | exact BB | exact BB.alloc BB.size _) b; have RF := hid hR; have RFN := hid hRN; have hzF := BB.size; (try have RZ := hid (box_newD b)); (try have hlF := RZ.out.lt); clear b hR hRN)
          | (go_at_call 68; refine (c_toCell _ _ _).mono ?_; rintro e wC ⟨rfl, b⟩; replace BB := bel_step (show Below w1.heap.size w1 _ by first | exact BB | exact BB.alloc BB.size _) b; have hzC := BB.size; have hyC := b.size; (try rw [alloc_size] at hyC); (first | have RZ := hid (box_new b) | replace RZ := hid (RZ.out.of_block (b.block _ RZ.out.lt)) | skip); (try have hlC := RZ.out.lt); (first | replace RFN := hid (RFN.out.below RF.out b) | replace RFN := hid (RFN.out.below RF.out (bel_step ((Below.refl _ _).alloc (Nat.le_refl _) _) b))); (first | replace RF := hid (RF.out.below b) | replace RF := hid (RF.out.below (bel_step ((Below.refl _ _).alloc (Nat.le_refl _) _) b))); clear b)
          | (go_at_call 45; refine (HSS.out _ _ (by first | exact RF.out | exact RF.out.below ((Below.refl _ _).alloc (Nat.le_refl _) _)) (by first | exact RFN.out | exact RFN.out.below RF.out ((Below.refl _ _).alloc (Nat.le_refl _) _))).mono ?_; rintro e w3 ⟨wv, rfl, hW, b⟩; have HWG := hid hW; obtain ⟨wa, wk, rfl, _⟩ := hW.form; replace BB := bel_step (show Below w1.heap.size w1 _ by first | exact BB | exact BB.alloc BB.size _) b; have hz3 := BB.size; have hzb := b.size; (first | have RZ := hid (box_new b) | replace RZ := hid (RZ.out.of_block (b.block _ RZ.out.lt)) | skip); (try have r0 := RZ.out.cell (i := 0) (by omega)); (try have f0 := RZ.out.frozen 0); clear b hW))
      · have PW := PSb.after (lo := w1.heap.size) HWG.out hzC hzb 25
        have BBW := BB.alloc BB.size (.cells #[.slice wa TF.length wk] 25)
        generalize w3.alloc (.cells #[.slice wa TF.length wk] 25) = W3 at PW BBW ⊢
        generalize w3.heap.size = bw at PW ⊢
        exact key.out aF wa wk bw W3 ⟨BBW, PW⟩
      all_goals
        exact key.out aF wa wk _ _ ⟨BB.setCell (by dsimp only; omega) _, PSb.ahead HWG.out RZ.out (by omega) (by first | omega | (rw [alloc_size]; omega))⟩
    case pf =>
      intro aF wa wk bw W3 hCC
      have PW := hid hCC.2
      have BBW := hid hCC.1
      have X3 := hid (X1.out.step BBW.out)
      have C3 := hid (C1.out.below BBW.out)
      have HZ1 := hid (show w.heap.size + 1 + 1 ≤ w1.heap.size from (C1.out 0 _ rfl).1)
      clear hCC X1 C1 keepR HA1 BBW
      have x := X3.out.1
      go_wp2_with fail
      refine (c_toForest a F ca W3 (HA.out.below X3.out.2.2) hl hk).mono ?_
      rintro e w4 ⟨rfl, ⟨ks4, r⟩, b⟩
      have PX := hid (PF.new (r.own hl) (by have := r.row.lt; omega) 25)
      have ba := (Below.refl w4.heap.size w4).alloc (Nat.le_refl _) (.cells #[.slice (some ⟨W3.heap.size + 3, 0, none⟩) F.length F.length] 25)
      have b4 := b.trans (ba.mono b.size)
      have X5 := hid (X3.out.step b4)
      have C5 := hid (C3.out.below b4)
      have R5 := hid (r.seg.below ba)
      have HW3 := hid (⟨PW.out.2.2.1, PW.out.2.2.2.1⟩ : w1.heap.size ≤ bw ∧ bw < W3.heap.size)
      replace PW := hid ((PSb.kpt _ _ _ _ _).below PW.out b4)
      have HO2 := hid (show W3.heap.size + 3 ≤ w4.heap.size by have := r.row.lt; omega)
      have HS4 := hid (show (w4.alloc (.cells #[.slice (some ⟨W3.heap.size + 3, 0, none⟩) F.length F.length] 25)).heap.size = w4.heap.size + 1 by simp)
      clear X3 C3 b r x b4 ba
      generalize hH3 : W3.heap.size = H3 at *
      clear hH3
      go_wp2_with fail
      generalize w4.alloc (.cells #[.slice (some ⟨H3 + 3, 0, none⟩) F.length F.length] 25) = W4 at *
      have keepR : Hid (∀ W : World, Below W4.heap.size W4 W → W.cell? ⟨w4.heap.size, 0, none⟩ = some (.slice (some ⟨H3 + 3, 0, none⟩) F.length F.length) ∧ W.cell? ⟨w.heap.size + 1, 0, none⟩ = some (.int .i64 c.1) ∧ W.cell? ⟨w.heap.size + 1, 1, none⟩ = some (.int .i64 c.2)) := fun W h => ⟨((PF.kpt _ _ _ _).below PX.out h).2.1, ((C5.out.below h).cell 0 rfl).1, ((C5.out.below h).cell 0 rfl).2⟩
      apply cut4 (C := fun (ga : Option Addr) (gc bg : Nat) (W : World) => Below W4.heap.size W4 W ∧ ∃ m1 m2, PFb W W4.heap.size W.heap.size m1 m2 bg (.slice ga TF.length gc) TF)
      case main =>
        intro key
        have BB := (Below.refl W4.heap.size W4).drew
        go_region_held3 (fun W => W.cell? ⟨w4.heap.size, 0, none⟩ = some (.slice (some ⟨H3 + 3, 0, none⟩) F.length F.length) ∧ W.cell? ⟨w.heap.size + 1, 0, none⟩ = some (.int .i64 c.1) ∧ W.cell? ⟨w.heap.size + 1, 1, none⟩ = some (.int .i64 c.2))
          (first | exact keepR.out _ (Below.refl W4.heap.size W4) | first | exact keepR.out _ BB | exact keepR.out _ (BB.alloc BB.size _) | exact keepR.out _ (BB.setCell (by dsimp only; omega) _) | go_keep)
          (first
            | (go_at_call 68; refine (c_toCell _ _ _).mono ?_; rintro e wC ⟨rfl, b⟩; replace BB := bel_step (show Below W4.heap.size W4 _ by first | exact BB | exact BB.alloc BB.size _) b; have hzC := BB.size; have hyC := b.size; (try rw [alloc_size] at hyC); (first | have RZ := hid (box_newD b) | have RZ := hid (box_new b) | replace RZ := hid (RZ.out.of_block (b.block _ RZ.out.lt)) | skip); (try have hlC := RZ.out.lt); clear b)
            | (go_at_call 44; refine (HII.out _ _ (R5.out.below (by first | exact BB | exact BB.alloc BB.size _))).mono ?_; rintro e w3 ⟨wv, rfl, hW, b⟩; have HWG := hid hW; obtain ⟨wa', wk', rfl, _⟩ := hW.form; replace BB := bel_step (show Below W4.heap.size W4 _ by first | exact BB | exact BB.alloc BB.size _) b; have hz3 := BB.size; have hzb := b.size; (first | have RZ := hid (box_new b) | replace RZ := hid (RZ.out.of_block (b.block _ RZ.out.lt)) | skip); (try have r0 := RZ.out.cell (i := 0) (by omega)); (try have f0 := RZ.out.frozen 0); clear b hW))
        · have PG := PFb.after (lo := W4.heap.size) HWG.out hzC hzb 25
          have BBW := BB.alloc BB.size (.cells #[.slice wa' TF.length wk'] 25)
          generalize w3.alloc (.cells #[.slice wa' TF.length wk'] 25) = W5 at PG BBW ⊢
          generalize w3.heap.size = bg at PG ⊢
          exact key.out wa' wk' bg W5 ⟨BBW, _, _, PG⟩
        all_goals
          exact key.out wa' wk' _ _ ⟨BB.setCell (by dsimp only; omega) _, _, _, PFb.ahead HWG.out RZ.out (by omega) (by first | omega | (rw [alloc_size]; omega))⟩
      case pf =>
        intro ga gc bg W5 hCC
        obtain ⟨m1, m2, hPG⟩ := hCC.2
        have b5 := hCC.1
        have HM := hid hPG.2.2
        have N := hid (show LL w W5 (.slice a F.length ca) (w.heap.size + 1) H3 (H3 + 3) (w4.heap.size + 1) W4.heap.size W5.heap.size (fun W => PSb W w1.heap.size H3 bw (.slice wa TF.length wk) TF ∧ CBs w W [c]) (fun W => PF W (H3 + 3) w4.heap.size (.slice (some ⟨H3 + 3, 0, none⟩) F.length F.length) F) (fun W => PFb W W4.heap.size W5.heap.size m1 m2 bg (.slice ga TF.length gc) TF) from
          ⟨(X5.out.step b5).1, ⟨(PSb.kpt _ _ _ _ _).below PW.out b5, C5.out.below b5⟩, (PF.kpt _ _ _ _).below PX.out b5, hPG, Kpt.and' (Kpt.wide' (PSb.kpt _ _ _ _ _) (by have := HZ1.out; omega) (Nat.le_refl _)) (Kpt.wide' (CBs.kpt w [c]) (Nat.le_refl _) (by have := HZ1.out; have := HW3.out; simp only [List.length_cons, List.length_nil]; omega)), PF.kpt _ _ _ _, PFb.kpt _ _ _ _ _ _ _, (X5.out.step b5).2.2, (X5.out.step b5).2.1, by have := HZ1.out; have := HW3.out; have := HO2.out; have := HS4.out; have := HM.out; omega⟩)
        clear X5 C5 PW PX R5 hPG hCC b5 keepR
        generalize W5.heap.size = H5 at *
        have d0 : (TQ != TQ) = false := by simp
        have d1 : (TB != TB) = false := by simp
        have y1 := N.out.pg.2.1
        have y2 := N.out.pw.1.2.1
        obtain ⟨gm, hgf⟩ := N.out.pw.1.gf
        go_wp2_with fail
        refine (c_eqFS _ _ _ _ N.out.pg.1 hgf hTl HTK.out).mono ?_
        rintro e w6 ⟨rfl, b⟩
        replace N := hid (N.out.below b)
        clear b y1 y2 hgf gm
        have x := N.out.box
        have y := N.out.px.2.1
        have hx := N.out.lt
        have hy := N.out.px.2.2.1
        go_wp2_with fail
        have ND := hid (N.out.below ((Below.refl w6.heap.size w6).drew))
        go_region_held3 (fun W => W.cell? ⟨w.heap.size, 0, none⟩ = some (.slice a F.length ca) ∧ W.cell? ⟨w4.heap.size, 0, none⟩ = some (.slice (some ⟨H3 + 3, 0, none⟩) F.length F.length))
          (first | exact ⟨N.out.box, N.out.px.2.1⟩ | exact ⟨(N7.out).box, (N7.out).px.2.1⟩ | exact ⟨(N8.out).box, (N8.out).px.2.1⟩ | go_keep)
          (first
            | (go_at_call 67; refine (c_toForest a F ca _ (HA.out.below ND.out.bel) hl hk).mono ?_; rintro e w7 ⟨rfl, ⟨ks7, r7⟩, b7⟩; have N7 := hid (ND.out.below b7))
            | (go_at_call 69; refine (c_eqForest' _ _ F _ N7.out.px.1 (r7.own hl) hl hk).mono ?_; rintro e w8 ⟨rfl, b8⟩; have N8 := hid (N7.out.below b8)))
        replace N := hid N8.out
        clear N7 N8 ND b7 b8 r7 x y hx hy
        have y := N.out.px.2.1
        go_wp2_with fail
        refine (c_markForest _ F _ _ w8 N.out.px.1 HPO.out).mono ?_
        rintro e w9 ⟨rfl, hM, hGr⟩
        replace N := hid (N.out.markX (PX' := fun W => PF W (H3 + 3) w4.heap.size (.slice (some ⟨H3 + 3, 0, none⟩) F.length F.length) (markF F)) hGr (Nat.le_refl _) (by omega) (N.out.px.mark hGr hM) (PF.kpt _ _ _ _))
        clear hM hGr y
        have dk : ¬ (posF (nsF F) F.length : Int) < 0 := by omega
        generalize posF (nsF F) F.length = PK at *
        have y1 := N.out.pg.2.1
        have y2 := N.out.pw.1.2.1
        obtain ⟨gm, hgf⟩ := N.out.pw.1.gf
        go_wp2_with fail
        refine (c_eqFS _ _ _ _ N.out.pg.1 hgf hTl HTK.out).mono ?_
        rintro e w10 ⟨rfl, b⟩
        replace N := hid (N.out.below b)
        clear b y1 y2 hgf gm
        have y1 := N.out.pg.2.1
        go_wp2_with fail
        refine (c_markForest _ TF _ _ w10 N.out.pg.1 HTP.out).mono ?_
        rintro e w11 ⟨rfl, hM, hGr⟩
        replace N := hid (N.out.markG (PG' := fun W => PFb W W4.heap.size H5 m1 m2 bg (.slice ga TF.length gc) (markF TF)) hGr (by have := HM.out; omega) (by have := HM.out; omega) (N.out.pg.mark hGr hM) (PFb.kpt _ _ _ _ _ _ _))
        clear hM hGr y1
        have HHE := hid (fun W h => c_heldForest (.slice ga TF.length gc) TF m1 m2 W h HTP.out)
        have dm : ¬ (posF (nsF TF) TF.length : Int) < 0 := by omega
        have dn : ((posF (nsF TF) TF.length : Int) != (posF (nsF TF) TF.length : Int)) = false := by simp
        generalize (posF (nsF TF) TF.length : Int) = M at *
        have y1 := N.out.pg.2.1
        go_wp2_with fail
        refine (HHE.out _ N.out.pg.1).mono ?_
        rintro e w1 ⟨rfl, b⟩
        replace N := hid (N.out.below b)
        clear b y1
        have keepR : Hid (∀ W : World, Below w1.heap.size w1 W → W.cell? ⟨w.heap.size, 0, none⟩ = some (.slice a F.length ca) ∧ W.cell? ⟨w.heap.size + 1, 0, none⟩ = some (.int .i64 c.1) ∧ W.cell? ⟨w.heap.size + 1, 1, none⟩ = some (.int .i64 c.2)) := fun W h => ⟨(N.out.below h).box, ((N.out.below h).pw.2.cell 0 rfl).1, ((N.out.below h).pw.2.cell 0 rfl).2⟩
        have HA1 := hid (fun (W : World) (h : Below w1.heap.size w1 W) => HA.out.below (N.out.below h).bel)
        go_wp2_with fail
        apply cut5 (C := fun (_ wa : Option Addr) (wk bw : Nat) (W : World) => Below w1.heap.size w1 W ∧ ∃ m1 m2, PFb W w1.heap.size W.heap.size m1 m2 bw (.slice wa TF.length wk) TF)
        case main =>
          intro key
          have BB := (Below.refl w1.heap.size w1).drew
          go_region_held3 (fun W => W.cell? ⟨w.heap.size, 0, none⟩ = some (.slice a F.length ca) ∧ W.cell? ⟨w.heap.size + 1, 0, none⟩ = some (.int .i64 c.1) ∧ W.cell? ⟨w.heap.size + 1, 1, none⟩ = some (.int .i64 c.2))
            (first | exact keepR.out _ (Below.refl w1.heap.size w1) | first | exact keepR.out _ BB | exact keepR.out _ (BB.alloc BB.size _) | exact keepR.out _ (BB.setCell (by dsimp only; omega) _) | go_keep)
            (first
              | (go_at_call 67; refine (c_toForestA a F ca _ (HA1.out _ (by first | exact BB | exact BB.alloc BB.size _)) hl hk).mono ?_; rintro e wF ⟨aF, rfl, hR, hRN, b⟩; replace BB := bel_step (show Below w1.heap.size w1 _ by first | exact BB | exact BB.alloc BB.size _) b; have RF := hid hR; have RFN := hid hRN; have hzF := BB.size; (try have RZ := hid (box_newD b)); (try have hlF := RZ.out.lt); clear b hR hRN)
              | (go_at_call 68; refine (c_toCell _ _ _).mono ?_; rintro e wC ⟨rfl, b⟩; replace BB := bel_step (show Below w1.heap.size w1 _ by first | exact BB | exact BB.alloc BB.size _) b; have hzC := BB.size; have hyC := b.size; (try rw [alloc_size] at hyC); (first | have RZ := hid (box_new b) | replace RZ := hid (RZ.out.of_block (b.block _ RZ.out.lt)) | skip); (try have hlC := RZ.out.lt); (first | replace RFN := hid (RFN.out.below RF.out b) | replace RFN := hid (RFN.out.below RF.out (bel_step ((Below.refl _ _).alloc (Nat.le_refl _) _) b))); (first | replace RF := hid (RF.out.below b) | replace RF := hid (RF.out.below (bel_step ((Below.refl _ _).alloc (Nat.le_refl _) _) b))); clear b)
              | (go_at_call 44; refine (HII.out _ _ (by first | exact RF.out | exact RF.out.below ((Below.refl _ _).alloc (Nat.le_refl _) _))).mono ?_; rintro e w3 ⟨wv, rfl, hW, b⟩; have HWG := hid hW; obtain ⟨wa', wk', rfl, _⟩ := hW.form; replace BB := bel_step (show Below w1.heap.size w1 _ by first | exact BB | exact BB.alloc BB.size _) b; have hz3 := BB.size; have hzb := b.size; (first | have RZ := hid (box_new b) | replace RZ := hid (RZ.out.of_block (b.block _ RZ.out.lt)) | skip); (try have r0 := RZ.out.cell (i := 0) (by omega)); (try have f0 := RZ.out.frozen 0); clear b hW))
          · have PG := PFb.after (lo := w1.heap.size) HWG.out hzC hzb 25
            have BBW := BB.alloc BB.size (.cells #[.slice wa' TF.length wk'] 25)
            generalize w3.alloc (.cells #[.slice wa' TF.length wk'] 25) = W5 at PG BBW ⊢
            generalize w3.heap.size = bh at PG ⊢
            exact key.out aF wa' wk' bh W5 ⟨BBW, _, _, PG⟩
          all_goals
            exact key.out aF wa' wk' _ _ ⟨BB.setCell (by dsimp only; omega) _, _, _, PFb.ahead HWG.out RZ.out (by omega) (by first | omega | (rw [alloc_size]; omega))⟩
        case pf =>
          intro aF' ha hc bh W14 hCC
          obtain ⟨n1, n2, hPH⟩ := hCC.2
          replace N := hid (N.out.below hCC.1)
          have PH := hid hPH
          clear hCC hPH keepR HA1
          have y1 := PH.out.2.1
          have y2 := N.out.pw.1.2.1
          obtain ⟨gm, hgf⟩ := N.out.pw.1.gf
          go_wp2_with fail
          refine (c_eqFS _ _ _ _ PH.out.1 hgf hTl HTK.out).mono ?_
          rintro e w15 ⟨rfl, b⟩
          replace N := hid (N.out.below b)
          clear b y1 y2 hgf gm
          have y1 := N.out.pg.2.1
          go_wp2_with fail
          refine (HHE.out _ N.out.pg.1).mono ?_
          rintro e w16 ⟨rfl, b⟩
          replace N := hid (N.out.below b)
          go_wp2_with fail
          go_ret
          exact ⟨rfl, N.out.bel⟩
  · rw [show leftQ F = -1 by simp [leftQ, hT]] at HC
    go_enter Try.func8, Try.ntmps8
    go_wp2_with fail
    refine HC.out.mono ?_
    rintro e w1 ⟨rfl, b⟩
    clear HC
    go_wp2
    go_ret
    exact ⟨rfl, (X0.out.step b).2.2⟩

set_option maxRecDepth 100000 in
theorem lifted (os : Os) (started : os.Started) (H : Type) (enc : TypeId × Value → H) :
    ReturnsInHanded {} Try.checked os 8 .any (Rows.fnExactSetCellSpec.pre6 enc Try.prog Try.f8 Rows.fnExactSetCellRow.domain false) (Rows.fnExactSetCellSpec.post enc Try.prog Try.f8 false true false false) := by
  refine returnsInHanded_of_change (C := Try.checked) own started (by kernel_rfl) Try.func8
    (ChangeSpec.witness6 (enc := enc) (C := Try.checked) false ⟨#[], #[.agg #[.slice none 0 0], .int .i64 0, .agg #[.int .i64 0, .int .i64 0], .bool false], []⟩ 8 (by kernel_rfl) (by kernel_rfl) (by kernel_rfl) (by kernel_rfl)) ?_
  intro W base args ds gs before hval0 hW hcnd _
  have hval : ∀ (j : Nat) t v, Try.f8.params[j]? = some t → args[j]? = some v → Value.okWide Try.prog W .any base t v := hval0
  have hW' := hW
  obtain ⟨p, q, hA0, hV, rfl, hfz, hnd⟩ := hW
  have hA : DataW.TrodAll enc Try.prog W 0 (fun _ => true) true Try.f8.params.toList args.toList ds p := hA0
  rw [Try.params8] at hA hval
  obtain ⟨v0, vs0, d0, ds0, p0, q0, hargs, rfl, rfl, h0, r0⟩ := trodAll_cons hA
  obtain ⟨v1, vs1, d1, ds1, p1, q1, rfl, rfl, rfl, h1, r1⟩ := trodAll_cons r0
  obtain ⟨v2, vs2, d2, ds2, p2, q2, rfl, rfl, rfl, h2, r2⟩ := trodAll_cons r1
  obtain ⟨v3, vs3, d3, ds3, p3, q3, rfl, rfl, rfl, h3, r3⟩ := trodAll_cons r2
  obtain ⟨rfl, rfl, rfl⟩ := trodAll_nil r3
  obtain rfl : args = #[v0, v1, v2, v3] := by cases args; simp_all
  obtain ⟨rfl, rfl⟩ := trodVars_none hV
  have k0 := h0
  have lt0 : ∀ x ∈ p0, x.block < W.heap.size := by obtain ⟨m, hm⟩ := k0; exact DataW.trod_lt m _ _ _ hm
  obtain ⟨a0, F0, cap0, rfl, m0, f0, s0⟩ := open_forest (hval 0 73 v0 rfl rfl) h0
  have k1 := h1
  have lt1 : ∀ x ∈ p1, x.block < W.heap.size := by obtain ⟨m, hm⟩ := k1; exact DataW.trod_lt m _ _ _ hm
  obtain ⟨n1, rfl, w1⟩ : ∃ n : Int, v1 = .int .i64 n ∧ (Lit.int .i64 n).wf = true := open_num (hval 1 3 v1 rfl rfl) h1
  have k2 := h2
  have lt2 : ∀ x ∈ p2, x.block < W.heap.size := by obtain ⟨m, hm⟩ := k2; exact DataW.trod_lt m _ _ _ hm
  obtain ⟨c2, rfl⟩ : ∃ c : Cl, v2 = .agg #[.int .i64 c.1, .int .i64 c.2] := open_cell (hval 2 74 v2 rfl rfl) h2
  have k3 := h3
  have lt3 : ∀ x ∈ p3, x.block < W.heap.size := by obtain ⟨m, hm⟩ := k3; exact DataW.trod_lt m _ _ _ hm
  obtain ⟨b3, rfl, _, _⟩ := open_bool Try.underlying4 (hval 3 4 v3 rfl rfl) h3
  clear hA0 hval0
  refine (walk a0 F0 cap0 n1 c2 b3 W m0 f0 s0 w1).mono fun e W' ⟨he, bel⟩ => ?_
  subst he
  exact ⟨_, rfl, _, _, _, [], _, [], hW', trodAll_mk1 (shut_bool Try.underlying4 _), (trodAll_cons_mk (Below.trod laidOut (by kernel_rfl) (of_decide_eq_true (by kernel_rfl)) k0 bel lt0) (trodAll_cons_mk (Below.trod laidOut (by kernel_rfl) (of_decide_eq_true (by kernel_rfl)) k1 bel lt1) (trodAll_cons_mk (Below.trod laidOut (by kernel_rfl) (of_decide_eq_true (by kernel_rfl)) k2 bel lt2) (trodAll_cons_mk (Below.trod laidOut (by kernel_rfl) (of_decide_eq_true (by kernel_rfl)) k3 bel lt3) trodAll_mk0)))), rfl, bel.frame _, fun h => by cases h⟩

theorem over : Rows.fnExactSetCellRow.holds Try.pinned (OpenSpec.ofChange Rows.fnExactSetCellSpec) :=
  OpenClaim.holds_of_wide 8 Try.f8 rfl rfl rfl rfl rfl rfl rfl ⟨rfl, rfl, rfl, rfl, rfl⟩ rfl rfl rfl rfl rfl (by kernel_rfl) Try.func8 (by kernel_rfl)
    (of_decide_eq_true (by kernel_rfl)) (by unfold Func.isWrapper; first | (rw [if_pos (by decide +kernel)]; kernel_rfl) | (rw [if_neg (by decide +kernel)]; exact ⟨rfl, rfl⟩))
    (fun os started H enc _ => lifted os started H enc)

end Go.Proofs.Ytmapbkefndbnnaa.lSetCell
namespace Go.Proofs.Ytmapbkefndbnnaa
/-- THE STATEMENT. -/
theorem setCell_holds : Rows.FnExactSetCellSaid := lSetCell.over
#print axioms setCell_holds
end Go.Proofs.Ytmapbkefndbnnaa
