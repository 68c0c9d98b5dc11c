/- FnTrees answers true at every argument: a tree has just its cells, and one that is made once more is the one that is there, for drawn cells. No condition. (Written by wip/tools/mktrees.py.) -/
import Derived.Test.YtmapbkefndbnnaaKk
import Derived.Test.YtmapbkefndbnnaaKe
import Derived.Deep.RegionHeld3
namespace Go.Proofs.Ytmapbkefndbnnaa.lTrees
open Go.RowKit Go.ChangeShapes Go.WideShapes Go.ChangeAt
set_option linter.unusedVariables false
set_option linter.unusedSimpArgs false
attribute [local go_sem ↓] Go.wp_at_zero Go.wp_at_succ

set_option maxHeartbeats 16000000 in
set_option maxRecDepth 100000 in
theorem walk (a0 : Option Addr) (l0 : List Int) (c0 : Nat) (a1 : Option Addr) (l1 : List Int) (c1 : Nat) (w0 : World) (ha : BSeg w0 a0 l0) (hm0 : l0.length ≤ maxLen) (hb : BSeg w0 a1 l1) (hm1 : l1.length ≤ maxLen) :
    Calls Try.prog 3 #[.slice a0 l0.length c0, .slice a1 l1.length c1] w0 fun e w' => e = .returned (.bool true) ∧ Below w0.heap.size w0 w' := by
  unfold maxLen at hm0 hm1
  by_cases hl : wrap64 ((l0.length : Int) + (l1.length : Int)) ≤ 1048576
  · have SM := hid hb
    have BB := hid (Below.refl w0.heap.size w0)
    have HA := hid ha
    clear ha hb
    go_enter Try.func3, Try.ntmps3
    go_wp2_with fail
    refine (c_DrawTreeOf a0 l0 c0 w0 HA.out (by omega)).mono ?_
    rintro e w1 ⟨u, lv, F, v, L, rfl, hG, hF, lv0, lv1, hO, hLl, hr, hIn, b⟩
    replace SM := hid (SM.out.below b)
    replace BB := hid (BB.out.trans (b.mono BB.out.size))
    clear b
    clear HA hr hIn
    obtain ⟨fa, fc, rfl, k1, k2, hQ⟩ := hG.form
    have FNf := hid (show FN _ fa F from ⟨hQ, hG.noneCap⟩)
    obtain ⟨sa, sc, rfl, hS⟩ := hO.form
    have LS := hid hS
    clear hS
    have ba := (Below.refl w1.heap.size w1).alloc (Nat.le_refl _) (.cells #[.slice fa F.length fc] 25)
    replace SM := hid (SM.out.below ba)
    replace FNf := hid (FNf.out.below ba)
    replace LS := hid (LS.out.below ba)
    replace BB := hid (BB.out.trans (ba.mono BB.out.size))
    have f := hid (show FV (w1.alloc (.cells #[.slice fa F.length fc] 25)) w1.heap.size fa fc F from FV.new hQ k1 k2 25)
    clear ba hQ k1 k2 hG hO
    have hFk := hid hF.2.2
    have hFl : F.length ≤ 1048576 := by have := hF.2.1; omega
    clear hF
    obtain ⟨hTl, hTk, _⟩ := tof_small F lv L
    have HTK := hid hTk
    clear hTk
    have TFF := hid (trees_facts (F := F) (lv := lv) (L := L))
    have x0 := f.out.2.1
    go_wp2_with fail
    generalize w1.alloc (.cells #[.slice fa F.length fc] 25) = W1 at *
    generalize w1.heap.size = bf at *
    refine (c_iTreeOf fa F fc lv sa L sc W1 f.out.2.2.1 hFl hFk.out f.out.2.2.2.1 f.out.2.2.2.2 LS.out (by omega)).mono ?_
    rintro e w2 ⟨u, rfl, hO, b⟩
    replace SM := hid (SM.out.below b)
    replace FNf := hid (FNf.out.below b)
    replace LS := hid (LS.out.below b)
    replace f := hid (f.out.below b)
    replace BB := hid (BB.out.trans (b.mono BB.out.size))
    clear b x0
    obtain ⟨ga, gc, rfl, k1, k2, hQ⟩ := hO.form
    have ba := (Below.refl w2.heap.size w2).alloc (Nat.le_refl _) (.cells #[.slice ga (tofF F lv L).length gc] 25)
    replace SM := hid (SM.out.below ba)
    replace FNf := hid (FNf.out.below ba)
    replace LS := hid (LS.out.below ba)
    replace f := hid (f.out.below ba)
    replace BB := hid (BB.out.trans (ba.mono BB.out.size))
    have g := hid (show FV (w2.alloc (.cells #[.slice ga (tofF F lv L).length gc] 25)) w2.heap.size ga gc (tofF F lv L) from FV.new hQ k1 k2 25)
    clear ba hQ k1 k2 hO
    have x0 := f.out.2.1
    go_wp2_with fail
    generalize w2.alloc (.cells #[.slice ga (tofF F lv L).length gc] 25) = W2 at *
    generalize w2.heap.size = bg at *
    refine (c_sTreeOf fa F fc lv sa L sc W2 f.out.2.2.1 hFl hFk.out f.out.2.2.2.1 f.out.2.2.2.2 FNf.out.2 LS.out (by omega)).mono ?_
    rintro e w3 ⟨u, rfl, hG, b⟩
    replace SM := hid (SM.out.below b)
    replace FNf := hid (FNf.out.below b)
    replace LS := hid (LS.out.below b)
    replace f := hid (f.out.below b)
    replace g := hid (g.out.below b)
    replace BB := hid (BB.out.trans (b.mono BB.out.size))
    clear b x0
    obtain ⟨wa, wc, rfl, k1, k2, hQ⟩ := hG.form
    have ba := (Below.refl w3.heap.size w3).alloc (Nat.le_refl _) (.cells #[.slice wa (tofF F lv L).length wc] 25)
    replace SM := hid (SM.out.below ba)
    replace FNf := hid (FNf.out.below ba)
    replace LS := hid (LS.out.below ba)
    replace f := hid (f.out.below ba)
    replace g := hid (g.out.below ba)
    replace BB := hid (BB.out.trans (ba.mono BB.out.size))
    have want := hid (show FV (w3.alloc (.cells #[.slice wa (tofF F lv L).length wc] 25)) w3.heap.size wa wc (tofF F lv L) from FV.new hQ k1 k2 25)
    clear ba hQ k1 k2 hG
    go_wp2_with fail
    generalize w3.alloc (.cells #[.slice wa (tofF F lv L).length wc] 25) = W3 at *
    generalize w3.heap.size = bwant at *
    have TOK := hid (fun h : tofB F lv L = true => (tof_yes h).2)
    have TOK2 : Hid (tofB F lv L = true → 0 ≤ lv ∧ lv ≤ 5) := fun h => ⟨(tof_yes h).2.1, (tof_yes h).2.2.1⟩
    clear TOK
    generalize tofF F lv L = G at *
    generalize tofQ F lv L = Q at *
    generalize tofB F lv L = ok at *
    have HGS := hid (fun (W : World) (h : FV W bf fa fc F) => c_sGoodForest fa F fc W h.2.2.1 hFl hFk.out h.2.2.2.1 h.2.2.2.2)
    have HGI := hid (fun (W : World) (h : FV W bf fa fc F) => c_iGoodForest fa F fc W h.2.2.1 hFl hFk.out h.2.2.2.1 h.2.2.2.2)
    generalize goodF F = gd at *
    have d1 : (ok != ok) = false := by simp
    have d2 : (Q != Q) = false := by simp
    have d3 : (gd != gd) = false := by simp
    have keep : Hid (∀ W : World, Below W3.heap.size W3 W → W.cell? ⟨bf, 0, none⟩ = some (.slice fa F.length fc) ∧ W.cell? ⟨bg, 0, none⟩ = some (.slice ga G.length gc) ∧ W.cell? ⟨bwant, 0, none⟩ = some (.slice wa G.length wc)) := fun W h => ⟨(f.out.below h).2.1, (g.out.below h).2.1, (want.out.below h).2.1⟩
    have BR := (Below.refl W3.heap.size W3).drew
    go_region_held3 (fun W => W.cell? ⟨bf, 0, none⟩ = some (.slice fa F.length fc) ∧ W.cell? ⟨bg, 0, none⟩ = some (.slice ga G.length gc) ∧ W.cell? ⟨bwant, 0, none⟩ = some (.slice wa G.length wc))
      (first | exact keep.out _ (Below.refl W3.heap.size W3) | exact keep.out _ BR | go_keep)
      (first
        | (go_at_call 18; refine (c_sameForest ga wa G gc wc _ (g.out.below BR).2.2.1 (want.out.below BR).2.2.1 hTl HTK.out).mono ?_; rintro e w4 ⟨rfl, b⟩; replace BR := bel_step BR b; clear b)
        | (go_at_call 19; refine (HGI.out _ (f.out.below BR)).mono ?_; rintro e w5 ⟨rfl, b⟩; replace BR := bel_step BR b; clear b)
        | (go_at_call 20; refine (HGS.out _ (f.out.below BR)).mono ?_; rintro e w6 ⟨rfl, b⟩; replace BR := bel_step BR b; clear b))
    replace SM := hid (SM.out.below BR)
    replace FNf := hid (FNf.out.below BR)
    replace LS := hid (LS.out.below BR)
    replace f := hid (f.out.below BR)
    replace g := hid (g.out.below BR)
    replace want := hid (want.out.below BR)
    replace BB := hid (BB.out.trans (BR.mono BB.out.size))
    clear keep BR
    clear want
    clear d1 d2 d3 HGS HGI
    cases ok
    case false =>
      clear TFF TOK2 hTl HTK
      clear f g FNf LS
      go_wp2_with fail
      refine (c_DrawBlankOf a1 l1 c1 w6 SM.out (by omega)).mono ?_
      rintro e w7 ⟨u, q1, F1, rfl, hG, hF1, p0, p1, b⟩
      replace SM := hid (SM.out.below b)
      replace BB := hid (BB.out.trans (b.mono BB.out.size))
      clear b
      obtain ⟨fa1, fc1, rfl, k1, k2, hQ⟩ := hG.form
      have FN1 := hid (show FN _ fa1 F1 from ⟨hQ, hG.noneCap⟩)
      have ba := (Below.refl w7.heap.size w7).alloc (Nat.le_refl _) (.cells #[.slice fa1 F1.length fc1] 25)
      replace SM := hid (SM.out.below ba)
      replace FN1 := hid (FN1.out.below ba)
      replace BB := hid (BB.out.trans (ba.mono BB.out.size))
      have f1 := hid (show FV (w7.alloc (.cells #[.slice fa1 F1.length fc1] 25)) w7.heap.size fa1 fc1 F1 from FV.new hQ k1 k2 25)
      clear ba hQ k1 k2 hG
      have hF1k := hid hF1.2.2
      have hF1l : F1.length ≤ 1048576 := by have := hF1.2.1; omega
      clear hF1
      obtain ⟨hT1, hTk1, _⟩ := tof_small F1 q1 []
      have HTK1 := hid hTk1
      clear hTk1
      have x0 := f1.out.2.1
      go_wp2_with fail
      generalize w7.alloc (.cells #[.slice fa1 F1.length fc1] 25) = W7 at *
      generalize w7.heap.size = bf1 at *
      refine (c_iBlankOf fa1 F1 fc1 q1 W7 f1.out.2.2.1 hF1l hF1k.out f1.out.2.2.2.1 f1.out.2.2.2.2).mono ?_
      rintro e w8 ⟨u, rfl, hO, b⟩
      replace SM := hid (SM.out.below b)
      replace FN1 := hid (FN1.out.below b)
      replace f1 := hid (f1.out.below b)
      replace BB := hid (BB.out.trans (b.mono BB.out.size))
      clear b x0
      obtain ⟨da, dc, rfl, k1, k2, hQ⟩ := hO.form
      have ba := (Below.refl w8.heap.size w8).alloc (Nat.le_refl _) (.cells #[.slice da (tofF F1 q1 []).length dc] 25)
      replace SM := hid (SM.out.below ba)
      replace FN1 := hid (FN1.out.below ba)
      replace f1 := hid (f1.out.below ba)
      replace BB := hid (BB.out.trans (ba.mono BB.out.size))
      have d := hid (show FV (w8.alloc (.cells #[.slice da (tofF F1 q1 []).length dc] 25)) w8.heap.size da dc (tofF F1 q1 []) from FV.new hQ k1 k2 25)
      clear ba hQ k1 k2 hO
      have x0 := f1.out.2.1
      go_wp2_with fail
      generalize w8.alloc (.cells #[.slice da (tofF F1 q1 []).length dc] 25) = W8 at *
      generalize w8.heap.size = bd at *
      refine (c_sBlankOf fa1 F1 fc1 q1 W8 f1.out.2.2.1 hF1l hF1k.out f1.out.2.2.2.1 f1.out.2.2.2.2 FN1.out.2).mono ?_
      rintro e w9 ⟨u, rfl, hG, b⟩
      replace SM := hid (SM.out.below b)
      replace FN1 := hid (FN1.out.below b)
      replace f1 := hid (f1.out.below b)
      replace d := hid (d.out.below b)
      replace BB := hid (BB.out.trans (b.mono BB.out.size))
      clear b x0
      obtain ⟨ea, ec, rfl, k1, k2, hQ⟩ := hG.form
      have ba := (Below.refl w9.heap.size w9).alloc (Nat.le_refl _) (.cells #[.slice ea (tofF F1 q1 []).length ec] 25)
      replace SM := hid (SM.out.below ba)
      replace FN1 := hid (FN1.out.below ba)
      replace f1 := hid (f1.out.below ba)
      replace d := hid (d.out.below ba)
      replace BB := hid (BB.out.trans (ba.mono BB.out.size))
      have blank := hid (show FV (w9.alloc (.cells #[.slice ea (tofF F1 q1 []).length ec] 25)) w9.heap.size ea ec (tofF F1 q1 []) from FV.new hQ k1 k2 25)
      clear ba hQ k1 k2 hG
      go_wp2_with fail
      generalize w9.alloc (.cells #[.slice ea (tofF F1 q1 []).length ec] 25) = W9 at *
      generalize w9.heap.size = bblank at *
      generalize tofF F1 q1 [] = G1 at *
      generalize tofQ F1 q1 [] = Q1 at *
      generalize tofB F1 q1 [] = ok1 at *
      clear f1 FN1
      refine (c_DrawCellsIn a1 l1 c1 W9 SM.out (by omega)).mono ?_
      rintro e w10 ⟨u, q2, F2, rfl, hG, hF2, p2, p3, b⟩
      replace SM := hid (SM.out.below b)
      replace d := hid (d.out.below b)
      replace blank := hid (blank.out.below b)
      replace BB := hid (BB.out.trans (b.mono BB.out.size))
      clear b
      obtain ⟨fa2, fc2, rfl, k1, k2, hQ⟩ := hG.form
      have ba := (Below.refl w10.heap.size w10).alloc (Nat.le_refl _) (.cells #[.slice fa2 F2.length fc2] 25)
      replace SM := hid (SM.out.below ba)
      replace d := hid (d.out.below ba)
      replace blank := hid (blank.out.below ba)
      replace BB := hid (BB.out.trans (ba.mono BB.out.size))
      have f2 := hid (show FV (w10.alloc (.cells #[.slice fa2 F2.length fc2] 25)) w10.heap.size fa2 fc2 F2 from FV.new hQ k1 k2 25)
      clear ba hQ k1 k2 hG
      clear SM
      have hF2k := hid hF2.2.2
      have hF2l : F2.length ≤ 1048576 := by have := hF2.2.1; omega
      clear hF2
      have hCl := cin_le F2 q2
      have x0 := f2.out.2.1
      go_wp2_with fail
      generalize w10.alloc (.cells #[.slice fa2 F2.length fc2] 25) = W10 at *
      generalize w10.heap.size = bf2 at *
      refine (c_iCellsIn fa2 F2 fc2 q2 W10 f2.out.2.2.1 hF2l hF2k.out f2.out.2.2.2.1 f2.out.2.2.2.2).mono ?_
      rintro e w11 ⟨v, rfl, hO, b⟩
      replace d := hid (d.out.below b)
      replace blank := hid (blank.out.below b)
      replace f2 := hid (f2.out.below b)
      replace BB := hid (BB.out.trans (b.mono BB.out.size))
      clear b x0
      obtain ⟨ia, ic, rfl, hS⟩ := hO.form
      have CI := hid hS
      clear hS hO
      have x0 := f2.out.2.1
      go_wp2_with fail
      refine (c_sCellsIn fa2 F2 fc2 q2 w11 f2.out.2.2.1 hF2l hF2k.out f2.out.2.2.2.1 f2.out.2.2.2.2).mono ?_
      rintro e w12 ⟨v, rfl, hO, b⟩
      replace d := hid (d.out.below b)
      replace blank := hid (blank.out.below b)
      replace f2 := hid (f2.out.below b)
      replace CI := hid (CI.out.below b)
      replace BB := hid (BB.out.trans (b.mono BB.out.size))
      clear b x0
      obtain ⟨ja, jc, rfl, hS⟩ := hO.form
      have CJ := hid hS
      clear hS hO
      generalize cinV F2 q2 = C2 at *
      generalize thereB F2 q2 = th2 at *
      clear f2
      go_wp2_with fail
      refine (c_iNewForest w12).mono ?_
      rintro e w13 ⟨gn, rfl, hN, hgn, b⟩
      replace d := hid (d.out.below b)
      replace blank := hid (blank.out.below b)
      replace CI := hid (CI.out.below b)
      replace CJ := hid (CJ.out.below b)
      replace BB := hid (BB.out.trans (b.mono BB.out.size))
      clear b
      have hQN := hN.qseg
      clear hN hgn
      have ba := (Below.refl w13.heap.size w13).alloc (Nat.le_refl _) (.cells #[.slice (some ⟨gn, 0, none⟩) 2 2] 25)
      replace d := hid (d.out.below ba)
      replace blank := hid (blank.out.below ba)
      replace CI := hid (CI.out.below ba)
      replace CJ := hid (CJ.out.below ba)
      replace BB := hid (BB.out.trans (ba.mono BB.out.size))
      have nf := hid (show FV (w13.alloc (.cells #[.slice (some ⟨gn, 0, none⟩) 2 2] 25)) w13.heap.size (some ⟨gn, 0, none⟩) 2 [(0, []), (0, [])] from FV.new hQN (by simp) (by omega) 25)
      clear ba  hQN
      have d1 : (ok1 == ok1) = true := by simp
      have d2 : (Q1 == Q1) = true := by simp
      have d3 : (th2 == th2) = true := by simp
      have d4 : decide (C2 = C2) = true := by simp
      go_wp2_with fail
      generalize w13.alloc (.cells #[.slice (some ⟨gn, 0, none⟩) 2 2] 25) = W13 at *
      generalize w13.heap.size = bnf at *
      have HNG := hid (fun (W : World) (h : FV W bnf (some ⟨gn, 0, none⟩) 2 [(0, []), (0, [])]) => c_iGoodForest (some ⟨gn, 0, none⟩) [(0, []), (0, [])] 2 W h.2.2.1 (by simp) (fun i hi => by rcases (show i = 0 ∨ i = 1 by simp at hi; omega) with rfl | rfl <;> simp [qa]) (by simp) (by omega))
      rw [good_first] at HNG
      have keep : Hid (∀ W : World, Below W13.heap.size W13 W → W.cell? ⟨bd, 0, none⟩ = some (.slice da G1.length dc) ∧ W.cell? ⟨bblank, 0, none⟩ = some (.slice ea G1.length ec) ∧ W.cell? ⟨bnf, 0, none⟩ = some (.slice (some ⟨gn, 0, none⟩) 2 2)) := fun W h => ⟨(d.out.below h).2.1, (blank.out.below h).2.1, (nf.out.below h).2.1⟩
      have BR := (Below.refl W13.heap.size W13).drew
      go_region_held3 (fun W => W.cell? ⟨bd, 0, none⟩ = some (.slice da G1.length dc) ∧ W.cell? ⟨bblank, 0, none⟩ = some (.slice ea G1.length ec) ∧ W.cell? ⟨bnf, 0, none⟩ = some (.slice (some ⟨gn, 0, none⟩) 2 2))
        (first | exact keep.out _ (Below.refl W13.heap.size W13) | exact keep.out _ BR | go_keep)
        (first
          | (go_at_call 18; have _h9 := hQ9; refine (c_sameForest (some ⟨gn, 0, none⟩) _ [(0, []), (0, [])] 2 2 _ (nf.out.below BR).2.2.1 hQ9 (by simp) (fun i hi => by rcases (show i = 0 ∨ i = 1 by simp at hi; omega) with rfl | rfl <;> simp [qa])).mono ?_; rintro e w14 ⟨rfl, b⟩; replace BR := bel_step BR b; skip; clear b)
          | (go_at_call 18; refine (c_sameForest da ea G1 dc ec _ (d.out.below BR).2.2.1 (blank.out.below BR).2.2.1 hT1 HTK1.out).mono ?_; rintro e w15 ⟨rfl, b⟩; replace BR := bel_step BR b; clear b)
          | (go_at_call 31; refine (c_sameCells ia ja C2 C2 ic jc _ (CI.out.below BR) (CJ.out.below BR) (by omega) (by omega)).mono ?_; rintro e w16 ⟨rfl, b⟩; replace BR := bel_step BR b; clear b)
          | (go_at_call 19; refine (HNG.out _ (nf.out.below BR)).mono ?_; rintro e w17 ⟨rfl, b⟩; replace BR := bel_step BR b; clear b)
          | (go_at_call 32; refine (c_sNewForest _).mono ?_; rintro e w18 ⟨rfl, hN9, b⟩; replace BR := bel_step BR b; have hQ9 := hN9.qseg; clear b))
      replace d := hid (d.out.below BR)
      replace blank := hid (blank.out.below BR)
      replace CI := hid (CI.out.below BR)
      replace CJ := hid (CJ.out.below BR)
      replace nf := hid (nf.out.below BR)
      replace BB := hid (BB.out.trans (BR.mono BB.out.size))
      clear keep BR
      go_wp2_with fail
      go_ret
      exact ⟨rfl, BB.out⟩
    case true =>
      obtain ⟨t1, t2, t3, ⟨t4, t5, t6⟩, t7, t8, t9⟩ := TFF.out (by first | rfl | trivial)
      have hlv5 := hid (TOK2.out (by first | rfl | trivial))
      obtain ⟨C, hC⟩ : ∃ C, cinV G Q = C := ⟨_, rfl⟩
      have hCle := cin_le G Q
      rw [hC] at t7 t9 hCle
      obtain ⟨M, hM⟩ : ∃ M, (L.filter (hoB lv.toNat)).length = M := ⟨_, rfl⟩
      rw [hM] at t8 t9
      have T1 := hid t1
      have T2 := hid t2
      have T3 := hid t3
      have T4 := hid t4
      have T5 := hid t5
      have T6 := hid t6
      have T7 := hid t7
      have T8 := hid t8
      have T9 := hid t9
      have HCC := hid hC
      have HMM := hid hM
      clear t1 t2 t3 t4 t5 t6 t7 t8 t9 hC hM TFF
      have x0 := g.out.2.1
      go_wp2_with fail
      have CC := hid (c_iCellsIn ga G gc Q w6 g.out.2.2.1 hTl HTK.out g.out.2.2.2.1 g.out.2.2.2.2)
      rw [T2.out, HCC.out] at CC
      refine CC.out.mono ?_
      rintro e w7 ⟨v, rfl, hO, b⟩
      replace SM := hid (SM.out.below b)
      replace FNf := hid (FNf.out.below b)
      replace LS := hid (LS.out.below b)
      replace f := hid (f.out.below b)
      replace g := hid (g.out.below b)
      replace BB := hid (BB.out.trans (b.mono BB.out.size))
      clear b CC x0
      obtain ⟨ca, cc, rfl, hS⟩ := hO.form
      have CS := hid hS
      clear hS hO
      have x0 := g.out.2.1
      go_wp2_with fail
      have CC := hid (c_iCountOf ga G gc Q w7 g.out.2.2.1 hTl HTK.out g.out.2.2.2.1 g.out.2.2.2.2)
      rw [T2.out, T8.out] at CC
      refine CC.out.mono ?_
      rintro e w8 ⟨rfl, b⟩
      replace SM := hid (SM.out.below b)
      replace FNf := hid (FNf.out.below b)
      replace LS := hid (LS.out.below b)
      replace f := hid (f.out.below b)
      replace g := hid (g.out.below b)
      replace CS := hid (CS.out.below b)
      replace BB := hid (BB.out.trans (b.mono BB.out.size))
      clear b CC x0
      have x0 := g.out.2.1
      go_wp2_with fail
      have CC := hid (c_iLevelOf ga G gc Q w8 g.out.2.2.1 hTl HTK.out g.out.2.2.2.1 g.out.2.2.2.2)
      rw [T2.out, T3.out] at CC
      refine CC.out.mono ?_
      rintro e w9 ⟨rfl, b⟩
      replace SM := hid (SM.out.below b)
      replace FNf := hid (FNf.out.below b)
      replace LS := hid (LS.out.below b)
      replace f := hid (f.out.below b)
      replace g := hid (g.out.below b)
      replace CS := hid (CS.out.below b)
      replace BB := hid (BB.out.trans (b.mono BB.out.size))
      clear b CC x0
      have x0 := g.out.2.1
      go_wp2_with fail
      have CC := hid (c_iTreeOf ga G gc lv sa L sc w9 g.out.2.2.1 hTl HTK.out g.out.2.2.2.1 g.out.2.2.2.2 LS.out (by omega))
      rw [T4.out, T5.out, T6.out] at CC
      refine CC.out.mono ?_
      rintro e w10 ⟨u, rfl, hO, b⟩
      replace SM := hid (SM.out.below b)
      replace FNf := hid (FNf.out.below b)
      replace LS := hid (LS.out.below b)
      replace f := hid (f.out.below b)
      replace g := hid (g.out.below b)
      replace CS := hid (CS.out.below b)
      replace BB := hid (BB.out.trans (b.mono BB.out.size))
      clear b CC x0
      obtain ⟨ha, hc, rfl, k1, k2, hQ⟩ := hO.form
      have ba := (Below.refl w10.heap.size w10).alloc (Nat.le_refl _) (.cells #[.slice ha G.length hc] 25)
      replace SM := hid (SM.out.below ba)
      replace FNf := hid (FNf.out.below ba)
      replace LS := hid (LS.out.below ba)
      replace f := hid (f.out.below ba)
      replace g := hid (g.out.below ba)
      replace CS := hid (CS.out.below ba)
      replace BB := hid (BB.out.trans (ba.mono BB.out.size))
      have h := hid (show FV (w10.alloc (.cells #[.slice ha G.length hc] 25)) w10.heap.size ha hc G from FV.new hQ k1 k2 25)
      clear ba hQ k1 k2 hO
      clear T2 T3 T4 T5 T6 T8 HCC
      obtain ⟨N2, hN2⟩ : ∃ N2 : Int, (2 : Int) ^ lv.toNat = N2 := ⟨_, rfl⟩
      have HN2 := hid hN2
      have hN3 : 1 ≤ N2 ∧ N2 ≤ 32 := by rw [← hN2]; have := pow_pos' lv.toNat; have := pow_le5 (show lv.toNat ≤ 5 by have := hlv5.out; omega); omega
      clear hN2
      have lvb := hlv5.out
      go_wp2_with fail
      generalize w10.alloc (.cells #[.slice ha G.length hc] 25) = W10 at *
      generalize w10.heap.size = bh at *
      rw [show wrap64 ((2 : Int) ^ lv.toNat) = N2 by rw [HN2.out]; unfold wrap64; omega]
      go_loopw [24, 124] (fun mv iv wr => ∃ k : Nat, k ≤ L.length ∧ iv = .int .i64 k ∧ mv = .int .i64 (((L.take k).filter (hoB lv.toNat)).length : Int) ∧ Hid (Below W10.heap.size W10 wr)) (fun _ iv _ => L.length - (intOf iv).toNat)
      case atStart => exact ⟨0, Nat.zero_le _, rfl, by simp, Below.refl _ _⟩
      case round =>
        obtain ⟨k, hk, rfl, rfl, HB⟩ := hrel
        by_cases hlt : k < L.length
        · have HFS := hid (filter_take_succ (f := hoB lv.toNat) hlt)
          have hfl : ((L.take k).filter (hoB lv.toNat)).length ≤ 13 := by have h1 := List.length_filter_le (hoB lv.toNat) (L.take k); rw [List.length_take] at h1; omega
          have HT7 := hid (T7.out (at_ L k) (mem_at.2 ⟨k, hlt, rfl⟩))
          obtain ⟨bz, oz, rfl, hbz, p1, p2⟩ := LS.out k hlt
          have g1 := (HB.out.cell (p := ⟨bz, oz + k * 2, none⟩) hbz).trans p1
          have g2 := (HB.out.cell (p := ⟨bz, oz + k * 2 + 1, none⟩) hbz).trans p2
          change _ = some (Value.int .i64 (at_ L k).1) at g1
          change _ = some (Value.int .i64 (at_ L k).2) at g2
          clear p1 p2
          have k0 : (0 : Int) ≤ (k : Int) := by omega
          have k1 : (k : Int) < (L.length : Int) := by omega
          generalize at_ L k = z at *
          generalize (L.take k).filter (hoB lv.toNat) = FL at *
          have HBA := hid ((Below.refl wr.heap.size wr).alloc (Nat.le_refl _) (.cells #[.int .i64 z.1, .int .i64 z.2] 39))
          have HCL : Hid (∀ (v : Bool), decide (z ∈ C) = v → ∀ (W : World), Below wr.heap.size wr W → Calls Try.prog 24 #[.slice ca C.length cc, .agg #[.int .i64 z.1, .int .i64 z.2]] W fun e w' => e = .returned (.bool v) ∧ Below W.heap.size W w') := fun v hv W h => by rw [← hv]; exact c_hasCellL ca C cc z W (CS.out.below (bel_step HB.out h)) (by omega)
          by_cases e1 : 0 ≤ z.1
          · have d1 : decide (0 ≤ z.1) = true := decide_eq_true e1
            by_cases e2 : z.1 < N2
            · have d2 : decide (z.1 < N2) = true := decide_eq_true e2
              by_cases e3 : 0 ≤ z.2
              · have d3 : decide (0 ≤ z.2) = true := decide_eq_true e3
                by_cases e4 : z.2 < N2
                · have d4 : decide (z.2 < N2) = true := decide_eq_true e4
                  have HV := hid (show hoB lv.toNat z = true by unfold hoB; rw [HN2.out]; simp [e1, e2, e3, e4])
                  have HC1 := hid (fun (W : World) (h : Below wr.heap.size wr W) => HCL.out true (by rw [HT7.out, HV.out]) W h)
                  have HFL := hid (show ((L.take (k + 1)).filter (hoB lv.toNat)).length = FL.length + 1 by rw [HFS.out, HV.out]; simp)
                  go_wp2_with fail
                  refine (HC1.out _ HBA.out).mono ?_
                  rintro e w1 ⟨rfl, b⟩
                  have HBB := hid (bel_step HB.out (bel_step HBA.out b))
                  clear b HC1
                  go_wp2_with fail
                  go_roundw
                  case rel => exact ⟨k + 1, by omega, by go_num, by first | (rw [HFL.out]; done) | (rw [HFL.out]; go_num), HBB.out⟩
                  case measure => simp [intOf]; omega
                · have d4 : decide (z.2 < N2) = false := decide_eq_false e4
                  have HV := hid (show hoB lv.toNat z = false by unfold hoB; rw [HN2.out]; simp [e1, e2, e3, e4])
                  have HC1 := hid (fun (W : World) (h : Below wr.heap.size wr W) => HCL.out false (by rw [HT7.out, HV.out]) W h)
                  have HFL := hid (show ((L.take (k + 1)).filter (hoB lv.toNat)).length = FL.length by rw [HFS.out, HV.out]; simp)
                  go_wp2_with fail
                  refine (HC1.out _ HBA.out).mono ?_
                  rintro e w1 ⟨rfl, b⟩
                  have HBB := hid (bel_step HB.out (bel_step HBA.out b))
                  clear b HC1
                  go_wp2_with fail
                  go_roundw
                  case rel => exact ⟨k + 1, by omega, by go_num, by first | (rw [HFL.out]; done) | (rw [HFL.out]; go_num), HBB.out⟩
                  case measure => simp [intOf]; omega
              · have d3 : decide (0 ≤ z.2) = false := decide_eq_false e3
                have HV := hid (show hoB lv.toNat z = false by unfold hoB; rw [HN2.out]; simp [e1, e2, e3])
                have HC1 := hid (fun (W : World) (h : Below wr.heap.size wr W) => HCL.out false (by rw [HT7.out, HV.out]) W h)
                have HFL := hid (show ((L.take (k + 1)).filter (hoB lv.toNat)).length = FL.length by rw [HFS.out, HV.out]; simp)
                go_wp2_with fail
                refine (HC1.out _ HBA.out).mono ?_
                rintro e w1 ⟨rfl, b⟩
                have HBB := hid (bel_step HB.out (bel_step HBA.out b))
                clear b HC1
                go_wp2_with fail
                go_roundw
                case rel => exact ⟨k + 1, by omega, by go_num, by first | (rw [HFL.out]; done) | (rw [HFL.out]; go_num), HBB.out⟩
                case measure => simp [intOf]; omega
            · have d2 : decide (z.1 < N2) = false := decide_eq_false e2
              have HV := hid (show hoB lv.toNat z = false by unfold hoB; rw [HN2.out]; simp [e1, e2])
              have HC1 := hid (fun (W : World) (h : Below wr.heap.size wr W) => HCL.out false (by rw [HT7.out, HV.out]) W h)
              have HFL := hid (show ((L.take (k + 1)).filter (hoB lv.toNat)).length = FL.length by rw [HFS.out, HV.out]; simp)
              go_wp2_with fail
              refine (HC1.out _ HBA.out).mono ?_
              rintro e w1 ⟨rfl, b⟩
              have HBB := hid (bel_step HB.out (bel_step HBA.out b))
              clear b HC1
              go_wp2_with fail
              go_roundw
              case rel => exact ⟨k + 1, by omega, by go_num, by first | (rw [HFL.out]; done) | (rw [HFL.out]; go_num), HBB.out⟩
              case measure => simp [intOf]; omega
          · have d1 : decide (0 ≤ z.1) = false := decide_eq_false e1
            have HV := hid (show hoB lv.toNat z = false by unfold hoB; rw [HN2.out]; simp [e1])
            have HC1 := hid (fun (W : World) (h : Below wr.heap.size wr W) => HCL.out false (by rw [HT7.out, HV.out]) W h)
            have HFL := hid (show ((L.take (k + 1)).filter (hoB lv.toNat)).length = FL.length by rw [HFS.out, HV.out]; simp)
            go_wp2_with fail
            refine (HC1.out _ HBA.out).mono ?_
            rintro e w1 ⟨rfl, b⟩
            have HBB := hid (bel_step HB.out (bel_step HBA.out b))
            clear b HC1
            go_wp2_with fail
            go_roundw
            case rel => exact ⟨k + 1, by omega, by go_num, by first | (rw [HFL.out]; done) | (rw [HFL.out]; go_num), HBB.out⟩
            case measure => simp [intOf]; omega
        · have hkk : k = L.length := by omega
          subst hkk
          rw [List.take_length, HMM.out]
          replace SM := hid (SM.out.below HB.out)
          replace FNf := hid (FNf.out.below HB.out)
          replace LS := hid (LS.out.below HB.out)
          replace f := hid (f.out.below HB.out)
          replace g := hid (g.out.below HB.out)
          replace CS := hid (CS.out.below HB.out)
          replace h := hid (h.out.below HB.out)
          replace BB := hid (BB.out.trans (HB.out.mono BB.out.size))
          clear HB T7 HMM
          have dM : ((M : Int) != (M : Int)) = false := by simp
          have dC : ((C.length : Int) != (M : Int)) = false := by rw [T9.out]; simp
          have dL : (lv != lv) = false := by simp
          have dQ : (Q != Q) = false := by simp
          have x0 := g.out.2.1
          go_wp2_with fail
          have CC := hid (c_iGoodForest ga G gc wr g.out.2.2.1 hTl HTK.out g.out.2.2.2.1 g.out.2.2.2.2)
          rw [T1.out] at CC
          refine CC.out.mono ?_
          rintro e w11 ⟨rfl, b⟩
          replace SM := hid (SM.out.below b)
          replace FNf := hid (FNf.out.below b)
          replace LS := hid (LS.out.below b)
          replace f := hid (f.out.below b)
          replace g := hid (g.out.below b)
          replace CS := hid (CS.out.below b)
          replace h := hid (h.out.below b)
          replace BB := hid (BB.out.trans (b.mono BB.out.size))
          clear b CC x0
          have x0 := h.out.2.1
          have x1 := g.out.2.1
          go_wp2_with fail
          refine (c_sameForest ha ga G hc gc w11 h.out.2.2.1 g.out.2.2.1 hTl HTK.out).mono ?_
          rintro e w12 ⟨rfl, b⟩
          replace SM := hid (SM.out.below b)
          replace FNf := hid (FNf.out.below b)
          replace LS := hid (LS.out.below b)
          replace f := hid (f.out.below b)
          replace g := hid (g.out.below b)
          replace CS := hid (CS.out.below b)
          replace h := hid (h.out.below b)
          replace BB := hid (BB.out.trans (b.mono BB.out.size))
          clear b x0 x1
          clear dM dC dL dQ T1 T9 hTl HTK hlv5 HN2 hN3 lvb TOK2
          clear f g h FNf LS CS
          go_wp2_with fail
          refine (c_DrawBlankOf a1 l1 c1 w12 SM.out (by omega)).mono ?_
          rintro e w13 ⟨u, q1, F1, rfl, hG, hF1, p0, p1, b⟩
          replace SM := hid (SM.out.below b)
          replace BB := hid (BB.out.trans (b.mono BB.out.size))
          clear b
          obtain ⟨fa1, fc1, rfl, k1, k2, hQ⟩ := hG.form
          have FN1 := hid (show FN _ fa1 F1 from ⟨hQ, hG.noneCap⟩)
          have ba := (Below.refl w13.heap.size w13).alloc (Nat.le_refl _) (.cells #[.slice fa1 F1.length fc1] 25)
          replace SM := hid (SM.out.below ba)
          replace FN1 := hid (FN1.out.below ba)
          replace BB := hid (BB.out.trans (ba.mono BB.out.size))
          have f1 := hid (show FV (w13.alloc (.cells #[.slice fa1 F1.length fc1] 25)) w13.heap.size fa1 fc1 F1 from FV.new hQ k1 k2 25)
          clear ba hQ k1 k2 hG
          have hF1k := hid hF1.2.2
          have hF1l : F1.length ≤ 1048576 := by have := hF1.2.1; omega
          clear hF1
          obtain ⟨hT1, hTk1, _⟩ := tof_small F1 q1 []
          have HTK1 := hid hTk1
          clear hTk1
          have x0 := f1.out.2.1
          go_wp2_with fail
          generalize w13.alloc (.cells #[.slice fa1 F1.length fc1] 25) = W13 at *
          generalize w13.heap.size = bf1 at *
          refine (c_iBlankOf fa1 F1 fc1 q1 W13 f1.out.2.2.1 hF1l hF1k.out f1.out.2.2.2.1 f1.out.2.2.2.2).mono ?_
          rintro e w14 ⟨u, rfl, hO, b⟩
          replace SM := hid (SM.out.below b)
          replace FN1 := hid (FN1.out.below b)
          replace f1 := hid (f1.out.below b)
          replace BB := hid (BB.out.trans (b.mono BB.out.size))
          clear b x0
          obtain ⟨da, dc, rfl, k1, k2, hQ⟩ := hO.form
          have ba := (Below.refl w14.heap.size w14).alloc (Nat.le_refl _) (.cells #[.slice da (tofF F1 q1 []).length dc] 25)
          replace SM := hid (SM.out.below ba)
          replace FN1 := hid (FN1.out.below ba)
          replace f1 := hid (f1.out.below ba)
          replace BB := hid (BB.out.trans (ba.mono BB.out.size))
          have d := hid (show FV (w14.alloc (.cells #[.slice da (tofF F1 q1 []).length dc] 25)) w14.heap.size da dc (tofF F1 q1 []) from FV.new hQ k1 k2 25)
          clear ba hQ k1 k2 hO
          have x0 := f1.out.2.1
          go_wp2_with fail
          generalize w14.alloc (.cells #[.slice da (tofF F1 q1 []).length dc] 25) = W14 at *
          generalize w14.heap.size = bd at *
          refine (c_sBlankOf fa1 F1 fc1 q1 W14 f1.out.2.2.1 hF1l hF1k.out f1.out.2.2.2.1 f1.out.2.2.2.2 FN1.out.2).mono ?_
          rintro e w15 ⟨u, rfl, hG, b⟩
          replace SM := hid (SM.out.below b)
          replace FN1 := hid (FN1.out.below b)
          replace f1 := hid (f1.out.below b)
          replace d := hid (d.out.below b)
          replace BB := hid (BB.out.trans (b.mono BB.out.size))
          clear b x0
          obtain ⟨ea, ec, rfl, k1, k2, hQ⟩ := hG.form
          have ba := (Below.refl w15.heap.size w15).alloc (Nat.le_refl _) (.cells #[.slice ea (tofF F1 q1 []).length ec] 25)
          replace SM := hid (SM.out.below ba)
          replace FN1 := hid (FN1.out.below ba)
          replace f1 := hid (f1.out.below ba)
          replace d := hid (d.out.below ba)
          replace BB := hid (BB.out.trans (ba.mono BB.out.size))
          have blank := hid (show FV (w15.alloc (.cells #[.slice ea (tofF F1 q1 []).length ec] 25)) w15.heap.size ea ec (tofF F1 q1 []) from FV.new hQ k1 k2 25)
          clear ba hQ k1 k2 hG
          go_wp2_with fail
          generalize w15.alloc (.cells #[.slice ea (tofF F1 q1 []).length ec] 25) = W15 at *
          generalize w15.heap.size = bblank at *
          generalize tofF F1 q1 [] = G1 at *
          generalize tofQ F1 q1 [] = Q1 at *
          generalize tofB F1 q1 [] = ok1 at *
          clear f1 FN1
          refine (c_DrawCellsIn a1 l1 c1 W15 SM.out (by omega)).mono ?_
          rintro e w16 ⟨u, q2, F2, rfl, hG, hF2, p2, p3, b⟩
          replace SM := hid (SM.out.below b)
          replace d := hid (d.out.below b)
          replace blank := hid (blank.out.below b)
          replace BB := hid (BB.out.trans (b.mono BB.out.size))
          clear b
          obtain ⟨fa2, fc2, rfl, k1, k2, hQ⟩ := hG.form
          have ba := (Below.refl w16.heap.size w16).alloc (Nat.le_refl _) (.cells #[.slice fa2 F2.length fc2] 25)
          replace SM := hid (SM.out.below ba)
          replace d := hid (d.out.below ba)
          replace blank := hid (blank.out.below ba)
          replace BB := hid (BB.out.trans (ba.mono BB.out.size))
          have f2 := hid (show FV (w16.alloc (.cells #[.slice fa2 F2.length fc2] 25)) w16.heap.size fa2 fc2 F2 from FV.new hQ k1 k2 25)
          clear ba hQ k1 k2 hG
          clear SM
          have hF2k := hid hF2.2.2
          have hF2l : F2.length ≤ 1048576 := by have := hF2.2.1; omega
          clear hF2
          have hCl := cin_le F2 q2
          have x0 := f2.out.2.1
          go_wp2_with fail
          generalize w16.alloc (.cells #[.slice fa2 F2.length fc2] 25) = W16 at *
          generalize w16.heap.size = bf2 at *
          refine (c_iCellsIn fa2 F2 fc2 q2 W16 f2.out.2.2.1 hF2l hF2k.out f2.out.2.2.2.1 f2.out.2.2.2.2).mono ?_
          rintro e w17 ⟨v, rfl, hO, b⟩
          replace d := hid (d.out.below b)
          replace blank := hid (blank.out.below b)
          replace f2 := hid (f2.out.below b)
          replace BB := hid (BB.out.trans (b.mono BB.out.size))
          clear b x0
          obtain ⟨ia, ic, rfl, hS⟩ := hO.form
          have CI := hid hS
          clear hS hO
          have x0 := f2.out.2.1
          go_wp2_with fail
          refine (c_sCellsIn fa2 F2 fc2 q2 w17 f2.out.2.2.1 hF2l hF2k.out f2.out.2.2.2.1 f2.out.2.2.2.2).mono ?_
          rintro e w18 ⟨v, rfl, hO, b⟩
          replace d := hid (d.out.below b)
          replace blank := hid (blank.out.below b)
          replace f2 := hid (f2.out.below b)
          replace CI := hid (CI.out.below b)
          replace BB := hid (BB.out.trans (b.mono BB.out.size))
          clear b x0
          obtain ⟨ja, jc, rfl, hS⟩ := hO.form
          have CJ := hid hS
          clear hS hO
          generalize cinV F2 q2 = C2 at *
          generalize thereB F2 q2 = th2 at *
          clear f2
          go_wp2_with fail
          refine (c_iNewForest w18).mono ?_
          rintro e w19 ⟨gn, rfl, hN, hgn, b⟩
          replace d := hid (d.out.below b)
          replace blank := hid (blank.out.below b)
          replace CI := hid (CI.out.below b)
          replace CJ := hid (CJ.out.below b)
          replace BB := hid (BB.out.trans (b.mono BB.out.size))
          clear b
          have hQN := hN.qseg
          clear hN hgn
          have ba := (Below.refl w19.heap.size w19).alloc (Nat.le_refl _) (.cells #[.slice (some ⟨gn, 0, none⟩) 2 2] 25)
          replace d := hid (d.out.below ba)
          replace blank := hid (blank.out.below ba)
          replace CI := hid (CI.out.below ba)
          replace CJ := hid (CJ.out.below ba)
          replace BB := hid (BB.out.trans (ba.mono BB.out.size))
          have nf := hid (show FV (w19.alloc (.cells #[.slice (some ⟨gn, 0, none⟩) 2 2] 25)) w19.heap.size (some ⟨gn, 0, none⟩) 2 [(0, []), (0, [])] from FV.new hQN (by simp) (by omega) 25)
          clear ba  hQN
          have d1 : (ok1 == ok1) = true := by simp
          have d2 : (Q1 == Q1) = true := by simp
          have d3 : (th2 == th2) = true := by simp
          have d4 : decide (C2 = C2) = true := by simp
          go_wp2_with fail
          generalize w19.alloc (.cells #[.slice (some ⟨gn, 0, none⟩) 2 2] 25) = W19 at *
          generalize w19.heap.size = bnf at *
          have HNG := hid (fun (W : World) (h : FV W bnf (some ⟨gn, 0, none⟩) 2 [(0, []), (0, [])]) => c_iGoodForest (some ⟨gn, 0, none⟩) [(0, []), (0, [])] 2 W h.2.2.1 (by simp) (fun i hi => by rcases (show i = 0 ∨ i = 1 by simp at hi; omega) with rfl | rfl <;> simp [qa]) (by simp) (by omega))
          rw [good_first] at HNG
          have keep : Hid (∀ W : World, Below W19.heap.size W19 W → W.cell? ⟨bd, 0, none⟩ = some (.slice da G1.length dc) ∧ W.cell? ⟨bblank, 0, none⟩ = some (.slice ea G1.length ec) ∧ W.cell? ⟨bnf, 0, none⟩ = some (.slice (some ⟨gn, 0, none⟩) 2 2)) := fun W h => ⟨(d.out.below h).2.1, (blank.out.below h).2.1, (nf.out.below h).2.1⟩
          have BR := (Below.refl W19.heap.size W19).drew
          go_region_held3 (fun W => W.cell? ⟨bd, 0, none⟩ = some (.slice da G1.length dc) ∧ W.cell? ⟨bblank, 0, none⟩ = some (.slice ea G1.length ec) ∧ W.cell? ⟨bnf, 0, none⟩ = some (.slice (some ⟨gn, 0, none⟩) 2 2))
            (first | exact keep.out _ (Below.refl W19.heap.size W19) | exact keep.out _ BR | go_keep)
            (first
              | (go_at_call 18; have _h9 := hQ9; refine (c_sameForest (some ⟨gn, 0, none⟩) _ [(0, []), (0, [])] 2 2 _ (nf.out.below BR).2.2.1 hQ9 (by simp) (fun i hi => by rcases (show i = 0 ∨ i = 1 by simp at hi; omega) with rfl | rfl <;> simp [qa])).mono ?_; rintro e w20 ⟨rfl, b⟩; replace BR := bel_step BR b; skip; clear b)
              | (go_at_call 18; refine (c_sameForest da ea G1 dc ec _ (d.out.below BR).2.2.1 (blank.out.below BR).2.2.1 hT1 HTK1.out).mono ?_; rintro e w21 ⟨rfl, b⟩; replace BR := bel_step BR b; clear b)
              | (go_at_call 31; refine (c_sameCells ia ja C2 C2 ic jc _ (CI.out.below BR) (CJ.out.below BR) (by omega) (by omega)).mono ?_; rintro e w22 ⟨rfl, b⟩; replace BR := bel_step BR b; clear b)
              | (go_at_call 19; refine (HNG.out _ (nf.out.below BR)).mono ?_; rintro e w23 ⟨rfl, b⟩; replace BR := bel_step BR b; clear b)
              | (go_at_call 32; refine (c_sNewForest _).mono ?_; rintro e w24 ⟨rfl, hN9, b⟩; replace BR := bel_step BR b; have hQ9 := hN9.qseg; clear b))
          replace d := hid (d.out.below BR)
          replace blank := hid (blank.out.below BR)
          replace CI := hid (CI.out.below BR)
          replace CJ := hid (CJ.out.below BR)
          replace nf := hid (nf.out.below BR)
          replace BB := hid (BB.out.trans (BR.mono BB.out.size))
          clear keep BR
          go_wp2_with fail
          go_ret
          exact ⟨rfl, BB.out⟩
  · have hz : (1048576 : Int) < wrap64 ((l0.length : Int) + (l1.length : Int)) := by omega
    go_enter Try.func3, Try.ntmps3
    go_wp2
    go_ret
    exact ⟨rfl, Below.refl _ _⟩

set_option maxRecDepth 100000 in
theorem lifted (os : Os) (started : os.Started) (H : Type) (enc : TypeId × Value → H) :
    ReturnsInHanded {} Try.checked os 3 .any (Rows.fnTreesSpec.pre6 enc Try.prog Try.f3 Rows.fnTreesRow.domain false) (Rows.fnTreesSpec.post enc Try.prog Try.f3 false true false false) := by
  refine returnsInHanded_of_change (C := Try.checked) own started (by kernel_rfl) Try.func3
    (ChangeSpec.witness6 (enc := enc) (C := Try.checked) false ⟨#[], #[.slice none 0 0, .slice none 0 0], []⟩ 8 (by kernel_rfl) (by kernel_rfl) (by kernel_rfl) (by kernel_rfl)) ?_
  intro W base args ds gs before hval0 hW hcnd _
  have hval : ∀ (j : Nat) t v, Try.f3.params[j]? = some t → args[j]? = some v → Value.okWide Try.prog W .any base t v := hval0
  have hW' := hW
  obtain ⟨p, q, hA0, hV, rfl, hfz, hnd⟩ := hW
  have hA : DataW.TrodAll enc Try.prog W 0 (fun _ => true) true Try.f3.params.toList args.toList ds p := hA0
  rw [Try.params3] at hA hval
  obtain ⟨v0, vs0, d0, ds0, p0, q0, hargs, rfl, rfl, h0, r0⟩ := trodAll_cons hA
  obtain ⟨v1, vs1, d1, ds1, p1, q1, rfl, rfl, rfl, h1, r1⟩ := trodAll_cons r0
  obtain ⟨rfl, rfl, rfl⟩ := trodAll_nil r1
  obtain rfl : args = #[v0, v1] := by cases args; simp_all
  obtain ⟨rfl, rfl⟩ := trodVars_none hV
  have k0 := h0
  have lt0 : ∀ x ∈ p0, x.block < W.heap.size := by obtain ⟨m, hm⟩ := k0; exact DataW.trod_lt m _ _ _ hm
  obtain ⟨a0, len0, cap0, rfl⟩ := okWide_slice Try.underlying22 (hval 0 22 v0 rfl rfl)
  obtain ⟨l0, rfl, m0, s0⟩ : ∃ l : List Int, l.length = len0 ∧ l.length ≤ maxLen ∧ BSeg W a0 l := by
    obtain ⟨fuel, hf⟩ := h0
    exact open_bytes hf
  have k1 := h1
  have lt1 : ∀ x ∈ p1, x.block < W.heap.size := by obtain ⟨m, hm⟩ := k1; exact DataW.trod_lt m _ _ _ hm
  obtain ⟨a1, len1, cap1, rfl⟩ := okWide_slice Try.underlying22 (hval 1 22 v1 rfl rfl)
  obtain ⟨l1, rfl, m1, s1⟩ : ∃ l : List Int, l.length = len1 ∧ l.length ≤ maxLen ∧ BSeg W a1 l := by
    obtain ⟨fuel, hf⟩ := h1
    exact open_bytes hf
  clear hA0 hval0
  refine (walk a0 l0 cap0 a1 l1 cap1 W s0 m0 s1 m1).mono fun e W' ⟨he, bel⟩ => ?_
  subst he
  exact ⟨_, rfl, _, _, _, [], _, [], hW', trodAll_mk1 (shut_bool Try.underlying4 _), (trodAll_cons_mk (Below.trod laidOut (by kernel_rfl) (of_decide_eq_true (by kernel_rfl)) k0 bel lt0) (trodAll_cons_mk (Below.trod laidOut (by kernel_rfl) (of_decide_eq_true (by kernel_rfl)) k1 bel lt1) trodAll_mk0)), rfl, bel.frame _, fun h => by cases h⟩

theorem over : Rows.fnTreesRow.holds Try.pinned (OpenSpec.ofChange Rows.fnTreesSpec) :=
  OpenClaim.holds_of_wide 3 Try.f3 rfl rfl rfl rfl rfl rfl rfl ⟨rfl, rfl, rfl, rfl, rfl⟩ rfl rfl rfl rfl rfl (by kernel_rfl) Try.func3 (by kernel_rfl)
    (of_decide_eq_true (by kernel_rfl)) (by unfold Func.isWrapper; first | (rw [if_pos (by decide +kernel)]; kernel_rfl) | (rw [if_neg (by decide +kernel)]; exact ⟨rfl, rfl⟩))
    (fun os started H enc _ => lifted os started H enc)

end Go.Proofs.Ytmapbkefndbnnaa.lTrees
namespace Go.Proofs.Ytmapbkefndbnnaa
/-- THE STATEMENT. -/
theorem trees_holds : Rows.FnTreesSaid := lTrees.over
#print axioms trees_holds
end Go.Proofs.Ytmapbkefndbnnaa
