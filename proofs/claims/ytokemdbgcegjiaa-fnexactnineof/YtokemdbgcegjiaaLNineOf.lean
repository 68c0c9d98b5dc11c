/- FnExactNineOf answers true at every argument: NineOf answers as the specification does, writes into no argument, and its answer owns its memory. No condition. -/
import Derived.Test.YtokemdbgcegjiaaKd
import Derived.Test.YtokemdbgcegjiaaKj
import Derived.Deep.RegionHeld3
namespace Go.Proofs.Ytokemdbgcegjiaa.lNineOf
open Go.RowKit Go.ChangeShapes Go.WideShapes Go.ChangeAt
set_option linter.unusedVariables false
attribute [local go_sem ↓] Go.wp_at_zero Go.wp_at_succ

theorem Kpt.wide {P : World → Prop} {lo hi lo' hi' : Nat} (h : Kpt P lo hi) (h1 : lo' ≤ lo) (h2 : hi ≤ hi') : Kpt P lo' hi' := fun W W' l' h' hp hg hd => h W W' l' h' hp hg (by omega)
theorem Kpt.and {P Q : World → Prop} {lo hi : Nat} (h : Kpt P lo hi) (k : Kpt Q lo hi) : Kpt (fun W => P W ∧ Q W) lo hi := fun W W' l' h' hp hg hd => ⟨h W W' l' h' hp.1 hg hd, k W W' l' h' hp.2 hg hd⟩
theorem c_heldIntsK (v : Value) (n : Nat) (k : Int) (w : World) {lo hi : Nat} (h : IOwn w lo hi v (marksI k n)) (hn : n ≤ 1048576) (k0 : 0 ≤ k) (k1 : k ≤ 16777216) :
    Calls Try.prog 18 #[v, .int .i64 k] w fun e w' => e = .returned (.int .i64 (k + (n : Int))) ∧ Below w.heap.size w w' := by
  obtain ⟨a, ca, rfl, hs⟩ := h.form
  rw [marksI_length]
  refine (c_heldInts a n ca k w hs (by omega) k0 k1).mono ?_
  rintro e w' ⟨rfl, rfl⟩
  exact ⟨rfl, Below.refl _ _⟩
set_option maxHeartbeats 8000000 in
set_option maxRecDepth 100000 in
theorem walk (a : Option Addr) (F : List Qd) (ca : Nat) (q : Int) (w : World) (hm : F.length ≤ maxLen) (hs : ∀ i, i < F.length → (qa F i).2.length ≤ maxLen) (ha : QSeg w a F) (hq : (Lit.int .i64 q).wf = true) :
    Calls Try.prog 4 #[.agg #[.slice a F.length ca], .int .i64 q] w fun e w' => e = .returned (.bool true) ∧ Below w.heap.size w w' := by
  unfold maxLen at hm hs
  have X0 := hid (Box1.new w (.slice a F.length ca) 27)
  have HC := hid (c_szForest a F ca _ (ha.below X0.out.2.2) hm hs)
  by_cases hT : totQ F ≤ 1048576
  · obtain ⟨hk, hl⟩ := totQ_kids hT
    have hz : (0 : Int) ≤ 1048576 - (totQ F : Int) := by omega
    have hz1 : 1048576 - (totQ F : Int) ≤ 1048576 := by omega
    rw [show leftQ F = 1048576 - (totQ F : Int) by simp [leftQ, hT]] at HC
    have HTT := hid hT
    generalize 1048576 - (totQ F : Int) = T at *
    have HPO := hid (show posF (nsF F) F.length ≤ 8388608 by rw [posF_tot]; have := HTT.out; omega)
    obtain ⟨⟨hTl, hTk, hTp⟩, hNl⟩ := nine_small F q
    have HII := hid (fun (W : World) (aa : Option Addr) (h : QSeg W aa F)  => c_iNineOf aa F F.length q W h hl hk (Nat.le_refl _) (by omega))
    have HSS := hid (fun (W : World) (aa : Option Addr) (h : QSeg W aa F) (h' : NoneCap W aa F) => c_sNineOf aa F F.length q W h hl hk (Nat.le_refl _) (by omega) h')
    generalize anF (nineOK F q) (nineR F q) = TF at *
    generalize anN (nineOK F q) (nineR F q) = TQ at *
    generalize anB (nineOK F q) (nineR F q) = TB at *
    have HTK := hid hTk
    have HTP := hid hTp
    have HNL := hid hNl
    clear hTk hTp hNl
    have HA := hid ha
    clear ha hs hm hT
    go_enter Try.func4, Try.ntmps4
    go_wp2_with fail
    refine HC.out.mono ?_
    rintro e w1 ⟨rfl, b⟩
    have X1 := hid (X0.out.step b)
    clear HC X0 b
    have x := X1.out.1
    go_wp2_with fail
    refine (c_toForest a F ca w1 (HA.out.below X1.out.2.2) hl hk).mono ?_
    rintro e w2 ⟨rfl, ⟨ks, r⟩, b⟩
    have X2 := hid (X1.out.step b)
    have R := hid r.seg
    have RN := hid r.noneCap
    clear X1 b r x
    go_wp2_with fail
    generalize hw2b : w2 = w2b at *
    clear hw2b
    refine (HSS.out w2b _ R.out RN.out).mono ?_
    rintro e w3 ⟨wv, wn, rfl, hW, hWN, b⟩
    have HWG := hid hW
    obtain ⟨wa, wc, rfl, _⟩ := hW.form
    have PW := hid (PS.new HWG.out b.size 31)
    have ba := (Below.refl w3.heap.size w3).alloc (Nat.le_refl _) (.cells #[.slice wa TF.length wc] 31)
    have PN := hid ((IOwn.kpt _ _ _ _).below hWN ba)
    have X3 := hid ((X2.out.step b).step ba)
    have HS3 := hid (show (w3.alloc (.cells #[.slice wa TF.length wc] 31)).heap.size = w3.heap.size + 1 by simp)
    have HO1 := hid (⟨X2.out.2.1, b.size⟩ : w.heap.size < w2b.heap.size ∧ w2b.heap.size ≤ w3.heap.size)
    clear X2 b R RN hW HWG ba hWN
    have x := X3.out.1
    go_wp2_with fail
    generalize w3.alloc (.cells #[.slice wa TF.length wc] 31) = W3 at *
    refine (c_toForest a F ca W3 (HA.out.below X3.out.2.2) hl hk).mono ?_
    rintro e w4 ⟨rfl, ⟨ks4, r⟩, b⟩
    have PX := hid (PF.new (r.own hl) (by have := r.row.lt; omega) 31)
    have ba := (Below.refl w4.heap.size w4).alloc (Nat.le_refl _) (.cells #[.slice (some ⟨W3.heap.size + 3, 0, none⟩) F.length F.length] 31)
    have b4 := b.trans (ba.mono b.size)
    have X5 := hid (X3.out.step b4)
    have R5 := hid (r.seg.below ba)
    replace PW := hid ((PS.kpt _ _ _ _).below PW.out b4)
    replace PN := hid ((IOwn.kpt _ _ _ _).below PN.out b4)
    have HO2 := hid (show W3.heap.size + 3 ≤ w4.heap.size by have := r.row.lt; omega)
    have HS4 := hid (show (w4.alloc (.cells #[.slice (some ⟨W3.heap.size + 3, 0, none⟩) F.length F.length] 31)).heap.size = w4.heap.size + 1 by simp)
    clear X3 b r x b4 ba
    go_wp2_with fail
    generalize w4.alloc (.cells #[.slice (some ⟨W3.heap.size + 3, 0, none⟩) F.length F.length] 31) = W4 at *
    have x := PX.out.2.1
    generalize hW4 : W4 = w4b at *
    clear hW4
    refine (HII.out w4b _ R5.out).mono ?_
    rintro e w5 ⟨gv, gn, mid, rfl, hG, hGN, hm1, hm2, b⟩
    clear x
    have HGG := hid hG
    obtain ⟨ga, gc, rfl, _⟩ := hG.form
    have PG := hid (PF.new HGG.out hm2 31)
    have ba := (Below.refl w5.heap.size w5).alloc (Nat.le_refl _) (.cells #[.slice ga TF.length gc] 31)
    have PGN := hid ((IOwn.kpt _ _ _ _).below hGN ba)
    have b5 := b.trans (ba.mono b.size)
    have HO3 := hid b.size
    have HM1 := hid hm1
    have HM2 := hid hm2
    have HZ5 := hid (show w4.heap.size + 1 ≤ w4b.heap.size by have := HS4.out; omega)
    have N := hid (show LL w (w5.alloc (.cells #[.slice ga TF.length gc] 31)) (.slice a F.length ca) w2b.heap.size (w3.heap.size + 1) (W3.heap.size + 3) w4b.heap.size w4b.heap.size (w5.heap.size + 1) (fun W => PS W w2b.heap.size w3.heap.size (.slice wa TF.length wc) TF ∧ IOwn W w2b.heap.size w3.heap.size wn TQ) (fun W => PF W (W3.heap.size + 3) w4.heap.size (.slice (some ⟨W3.heap.size + 3, 0, none⟩) F.length F.length) F) (fun W => PF W mid w5.heap.size (.slice ga TF.length gc) TF ∧ IOwn W w4b.heap.size mid gn TQ) from
      ⟨(X5.out.step b5).1, ⟨(PS.kpt _ _ _ _).below PW.out b5, (IOwn.kpt _ _ _ _).below PN.out b5⟩, (PF.kpt _ _ _ _).below PX.out b5, ⟨PG.out, PGN.out⟩, Kpt.and (PS.kpt _ _ _ _) (Kpt.wide (IOwn.kpt _ _ _ _) (Nat.le_refl _) (Nat.le_succ _)), Kpt.wide (PF.kpt _ _ _ _) (Nat.le_refl _) HZ5.out, Kpt.and (Kpt.wide (PF.kpt _ _ _ _) HM1.out (Nat.le_refl _)) (Kpt.wide (IOwn.kpt _ _ _ _) (Nat.le_refl _) (by have := HM2.out; omega)), (X5.out.step b5).2.2, (X5.out.step b5).2.1, by have := HO1.out; have := HO2.out; have := HO3.out; have := HS3.out; have := HS4.out; have := HZ5.out; omega⟩)
    clear X5 PW PX R5 b hG HGG PG ba b5 PN PGN hGN hm1 hm2
    have d1 : (TB != TB) = false := by simp
    have y1 := N.out.pg.1.2.1
    have y2 := N.out.pw.1.2.1
    go_wp2_with fail
    generalize w5.alloc (.cells #[.slice ga TF.length gc] 31) = W5 at *
    refine (c_eqFS _ _ _ _ N.out.pg.1.1 N.out.pw.1.1.gf hTl HTK.out).mono ?_
    rintro e w6 ⟨rfl, b⟩
    replace N := hid (N.out.below b)
    clear b y1 y2
    go_wp2_with fail
    refine (c_eqInts' _ _ TQ w6 N.out.pg.2 N.out.pw.2 (by have := HNL.out; omega)).mono ?_
    rintro e w6b ⟨rfl, b⟩
    replace N := hid (N.out.below b)
    clear b
    have x := N.out.box
    have y := N.out.px.2.1
    have hx := N.out.lt
    have hy := N.out.px.2.2.1
    go_wp2_with fail
    have ND := hid (N.out.below ((Below.refl w6b.heap.size w6b).drew))
    go_region_held3 (fun W => W.cell? ⟨w.heap.size, 0, none⟩ = some (.slice a F.length ca) ∧ W.cell? ⟨w4.heap.size, 0, none⟩ = some (.slice (some ⟨W3.heap.size + 3, 0, none⟩) F.length F.length))
      (first | exact ⟨N.out.box, (N.out).px.2.1⟩ | exact ⟨(N7.out).box, (N7.out).px.2.1⟩ | exact ⟨(N8.out).box, (N8.out).px.2.1⟩ | go_keep)
      (first
        | (go_at_call 11; refine (c_toForest a F ca _ (HA.out.below ND.out.bel) hl hk).mono ?_; rintro e w7 ⟨rfl, ⟨ks7, r7⟩, b7⟩; have N7 := hid (ND.out.below b7))
        | (go_at_call 13; refine (c_eqForest' _ _ F _ N7.out.px.1 (r7.own hl) hl hk).mono ?_; rintro e w8 ⟨rfl, b8⟩; have N8 := hid (N7.out.below b8)))
    replace N := hid N8.out
    clear N7 N8 ND b7 b8 r7 x y hx hy
    go_wp2_with fail
    have y := N.out.px.2.1
    go_wp2_with fail
    refine (c_markForest _ F _ _ w8 N.out.px.1 HPO.out).mono ?_
    rintro e w9b ⟨rfl, hM, hGr⟩
    replace N := hid (N.out.markX (PX' := fun W => PF W (W3.heap.size + 3) w4.heap.size (.slice (some ⟨W3.heap.size + 3, 0, none⟩) F.length F.length) (markF F)) hGr (Nat.le_refl _) (by have := HZ5.out; omega) (N.out.px.mark hGr hM) (Kpt.wide (PF.kpt _ _ _ _) (Nat.le_refl _) HZ5.out))
    clear hM hGr y
    have dk : ¬ (posF (nsF F) F.length : Int) < 0 := by omega
    generalize posF (nsF F) F.length = PK at *
    have y1 := N.out.pg.1.2.1
    have y2 := N.out.pw.1.2.1
    go_wp2_with fail
    refine (c_eqFS _ _ _ _ N.out.pg.1.1 N.out.pw.1.1.gf hTl HTK.out).mono ?_
    rintro e w10 ⟨rfl, b⟩
    replace N := hid (N.out.below b)
    clear b y1 y2
    go_wp2_with fail
    refine (c_eqInts' _ _ TQ w10 N.out.pg.2 N.out.pw.2 (by have := HNL.out; omega)).mono ?_
    rintro e w10b ⟨rfl, b⟩
    replace N := hid (N.out.below b)
    clear b
    have y1 := N.out.pg.1.2.1
    go_wp2_with fail
    refine (c_markForest _ TF _ _ w10b N.out.pg.1.1 HTP.out).mono ?_
    rintro e w11 ⟨rfl, hM, hGr⟩
    replace N := hid (N.out.markG (PG' := fun W => PF W mid w5.heap.size (.slice ga TF.length gc) (markF TF) ∧ IOwn W w4b.heap.size mid gn TQ) hGr HM1.out (by omega) ⟨N.out.pg.1.mark hGr hM, IOwn.kpt _ _ _ _ _ _ _ _ N.out.pg.2 hGr (by omega)⟩ (Kpt.and (Kpt.wide (PF.kpt _ _ _ _) HM1.out (Nat.le_refl _)) (Kpt.wide (IOwn.kpt _ _ _ _) (Nat.le_refl _) (by have := HM2.out; omega))))
    clear hM hGr y1
    have HHE := hid (fun W h => c_heldForest (.slice ga TF.length gc) TF mid w5.heap.size W h HTP.out)
    have HTP2 := HTP.out
    generalize hM0 : (posF (nsF TF) TF.length : Int) = M0 at *
    have hM1 : 0 ≤ M0 := by omega
    have hM2 : M0 ≤ 8388608 := by omega
    clear hM0 HTP2
    go_wp2_with fail
    refine (c_markInts' _ TQ M0 w11 N.out.pg.2 (by have := HNL.out; omega) hM1 (by omega)).mono ?_
    rintro e w11b ⟨rfl, hM, hGr⟩
    replace N := hid (N.out.markG (PG' := fun W => PF W mid w5.heap.size (.slice ga TF.length gc) (markF TF) ∧ IOwn W w4b.heap.size mid gn (marksI M0 TQ.length)) hGr (Nat.le_refl _) (by have := HM2.out; omega) ⟨PF.kpt _ _ _ _ _ _ _ _ N.out.pg.1 hGr (by omega), hM⟩ (Kpt.and (Kpt.wide (PF.kpt _ _ _ _) HM1.out (Nat.le_refl _)) (Kpt.wide (IOwn.kpt _ _ _ _) (Nat.le_refl _) (by have := HM2.out; omega))))
    clear hM hGr
    have HHI := hid (fun W h => c_heldIntsK gn TQ.length M0 W (lo := w4b.heap.size) (hi := mid) h (by have := HNL.out; omega) hM1 (by omega))
    have dm0 : ¬ M0 < 0 := by omega
    have dm : ¬ M0 + (TQ.length : Int) < 0 := by omega
    have dn : ((M0 + (TQ.length : Int)) != (M0 + (TQ.length : Int))) = false := by simp
    generalize M0 + (TQ.length : Int) = M at *
    have y1 := N.out.pg.1.2.1
    go_wp2_with fail
    refine (HHE.out _ N.out.pg.1.1).mono ?_
    rintro e w12 ⟨rfl, b⟩
    replace N := hid (N.out.below b)
    clear b y1
    go_wp2_with fail
    refine (HHI.out _ N.out.pg.2).mono ?_
    rintro e w12b ⟨rfl, b⟩
    replace N := hid (N.out.below b)
    clear b
    have x := N.out.box
    go_wp2_with fail
    refine (c_toForest a F ca _ (HA.out.below N.out.bel) hl hk).mono ?_
    rintro e w13 ⟨rfl, ⟨ks13, r⟩, b⟩
    replace N := hid (N.out.below b)
    have R13 := hid r.seg
    clear b r x
    go_wp2_with fail
    refine (HII.out _ _ R13.out).mono ?_
    rintro e w14 ⟨hv, hn, hmid, rfl, hH, hHN, hk1, hk2, b⟩
    replace N := hid (N.out.below b)
    have HHG := hid hH
    obtain ⟨hha, hhc, rfl, _⟩ := hH.form
    have PH := hid (PF.new HHG.out hk2 31)
    have ba := (Below.refl w14.heap.size w14).alloc (Nat.le_refl _) (.cells #[.slice hha TF.length hhc] 31)
    have PHN := hid ((IOwn.kpt _ _ _ _).below hHN ba)
    replace N := hid (N.out.below ba)
    clear b R13 hH HHG ba hHN
    have y1 := PH.out.2.1
    have y2 := N.out.pw.1.2.1
    have l2 := N.out.pw.1.2.2.1
    go_wp2_with fail
    generalize w14.alloc (.cells #[.slice hha TF.length hhc] 31) = W14 at *
    refine (c_eqFS _ _ _ _ PH.out.1 N.out.pw.1.1.gf hTl HTK.out).mono ?_
    rintro e w15 ⟨rfl, b⟩
    replace N := hid (N.out.below b)
    replace PHN := hid ((IOwn.kpt _ _ _ _).below PHN.out b)
    clear b y1 y2 l2
    go_wp2_with fail
    refine (c_eqInts' _ _ TQ w15 PHN.out N.out.pw.2 (by have := HNL.out; omega)).mono ?_
    rintro e w15b ⟨rfl, b⟩
    replace N := hid (N.out.below b)
    clear b
    have y1 := N.out.pg.1.2.1
    go_wp2_with fail
    refine (HHE.out _ N.out.pg.1.1).mono ?_
    rintro e w16 ⟨rfl, b⟩
    replace N := hid (N.out.below b)
    clear b y1
    go_wp2_with fail
    refine (HHI.out _ N.out.pg.2).mono ?_
    rintro e w16b ⟨rfl, b⟩
    replace N := hid (N.out.below b)
    go_wp2_with fail
    go_ret
    exact ⟨rfl, N.out.bel⟩
  · rw [show leftQ F = -1 by simp [leftQ, hT]] at HC
    go_enter Try.func4, Try.ntmps4
    go_wp2_with fail
    refine HC.out.mono ?_
    rintro e w1 ⟨rfl, b⟩
    clear HC
    go_wp2
    go_ret
    exact ⟨rfl, (X0.out.step b).2.2⟩

set_option maxRecDepth 100000 in
theorem lifted (os : Os) (started : os.Started) (H : Type) (enc : TypeId × Value → H) :
    ReturnsInHanded {} Try.checked os 4 .any (Rows.fnExactNineOfSpec.pre6 enc Try.prog Try.f4 Rows.fnExactNineOfRow.domain false) (Rows.fnExactNineOfSpec.post enc Try.prog Try.f4 false true false false) := by
  refine returnsInHanded_of_change (C := Try.checked) own started (by kernel_rfl) Try.func4
    (ChangeSpec.witness6 (enc := enc) (C := Try.checked) false ⟨#[], #[.agg #[.slice none 0 0], .int .i64 0], []⟩ 8 (by kernel_rfl) (by kernel_rfl) (by kernel_rfl) (by kernel_rfl)) ?_
  intro W base args ds gs before hval0 hW hcnd _
  have hval : ∀ (j : Nat) t v, Try.f4.params[j]? = some t → args[j]? = some v → Value.okWide Try.prog W .any base t v := hval0
  have hW' := hW
  obtain ⟨p, q, hA0, hV, rfl, hfz, hnd⟩ := hW
  have hA : DataW.TrodAll enc Try.prog W 0 (fun _ => true) true Try.f4.params.toList args.toList ds p := hA0
  rw [Try.params4] at hA hval
  obtain ⟨v0, vs0, d0, ds0, p0, q0, hargs, rfl, rfl, h0, r0⟩ := trodAll_cons hA
  obtain ⟨v1, vs1, d1, ds1, p1, q1, rfl, rfl, rfl, h1, r1⟩ := trodAll_cons r0
  obtain ⟨rfl, rfl, rfl⟩ := trodAll_nil r1
  obtain rfl : args = #[v0, v1] := by cases args; simp_all
  obtain ⟨rfl, rfl⟩ := trodVars_none hV
  have k0 := h0
  have lt0 : ∀ x ∈ p0, x.block < W.heap.size := by obtain ⟨m, hm⟩ := k0; exact DataW.trod_lt m _ _ _ hm
  obtain ⟨a0, F0, cap0, rfl, m0, f0, s0⟩ := open_forest (hval 0 27 v0 rfl rfl) h0
  have k1 := h1
  have lt1 : ∀ x ∈ p1, x.block < W.heap.size := by obtain ⟨m, hm⟩ := k1; exact DataW.trod_lt m _ _ _ hm
  obtain ⟨n1, rfl, w1⟩ : ∃ n : Int, v1 = .int .i64 n ∧ (Lit.int .i64 n).wf = true := open_num (hval 1 3 v1 rfl rfl) h1
  clear hA0 hval0
  refine (walk a0 F0 cap0 n1 W m0 f0 s0 w1).mono fun e W' ⟨he, bel⟩ => ?_
  subst he
  exact ⟨_, rfl, _, _, _, [], _, [], hW', trodAll_mk1 (shut_bool Try.underlying4 _), (trodAll_cons_mk (Below.trod laidOut (by kernel_rfl) (of_decide_eq_true (by kernel_rfl)) k0 bel lt0) (trodAll_cons_mk (Below.trod laidOut (by kernel_rfl) (of_decide_eq_true (by kernel_rfl)) k1 bel lt1) trodAll_mk0)), rfl, bel.frame _, fun h => by cases h⟩

theorem over : Rows.fnExactNineOfRow.holds Try.pinned (OpenSpec.ofChange Rows.fnExactNineOfSpec) :=
  OpenClaim.holds_of_wide 4 Try.f4 rfl rfl rfl rfl rfl rfl rfl ⟨rfl, rfl, rfl, rfl, rfl⟩ rfl rfl rfl rfl rfl (by kernel_rfl) Try.func4 (by kernel_rfl)
    (of_decide_eq_true (by kernel_rfl)) (by unfold Func.isWrapper; first | (rw [if_pos (by decide +kernel)]; kernel_rfl) | (rw [if_neg (by decide +kernel)]; exact ⟨rfl, rfl⟩))
    (fun os started H enc _ => lifted os started H enc)

end Go.Proofs.Ytokemdbgcegjiaa.lNineOf
namespace Go.Proofs.Ytokemdbgcegjiaa
/-- THE STATEMENT. -/
theorem nineOf_holds : Rows.FnExactNineOfSaid := lNineOf.over
#print axioms nineOf_holds
end Go.Proofs.Ytokemdbgcegjiaa
