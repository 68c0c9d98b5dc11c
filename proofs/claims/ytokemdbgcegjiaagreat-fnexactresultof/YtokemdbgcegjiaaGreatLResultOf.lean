/- FnExactResultOf answers true at every argument: ResultOf answers as the specification does, writes into no argument, and its answer owns its memory. No condition. -/
import Derived.Test.YtokemdbgcegjiaaGreatB09
import Derived.Test.YtokemdbgcegjiaaGreatB25
import Derived.Test.YtokemdbgcegjiaaGreatSRof
import Derived.Deep.RegionHeld3
namespace Go.Proofs.YtokemdbgcegjiaaGreat.lResultOf
open Go.RowKit Go.ChangeShapes Go.WideShapes Go.ChangeAt
set_option linter.unusedVariables false
attribute [local go_sem ↓] Go.wp_at_zero Go.wp_at_succ

set_option maxHeartbeats 4000000 in
set_option maxRecDepth 100000 in
theorem walk (a : Option Addr) (F : List Qd) (ca : Nat) (q : Int) (w : World) (hm : F.length ≤ maxLen) (hs : ∀ i, i < F.length → (qa F i).2.length ≤ maxLen) (ha : QSeg w a F) (hq : (Lit.int .i64 q).wf = true) :
    Calls Tryz.prog 5 #[.agg #[.slice a F.length ca], .int .i64 q] w fun e w' => e = .returned (.bool true) ∧ Below w.heap.size w w' := by
  unfold maxLen at hm hs
  have X0 := hid (Box1.new w (.slice a F.length ca) 61)
  have HC := hid (c_szForest a F ca _ (ha.below X0.out.2.2) hm hs)
  by_cases hT : totQ F ≤ 1048576
  · obtain ⟨hk, hl⟩ := totQ_kids hT
    have hz : (0 : Int) ≤ 1048576 - (totQ F : Int) := by omega
    have HPO := hid (show posF (nsF F) F.length ≤ 8388608 by rw [posF_tot]; omega)
    obtain ⟨hTl, hTk, hTp⟩ := ans_small (quadB F q 2) (resT F q.toNat) res_grows
    have HII := hid (fun (W : World) (aa : Option Addr) (h : QSeg W aa F) => c_iResultOf aa F F.length q W h hl hk (Nat.le_refl _) (by omega))
    have HSS := hid (fun (W : World) (aa : Option Addr) (h : QSeg W aa F) (h' : NoneCap W aa F) => c_sResultOf aa F F.length q W h hl hk (Nat.le_refl _) (by omega) h')
    generalize ansF (quadB F q 2) (resT F q.toNat) = TF at *
    generalize ansQ (quadB F q 2) (resT F q.toNat) = TQ at *
    generalize ansB (quadB F q 2) (resT F q.toNat) = TB at *
    have HTK := hid hTk
    have HTP := hid hTp
    clear hTk hTp
    rw [show leftQ F = 1048576 - (totQ F : Int) by simp [leftQ, hT]] at HC
    generalize 1048576 - (totQ F : Int) = T at *
    have HA := hid ha
    clear ha hs hm hT
    go_enter Tryz.func5, Tryz.ntmps5
    go_wp2_with fail
    refine HC.out.mono ?_
    rintro e w1 ⟨rfl, b⟩
    have X1 := hid (X0.out.step b)
    clear HC X0 b
    have x := X1.out.1
    go_wp2_with fail
    refine (c_toForest a F ca w1 (HA.out.below X1.out.2.2) hl hk).mono ?_
    rintro e w2 ⟨rfl, ⟨ks, r⟩, b⟩
    have X2 := hid (X1.out.step b)
    have R := hid r.seg
    have RN := hid r.noneCap
    clear X1 b r x
    go_wp2_with fail
    refine (HSS.out w2 _ R.out RN.out).mono ?_
    rintro e w3 ⟨wv, rfl, hW, b⟩
    have HWG := hid hW
    obtain ⟨wa, wc, rfl, _⟩ := hW.form
    have PW := hid (PS.new HWG.out b.size 25)
    have ba := (Below.refl w3.heap.size w3).alloc (Nat.le_refl _) (.cells #[.slice wa TF.length wc] 25)
    have X3 := hid ((X2.out.step b).step ba)
    have HS3 := hid (show (w3.alloc (.cells #[.slice wa TF.length wc] 25)).heap.size = w3.heap.size + 1 by simp)
    have HO1 := hid (⟨X2.out.2.1, b.size⟩ : w.heap.size < w2.heap.size ∧ w2.heap.size ≤ w3.heap.size)
    clear X2 b R RN hW HWG ba
    have x := X3.out.1
    go_wp2_with fail
    generalize w3.alloc (.cells #[.slice wa TF.length wc] 25) = W3 at *
    refine (c_toForest a F ca W3 (HA.out.below X3.out.2.2) hl hk).mono ?_
    rintro e w4 ⟨rfl, ⟨ks4, r⟩, b⟩
    have PX := hid (PF.new (r.own hl) (by have := r.row.lt; omega) 25)
    have ba := (Below.refl w4.heap.size w4).alloc (Nat.le_refl _) (.cells #[.slice (some ⟨W3.heap.size + 3, 0, none⟩) F.length F.length] 25)
    have b4 := b.trans (ba.mono b.size)
    have X5 := hid (X3.out.step b4)
    have R5 := hid (r.seg.below ba)
    replace PW := hid ((PS.kpt _ _ _ _).below PW.out b4)
    have HO2 := hid (show W3.heap.size + 3 ≤ w4.heap.size by have := r.row.lt; omega)
    have HS4 := hid (show (w4.alloc (.cells #[.slice (some ⟨W3.heap.size + 3, 0, none⟩) F.length F.length] 25)).heap.size = w4.heap.size + 1 by simp)
    clear X3 b r x b4 ba
    go_wp2_with fail
    generalize w4.alloc (.cells #[.slice (some ⟨W3.heap.size + 3, 0, none⟩) F.length F.length] 25) = W4 at *
    refine (HII.out W4 _ R5.out).mono ?_
    rintro e w5 ⟨gv, rfl, hG, b⟩
    have HGG := hid hG
    obtain ⟨ga, gc, rfl, _⟩ := hG.form
    have PG := hid (PF.new HGG.out b.size 25)
    have ba := (Below.refl w5.heap.size w5).alloc (Nat.le_refl _) (.cells #[.slice ga TF.length gc] 25)
    have b5 := b.trans (ba.mono b.size)
    have HO3 := hid (show w4.heap.size + 1 ≤ w5.heap.size by have := b.size; rw [HS4.out] at this; exact this)
    have N := hid (show LL w (w5.alloc (.cells #[.slice ga TF.length gc] 25)) (.slice a F.length ca) w2.heap.size (w3.heap.size + 1) (W3.heap.size + 3) (w4.heap.size + 1) W4.heap.size (w5.heap.size + 1) (fun W => PS W w2.heap.size w3.heap.size (.slice wa TF.length wc) TF) (fun W => PF W (W3.heap.size + 3) w4.heap.size (.slice (some ⟨W3.heap.size + 3, 0, none⟩) F.length F.length) F) (fun W => PF W W4.heap.size w5.heap.size (.slice ga TF.length gc) TF) from
      ⟨(X5.out.step b5).1, (PS.kpt _ _ _ _).below PW.out b5, (PF.kpt _ _ _ _).below PX.out b5, PG.out, PS.kpt _ _ _ _, PF.kpt _ _ _ _, PF.kpt _ _ _ _, (X5.out.step b5).2.2, (X5.out.step b5).2.1, by have := HO1.out; have := HO2.out; have := HO3.out; have := HS3.out; have := HS4.out; omega⟩)
    clear X5 PW PX R5 b hG HGG PG ba b5
    have d0 : (TQ != TQ) = false := by simp
    have d1 : (TB != TB) = false := by simp
    have y1 := N.out.pg.2.1
    have y2 := N.out.pw.2.1
    go_wp2_with fail
    generalize w5.alloc (.cells #[.slice ga TF.length gc] 25) = W5 at *
    refine (c_eqFS _ _ _ _ N.out.pg.1 N.out.pw.1.gf hTl HTK.out).mono ?_
    rintro e w6 ⟨rfl, b⟩
    replace N := hid (N.out.below b)
    clear b y1 y2
    have x := N.out.box
    have y := N.out.px.2.1
    have hx := N.out.lt
    have hy := N.out.px.2.2.1
    go_wp2_with fail
    have ND := hid (N.out.below ((Below.refl w6.heap.size w6).drew))
    go_region_held3 (fun W => W.cell? ⟨w.heap.size, 0, none⟩ = some (.slice a F.length ca) ∧ W.cell? ⟨w4.heap.size, 0, none⟩ = some (.slice (some ⟨W3.heap.size + 3, 0, none⟩) F.length F.length))
      (first | exact ⟨N.out.box, N.out.px.2.1⟩ | exact ⟨(N7.out).box, (N7.out).px.2.1⟩ | exact ⟨(N8.out).box, (N8.out).px.2.1⟩ | go_keep)
      (first
        | (go_at_call 39; refine (c_toForest a F ca _ (HA.out.below ND.out.bel) hl hk).mono ?_; rintro e w7 ⟨rfl, ⟨ks7, r7⟩, b7⟩; have N7 := hid (ND.out.below b7))
        | (go_at_call 40; refine (c_eqForest' _ _ F _ N7.out.px.1 (r7.own hl) hl hk).mono ?_; rintro e w8 ⟨rfl, b8⟩; have N8 := hid (N7.out.below b8)))
    replace N := hid N8.out
    clear N7 N8 ND b7 b8 r7 x y hx hy
    have y := N.out.px.2.1
    go_wp2_with fail
    refine (c_markForest _ F _ _ w8 N.out.px.1 HPO.out).mono ?_
    rintro e w9 ⟨rfl, hM, hGr⟩
    replace N := hid (N.out.markX (PX' := fun W => PF W (W3.heap.size + 3) w4.heap.size (.slice (some ⟨W3.heap.size + 3, 0, none⟩) F.length F.length) (markF F)) hGr (Nat.le_refl _) (by omega) (N.out.px.mark hGr hM) (PF.kpt _ _ _ _))
    clear hM hGr y
    have dk : ¬ (posF (nsF F) F.length : Int) < 0 := by omega
    generalize posF (nsF F) F.length = PK at *
    have y1 := N.out.pg.2.1
    have y2 := N.out.pw.2.1
    go_wp2_with fail
    refine (c_eqFS _ _ _ _ N.out.pg.1 N.out.pw.1.gf hTl HTK.out).mono ?_
    rintro e w10 ⟨rfl, b⟩
    replace N := hid (N.out.below b)
    clear b y1 y2
    have y1 := N.out.pg.2.1
    go_wp2_with fail
    refine (c_markForest _ TF _ _ w10 N.out.pg.1 HTP.out).mono ?_
    rintro e w11 ⟨rfl, hM, hGr⟩
    replace N := hid (N.out.markG (PG' := fun W => PF W W4.heap.size w5.heap.size (.slice ga TF.length gc) (markF TF)) hGr (Nat.le_refl _) (by omega) (N.out.pg.mark hGr hM) (PF.kpt _ _ _ _))
    clear hM hGr y1
    have HHE := hid (fun W h => c_heldForest (.slice ga TF.length gc) TF W4.heap.size w5.heap.size W h HTP.out)
    have dm : ¬ (posF (nsF TF) TF.length : Int) < 0 := by omega
    have dn : ((posF (nsF TF) TF.length : Int) != (posF (nsF TF) TF.length : Int)) = false := by simp
    generalize (posF (nsF TF) TF.length : Int) = M at *
    have y1 := N.out.pg.2.1
    go_wp2_with fail
    refine (HHE.out _ N.out.pg.1).mono ?_
    rintro e w12 ⟨rfl, b⟩
    replace N := hid (N.out.below b)
    clear b y1
    have x := N.out.box
    go_wp2_with fail
    refine (c_toForest a F ca _ (HA.out.below N.out.bel) hl hk).mono ?_
    rintro e w13 ⟨rfl, ⟨ks13, r⟩, b⟩
    replace N := hid (N.out.below b)
    have R13 := hid r.seg
    clear b r x
    go_wp2_with fail
    refine (HII.out _ _ R13.out).mono ?_
    rintro e w14 ⟨hv, rfl, hH, b⟩
    replace N := hid (N.out.below b)
    have HHG := hid hH
    obtain ⟨hha, hhc, rfl, _⟩ := hH.form
    have PH := hid (PF.new HHG.out b.size 25)
    replace N := hid (N.out.below ((Below.refl w14.heap.size w14).alloc (Nat.le_refl _) (.cells #[.slice hha TF.length hhc] 25)))
    clear b R13 hH HHG
    have y1 := PH.out.2.1
    have y2 := N.out.pw.2.1
    have l2 := N.out.pw.2.2.1
    go_wp2_with fail
    generalize w14.alloc (.cells #[.slice hha TF.length hhc] 25) = W14 at *
    refine (c_eqFS _ _ _ _ PH.out.1 N.out.pw.1.gf hTl HTK.out).mono ?_
    rintro e w15 ⟨rfl, b⟩
    replace N := hid (N.out.below b)
    clear b y1 y2 l2
    have y1 := N.out.pg.2.1
    go_wp2_with fail
    refine (HHE.out _ N.out.pg.1).mono ?_
    rintro e w16 ⟨rfl, b⟩
    replace N := hid (N.out.below b)
    go_wp2_with fail
    go_ret
    exact ⟨rfl, N.out.bel⟩
  · rw [show leftQ F = -1 by simp [leftQ, hT]] at HC
    go_enter Tryz.func5, Tryz.ntmps5
    go_wp2_with fail
    refine HC.out.mono ?_
    rintro e w1 ⟨rfl, b⟩
    clear HC
    go_wp2
    go_ret
    exact ⟨rfl, (X0.out.step b).2.2⟩

set_option maxRecDepth 100000 in
theorem lifted (os : Os) (started : os.Started) (H : Type) (enc : TypeId × Value → H) :
    ReturnsInHanded {} Tryz.checked os 5 .any (Rows.fnExactResultOfSpec.pre6 enc Tryz.prog Tryz.f5 Rows.fnExactResultOfRow.domain false) (Rows.fnExactResultOfSpec.post enc Tryz.prog Tryz.f5 false true false false) := by
  refine returnsInHanded_of_change (C := Tryz.checked) own started (by kernel_rfl) Tryz.func5
    (ChangeSpec.witness6 (enc := enc) (C := Tryz.checked) false ⟨#[], #[.agg #[.slice none 0 0], .int .i64 0], []⟩ 8 (by kernel_rfl) (by kernel_rfl) (by kernel_rfl) (by kernel_rfl)) ?_
  intro W base args ds gs before hval0 hW hcnd _
  have hval : ∀ (j : Nat) t v, Tryz.f5.params[j]? = some t → args[j]? = some v → Value.okWide Tryz.prog W .any base t v := hval0
  have hW' := hW
  obtain ⟨p, q, hA0, hV, rfl, hfz, hnd⟩ := hW
  have hA : DataW.TrodAll enc Tryz.prog W 0 (fun _ => true) true Tryz.f5.params.toList args.toList ds p := hA0
  rw [Tryz.params5] at hA hval
  obtain ⟨v0, vs0, d0, ds0, p0, q0, hargs, rfl, rfl, h0, r0⟩ := trodAll_cons hA
  obtain ⟨v1, vs1, d1, ds1, p1, q1, rfl, rfl, rfl, h1, r1⟩ := trodAll_cons r0
  obtain ⟨rfl, rfl, rfl⟩ := trodAll_nil r1
  obtain rfl : args = #[v0, v1] := by cases args; simp_all
  obtain ⟨rfl, rfl⟩ := trodVars_none hV
  have k0 := h0
  have lt0 : ∀ x ∈ p0, x.block < W.heap.size := by obtain ⟨m, hm⟩ := k0; exact DataW.trod_lt m _ _ _ hm
  obtain ⟨a0, F0, cap0, rfl, m0, f0, s0⟩ := open_forest (hval 0 61 v0 rfl rfl) h0
  have k1 := h1
  have lt1 : ∀ x ∈ p1, x.block < W.heap.size := by obtain ⟨m, hm⟩ := k1; exact DataW.trod_lt m _ _ _ hm
  obtain ⟨n1, rfl, w1⟩ : ∃ n : Int, v1 = .int .i64 n ∧ (Lit.int .i64 n).wf = true := open_num (hval 1 3 v1 rfl rfl) h1
  clear hA0 hval0
  refine (walk a0 F0 cap0 n1 W m0 f0 s0 w1).mono fun e W' ⟨he, bel⟩ => ?_
  subst he
  exact ⟨_, rfl, _, _, _, [], _, [], hW', trodAll_mk1 (shut_bool Tryz.underlying4 _), (trodAll_cons_mk (Below.trod laidOut (by kernel_rfl) (of_decide_eq_true (by kernel_rfl)) k0 bel lt0) (trodAll_cons_mk (Below.trod laidOut (by kernel_rfl) (of_decide_eq_true (by kernel_rfl)) k1 bel lt1) trodAll_mk0)), rfl, bel.frame _, fun h => by cases h⟩

theorem over : Rows.fnExactResultOfRow.holds Tryz.pinned (OpenSpec.ofChange Rows.fnExactResultOfSpec) :=
  OpenClaim.holds_of_wide 5 Tryz.f5 rfl rfl rfl rfl rfl rfl rfl ⟨rfl, rfl, rfl, rfl, rfl⟩ rfl rfl rfl rfl rfl (by kernel_rfl) Tryz.func5 (by kernel_rfl)
    (of_decide_eq_true (by kernel_rfl)) (by unfold Func.isWrapper; first | (rw [if_pos (by decide +kernel)]; kernel_rfl) | (rw [if_neg (by decide +kernel)]; exact ⟨rfl, rfl⟩))
    (fun os started H enc _ => lifted os started H enc)

end Go.Proofs.YtokemdbgcegjiaaGreat.lResultOf
namespace Go.Proofs.YtokemdbgcegjiaaGreat
/-- THE STATEMENT. -/
theorem resultOf_holds : Rows.FnExactResultOfSaid := lResultOf.over
#print axioms resultOf_holds
end Go.Proofs.YtokemdbgcegjiaaGreat
