/- FnExactSafeIn answers true at every argument: SafeIn answers as the specification does, writes into no argument, and its answer owns its memory. No condition. -/
import Derived.Test.YtokemdbgcegjiaaKd
import Derived.Test.YtokemdbgcegjiaaISafe
import Derived.Deep.RegionHeld3
namespace Go.Proofs.Ytokemdbgcegjiaa.lSafeIn
open Go.RowKit Go.ChangeShapes Go.WideShapes Go.ChangeAt
set_option linter.unusedVariables false
attribute [local go_sem ↓] Go.wp_at_zero Go.wp_at_succ

set_option maxHeartbeats 4000000 in
set_option maxRecDepth 100000 in
theorem walk (a : Option Addr) (F : List Qd) (ca : Nat) (q s : Int) (w : World) (hm : F.length ≤ maxLen) (hs : ∀ i, i < F.length → (qa F i).2.length ≤ maxLen) (ha : QSeg w a F) (hq : (Lit.int .i64 q).wf = true) (hs64 : (Lit.int .i64 s).wf = true) :
    Calls Try.prog 6 #[.agg #[.slice a F.length ca], .int .i64 q, .int .i64 s] w fun e w' => e = .returned (.bool true) ∧ Below w.heap.size w w' := by
  unfold maxLen at hm hs
  have X0 := hid (Box1.new w (.slice a F.length ca) 27)
  have HC := hid (c_szForest a F ca _ (ha.below X0.out.2.2) hm hs)
  by_cases hT : totQ F ≤ 1048576
  · obtain ⟨hk, hl⟩ := totQ_kids hT
    have hz : (0 : Int) ≤ 1048576 - (totQ F : Int) := by omega
    have HPO := hid (show posF (nsF F) F.length ≤ 8388608 by rw [posF_tot]; omega)
    have HVL := hid (safV_le F q s)
    rw [show leftQ F = 1048576 - (totQ F : Int) by simp [leftQ, hT]] at HC
    generalize 1048576 - (totQ F : Int) = T at *
    have HA := hid ha
    clear ha hs hm hT
    go_enter Try.func6, Try.ntmps6
    go_wp2_with fail
    refine HC.out.mono ?_
    rintro e w1 ⟨rfl, b⟩
    have X1 := hid (X0.out.step b)
    clear HC X0 b
    have x := X1.out.1
    go_wp2_with fail
    refine (c_toForest a F ca w1 (HA.out.below X1.out.2.2) hl hk).mono ?_
    rintro e w2 ⟨rfl, ⟨ks, r⟩, b⟩
    have X2 := hid (X1.out.step b)
    have R := hid r.seg
    clear X1 b r x
    go_wp2_with fail
    refine (c_sSafeIn _ F F.length q s w2 R.out hl hk (Nat.le_refl _) (by omega)).mono ?_
    rintro e w3 ⟨wv, rfl, hW, b⟩
    have X3 := hid (X2.out.step b)
    have HW := hid (OwnR.of hW)
    have HSW := hid (⟨X2.out.2.1, b.size⟩ : w.heap.size < w2.heap.size ∧ w2.heap.size ≤ w3.heap.size)
    clear X2 b R hW
    have x := X3.out.1
    go_wp2_with fail
    refine (c_toForest a F ca w3 (HA.out.below X3.out.2.2) hl hk).mono ?_
    rintro e w4 ⟨rfl, ⟨ks4, r⟩, b⟩
    have b4 := b.trans (((Below.refl w4.heap.size w4).alloc (Nat.le_refl _) (.cells #[.slice (some ⟨w3.heap.size + 3, 0, none⟩) F.length F.length] 31)).mono b.size)
    have hs4 : (w4.alloc (.cells #[.slice (some ⟨w3.heap.size + 3, 0, none⟩) F.length F.length] 31)).heap.size = w4.heap.size + 1 := by simp
    have PX := hid (PF.new (r.own hl) (by have := r.row.lt; omega) 31)
    have X5 := hid (X3.out.step b4)
    have R5 := hid (r.seg.below ((Below.refl w4.heap.size w4).alloc (Nat.le_refl _) (.cells #[.slice (some ⟨w3.heap.size + 3, 0, none⟩) F.length F.length] 31)))
    replace HW := hid ((OwnR.kpt _ _ _ _).below HW.out b4)
    have HL5 := hid (⟨b.size, by have := r.row.lt; omega⟩ : w3.heap.size ≤ w4.heap.size ∧ w3.heap.size + 3 ≤ w4.heap.size)
    have HS4 := hid hs4
    clear X3 b r x b4 hs4
    have HG := hid (c_iSafeIn _ F F.length q s _ R5.out hl hk (Nat.le_refl _) (by omega))
    go_wp2_with fail
    refine HG.out.mono ?_
    rintro e w5 ⟨gv, rfl, hG, b⟩
    have HSG := hid (show w4.heap.size + 1 ≤ w5.heap.size by have := b.size; rw [HS4.out] at this; exact this)
    rw [HS4.out] at hG
    have N := hid (show LL w w5 (.slice a F.length ca) w2.heap.size w3.heap.size (w3.heap.size + 3) (w4.heap.size + 1) (w4.heap.size + 1) w5.heap.size (fun W => OwnR W w2.heap.size w3.heap.size wv (safV F q s)) (fun W => PF W (w3.heap.size + 3) w4.heap.size (.slice (some ⟨w3.heap.size + 3, 0, none⟩) F.length F.length) F) (fun W => OwnR W (w4.heap.size + 1) w5.heap.size gv (safV F q s)) from
      ⟨(X5.out.step b).1, (OwnR.kpt _ _ _ _).below HW.out b, (PF.kpt _ _ _ _).below PX.out b, OwnR.of hG, OwnR.kpt _ _ _ _, PF.kpt _ _ _ _, OwnR.kpt _ _ _ _, (X5.out.step b).2.2, (X5.out.step b).2.1, by have := HSW.out; have := HL5.out; have := HSG.out; omega⟩)
    clear HG X5 HW PX R5 b hG HS4
    have HII := hid (fun (W : World) (aa : Option Addr) (h : QSeg W aa F) => c_iSafeIn aa F F.length q s W h hl hk (Nat.le_refl _) (by omega))
    generalize safOK F q s = tb at *
    have d1 : (tb != tb) = false := by simp
    go_wp2_with fail
    refine (c_eqCells' _ _ _ _ N.out.pg N.out.pw HVL.out).mono ?_
    rintro e w6 ⟨rfl, b⟩
    replace N := hid (N.out.below b)
    clear b
    have x := N.out.box
    have y := N.out.px.2.1
    have hx := N.out.lt
    have hy := N.out.px.2.2.1
    go_wp2_with fail
    have hd : decide (F = F) = true := by simp
    have ND := hid (N.out.below ((Below.refl w6.heap.size w6).drew))
    go_region_held3 (fun W => W.cell? ⟨w.heap.size, 0, none⟩ = some (.slice a F.length ca) ∧ W.cell? ⟨w4.heap.size, 0, none⟩ = some (.slice (some ⟨w3.heap.size + 3, 0, none⟩) F.length F.length))
      (first | exact ⟨N.out.box, N.out.px.2.1⟩ | exact ⟨(N7.out).box, (N7.out).px.2.1⟩ | exact ⟨(N8.out).box, (N8.out).px.2.1⟩ | go_keep)
      (first
        | (go_at_call 11; refine (c_toForest a F ca _ (HA.out.below ND.out.bel) hl hk).mono ?_; rintro e w7 ⟨rfl, ⟨ks7, r7⟩, b7⟩; have N7 := hid (ND.out.below b7); have S7 := hid r7.seg; have R7 := hid (N7.out.px.1.form))
        | (go_at_call 13; refine (c_eqForest' _ _ F _ N7.out.px.1 (r7.own hl) hl hk).mono ?_; rintro e w8 ⟨rfl, b8⟩; have N8 := hid (N7.out.below b8)))
    replace N := hid N8.out
    clear N7 N8 ND b7 b8 r7 S7 R7 x y hx hy
    have y := N.out.px.2.1
    go_wp2_with fail
    refine (c_markForest _ F _ _ w8 N.out.px.1 HPO.out).mono ?_
    rintro e w9 ⟨rfl, hM, hGr⟩
    replace N := hid (N.out.markX (PX' := fun W => PF W (w3.heap.size + 3) w4.heap.size (.slice (some ⟨w3.heap.size + 3, 0, none⟩) F.length F.length) (markF F)) hGr (Nat.le_refl _) (by omega) (N.out.px.mark hGr hM) (PF.kpt _ _ _ _))
    clear hM hGr y
    have dk : ¬ (posF (nsF F) F.length : Int) < 0 := by omega
    generalize posF (nsF F) F.length = PK at *
    go_wp2_with fail
    refine (c_eqCells' _ _ _ _ N.out.pg N.out.pw HVL.out).mono ?_
    rintro e w10 ⟨rfl, b⟩
    replace N := hid (N.out.below b)
    clear b
    go_wp2_with fail
    refine (c_markCells' _ _ _ N.out.pg HVL.out).mono ?_
    rintro e w11 ⟨rfl, hM, hGr⟩
    replace N := hid (N.out.markG (PG' := fun W => OwnR W (w4.heap.size + 1) w5.heap.size gv (marks 1 (safV F q s).length)) hGr (Nat.le_refl _) (Nat.le_refl _) hM (OwnR.kpt _ _ _ _))
    clear hM hGr
    have HHE := hid (fun W h => c_heldCells' gv (safV F q s).length W (lo := w4.heap.size + 1) (hi := w5.heap.size) h HVL.out)
    have dm : ¬ (1 + 2 * ((safV F q s).length : Int)) < 0 := by omega
    have dn : ((1 + 2 * ((safV F q s).length : Int)) != (1 + 2 * ((safV F q s).length : Int))) = false := by simp
    generalize hTOT : 1 + 2 * ((safV F q s).length : Int) = M at *
    clear hTOT
    go_wp2_with fail
    refine (HHE.out _ N.out.pg).mono ?_
    rintro e w12 ⟨rfl, b⟩
    replace N := hid (N.out.below b)
    clear b
    have x := N.out.box
    go_wp2_with fail
    refine (c_toForest a F ca _ (HA.out.below N.out.bel) hl hk).mono ?_
    rintro e w13 ⟨rfl, ⟨ks13, r⟩, b⟩
    replace N := hid (N.out.below b)
    have R13 := hid r.seg
    clear b r x
    go_wp2_with fail
    refine (HII.out _ _ R13.out).mono ?_
    rintro e w14 ⟨hv, rfl, hH, b⟩
    replace N := hid (N.out.below b)
    have HHV := hid (OwnR.of hH)
    clear b R13 hH
    go_wp2_with fail
    refine (c_eqCells' _ _ _ _ HHV.out N.out.pw HVL.out).mono ?_
    rintro e w15 ⟨rfl, b⟩
    replace N := hid (N.out.below b)
    clear b
    go_wp2_with fail
    refine (HHE.out _ N.out.pg).mono ?_
    rintro e w16 ⟨rfl, b⟩
    replace N := hid (N.out.below b)
    go_wp2_with fail
    go_ret
    exact ⟨rfl, N.out.bel⟩
  · rw [show leftQ F = -1 by simp [leftQ, hT]] at HC
    go_enter Try.func6, Try.ntmps6
    go_wp2_with fail
    refine HC.out.mono ?_
    rintro e w1 ⟨rfl, b⟩
    clear HC
    go_wp2
    go_ret
    exact ⟨rfl, (X0.out.step b).2.2⟩

set_option maxRecDepth 100000 in
theorem lifted (os : Os) (started : os.Started) (H : Type) (enc : TypeId × Value → H) :
    ReturnsInHanded {} Try.checked os 6 .any (Rows.fnExactSafeInSpec.pre6 enc Try.prog Try.f6 Rows.fnExactSafeInRow.domain false) (Rows.fnExactSafeInSpec.post enc Try.prog Try.f6 false true false false) := by
  refine returnsInHanded_of_change (C := Try.checked) own started (by kernel_rfl) Try.func6
    (ChangeSpec.witness6 (enc := enc) (C := Try.checked) false ⟨#[], #[.agg #[.slice none 0 0], .int .i64 0, .int .i64 0], []⟩ 8 (by kernel_rfl) (by kernel_rfl) (by kernel_rfl) (by kernel_rfl)) ?_
  intro W base args ds gs before hval0 hW hcnd _
  have hval : ∀ (j : Nat) t v, Try.f6.params[j]? = some t → args[j]? = some v → Value.okWide Try.prog W .any base t v := hval0
  have hW' := hW
  obtain ⟨p, q, hA0, hV, rfl, hfz, hnd⟩ := hW
  have hA : DataW.TrodAll enc Try.prog W 0 (fun _ => true) true Try.f6.params.toList args.toList ds p := hA0
  rw [Try.params6] at hA hval
  obtain ⟨v0, vs0, d0, ds0, p0, q0, hargs, rfl, rfl, h0, r0⟩ := trodAll_cons hA
  obtain ⟨v1, vs1, d1, ds1, p1, q1, rfl, rfl, rfl, h1, r1⟩ := trodAll_cons r0
  obtain ⟨v2, vs2, d2, ds2, p2, q2, rfl, rfl, rfl, h2, r2⟩ := trodAll_cons r1
  obtain ⟨rfl, rfl, rfl⟩ := trodAll_nil r2
  obtain rfl : args = #[v0, v1, v2] := by cases args; simp_all
  obtain ⟨rfl, rfl⟩ := trodVars_none hV
  have k0 := h0
  have lt0 : ∀ x ∈ p0, x.block < W.heap.size := by obtain ⟨m, hm⟩ := k0; exact DataW.trod_lt m _ _ _ hm
  obtain ⟨a0, F0, cap0, rfl, m0, f0, s0⟩ := open_forest (hval 0 27 v0 rfl rfl) h0
  have k1 := h1
  have lt1 : ∀ x ∈ p1, x.block < W.heap.size := by obtain ⟨m, hm⟩ := k1; exact DataW.trod_lt m _ _ _ hm
  obtain ⟨n1, rfl, w1⟩ : ∃ n : Int, v1 = .int .i64 n ∧ (Lit.int .i64 n).wf = true := open_num (hval 1 3 v1 rfl rfl) h1
  have k2 := h2
  have lt2 : ∀ x ∈ p2, x.block < W.heap.size := by obtain ⟨m, hm⟩ := k2; exact DataW.trod_lt m _ _ _ hm
  obtain ⟨n2, rfl, w2⟩ : ∃ n : Int, v2 = .int .i64 n ∧ (Lit.int .i64 n).wf = true := open_num (hval 2 3 v2 rfl rfl) h2
  clear hA0 hval0
  refine (walk a0 F0 cap0 n1 n2 W m0 f0 s0 w1 w2).mono fun e W' ⟨he, bel⟩ => ?_
  subst he
  exact ⟨_, rfl, _, _, _, [], _, [], hW', trodAll_mk1 (shut_bool Try.underlying4 _), (trodAll_cons_mk (Below.trod laidOut (by kernel_rfl) (of_decide_eq_true (by kernel_rfl)) k0 bel lt0) (trodAll_cons_mk (Below.trod laidOut (by kernel_rfl) (of_decide_eq_true (by kernel_rfl)) k1 bel lt1) (trodAll_cons_mk (Below.trod laidOut (by kernel_rfl) (of_decide_eq_true (by kernel_rfl)) k2 bel lt2) trodAll_mk0))), rfl, bel.frame _, fun h => by cases h⟩

theorem over : Rows.fnExactSafeInRow.holds Try.pinned (OpenSpec.ofChange Rows.fnExactSafeInSpec) :=
  OpenClaim.holds_of_wide 6 Try.f6 rfl rfl rfl rfl rfl rfl rfl ⟨rfl, rfl, rfl, rfl, rfl⟩ rfl rfl rfl rfl rfl (by kernel_rfl) Try.func6 (by kernel_rfl)
    (of_decide_eq_true (by kernel_rfl)) (by unfold Func.isWrapper; first | (rw [if_pos (by decide +kernel)]; kernel_rfl) | (rw [if_neg (by decide +kernel)]; exact ⟨rfl, rfl⟩))
    (fun os started H enc _ => lifted os started H enc)

end Go.Proofs.Ytokemdbgcegjiaa.lSafeIn
namespace Go.Proofs.Ytokemdbgcegjiaa
/-- THE STATEMENT. -/
theorem safeIn_holds : Rows.FnExactSafeInSaid := lSafeIn.over
#print axioms safeIn_holds
end Go.Proofs.Ytokemdbgcegjiaa
