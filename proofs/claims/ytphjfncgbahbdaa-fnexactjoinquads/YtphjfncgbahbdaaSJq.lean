/- What the specification's JoinQuads answers. -/
import Derived.Test.YtphjfncgbahbdaaJq
namespace Go.Proofs.Ytphjfncgbahbdaa
open Go.RowKit Go.Maps
set_option linter.unusedVariables false
set_option linter.unusedSimpArgs false
attribute [local go_sem ↓] Go.wp_at_zero Go.wp_at_succ

set_option maxHeartbeats 4000000 in
set_option maxRecDepth 100000 in
theorem c_sJoinQuads (a : Option Addr) (F : List Qd) (ca : Nat) (la : Option Addr) (l : List Int) (lca : Nat) (w : World) (ha : QSeg w a F) (hl : F.length ≤ 1048576) (hk : KidsLe F) (hca : F.length ≤ ca) (hcm : ca ≤ 9223372036854775807) (hnc : NoneCap w a F) (hL : ISeg w la l) (hLl : l.length ≤ 1048576) :
    Calls Try.prog 21 #[.agg #[.slice a F.length ca], .slice la l.length lca] w fun e w' => ∃ u, e = .returned (.tuple #[.agg #[u], .int .i64 (jqQ F l), .bool (jqB F l)]) ∧ GF w' w.heap.size u (jqF F l) ∧ Below w.heap.size w w' := by
  obtain ⟨W1, hW1⟩ : ∃ W1, W1 = w.alloc (.cells #[.slice a F.length ca] 24) := ⟨_, rfl⟩
  have X1 := Box1.new w (.slice a F.length ca) 24
  rw [← hW1] at X1
  have hb2 := (Below.refl W1.heap.size W1).alloc (Nat.le_refl _) (.cells #[.slice none 0 0] 24)
  have X2 := X1.step hb2
  have R2 := one_row (heap_alloc_new W1 (.cells #[.slice none 0 0] 24))
  have s1 : W1.heap.size = w.heap.size + 1 := by rw [hW1]; simp
  rw [s1] at R2
  have s2 : (W1.alloc (.cells #[.slice none 0 0] 24)).heap.size = w.heap.size + 1 + 1 := by simp [s1]
  rw [hW1] at X2 R2 s2
  have HX := hid X2
  have HR := hid R2
  have HSZ := hid s2
  clear X1 X2 R2 s1 s2 hb2 hW1
  clear W1
  have x0 := HX.out.1
  have HQ := hid (ha.below HX.out.2.2)
  have HL2 := hid (hL.below HX.out.2.2)
  have HNC := hid (hnc.below ha HX.out.2.2)
  have HQ0 := hid ha
  have HL0 := hid hL
  clear ha hL hnc
  have fin : ∀ W : World, Below w.heap.size w W → ∃ u, Ending.returned (.tuple #[.agg #[.slice none 0 0], .int .i64 0, .bool false]) = .returned (.tuple #[.agg #[u], .int .i64 0, .bool false]) ∧ GF W w.heap.size u [] ∧ Below w.heap.size w W := fun W h => ⟨_, rfl, GF.nil _ _, h⟩
  cases hg : goodF F
  · have HC := hid (c_sGoodForest' a F ca false hg _ HQ.out hl hk hca hcm)
    have HV : Hid (jqF F l = [] ∧ jqQ F l = 0 ∧ jqB F l = false) := by simp [Hid, jqF, jqQ, jqB, jqOK, hg]
    clear hg x0
    go_enter Try.func21, Try.ntmps21
    go_wp2_with fail
    refine HC.out.mono ?_
    rintro e w3 ⟨rfl, hb⟩
    have R3 := hid (HR.out.of_block (hb.block _ HR.out.lt))
    have X3 := hid (HX.out.step hb)
    have x0 := X3.out.1
    clear HC hb
    have HBB := hid (Below.refl w3.heap.size w3)
    have R9 := R3.out.of_block (HBB.out.block _ R3.out.lt)
    have r0 := R9.cell (i := 0) (by omega)
    have f0 := R9.frozen 0
    have E0 := hid ((R9.set 0 (.slice none 0 0)).cell (i := 0) (by omega))
    simp only [if_true] at E0
    have HB := hid ((X3.out.step HBB.out).2.2.setCell (p := ⟨w.heap.size + 1, 0, none⟩) (by dsimp only; omega) (.slice none 0 0))
    clear R9 R3 X3 HBB
    go_wp2_with fail
    rw [HV.out.1, HV.out.2.1, HV.out.2.2]
    exact bodyPost_ret (v := .tuple #[.agg #[.slice none 0 0], .int .i64 0, .bool false]) (by simp [results, Try.results21, go_sem, E0.out]) rfl (fin _ HB.out)
  · have HC := hid (c_sGoodForest' a F ca true hg _ HQ.out hl hk hca hcm)
    have HG := hid hg
    have hg2 := good_len2 hg
    by_cases h4 : l.length = 4
    · have d4 : ((l.length : Int) != 4) = false := by simp [h4]
      have H4 := hid h4
      cases hall : allIn l 0 ((F.length : Int) - 1)
      · have HV : Hid (jqF F l = [] ∧ jqQ F l = 0 ∧ jqB F l = false) := by simp [Hid, jqF, jqQ, jqB, jqOK, canJ_no_all h4 hall]
        have HE := hid (fun W h => c_l1All' la l lca 0 ((F.length : Int) - 1) false hall W h hLl)
        clear h4 hall x0
        go_enter Try.func21, Try.ntmps21
        go_wp2_with fail
        refine HC.out.mono ?_
        rintro e w3 ⟨rfl, hb⟩
        have R3 := hid (HR.out.of_block (hb.block _ HR.out.lt))
        have X3 := hid (HX.out.step hb)
        have x0 := X3.out.1
        have L3 := hid (HL2.out.below hb)
        clear HC hb
        go_wp2_with fail
        refine (HE.out _ L3.out).mono ?_
        rintro e w5 ⟨rfl, hb⟩
        have HBB := hid hb
        clear hb HE x0
        have R9 := R3.out.of_block (HBB.out.block _ R3.out.lt)
        have r0 := R9.cell (i := 0) (by omega)
        have f0 := R9.frozen 0
        have E0 := hid ((R9.set 0 (.slice none 0 0)).cell (i := 0) (by omega))
        simp only [if_true] at E0
        have HB := hid ((X3.out.step HBB.out).2.2.setCell (p := ⟨w.heap.size + 1, 0, none⟩) (by dsimp only; omega) (.slice none 0 0))
        clear R9 R3 X3 HBB
        go_wp2_with fail
        rw [HV.out.1, HV.out.2.1, HV.out.2.2]
        exact bodyPost_ret (v := .tuple #[.agg #[.slice none 0 0], .int .i64 0, .bool false]) (by simp [results, Try.results21, go_sem, E0.out]) rfl (fin _ HB.out)
      · have HE := hid (fun W h => c_l1All' la l lca 0 ((F.length : Int) - 1) true hall W h hLl)
        have HAL := hid hall
        obtain ⟨bk, ok, rfl, hbk, kc0⟩ := HL0.out 0 (by omega)
        rw [Nat.add_zero] at kc0
        have HKC := hid kc0
        clear h4 hall x0 kc0
        go_enter Try.func21, Try.ntmps21
        go_wp2_with fail
        refine HC.out.mono ?_
        rintro e w3 ⟨rfl, hb⟩
        have R3 := hid (HR.out.of_block (hb.block _ HR.out.lt))
        have X3 := hid (HX.out.step hb)
        have x0 := X3.out.1
        have L3 := hid (HL2.out.below hb)
        have Q3 := hid (HQ.out.below hb)
        have N3 := hid (HNC.out.below HQ.out hb)
        clear HC hb HX HR HL2 HQ HNC
        go_wp2_with fail
        refine (HE.out _ L3.out).mono ?_
        rintro e w5 ⟨rfl, hb⟩
        have R5 := hid (R3.out.of_block (hb.block _ R3.out.lt))
        have X5 := hid (X3.out.step hb)
        have Q5 := hid (Q3.out.below hb)
        have N5 := hid (N3.out.below Q3.out hb)
        clear hb R3 X3 L3 Q3 N3 x0 HE
        go_wp2_with fail
        go_loopw [30] (fun i wr => ∃ k : Nat, k ≤ l.length ∧ i = .int .i64 k ∧ Hid (allB (okK F l) k = true) ∧ Hid (Below w5.heap.size w5 wr)) (fun i _ => l.length - (intOf i).toNat)
        case atStart => exact ⟨0, Nat.zero_le _, rfl, (rfl : _ = _), Below.refl _ _⟩
        case round =>
          obtain ⟨k, hkk, rfl, HT, HBW⟩ := hrel
          have h4' := H4.out
          by_cases hlt : k < l.length
          · have hk4 : k < 4 := by omega
            clear h4'
            obtain ⟨bk2, ok2, e2, hbk2, kck⟩ := HL0.out k hlt
            simp only [Option.some.injEq, Addr.mk.injEq, and_true] at e2
            obtain ⟨rfl, rfl⟩ := e2
            have hbd := inB_bd (allB_iff.1 HAL.out k hlt)
            have hbd0 := inB_bd (allB_iff.1 HAL.out 0 (by omega))
            have BW := hid (X5.out.2.2.trans (HBW.out.mono X5.out.2.2.size))
            have kk := (BW.out.cell (p := ⟨bk, ok + k, none⟩) hbk).trans kck
            have kz := (BW.out.cell (p := ⟨bk, ok, none⟩) hbk).trans HKC.out
            have hbw : bk < wr.heap.size := Nat.lt_of_lt_of_le hbk BW.out.size
            obtain ⟨b1, o1, ak, ck, e1, hb1, p1, _⟩ := HQ0.out (ia l k).toNat (by omega)
            obtain ⟨b1', o1', ak', ck', e1', hb1', p1', _⟩ := HQ0.out (ia l 0).toNat (by omega)
            rw [e1] at e1'
            simp only [Option.some.injEq, Addr.mk.injEq, and_true] at e1'
            obtain ⟨rfl, rfl⟩ := e1'
            subst e1
            have hbq : b1 < wr.heap.size := Nat.lt_of_lt_of_le hb1 BW.out.size
            have q1 := (BW.out.cell (p := ⟨b1, o1 + (ia l k).toNat * 2, none⟩) hb1).trans p1
            have q2 := (BW.out.cell (p := ⟨b1, o1 + (ia l 0).toNat * 2, none⟩) hb1).trans p1'
            have x5 := (X5.out.step HBW.out).1
            have lx5 := (X5.out.step HBW.out).2.1
            have hne := Gr.ne wr
            have g0 := fun G' : Gr wr => G'.cell x5 lx5
            have g1 := fun G' : Gr wr => G'.cell kz hbw
            have g2 := fun G' : Gr wr => G'.cell q1 hbq
            have g3 := fun G' : Gr wr => G'.cell q2 hbq
            have k0 : (0 : Int) ≤ (k : Int) := by omega
            have k1 : (k : Int) < (l.length : Int) := by omega
            have kl0 : (0 : Int) < (l.length : Int) := by omega
            have i0 : 0 ≤ ia l k := hbd.1
            have i1 : ia l k < (F.length : Int) := by omega
            have i2 : 0 ≤ ia l 0 := hbd0.1
            have i3 : ia l 0 < (F.length : Int) := by omega
            have HS := hid (allB_succ (okK F l) k)
            have HNO := hid (fun h => canJ_no_ok (F := F) (l := l) hk4 h)
            have HOK := hid (show okK F l k = (decide ((qa F (ia l k).toNat).1 = (qa F (ia l 0).toNat).1) && decide ((qa F (ia l k).toNat).1 < 5)) from rfl)
            clear p1 p1' kck q1 q2 kz x5 hbd hbd0
            by_cases hv : (qa F (ia l k).toNat).1 = (qa F (ia l 0).toNat).1
            · have d1 : ((qa F (ia l k).toNat).1 != (qa F (ia l 0).toNat).1) = false := by simp [hv]
              by_cases hv5 : (qa F (ia l k).toNat).1 < 5
              · have d2 : decide (5 ≤ (qa F (ia l k).toNat).1) = false := decide_eq_false (by omega)
                have HV := hid (show allB (okK F l) (k + 1) = true by rw [HS.out, HT.out, HOK.out]; simp [hv, hv5]; omega)
                clear HS HNO HOK hv
                go_wp2_with fail
                refine wp_region_gr (by kernel_rfl) (by kernel_rfl) ?_
                repeat (go_big_quiet_step (fail))
                refine wpQuiet_nil ?_
                rintro _ ⟨G', rfl⟩
                clear g0 g1 g2 g3
                go_wp2_with fail
                go_roundw
                case rel => exact ⟨k + 1, by omega, by go_num, HV.out, HBW.out.trans (G'.below.mono HBW.out.size)⟩
                case measure => simp [intOf]; omega
              · have d2 : decide (5 ≤ (qa F (ia l k).toNat).1) = true := decide_eq_true (by omega)
                have HCN := hid (HNO.out (by rw [HOK.out, decide_eq_false hv5, Bool.and_false]))
                have HV : Hid (jqF F l = [] ∧ jqQ F l = 0 ∧ jqB F l = false) := by simp [Hid, jqF, jqQ, jqB, jqOK, HCN.out]
                clear HS HNO HOK hv
                go_wp2_with fail
                refine wp_region_gr (by kernel_rfl) (by kernel_rfl) ?_
                repeat (go_big_quiet_step (fail))
                refine wpQuiet_nil ?_
                rintro _ ⟨G', rfl⟩
                clear g0 g1 g2 g3
                have HBB := hid (HBW.out.trans (G'.below.mono HBW.out.size))
                have R3 := hid R5.out
                have X3 := hid X5.out
                have R9 := R3.out.of_block (HBB.out.block _ R3.out.lt)
                have r0 := R9.cell (i := 0) (by omega)
                have f0 := R9.frozen 0
                have E0 := hid ((R9.set 0 (.slice none 0 0)).cell (i := 0) (by omega))
                simp only [if_true] at E0
                have HB := hid ((X3.out.step HBB.out).2.2.setCell (p := ⟨w.heap.size + 1, 0, none⟩) (by dsimp only; omega) (.slice none 0 0))
                clear R9 R3 X3 HBB
                go_wp2_with fail
                rw [HV.out.1, HV.out.2.1, HV.out.2.2]
                exact bodyPost_ret (v := .tuple #[.agg #[.slice none 0 0], .int .i64 0, .bool false]) (by simp [results, Try.results21, go_sem, E0.out]) rfl (fin _ HB.out)
            · have d1 : ((qa F (ia l k).toNat).1 != (qa F (ia l 0).toNat).1) = true := by simp [hv]
              have HCN := hid (HNO.out (by rw [HOK.out, decide_eq_false hv, Bool.false_and]))
              have HV : Hid (jqF F l = [] ∧ jqQ F l = 0 ∧ jqB F l = false) := by simp [Hid, jqF, jqQ, jqB, jqOK, HCN.out]
              clear HS HNO HOK hv
              go_wp2_with fail
              refine wp_region_gr (by kernel_rfl) (by kernel_rfl) ?_
              repeat (go_big_quiet_step (fail))
              refine wpQuiet_nil ?_
              rintro _ ⟨G', rfl⟩
              clear g0 g1 g2 g3
              have HBB := hid (HBW.out.trans (G'.below.mono HBW.out.size))
              have R3 := hid R5.out
              have X3 := hid X5.out
              have R9 := R3.out.of_block (HBB.out.block _ R3.out.lt)
              have r0 := R9.cell (i := 0) (by omega)
              have f0 := R9.frozen 0
              have E0 := hid ((R9.set 0 (.slice none 0 0)).cell (i := 0) (by omega))
              simp only [if_true] at E0
              have HB := hid ((X3.out.step HBB.out).2.2.setCell (p := ⟨w.heap.size + 1, 0, none⟩) (by dsimp only; omega) (.slice none 0 0))
              clear R9 R3 X3 HBB
              go_wp2_with fail
              rw [HV.out.1, HV.out.2.1, HV.out.2.2]
              exact bodyPost_ret (v := .tuple #[.agg #[.slice none 0 0], .int .i64 0, .bool false]) (by simp [results, Try.results21, go_sem, E0.out]) rfl (fin _ HB.out)
          · have hk4 : k = 4 := by omega
            have hT4 : allB (okK F l) 4 = true := by rw [← hk4]; exact HT.out
            have HCA := hid (canJ_of h4' HAL.out hT4)
            have kge : ¬ (k : Int) < (l.length : Int) := by omega
            clear hk4 hT4
            have hlv := canJ_lev HCA.out
            have HV : Hid (jqF F l = tellF (joinF F l).1 ∧ jqQ F l = tellQ (joinF F l).1 ((joinF F l).2 : Int) ∧ jqB F l = tellB (joinF F l).1) := by simp [Hid, jqF, jqQ, jqB, jqOK, HCA.out, HG.out, h4']
            have HGR := hid (good_grows HG.out)
            have HKJ := hid (fun j hj => (hlv j hj).1)
            have hj0 := (hlv 0 (by omega)).1
            have hlv0 := lev_nonneg HG.out (q := (ia l 0).toNat) (by omega)
            have HJG := hid (joinF_grows (good_grows HG.out) h4' (fun j hj => (hlv j hj).1) (hlv 0 (by omega)).2.2)
            have HJL := hid (joinF_len F l)
            obtain ⟨_, _, e1, _, kc1⟩ := HL0.out 1 (by omega)
            obtain ⟨_, _, e2, _, kc2⟩ := HL0.out 2 (by omega)
            obtain ⟨_, _, e3, _, kc3⟩ := HL0.out 3 (by omega)
            simp only [Option.some.injEq, Addr.mk.injEq, and_true] at e1 e2 e3
            obtain ⟨rfl, rfl⟩ := e1
            obtain ⟨rfl, rfl⟩ := e2
            obtain ⟨rfl, rfl⟩ := e3
            have HKS := hid (fun (W : World) (h : Below w.heap.size w W) => (⟨(h.cell (p := ⟨bk, ok, none⟩) hbk).trans HKC.out, (h.cell (p := ⟨bk, ok + 1, none⟩) hbk).trans kc1, (h.cell (p := ⟨bk, ok + 2, none⟩) hbk).trans kc2, (h.cell (p := ⟨bk, ok + 3, none⟩) hbk).trans kc3⟩ : W.cell? ⟨bk, ok, none⟩ = some (.int .i64 (ia l 0)) ∧ W.cell? ⟨bk, ok + 1, none⟩ = some (.int .i64 (ia l 1)) ∧ W.cell? ⟨bk, ok + 2, none⟩ = some (.int .i64 (ia l 2)) ∧ W.cell? ⟨bk, ok + 3, none⟩ = some (.int .i64 (ia l 3))))
            have R6 := hid (R5.out.of_block (HBW.out.block _ R5.out.lt))
            have X6 := hid (X5.out.step HBW.out)
            have Q6 := hid (Q5.out.below HBW.out)
            have N6 := hid (N5.out.below Q5.out HBW.out)
            have kl0 : (0 : Int) < (l.length : Int) := by omega
            have kl1 : (1 : Int) < (l.length : Int) := by omega
            have kl2 : (2 : Int) < (l.length : Int) := by omega
            have kl3 : (3 : Int) < (l.length : Int) := by omega
            have H4L := hid h4'
            clear kc1 kc2 kc3 hlv HT HBW R5 X5 Q5 N5 h4' hlt
            have x0 := X6.out.1
            go_wp2_with fail
            refine (c_l3Own a F ca wr Q6.out hl hk N6.out).mono ?_
            rintro e w6 ⟨u, rfl, hG6, hb6⟩
            have HG6 := hid hG6
            obtain ⟨ua, uc, rfl, _⟩ := hG6.form
            have hb7 := (Below.refl w6.heap.size w6).alloc (Nat.le_refl _) (.cells #[.slice ua F.length uc, .bool false] 74)
            have hSF : SF (w6.alloc (.cells #[.slice ua F.length uc, .bool false] 74)) wr.heap.size w6.heap.size (.slice ua F.length uc) F := by
              refine ⟨HG6.out.below hb7, (two_row (heap_alloc_new _ _)).congr fun j hj => ?_, hb6.size⟩
              rcases (show j = 0 ∨ j = 1 by omega) with rfl | rfl
              · simp
              · simp; omega
            have HSF := hid hSF
            have B7 := hid (hb6.trans (hb7.mono hb6.size))
            clear hG6 HG6 hb6 hb7 hSF x0
            go_wp2_with fail
            generalize w6.alloc (.cells #[.slice ua F.length uc, .bool false] 74) = W7 at *
            have hbD := (Below.refl W7.heap.size W7).drew
            have HSD := hid (HSF.out.below hbD)
            have BD := hid (B7.out.trans (hbD.mono B7.out.size))
            have HBD := hid (X6.out.2.2.trans (BD.out.mono X6.out.2.2.size))
            have hS0 := HKS.out _ HBD.out
            clear hbD
            rw [H4L.out]
            go_region_held3 (fun W => W.cell? ⟨bk, ok, none⟩ = some (.int .i64 (ia l 0)) ∧ W.cell? ⟨bk, ok + 1, none⟩ = some (.int .i64 (ia l 1)) ∧ W.cell? ⟨bk, ok + 2, none⟩ = some (.int .i64 (ia l 2)) ∧ W.cell? ⟨bk, ok + 3, none⟩ = some (.int .i64 (ia l 3)))
              (first | exact HKS.out _ HBD.out | exact HKS.out _ HBS.out | exact HKS.out _ HBT.out | exact HKS.out _ HBJ.out | go_keep)
              (first
                | (go_at_call 57; refine (c_sjoin l H4L.out _ HSD.out (by omega) hk hj0.1 hj0.2 (by omega) (by omega)).mono ?_; rintro e w8 ⟨v8, rfl, hS8, hb8, _⟩; have HS8 := hid hS8; have B8 := hid (BD.out.trans hb8); have HBJ := hid (X6.out.2.2.trans (B8.out.mono X6.out.2.2.size)); clear hS8 hb8)
                | (go_at_call 56; refine (c_tell ((joinF F l).2 : Int) _ HS8.out (by have := HJL.out; omega) HJG.out.kidsLe).mono ?_; rintro e w9 ⟨u9, rfl, hG9, hb9⟩; have HG9 := hid hG9; obtain ⟨ua9, uc9, rfl, _⟩ := hG9.form; have B9 := hid (B8.out.trans (hb9.mono B8.out.size)); have HBT := hid (X6.out.2.2.trans (B9.out.mono X6.out.2.2.size)); have R9 := hid (R6.out.of_block (B9.out.block _ R6.out.lt)); have r0 := R9.out.cell (i := 0) (by omega); have f0 := R9.out.frozen 0; have HBS := hid (HBT.out.setCell (p := ⟨w.heap.size + 1, 0, none⟩) (by dsimp only; omega) (.slice ua9 (tellF (joinF F l).1).length uc9)); have HZ9 := hid hb9.size; clear hG9 hb9))
            have E0 := hid ((R9.out.set 0 (.slice ua9 (tellF (joinF F l).1).length uc9)).cell (i := 0) (by omega))
            simp only [if_true] at E0
            have HGF := hid ((HG9.out.setRow (o := 0) R9.out (by decide) (by decide) (.slice ua9 (tellF (joinF F l).1).length uc9)).mono (show w.heap.size ≤ _ from Nat.le_trans X6.out.2.2.size B8.out.size))
            clear HG9 R9 r0 f0 HBT
            go_wp2_with fail
            rw [HV.out.1, HV.out.2.1, HV.out.2.2]
            exact bodyPost_ret (v := .tuple #[.agg #[.slice ua9 (tellF (joinF F l).1).length uc9], .int .i64 (tellQ (joinF F l).1 ((joinF F l).2 : Int)), .bool (tellB (joinF F l).1)]) (by simp [results, Try.results21, go_sem, E0.out]) rfl ⟨_, rfl, HGF.out, HBS.out⟩
    · have d4 : ((l.length : Int) != 4) = true := by simp; omega
      have HV : Hid (jqF F l = [] ∧ jqQ F l = 0 ∧ jqB F l = false) := by simp [Hid, jqF, jqQ, jqB, jqOK, h4]
      clear x0
      go_enter Try.func21, Try.ntmps21
      go_wp2_with fail
      refine HC.out.mono ?_
      rintro e w3 ⟨rfl, hb⟩
      have R3 := hid (HR.out.of_block (hb.block _ HR.out.lt))
      have X3 := hid (HX.out.step hb)
      have x0 := X3.out.1
      clear HC hb
      have HBB := hid (Below.refl w3.heap.size w3)
      have R9 := R3.out.of_block (HBB.out.block _ R3.out.lt)
      have r0 := R9.cell (i := 0) (by omega)
      have f0 := R9.frozen 0
      have E0 := hid ((R9.set 0 (.slice none 0 0)).cell (i := 0) (by omega))
      simp only [if_true] at E0
      have HB := hid ((X3.out.step HBB.out).2.2.setCell (p := ⟨w.heap.size + 1, 0, none⟩) (by dsimp only; omega) (.slice none 0 0))
      clear R9 R3 X3 HBB
      go_wp2_with fail
      rw [HV.out.1, HV.out.2.1, HV.out.2.2]
      exact bodyPost_ret (v := .tuple #[.agg #[.slice none 0 0], .int .i64 0, .bool false]) (by simp [results, Try.results21, go_sem, E0.out]) rfl (fin _ HB.out)

end Go.Proofs.Ytphjfncgbahbdaa
