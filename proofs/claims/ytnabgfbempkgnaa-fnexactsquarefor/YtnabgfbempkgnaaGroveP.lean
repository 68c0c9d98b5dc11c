/- What groveOf and the program's GoodForest answer. -/
import Derived.Test.YtnabgfbempkgnaaGroveO
namespace Go.Proofs.Ytnabgfbempkgnaa
open Go.RowKit Go.Maps
set_option linter.unusedVariables false
set_option linter.unusedSimpArgs false
attribute [local go_sem ↓] Go.wp_at_zero Go.wp_at_succ

theorem c_canJoin' (l : List Int) (v : Bool) {G : List Qd} (hv : canJ G l = v) (w : World) {base p g cap mb : Nat} (h : Grv w base p g cap mb G) (hG : G.length ≤ 1048576) :
    Calls Try.prog 94 #[.pointer (some ⟨p, 0, none⟩), kv l] w fun e w' => e = .returned (.bool v) ∧ Below w.heap.size w w' := by
  rw [← hv]; exact c_canJoin l w h hG

theorem canJ_in {G : List Qd} {l : List Int} (h : canJ G l = true) : ∀ i, i < 4 → 0 ≤ ia l i ∧ ia l i ≤ (G.length : Int) - 1 := by
  intro i hi
  simp only [canJ, Bool.and_eq_true] at h
  have := allB_iff.1 h.1 i hi
  simp only [kidB, Bool.and_eq_true] at this
  exact inB_bd this.1
theorem arr_at (ad : Option Addr) (n ck : Nat) (h : 4 ≤ n) (w : World) : (Instr.arrayAt 99 (.slice ad n ck)).run Try.prog w = .ok (.pointer ad) w := by
  have h' : ¬ n < 4 := by omega
  simp [Instr.arrayAt, run_underlying und_four, Result.andThen, h']

/-- What groveOf tells: a grove of the forest, or nothing. -/
def GOut (F : List Qd) (w w' : World) (pv : Value) : Prop :=
  (goodF F = true ∧ ∃ p g cap mb base, w.heap.size ≤ base ∧ pv = .pointer (some ⟨p, 0, none⟩) ∧ Grv w' base p g cap mb F) ∨ (goodF F = false ∧ pv = .pointer none)
theorem goodF_short {F : List Qd} (h : F.length < 2 ∨ 400 < F.length) : goodF F = false := by
  have : inB 2 400 (F.length : Int) = false := by
    unfold inB
    rcases h with h | h
    · rw [decide_eq_false (by omega)]; rfl
    · rw [decide_eq_false (show ¬ (F.length : Int) ≤ 400 by omega)]; simp
  simp [goodF, this]
theorem goodF_low {F : List Qd} (h : allB (fineQ F) 2 = false) (hl : 2 ≤ F.length) : goodF F = false := by
  have : allB (fineQ F) F.length = false := by
    cases e : allB (fineQ F) F.length
    · rfl
    · have : allB (fineQ F) 2 = true := allB_iff.2 fun i hi => allB_iff.1 e i (by omega)
      rw [h] at this; cases this
  simp [goodF, this]
theorem goodF_all {F : List Qd} (h : allB (fineQ F) F.length = true) (h2 : 2 ≤ F.length) (h4 : F.length ≤ 400) : goodF F = true := by
  have : inB 2 400 (F.length : Int) = true := by simp [inB]; omega
  simp [goodF, this, h]

set_option maxHeartbeats 8000000 in
set_option maxRecDepth 100000 in
theorem c_groveOf (a : Option Addr) (F : List Qd) (ca : Nat) (w : World) (ha : QSeg w a F) (hl : F.length ≤ 1048576) (hk : KidsLe F) (hca : F.length ≤ ca) (hcm : ca ≤ 9223372036854775807) :
    Calls Try.prog 74 #[.agg #[.slice a F.length ca]] w fun e w' => ∃ pv, e = .returned (.tuple #[pv, .bool (goodF F)]) ∧ GOut F w w' pv ∧ Below w.heap.size w w' := by
  have BX := hid (Box1.new w (.slice a F.length ca) 69)
  by_cases h2 : F.length < 2
  · have d2 : decide ((F.length : Int) < 2) = true := decide_eq_true (by omega)
    have HG := hid (goodF_short (.inl h2))
    go_enter Try.func74, Try.ntmps74
    go_wp2
    go_ret2
    exact ⟨.pointer none, by rw [HG.out]; rfl, .inr ⟨HG.out, rfl⟩, BX.out.2.2⟩
  · have d2 : decide ((F.length : Int) < 2) = false := decide_eq_false (by omega)
    by_cases h4 : 400 < F.length
    · have d4 : decide ((400 : Int) < (F.length : Int)) = true := decide_eq_true (by omega)
      have HG := hid (goodF_short (.inr h4))
      go_enter Try.func74, Try.ntmps74
      go_wp2
      go_ret2
      exact ⟨.pointer none, by rw [HG.out]; rfl, .inr ⟨HG.out, rfl⟩, BX.out.2.2⟩
    · have d4 : decide ((400 : Int) < (F.length : Int)) = false := decide_eq_false (by omega)
      obtain ⟨b1, o1, _, _, rfl, hb1, _⟩ := ha 0 (by omega)
      have ca2 : (2 : Int) ≤ (ca : Int) := by omega
      cases hlow : allB (fineQ F) 2
      · have HG := hid (goodF_low hlow (by omega))
        have HC := hid (c_areCellKinds' (some ⟨b1, o1, none⟩) F ca false hlow _ (ha.below BX.out.2.2) (by omega))
        clear ha hlow
        go_enter Try.func74, Try.ntmps74
        go_wp2_with fail
        refine HC.out.mono ?_
        rintro e w1 ⟨rfl, hb⟩
        clear HC
        go_wp2
        go_ret2
        exact ⟨.pointer none, by rw [HG.out]; rfl, .inr ⟨HG.out, rfl⟩, (BX.out.step hb).2.2⟩
      · have HC := hid (c_areCellKinds' (some ⟨b1, o1, none⟩) F ca true hlow _ (ha.below BX.out.2.2) (by omega))
        have HLO := hid hlow
        have HT2 := hid (take_two hlow (by omega))
        have HQ := hid ha
        have HK := hid hk
        clear ha hlow hk
        go_enter Try.func74, Try.ntmps74
        go_wp2_with fail
        refine HC.out.mono ?_
        rintro e w1 ⟨rfl, hb⟩
        have BX1 := hid (BX.out.step hb)
        clear HC hb BX
        go_wp2_with fail
        refine (c_newGrove w1).mono ?_
        rintro e w2 ⟨rfl, hGr, hb⟩
        have BX2 := hid (BX1.out.step hb)
        have HGR := hid hGr
        have HS1 := hid BX1.out.2.1
        clear hb BX1 hGr
        have x0 := BX2.out.1
        by_cases hc2 : ca = 2
        · have hF2 : F.length = 2 := by omega
          have HGF := hid (goodF_all (F := F) (by rw [hF2]; exact HLO.out) (by omega) (by omega))
          have HTT := hid (show F = two by rw [← HT2.out, ← hF2, List.take_length])
          have HF2 := hid hF2
          go_wp2
          go_loopw [30] (fun i wr => i = .int .i64 0 ∧ wr = w2) (fun i _ => 0)
          case atStart => exact ⟨rfl, rfl⟩
          case round =>
            obtain ⟨rfl, rfl⟩ := hrel
            go_wp2
            go_ret2
            refine ⟨.pointer (some ⟨w1.heap.size + 2, 0, none⟩), by rw [HGF.out]; rfl, .inl ⟨HGF.out, w1.heap.size + 2, w1.heap.size, 2, w1.heap.size + 1, w1.heap.size, by have := HS1.out; omega, rfl, ?_⟩, BX2.out.2.2⟩
            rw [HTT.out]; exact HGR.out
        · have HG0 : Hid (Grv w2 w1.heap.size (w1.heap.size + 2) w1.heap.size 2 (w1.heap.size + 1) (F.take 2)) := by show Grv _ _ _ _ _ _ _; rw [HT2.out]; exact HGR.out
          have HB2 := hid BX2.out.2.2
          clear HGR BX2
          go_wp2
          go_loopw [30] (fun i wr => ∃ (j g cap : Nat), j + 2 ≤ F.length ∧ i = .int .i64 j ∧ Hid (allB (fineQ F) (j + 2) = true) ∧ Hid (Grv wr w1.heap.size (w1.heap.size + 2) g cap (w1.heap.size + 1) (F.take (j + 2))) ∧ Hid (Below w.heap.size w wr)) (fun i _ => F.length - (intOf i).toNat)
          case atStart => exact ⟨0, w1.heap.size, 2, by omega, rfl, HLO.out, HG0.out, HB2.out⟩
          case round =>
            clear HG0 HB2 HLO HT2 x0
            obtain ⟨j, g, cap, hjj, rfl, hT, HGR, HB⟩ := hrel
            have hw12 := HS1.out
            by_cases hlt : j + 2 < F.length
            · obtain ⟨b2, o2, ak, ck, e2, hb2, p1, p2, p3, p4⟩ := HQ.out (j + 2) hlt
              simp only [Option.some.injEq, Addr.mk.injEq, and_true] at e2
              obtain ⟨rfl, rfl⟩ := e2
              have hbel := HB.out
              have g1 := (hbel.cell (p := ⟨b1, o1 + (j + 2) * 2, none⟩) hb2).trans p1
              have g2 := (hbel.cell (p := ⟨b1, o1 + (j + 2) * 2 + 1, none⟩) hb2).trans p2
              rw [show o1 + (j + 2) * 2 = o1 + 4 + j * 2 by omega] at g1 g2
              have P3 := hid (p3.below hbel)
              clear p1 p2 p3 hbel
              have k0 : (0 : Int) ≤ (j : Int) := by omega
              have k1 : (j : Int) < ((F.length - 2 : Nat) : Int) := by omega
              have HN := hid (fun h => goodF_no (F := F) hlt h)
              have HS := hid (allB_succ (fineQ F) (j + 2))
              have HFC := hid (fun h => fine_can (F := F) (k := j + 2) (by omega) hlt hT.out h)
              have HTS := hid (take_snocQ hlt)
              have HGL := hid (fun i hi => good_lev (F := F) (k := j + 2) (i := i) hT.out hi)
              have hkk' := HK.out (j + 2) hlt
              have HTL := hid (show (F.take (j + 2)).length = j + 2 by simp; omega)
              have HBA := hid ((Below.refl wr.heap.size wr).alloc (Nat.le_refl _) (.cells #[.int .i64 (qa F (j + 2)).1, .slice ak (qa F (j + 2)).2.length ck] 85))
              have BQ := hid (Box2.new wr (.int .i64 (qa F (j + 2)).1) (.slice ak (qa F (j + 2)).2.length ck) 85)
              have HB4 := hid (HB.out.trans (HBA.out.mono HB.out.size))
              have HG4 := hid (HGR.out.below HBA.out)
              have P4 := hid (P3.out.below HBA.out)
              by_cases h3 : (qa F (j + 2)).2.length = 4
              · have d3 : (((qa F (j + 2)).2.length : Int) != 4) = false := by simp [h3]
                have n4 : 4 ≤ (qa F (j + 2)).2.length := by omega
                have H3 := hid h3
                have HF4 := hid (HFC.out h3)
                obtain ⟨bk, ok, rfl, hbk, kc0⟩ := P3.out 0 (by omega)
                obtain ⟨_, _, e1, _, kc1⟩ := P3.out 1 (by omega)
                obtain ⟨_, _, e2, _, kc2⟩ := P3.out 2 (by omega)
                obtain ⟨_, _, e3, _, kc3⟩ := P3.out 3 (by omega)
                simp only [Option.some.injEq, Addr.mk.injEq, and_true] at e1 e2 e3
                obtain ⟨rfl, rfl⟩ := e1
                obtain ⟨rfl, rfl⟩ := e2
                obtain ⟨rfl, rfl⟩ := e3
                rw [Nat.add_zero] at kc0
                clear h3 HFC P3 P4
                generalize hq : qa F (j + 2) = q at *
                have HEQ := hid hq
                clear hq
                have harr := arr_at (some ⟨bk, ok, none⟩) q.2.length ck n4
                cases hcan : canJ (F.take (j + 2)) q.2
                · have HV := hid (HN.out (by rw [HF4.out, hcan]; rfl))
                  have HC := hid (c_canJoin' q.2 false hcan _ HG4.out (by rw [HTL.out]; omega))
                  unfold kv at HC
                  clear HN HS
                  go_wp2_with fail
                  refine HC.out.mono ?_
                  rintro e w5 ⟨rfl, hb5⟩
                  clear HC
                  go_wp2
                  go_ret2
                  exact ⟨.pointer none, by rw [HV.out]; rfl, .inr ⟨HV.out, rfl⟩, HB4.out.trans (hb5.mono HB4.out.size)⟩
                · have HC := hid (c_canJoin' q.2 true hcan _ HG4.out (by rw [HTL.out]; omega))
                  unfold kv at HC
                  have HCN := hid hcan
                  go_wp2_with fail
                  refine HC.out.mono ?_
                  rintro e w5 ⟨rfl, hb5⟩
                  have G5 := hid (HG4.out.below hb5)
                  have BQ5 := hid (BQ.out.step hb5)
                  have hbw := BQ5.out.2.2.2
                  have HB5 := hid (HB4.out.trans (hb5.mono HB4.out.size))
                  have z1 := BQ5.out.2.1
                  have m0 := (hbw.cell (p := ⟨bk, ok, none⟩) hbk).trans kc0
                  have m1 := (hbw.cell (p := ⟨bk, ok + 1, none⟩) hbk).trans kc1
                  have m2 := (hbw.cell (p := ⟨bk, ok + 2, none⟩) hbk).trans kc2
                  have m3 := (hbw.cell (p := ⟨bk, ok + 3, none⟩) hbk).trans kc3
                  have hin4 := canJ_in HCN.out
                  rw [HTL.out] at hin4
                  have HFT := hid (show fits4 q.2 from ⟨H3.out, fun i hi => by have := hin4 i hi; unfold fit1; omega⟩)
                  have hz0 := hin4 0 (by omega)
                  have hpw : w1.heap.size + 2 < wr.heap.size := HGR.out.box.lt
                  have hgw := HGR.out.lt.2
                  have hmw : w1.heap.size + 1 < wr.heap.size := HGR.out.map.lt
                  have hw5 := BQ5.out.2.2.1
                  clear HC hb5 kc0 kc1 kc2 kc3 hbw g1 g2 HG4 HBA BQ HB4
                  cases hn : numTo (F.take (j + 2)) (j + 2) q.2 with
                  | some i =>
                    obtain ⟨n, rfl, hn2, hnk, _⟩ := numTo_some hn
                    have HV := hid (HN.out (by rw [HF4.out, hn]; simp))
                    have HJ := hid (c_join_old q.2 (n : Int) w5 G5.out HFT.out (by rw [HTL.out]; exact hn))
                    unfold kv at HJ
                    have dn : ((n : Int) != (j : Int) + 2) = true := by simp; omega
                    clear hn HN HS HF4
                    go_wp2_with fail
                    refine HJ.out.mono ?_
                    rintro e w6 ⟨rfl, hb6⟩
                    clear HJ z1 m0 m1 m2 m3 harr
                    have hne := Gr.ne w6
                    go_wp2
                    refine wp_region_gr (by kernel_rfl) (by kernel_rfl) ?_
                    repeat (go_big_quiet_step (fail))
                    refine wpQuiet_nil ?_
                    rintro _ ⟨G', rfl⟩
                    go_wp2
                    go_ret2
                    exact ⟨.pointer none, by rw [HV.out]; rfl, .inr ⟨HV.out, rfl⟩, (HB5.out.trans (hb6.mono HB5.out.size)).trans (G'.below.mono (by have := HB5.out.size; have := hb6.size; omega))⟩
                  | none =>
                    have t0 : (ia q.2 0).toNat < j + 2 := by omega
                    have hlv := HGL.out (ia q.2 0).toNat t0
                    have HTA := hid (qa_take_at (F := F) t0)
                    have HJ := hid (c_join_new q.2 w5 G5.out HFT.out (by rw [HTL.out]; exact hn) (by rw [HTL.out]; omega) (by rw [HTL.out]; omega) (by omega) (by rw [HTL.out]; omega) (by rw [HTA.out]; omega) (by rw [HTA.out]; omega))
                    rw [HTL.out, HTA.out] at HJ
                    rw [hn, HCN.out, HTA.out] at HF4
                    unfold kv at HJ
                    generalize (qa F (ia q.2 0).toNat).1 = lv at *
                    clear HTA hn
                    go_wp2_with fail
                    refine HJ.out.mono ?_
                    rintro e w6 ⟨g', cap', rfl, hG6, hb6, hkb, _⟩
                    have G6 := hid hG6
                    have HB6 := hid (HB5.out.trans (hb6.mono (by omega)))
                    have e6 := hkb wr.heap.size hw5 (by omega) (by omega) (by omega)
                    have y0 := (World.cell?_of_block (a := ⟨wr.heap.size, 0, none⟩) e6).trans BQ5.out.1
                    have hy6 : wr.heap.size < w6.heap.size := Nat.lt_of_lt_of_le hw5 hb6.size
                    have HLN := hid (show (F.take (j + 2) ++ [(lv + 1, q.2)]).length = j + 3 by rw [List.length_append, HTL.out]; rfl)
                    have c0 := hG6.c0
                    have cl := hG6.lev (i := j + 2) (by rw [HLN.out]; omega)
                    have hqn := qa_snoc_new (F.take (j + 2)) (lv + 1, q.2)
                    rw [HTL.out] at hqn
                    rw [hqn] at cl
                    rw [HLN.out] at c0
                    have hgl := hG6.lt.2
                    have hpl := hG6.box.lt
                    clear HJ z1 m0 m1 m2 m3 harr hG6 hb6 hkb e6 hqn G5 BQ5 HB5
                    have C0 := fun G' : Gr w6 => G'.cell c0 hpl
                    have CL := fun G' : Gr w6 => G'.cell cl hgl
                    have Y0 := fun G' : Gr w6 => G'.cell y0 hy6
                    have hne := Gr.ne w6
                    have dn : (((j + 2 : Nat) : Int) != (j : Int) + 2) = false := by simp
                    have i2 : ((j + 2 : Nat) : Int) < ((j + 3 : Nat) : Int) := by omega
                    have i3 : (0 : Int) ≤ ((j + 2 : Nat) : Int) := by omega
                    have i4 : ((j + 2 : Nat) : Int).toNat = j + 2 := by omega
                    clear c0 cl y0
                    by_cases hv : q.1 = lv + 1
                    · have d5 : (lv + 1 != q.1) = false := by simp [hv]
                      have HV := hid (show allB (fineQ F) (j + 2 + 1) = true by rw [HS.out, hT.out, HF4.out]; simp [hv])
                      have HGN := hid (show Grv w6 w1.heap.size (w1.heap.size + 2) g' cap' (w1.heap.size + 1) (F.take (j + 2 + 1)) by
                        rw [HTS.out]
                        have : qa F (j + 2) = (lv + 1, q.2) := by rw [HEQ.out, ← hv]
                        first | (rw [this]; exact G6.out) | (have e := G6.out; rw [← hv] at e; exact e))
                      clear hv HN HS HF4
                      go_wp2
                      refine wp_region_gr (by kernel_rfl) (by kernel_rfl) ?_
                      repeat (go_big_quiet_step (fail))
                      refine wpQuiet_nil ?_
                      rintro _ ⟨G', rfl⟩
                      clear C0 CL Y0
                      go_wp2
                      go_roundw
                      case rel => exact ⟨j + 1, g', cap', by omega, by go_num, HV.out, HGN.out.below G'.below, HB6.out.trans (G'.below.mono HB6.out.size)⟩
                      case measure => simp [intOf]; omega
                    · have d5 : (lv + 1 != q.1) = true := by simp; omega
                      have HV := hid (HN.out (by rw [HF4.out]; simp [hv]))
                      clear hv HN HS HF4
                      go_wp2
                      refine wp_region_gr (by kernel_rfl) (by kernel_rfl) ?_
                      repeat (go_big_quiet_step (fail))
                      refine wpQuiet_nil ?_
                      rintro _ ⟨G', rfl⟩
                      clear C0 CL Y0
                      go_wp2
                      go_ret2
                      exact ⟨.pointer none, by rw [HV.out]; rfl, .inr ⟨HV.out, rfl⟩, HB6.out.trans (G'.below.mono HB6.out.size)⟩
              · have d3 : (((qa F (j + 2)).2.length : Int) != 4) = true := by simp; omega
                have HV := hid (HN.out (fine_len (by omega) h3))
                clear HN HS h3 HFC P3 P4
                generalize qa F (j + 2) = q at *
                go_wp2
                go_ret2
                exact ⟨.pointer none, by rw [HV.out]; rfl, .inr ⟨HV.out, rfl⟩, HB4.out⟩
            · have hF : F.length = j + 2 := by omega
              have HGF := hid (goodF_all (F := F) (by rw [hF]; exact hT.out) (by omega) (by omega))
              have HTT := hid (show F.take (j + 2) = F by rw [← hF, List.take_length])
              have k1 : ((F.length - 2 : Nat) : Int) ≤ (j : Int) := by omega
              clear hF
              go_wp2
              go_ret2
              refine ⟨.pointer (some ⟨w1.heap.size + 2, 0, none⟩), by rw [HGF.out]; rfl, .inl ⟨HGF.out, w1.heap.size + 2, g, cap, w1.heap.size + 1, w1.heap.size, by omega, rfl, ?_⟩, HB.out⟩
              have := HGR.out
              rw [HTT.out] at this
              exact this

end Go.Proofs.Ytnabgfbempkgnaa
