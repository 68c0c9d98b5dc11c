/- What the program's JoinQuads answers. -/
import Derived.Test.YtphjfncgbahbdaaJq
namespace Go.Proofs.Ytphjfncgbahbdaa
open Go.RowKit Go.Maps
set_option linter.unusedVariables false
set_option linter.unusedSimpArgs false
attribute [local go_sem ↓] Go.wp_at_zero Go.wp_at_succ

set_option maxHeartbeats 2000000 in
set_option maxRecDepth 100000 in
theorem c_iJoinQuads (a : Option Addr) (F : List Qd) (ca : Nat) (la : Option Addr) (l : List Int) (lca : Nat) (w : World) (ha : QSeg w a F) (hl : F.length ≤ 1048576) (hk : KidsLe F) (hca : F.length ≤ ca) (hcm : ca ≤ 9223372036854775807) (hL : ISeg w la l) (hLl : l.length ≤ 1048576) :
    Calls Try.prog 23 #[.agg #[.slice a F.length ca], .slice la l.length lca] w fun e w' => ∃ u, e = .returned (.tuple #[.agg #[u], .int .i64 (jqQ F l), .bool (jqB F l)]) ∧ FOwn w' w.heap.size w'.heap.size u (jqF F l) ∧ Below w.heap.size w w' := by
  obtain ⟨W1, hW1⟩ : ∃ W1, W1 = w.alloc (.cells #[.slice a F.length ca] 24) := ⟨_, rfl⟩
  have X1 := Box1.new w (.slice a F.length ca) 24
  rw [← hW1] at X1
  have hb2 := (Below.refl W1.heap.size W1).alloc (Nat.le_refl _) (.cells #[.slice none 0 0] 24)
  have X2 := X1.step hb2
  have R2 := one_row (heap_alloc_new W1 (.cells #[.slice none 0 0] 24))
  have s1 : W1.heap.size = w.heap.size + 1 := by rw [hW1]; simp
  rw [s1] at R2
  have s2 : (W1.alloc (.cells #[.slice none 0 0] 24)).heap.size = w.heap.size + 1 + 1 := by simp [s1]
  rw [hW1] at X2 R2 s2
  have HX := hid X2
  have HR := hid R2
  have HSZ := hid s2
  clear X1 X2 R2 s1 s2 hb2 hW1
  clear W1
  have x0 := HX.out.1
  have HQ := hid (ha.below HX.out.2.2)
  have HL2 := hid (hL.below HX.out.2.2)
  clear ha hL
  have fin : ∀ W : World, Below w.heap.size w W → ∃ u, Ending.returned (.tuple #[.agg #[.slice none 0 0], .int .i64 0, .bool false]) = .returned (.tuple #[.agg #[u], .int .i64 0, .bool false]) ∧ FOwn W w.heap.size W.heap.size u [] ∧ Below w.heap.size w W := fun W h => ⟨_, rfl, .inl ⟨rfl, rfl⟩, h⟩
  have HC := hid (c_groveOf a F ca _ HQ.out hl hk hca hcm)
  cases hg : goodF F
  · rw [hg] at HC
    have HV : Hid (jqF F l = [] ∧ jqQ F l = 0 ∧ jqB F l = false) := by simp [Hid, jqF, jqQ, jqB, jqOK, hg]
    clear hg
    go_enter Try.func23, Try.ntmps23
    go_wp2_with fail
    refine HC.out.mono ?_
    rintro e w3 ⟨pv, rfl, ho, hb⟩
    have R3 := hid (HR.out.of_block (hb.block _ HR.out.lt))
    have X3 := hid (HX.out.step hb)
    have L3 := hid (HL2.out.below hb)
    clear ho HC hb
    have HBB := hid (Below.refl w3.heap.size w3)
    have R9 := R3.out.of_block (HBB.out.block _ R3.out.lt)
    have r0 := R9.cell (i := 0) (by omega)
    have f0 := R9.frozen 0
    have E0 := hid ((R9.set 0 (.slice none 0 0)).cell (i := 0) (by omega))
    simp only [if_true] at E0
    have HB := hid ((X3.out.step HBB.out).2.2.setCell (p := ⟨w.heap.size + 1, 0, none⟩) (by dsimp only; omega) (.slice none 0 0))
    clear R9 R3 X3 HBB
    go_wp2_with fail
    rw [HV.out.1, HV.out.2.1, HV.out.2.2]
    exact bodyPost_ret (v := .tuple #[.agg #[.slice none 0 0], .int .i64 0, .bool false]) (by simp [results, Try.results23, go_sem, E0.out]) rfl (fin _ HB.out)
  · rw [hg] at HC
    have HG := hid hg
    have hg2 := good_len2 hg
    by_cases h4 : l.length = 4
    · have d4 : ((l.length : Int) != 4) = false := by simp [h4]
      have n4 : 4 ≤ l.length := by omega
      have H4 := hid h4
      cases hcan : canJ F l
      · have HV : Hid (jqF F l = [] ∧ jqQ F l = 0 ∧ jqB F l = false) := by simp [Hid, jqF, jqQ, jqB, jqOK, hcan]
        clear h4
        go_enter Try.func23, Try.ntmps23
        go_wp2_with fail
        refine HC.out.mono ?_
        rintro e w3 ⟨pv, rfl, ho, hb⟩
        have R3 := hid (HR.out.of_block (hb.block _ HR.out.lt))
        have X3 := hid (HX.out.step hb)
        have L3 := hid (HL2.out.below hb)
        rcases ho with ⟨_, p, g, cap, mb, base, hbase, rfl, hGv⟩ | ⟨e, _⟩
        · have HCJ := hid (c_canJoin' l false hcan _ hGv (by omega))
          unfold kv at HCJ
          obtain ⟨bk, ok, rfl, hbk, kc0⟩ := L3.out 0 (by omega)
          obtain ⟨_, _, e1, _, kc1⟩ := L3.out 1 (by omega)
          obtain ⟨_, _, e2, _, kc2⟩ := L3.out 2 (by omega)
          obtain ⟨_, _, e3, _, kc3⟩ := L3.out 3 (by omega)
          simp only [Option.some.injEq, Addr.mk.injEq, and_true] at e1 e2 e3
          obtain ⟨rfl, rfl⟩ := e1
          obtain ⟨rfl, rfl⟩ := e2
          obtain ⟨rfl, rfl⟩ := e3
          rw [Nat.add_zero] at kc0
          have harr := arr_at (some ⟨bk, ok, none⟩) l.length lca n4
          clear HC hb hGv hbase
          go_wp2_with fail
          refine HCJ.out.mono ?_
          rintro e w5 ⟨rfl, hb⟩
          have HBB := hid hb
          clear hb HCJ
          have R9 := R3.out.of_block (HBB.out.block _ R3.out.lt)
          have r0 := R9.cell (i := 0) (by omega)
          have f0 := R9.frozen 0
          have E0 := hid ((R9.set 0 (.slice none 0 0)).cell (i := 0) (by omega))
          simp only [if_true] at E0
          have HB := hid ((X3.out.step HBB.out).2.2.setCell (p := ⟨w.heap.size + 1, 0, none⟩) (by dsimp only; omega) (.slice none 0 0))
          clear R9 R3 X3 HBB
          go_wp2_with fail
          rw [HV.out.1, HV.out.2.1, HV.out.2.2]
          exact bodyPost_ret (v := .tuple #[.agg #[.slice none 0 0], .int .i64 0, .bool false]) (by simp [results, Try.results23, go_sem, E0.out]) rfl (fin _ HB.out)
        · rw [HG.out] at e; cases e
      · have HV : Hid (jqF F l = tellF (joinF F l).1 ∧ jqQ F l = tellQ (joinF F l).1 ((joinF F l).2 : Int) ∧ jqB F l = tellB (joinF F l).1) := by simp [Hid, jqF, jqQ, jqB, jqOK, hcan, hg, h4]
        have hlv := canJ_lev hcan
        have HGR := hid (good_grows hg)
        have HKJ := hid (fun j hj => (hlv j hj).1)
        have HJG := hid (joinF_grows (good_grows hg) h4 (fun j hj => (hlv j hj).1) (hlv 0 (by omega)).2.2)
        have HJL := hid (joinF_len F l)
        clear h4 hlv
        go_enter Try.func23, Try.ntmps23
        go_wp2_with fail
        refine HC.out.mono ?_
        rintro e w3 ⟨pv, rfl, ho, hb⟩
        have R3 := hid (HR.out.of_block (hb.block _ HR.out.lt))
        have X3 := hid (HX.out.step hb)
        have L3 := hid (HL2.out.below hb)
        rcases ho with ⟨_, p, g, cap, mb, base, hbase, rfl, hGv⟩ | ⟨e, _⟩
        · have HCJ := hid (c_canJoin' l true hcan _ hGv (by omega))
          unfold kv at HCJ
          obtain ⟨bk, ok, rfl, hbk, kc0⟩ := L3.out 0 (by omega)
          obtain ⟨_, _, e1, _, kc1⟩ := L3.out 1 (by omega)
          obtain ⟨_, _, e2, _, kc2⟩ := L3.out 2 (by omega)
          obtain ⟨_, _, e3, _, kc3⟩ := L3.out 3 (by omega)
          simp only [Option.some.injEq, Addr.mk.injEq, and_true] at e1 e2 e3
          obtain ⟨rfl, rfl⟩ := e1
          obtain ⟨rfl, rfl⟩ := e2
          obtain ⟨rfl, rfl⟩ := e3
          rw [Nat.add_zero] at kc0
          have harr := arr_at (some ⟨bk, ok, none⟩) l.length lca n4
          have HGV := hid hGv
          have HBS := hid (show w.heap.size + 1 + 1 ≤ base by rw [HSZ.out] at hbase; exact hbase)
          clear HC hb hGv hbase hcan
          go_wp2_with fail
          refine HCJ.out.mono ?_
          rintro e w5 ⟨rfl, hb⟩
          have R5 := hid (R3.out.of_block (hb.block _ R3.out.lt))
          have X5 := hid (X3.out.step hb)
          have G5 := hid (HGV.out.below hb)
          have m0 := (hb.cell (p := ⟨bk, ok, none⟩) hbk).trans kc0
          have m1 := (hb.cell (p := ⟨bk, ok + 1, none⟩) hbk).trans kc1
          have m2 := (hb.cell (p := ⟨bk, ok + 2, none⟩) hbk).trans kc2
          have m3 := (hb.cell (p := ⟨bk, ok + 3, none⟩) hbk).trans kc3
          clear hb R3 X3 L3 HGV HCJ kc0 kc1 kc2 kc3
          have HJ := hid (c_ijoin l H4.out w5 G5.out HGR.out (by omega) HKJ.out)
          unfold kv at HJ
          go_wp2_with fail
          refine HJ.out.mono ?_
          rintro e w7 ⟨g7, cap7, rfl, hG7, hb7, _⟩
          have HG7 := hid hG7
          have R7 := hid (R5.out.of_block (hb7.block _ (show w.heap.size + 1 < base by have := HBS.out; omega)))
          have HB7 := hid (X5.out.2.2.trans (hb7.mono (show w.heap.size ≤ base by have := HBS.out; omega)))
          clear HJ hG7 hb7 m0 m1 m2 m3 harr
          have HTL := hid (c_told ((joinF F l).2 : Int) w7 HG7.out HJG.out (by have := HJL.out; omega))
          go_wp2_with fail
          refine HTL.out.mono ?_
          rintro e w8 ⟨u8, rfl, hO8, hb8⟩
          have HO8 := hid hO8
          obtain ⟨ua8, uc8, rfl, _⟩ := hO8.form
          have R9 := R7.out.of_block (hb8.block _ R7.out.lt)
          have hlt7 := R7.out.lt
          have r0 := R9.cell (i := 0) (by omega)
          have f0 := R9.frozen 0
          have E0 := hid ((R9.set 0 (.slice ua8 (tellF (joinF F l).1).length uc8)).cell (i := 0) (by omega))
          simp only [if_true] at E0
          have hs9 : (w8.setCell ⟨w.heap.size + 1, 0, none⟩ (.slice ua8 (tellF (joinF F l).1).length uc8)).heap.size = w8.heap.size := by simp
          have hGW : Grew w8 (w8.setCell ⟨w.heap.size + 1, 0, none⟩ (.slice ua8 (tellF (joinF F l).1).length uc8)) (w.heap.size + 1) (w.heap.size + 1 + 1) := (Grew.refl w8 _ _).set (Nat.le_refl _) (by omega) _
          have HO9 := hid ((HO8.out.kept hGW (by omega)).wide (lo' := w.heap.size) (hi' := w8.heap.size) (by omega) (Nat.le_refl _) (by rw [hs9]; exact Nat.le_refl _))
          have HB9 := hid ((HB7.out.trans (hb8.mono HB7.out.size)).setCell (p := ⟨w.heap.size + 1, 0, none⟩) (by dsimp only; omega) (.slice ua8 (tellF (joinF F l).1).length uc8))
          have HS9 := hid hs9
          clear HTL hO8 HO8 hb8 R9 hGW hs9 hlt7
          generalize hT : tellF (joinF F l).1 = TF at *
          generalize tellQ (joinF F l).1 ((joinF F l).2 : Int) = TQ at *
          generalize tellB (joinF F l).1 = TB at *
          clear hT
          go_wp2_with fail
          rw [HV.out.1, HV.out.2.1, HV.out.2.2]
          exact bodyPost_ret (v := .tuple #[.agg #[.slice ua8 TF.length uc8], .int .i64 TQ, .bool TB]) (by simp [results, Try.results23, go_sem, E0.out]) rfl ⟨.slice ua8 TF.length uc8, rfl, by rw [HS9.out]; exact HO9.out, HB9.out⟩
        · rw [HG.out] at e; cases e
    · have d4 : ((l.length : Int) != 4) = true := by simp; omega
      have HV : Hid (jqF F l = [] ∧ jqQ F l = 0 ∧ jqB F l = false) := by simp [Hid, jqF, jqQ, jqB, jqOK, h4]
      go_enter Try.func23, Try.ntmps23
      go_wp2_with fail
      refine HC.out.mono ?_
      rintro e w3 ⟨pv, rfl, ho, hb⟩
      have R3 := hid (HR.out.of_block (hb.block _ HR.out.lt))
      have X3 := hid (HX.out.step hb)
      have L3 := hid (HL2.out.below hb)
      clear ho HC hb
      have HBB := hid (Below.refl w3.heap.size w3)
      have R9 := R3.out.of_block (HBB.out.block _ R3.out.lt)
      have r0 := R9.cell (i := 0) (by omega)
      have f0 := R9.frozen 0
      have E0 := hid ((R9.set 0 (.slice none 0 0)).cell (i := 0) (by omega))
      simp only [if_true] at E0
      have HB := hid ((X3.out.step HBB.out).2.2.setCell (p := ⟨w.heap.size + 1, 0, none⟩) (by dsimp only; omega) (.slice none 0 0))
      clear R9 R3 X3 HBB
      go_wp2_with fail
      rw [HV.out.1, HV.out.2.1, HV.out.2.2]
      exact bodyPost_ret (v := .tuple #[.agg #[.slice none 0 0], .int .i64 0, .bool false]) (by simp [results, Try.results23, go_sem, E0.out]) rfl (fin _ HB.out)

end Go.Proofs.Ytphjfncgbahbdaa
