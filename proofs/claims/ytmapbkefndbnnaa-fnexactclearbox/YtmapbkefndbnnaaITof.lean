/- What the program's TreeOf answers. -/
import Derived.Test.YtmapbkefndbnnaaITree
namespace Go.Proofs.Ytmapbkefndbnnaa
open Go.RowKit
set_option linter.unusedVariables false
set_option linter.unusedSimpArgs false
attribute [local go_sem ↓] Go.wp_at_zero Go.wp_at_succ

set_option maxHeartbeats 2000000 in
set_option maxRecDepth 100000 in
theorem c_iTreeOf (a : Option Addr) (F : List Qd) (ca : Nat) (lv : Int) (la : Option Addr) (L : List Cl) (lca : Nat) (w : World) (ha : QSeg w a F) (hl : F.length ≤ 1048576) (hk : KidsLe F) (hca : F.length ≤ ca) (hcm : ca ≤ 9223372036854775807) (hL : Seg w la L) (hLl : L.length ≤ 1048576) :
    Calls Try.prog 16 #[.agg #[.slice a F.length ca], .int .i64 lv, .slice la L.length lca] w fun e w' => ∃ u, e = .returned (.tuple #[.agg #[u], .int .i64 (tofQ F lv L), .bool (tofB F lv L)]) ∧ FOwn w' w.heap.size w'.heap.size u (tofF F lv L) ∧ Below w.heap.size w w' := by
  obtain ⟨W1, hW1⟩ : ∃ W1, W1 = w.alloc (.cells #[.slice a F.length ca] 25) := ⟨_, rfl⟩
  have X1 := Box1.new w (.slice a F.length ca) 25
  rw [← hW1] at X1
  have hb2 := (Below.refl W1.heap.size W1).alloc (Nat.le_refl _) (.cells #[.slice none 0 0] 25)
  have X2 := X1.step hb2
  have R2 := one_row (heap_alloc_new W1 (.cells #[.slice none 0 0] 25))
  have s1 : W1.heap.size = w.heap.size + 1 := by rw [hW1]; simp
  rw [s1] at R2
  have s2 : (W1.alloc (.cells #[.slice none 0 0] 25)).heap.size = w.heap.size + 1 + 1 := by simp [s1]
  rw [hW1] at X2 R2 s2
  have HX := hid X2
  have HR := hid R2
  have HSZ := hid s2
  clear X1 X2 R2 s1 s2 hb2 hW1
  clear W1
  have x0 := HX.out.1
  have HQ := hid (ha.below HX.out.2.2)
  have HL2 := hid (hL.below HX.out.2.2)
  clear ha hL
  have fin : ∀ W : World, Below w.heap.size w W → ∃ u, Ending.returned (.tuple #[.agg #[.slice none 0 0], .int .i64 0, .bool false]) = .returned (.tuple #[.agg #[u], .int .i64 0, .bool false]) ∧ FOwn W w.heap.size W.heap.size u [] ∧ Below w.heap.size w W := fun W h => ⟨_, rfl, .inl ⟨rfl, rfl⟩, h⟩
  have HC := hid (c_groveOf a F ca _ HQ.out hl hk hca hcm)
  cases hg : goodF F
  · rw [hg] at HC
    have HV : Hid (tofF F lv L = [] ∧ tofQ F lv L = 0 ∧ tofB F lv L = false) := by simp [Hid, tofF, tofQ, tofB, tofOK, hg]
    clear hg
    go_enter Try.func16, Try.ntmps16
    go_wp2_with fail
    refine HC.out.mono ?_
    rintro e w3 ⟨pv, rfl, ho, hb⟩
    have R3 := hid (HR.out.of_block (hb.block _ HR.out.lt))
    have X3 := hid (HX.out.step hb)
    have L3 := hid (HL2.out.below hb)
    clear ho HC hb
    have HBB := hid (Below.refl w3.heap.size w3)
    have R9 := R3.out.of_block (HBB.out.block _ R3.out.lt)
    have r0 := R9.cell (i := 0) (by omega)
    have f0 := R9.frozen 0
    have E0 := hid ((R9.set 0 (.slice none 0 0)).cell (i := 0) (by omega))
    simp only [if_true] at E0
    have HB := hid ((X3.out.step HBB.out).2.2.setCell (p := ⟨w.heap.size + 1, 0, none⟩) (by dsimp only; omega) (.slice none 0 0))
    clear R9 R3 X3 HBB
    go_wp2_with fail
    rw [HV.out.1, HV.out.2.1, HV.out.2.2]
    exact bodyPost_ret (v := .tuple #[.agg #[.slice none 0 0], .int .i64 0, .bool false]) (by simp [results, Try.results16, go_sem, E0.out]) rfl (fin _ HB.out)
  · rw [hg] at HC
    have HG := hid hg
    have hg2 := good_len2 hg
    by_cases hneg : lv < 0
    · have HV : Hid (tofF F lv L = [] ∧ tofQ F lv L = 0 ∧ tofB F lv L = false) := by
        have : inB 0 5 lv = false := by unfold inB; rw [decide_eq_false (show ¬ 0 ≤ lv by omega)]; rfl
        simp [Hid, tofF, tofQ, tofB, tofOK, this]
      have dl : decide (lv < 0) = true := decide_eq_true hneg
      go_enter Try.func16, Try.ntmps16
      go_wp2_with fail
      refine HC.out.mono ?_
      rintro e w3 ⟨pv, rfl, ho, hb⟩
      have R3 := hid (HR.out.of_block (hb.block _ HR.out.lt))
      have X3 := hid (HX.out.step hb)
      have L3 := hid (HL2.out.below hb)
      clear ho HC hb
      have HBB := hid (Below.refl w3.heap.size w3)
      have R9 := R3.out.of_block (HBB.out.block _ R3.out.lt)
      have r0 := R9.cell (i := 0) (by omega)
      have f0 := R9.frozen 0
      have E0 := hid ((R9.set 0 (.slice none 0 0)).cell (i := 0) (by omega))
      simp only [if_true] at E0
      have HB := hid ((X3.out.step HBB.out).2.2.setCell (p := ⟨w.heap.size + 1, 0, none⟩) (by dsimp only; omega) (.slice none 0 0))
      clear R9 R3 X3 HBB
      go_wp2_with fail
      rw [HV.out.1, HV.out.2.1, HV.out.2.2]
      exact bodyPost_ret (v := .tuple #[.agg #[.slice none 0 0], .int .i64 0, .bool false]) (by simp [results, Try.results16, go_sem, E0.out]) rfl (fin _ HB.out)
    · have dl : decide (lv < 0) = false := decide_eq_false hneg
      by_cases hbig : 5 < lv
      · have HV : Hid (tofF F lv L = [] ∧ tofQ F lv L = 0 ∧ tofB F lv L = false) := by
          have : inB 0 5 lv = false := by unfold inB; rw [decide_eq_false (show ¬ lv ≤ 5 by omega)]; simp
          simp [Hid, tofF, tofQ, tofB, tofOK, this]
        have dl2 : decide (5 < lv) = true := decide_eq_true hbig
        go_enter Try.func16, Try.ntmps16
        go_wp2_with fail
        refine HC.out.mono ?_
        rintro e w3 ⟨pv, rfl, ho, hb⟩
        have R3 := hid (HR.out.of_block (hb.block _ HR.out.lt))
        have X3 := hid (HX.out.step hb)
        have L3 := hid (HL2.out.below hb)
        clear ho HC hb
        have HBB := hid (Below.refl w3.heap.size w3)
        have R9 := R3.out.of_block (HBB.out.block _ R3.out.lt)
        have r0 := R9.cell (i := 0) (by omega)
        have f0 := R9.frozen 0
        have E0 := hid ((R9.set 0 (.slice none 0 0)).cell (i := 0) (by omega))
        simp only [if_true] at E0
        have HB := hid ((X3.out.step HBB.out).2.2.setCell (p := ⟨w.heap.size + 1, 0, none⟩) (by dsimp only; omega) (.slice none 0 0))
        clear R9 R3 X3 HBB
        go_wp2_with fail
        rw [HV.out.1, HV.out.2.1, HV.out.2.2]
        exact bodyPost_ret (v := .tuple #[.agg #[.slice none 0 0], .int .i64 0, .bool false]) (by simp [results, Try.results16, go_sem, E0.out]) rfl (fin _ HB.out)
      · have dl2 : decide (5 < lv) = false := decide_eq_false hbig
        have hin : inB 0 5 lv = true := by simp [inB]; omega
        cases hgl : good L
        · have HV : Hid (tofF F lv L = [] ∧ tofQ F lv L = 0 ∧ tofB F lv L = false) := by simp [Hid, tofF, tofQ, tofB, tofOK, hgl]
          have HE := hid (fun W h => c_iGood' la L lca false hgl W h hLl)
          clear hg hin hgl
          go_enter Try.func16, Try.ntmps16
          go_wp2_with fail
          refine HC.out.mono ?_
          rintro e w3 ⟨pv, rfl, ho, hb⟩
          have R3 := hid (HR.out.of_block (hb.block _ HR.out.lt))
          have X3 := hid (HX.out.step hb)
          have L3 := hid (HL2.out.below hb)
          clear ho HC hb
          go_wp2_with fail
          refine (HE.out _ L3.out).mono ?_
          rintro e w5 ⟨rfl, hb⟩
          have HBB := hid hb
          clear hb
          have R9 := R3.out.of_block (HBB.out.block _ R3.out.lt)
          have r0 := R9.cell (i := 0) (by omega)
          have f0 := R9.frozen 0
          have E0 := hid ((R9.set 0 (.slice none 0 0)).cell (i := 0) (by omega))
          simp only [if_true] at E0
          have HB := hid ((X3.out.step HBB.out).2.2.setCell (p := ⟨w.heap.size + 1, 0, none⟩) (by dsimp only; omega) (.slice none 0 0))
          clear R9 R3 X3 HBB
          go_wp2_with fail
          rw [HV.out.1, HV.out.2.1, HV.out.2.2]
          exact bodyPost_ret (v := .tuple #[.agg #[.slice none 0 0], .int .i64 0, .bool false]) (by simp [results, Try.results16, go_sem, E0.out]) rfl (fin _ HB.out)
        · have HOK : Hid (tofOK F lv L = true) := by simp [Hid, tofOK, hg, hin, hgl]
          have HV : Hid (tofF F lv L = tellF (tofR F lv L).1 ∧ tofQ F lv L = tellQ (tofR F lv L).1 ((tofR F lv L).2 : Int) ∧ tofB F lv L = tellB (tofR F lv L).1) := by simp [Hid, tofF, tofQ, tofB, HOK.out]
          have HE := hid (fun W h => c_iGood' la L lca true hgl W h hLl)
          have hGr := good_grows hg
          have n5 : lv.toNat ≤ 5 := by omega
          have HT := hid (treeL_tr L lv.toNat 0 0 F n5 hGr)
          have p4 : 4 ^ lv.toNat ≤ 1024 := by
            rcases (show lv.toNat = 0 ∨ lv.toNat = 1 ∨ lv.toNat = 2 ∨ lv.toNat = 3 ∨ lv.toNat = 4 ∨ lv.toNat = 5 by omega) with e | e | e | e | e | e <;> rw [e] <;> decide
          have p2 : (2 : Int) ^ lv.toNat ≤ 32 := by
            rcases (show lv.toNat = 0 ∨ lv.toNat = 1 ∨ lv.toNat = 2 ∨ lv.toNat = 3 ∨ lv.toNat = 4 ∨ lv.toNat = 5 by omega) with e | e | e | e | e | e <;> rw [e] <;> decide
          have hris : risTo L L.length = true := by simp only [good, Bool.and_eq_true] at hgl; exact hgl.2
          have HRI := hid hris
          have HGR := hid hGr
          have HP4 := hid p4
          have HP2 := hid p2
          clear hg hin hgl hGr p4 p2 hris
          go_enter Try.func16, Try.ntmps16
          go_wp2_with fail
          refine HC.out.mono ?_
          rintro e w3 ⟨pv, rfl, ho, hb⟩
          have R3 := hid (HR.out.of_block (hb.block _ HR.out.lt))
          have X3 := hid (HX.out.step hb)
          have L3 := hid (HL2.out.below hb)
          rcases ho with ⟨_, p, g, cap, mb, base, hbase, rfl, hGv⟩ | ⟨e, _⟩
          · have HGV := hid hGv
            have HBS := hid (show w.heap.size + 1 + 1 ≤ base by rw [HSZ.out] at hbase; exact hbase)
            have HB0 := hid hbase
            have HB3 := hid hb
            clear HC hb hGv hbase HR HQ x0
            go_wp2_with fail
            refine (HE.out _ L3.out).mono ?_
            rintro e w5 ⟨rfl, hb⟩
            have R5 := hid (R3.out.of_block (hb.block _ R3.out.lt))
            have X5 := hid (X3.out.step hb)
            have L5 := hid (L3.out.below hb)
            have G5 := hid (HGV.out.below hb)
            have B5 := hid (HB3.out.trans (hb.mono HB3.out.size))
            clear hb R3 X3 L3 HGV HB3
            have HCT := hid (c_plant L la lca _ HL2.out hLl HRI.out base p mb HB0.out lv.toNat 0 0 F g cap w5 n5 HGR.out (by have := HP4.out; omega) (by omega) (by have := HP2.out; omega) (by omega) (by have := HP2.out; omega) G5.out B5.out)
            rw [show ((lv.toNat : Nat) : Int) = lv by omega] at HCT
            go_wp2_with fail
            refine HCT.out.mono ?_
            rintro e w7 ⟨g7, cap7, rfl, hG7, hb7, _⟩
            have HG7 := hid hG7
            have R7 := hid (R5.out.of_block (hb7.block _ (show w.heap.size + 1 < base by have := HBS.out; omega)))
            have HB7 := hid (X5.out.2.2.trans (hb7.mono (show w.heap.size ≤ base by have := HBS.out; omega)))
            have hmost := HT.out.most
            clear HCT hG7 hb7
            have HTL := hid (c_told ((treeL L lv.toNat 0 0 F).2 : Int) w7 HG7.out HT.out.grows (by have := HP4.out; omega))
            clear hmost
            go_wp2_with fail
            refine HTL.out.mono ?_
            rintro e w8 ⟨u8, rfl, hO8, hb8⟩
            have HO8 := hid hO8
            obtain ⟨ua8, uc8, rfl, _⟩ := hO8.form
            have R9 := R7.out.of_block (hb8.block _ R7.out.lt)
            have hlt7 := R7.out.lt
            have r0 := R9.cell (i := 0) (by omega)
            have f0 := R9.frozen 0
            have E0 := hid ((R9.set 0 (.slice ua8 (tellF (treeL L lv.toNat 0 0 F).1).length uc8)).cell (i := 0) (by omega))
            simp only [if_true] at E0
            have hs9 : (w8.setCell ⟨w.heap.size + 1, 0, none⟩ (.slice ua8 (tellF (treeL L lv.toNat 0 0 F).1).length uc8)).heap.size = w8.heap.size := by simp
            have hGW : Grew w8 (w8.setCell ⟨w.heap.size + 1, 0, none⟩ (.slice ua8 (tellF (treeL L lv.toNat 0 0 F).1).length uc8)) (w.heap.size + 1) (w.heap.size + 1 + 1) := (Grew.refl w8 _ _).set (Nat.le_refl _) (by omega) _
            have HO9 := hid ((HO8.out.kept hGW (by omega)).wide (lo' := w.heap.size) (hi' := w8.heap.size) (by omega) (Nat.le_refl _) (by rw [hs9]; exact Nat.le_refl _))
            have HB9 := hid ((HB7.out.trans (hb8.mono HB7.out.size)).setCell (p := ⟨w.heap.size + 1, 0, none⟩) (by dsimp only; omega) (.slice ua8 (tellF (treeL L lv.toNat 0 0 F).1).length uc8))
            have HS9 := hid hs9
            clear HTL hO8 HO8 hb8 R9 hGW hs9 hlt7
            unfold tofR at HV
            generalize hT : tellF (treeL L lv.toNat 0 0 F).1 = TF at *
            generalize tellQ (treeL L lv.toNat 0 0 F).1 ((treeL L lv.toNat 0 0 F).2 : Int) = TQ at *
            generalize tellB (treeL L lv.toNat 0 0 F).1 = TB at *
            clear hT
            go_wp2_with fail
            rw [HV.out.1, HV.out.2.1, HV.out.2.2]
            exact bodyPost_ret (v := .tuple #[.agg #[.slice ua8 TF.length uc8], .int .i64 TQ, .bool TB]) (by simp [results, Try.results16, go_sem, E0.out]) rfl ⟨.slice ua8 TF.length uc8, rfl, by rw [HS9.out]; exact HO9.out, HB9.out⟩
          · rw [HG.out] at e; cases e

end Go.Proofs.Ytmapbkefndbnnaa
