/- What the specification's TreeOf and BlankOf answer. -/
import Derived.Test.YtmapbkefndbnnaaSTree
namespace Go.Proofs.Ytmapbkefndbnnaa
open Go.RowKit
set_option linter.unusedVariables false
set_option linter.unusedSimpArgs false
attribute [local go_sem ↓] Go.wp_at_zero Go.wp_at_succ

/-- May a tree be made? -/
def tofOK (F : List Qd) (lv : Int) (L : List Cl) : Bool := goodF F && inB 0 5 lv && good L
def tofR (F : List Qd) (lv : Int) (L : List Cl) : List Qd × Nat := treeL L lv.toNat 0 0 F
def tofF (F : List Qd) (lv : Int) (L : List Cl) : List Qd := if tofOK F lv L then tellF (tofR F lv L).1 else []
def tofQ (F : List Qd) (lv : Int) (L : List Cl) : Int := if tofOK F lv L then tellQ (tofR F lv L).1 ((tofR F lv L).2 : Int) else 0
def tofB (F : List Qd) (lv : Int) (L : List Cl) : Bool := tofOK F lv L && tellB (tofR F lv L).1

set_option maxHeartbeats 2000000 in
set_option maxRecDepth 100000 in
theorem c_sTreeOf (a : Option Addr) (F : List Qd) (ca : Nat) (lv : Int) (la : Option Addr) (L : List Cl) (lca : Nat) (w : World) (ha : QSeg w a F) (hl : F.length ≤ 1048576) (hk : KidsLe F) (hca : F.length ≤ ca) (hcm : ca ≤ 9223372036854775807) (hnc : NoneCap w a F) (hL : Seg w la L) (hLl : L.length ≤ 1048576) :
    Calls Try.prog 17 #[.agg #[.slice a F.length ca], .int .i64 lv, .slice la L.length lca] w fun e w' => ∃ u, e = .returned (.tuple #[.agg #[u], .int .i64 (tofQ F lv L), .bool (tofB F lv L)]) ∧ GF w' w.heap.size u (tofF F lv L) ∧ Below w.heap.size w w' := by
  obtain ⟨W1, hW1⟩ : ∃ W1, W1 = w.alloc (.cells #[.slice a F.length ca] 25) := ⟨_, rfl⟩
  have X1 := Box1.new w (.slice a F.length ca) 25
  rw [← hW1] at X1
  have hb2 := (Below.refl W1.heap.size W1).alloc (Nat.le_refl _) (.cells #[.slice none 0 0] 25)
  have X2 := X1.step hb2
  have R2 := one_row (heap_alloc_new W1 (.cells #[.slice none 0 0] 25))
  have s1 : W1.heap.size = w.heap.size + 1 := by rw [hW1]; simp
  rw [s1] at R2
  have s2 : (W1.alloc (.cells #[.slice none 0 0] 25)).heap.size = w.heap.size + 1 + 1 := by simp [s1]
  rw [hW1] at X2 R2 s2
  have HX := hid X2
  have HR := hid R2
  have HSZ := hid s2
  clear X1 X2 R2 s1 s2 hb2 hW1
  clear W1
  have x0 := HX.out.1
  have HQ := hid (ha.below HX.out.2.2)
  have HL2 := hid (hL.below HX.out.2.2)
  have HNC := hid (hnc.below ha HX.out.2.2)
  clear ha hL hnc
  have fin : ∀ W : World, Below w.heap.size w W → ∃ u, Ending.returned (.tuple #[.agg #[.slice none 0 0], .int .i64 0, .bool false]) = .returned (.tuple #[.agg #[u], .int .i64 0, .bool false]) ∧ GF W w.heap.size u [] ∧ Below w.heap.size w W := fun W h => ⟨_, rfl, GF.nil _ _, h⟩
  cases hg : goodF F
  · have HC := hid (c_sGoodForest' a F ca false hg _ HQ.out hl hk hca hcm)
    have HV : Hid (tofF F lv L = [] ∧ tofQ F lv L = 0 ∧ tofB F lv L = false) := by simp [Hid, tofF, tofQ, tofB, tofOK, hg]
    clear hg
    go_enter Try.func17, Try.ntmps17
    go_wp2_with fail
    refine HC.out.mono ?_
    rintro e w3 ⟨rfl, hb⟩
    have R3 := HR.out.of_block (hb.block _ HR.out.lt)
    have r0 := R3.cell (i := 0) (by omega)
    have f0 := R3.frozen 0
    have E0 := hid ((R3.set 0 (.slice none 0 0)).cell (i := 0) (by omega))
    simp only [if_true] at E0
    have HB := hid ((HX.out.step hb).2.2.setCell (p := ⟨w.heap.size + 1, 0, none⟩) (by dsimp only; omega) (.slice none 0 0))
    clear HC R3
    go_wp2_with fail
    rw [HV.out.1, HV.out.2.1, HV.out.2.2]
    exact bodyPost_ret (v := .tuple #[.agg #[.slice none 0 0], .int .i64 0, .bool false]) (by simp [results, Try.results17, go_sem, E0.out]) rfl (fin _ HB.out)
  · have HC := hid (c_sGoodForest' a F ca true hg _ HQ.out hl hk hca hcm)
    have HG := hid hg
    cases hin : inB 0 5 lv
    · have HD := hid (c_l1In' lv 0 5 false hin)
      have HV : Hid (tofF F lv L = [] ∧ tofQ F lv L = 0 ∧ tofB F lv L = false) := by simp [Hid, tofF, tofQ, tofB, tofOK, hin]
      clear hg hin
      go_enter Try.func17, Try.ntmps17
      go_wp2_with fail
      refine HC.out.mono ?_
      rintro e w3 ⟨rfl, hb⟩
      have R3 := HR.out.of_block (hb.block _ HR.out.lt)
      have r0 := R3.cell (i := 0) (by omega)
      have f0 := R3.frozen 0
      have E0 := hid ((R3.set 0 (.slice none 0 0)).cell (i := 0) (by omega))
      simp only [if_true] at E0
      have HB := hid ((HX.out.step hb).2.2.setCell (p := ⟨w.heap.size + 1, 0, none⟩) (by dsimp only; omega) (.slice none 0 0))
      clear HC R3
      go_wp2_with fail
      refine (HD.out _).mono ?_
      rintro e w4 ⟨rfl, rfl⟩
      go_wp2_with fail
      rw [HV.out.1, HV.out.2.1, HV.out.2.2]
      exact bodyPost_ret (v := .tuple #[.agg #[.slice none 0 0], .int .i64 0, .bool false]) (by simp [results, Try.results17, go_sem, E0.out]) rfl (fin _ HB.out)
    · have HD := hid (c_l1In' lv 0 5 true hin)
      have hlv := inB_bd hin
      cases hgl : good L
      · have HV : Hid (tofF F lv L = [] ∧ tofQ F lv L = 0 ∧ tofB F lv L = false) := by simp [Hid, tofF, tofQ, tofB, tofOK, hgl]
        have HE := hid (fun W h => c_sGood' la L lca false hgl W h hLl)
        clear hg hin hgl
        go_enter Try.func17, Try.ntmps17
        go_wp2_with fail
        refine HC.out.mono ?_
        rintro e w3 ⟨rfl, hb⟩
        have R3 := hid (HR.out.of_block (hb.block _ HR.out.lt))
        have X3 := hid (HX.out.step hb)
        have L3 := hid (HL2.out.below hb)
        clear HC hb
        go_wp2_with fail
        refine (HD.out _).mono ?_
        rintro e w4 ⟨rfl, rfl⟩
        go_wp2_with fail
        refine (HE.out _ L3.out).mono ?_
        rintro e w5 ⟨rfl, hb⟩
        have R5 := R3.out.of_block (hb.block _ R3.out.lt)
        have r0 := R5.cell (i := 0) (by omega)
        have f0 := R5.frozen 0
        have E0 := hid ((R5.set 0 (.slice none 0 0)).cell (i := 0) (by omega))
        simp only [if_true] at E0
        have HB := hid ((X3.out.step hb).2.2.setCell (p := ⟨w.heap.size + 1, 0, none⟩) (by dsimp only; omega) (.slice none 0 0))
        clear R3 R5 X3 L3 hb
        go_wp2_with fail
        rw [HV.out.1, HV.out.2.1, HV.out.2.2]
        exact bodyPost_ret (v := .tuple #[.agg #[.slice none 0 0], .int .i64 0, .bool false]) (by simp [results, Try.results17, go_sem, E0.out]) rfl (fin _ HB.out)
      · have HOK : Hid (tofOK F lv L = true) := by simp [Hid, tofOK, hg, hin, hgl]
        have HV : Hid (tofF F lv L = tellF (tofR F lv L).1 ∧ tofQ F lv L = tellQ (tofR F lv L).1 ((tofR F lv L).2 : Int) ∧ tofB F lv L = tellB (tofR F lv L).1) := by simp [Hid, tofF, tofQ, tofB, HOK.out]
        have HE := hid (fun W h => c_sGood' la L lca true hgl W h hLl)
        have hg2 := good_len2 hg
        have hGr := good_grows hg
        have n5 : lv.toNat ≤ 5 := by omega
        have HT := hid (treeL_tr L lv.toNat 0 0 F n5 hGr)
        have p4 : 4 ^ lv.toNat ≤ 1024 := by
          rcases (show lv.toNat = 0 ∨ lv.toNat = 1 ∨ lv.toNat = 2 ∨ lv.toNat = 3 ∨ lv.toNat = 4 ∨ lv.toNat = 5 by omega) with e | e | e | e | e | e <;> rw [e] <;> decide
        have p2 : (2 : Int) ^ lv.toNat ≤ 32 := by
          rcases (show lv.toNat = 0 ∨ lv.toNat = 1 ∨ lv.toNat = 2 ∨ lv.toNat = 3 ∨ lv.toNat = 4 ∨ lv.toNat = 5 by omega) with e | e | e | e | e | e <;> rw [e] <;> decide
        have HGR := hid hGr
        have HP4 := hid p4
        have HP2 := hid p2
        clear hg hin hgl hGr p4 p2
        go_enter Try.func17, Try.ntmps17
        go_wp2_with fail
        refine HC.out.mono ?_
        rintro e w3 ⟨rfl, hb⟩
        have R3 := hid (HR.out.of_block (hb.block _ HR.out.lt))
        have X3 := hid (HX.out.step hb)
        have L3 := hid (HL2.out.below hb)
        have Q3 := hid (HQ.out.below hb)
        have N3 := hid (HNC.out.below HQ.out hb)
        clear HC hb HX HR HL2 HQ HNC x0
        go_wp2_with fail
        refine (HD.out _).mono ?_
        rintro e w4 ⟨rfl, rfl⟩
        go_wp2_with fail
        refine (HE.out _ L3.out).mono ?_
        rintro e w5 ⟨rfl, hb⟩
        have R5 := hid (R3.out.of_block (hb.block _ R3.out.lt))
        have X5 := hid (X3.out.step hb)
        have L5 := hid (L3.out.below hb)
        have Q5 := hid (Q3.out.below hb)
        have N5 := hid (N3.out.below Q3.out hb)
        clear hb R3 X3 L3 Q3 N3
        have x0 := X5.out.1
        go_wp2_with fail
        refine (c_l3Own a F ca w5 Q5.out hl hk N5.out).mono ?_
        rintro e w6 ⟨u, rfl, hG6, hb6⟩
        have HG6 := hid hG6
        obtain ⟨ua, uc, rfl, _⟩ := hG6.form
        have hb7 := (Below.refl w6.heap.size w6).alloc (Nat.le_refl _) (.cells #[.slice ua F.length uc, .bool false] 102)
        have hSF : SF (w6.alloc (.cells #[.slice ua F.length uc, .bool false] 102)) w5.heap.size w6.heap.size (.slice ua F.length uc) F := by
          refine ⟨HG6.out.below hb7, (two_row (heap_alloc_new _ _)).congr fun j hj => ?_, hb6.size⟩
          rcases (show j = 0 ∨ j = 1 by omega) with rfl | rfl
          · simp
          · simp; omega
        have HSF := hid hSF
        have B7 := hid (hb6.trans (hb7.mono hb6.size))
        have HCT := hid (c_stree L la lca w5 L5.out hLl w5.heap.size w6.heap.size (Nat.le_refl _) lv.toNat 0 0 _ F _ n5 HGR.out (by have := HP4.out; omega) (by omega) (by have := HP2.out; omega) (by omega) (by have := HP2.out; omega) HSF.out B7.out)
        rw [show ((lv.toNat : Nat) : Int) = lv by omega] at HCT
        clear hG6 hb6 hb7 hSF x0
        go_wp2_with fail
        refine HCT.out.mono ?_
        rintro e w7 ⟨v7, rfl, hS7, hb7⟩
        have HS7 := hid hS7
        have B8 := hid (B7.out.trans hb7)
        have hmost := HT.out.most
        clear HCT hS7 hb7
        have HTL := hid (c_tell ((treeL L lv.toNat 0 0 F).2 : Int) w7 HS7.out (by have := HP4.out; omega) HT.out.grows.kidsLe)
        clear hmost
        go_wp2_with fail
        refine HTL.out.mono ?_
        rintro e w8 ⟨u8, rfl, hG8, hb8⟩
        have HG8 := hid hG8
        obtain ⟨ua8, uc8, rfl, _⟩ := hG8.form
        have B9 := hid (B8.out.trans (hb8.mono B8.out.size))
        have R9 := R5.out.of_block (B9.out.block _ R5.out.lt)
        have r0 := R9.cell (i := 0) (by omega)
        have f0 := R9.frozen 0
        have E0 := hid ((R9.set 0 (.slice ua8 (tellF (treeL L lv.toNat 0 0 F).1).length uc8)).cell (i := 0) (by omega))
        simp only [if_true] at E0
        have HG9 := hid ((HG8.out.setRow (o := 0) R9 (by decide) (by decide) (.slice ua8 (tellF (treeL L lv.toNat 0 0 F).1).length uc8)).mono (show w.heap.size ≤ _ from Nat.le_trans X5.out.2.2.size B8.out.size))
        have HB9 := hid ((X5.out.2.2.trans (B9.out.mono X5.out.2.2.size)).setCell (p := ⟨w.heap.size + 1, 0, none⟩) (by dsimp only; omega) (.slice ua8 (tellF (treeL L lv.toNat 0 0 F).1).length uc8))
        clear HTL hG8 HG8 hb8 R9 B8 HS7
        unfold tofR at HV
        generalize hT : tellF (treeL L lv.toNat 0 0 F).1 = TF at *
        generalize tellQ (treeL L lv.toNat 0 0 F).1 ((treeL L lv.toNat 0 0 F).2 : Int) = TQ at *
        generalize tellB (treeL L lv.toNat 0 0 F).1 = TB at *
        clear hT
        go_wp2_with fail
        rw [HV.out.1, HV.out.2.1, HV.out.2.2]
        exact bodyPost_ret (v := .tuple #[.agg #[.slice ua8 TF.length uc8], .int .i64 TQ, .bool TB]) (by simp [results, Try.results17, go_sem, E0.out]) rfl ⟨.slice ua8 TF.length uc8, rfl, HG9.out, HB9.out⟩

end Go.Proofs.Ytmapbkefndbnnaa
