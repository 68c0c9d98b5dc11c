/- Texts of this seat, one behind the other: SRof. -/
import Derived.Test.YtokemdbgcegjiaaGreatSRes
import Derived.Test.YtokemdbgcegjiaaGreatB10
namespace Go.Proofs.YtokemdbgcegjiaaGreat
open Go.RowKit
set_option linter.unusedVariables false
set_option linter.unusedSimpArgs false
attribute [local go_sem ↓] Go.wp_at_zero Go.wp_at_succ

set_option maxHeartbeats 1000000 in
set_option maxRecDepth 100000 in
theorem c_l5Quad (a : Option Addr) (F : List Qd) (ca : Nat) (q m : Int) (v : Bool) (hv : quadB F q m = v) (w : World) (ha : QSeg w a F) (hl : F.length ≤ 1048576) (hk : KidsLe F) (hca : F.length ≤ ca) (hcm : ca ≤ 9223372036854775807) :
    Calls Tryz.prog 55 #[.agg #[.slice a F.length ca], .int .i64 q, .int .i64 m] w fun e w' => e = .returned (.bool v) ∧ Below w.heap.size w w' := by
  have HX := hid (Box1.new w (.slice a F.length ca) 25)
  have HQ := hid (ha.below HX.out.2.2)
  have x0 := HX.out.1
  clear ha
  unfold quadB at hv
  cases hth : thereB F q
  · have HC := hid (c_l3There' a F ca q false hth _ HQ.out hl hk hca hcm)
    have HV := hid (show v = false by rw [← hv, hth]; rfl)
    clear hv hth
    go_enter Tryz.func55, Tryz.ntmps55
    go_wp2_with fail
    refine HC.out.mono ?_
    rintro e w3 ⟨rfl, hb⟩
    have HB := hid (HX.out.step hb).2.2
    clear HC hb
    go_wp2_with fail
    go_ret
    exact ⟨ret_bool HV.out.symm, HB.out⟩
  · have HC := hid (c_l3There' a F ca q true hth _ HQ.out hl hk hca hcm)
    obtain ⟨hg, h0, h1⟩ := there_bd hth
    obtain ⟨b1, o1, ak, ck, rfl, hb1, p1, _⟩ := HQ.out q.toNat (by omega)
    have HV := hid (show decide (m ≤ (qa F q.toNat).1) = v by rw [← hv, hth]; rfl)
    clear hv hth
    generalize (qa F q.toNat).1 = lv at *
    go_enter Tryz.func55, Tryz.ntmps55
    go_wp2_with fail
    refine HC.out.mono ?_
    rintro e w3 ⟨rfl, hb⟩
    have HB := hid (HX.out.step hb).2.2
    have x3 := (HX.out.step hb).1
    have y3 := (hb.cell (p := ⟨b1, o1 + q.toNat * 2, none⟩) hb1).trans p1
    clear HC hb p1 x0
    go_wp2_with fail
    go_ret
    exact ⟨ret_bool HV.out, HB.out⟩

set_option maxHeartbeats 2000000 in
set_option maxRecDepth 100000 in
theorem c_sResultOf (a : Option Addr) (F : List Qd) (ca : Nat) (q : Int) (w : World) (ha : QSeg w a F) (hl : F.length ≤ 1048576) (hk : KidsLe F) (hca : F.length ≤ ca) (hcm : ca ≤ 9223372036854775807) (hnc : NoneCap w a F) :
    Calls Tryz.prog 12 #[.agg #[.slice a F.length ca], .int .i64 q] w fun e w' => ∃ u, e = .returned (.tuple #[.agg #[u], .int .i64 (ansQ (quadB F q 2) (resT F q.toNat)), .bool (ansB (quadB F q 2) (resT F q.toNat))]) ∧ GF w' w.heap.size u (ansF (quadB F q 2) (resT F q.toNat)) ∧ Below w.heap.size w w' := by
  obtain ⟨W1, hW1⟩ : ∃ W1, W1 = w.alloc (.cells #[.slice a F.length ca] 25) := ⟨_, rfl⟩
  have X1 := Box1.new w (.slice a F.length ca) 25
  rw [← hW1] at X1
  have hb2 := (Below.refl W1.heap.size W1).alloc (Nat.le_refl _) (.cells #[.slice none 0 0] 25)
  have X2 := X1.step hb2
  have R2 := one_row (heap_alloc_new W1 (.cells #[.slice none 0 0] 25))
  have s1 : W1.heap.size = w.heap.size + 1 := by rw [hW1]; simp
  rw [s1] at R2
  have s2 : (W1.alloc (.cells #[.slice none 0 0] 25)).heap.size = w.heap.size + 1 + 1 := by simp [s1]
  rw [hW1] at X2 R2 s2
  have HX := hid X2
  have HR := hid R2
  have HSZ := hid s2
  clear X1 X2 R2 s1 s2 hb2 hW1
  clear W1
  have x0 := HX.out.1
  have HQ := hid (ha.below HX.out.2.2)
  have HNC := hid (hnc.below ha HX.out.2.2)
  clear ha hnc
  have fin : ∀ W : World, Below w.heap.size w W → ∃ u, Ending.returned (.tuple #[.agg #[.slice none 0 0], .int .i64 0, .bool false]) = .returned (.tuple #[.agg #[u], .int .i64 0, .bool false]) ∧ GF W w.heap.size u [] ∧ Below w.heap.size w W := fun W h => ⟨_, rfl, GF.nil _ _, h⟩
  cases hq : quadB F q 2
  · have HC := hid (c_l5Quad a F ca q 2 false hq _ HQ.out hl hk hca hcm)
    rw [(ans_no (resT F q.toNat)).1, (ans_no (resT F q.toNat)).2.1, (ans_no (resT F q.toNat)).2.2]
    clear hq
    go_enter Tryz.func12, Tryz.ntmps12
    go_wp2_with fail
    refine HC.out.mono ?_
    rintro e w3 ⟨rfl, hb⟩
    have R3 := HR.out.of_block (hb.block _ HR.out.lt)
    have r0 := R3.cell (i := 0) (by omega)
    have f0 := R3.frozen 0
    have E0 := hid ((R3.set 0 (.slice none 0 0)).cell (i := 0) (by omega))
    simp only [if_true] at E0
    have HB := hid ((HX.out.step hb).2.2.setCell (p := ⟨w.heap.size + 1, 0, none⟩) (by dsimp only; omega) (.slice none 0 0))
    clear HC R3
    go_wp2_with fail
    exact bodyPost_ret (v := .tuple #[.agg #[.slice none 0 0], .int .i64 0, .bool false]) (by simp [results, Tryz.results12, go_sem, E0.out]) rfl (fin _ HB.out)
  · have HC := hid (c_l5Quad a F ca q 2 true hq _ HQ.out hl hk hca hcm)
    rw [(ans_yes (resT F q.toNat)).1, (ans_yes (resT F q.toNat)).2.1, (ans_yes (resT F q.toNat)).2.2]
    unfold quadB at hq
    simp only [Bool.and_eq_true, decide_eq_true_eq] at hq
    obtain ⟨hg, h0, h1⟩ := there_bd hq.1
    have hf := good_fineF hg
    have hg2 := good_len2 hg
    obtain ⟨_, _, hl5, hlev⟩ := fine_levF hf (q := q.toNat) (by omega)
    have h2 : 2 ≤ levN F q.toNat := by have := hq.2; omega
    have HRS := hid (fun (base p : Nat) (v : Value) (W : World) (hS : SF W base p v F) => c_sresult hf (good_grows hg) (by omega) q.toNat (by omega) h2 base p v W hS)
    rw [show ((q.toNat : Nat) : Int) = q by omega] at HRS
    have HTR := hid (treeL_tr (mv (resC F q.toNat) (-(2 ^ (levN F q.toNat - 2))) (-(2 ^ (levN F q.toNat - 2)))) (levN F q.toNat - 1) 0 0 F (by omega) (good_grows hg))
    have p4 : 4 ^ (levN F q.toNat - 1) ≤ 1024 := pow4F (by omega)
    have hmost : (resT F q.toNat).1.length ≤ 1500 := by
      have := HTR.out.most
      unfold resT
      omega
    have hkl : KidsLe (resT F q.toNat).1 := HTR.out.grows.kidsLe
    have HM := hid (⟨hmost, hkl⟩ : _ ∧ _)
    clear hq hg hf hlev h2 HTR p4 hmost hkl hl5
    generalize resT F q.toNat = RT at *
    go_enter Tryz.func12, Tryz.ntmps12
    go_wp2_with fail
    refine HC.out.mono ?_
    rintro e w5 ⟨rfl, hb⟩
    have R5 := hid (HR.out.of_block (hb.block _ HR.out.lt))
    have X5 := hid (HX.out.step hb)
    have Q5 := hid (HQ.out.below hb)
    have N5 := hid (HNC.out.below HQ.out hb)
    clear HC hb HX HR HQ HNC x0
    have x0 := X5.out.1
    go_wp2_with fail
    refine (c_l3Own a F ca w5 Q5.out hl hk N5.out).mono ?_
    rintro e w6 ⟨u, rfl, hG6, hb6⟩
    have HG6 := hid hG6
    obtain ⟨ua, uc, rfl, _⟩ := hG6.form
    have hb7 := (Below.refl w6.heap.size w6).alloc (Nat.le_refl _) (.cells #[.slice ua F.length uc, .bool false] 86)
    have hSF : SF (w6.alloc (.cells #[.slice ua F.length uc, .bool false] 86)) w5.heap.size w6.heap.size (.slice ua F.length uc) F := by
      refine ⟨HG6.out.below hb7, (two_row (heap_alloc_new _ _)).congr fun j hj => ?_, hb6.size⟩
      rcases (show j = 0 ∨ j = 1 by omega) with rfl | rfl
      · simp
      · simp; omega
    have B7 := hid (hb6.trans (hb7.mono hb6.size))
    have HCT := hid (HRS.out _ _ _ _ hSF)
    clear hG6 hb6 hb7 hSF x0 HRS
    go_wp2_with fail
    refine HCT.out.mono ?_
    rintro e w7 ⟨v7, rfl, hS7, hb7, _⟩
    have HS7 := hid hS7
    have B8 := hid (B7.out.trans hb7)
    clear HCT hS7 hb7
    have HTL := hid (c_tell (RT.2 : Int) w7 HS7.out (by have := HM.out.1; omega) HM.out.2)
    go_wp2_with fail
    refine HTL.out.mono ?_
    rintro e w8 ⟨u8, rfl, hG8, hb8⟩
    have HG8 := hid hG8
    obtain ⟨ua8, uc8, rfl, _⟩ := hG8.form
    have B9 := hid (B8.out.trans (hb8.mono B8.out.size))
    have R9 := R5.out.of_block (B9.out.block _ R5.out.lt)
    have r0 := R9.cell (i := 0) (by omega)
    have f0 := R9.frozen 0
    have E0 := hid ((R9.set 0 (.slice ua8 (tellF RT.1).length uc8)).cell (i := 0) (by omega))
    simp only [if_true] at E0
    have HG9 := hid ((HG8.out.setRow (o := 0) R9 (by decide) (by decide) (.slice ua8 (tellF RT.1).length uc8)).mono (show w.heap.size ≤ _ from Nat.le_trans X5.out.2.2.size B8.out.size))
    have HB9 := hid ((X5.out.2.2.trans (B9.out.mono X5.out.2.2.size)).setCell (p := ⟨w.heap.size + 1, 0, none⟩) (by dsimp only; omega) (.slice ua8 (tellF RT.1).length uc8))
    clear HTL hG8 HG8 hb8 R9 B8 HS7
    go_wp2_with fail
    exact bodyPost_ret (v := .tuple #[.agg #[.slice ua8 (tellF RT.1).length uc8], .int .i64 (tellQ RT.1 (RT.2 : Int)), .bool (tellB RT.1)]) (by simp [results, Tryz.results12, go_sem, E0.out]) rfl ⟨.slice ua8 (tellF RT.1).length uc8, rfl, HG9.out, HB9.out⟩

end Go.Proofs.YtokemdbgcegjiaaGreat
