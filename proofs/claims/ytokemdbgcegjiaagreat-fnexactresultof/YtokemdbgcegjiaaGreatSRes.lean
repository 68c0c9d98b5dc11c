/- Texts of this seat, one behind the other: SRes. -/
import Derived.Test.YtokemdbgcegjiaaGreatB22
import Derived.Test.YtokemdbgcegjiaaGreatSTreeE
namespace Go.Proofs.YtokemdbgcegjiaaGreat
open Go.RowKit
set_option linter.unusedVariables false
set_option linter.unusedSimpArgs false
attribute [local go_sem ↓] Go.wp_at_zero Go.wp_at_succ

/-- What a quad's cells come to by a quarter of its side, and the tree of their middle. -/
noncomputable def resC (F : List Qd) (q : Nat) : List Cl := stepsL (2 ^ (levN F q - 2)) (ordL (cellsOfQ F q))
noncomputable def resT (F : List Qd) (q : Nat) : List Qd × Nat := treeL (mv (resC F q) (-(2 ^ (levN F q - 2))) (-(2 ^ (levN F q - 2)))) (levN F q - 1) 0 0 F

theorem cells_in (F : List Qd) (q : Nat) (h : levN F q ≤ 5) : InB 0 31 (cellsOfQ F q) := by
  intro c hc
  have h1 := cellsL_in F (levN F q) q 0 0 c hc
  have h2 := pow2F h
  omega
theorem cells_few (F : List Qd) (q : Nat) (h : levN F q ≤ 5) : (cellsOfQ F q).length ≤ 1024 := by
  have h1 := cellsL_len F (levN F q) q 0 0
  have h2 := pow4F h
  unfold cellsOfQ
  omega
/-- What a quad comes to is ordered, and near by. -/
theorem resC_facts (F : List Qd) (q : Nat) (h : levN F q ≤ 5) : risTo (resC F q) (resC F q).length = true ∧ InB (-8) 39 (resC F q) ∧ (resC F q).length ≤ 6561 := by
  obtain ⟨l', h1, h2⟩ := ord_ex (cellsOfQ F q)
  have e : ordL (cellsOfQ F q) = l' := ordL_eq h1 h2
  have hI : InB 0 31 l' := fun c hc => cells_in F q h c ((h2 c).1 hc)
  have hk : 2 ^ (levN F q - 2) ≤ 8 := by
    rcases (show levN F q - 2 = 0 ∨ levN F q - 2 = 1 ∨ levN F q - 2 = 2 ∨ levN F q - 2 = 3 by omega) with e | e | e | e <;> rw [e] <;> decide
  unfold resC
  rw [e]
  have hr := steps_ris (n := 2 ^ (levN F q - 2)) h1
  have hS : InB (-8) 39 (stepsL (2 ^ (levN F q - 2)) l') := (InB.steps (l := l') (n := 2 ^ (levN F q - 2)) hI).wide (by omega) (by omega)
  exact ⟨hr, hS, len_box hr (hS.wide (by omega) (by omega))⟩

set_option maxHeartbeats 4000000 in
set_option maxRecDepth 100000 in
theorem c_sresult {F : List Qd} (hf : FineF F) (hGr : Grows F) (hlen : F.length ≤ 8000) (q : Nat) (hq : q < F.length) (h2 : 2 ≤ levN F q) (base p : Nat) (v : Value) (w : World) (hS : SF w base p v F) :
    Calls Tryz.prog 58 #[.pointer (some ⟨p, 0, none⟩), .int .i64 (q : Int)] w fun e w' => ∃ v', e = .returned (.int .i64 ((resT F q).2 : Int)) ∧ SF w' base p v' (resT F q).1 ∧ Below base w w' ∧ KeepT w w' := by
  obtain ⟨va, vc, rfl, hca, hcm, hQ⟩ := hS.gf.form
  obtain ⟨_, _, hl5, hlev⟩ := fine_levF hf hq
  have HLV := hid (c_level (q : Int) w hS.gf hS.c0 (by omega) (by omega))
  rw [Int.toNat_natCast, hlev] at HLV
  have hbs : base ≤ w.heap.size := Nat.le_trans hS.low (Nat.le_of_lt hS.box.lt)
  have HCE := hid (c_l3CellsAllF hf va vc (q : Int) w hQ (by omega) (by omega))
  rw [Int.toNat_natCast] at HCE
  have HCI := hid (cells_in F q hl5)
  have HCF := hid (cells_few F q hl5)
  obtain ⟨r1, r2, r3⟩ := resC_facts F q hl5
  have HR2 := hid r2
  have HRE := hid (show stepsL (2 ^ (levN F q - 2)) (ordL (cellsOfQ F q)) = resC F q from rfl)
  have HRT := hid (show treeL (mv (resC F q) (-(2 ^ (levN F q - 2))) (-(2 ^ (levN F q - 2)))) (levN F q - 1) 0 0 F = resT F q from rfl)
  have HSF := hid hS
  have x0 := hS.c0
  clear hQ r1 r2 hlev hS
  generalize hRC : resC F q = RC at *
  generalize hRR : resT F q = RT at *
  generalize cellsOfQ F q = CL at *
  have hlo : levN F q = 2 ∨ levN F q = 3 ∨ levN F q = 4 ∨ levN F q = 5 := by omega
  generalize levN F q = nn at *
  clear h2 hl5 hRC hRR
  rcases hlo with rfl | rfl | rfl | rfl
  · go_enter Tryz.func58, Tryz.ntmps58
    go_wp2_with fail
    refine HLV.out.mono ?_
    rintro e w0 ⟨rfl, rfl⟩
    go_wp2_with fail
    refine HCE.out.mono ?_
    rintro e w1 ⟨v1, rfl, hO1, hb1⟩
    obtain ⟨a1, c1, rfl, hs1⟩ := hO1.form
    have HS1 := hid hs1
    have HB1 := hid hb1
    clear hO1 hs1 hb1 HCE HLV
    have HA := hid (c_l5After a1 CL c1 1 w1 HS1.out (by have := HCF.out; omega) HCI.out (by omega))
    rw [show stepsL 1 (ordL CL) = RC from HRE.out] at HA
    go_wp2_with fail
    refine HA.out.mono ?_
    rintro e w2 ⟨v2, rfl, hS2, hb2⟩
    obtain ⟨a2, c2, rfl, hs2, _⟩ := hS2.form
    have HS2 := hid hs2
    have HB2 := hid (HB1.out.trans (hb2.mono HB1.out.size))
    clear hS2 hs2 hb2 HA HB1 HS1
    have HM := hid (c_l1Move a2 RC c2 (-1) (-1) w2 HS2.out (by omega) (HR2.out.wide (by omega) (by omega)).inR (by omega) (by omega))
    go_wp2_with fail
    refine HM.out.mono ?_
    rintro e w3 ⟨v3, rfl, hO3, hb3⟩
    obtain ⟨a3, c3, rfl, _⟩ := hO3.form
    have HT3 := hid hO3.tys.2
    have HB3 := hid (HB2.out.trans (hb3.mono HB2.out.size))
    clear hO3 hb3 HM HB2 HS2
    have HTR := hid (c_streeE (mv RC (-1) (-1)) a3 c3 (by rw [mv_length]; omega) base p (2 - 1) 0 0 _ F w3 (by omega) hGr (by omega) (by omega) (by omega) (by omega) (by omega) (HSF.out.below HB3.out) HT3.out (by intro z h; cases h))
    rw [show treeL (mv RC (-1) (-1)) (2 - 1) 0 0 F = RT from HRT.out] at HTR
    go_wp2_with fail
    refine HTR.out.mono ?_
    rintro e w4 ⟨v4, rfl, hS4, hb4, hk4⟩
    have HS4 := hid hS4
    have HB4 := hid ((HB3.out.mono hbs).trans hb4)
    have HK4 := hid ((KeepT.of HB3.out).trans hk4)
    clear hS4 hb4 hk4 HTR
    go_wp2_with fail
    go_ret
    exact ⟨_, rfl, HS4.out, HB4.out, HK4.out⟩
  · go_enter Tryz.func58, Tryz.ntmps58
    go_wp2_with fail
    refine HLV.out.mono ?_
    rintro e w0 ⟨rfl, rfl⟩
    go_wp2_with fail
    refine HCE.out.mono ?_
    rintro e w1 ⟨v1, rfl, hO1, hb1⟩
    obtain ⟨a1, c1, rfl, hs1⟩ := hO1.form
    have HS1 := hid hs1
    have HB1 := hid hb1
    clear hO1 hs1 hb1 HCE HLV
    have HA := hid (c_l5After a1 CL c1 2 w1 HS1.out (by have := HCF.out; omega) HCI.out (by omega))
    rw [show stepsL 2 (ordL CL) = RC from HRE.out] at HA
    go_wp2_with fail
    refine HA.out.mono ?_
    rintro e w2 ⟨v2, rfl, hS2, hb2⟩
    obtain ⟨a2, c2, rfl, hs2, _⟩ := hS2.form
    have HS2 := hid hs2
    have HB2 := hid (HB1.out.trans (hb2.mono HB1.out.size))
    clear hS2 hs2 hb2 HA HB1 HS1
    have HM := hid (c_l1Move a2 RC c2 (-2) (-2) w2 HS2.out (by omega) (HR2.out.wide (by omega) (by omega)).inR (by omega) (by omega))
    go_wp2_with fail
    refine HM.out.mono ?_
    rintro e w3 ⟨v3, rfl, hO3, hb3⟩
    obtain ⟨a3, c3, rfl, _⟩ := hO3.form
    have HT3 := hid hO3.tys.2
    have HB3 := hid (HB2.out.trans (hb3.mono HB2.out.size))
    clear hO3 hb3 HM HB2 HS2
    have HTR := hid (c_streeE (mv RC (-2) (-2)) a3 c3 (by rw [mv_length]; omega) base p (3 - 1) 0 0 _ F w3 (by omega) hGr (by omega) (by omega) (by omega) (by omega) (by omega) (HSF.out.below HB3.out) HT3.out (by intro z h; cases h))
    rw [show treeL (mv RC (-2) (-2)) (3 - 1) 0 0 F = RT from HRT.out] at HTR
    go_wp2_with fail
    refine HTR.out.mono ?_
    rintro e w4 ⟨v4, rfl, hS4, hb4, hk4⟩
    have HS4 := hid hS4
    have HB4 := hid ((HB3.out.mono hbs).trans hb4)
    have HK4 := hid ((KeepT.of HB3.out).trans hk4)
    clear hS4 hb4 hk4 HTR
    go_wp2_with fail
    go_ret
    exact ⟨_, rfl, HS4.out, HB4.out, HK4.out⟩
  · go_enter Tryz.func58, Tryz.ntmps58
    go_wp2_with fail
    refine HLV.out.mono ?_
    rintro e w0 ⟨rfl, rfl⟩
    go_wp2_with fail
    refine HCE.out.mono ?_
    rintro e w1 ⟨v1, rfl, hO1, hb1⟩
    obtain ⟨a1, c1, rfl, hs1⟩ := hO1.form
    have HS1 := hid hs1
    have HB1 := hid hb1
    clear hO1 hs1 hb1 HCE HLV
    have HA := hid (c_l5After a1 CL c1 4 w1 HS1.out (by have := HCF.out; omega) HCI.out (by omega))
    rw [show stepsL 4 (ordL CL) = RC from HRE.out] at HA
    go_wp2_with fail
    refine HA.out.mono ?_
    rintro e w2 ⟨v2, rfl, hS2, hb2⟩
    obtain ⟨a2, c2, rfl, hs2, _⟩ := hS2.form
    have HS2 := hid hs2
    have HB2 := hid (HB1.out.trans (hb2.mono HB1.out.size))
    clear hS2 hs2 hb2 HA HB1 HS1
    have HM := hid (c_l1Move a2 RC c2 (-4) (-4) w2 HS2.out (by omega) (HR2.out.wide (by omega) (by omega)).inR (by omega) (by omega))
    go_wp2_with fail
    refine HM.out.mono ?_
    rintro e w3 ⟨v3, rfl, hO3, hb3⟩
    obtain ⟨a3, c3, rfl, _⟩ := hO3.form
    have HT3 := hid hO3.tys.2
    have HB3 := hid (HB2.out.trans (hb3.mono HB2.out.size))
    clear hO3 hb3 HM HB2 HS2
    have HTR := hid (c_streeE (mv RC (-4) (-4)) a3 c3 (by rw [mv_length]; omega) base p (4 - 1) 0 0 _ F w3 (by omega) hGr (by omega) (by omega) (by omega) (by omega) (by omega) (HSF.out.below HB3.out) HT3.out (by intro z h; cases h))
    rw [show treeL (mv RC (-4) (-4)) (4 - 1) 0 0 F = RT from HRT.out] at HTR
    go_wp2_with fail
    refine HTR.out.mono ?_
    rintro e w4 ⟨v4, rfl, hS4, hb4, hk4⟩
    have HS4 := hid hS4
    have HB4 := hid ((HB3.out.mono hbs).trans hb4)
    have HK4 := hid ((KeepT.of HB3.out).trans hk4)
    clear hS4 hb4 hk4 HTR
    go_wp2_with fail
    go_ret
    exact ⟨_, rfl, HS4.out, HB4.out, HK4.out⟩
  · go_enter Tryz.func58, Tryz.ntmps58
    go_wp2_with fail
    refine HLV.out.mono ?_
    rintro e w0 ⟨rfl, rfl⟩
    go_wp2_with fail
    refine HCE.out.mono ?_
    rintro e w1 ⟨v1, rfl, hO1, hb1⟩
    obtain ⟨a1, c1, rfl, hs1⟩ := hO1.form
    have HS1 := hid hs1
    have HB1 := hid hb1
    clear hO1 hs1 hb1 HCE HLV
    have HA := hid (c_l5After a1 CL c1 8 w1 HS1.out (by have := HCF.out; omega) HCI.out (by omega))
    rw [show stepsL 8 (ordL CL) = RC from HRE.out] at HA
    go_wp2_with fail
    refine HA.out.mono ?_
    rintro e w2 ⟨v2, rfl, hS2, hb2⟩
    obtain ⟨a2, c2, rfl, hs2, _⟩ := hS2.form
    have HS2 := hid hs2
    have HB2 := hid (HB1.out.trans (hb2.mono HB1.out.size))
    clear hS2 hs2 hb2 HA HB1 HS1
    have HM := hid (c_l1Move a2 RC c2 (-8) (-8) w2 HS2.out (by omega) (HR2.out.wide (by omega) (by omega)).inR (by omega) (by omega))
    go_wp2_with fail
    refine HM.out.mono ?_
    rintro e w3 ⟨v3, rfl, hO3, hb3⟩
    obtain ⟨a3, c3, rfl, _⟩ := hO3.form
    have HT3 := hid hO3.tys.2
    have HB3 := hid (HB2.out.trans (hb3.mono HB2.out.size))
    clear hO3 hb3 HM HB2 HS2
    have HTR := hid (c_streeE (mv RC (-8) (-8)) a3 c3 (by rw [mv_length]; omega) base p (5 - 1) 0 0 _ F w3 (by omega) hGr (by omega) (by omega) (by omega) (by omega) (by omega) (HSF.out.below HB3.out) HT3.out (by intro z h; cases h))
    rw [show treeL (mv RC (-8) (-8)) (5 - 1) 0 0 F = RT from HRT.out] at HTR
    go_wp2_with fail
    refine HTR.out.mono ?_
    rintro e w4 ⟨v4, rfl, hS4, hb4, hk4⟩
    have HS4 := hid hS4
    have HB4 := hid ((HB3.out.mono hbs).trans hb4)
    have HK4 := hid ((KeepT.of HB3.out).trans hk4)
    clear hS4 hb4 hk4 HTR
    go_wp2_with fail
    go_ret
    exact ⟨_, rfl, HS4.out, HB4.out, HK4.out⟩

end Go.Proofs.YtokemdbgcegjiaaGreat
