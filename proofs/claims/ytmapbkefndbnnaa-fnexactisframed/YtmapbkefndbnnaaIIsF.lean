/- What the program's IsFramed answers. -/
import Derived.Test.YtmapbkefndbnnaaFrP
import Derived.Test.YtmapbkefndbnnaaIChF
namespace Go.Proofs.Ytmapbkefndbnnaa
open Go.RowKit
set_option linter.unusedVariables false
set_option linter.unusedSimpArgs false
attribute [local go_sem ↓] Go.wp_at_zero Go.wp_at_succ

/-- The middle, and its frame, by the program. -/
theorem mid_frame {F : List Qd} {q : Int} (h : cenOK F q = true) : ∃ (m : Nat) (C : List Qd × Nat), (((frmJ m C).2 : Int) == q) = frdV F q ∧
    (∀ (W : World) (base p g cap mb : Nat), Grv W base p g cap mb F → Calls Try.prog 121 #[.pointer (some ⟨p, 0, none⟩), .int .i64 q] W fun e w' => ∃ g' cap', e = .returned (.int .i64 (C.2 : Int)) ∧ Grv w' base p g' cap' mb C.1 ∧ Below base W w') ∧
    (∀ (W : World) (base p g cap mb : Nat), Grv W base p g cap mb C.1 → Calls Try.prog 118 #[.pointer (some ⟨p, 0, none⟩), .int .i64 (C.2 : Int)] W fun e w' => e = .returned (.int .i64 ((frmJ m C).2 : Int)) ∧ Below base W w') := by
  have hcc := cen_call h
  have hV : cenOK F q = true := h
  simp only [cenOK, Bool.and_eq_true, decide_eq_true_eq] at h
  obtain ⟨h1, h2, h3⟩ := there_to h.1
  have h5 := levN_le h1 h2
  have h6 := good_len2 h1
  obtain ⟨m, hm⟩ : ∃ m, levN F q.toNat = m + 2 := ⟨levN F q.toNat - 2, by omega⟩
  have hj := cen_join h1 h2 hm
  rw [h3] at hj
  have hfq := framed_q h1 h2 hm (by omega)
  rw [hj] at hcc
  have hcR : cenR F q = treeL (mv (cellsOfQ F q.toNat) (-(2 ^ m)) (-(2 ^ m))) (m + 1) 0 0 F := by
    unfold cenR
    rw [hm, show m + 2 - 2 = m by omega, show m + 2 - 1 = m + 1 by omega]
  have hT := treeL_is (mv (cellsOfQ F q.toNat) (-(2 ^ m)) (-(2 ^ m))) (m + 1) 0 0 F (by omega) (good_grows h1)
  have hM := (treeL_tr (mv (cellsOfQ F q.toNat) (-(2 ^ m)) (-(2 ^ m))) (m + 1) 0 0 F (by omega) (good_grows h1)).most
  have h4 := pow4_le (show m + 1 ≤ 5 by omega)
  rw [← hcR, hj] at hT hM
  refine ⟨m, joinF F (midK F q.toNat), ?_, hcc.2.2, ?_⟩
  · have : frdV F q = (cellsOfQ F q.toNat).all (midB m) := by
      unfold frdV
      rw [hV, hm, show m + 2 - 2 = m by omega]
      rfl
    rw [this]
    cases hx : (cellsOfQ F q.toNat).all (midB m)
    · have : (frmJ m (joinF F (midK F q.toNat))).2 ≠ q.toNat := fun e => by rw [hfq.1 e] at hx; cases hx
      simp only [beq_eq_false_iff_ne, ne_eq]
      omega
    · have := hfq.2 hx
      simp only [beq_iff_eq]
      omega
  · intro W base p g cap mb hG
    exact (c_frame m _ (by omega) W hcc.1 (by omega) hT hG).mono fun e w' ⟨g', c', e1, e2, e3, _⟩ => ⟨e1, e3⟩

set_option maxHeartbeats 2000000 in
set_option maxRecDepth 100000 in
theorem c_iIsFramed (a : Option Addr) (F : List Qd) (ca : Nat) (q : Int) (w : World) (ha : QSeg w a F) (hl : F.length ≤ 1048576) (hk : KidsLe F) (hca : F.length ≤ ca) (hcm : ca ≤ 9223372036854775807) :
    Calls Try.prog 60 #[.agg #[.slice a F.length ca], .int .i64 q] w fun e w' => e = .returned (.tuple #[.bool (frdV F q), .bool (cenOK F q)]) ∧ Below w.heap.size w w' := by
  have BX := hid (Box1.new w (.slice a F.length ca) 25)
  have HC := hid (c_groveOf a F ca _ (ha.below BX.out.2.2) hl hk hca hcm)
  clear ha
  have hok := cen_ok F q
  cases hg : goodF F
  · have HV := hid (show cenOK F q = false by rw [← hok, hg]; rfl)
    have HW := hid (show frdV F q = false by simp [frdV, HV.out])
    rw [hg] at HC
    clear hok hg
    go_enter Try.func60, Try.ntmps60
    go_wp2_with fail
    refine HC.out.mono ?_
    rintro e w1 ⟨pv, rfl, ho, hb⟩
    clear HC ho
    go_wp2
    go_ret2
    exact ⟨by rw [HV.out, HW.out]; rfl, (BX.out.step hb).2.2⟩
  · rw [hg] at HC
    have HG := hid hg
    cases hh : hlB F q 2 5
    · have HV := hid (show cenOK F q = false by rw [← hok, hg, hh]; rfl)
      have HW := hid (show frdV F q = false by simp [frdV, HV.out])
      have HE := hid (fun (W : World) (base p g cap mb : Nat) (h : Grv W base p g cap mb F) => c_hasLevel q 2 5 false W hh h)
      clear hok hg hh
      go_enter Try.func60, Try.ntmps60
      go_wp2_with fail
      refine HC.out.mono ?_
      rintro e w3 ⟨pv, rfl, ho, hb⟩
      have X3 := hid (BX.out.step hb)
      rcases ho with ⟨_, p, g, cap, mb, base, hbase, rfl, hGv⟩ | ⟨e, _⟩
      · have HGV := hid hGv
        clear HC hb hGv
        go_wp2_with fail
        refine (HE.out _ _ _ _ _ _ HGV.out).mono ?_
        rintro e w4 ⟨rfl, hb4⟩
        have X4 := hid (X3.out.step hb4)
        clear hb4
        go_wp2
        go_ret2
        exact ⟨by rw [HV.out, HW.out]; rfl, X4.out.2.2⟩
      · rw [HG.out] at e; cases e
    · have HV := hid (show cenOK F q = true by rw [← hok, hg, hh]; rfl)
      obtain ⟨m, C, hW, hc1, hc2⟩ := mid_frame HV.out
      have HW := hid hW
      have H1 := hid hc1
      have H2 := hid hc2
      have HE := hid (fun (W : World) (base p g cap mb : Nat) (h : Grv W base p g cap mb F) => c_hasLevel q 2 5 true W hh h)
      generalize (frmJ m C).2 = R at *
      clear hok hg hh hW hc1 hc2
      go_enter Try.func60, Try.ntmps60
      go_wp2_with fail
      refine HC.out.mono ?_
      rintro e w3 ⟨pv, rfl, ho, hb⟩
      have X3 := hid (BX.out.step hb)
      rcases ho with ⟨_, p, g, cap, mb, base, hbase, rfl, hGv⟩ | ⟨e, _⟩
      · have HGV := hid hGv
        have HBS := hid (show w.heap.size ≤ base from Nat.le_trans BX.out.2.2.size hbase)
        clear HC hb hGv hbase
        go_wp2_with fail
        refine (HE.out _ _ _ _ _ _ HGV.out).mono ?_
        rintro e w4 ⟨rfl, hb4⟩
        have X4 := hid (X3.out.step hb4)
        have G4 := hid (HGV.out.below hb4)
        clear hb4
        go_wp2_with fail
        refine (H1.out _ _ _ _ _ _ G4.out).mono ?_
        rintro e w5 ⟨g5, cap5, rfl, hG5, hb5⟩
        have G5 := hid hG5
        have HB5 := hid (X4.out.2.2.trans (hb5.mono HBS.out))
        clear hG5 hb5
        go_wp2_with fail
        refine (H2.out _ _ _ _ _ _ G5.out).mono ?_
        rintro e w6 ⟨rfl, hb6⟩
        have HB6 := hid (HB5.out.trans (hb6.mono HBS.out))
        clear hb6
        go_wp2
        go_ret2
        exact ⟨by rw [HV.out, ← HW.out]; rfl, HB6.out⟩
      · rw [HG.out] at e; cases e

end Go.Proofs.Ytmapbkefndbnnaa
