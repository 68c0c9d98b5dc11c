/- What the program's changeQuad and CentreOf answer. -/
import Derived.Test.YtmapbkefndbnnaaAns
namespace Go.Proofs.Ytmapbkefndbnnaa
open Go.RowKit
set_option linter.unusedVariables false
set_option linter.unusedSimpArgs false
attribute [local go_sem ↓] Go.wp_at_zero Go.wp_at_succ

set_option maxHeartbeats 2000000 in
set_option maxRecDepth 100000 in
theorem c_changeQuad (f : Nat) (hf : f = 121 ∨ f = 118) (least most : Int) (R : List Qd × Nat) (a : Option Addr) (F : List Qd) (ca : Nat) (q : Int) (w : World) (ha : QSeg w a F) (hl : F.length ≤ 1048576) (hk : KidsLe F) (hca : F.length ≤ ca) (hcm : ca ≤ 9223372036854775807) (ok : Bool) (hok : (goodF F && hlB F q least most) = ok)
    (hR : ok = true → Grows R.1 ∧ R.1.length ≤ 10000 ∧ ∀ (W : World) (base p g cap mb : Nat), Grv W base p g cap mb F → Calls Try.prog f #[.pointer (some ⟨p, 0, none⟩), .int .i64 q] W fun e w' => ∃ g' cap', e = .returned (.int .i64 (R.2 : Int)) ∧ Grv w' base p g' cap' mb R.1 ∧ Below base W w') :
    Calls Try.prog 117 #[.agg #[.slice a F.length ca], .int .i64 q, .int .i64 least, .int .i64 most, .func (.func f) #[] #[]] w fun e w' => ∃ u, e = .returned (.tuple #[.agg #[u], .int .i64 (ansQ ok R), .bool (ansB ok R)]) ∧ FOwn w' w.heap.size w'.heap.size u (ansF ok R) ∧ Below w.heap.size w w' := by
  have B1 := (Bx.nil w).add (by simp) #[.slice a F.length ca] 25
  have B2 := hid (B1.add (by simp) #[.slice none 0 0] 25)
  have Q2 := hid (ha.below B2.out.2.2)
  clear B1 ha
  have x0 := B2.out.cell 0 0 (v := .slice a F.length ca) rfl rfl
  rw [Nat.add_zero] at x0
  have fin : ∀ W : World, Below w.heap.size w W → ∃ u, Ending.returned (.tuple #[.agg #[.slice none 0 0], .int .i64 0, .bool false]) = .returned (.tuple #[.agg #[u], .int .i64 0, .bool false]) ∧ FOwn W w.heap.size W.heap.size u [] ∧ Below w.heap.size w W := fun W h => ⟨_, rfl, .inl ⟨rfl, rfl⟩, h⟩
  have HC := hid (c_groveOf a F ca _ Q2.out hl hk hca hcm)
  cases hg : goodF F
  · rw [hg] at HC
    have HV := hid (show ok = false by rw [← hok, hg]; rfl)
    clear hg hok hR
    go_enter Try.func117, Try.ntmps117
    go_wp2_with fail
    refine HC.out.mono ?_
    rintro e w3 ⟨pv, rfl, ho, hb⟩
    have B3 := hid (B2.out.step hb)
    clear ho HC hb
    have R9 := B3.out.row 1 (v := .slice none 0 0) (t := 25) rfl
    have r0 := R9.cell (i := 0) (by omega)
    have f0 := R9.frozen 0
    have E0 := hid ((R9.set 0 (.slice none 0 0)).cell (i := 0) (by omega))
    simp only [if_true] at E0
    have HB := hid (B3.out.2.2.setCell (p := ⟨w.heap.size + 1, 0, none⟩) (by dsimp only; omega) (.slice none 0 0))
    clear R9
    go_wp2_with fail
    rw [HV.out, (ans_no _).1, (ans_no _).2.1, (ans_no _).2.2]
    exact bodyPost_ret (v := .tuple #[.agg #[.slice none 0 0], .int .i64 0, .bool false]) (by simp [results, Try.results117, go_sem, E0.out]) rfl (fin _ HB.out)
  · rw [hg] at HC
    have HG := hid hg
    cases hh : hlB F q least most
    · have HV := hid (show ok = false by rw [← hok, hg, hh]; rfl)
      have HE := hid (fun (W : World) (base p g cap mb : Nat) (h : Grv W base p g cap mb F) => c_hasLevel q least most false W hh h)
      clear hok hR hg hh
      go_enter Try.func117, Try.ntmps117
      go_wp2_with fail
      refine HC.out.mono ?_
      rintro e w3 ⟨pv, rfl, ho, hb⟩
      have B3 := hid (B2.out.step hb)
      rcases ho with ⟨_, p, g, cap, mb, base, hbase, rfl, hGv⟩ | ⟨e, _⟩
      · have HGV := hid hGv
        clear HC hb hGv
        go_wp2_with fail
        refine (HE.out _ _ _ _ _ _ HGV.out).mono ?_
        rintro e w4 ⟨rfl, hb4⟩
        have B4 := hid (B3.out.step hb4)
        clear hb4
        have R9 := B4.out.row 1 (v := .slice none 0 0) (t := 25) rfl
        have r0 := R9.cell (i := 0) (by omega)
        have f0 := R9.frozen 0
        have E0 := hid ((R9.set 0 (.slice none 0 0)).cell (i := 0) (by omega))
        simp only [if_true] at E0
        have HB := hid (B4.out.2.2.setCell (p := ⟨w.heap.size + 1, 0, none⟩) (by dsimp only; omega) (.slice none 0 0))
        clear R9
        go_wp2_with fail
        rw [HV.out, (ans_no _).1, (ans_no _).2.1, (ans_no _).2.2]
        exact bodyPost_ret (v := .tuple #[.agg #[.slice none 0 0], .int .i64 0, .bool false]) (by simp [results, Try.results117, go_sem, E0.out]) rfl (fin _ HB.out)
      · rw [HG.out] at e; cases e
    · have HV := hid (show ok = true by rw [← hok, hg, hh]; rfl)
      obtain ⟨hGR, hLR, hcall⟩ := hR HV.out
      have HGR := hid hGR
      have HLR := hid (show R.1.length ≤ 100000 by omega)
      have HCALL := hid hcall
      have HE := hid (fun (W : World) (base p g cap mb : Nat) (h : Grv W base p g cap mb F) => c_hasLevel q least most true W hh h)
      clear hok hR hg hh hGR hLR hcall
      rcases hf with rfl | rfl
      all_goals
        go_enter Try.func117, Try.ntmps117
        go_wp2_with fail
        refine HC.out.mono ?_
        rintro e w3 ⟨pv, rfl, ho, hb⟩
        have B3 := hid (B2.out.step hb)
        rcases ho with ⟨_, p, g, cap, mb, base, hbase, rfl, hGv⟩ | ⟨e, _⟩
        · have HGV := hid hGv
          have HBS := hid (show w.heap.size + 2 ≤ base from Nat.le_trans B2.out.2.1 hbase)
          clear HC hb hGv hbase x0
          go_wp2_with fail
          refine (HE.out _ _ _ _ _ _ HGV.out).mono ?_
          rintro e w4 ⟨rfl, hb4⟩
          have B4 := hid (B3.out.step hb4)
          have G4 := hid (HGV.out.below hb4)
          clear hb4
          go_wp2_with fail
          refine (HCALL.out _ _ _ _ _ _ G4.out).mono ?_
          rintro e w7 ⟨g7, cap7, rfl, hG7, hb7⟩
          have R7 := hid ((B4.out.row 1 (v := .slice none 0 0) (t := 25) rfl).of_block (hb7.block _ (show w.heap.size + 1 < base by have := HBS.out; omega)))
          have HB7 := hid (B4.out.2.2.trans (hb7.mono (show w.heap.size ≤ base by have := HBS.out; omega)))
          have HG7 := hid hG7
          clear hG7 hb7
          have HTL := hid (c_told (R.2 : Int) w7 HG7.out HGR.out HLR.out)
          go_wp2_with fail
          refine HTL.out.mono ?_
          rintro e w8 ⟨u8, rfl, hO8, hb8⟩
          have HO8 := hid hO8
          obtain ⟨ua8, uc8, rfl, _⟩ := hO8.form
          have R9 := R7.out.of_block (hb8.block _ R7.out.lt)
          have hlt7 := R7.out.lt
          have r0 := R9.cell (i := 0) (by omega)
          have f0 := R9.frozen 0
          have E0 := hid ((R9.set 0 (.slice ua8 (tellF R.1).length uc8)).cell (i := 0) (by omega))
          simp only [if_true] at E0
          have hs9 : (w8.setCell ⟨w.heap.size + 1, 0, none⟩ (.slice ua8 (tellF R.1).length uc8)).heap.size = w8.heap.size := by simp
          have hGW : Grew w8 (w8.setCell ⟨w.heap.size + 1, 0, none⟩ (.slice ua8 (tellF R.1).length uc8)) (w.heap.size + 1) (w.heap.size + 1 + 1) := (Grew.refl w8 _ _).set (Nat.le_refl _) (by omega) _
          have HO9 := hid ((HO8.out.kept hGW (by omega)).wide (lo' := w.heap.size) (hi' := w8.heap.size) (by omega) (Nat.le_refl _) (by rw [hs9]; exact Nat.le_refl _))
          have HB9 := hid ((HB7.out.trans (hb8.mono HB7.out.size)).setCell (p := ⟨w.heap.size + 1, 0, none⟩) (by dsimp only; omega) (.slice ua8 (tellF R.1).length uc8))
          have HS9 := hid hs9
          clear HTL hO8 HO8 hb8 R9 hGW hs9 hlt7
          generalize hT : tellF R.1 = TF at *
          generalize hQ' : tellQ R.1 (R.2 : Int) = TQ at *
          generalize hB' : tellB R.1 = TB at *
          go_wp2_with fail
          rw [HV.out, (ans_yes _).1, (ans_yes _).2.1, (ans_yes _).2.2, hT, hQ', hB']
          exact bodyPost_ret (v := .tuple #[.agg #[.slice ua8 TF.length uc8], .int .i64 TQ, .bool TB]) (by simp [results, Try.results117, go_sem, E0.out]) rfl ⟨.slice ua8 TF.length uc8, rfl, by rw [HS9.out]; exact HO9.out, HB9.out⟩
        · rw [HG.out] at e; cases e


/-- A function that hands changeQuad's answer on. -/
theorem cen_ok (F : List Qd) (q : Int) : (goodF F && hlB F q 2 5) = cenOK F q := by
  unfold cenOK thereB hlB
  cases hg : goodF F
  · rfl
  · cases hq : inB 0 ((F.length : Int) - 1) q
    · rfl
    · have h1 := inB_bd hq
      have h2 := levN_le hg (show q.toNat < F.length by omega)
      simp only [Bool.true_and, inB]
      rw [decide_eq_true (show (qa F q.toNat).1 ≤ 5 by omega), Bool.and_true]
theorem cen_call {F : List Qd} {q : Int} (h : cenOK F q = true) : Grows (cenR F q).1 ∧ (cenR F q).1.length ≤ 10000 ∧ ∀ (W : World) (base p g cap mb : Nat), Grv W base p g cap mb F → Calls Try.prog 121 #[.pointer (some ⟨p, 0, none⟩), .int .i64 q] W fun e w' => ∃ g' cap', e = .returned (.int .i64 ((cenR F q).2 : Int)) ∧ Grv w' base p g' cap' mb (cenR F q).1 ∧ Below base W w' := by
  have hgr := cen_grows h
  simp only [cenOK, Bool.and_eq_true, decide_eq_true_eq] at h
  obtain ⟨h1, h2, h3⟩ := there_to h.1
  have h5 := levN_le h1 h2
  have h6 := good_len2 h1
  obtain ⟨m, hm⟩ : ∃ m, levN F q.toNat = m + 2 := ⟨levN F q.toNat - 2, by omega⟩
  refine ⟨hgr, ?_, ?_⟩
  · have t := (treeL_tr (mv (cellsOfQ F q.toNat) (-(2 ^ (levN F q.toNat - 2))) (-(2 ^ (levN F q.toNat - 2)))) (levN F q.toNat - 1) 0 0 F (by omega) (good_grows h1)).most
    have := pow4_le (show levN F q.toNat - 1 ≤ 5 by omega)
    unfold cenR; omega
  · intro W base p g cap mb hG
    have hj := cen_join h1 h2 hm
    rw [h3] at hj
    rw [hj]
    have hT := cellsOfQ_is h1 h2
    rw [hm] at hT
    have := c_centre m q.toNat W (good_grows h1) (by omega) hT hG
    rw [h3] at this
    exact this.mono fun e w' ⟨g', c', e1, e2, e3, _⟩ => ⟨g', c', e1, e2, e3⟩

set_option maxHeartbeats 1000000 in
set_option maxRecDepth 100000 in
theorem c_iCentreOf (a : Option Addr) (F : List Qd) (ca : Nat) (q : Int) (w : World) (ha : QSeg w a F) (hl : F.length ≤ 1048576) (hk : KidsLe F) (hca : F.length ≤ ca) (hcm : ca ≤ 9223372036854775807) :
    Calls Try.prog 61 #[.agg #[.slice a F.length ca], .int .i64 q] w fun e w' => ∃ u, e = .returned (.tuple #[.agg #[u], .int .i64 (ansQ (cenOK F q) (cenR F q)), .bool (ansB (cenOK F q) (cenR F q))]) ∧ FOwn w' w.heap.size w'.heap.size u (ansF (cenOK F q) (cenR F q)) ∧ Below w.heap.size w w' := by
  have B1 := (Bx.nil w).add (by simp) #[.slice a F.length ca] 25
  have B2 := hid (B1.add (by simp) #[.slice none 0 0] 25)
  have x0 := B2.out.cell 0 0 (v := .slice a F.length ca) rfl rfl
  rw [Nat.add_zero] at x0
  have HC := hid (c_changeQuad 121 (by simp) 2 5 (cenR F q) a F ca q _ (ha.below B2.out.2.2) hl hk hca hcm (cenOK F q) (cen_ok F q) cen_call)
  clear B1 ha
  generalize ansF (cenOK F q) (cenR F q) = TF at *
  generalize ansQ (cenOK F q) (cenR F q) = TQ at *
  generalize ansB (cenOK F q) (cenR F q) = TB at *
  go_enter Try.func61, Try.ntmps61
  go_wp2_with fail
  refine HC.out.mono ?_
  rintro e w8 ⟨u8, rfl, hO8, hb8⟩
  have HO8 := hid hO8
  obtain ⟨ua8, uc8, rfl, _⟩ := hO8.form
  have R9 := (B2.out.step hb8).row 1 (v := .slice none 0 0) (t := 25) rfl
  have r0 := R9.cell (i := 0) (by omega)
  have f0 := R9.frozen 0
  have E0 := hid ((R9.set 0 (.slice ua8 TF.length uc8)).cell (i := 0) (by omega))
  simp only [if_true] at E0
  have hs9 : (w8.setCell ⟨w.heap.size + 1, 0, none⟩ (.slice ua8 TF.length uc8)).heap.size = w8.heap.size := by simp
  have hGW : Grew w8 (w8.setCell ⟨w.heap.size + 1, 0, none⟩ (.slice ua8 TF.length uc8)) (w.heap.size + 1) (w.heap.size + 1 + 1) := (Grew.refl w8 _ _).set (Nat.le_refl _) (by omega) _
  have h21 := B2.out.2.1
  simp only [List.length_append, List.length_cons, List.length_nil] at h21
  have HO9 := hid ((HO8.out.kept hGW (by omega)).wide (lo' := w.heap.size) (hi' := w8.heap.size) (by omega) (Nat.le_refl _) (by rw [hs9]; exact Nat.le_refl _))
  have HB9 := hid ((B2.out.step hb8).2.2.setCell (p := ⟨w.heap.size + 1, 0, none⟩) (by dsimp only; omega) (.slice ua8 TF.length uc8))
  have HS9 := hid hs9
  clear HC hO8 HO8 hb8 R9 hGW hs9 h21
  go_wp2_with fail
  exact bodyPost_ret (v := .tuple #[.agg #[.slice ua8 TF.length uc8], .int .i64 TQ, .bool TB]) (by simp [results, Try.results61, go_sem, E0.out]) rfl ⟨.slice ua8 TF.length uc8, rfl, by rw [HS9.out]; exact HO9.out, HB9.out⟩

end Go.Proofs.Ytmapbkefndbnnaa
