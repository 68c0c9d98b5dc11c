/- What the program's SetCell and ClearBox answer. -/
import Derived.Test.YtmapbkefndbnnaaAns
namespace Go.Proofs.Ytmapbkefndbnnaa
open Go.RowKit
set_option linter.unusedVariables false
set_option linter.unusedSimpArgs false
attribute [local go_sem ↓] Go.wp_at_zero Go.wp_at_succ

theorem fill_call {F : List Qd} {q : Int} (L' : List Cl) (fx fy tx ty : Int) (is : Nat) (his : is = 0 ∨ is = 1) (isv : Int) (hisv : (is : Int) = isv) (hth : thereB F q = true) (hm : ∀ d, sqB (levN F q.toNat) 0 0 d → (d ∈ L' ↔ if mtB fx fy tx ty 0 d.1 d.2 = true then is = 1 else d ∈ cellsOfQ F q.toNat)) : Grows (treeL L' (levN F q.toNat) 0 0 F).1 ∧ (treeL L' (levN F q.toNat) 0 0 F).1.length ≤ 10000 ∧ ∀ (W : World) (base p g cap mb : Nat), Grv W base p g cap mb F → Calls Try.prog 103 #[.pointer (some ⟨p, 0, none⟩), .int .i64 q, .agg #[.int .i64 0, .int .i64 0], .func (.func 104) #[.agg #[.int .i64 fx, .int .i64 fy, .int .i64 tx, .int .i64 ty]] #[], .int .i64 isv] W fun e w' => ∃ g' cap', e = .returned (.int .i64 ((treeL L' (levN F q.toNat) 0 0 F).2 : Int)) ∧ Grv w' base p g' cap' mb (treeL L' (levN F q.toNat) 0 0 F).1 ∧ Below base W w' := by
  obtain ⟨h1, h2, h3⟩ := there_to hth
  have n5 := (levN_le h1 h2).1
  have h6 := good_len2 h1
  have p4 := pow4_le n5
  have p2 := pow_le_32 n5
  have t := treeL_tr L' (levN F q.toNat) 0 0 F n5 (good_grows h1)
  refine ⟨t.grows, by have := t.most; omega, ?_⟩
  intro W base p g cap mb hG
  have := c_fill (cellsOfQ F q.toNat) L' fx fy tx ty is his base p mb (levN F q.toNat) q.toNat 0 0 F g cap W n5 (good_grows h1) (by omega) (by omega) (by omega) (by omega) (by omega) (cellsOfQ_is h1 h2) hm hG
  rw [h3, hisv] at this
  exact this.mono fun e w' ⟨g', c', e1, e2, e3, _⟩ => ⟨g', c', e1, e2, e3⟩

set_option maxHeartbeats 4000000 in
set_option maxRecDepth 100000 in
theorem c_iSetCell (a : Option Addr) (F : List Qd) (ca : Nat) (q : Int) (c : Cl) (al : Bool) (w : World) (ha : QSeg w a F) (hl : F.length ≤ 1048576) (hk : KidsLe F) (hca : F.length ≤ ca) (hcm : ca ≤ 9223372036854775807) :
    Calls Try.prog 44 #[.agg #[.slice a F.length ca], .int .i64 q, .agg #[.int .i64 c.1, .int .i64 c.2], .bool al] w fun e w' => ∃ u, e = .returned (.tuple #[.agg #[u], .int .i64 (ansQ (setOK F q c) (setR F q c al)), .bool (ansB (setOK F q c) (setR F q c al))]) ∧ FOwn w' w.heap.size w'.heap.size u (ansF (setOK F q c) (setR F q c al)) ∧ Below w.heap.size w w' := by
  have B1 := (Bx.nil w).add (by simp) #[.slice a F.length ca] 25
  have B1b := B1.add (by simp) #[.int .i64 c.1, .int .i64 c.2] 39
  have B2 := hid (B1b.add (by simp) #[.slice none 0 0] 25)
  have Q2 := hid (ha.below B2.out.2.2)
  clear B1 B1b ha
  have x0 := B2.out.cell 0 0 (v := .slice a F.length ca) rfl rfl
  rw [Nat.add_zero] at x0
  have fin : ∀ W : World, Below w.heap.size w W → ∃ u, Ending.returned (.tuple #[.agg #[.slice none 0 0], .int .i64 0, .bool false]) = .returned (.tuple #[.agg #[u], .int .i64 0, .bool false]) ∧ FOwn W w.heap.size W.heap.size u [] ∧ Below w.heap.size w W := fun W h => ⟨_, rfl, .inl ⟨rfl, rfl⟩, h⟩
  have HC := hid (c_groveOf a F ca _ Q2.out hl hk hca hcm)
  cases hg : goodF F
  · rw [hg] at HC
    have HV := hid (show setOK F q c = false by simp [setOK, thereB, hg])
    clear hg
    go_enter Try.func44, Try.ntmps44
    go_wp2_with fail
    refine HC.out.mono ?_
    rintro e w3 ⟨pv, rfl, ho, hb⟩
    have B3 := hid (B2.out.step hb)
    clear ho HC hb
    have R9 := B3.out.row 2 (v := .slice none 0 0) (t := 25) rfl
    have r0 := R9.cell (i := 0) (by omega)
    have f0 := R9.frozen 0
    have E0 := hid ((R9.set 0 (.slice none 0 0)).cell (i := 0) (by omega))
    simp only [if_true] at E0
    have HB := hid (B3.out.2.2.setCell (p := ⟨w.heap.size + 2, 0, none⟩) (by dsimp only; omega) (.slice none 0 0))
    clear R9
    go_wp2_with fail
    rw [HV.out, (ans_no _).1, (ans_no _).2.1, (ans_no _).2.2]
    exact bodyPost_ret (v := .tuple #[.agg #[.slice none 0 0], .int .i64 0, .bool false]) (by simp [results, Try.results44, go_sem, E0.out]) rfl (fin _ HB.out)
  · rw [hg] at HC
    have HG := hid hg
    cases hq : inB 0 ((F.length : Int) - 1) q
    · have HV := hid (show setOK F q c = false by simp [setOK, thereB, hq])
      have HE := hid (fun (W : World) (base p g cap mb : Nat) (h : Grv W base p g cap mb F) => c_has' q false W hq h)
      clear hg hq
      go_enter Try.func44, Try.ntmps44
      go_wp2_with fail
      refine HC.out.mono ?_
      rintro e w3 ⟨pv, rfl, ho, hb⟩
      have B3 := hid (B2.out.step hb)
      rcases ho with ⟨_, p, g, cap, mb, base, hbase, rfl, hGv⟩ | ⟨e, _⟩
      · have HGV := hid hGv
        clear HC hb hGv x0
        go_wp2_with fail
        refine (HE.out _ _ _ _ _ _ HGV.out).mono ?_
        rintro e w4 ⟨rfl, hb4⟩
        have B4 := hid (B3.out.step hb4)
        clear hb4
        have R9 := B4.out.row 2 (v := .slice none 0 0) (t := 25) rfl
        have r0 := R9.cell (i := 0) (by omega)
        have f0 := R9.frozen 0
        have E0 := hid ((R9.set 0 (.slice none 0 0)).cell (i := 0) (by omega))
        simp only [if_true] at E0
        have HB := hid (B4.out.2.2.setCell (p := ⟨w.heap.size + 2, 0, none⟩) (by dsimp only; omega) (.slice none 0 0))
        clear R9
        go_wp2_with fail
        rw [HV.out, (ans_no _).1, (ans_no _).2.1, (ans_no _).2.2]
        exact bodyPost_ret (v := .tuple #[.agg #[.slice none 0 0], .int .i64 0, .bool false]) (by simp [results, Try.results44, go_sem, E0.out]) rfl (fin _ HB.out)
      · rw [HG.out] at e; cases e
    · have HE := hid (fun (W : World) (base p g cap mb : Nat) (h : Grv W base p g cap mb F) => c_has' q true W hq h)
      have hqb := inB_bd hq
      have hth : thereB F q = true := by simp [thereB, hg, hq]
      obtain ⟨hn5, hlevN⟩ := levN_le hg (show q.toNat < F.length by omega)
      cases hw : hoB (levN F q.toNat) c
      · have HV := hid (show setOK F q c = false by simp [setOK, hw])
        have HD := hid (fun (W : World) (base p g cap mb : Nat) (h : Grv W base p g cap mb F) => c_holds q c (levN F q.toNat) hn5 false W hw (by omega) (by omega) hlevN h)
        clear hg hq hth hw hlevN hn5 hqb
        go_enter Try.func44, Try.ntmps44
        go_wp2_with fail
        refine HC.out.mono ?_
        rintro e w3 ⟨pv, rfl, ho, hb⟩
        have B3 := hid (B2.out.step hb)
        rcases ho with ⟨_, p, g, cap, mb, base, hbase, rfl, hGv⟩ | ⟨e, _⟩
        · have HGV := hid hGv
          clear HC hb hGv x0
          go_wp2_with fail
          refine (HE.out _ _ _ _ _ _ HGV.out).mono ?_
          rintro e w4 ⟨rfl, hb4⟩
          have B4 := hid (B3.out.step hb4)
          have G4 := hid (HGV.out.below hb4)
          have c0 := B4.out.cell 1 0 (v := .int .i64 c.1) rfl rfl
          have c1 := B4.out.cell 1 1 (v := .int .i64 c.2) rfl rfl
          clear hb4
          go_wp2_with fail
          refine (HD.out _ _ _ _ _ _ G4.out).mono ?_
          rintro e w5 ⟨rfl, hb5⟩
          have B5 := hid (B4.out.step hb5)
          clear hb5 c0 c1
          have R9 := B5.out.row 2 (v := .slice none 0 0) (t := 25) rfl
          have r0 := R9.cell (i := 0) (by omega)
          have f0 := R9.frozen 0
          have E0 := hid ((R9.set 0 (.slice none 0 0)).cell (i := 0) (by omega))
          simp only [if_true] at E0
          have HB := hid (B5.out.2.2.setCell (p := ⟨w.heap.size + 2, 0, none⟩) (by dsimp only; omega) (.slice none 0 0))
          clear R9
          go_wp2_with fail
          rw [HV.out, (ans_no _).1, (ans_no _).2.1, (ans_no _).2.2]
          exact bodyPost_ret (v := .tuple #[.agg #[.slice none 0 0], .int .i64 0, .bool false]) (by simp [results, Try.results44, go_sem, E0.out]) rfl (fin _ HB.out)
        · rw [HG.out] at e; cases e
      · have HV := hid (show setOK F q c = true by simp [setOK, hth, hw])
        have HD := hid (fun (W : World) (base p g cap mb : Nat) (h : Grv W base p g cap mb F) => c_holds q c (levN F q.toNat) hn5 true W hw (by omega) (by omega) hlevN h)
        obtain ⟨hGR, hLR, hcall⟩ := fill_call (setL F q.toNat c al) c.1 c.2 c.1 c.2 (if al then 1 else 0) (by cases al <;> simp) (if al then 1 else 0) (by cases al <;> rfl) hth (set_mem F q.toNat c al)
        have hRR : setR F q c al = treeL (setL F q.toNat c al) (levN F q.toNat) 0 0 F := rfl
        rw [← hRR] at hGR hLR hcall
        have HGR := hid hGR
        have HLR := hid (show (setR F q c al).1.length ≤ 100000 by omega)
        have HCALL := hid hcall
        generalize setR F q c al = R at *
        clear hg hq hth hw hlevN hn5 hqb hGR hLR hcall hRR
        cases al
        all_goals
          simp only [Bool.false_eq_true, if_false, if_true] at HCALL
          go_enter Try.func44, Try.ntmps44
          go_wp2_with fail
          refine HC.out.mono ?_
          rintro e w3 ⟨pv, rfl, ho, hb⟩
          have B3 := hid (B2.out.step hb)
          rcases ho with ⟨_, p, g, cap, mb, base, hbase, rfl, hGv⟩ | ⟨e, _⟩
          · have HGV := hid hGv
            clear HC hb hGv x0
            go_wp2_with fail
            have HBS := hid (show w.heap.size + 3 ≤ base from Nat.le_trans B2.out.2.1 hbase)
            clear hbase
            refine (HE.out _ _ _ _ _ _ HGV.out).mono ?_
            rintro e w4 ⟨rfl, hb4⟩
            have B4 := hid (B3.out.step hb4)
            have G4 := hid (HGV.out.below hb4)
            have c0 := B4.out.cell 1 0 (v := .int .i64 c.1) rfl rfl
            have c1 := B4.out.cell 1 1 (v := .int .i64 c.2) rfl rfl
            clear hb4
            go_wp2_with fail
            refine (HD.out _ _ _ _ _ _ G4.out).mono ?_
            rintro e w5 ⟨rfl, hb5⟩
            have B5 := hid (B4.out.step hb5)
            have G5 := hid (G4.out.below hb5)
            clear hb5 c0 c1
            have c0 := B5.out.cell 1 0 (v := .int .i64 c.1) rfl rfl
            have c1 := B5.out.cell 1 1 (v := .int .i64 c.2) rfl rfl
            go_wp2_with fail
            refine (HCALL.out _ _ _ _ _ _ G5.out).mono ?_
            rintro e w7 ⟨g7, cap7, rfl, hG7, hb7⟩
            clear c0 c1
            have R7 := hid ((B5.out.row 2 (v := .slice none 0 0) (t := 25) rfl).of_block (hb7.block _ (show w.heap.size + 2 < base by have := HBS.out; omega)))
            have HB7 := hid (B5.out.2.2.trans (hb7.mono (show w.heap.size ≤ base by have := HBS.out; omega)))
            have HG7 := hid hG7
            clear hG7 hb7
            have HTL := hid (c_told (R.2 : Int) w7 HG7.out HGR.out HLR.out)
            go_wp2_with fail
            refine HTL.out.mono ?_
            rintro e w8 ⟨u8, rfl, hO8, hb8⟩
            have HO8 := hid hO8
            obtain ⟨ua8, uc8, rfl, _⟩ := hO8.form
            have R9 := R7.out.of_block (hb8.block _ R7.out.lt)
            have hlt7 := R7.out.lt
            have r0 := R9.cell (i := 0) (by omega)
            have f0 := R9.frozen 0
            have E0 := hid ((R9.set 0 (.slice ua8 (tellF R.1).length uc8)).cell (i := 0) (by omega))
            simp only [if_true] at E0
            have hs9 : (w8.setCell ⟨w.heap.size + 2, 0, none⟩ (.slice ua8 (tellF R.1).length uc8)).heap.size = w8.heap.size := by simp
            have hGW : Grew w8 (w8.setCell ⟨w.heap.size + 2, 0, none⟩ (.slice ua8 (tellF R.1).length uc8)) (w.heap.size + 2) (w.heap.size + 2 + 1) := (Grew.refl w8 _ _).set (Nat.le_refl _) (by omega) _
            have HO9 := hid ((HO8.out.kept hGW (by omega)).wide (lo' := w.heap.size) (hi' := w8.heap.size) (by omega) (Nat.le_refl _) (by rw [hs9]; exact Nat.le_refl _))
            have HB9 := hid ((HB7.out.trans (hb8.mono HB7.out.size)).setCell (p := ⟨w.heap.size + 2, 0, none⟩) (by dsimp only; omega) (.slice ua8 (tellF R.1).length uc8))
            have HS9 := hid hs9
            clear HTL hO8 HO8 hb8 R9 hGW hs9 hlt7
            generalize hT : tellF R.1 = TF at *
            generalize hQ' : tellQ R.1 (R.2 : Int) = TQ at *
            generalize hB' : tellB R.1 = TB at *
            go_wp2_with fail
            rw [HV.out, (ans_yes _).1, (ans_yes _).2.1, (ans_yes _).2.2, hT, hQ', hB']
            exact bodyPost_ret (v := .tuple #[.agg #[.slice ua8 TF.length uc8], .int .i64 TQ, .bool TB]) (by simp [results, Try.results44, go_sem, E0.out]) rfl ⟨.slice ua8 TF.length uc8, rfl, by rw [HS9.out]; exact HO9.out, HB9.out⟩
          · rw [HG.out] at e; cases e

set_option maxHeartbeats 4000000 in
set_option maxRecDepth 100000 in
theorem c_iClearBox (a : Option Addr) (F : List Qd) (ca : Nat) (q : Int) (c d : Cl) (w : World) (ha : QSeg w a F) (hl : F.length ≤ 1048576) (hk : KidsLe F) (hca : F.length ≤ ca) (hcm : ca ≤ 9223372036854775807) :
    Calls Try.prog 48 #[.agg #[.slice a F.length ca], .int .i64 q, .agg #[.int .i64 c.1, .int .i64 c.2], .agg #[.int .i64 d.1, .int .i64 d.2]] w fun e w' => ∃ u, e = .returned (.tuple #[.agg #[u], .int .i64 (ansQ (clrOK F q c d) (clrR F q c d)), .bool (ansB (clrOK F q c d) (clrR F q c d))]) ∧ FOwn w' w.heap.size w'.heap.size u (ansF (clrOK F q c d) (clrR F q c d)) ∧ Below w.heap.size w w' := by
  have B1 := (Bx.nil w).add (by simp) #[.slice a F.length ca] 25
  have B1b := B1.add (by simp) #[.int .i64 c.1, .int .i64 c.2] 39
  have B1c := B1b.add (by simp) #[.int .i64 d.1, .int .i64 d.2] 39
  have B2 := hid (B1c.add (by simp) #[.slice none 0 0] 25)
  have Q2 := hid (ha.below B2.out.2.2)
  clear B1 B1b B1c ha
  have x0 := B2.out.cell 0 0 (v := .slice a F.length ca) rfl rfl
  rw [Nat.add_zero] at x0
  have fin : ∀ W : World, Below w.heap.size w W → ∃ u, Ending.returned (.tuple #[.agg #[.slice none 0 0], .int .i64 0, .bool false]) = .returned (.tuple #[.agg #[u], .int .i64 0, .bool false]) ∧ FOwn W w.heap.size W.heap.size u [] ∧ Below w.heap.size w W := fun W h => ⟨_, rfl, .inl ⟨rfl, rfl⟩, h⟩
  have HC := hid (c_groveOf a F ca _ Q2.out hl hk hca hcm)
  cases hg : goodF F
  · rw [hg] at HC
    have HV := hid (show clrOK F q c d = false by simp [clrOK, thereB, hg])
    clear hg
    go_enter Try.func48, Try.ntmps48
    go_wp2_with fail
    refine HC.out.mono ?_
    rintro e w3 ⟨pv, rfl, ho, hb⟩
    have B3 := hid (B2.out.step hb)
    clear ho HC hb
    have R9 := B3.out.row 3 (v := .slice none 0 0) (t := 25) rfl
    have r0 := R9.cell (i := 0) (by omega)
    have f0 := R9.frozen 0
    have E0 := hid ((R9.set 0 (.slice none 0 0)).cell (i := 0) (by omega))
    simp only [if_true] at E0
    have HB := hid (B3.out.2.2.setCell (p := ⟨w.heap.size + 3, 0, none⟩) (by dsimp only; omega) (.slice none 0 0))
    clear R9
    go_wp2_with fail
    rw [HV.out, (ans_no _).1, (ans_no _).2.1, (ans_no _).2.2]
    exact bodyPost_ret (v := .tuple #[.agg #[.slice none 0 0], .int .i64 0, .bool false]) (by simp [results, Try.results48, go_sem, E0.out]) rfl (fin _ HB.out)
  · rw [hg] at HC
    have HG := hid hg
    cases hq : inB 0 ((F.length : Int) - 1) q
    · have HV := hid (show clrOK F q c d = false by simp [clrOK, thereB, hq])
      have HE := hid (fun (W : World) (base p g cap mb : Nat) (h : Grv W base p g cap mb F) => c_has' q false W hq h)
      clear hg hq
      go_enter Try.func48, Try.ntmps48
      go_wp2_with fail
      refine HC.out.mono ?_
      rintro e w3 ⟨pv, rfl, ho, hb⟩
      have B3 := hid (B2.out.step hb)
      rcases ho with ⟨_, p, g, cap, mb, base, hbase, rfl, hGv⟩ | ⟨e, _⟩
      · have HGV := hid hGv
        clear HC hb hGv x0
        go_wp2_with fail
        refine (HE.out _ _ _ _ _ _ HGV.out).mono ?_
        rintro e w4 ⟨rfl, hb4⟩
        have B4 := hid (B3.out.step hb4)
        clear hb4
        have R9 := B4.out.row 3 (v := .slice none 0 0) (t := 25) rfl
        have r0 := R9.cell (i := 0) (by omega)
        have f0 := R9.frozen 0
        have E0 := hid ((R9.set 0 (.slice none 0 0)).cell (i := 0) (by omega))
        simp only [if_true] at E0
        have HB := hid (B4.out.2.2.setCell (p := ⟨w.heap.size + 3, 0, none⟩) (by dsimp only; omega) (.slice none 0 0))
        clear R9
        go_wp2_with fail
        rw [HV.out, (ans_no _).1, (ans_no _).2.1, (ans_no _).2.2]
        exact bodyPost_ret (v := .tuple #[.agg #[.slice none 0 0], .int .i64 0, .bool false]) (by simp [results, Try.results48, go_sem, E0.out]) rfl (fin _ HB.out)
      · rw [HG.out] at e; cases e
    · have HE := hid (fun (W : World) (base p g cap mb : Nat) (h : Grv W base p g cap mb F) => c_has' q true W hq h)
      have hth : thereB F q = true := by simp [thereB, hg, hq]
      cases hw : inR c
      · have HV := hid (show clrOK F q c d = false by simp [clrOK, hw])
        have HD := hid (fun (W : World) => c_inReach' c false hw W)
        clear hg hq hth hw
        go_enter Try.func48, Try.ntmps48
        go_wp2_with fail
        refine HC.out.mono ?_
        rintro e w3 ⟨pv, rfl, ho, hb⟩
        have B3 := hid (B2.out.step hb)
        rcases ho with ⟨_, p, g, cap, mb, base, hbase, rfl, hGv⟩ | ⟨e, _⟩
        · have HGV := hid hGv
          clear HC hb hGv x0
          go_wp2_with fail
          refine (HE.out _ _ _ _ _ _ HGV.out).mono ?_
          rintro e w4 ⟨rfl, hb4⟩
          have B4 := hid (B3.out.step hb4)
          have c0 := B4.out.cell 1 0 (v := .int .i64 c.1) rfl rfl
          have c1 := B4.out.cell 1 1 (v := .int .i64 c.2) rfl rfl
          clear hb4
          go_wp2_with fail
          refine (HD.out _).mono ?_
          rintro e w5 ⟨rfl, hb5⟩
          have B5 := hid (B4.out.step hb5)
          clear hb5 c0 c1
          have R9 := B5.out.row 3 (v := .slice none 0 0) (t := 25) rfl
          have r0 := R9.cell (i := 0) (by omega)
          have f0 := R9.frozen 0
          have E0 := hid ((R9.set 0 (.slice none 0 0)).cell (i := 0) (by omega))
          simp only [if_true] at E0
          have HB := hid (B5.out.2.2.setCell (p := ⟨w.heap.size + 3, 0, none⟩) (by dsimp only; omega) (.slice none 0 0))
          clear R9
          go_wp2_with fail
          rw [HV.out, (ans_no _).1, (ans_no _).2.1, (ans_no _).2.2]
          exact bodyPost_ret (v := .tuple #[.agg #[.slice none 0 0], .int .i64 0, .bool false]) (by simp [results, Try.results48, go_sem, E0.out]) rfl (fin _ HB.out)
        · rw [HG.out] at e; cases e
      · have HD := hid (fun (W : World) => c_inReach' c true hw W)
        cases hw2 : inR d
        · have HV := hid (show clrOK F q c d = false by simp [clrOK, hw2])
          have HD2 := hid (fun (W : World) => c_inReach' d false hw2 W)
          clear hg hq hth hw hw2
          go_enter Try.func48, Try.ntmps48
          go_wp2_with fail
          refine HC.out.mono ?_
          rintro e w3 ⟨pv, rfl, ho, hb⟩
          have B3 := hid (B2.out.step hb)
          rcases ho with ⟨_, p, g, cap, mb, base, hbase, rfl, hGv⟩ | ⟨e, _⟩
          · have HGV := hid hGv
            clear HC hb hGv x0
            go_wp2_with fail
            refine (HE.out _ _ _ _ _ _ HGV.out).mono ?_
            rintro e w4 ⟨rfl, hb4⟩
            have B4 := hid (B3.out.step hb4)
            have G4 := hid (HGV.out.below hb4)
            have c0 := B4.out.cell 1 0 (v := .int .i64 c.1) rfl rfl
            have c1 := B4.out.cell 1 1 (v := .int .i64 c.2) rfl rfl
            clear hb4
            go_wp2_with fail
            refine (HD.out _).mono ?_
            rintro e w5 ⟨rfl, hb5⟩
            have B5 := hid (B4.out.step hb5)
            have G5 := hid (G4.out.below hb5)
            clear hb5 c0 c1
            have d0 := B5.out.cell 2 0 (v := .int .i64 d.1) rfl rfl
            have d1 := B5.out.cell 2 1 (v := .int .i64 d.2) rfl rfl
            go_wp2_with fail
            refine (HD2.out _).mono ?_
            rintro e w6 ⟨rfl, hb6⟩
            have B6 := hid (B5.out.step hb6)
            clear hb6 d0 d1
            have R9 := B6.out.row 3 (v := .slice none 0 0) (t := 25) rfl
            have r0 := R9.cell (i := 0) (by omega)
            have f0 := R9.frozen 0
            have E0 := hid ((R9.set 0 (.slice none 0 0)).cell (i := 0) (by omega))
            simp only [if_true] at E0
            have HB := hid (B6.out.2.2.setCell (p := ⟨w.heap.size + 3, 0, none⟩) (by dsimp only; omega) (.slice none 0 0))
            clear R9
            go_wp2_with fail
            rw [HV.out, (ans_no _).1, (ans_no _).2.1, (ans_no _).2.2]
            exact bodyPost_ret (v := .tuple #[.agg #[.slice none 0 0], .int .i64 0, .bool false]) (by simp [results, Try.results48, go_sem, E0.out]) rfl (fin _ HB.out)
          · rw [HG.out] at e; cases e
        · have HV := hid (show clrOK F q c d = true by simp [clrOK, hth, hw, hw2])
          have HD2 := hid (fun (W : World) => c_inReach' d true hw2 W)
          obtain ⟨hGR, hLR, hcall⟩ := fill_call (clrL F q.toNat c d) c.1 c.2 d.1 d.2 0 (.inl rfl) 0 rfl hth (clr_mem F q.toNat c d)
          have hRR : clrR F q c d = treeL (clrL F q.toNat c d) (levN F q.toNat) 0 0 F := rfl
          rw [← hRR] at hGR hLR hcall
          have HGR := hid hGR
          have HLR := hid (show (clrR F q c d).1.length ≤ 100000 by omega)
          have HCALL := hid hcall
          generalize clrR F q c d = R at *
          clear hg hq hth hw hw2 hGR hLR hcall hRR
          go_enter Try.func48, Try.ntmps48
          go_wp2_with fail
          refine HC.out.mono ?_
          rintro e w3 ⟨pv, rfl, ho, hb⟩
          have B3 := hid (B2.out.step hb)
          rcases ho with ⟨_, p, g, cap, mb, base, hbase, rfl, hGv⟩ | ⟨e, _⟩
          · have HGV := hid hGv
            clear HC hb hGv x0
            go_wp2_with fail
            have HBS := hid (show w.heap.size + 4 ≤ base from Nat.le_trans B2.out.2.1 hbase)
            clear hbase
            refine (HE.out _ _ _ _ _ _ HGV.out).mono ?_
            rintro e w4 ⟨rfl, hb4⟩
            have B4 := hid (B3.out.step hb4)
            have G4 := hid (HGV.out.below hb4)
            have c0 := B4.out.cell 1 0 (v := .int .i64 c.1) rfl rfl
            have c1 := B4.out.cell 1 1 (v := .int .i64 c.2) rfl rfl
            clear hb4
            go_wp2_with fail
            refine (HD.out _).mono ?_
            rintro e w5 ⟨rfl, hb5⟩
            have B5 := hid (B4.out.step hb5)
            have G5 := hid (G4.out.below hb5)
            clear hb5 c0 c1
            have d0 := B5.out.cell 2 0 (v := .int .i64 d.1) rfl rfl
            have d1 := B5.out.cell 2 1 (v := .int .i64 d.2) rfl rfl
            go_wp2_with fail
            refine (HD2.out _).mono ?_
            rintro e w6 ⟨rfl, hb6⟩
            have B6 := hid (B5.out.step hb6)
            have G6 := hid (G5.out.below hb6)
            clear hb6 d0 d1
            have c0 := B6.out.cell 1 0 (v := .int .i64 c.1) rfl rfl
            have c1 := B6.out.cell 1 1 (v := .int .i64 c.2) rfl rfl
            have d0 := B6.out.cell 2 0 (v := .int .i64 d.1) rfl rfl
            have d1 := B6.out.cell 2 1 (v := .int .i64 d.2) rfl rfl
            go_wp2_with fail
            refine (HCALL.out _ _ _ _ _ _ G6.out).mono ?_
            rintro e w7 ⟨g7, cap7, rfl, hG7, hb7⟩
            clear c0 c1 d0 d1
            have R7 := hid ((B6.out.row 3 (v := .slice none 0 0) (t := 25) rfl).of_block (hb7.block _ (show w.heap.size + 3 < base by have := HBS.out; omega)))
            have HB7 := hid (B6.out.2.2.trans (hb7.mono (show w.heap.size ≤ base by have := HBS.out; omega)))
            have HG7 := hid hG7
            clear hG7 hb7
            have HTL := hid (c_told (R.2 : Int) w7 HG7.out HGR.out HLR.out)
            go_wp2_with fail
            refine HTL.out.mono ?_
            rintro e w8 ⟨u8, rfl, hO8, hb8⟩
            have HO8 := hid hO8
            obtain ⟨ua8, uc8, rfl, _⟩ := hO8.form
            have R9 := R7.out.of_block (hb8.block _ R7.out.lt)
            have hlt7 := R7.out.lt
            have r0 := R9.cell (i := 0) (by omega)
            have f0 := R9.frozen 0
            have E0 := hid ((R9.set 0 (.slice ua8 (tellF R.1).length uc8)).cell (i := 0) (by omega))
            simp only [if_true] at E0
            have hs9 : (w8.setCell ⟨w.heap.size + 3, 0, none⟩ (.slice ua8 (tellF R.1).length uc8)).heap.size = w8.heap.size := by simp
            have hGW : Grew w8 (w8.setCell ⟨w.heap.size + 3, 0, none⟩ (.slice ua8 (tellF R.1).length uc8)) (w.heap.size + 3) (w.heap.size + 3 + 1) := (Grew.refl w8 _ _).set (Nat.le_refl _) (by omega) _
            have HO9 := hid ((HO8.out.kept hGW (by omega)).wide (lo' := w.heap.size) (hi' := w8.heap.size) (by omega) (Nat.le_refl _) (by rw [hs9]; exact Nat.le_refl _))
            have HB9 := hid ((HB7.out.trans (hb8.mono HB7.out.size)).setCell (p := ⟨w.heap.size + 3, 0, none⟩) (by dsimp only; omega) (.slice ua8 (tellF R.1).length uc8))
            have HS9 := hid hs9
            clear HTL hO8 HO8 hb8 R9 hGW hs9 hlt7
            generalize hT : tellF R.1 = TF at *
            generalize hQ' : tellQ R.1 (R.2 : Int) = TQ at *
            generalize hB' : tellB R.1 = TB at *
            go_wp2_with fail
            rw [HV.out, (ans_yes _).1, (ans_yes _).2.1, (ans_yes _).2.2, hT, hQ', hB']
            exact bodyPost_ret (v := .tuple #[.agg #[.slice ua8 TF.length uc8], .int .i64 TQ, .bool TB]) (by simp [results, Try.results48, go_sem, E0.out]) rfl ⟨.slice ua8 TF.length uc8, rfl, by rw [HS9.out]; exact HO9.out, HB9.out⟩
          · rw [HG.out] at e; cases e

end Go.Proofs.Ytmapbkefndbnnaa
