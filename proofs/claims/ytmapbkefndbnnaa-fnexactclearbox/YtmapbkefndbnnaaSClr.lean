/- What the specification's ClearBox answers. -/
import Derived.Test.YtmapbkefndbnnaaSMrg
import Derived.Deep.RegionHeld3
namespace Go.Proofs.Ytmapbkefndbnnaa
open Go.RowKit
set_option linter.unusedVariables false
set_option linter.unusedSimpArgs false
attribute [local go_sem ↓] Go.wp_at_zero Go.wp_at_succ

theorem clrL_le (F : List Qd) (q : Nat) (a b : Cl) : (clrL F q a b).length ≤ (cellsOfQ F q).length := List.length_filter_le _ _

set_option maxHeartbeats 4000000 in
set_option maxRecDepth 100000 in
theorem c_sClearBox (a : Option Addr) (F : List Qd) (ca : Nat) (q : Int) (c d : Cl) (w : World) (ha : QSeg w a F) (hl : F.length ≤ 1048576) (hk : KidsLe F) (hca : F.length ≤ ca) (hcm : ca ≤ 9223372036854775807) (hnc : NoneCap w a F) :
    Calls Try.prog 49 #[.agg #[.slice a F.length ca], .int .i64 q, .agg #[.int .i64 c.1, .int .i64 c.2], .agg #[.int .i64 d.1, .int .i64 d.2]] w fun e w' => ∃ u, e = .returned (.tuple #[.agg #[u], .int .i64 (ansQ (clrOK F q c d) (clrR F q c d)), .bool (ansB (clrOK F q c d) (clrR F q c d))]) ∧ GF w' w.heap.size u (ansF (clrOK F q c d) (clrR F q c d)) ∧ Below w.heap.size w w' := by
  have B1 := (Bx.nil w).add (by simp) #[.slice a F.length ca] 25
  have B1b := B1.add (by simp) #[.int .i64 c.1, .int .i64 c.2] 39
  have B1c := B1b.add (by simp) #[.int .i64 d.1, .int .i64 d.2] 39
  have B2 := hid (B1c.add (by simp) #[.slice none 0 0] 25)
  have Q2 := hid (ha.below B2.out.2.2)
  have N2 := hid (hnc.below ha B2.out.2.2)
  clear B1 B1b B1c hnc
  have x0 := B2.out.cell 0 0 (v := .slice a F.length ca) rfl rfl
  rw [Nat.add_zero] at x0
  have fin : ∀ W : World, Below w.heap.size w W → ∃ u, Ending.returned (.tuple #[.agg #[.slice none 0 0], .int .i64 0, .bool false]) = .returned (.tuple #[.agg #[u], .int .i64 0, .bool false]) ∧ GF W w.heap.size u [] ∧ Below w.heap.size w W := fun W h => ⟨_, rfl, GF.nil _ _, h⟩
  cases hth : thereB F q
  · have HC := hid (c_l3There' a F ca q false hth _ Q2.out hl hk hca hcm)
    have HV := hid (show clrOK F q c d = false by simp [clrOK, hth])
    clear hth ha
    go_enter Try.func49, Try.ntmps49
    go_wp2_with fail
    refine HC.out.mono ?_
    rintro e w3 ⟨rfl, hb⟩
    have B3 := hid (B2.out.step hb)
    clear HC hb
    have R9 := B3.out.row 3 (v := .slice none 0 0) (t := 25) rfl
    have r0 := R9.cell (i := 0) (by omega)
    have f0 := R9.frozen 0
    have E0 := hid ((R9.set 0 (.slice none 0 0)).cell (i := 0) (by omega))
    simp only [if_true] at E0
    have HB := hid (B3.out.2.2.setCell (p := ⟨w.heap.size + 3, 0, none⟩) (by dsimp only; omega) (.slice none 0 0))
    clear R9
    go_wp2_with fail
    rw [HV.out, (ans_no _).1, (ans_no _).2.1, (ans_no _).2.2]
    exact bodyPost_ret (v := .tuple #[.agg #[.slice none 0 0], .int .i64 0, .bool false]) (by simp [results, Try.results49, go_sem, E0.out]) rfl (fin _ HB.out)
  · have HC := hid (c_l3There' a F ca q true hth _ Q2.out hl hk hca hcm)
    obtain ⟨hg, h0, h1⟩ := there_bd hth
    obtain ⟨hn5, hlevN⟩ := levN_le hg (show q.toNat < F.length by omega)
    obtain ⟨b1, o1, ak, ck, rfl, hb1, p1, _⟩ := ha q.toNat (by omega)
    cases hw : inR c
    · have HV := hid (show clrOK F q c d = false by simp [clrOK, hth, hw])
      have HD := hid (fun (W : World) => c_l1There' c false hw W)
      clear hth ha hw hlevN hn5 hg p1
      go_enter Try.func49, Try.ntmps49
      go_wp2_with fail
      refine HC.out.mono ?_
      rintro e w3 ⟨rfl, hb⟩
      have B3 := hid (B2.out.step hb)
      have c0 := B3.out.cell 1 0 (v := .int .i64 c.1) rfl rfl
      have c1 := B3.out.cell 1 1 (v := .int .i64 c.2) rfl rfl
      clear HC x0
      clear hb
      go_wp2_with fail
      refine (HD.out _).mono ?_
      rintro e w4 ⟨rfl, hb4⟩
      have B4 := hid (B3.out.step hb4)
      clear hb4 c0 c1
      have R9 := B4.out.row 3 (v := .slice none 0 0) (t := 25) rfl
      have r0 := R9.cell (i := 0) (by omega)
      have f0 := R9.frozen 0
      have E0 := hid ((R9.set 0 (.slice none 0 0)).cell (i := 0) (by omega))
      simp only [if_true] at E0
      have HB := hid (B4.out.2.2.setCell (p := ⟨w.heap.size + 3, 0, none⟩) (by dsimp only; omega) (.slice none 0 0))
      clear R9
      go_wp2_with fail
      rw [HV.out, (ans_no _).1, (ans_no _).2.1, (ans_no _).2.2]
      exact bodyPost_ret (v := .tuple #[.agg #[.slice none 0 0], .int .i64 0, .bool false]) (by simp [results, Try.results49, go_sem, E0.out]) rfl (fin _ HB.out)
    · have HD := hid (fun (W : World) => c_l1There' c true hw W)
      cases hw2 : inR d
      · have HV := hid (show clrOK F q c d = false by simp [clrOK, hth, hw, hw2])
        have HD2 := hid (fun (W : World) => c_l1There' d false hw2 W)
        clear hth ha hw hw2 hlevN hn5 hg p1
        go_enter Try.func49, Try.ntmps49
        go_wp2_with fail
        refine HC.out.mono ?_
        rintro e w3 ⟨rfl, hb⟩
        have B3 := hid (B2.out.step hb)
        have c0 := B3.out.cell 1 0 (v := .int .i64 c.1) rfl rfl
        have c1 := B3.out.cell 1 1 (v := .int .i64 c.2) rfl rfl
        clear HC x0
        clear hb
        go_wp2_with fail
        refine (HD.out _).mono ?_
        rintro e w4 ⟨rfl, hb4⟩
        have B4 := hid (B3.out.step hb4)
        clear hb4 c0 c1
        have d0 := B4.out.cell 2 0 (v := .int .i64 d.1) rfl rfl
        have d1 := B4.out.cell 2 1 (v := .int .i64 d.2) rfl rfl
        go_wp2_with fail
        refine (HD2.out _).mono ?_
        rintro e w5 ⟨rfl, hb5⟩
        have B5 := hid (B4.out.step hb5)
        clear hb5 d0 d1
        have R9 := B5.out.row 3 (v := .slice none 0 0) (t := 25) rfl
        have r0 := R9.cell (i := 0) (by omega)
        have f0 := R9.frozen 0
        have E0 := hid ((R9.set 0 (.slice none 0 0)).cell (i := 0) (by omega))
        simp only [if_true] at E0
        have HB := hid (B5.out.2.2.setCell (p := ⟨w.heap.size + 3, 0, none⟩) (by dsimp only; omega) (.slice none 0 0))
        clear R9
        go_wp2_with fail
        rw [HV.out, (ans_no _).1, (ans_no _).2.1, (ans_no _).2.2]
        exact bodyPost_ret (v := .tuple #[.agg #[.slice none 0 0], .int .i64 0, .bool false]) (by simp [results, Try.results49, go_sem, E0.out]) rfl (fin _ HB.out)
      · have HV := hid (show clrOK F q c d = true by simp [clrOK, hth, hw, hw2])
        have HD2 := hid (fun (W : World) => c_l1There' d true hw2 W)
        have LA := cellsOfQ_le hg (show q.toNat < F.length by omega)
        obtain ⟨SL, hSL⟩ : ∃ L, L = clrL F q.toNat c d := ⟨_, rfl⟩
        have HLEN := hid (show SL.length ≤ 1048576 by rw [hSL]; have := clrL_le F q.toNat c d; omega)
        have HTL : Hid (∀ (W : World) (la : Option Addr) (lca : Nat), QSeg W (some ⟨b1, o1, none⟩) F → NoneCap W (some ⟨b1, o1, none⟩) F → Seg W la SL → Calls Try.prog 107 #[.agg #[.slice (some ⟨b1, o1, none⟩) F.length ca], .int .i64 (qa F q.toNat).1, .slice la SL.length lca] W fun e w' => ∃ u, e = .returned (.tuple #[.agg #[u], .int .i64 (tellQ (clrR F q c d).1 ((clrR F q c d).2 : Int)), .bool (tellB (clrR F q c d).1)]) ∧ GF w' W.heap.size u (tellF (clrR F q c d).1) ∧ Below W.heap.size W w') := by
          intro W la lca hQ hN hS
          have := c_l4Tell hg (some ⟨b1, o1, none⟩) ca (levN F q.toNat) hn5 la SL lca W hQ hN hS HLEN.out
          rw [← hlevN] at this
          have e : clrR F q c d = treeL SL (levN F q.toNat) 0 0 F := by rw [hSL]; rfl
          rw [← e] at this
          exact this
        have HL1 := hid (fun (W : World) (hQ : QSeg W (some ⟨b1, o1, none⟩) F) => c_l3CellsAll hg (some ⟨b1, o1, none⟩) ca q W hQ h0 h1)
        have HSL := hid (show SL = (cellsOfQ F q.toNat).filter fun z => !(inB c.1 d.1 z.1 && inB c.2 d.2 z.2) from hSL)
        have HLA := hid LA
        have HLV := hid (⟨hb1, p1⟩ : _ ∧ _)
        generalize (qa F q.toNat).1 = lv at *
        generalize hRR : clrR F q c d = RR at *
        generalize cellsOfQ F q.toNat = CA at *
        clear hRR hth ha hw hw2 hlevN hn5 hg LA hSL p1
        go_enter Try.func49, Try.ntmps49
        go_wp2_with fail
        refine HC.out.mono ?_
        rintro e w3 ⟨rfl, hb⟩
        have B3 := hid (B2.out.step hb)
        have c0 := B3.out.cell 1 0 (v := .int .i64 c.1) rfl rfl
        have c1 := B3.out.cell 1 1 (v := .int .i64 c.2) rfl rfl
        clear HC x0
        have Q3 := hid (Q2.out.below hb)
        have N3 := hid (N2.out.below Q2.out hb)
        clear hb
        go_wp2_with fail
        refine (HD.out _).mono ?_
        rintro e wa ⟨rfl, hba⟩
        have Ba := hid (B3.out.step hba)
        have Qa := hid (Q3.out.below hba)
        have Na := hid (N3.out.below Q3.out hba)
        clear hba c0 c1
        have d0 := Ba.out.cell 2 0 (v := .int .i64 d.1) rfl rfl
        have d1 := Ba.out.cell 2 1 (v := .int .i64 d.2) rfl rfl
        go_wp2_with fail
        refine (HD2.out _).mono ?_
        rintro e w4 ⟨rfl, hb4⟩
        have B4 := hid (Ba.out.step hb4)
        have Q4 := hid (Qa.out.below hb4)
        have N4 := hid (Na.out.below Qa.out hb4)
        have x4 := B4.out.cell 0 0 (v := .slice (some ⟨b1, o1, none⟩) F.length ca) rfl rfl
        rw [Nat.add_zero] at x4
        have y4 := (B4.out.2.2.cell (p := ⟨b1, o1 + q.toNat * 2, none⟩) HLV.out.1).trans HLV.out.2
        have S4 := hid (⟨x4, y4⟩ : _ ∧ _)
        have HSZ4 := hid (⟨B4.out.lt 0 (by simp), Nat.lt_of_lt_of_le HLV.out.1 B4.out.2.2.size⟩ : w.heap.size + 0 < w4.heap.size ∧ b1 < w4.heap.size)
        have keep : Hid (∀ W : World, Below w4.heap.size w4 W → W.cell? ⟨w.heap.size, 0, none⟩ = some (.slice (some ⟨b1, o1, none⟩) F.length ca) ∧ W.cell? ⟨b1, o1 + q.toNat * 2, none⟩ = some (.int .i64 lv)) := fun W h => ⟨(h.cell (p := ⟨w.heap.size, 0, none⟩) (by have := HSZ4.out.1; simpa using this)).trans S4.out.1, (h.cell (p := ⟨b1, o1 + q.toNat * 2, none⟩) HSZ4.out.2).trans S4.out.2⟩
        clear hb4 d0 d1 y4
        go_wp2_with fail
        refine (HL1.out _ Q4.out).mono ?_
        rintro e w5 ⟨v5, rfl, hO5, hb5⟩
        obtain ⟨a5, c5, rfl, hS5⟩ := hO5.form
        have HSS5 := hid hS5
        have HB5 := hid hb5
        clear hO5 hS5 x4 hb5
        go_wp2_with fail
        go_loopw [11, 33] (fun v i wr => ∃ k : Nat, k ≤ CA.length ∧ i = .int .i64 k ∧ Hid (OwnS wr w5.heap.size v ((CA.take k).filter fun z => !(inB c.1 d.1 z.1 && inB c.2 d.2 z.2))) ∧ Hid (Below w5.heap.size w5 wr)) (fun _ i _ => CA.length - (intOf i).toNat)
        case atStart => exact ⟨0, Nat.zero_le _, rfl, OwnS.nil _ _, Below.refl _ _⟩
        case round =>
          obtain ⟨k, hk', rfl, HO, HB⟩ := hrel
          by_cases hlt : k < CA.length
          · obtain ⟨bz, oz, rfl, hbz, p1, p2⟩ := HSS5.out k hlt
            have g1 := (HB.out.cell (p := ⟨bz, oz + k * 2, none⟩) hbz).trans p1
            have g2 := (HB.out.cell (p := ⟨bz, oz + k * 2 + 1, none⟩) hbz).trans p2
            change _ = some (Value.int .i64 (at_ CA k).1) at g1
            change _ = some (Value.int .i64 (at_ CA k).2) at g2
            clear p1 p2
            have hcl : CA.length ≤ 1024 := HLA.out
            have k0 : (0 : Int) ≤ (k : Int) := by omega
            have k1 : (k : Int) < (CA.length : Int) := by omega
            have HFS := hid (filter_take_succ (f := fun z => !(inB c.1 d.1 z.1 && inB c.2 d.2 z.2)) hlt)
            have HLL := hid (show ((CA.take k).filter fun z => !(inB c.1 d.1 z.1 && inB c.2 d.2 z.2)).length ≤ 1048576 by
              have h1 := List.length_filter_le (fun z : Cl => !(inB c.1 d.1 z.1 && inB c.2 d.2 z.2)) (CA.take k)
              rw [List.length_take] at h1; have := HLA.out; omega)
            generalize at_ CA k = z at *
            generalize ((CA.take k).filter fun z => !(inB c.1 d.1 z.1 && inB c.2 d.2 z.2)) = lm at *
            have ba := (Below.refl wr.heap.size wr).alloc (Nat.le_refl _) (.cells #[.int .i64 z.1, .int .i64 z.2] 39)
            have hba := HB.out.trans (ba.mono HB.out.size)
            have Bw := hid (B4.out.step (HB5.out.trans (hba.mono HB5.out.size)))
            have c0 := Bw.out.cell 1 0 (v := .int .i64 c.1) rfl rfl
            have c1 := Bw.out.cell 1 1 (v := .int .i64 c.2) rfl rfl
            have d0 := Bw.out.cell 2 0 (v := .int .i64 d.1) rfl rfl
            have d1 := Bw.out.cell 2 1 (v := .int .i64 d.2) rfl rfl
            have HO1 := hid ((HO.out.below ba).below ((Below.refl _ (wr.alloc (.cells #[.int .i64 z.1, .int .i64 z.2] 39))).alloc (Nat.le_refl _) (.cells #[.int .i64 z.1, .int .i64 z.2] 39)))
            have HB1 := hid (hba.alloc hba.size (.cells #[.int .i64 z.1, .int .i64 z.2] 39))
            have HSg := hid (seg_block (c := (z.1, z.2)) (heap_alloc_new (wr.alloc (.cells #[.int .i64 z.1, .int .i64 z.2] 39)) (.cells #[.int .i64 z.1, .int .i64 z.2] 39)))
            have HBA := hid hba
            have HO0 := hid (HO.out.below ba)
            have hsz : (wr.alloc (.cells #[.int .i64 z.1, .int .i64 z.2] 39)).heap.size = wr.heap.size + 1 := by simp
            rw [hsz] at HSg
            clear ba hba hsz
            cases hx : inB c.1 d.1 z.1
            · have HX := hid (fun W => c_l1In' z.1 c.1 d.1 false hx W)
              have HSS := hid (show (CA.take (k + 1)).filter (fun z => !(inB c.1 d.1 z.1 && inB c.2 d.2 z.2)) = lm ++ [z] by have := HFS.out; rw [hx] at this; simpa using this)
              clear HFS hx
              go_wp2_with fail
              refine (HX.out _).mono ?_
              rintro e w1 ⟨rfl, rfl⟩
              go_wp2_with (at_builtin; refine wpList_app rfl _ _ rfl w5.heap.size _ lm [(z.1, z.2)] _ 1 rfl HO1.out rfl HSg.out (by intro h; cases h) (by have := HLL.out; simp; omega) HB1.out.size ?_; intro v' w2 hO2 hG2)
              go_roundw
              case rel => exact ⟨k + 1, by omega, by go_num, by (show OwnS _ _ _ _; rw [HSS.out]; exact hO2), below_grown HB1.out HO1.out hG2⟩
              case measure => simp [intOf]; omega
            · have HX := hid (fun W => c_l1In' z.1 c.1 d.1 true hx W)
              cases hy : inB c.2 d.2 z.2
              · have HY := hid (fun W => c_l1In' z.2 c.2 d.2 false hy W)
                have HSS := hid (show (CA.take (k + 1)).filter (fun z => !(inB c.1 d.1 z.1 && inB c.2 d.2 z.2)) = lm ++ [z] by have := HFS.out; rw [hx, hy] at this; simpa using this)
                clear HFS hx hy
                go_wp2_with fail
                refine (HX.out _).mono ?_
                rintro e w1 ⟨rfl, rfl⟩
                go_wp2_with fail
                refine (HY.out _).mono ?_
                rintro e w1 ⟨rfl, rfl⟩
                go_wp2_with (at_builtin; refine wpList_app rfl _ _ rfl w5.heap.size _ lm [(z.1, z.2)] _ 1 rfl HO1.out rfl HSg.out (by intro h; cases h) (by have := HLL.out; simp; omega) HB1.out.size ?_; intro v' w2 hO2 hG2)
                go_roundw
                case rel => exact ⟨k + 1, by omega, by go_num, by (show OwnS _ _ _ _; rw [HSS.out]; exact hO2), below_grown HB1.out HO1.out hG2⟩
                case measure => simp [intOf]; omega
              · have HY := hid (fun W => c_l1In' z.2 c.2 d.2 true hy W)
                have HSS := hid (show (CA.take (k + 1)).filter (fun z => !(inB c.1 d.1 z.1 && inB c.2 d.2 z.2)) = lm by have := HFS.out; rw [hx, hy] at this; simpa using this)
                clear HFS hx hy
                go_wp2_with fail
                refine (HX.out _).mono ?_
                rintro e w1 ⟨rfl, rfl⟩
                go_wp2_with fail
                refine (HY.out _).mono ?_
                rintro e w1 ⟨rfl, rfl⟩
                go_wp2_with fail
                go_roundw
                case rel => exact ⟨k + 1, by omega, by go_num, by (show OwnS _ _ _ _; rw [HSS.out]; exact HO0.out), HBA.out⟩
                case measure => simp [intOf]; omega
          · have hkk : k = CA.length := by omega
            subst hkk
            have hO6 := HO.out
            rw [List.take_length, ← HSL.out] at hO6
            obtain ⟨a6, c6, rfl, hS6⟩ := hO6.form
            have hb6 := HB5.out.trans (HB.out.mono HB5.out.size)
            rename World => w6
            clear hO6
            have bd := (Below.refl w6.heap.size w6).drew
            have hb6d := hb6.trans (bd.mono hb6.size)
            have HS6 := hid (hS6.below bd)
            have Q6 := hid (Q4.out.below hb6d)
            have N6 := hid (N4.out.below Q4.out hb6d)
            have S6 := hid (keep.out _ hb6)
            have S6d := hid (keep.out _ hb6d)
            clear bd hS6
            go_wp2_with fail
            go_region_held3 (fun W => W.cell? ⟨w.heap.size, 0, none⟩ = some (.slice (some ⟨b1, o1, none⟩) F.length ca) ∧ W.cell? ⟨b1, o1 + q.toNat * 2, none⟩ = some (.int .i64 lv))
              (first | exact S6d.out | exact S6.out | exact S7.out | exact S8.out | go_keep)
              (first
                | (go_at_call 107; refine (HTL.out _ a6 c6 Q6.out N6.out HS6.out).mono ?_; rintro e w7 ⟨u7, rfl, hG7, hb7⟩; have HG7 := hid hG7; obtain ⟨ua7, uc7, rfl, _⟩ := hG7.form; have bb7 := hb6d.trans (hb7.mono hb6d.size); have B7 := hid (B4.out.step bb7); have S7 := hid (keep.out w7 bb7); have R7 := B7.out.row 3 (v := .slice none 0 0) (t := 25) rfl; have r0 := R7.cell (i := 0) (by omega); have f0 := R7.frozen 0; have S8 := hid (⟨cell_other S7.out.1 (show (⟨w.heap.size + 3, 0, none⟩ : Addr).block ≠ (⟨w.heap.size, 0, none⟩ : Addr).block by dsimp only; omega) (.slice ua7 (tellF RR.1).length uc7), cell_other S7.out.2 (show (⟨w.heap.size + 3, 0, none⟩ : Addr).block ≠ (⟨b1, o1 + q.toNat * 2, none⟩ : Addr).block by have := HLV.out.1; dsimp only; omega) (.slice ua7 (tellF RR.1).length uc7)⟩ : _ ∧ _)))
            have E0 := hid ((R7.set 0 (.slice ua7 (tellF RR.1).length uc7)).cell (i := 0) (by omega))
            simp only [if_true] at E0
            have HG9 := hid ((HG7.out.setRow (o := 0) R7 (by decide) (by decide) (.slice ua7 (tellF RR.1).length uc7)).mono (show w.heap.size ≤ _ from Nat.le_trans B4.out.2.2.size hb6d.size))
            have HB9 := hid (B7.out.2.2.setCell (p := ⟨w.heap.size + 3, 0, none⟩) (by dsimp only; omega) (.slice ua7 (tellF RR.1).length uc7))
            clear R7 r0 f0 hG7
            go_wp2_with fail
            rw [HV.out, (ans_yes _).1, (ans_yes _).2.1, (ans_yes _).2.2]
            exact bodyPost_ret (v := .tuple #[.agg #[.slice ua7 (tellF RR.1).length uc7], .int .i64 (tellQ RR.1 (RR.2 : Int)), .bool (tellB RR.1)]) (by simp [results, Try.results49, go_sem, E0.out]) rfl ⟨.slice ua7 (tellF RR.1).length uc7, rfl, HG9.out, HB9.out⟩

end Go.Proofs.Ytmapbkefndbnnaa
