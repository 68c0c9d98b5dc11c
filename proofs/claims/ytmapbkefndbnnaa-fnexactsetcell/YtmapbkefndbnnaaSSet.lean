/- What the specification's SetCell answers. -/
import Derived.Test.YtmapbkefndbnnaaSMrg
import Derived.Deep.RegionHeld3
namespace Go.Proofs.Ytmapbkefndbnnaa
open Go.RowKit
set_option linter.unusedVariables false
set_option linter.unusedSimpArgs false
attribute [local go_sem ↓] Go.wp_at_zero Go.wp_at_succ

set_option maxHeartbeats 4000000 in
set_option maxRecDepth 100000 in
theorem c_sSetCell (a : Option Addr) (F : List Qd) (ca : Nat) (q : Int) (c : Cl) (al : Bool) (w : World) (ha : QSeg w a F) (hl : F.length ≤ 1048576) (hk : KidsLe F) (hca : F.length ≤ ca) (hcm : ca ≤ 9223372036854775807) (hnc : NoneCap w a F) :
    Calls Try.prog 45 #[.agg #[.slice a F.length ca], .int .i64 q, .agg #[.int .i64 c.1, .int .i64 c.2], .bool al] w fun e w' => ∃ u, e = .returned (.tuple #[.agg #[u], .int .i64 (ansQ (setOK F q c) (setR F q c al)), .bool (ansB (setOK F q c) (setR F q c al))]) ∧ GF w' w.heap.size u (ansF (setOK F q c) (setR F q c al)) ∧ Below w.heap.size w w' := by
  have B1 := (Bx.nil w).add (by simp) #[.slice a F.length ca] 25
  have B1b := B1.add (by simp) #[.int .i64 c.1, .int .i64 c.2] 39
  have B2 := hid (B1b.add (by simp) #[.slice none 0 0] 25)
  have Q2 := hid (ha.below B2.out.2.2)
  have N2 := hid (hnc.below ha B2.out.2.2)
  clear B1 B1b hnc
  have x0 := B2.out.cell 0 0 (v := .slice a F.length ca) rfl rfl
  rw [Nat.add_zero] at x0
  have fin : ∀ W : World, Below w.heap.size w W → ∃ u, Ending.returned (.tuple #[.agg #[.slice none 0 0], .int .i64 0, .bool false]) = .returned (.tuple #[.agg #[u], .int .i64 0, .bool false]) ∧ GF W w.heap.size u [] ∧ Below w.heap.size w W := fun W h => ⟨_, rfl, GF.nil _ _, h⟩
  cases hth : thereB F q
  · have HC := hid (c_l3There' a F ca q false hth _ Q2.out hl hk hca hcm)
    have HV := hid (show setOK F q c = false by simp [setOK, hth])
    clear hth ha
    go_enter Try.func45, Try.ntmps45
    go_wp2_with fail
    refine HC.out.mono ?_
    rintro e w3 ⟨rfl, hb⟩
    have B3 := hid (B2.out.step hb)
    clear HC hb
    have R9 := B3.out.row 2 (v := .slice none 0 0) (t := 25) rfl
    have r0 := R9.cell (i := 0) (by omega)
    have f0 := R9.frozen 0
    have E0 := hid ((R9.set 0 (.slice none 0 0)).cell (i := 0) (by omega))
    simp only [if_true] at E0
    have HB := hid (B3.out.2.2.setCell (p := ⟨w.heap.size + 2, 0, none⟩) (by dsimp only; omega) (.slice none 0 0))
    clear R9
    go_wp2_with fail
    rw [HV.out, (ans_no _).1, (ans_no _).2.1, (ans_no _).2.2]
    exact bodyPost_ret (v := .tuple #[.agg #[.slice none 0 0], .int .i64 0, .bool false]) (by simp [results, Try.results45, go_sem, E0.out]) rfl (fin _ HB.out)
  · have HC := hid (c_l3There' a F ca q true hth _ Q2.out hl hk hca hcm)
    obtain ⟨hg, h0, h1⟩ := there_bd hth
    obtain ⟨hn5, hlevN⟩ := levN_le hg (show q.toNat < F.length by omega)
    obtain ⟨b1, o1, ak, ck, rfl, hb1, p1, _⟩ := ha q.toNat (by omega)
    cases hw : hoB (levN F q.toNat) c
    · have HV := hid (show setOK F q c = false by simp [setOK, hth, hw])
      have HD := hid (fun (W : World) (hQ : QSeg W (some ⟨b1, o1, none⟩) F) => c_l4Within (some ⟨b1, o1, none⟩) F ca q c (levN F q.toNat) hn5 false W hw h0 h1 hlevN hQ)
      clear hth ha hw hlevN hn5 hg p1
      go_enter Try.func45, Try.ntmps45
      go_wp2_with fail
      refine HC.out.mono ?_
      rintro e w3 ⟨rfl, hb⟩
      have B3 := hid (B2.out.step hb)
      have Q3 := hid (Q2.out.below hb)
      have x3 := B3.out.cell 0 0 (v := .slice (some ⟨b1, o1, none⟩) F.length ca) rfl rfl
      rw [Nat.add_zero] at x3
      have c0 := B3.out.cell 1 0 (v := .int .i64 c.1) rfl rfl
      have c1 := B3.out.cell 1 1 (v := .int .i64 c.2) rfl rfl
      clear HC hb x0
      go_wp2_with fail
      refine (HD.out _ Q3.out).mono ?_
      rintro e w4 ⟨rfl, hb4⟩
      have B4 := hid (B3.out.step hb4)
      clear hb4 x3 c0 c1
      have R9 := B4.out.row 2 (v := .slice none 0 0) (t := 25) rfl
      have r0 := R9.cell (i := 0) (by omega)
      have f0 := R9.frozen 0
      have E0 := hid ((R9.set 0 (.slice none 0 0)).cell (i := 0) (by omega))
      simp only [if_true] at E0
      have HB := hid (B4.out.2.2.setCell (p := ⟨w.heap.size + 2, 0, none⟩) (by dsimp only; omega) (.slice none 0 0))
      clear R9
      go_wp2_with fail
      rw [HV.out, (ans_no _).1, (ans_no _).2.1, (ans_no _).2.2]
      exact bodyPost_ret (v := .tuple #[.agg #[.slice none 0 0], .int .i64 0, .bool false]) (by simp [results, Try.results45, go_sem, E0.out]) rfl (fin _ HB.out)
    · have HV := hid (show setOK F q c = true by simp [setOK, hth, hw])
      have HD := hid (fun (W : World) (hQ : QSeg W (some ⟨b1, o1, none⟩) F) => c_l4Within (some ⟨b1, o1, none⟩) F ca q c (levN F q.toNat) hn5 true W hw h0 h1 hlevN hQ)
      have LA := cellsOfQ_le hg (show q.toNat < F.length by omega)
      obtain ⟨SL, hSL⟩ : ∃ L, L = setL F q.toNat c al := ⟨_, rfl⟩
      have HLEN := hid (show SL.length ≤ 1048576 by
        rw [hSL]
        have := dropL_le (cellsOfQ F q.toNat) [c]
        cases al
        · simp only [setL, Bool.false_eq_true, if_false]; omega
        · simp only [setL, if_true, List.length_append, List.length_cons, List.length_nil]; omega)
      have HTL : Hid (∀ (W : World) (la : Option Addr) (lca : Nat), QSeg W (some ⟨b1, o1, none⟩) F → NoneCap W (some ⟨b1, o1, none⟩) F → Seg W la SL → Calls Try.prog 107 #[.agg #[.slice (some ⟨b1, o1, none⟩) F.length ca], .int .i64 (qa F q.toNat).1, .slice la SL.length lca] W fun e w' => ∃ u, e = .returned (.tuple #[.agg #[u], .int .i64 (tellQ (setR F q c al).1 ((setR F q c al).2 : Int)), .bool (tellB (setR F q c al).1)]) ∧ GF w' W.heap.size u (tellF (setR F q c al).1) ∧ Below W.heap.size W w') := by
        intro W la lca hQ hN hS
        have := c_l4Tell hg (some ⟨b1, o1, none⟩) ca (levN F q.toNat) hn5 la SL lca W hQ hN hS HLEN.out
        rw [← hlevN] at this
        have e : setR F q c al = treeL SL (levN F q.toNat) 0 0 F := by rw [hSL]; rfl
        rw [← e] at this
        exact this
      have HL1 := hid (fun (W : World) (hQ : QSeg W (some ⟨b1, o1, none⟩) F) => c_l3CellsAll hg (some ⟨b1, o1, none⟩) ca q W hQ h0 h1)
      have HSL := hid (show SL = if al = true then cellsOfQ F q.toNat ++ [(c.1, c.2)] else dropL (cellsOfQ F q.toNat) [(c.1, c.2)] from hSL)
      have HLA := hid LA
      have HLV := hid (⟨hb1, p1⟩ : _ ∧ _)
      generalize (qa F q.toNat).1 = lv at *
      generalize hRR : setR F q c al = RR at *
      generalize cellsOfQ F q.toNat = CA at *
      clear hRR hth ha hw hlevN hn5 hg LA hSL p1
      cases al
      all_goals
        simp only [Bool.false_eq_true, if_false, if_true] at HSL
        go_enter Try.func45, Try.ntmps45
        go_wp2_with fail
        refine HC.out.mono ?_
        rintro e w3 ⟨rfl, hb⟩
        have B3 := hid (B2.out.step hb)
        have Q3 := hid (Q2.out.below hb)
        have N3 := hid (N2.out.below Q2.out hb)
        have x3 := B3.out.cell 0 0 (v := .slice (some ⟨b1, o1, none⟩) F.length ca) rfl rfl
        rw [Nat.add_zero] at x3
        have c0 := B3.out.cell 1 0 (v := .int .i64 c.1) rfl rfl
        have c1 := B3.out.cell 1 1 (v := .int .i64 c.2) rfl rfl
        clear HC hb x0
        go_wp2_with fail
        refine (HD.out _ Q3.out).mono ?_
        rintro e w4 ⟨rfl, hb4⟩
        have B4 := hid (B3.out.step hb4)
        have Q4 := hid (Q3.out.below hb4)
        have N4 := hid (N3.out.below Q3.out hb4)
        have x4 := B4.out.cell 0 0 (v := .slice (some ⟨b1, o1, none⟩) F.length ca) rfl rfl
        rw [Nat.add_zero] at x4
        have y4 := (B4.out.2.2.cell (p := ⟨b1, o1 + q.toNat * 2, none⟩) HLV.out.1).trans HLV.out.2
        have S4 := hid (⟨x4, y4⟩ : _ ∧ _)
        have HSZ4 := hid (⟨B4.out.lt 0 (by simp), Nat.lt_of_lt_of_le HLV.out.1 B4.out.2.2.size⟩ : w.heap.size + 0 < w4.heap.size ∧ b1 < w4.heap.size)
        have keep : Hid (∀ W : World, Below w4.heap.size w4 W → W.cell? ⟨w.heap.size, 0, none⟩ = some (.slice (some ⟨b1, o1, none⟩) F.length ca) ∧ W.cell? ⟨b1, o1 + q.toNat * 2, none⟩ = some (.int .i64 lv)) := fun W h => ⟨(h.cell (p := ⟨w.heap.size, 0, none⟩) (by have := HSZ4.out.1; simpa using this)).trans S4.out.1, (h.cell (p := ⟨b1, o1 + q.toNat * 2, none⟩) HSZ4.out.2).trans S4.out.2⟩
        clear hb4 x3 c0 c1 y4
        go_wp2_with fail
        refine (HL1.out _ Q4.out).mono ?_
        rintro e w5 ⟨v5, rfl, hO5, hb5⟩
        have HO5 := hid hO5
        obtain ⟨a5, c5, rfl, hS5⟩ := hO5.form
        have HSS5 := hid hS5
        have B5 := hid (B4.out.step hb5)
        have c0 := B5.out.cell 1 0 (v := .int .i64 c.1) rfl rfl
        have c1 := B5.out.cell 1 1 (v := .int .i64 c.2) rfl rfl
        have ba := (Below.refl w5.heap.size w5).alloc (Nat.le_refl _) (.cells #[.int .i64 c.1, .int .i64 c.2] 39)
        have HO5a := hid (HO5.out.below ba)
        have HS5a := hid (HSS5.out.below ba)
        have HSg := hid (seg_block (c := (c.1, c.2)) (heap_alloc_new w5 (.cells #[.int .i64 c.1, .int .i64 c.2] 39)))
        have HB5a := hid (hb5.trans (ba.mono hb5.size))
        clear hO5 hS5 ba x4 hb5
      · have HDR : Hid (∀ (W : World) (aa : Option Addr) (cc B : Nat), Seg W aa CA → Seg W (some ⟨B, 0, none⟩) [(c.1, c.2)] → Calls Try.prog 106 #[.slice aa CA.length cc, .slice (some ⟨B, 0, none⟩) 1 1] W fun e w' => ∃ v, e = .returned v ∧ OwnS w' W.heap.size v SL ∧ Below W.heap.size W w') := by
          intro W aa cc B s1 s2
          rw [HSL.out]
          exact c_l4Drop aa CA cc (some ⟨B, 0, none⟩) [(c.1, c.2)] 1 W s1 (by have := HLA.out; omega) s2 (by simp)
        go_wp2_with fail
        refine (HDR.out _ _ _ _ HS5a.out HSg.out).mono ?_
        rintro e w6 ⟨v6, rfl, hO6, hb6a⟩
        obtain ⟨a6, c6, rfl, hS6⟩ := hO6.form
        have hb6 := HB5a.out.trans (hb6a.mono HB5a.out.size)
        clear hO6 hb6a c0 c1 HDR
        have bd := (Below.refl w6.heap.size w6).drew
        have hb6d := hb6.trans (bd.mono hb6.size)
        have HS6 := hid (hS6.below bd)
        have Q6 := hid (Q4.out.below hb6d)
        have N6 := hid (N4.out.below Q4.out hb6d)
        have S6 := hid (keep.out _ hb6)
        have S6d := hid (keep.out _ hb6d)
        clear bd hS6
        go_wp2_with fail
        go_region_held3 (fun W => W.cell? ⟨w.heap.size, 0, none⟩ = some (.slice (some ⟨b1, o1, none⟩) F.length ca) ∧ W.cell? ⟨b1, o1 + q.toNat * 2, none⟩ = some (.int .i64 lv))
          (first | exact S6d.out | exact S6.out | exact S7.out | exact S8.out | go_keep)
          (first
            | (go_at_call 107; refine (HTL.out _ a6 c6 Q6.out N6.out HS6.out).mono ?_; rintro e w7 ⟨u7, rfl, hG7, hb7⟩; have HG7 := hid hG7; obtain ⟨ua7, uc7, rfl, _⟩ := hG7.form; have bb7 := hb6d.trans (hb7.mono hb6d.size); have B7 := hid (B4.out.step bb7); have S7 := hid (keep.out w7 bb7); have R7 := B7.out.row 2 (v := .slice none 0 0) (t := 25) rfl; have r0 := R7.cell (i := 0) (by omega); have f0 := R7.frozen 0; have S8 := hid (⟨cell_other S7.out.1 (show (⟨w.heap.size + 2, 0, none⟩ : Addr).block ≠ (⟨w.heap.size, 0, none⟩ : Addr).block by dsimp only; omega) (.slice ua7 (tellF RR.1).length uc7), cell_other S7.out.2 (show (⟨w.heap.size + 2, 0, none⟩ : Addr).block ≠ (⟨b1, o1 + q.toNat * 2, none⟩ : Addr).block by have := HLV.out.1; dsimp only; omega) (.slice ua7 (tellF RR.1).length uc7)⟩ : _ ∧ _)))
        have E0 := hid ((R7.set 0 (.slice ua7 (tellF RR.1).length uc7)).cell (i := 0) (by omega))
        simp only [if_true] at E0
        have HG9 := hid ((HG7.out.setRow (o := 0) R7 (by decide) (by decide) (.slice ua7 (tellF RR.1).length uc7)).mono (show w.heap.size ≤ _ from Nat.le_trans B4.out.2.2.size hb6d.size))
        have HB9 := hid (B7.out.2.2.setCell (p := ⟨w.heap.size + 2, 0, none⟩) (by dsimp only; omega) (.slice ua7 (tellF RR.1).length uc7))
        clear R7 r0 f0 hG7
        go_wp2_with fail
        rw [HV.out, (ans_yes _).1, (ans_yes _).2.1, (ans_yes _).2.2]
        exact bodyPost_ret (v := .tuple #[.agg #[.slice ua7 (tellF RR.1).length uc7], .int .i64 (tellQ RR.1 (RR.2 : Int)), .bool (tellB RR.1)]) (by simp [results, Try.results45, go_sem, E0.out]) rfl ⟨.slice ua7 (tellF RR.1).length uc7, rfl, HG9.out, HB9.out⟩
      · go_wp2_with (at_builtin; refine wpList_app rfl _ _ rfl w4.heap.size _ CA [(c.1, c.2)] _ 1 rfl HO5a.out rfl HSg.out (by intro h; cases h) (by have := HLA.out; simp; omega) HB5a.out.size ?_; intro v6 w6 hO6 hG6; rw [← HSL.out] at hO6; have hb6 := below_grown HB5a.out HO5a.out hG6; obtain ⟨a6, c6, rfl, hS6⟩ := hO6.form; clear hO6 hG6 c0 c1)
        have bd := (Below.refl w6.heap.size w6).drew
        have hb6d := hb6.trans (bd.mono hb6.size)
        have HS6 := hid (hS6.below bd)
        have Q6 := hid (Q4.out.below hb6d)
        have N6 := hid (N4.out.below Q4.out hb6d)
        have S6 := hid (keep.out _ hb6)
        have S6d := hid (keep.out _ hb6d)
        clear bd hS6
        go_wp2_with fail
        go_region_held3 (fun W => W.cell? ⟨w.heap.size, 0, none⟩ = some (.slice (some ⟨b1, o1, none⟩) F.length ca) ∧ W.cell? ⟨b1, o1 + q.toNat * 2, none⟩ = some (.int .i64 lv))
          (first | exact S6d.out | exact S6.out | exact S7.out | exact S8.out | go_keep)
          (first
            | (go_at_call 107; refine (HTL.out _ a6 c6 Q6.out N6.out HS6.out).mono ?_; rintro e w7 ⟨u7, rfl, hG7, hb7⟩; have HG7 := hid hG7; obtain ⟨ua7, uc7, rfl, _⟩ := hG7.form; have bb7 := hb6d.trans (hb7.mono hb6d.size); have B7 := hid (B4.out.step bb7); have S7 := hid (keep.out w7 bb7); have R7 := B7.out.row 2 (v := .slice none 0 0) (t := 25) rfl; have r0 := R7.cell (i := 0) (by omega); have f0 := R7.frozen 0; have S8 := hid (⟨cell_other S7.out.1 (show (⟨w.heap.size + 2, 0, none⟩ : Addr).block ≠ (⟨w.heap.size, 0, none⟩ : Addr).block by dsimp only; omega) (.slice ua7 (tellF RR.1).length uc7), cell_other S7.out.2 (show (⟨w.heap.size + 2, 0, none⟩ : Addr).block ≠ (⟨b1, o1 + q.toNat * 2, none⟩ : Addr).block by have := HLV.out.1; dsimp only; omega) (.slice ua7 (tellF RR.1).length uc7)⟩ : _ ∧ _)))
        have E0 := hid ((R7.set 0 (.slice ua7 (tellF RR.1).length uc7)).cell (i := 0) (by omega))
        simp only [if_true] at E0
        have HG9 := hid ((HG7.out.setRow (o := 0) R7 (by decide) (by decide) (.slice ua7 (tellF RR.1).length uc7)).mono (show w.heap.size ≤ _ from Nat.le_trans B4.out.2.2.size hb6d.size))
        have HB9 := hid (B7.out.2.2.setCell (p := ⟨w.heap.size + 2, 0, none⟩) (by dsimp only; omega) (.slice ua7 (tellF RR.1).length uc7))
        clear R7 r0 f0 hG7
        go_wp2_with fail
        rw [HV.out, (ans_yes _).1, (ans_yes _).2.1, (ans_yes _).2.2]
        exact bodyPost_ret (v := .tuple #[.agg #[.slice ua7 (tellF RR.1).length uc7], .int .i64 (tellQ RR.1 (RR.2 : Int)), .bool (tellB RR.1)]) (by simp [results, Try.results45, go_sem, E0.out]) rfl ⟨.slice ua7 (tellF RR.1).length uc7, rfl, HG9.out, HB9.out⟩

end Go.Proofs.Ytmapbkefndbnnaa
