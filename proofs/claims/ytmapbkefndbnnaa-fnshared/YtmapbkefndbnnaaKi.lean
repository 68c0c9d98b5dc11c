/- Texts of this seat, one behind the other: SSet, ISet, Box, FrP, SGet, IGet, SIsF, IIsF, SClr, LawB. -/
import Derived.Test.YtmapbkefndbnnaaKh
import Derived.Deep.RegionHeld3
import Derived.Test.YtmapbkefndbnnaaKg
import Derived.Test.YtmapbkefndbnnaaKa
import Derived.Laws.NewDeep
import Derived.StillTailTactics
import Derived.Test.YtmapbkefndbnnaaKe
namespace Go.Proofs.Ytmapbkefndbnnaa
open Go.RowKit
set_option linter.unusedVariables false
set_option linter.unusedSimpArgs false
attribute [local go_sem ↓] Go.wp_at_zero Go.wp_at_succ

set_option maxHeartbeats 4000000 in
set_option maxRecDepth 100000 in
theorem c_sSetCell (a : Option Addr) (F : List Qd) (ca : Nat) (q : Int) (c : Cl) (al : Bool) (w : World) (ha : QSeg w a F) (hl : F.length ≤ 1048576) (hk : KidsLe F) (hca : F.length ≤ ca) (hcm : ca ≤ 9223372036854775807) (hnc : NoneCap w a F) :
    Calls Try.prog 45 #[.agg #[.slice a F.length ca], .int .i64 q, .agg #[.int .i64 c.1, .int .i64 c.2], .bool al] w fun e w' => ∃ u, e = .returned (.tuple #[.agg #[u], .int .i64 (ansQ (setOK F q c) (setR F q c al)), .bool (ansB (setOK F q c) (setR F q c al))]) ∧ GF w' w.heap.size u (ansF (setOK F q c) (setR F q c al)) ∧ Below w.heap.size w w' := by
  have B1 := (Bx.nil w).add (by simp) #[.slice a F.length ca] 25
  have B1b := B1.add (by simp) #[.int .i64 c.1, .int .i64 c.2] 39
  have B2 := hid (B1b.add (by simp) #[.slice none 0 0] 25)
  have Q2 := hid (ha.below B2.out.2.2)
  have N2 := hid (hnc.below ha B2.out.2.2)
  clear B1 B1b hnc
  have x0 := B2.out.cell 0 0 (v := .slice a F.length ca) rfl rfl
  rw [Nat.add_zero] at x0
  have fin : ∀ W : World, Below w.heap.size w W → ∃ u, Ending.returned (.tuple #[.agg #[.slice none 0 0], .int .i64 0, .bool false]) = .returned (.tuple #[.agg #[u], .int .i64 0, .bool false]) ∧ GF W w.heap.size u [] ∧ Below w.heap.size w W := fun W h => ⟨_, rfl, GF.nil _ _, h⟩
  cases hth : thereB F q
  · have HC := hid (c_l3There' a F ca q false hth _ Q2.out hl hk hca hcm)
    have HV := hid (show setOK F q c = false by simp [setOK, hth])
    clear hth ha
    go_enter Try.func45, Try.ntmps45
    go_wp2_with fail
    refine HC.out.mono ?_
    rintro e w3 ⟨rfl, hb⟩
    have B3 := hid (B2.out.step hb)
    clear HC hb
    have R9 := B3.out.row 2 (v := .slice none 0 0) (t := 25) rfl
    have r0 := R9.cell (i := 0) (by omega)
    have f0 := R9.frozen 0
    have E0 := hid ((R9.set 0 (.slice none 0 0)).cell (i := 0) (by omega))
    simp only [if_true] at E0
    have HB := hid (B3.out.2.2.setCell (p := ⟨w.heap.size + 2, 0, none⟩) (by dsimp only; omega) (.slice none 0 0))
    clear R9
    go_wp2_with fail
    rw [HV.out, (ans_no _).1, (ans_no _).2.1, (ans_no _).2.2]
    exact bodyPost_ret (v := .tuple #[.agg #[.slice none 0 0], .int .i64 0, .bool false]) (by simp [results, Try.results45, go_sem, E0.out]) rfl (fin _ HB.out)
  · have HC := hid (c_l3There' a F ca q true hth _ Q2.out hl hk hca hcm)
    obtain ⟨hg, h0, h1⟩ := there_bd hth
    obtain ⟨hn5, hlevN⟩ := levN_le hg (show q.toNat < F.length by omega)
    obtain ⟨b1, o1, ak, ck, rfl, hb1, p1, _⟩ := ha q.toNat (by omega)
    cases hw : hoB (levN F q.toNat) c
    · have HV := hid (show setOK F q c = false by simp [setOK, hth, hw])
      have HD := hid (fun (W : World) (hQ : QSeg W (some ⟨b1, o1, none⟩) F) => c_l4Within (some ⟨b1, o1, none⟩) F ca q c (levN F q.toNat) hn5 false W hw h0 h1 hlevN hQ)
      clear hth ha hw hlevN hn5 hg p1
      go_enter Try.func45, Try.ntmps45
      go_wp2_with fail
      refine HC.out.mono ?_
      rintro e w3 ⟨rfl, hb⟩
      have B3 := hid (B2.out.step hb)
      have Q3 := hid (Q2.out.below hb)
      have x3 := B3.out.cell 0 0 (v := .slice (some ⟨b1, o1, none⟩) F.length ca) rfl rfl
      rw [Nat.add_zero] at x3
      have c0 := B3.out.cell 1 0 (v := .int .i64 c.1) rfl rfl
      have c1 := B3.out.cell 1 1 (v := .int .i64 c.2) rfl rfl
      clear HC hb x0
      go_wp2_with fail
      refine (HD.out _ Q3.out).mono ?_
      rintro e w4 ⟨rfl, hb4⟩
      have B4 := hid (B3.out.step hb4)
      clear hb4 x3 c0 c1
      have R9 := B4.out.row 2 (v := .slice none 0 0) (t := 25) rfl
      have r0 := R9.cell (i := 0) (by omega)
      have f0 := R9.frozen 0
      have E0 := hid ((R9.set 0 (.slice none 0 0)).cell (i := 0) (by omega))
      simp only [if_true] at E0
      have HB := hid (B4.out.2.2.setCell (p := ⟨w.heap.size + 2, 0, none⟩) (by dsimp only; omega) (.slice none 0 0))
      clear R9
      go_wp2_with fail
      rw [HV.out, (ans_no _).1, (ans_no _).2.1, (ans_no _).2.2]
      exact bodyPost_ret (v := .tuple #[.agg #[.slice none 0 0], .int .i64 0, .bool false]) (by simp [results, Try.results45, go_sem, E0.out]) rfl (fin _ HB.out)
    · have HV := hid (show setOK F q c = true by simp [setOK, hth, hw])
      have HD := hid (fun (W : World) (hQ : QSeg W (some ⟨b1, o1, none⟩) F) => c_l4Within (some ⟨b1, o1, none⟩) F ca q c (levN F q.toNat) hn5 true W hw h0 h1 hlevN hQ)
      have LA := cellsOfQ_le hg (show q.toNat < F.length by omega)
      obtain ⟨SL, hSL⟩ : ∃ L, L = setL F q.toNat c al := ⟨_, rfl⟩
      have HLEN := hid (show SL.length ≤ 1048576 by
        rw [hSL]
        have := dropL_le (cellsOfQ F q.toNat) [c]
        cases al
        · simp only [setL, Bool.false_eq_true, if_false]; omega
        · simp only [setL, if_true, List.length_append, List.length_cons, List.length_nil]; omega)
      have HTL : Hid (∀ (W : World) (la : Option Addr) (lca : Nat), QSeg W (some ⟨b1, o1, none⟩) F → NoneCap W (some ⟨b1, o1, none⟩) F → Seg W la SL → Calls Try.prog 107 #[.agg #[.slice (some ⟨b1, o1, none⟩) F.length ca], .int .i64 (qa F q.toNat).1, .slice la SL.length lca] W fun e w' => ∃ u, e = .returned (.tuple #[.agg #[u], .int .i64 (tellQ (setR F q c al).1 ((setR F q c al).2 : Int)), .bool (tellB (setR F q c al).1)]) ∧ GF w' W.heap.size u (tellF (setR F q c al).1) ∧ Below W.heap.size W w') := by
        intro W la lca hQ hN hS
        have := c_l4Tell hg (some ⟨b1, o1, none⟩) ca (levN F q.toNat) hn5 la SL lca W hQ hN hS HLEN.out
        rw [← hlevN] at this
        have e : setR F q c al = treeL SL (levN F q.toNat) 0 0 F := by rw [hSL]; rfl
        rw [← e] at this
        exact this
      have HL1 := hid (fun (W : World) (hQ : QSeg W (some ⟨b1, o1, none⟩) F) => c_l3CellsAll hg (some ⟨b1, o1, none⟩) ca q W hQ h0 h1)
      have HSL := hid (show SL = if al = true then cellsOfQ F q.toNat ++ [(c.1, c.2)] else dropL (cellsOfQ F q.toNat) [(c.1, c.2)] from hSL)
      have HLA := hid LA
      have HLV := hid (⟨hb1, p1⟩ : _ ∧ _)
      generalize (qa F q.toNat).1 = lv at *
      generalize hRR : setR F q c al = RR at *
      generalize cellsOfQ F q.toNat = CA at *
      clear hRR hth ha hw hlevN hn5 hg LA hSL p1
      cases al
      all_goals
        simp only [Bool.false_eq_true, if_false, if_true] at HSL
        go_enter Try.func45, Try.ntmps45
        go_wp2_with fail
        refine HC.out.mono ?_
        rintro e w3 ⟨rfl, hb⟩
        have B3 := hid (B2.out.step hb)
        have Q3 := hid (Q2.out.below hb)
        have N3 := hid (N2.out.below Q2.out hb)
        have x3 := B3.out.cell 0 0 (v := .slice (some ⟨b1, o1, none⟩) F.length ca) rfl rfl
        rw [Nat.add_zero] at x3
        have c0 := B3.out.cell 1 0 (v := .int .i64 c.1) rfl rfl
        have c1 := B3.out.cell 1 1 (v := .int .i64 c.2) rfl rfl
        clear HC hb x0
        go_wp2_with fail
        refine (HD.out _ Q3.out).mono ?_
        rintro e w4 ⟨rfl, hb4⟩
        have B4 := hid (B3.out.step hb4)
        have Q4 := hid (Q3.out.below hb4)
        have N4 := hid (N3.out.below Q3.out hb4)
        have x4 := B4.out.cell 0 0 (v := .slice (some ⟨b1, o1, none⟩) F.length ca) rfl rfl
        rw [Nat.add_zero] at x4
        have y4 := (B4.out.2.2.cell (p := ⟨b1, o1 + q.toNat * 2, none⟩) HLV.out.1).trans HLV.out.2
        have S4 := hid (⟨x4, y4⟩ : _ ∧ _)
        have HSZ4 := hid (⟨B4.out.lt 0 (by simp), Nat.lt_of_lt_of_le HLV.out.1 B4.out.2.2.size⟩ : w.heap.size + 0 < w4.heap.size ∧ b1 < w4.heap.size)
        have keep : Hid (∀ W : World, Below w4.heap.size w4 W → W.cell? ⟨w.heap.size, 0, none⟩ = some (.slice (some ⟨b1, o1, none⟩) F.length ca) ∧ W.cell? ⟨b1, o1 + q.toNat * 2, none⟩ = some (.int .i64 lv)) := fun W h => ⟨(h.cell (p := ⟨w.heap.size, 0, none⟩) (by have := HSZ4.out.1; simpa using this)).trans S4.out.1, (h.cell (p := ⟨b1, o1 + q.toNat * 2, none⟩) HSZ4.out.2).trans S4.out.2⟩
        clear hb4 x3 c0 c1 y4
        go_wp2_with fail
        refine (HL1.out _ Q4.out).mono ?_
        rintro e w5 ⟨v5, rfl, hO5, hb5⟩
        have HO5 := hid hO5
        obtain ⟨a5, c5, rfl, hS5⟩ := hO5.form
        have HSS5 := hid hS5
        have B5 := hid (B4.out.step hb5)
        have c0 := B5.out.cell 1 0 (v := .int .i64 c.1) rfl rfl
        have c1 := B5.out.cell 1 1 (v := .int .i64 c.2) rfl rfl
        have ba := (Below.refl w5.heap.size w5).alloc (Nat.le_refl _) (.cells #[.int .i64 c.1, .int .i64 c.2] 39)
        have HO5a := hid (HO5.out.below ba)
        have HS5a := hid (HSS5.out.below ba)
        have HSg := hid (seg_block (c := (c.1, c.2)) (heap_alloc_new w5 (.cells #[.int .i64 c.1, .int .i64 c.2] 39)))
        have HB5a := hid (hb5.trans (ba.mono hb5.size))
        clear hO5 hS5 ba x4 hb5
      · have HDR : Hid (∀ (W : World) (aa : Option Addr) (cc B : Nat), Seg W aa CA → Seg W (some ⟨B, 0, none⟩) [(c.1, c.2)] → Calls Try.prog 106 #[.slice aa CA.length cc, .slice (some ⟨B, 0, none⟩) 1 1] W fun e w' => ∃ v, e = .returned v ∧ OwnS w' W.heap.size v SL ∧ Below W.heap.size W w') := by
          intro W aa cc B s1 s2
          rw [HSL.out]
          exact c_l4Drop aa CA cc (some ⟨B, 0, none⟩) [(c.1, c.2)] 1 W s1 (by have := HLA.out; omega) s2 (by simp)
        go_wp2_with fail
        refine (HDR.out _ _ _ _ HS5a.out HSg.out).mono ?_
        rintro e w6 ⟨v6, rfl, hO6, hb6a⟩
        obtain ⟨a6, c6, rfl, hS6⟩ := hO6.form
        have hb6 := HB5a.out.trans (hb6a.mono HB5a.out.size)
        clear hO6 hb6a c0 c1 HDR
        have bd := (Below.refl w6.heap.size w6).drew
        have hb6d := hb6.trans (bd.mono hb6.size)
        have HS6 := hid (hS6.below bd)
        have Q6 := hid (Q4.out.below hb6d)
        have N6 := hid (N4.out.below Q4.out hb6d)
        have S6 := hid (keep.out _ hb6)
        have S6d := hid (keep.out _ hb6d)
        clear bd hS6
        go_wp2_with fail
        go_region_held3 (fun W => W.cell? ⟨w.heap.size, 0, none⟩ = some (.slice (some ⟨b1, o1, none⟩) F.length ca) ∧ W.cell? ⟨b1, o1 + q.toNat * 2, none⟩ = some (.int .i64 lv))
          (first | exact S6d.out | exact S6.out | exact S7.out | exact S8.out | go_keep)
          (first
            | (go_at_call 107; refine (HTL.out _ a6 c6 Q6.out N6.out HS6.out).mono ?_; rintro e w7 ⟨u7, rfl, hG7, hb7⟩; have HG7 := hid hG7; obtain ⟨ua7, uc7, rfl, _⟩ := hG7.form; have bb7 := hb6d.trans (hb7.mono hb6d.size); have B7 := hid (B4.out.step bb7); have S7 := hid (keep.out w7 bb7); have R7 := B7.out.row 2 (v := .slice none 0 0) (t := 25) rfl; have r0 := R7.cell (i := 0) (by omega); have f0 := R7.frozen 0; have S8 := hid (⟨cell_other S7.out.1 (show (⟨w.heap.size + 2, 0, none⟩ : Addr).block ≠ (⟨w.heap.size, 0, none⟩ : Addr).block by dsimp only; omega) (.slice ua7 (tellF RR.1).length uc7), cell_other S7.out.2 (show (⟨w.heap.size + 2, 0, none⟩ : Addr).block ≠ (⟨b1, o1 + q.toNat * 2, none⟩ : Addr).block by have := HLV.out.1; dsimp only; omega) (.slice ua7 (tellF RR.1).length uc7)⟩ : _ ∧ _)))
        have E0 := hid ((R7.set 0 (.slice ua7 (tellF RR.1).length uc7)).cell (i := 0) (by omega))
        simp only [if_true] at E0
        have HG9 := hid ((HG7.out.setRow (o := 0) R7 (by decide) (by decide) (.slice ua7 (tellF RR.1).length uc7)).mono (show w.heap.size ≤ _ from Nat.le_trans B4.out.2.2.size hb6d.size))
        have HB9 := hid (B7.out.2.2.setCell (p := ⟨w.heap.size + 2, 0, none⟩) (by dsimp only; omega) (.slice ua7 (tellF RR.1).length uc7))
        clear R7 r0 f0 hG7
        go_wp2_with fail
        rw [HV.out, (ans_yes _).1, (ans_yes _).2.1, (ans_yes _).2.2]
        exact bodyPost_ret (v := .tuple #[.agg #[.slice ua7 (tellF RR.1).length uc7], .int .i64 (tellQ RR.1 (RR.2 : Int)), .bool (tellB RR.1)]) (by simp [results, Try.results45, go_sem, E0.out]) rfl ⟨.slice ua7 (tellF RR.1).length uc7, rfl, HG9.out, HB9.out⟩
      · go_wp2_with (at_builtin; refine wpList_app rfl _ _ rfl w4.heap.size _ CA [(c.1, c.2)] _ 1 rfl HO5a.out rfl HSg.out (by intro h; cases h) (by have := HLA.out; simp; omega) HB5a.out.size ?_; intro v6 w6 hO6 hG6; rw [← HSL.out] at hO6; have hb6 := below_grown HB5a.out HO5a.out hG6; obtain ⟨a6, c6, rfl, hS6⟩ := hO6.form; clear hO6 hG6 c0 c1)
        have bd := (Below.refl w6.heap.size w6).drew
        have hb6d := hb6.trans (bd.mono hb6.size)
        have HS6 := hid (hS6.below bd)
        have Q6 := hid (Q4.out.below hb6d)
        have N6 := hid (N4.out.below Q4.out hb6d)
        have S6 := hid (keep.out _ hb6)
        have S6d := hid (keep.out _ hb6d)
        clear bd hS6
        go_wp2_with fail
        go_region_held3 (fun W => W.cell? ⟨w.heap.size, 0, none⟩ = some (.slice (some ⟨b1, o1, none⟩) F.length ca) ∧ W.cell? ⟨b1, o1 + q.toNat * 2, none⟩ = some (.int .i64 lv))
          (first | exact S6d.out | exact S6.out | exact S7.out | exact S8.out | go_keep)
          (first
            | (go_at_call 107; refine (HTL.out _ a6 c6 Q6.out N6.out HS6.out).mono ?_; rintro e w7 ⟨u7, rfl, hG7, hb7⟩; have HG7 := hid hG7; obtain ⟨ua7, uc7, rfl, _⟩ := hG7.form; have bb7 := hb6d.trans (hb7.mono hb6d.size); have B7 := hid (B4.out.step bb7); have S7 := hid (keep.out w7 bb7); have R7 := B7.out.row 2 (v := .slice none 0 0) (t := 25) rfl; have r0 := R7.cell (i := 0) (by omega); have f0 := R7.frozen 0; have S8 := hid (⟨cell_other S7.out.1 (show (⟨w.heap.size + 2, 0, none⟩ : Addr).block ≠ (⟨w.heap.size, 0, none⟩ : Addr).block by dsimp only; omega) (.slice ua7 (tellF RR.1).length uc7), cell_other S7.out.2 (show (⟨w.heap.size + 2, 0, none⟩ : Addr).block ≠ (⟨b1, o1 + q.toNat * 2, none⟩ : Addr).block by have := HLV.out.1; dsimp only; omega) (.slice ua7 (tellF RR.1).length uc7)⟩ : _ ∧ _)))
        have E0 := hid ((R7.set 0 (.slice ua7 (tellF RR.1).length uc7)).cell (i := 0) (by omega))
        simp only [if_true] at E0
        have HG9 := hid ((HG7.out.setRow (o := 0) R7 (by decide) (by decide) (.slice ua7 (tellF RR.1).length uc7)).mono (show w.heap.size ≤ _ from Nat.le_trans B4.out.2.2.size hb6d.size))
        have HB9 := hid (B7.out.2.2.setCell (p := ⟨w.heap.size + 2, 0, none⟩) (by dsimp only; omega) (.slice ua7 (tellF RR.1).length uc7))
        clear R7 r0 f0 hG7
        go_wp2_with fail
        rw [HV.out, (ans_yes _).1, (ans_yes _).2.1, (ans_yes _).2.2]
        exact bodyPost_ret (v := .tuple #[.agg #[.slice ua7 (tellF RR.1).length uc7], .int .i64 (tellQ RR.1 (RR.2 : Int)), .bool (tellB RR.1)]) (by simp [results, Try.results45, go_sem, E0.out]) rfl ⟨.slice ua7 (tellF RR.1).length uc7, rfl, HG9.out, HB9.out⟩

end Go.Proofs.Ytmapbkefndbnnaa

namespace Go.Proofs.Ytmapbkefndbnnaa
open Go.RowKit
set_option linter.unusedVariables false
set_option linter.unusedSimpArgs false
attribute [local go_sem ↓] Go.wp_at_zero Go.wp_at_succ

theorem fill_call {F : List Qd} {q : Int} (L' : List Cl) (fx fy tx ty : Int) (is : Nat) (his : is = 0 ∨ is = 1) (isv : Int) (hisv : (is : Int) = isv) (hth : thereB F q = true) (hm : ∀ d, sqB (levN F q.toNat) 0 0 d → (d ∈ L' ↔ if mtB fx fy tx ty 0 d.1 d.2 = true then is = 1 else d ∈ cellsOfQ F q.toNat)) : Grows (treeL L' (levN F q.toNat) 0 0 F).1 ∧ (treeL L' (levN F q.toNat) 0 0 F).1.length ≤ 10000 ∧ ∀ (W : World) (base p g cap mb : Nat), Grv W base p g cap mb F → Calls Try.prog 103 #[.pointer (some ⟨p, 0, none⟩), .int .i64 q, .agg #[.int .i64 0, .int .i64 0], .func (.func 104) #[.agg #[.int .i64 fx, .int .i64 fy, .int .i64 tx, .int .i64 ty]] #[], .int .i64 isv] W fun e w' => ∃ g' cap', e = .returned (.int .i64 ((treeL L' (levN F q.toNat) 0 0 F).2 : Int)) ∧ Grv w' base p g' cap' mb (treeL L' (levN F q.toNat) 0 0 F).1 ∧ Below base W w' := by
  obtain ⟨h1, h2, h3⟩ := there_to hth
  have n5 := (levN_le h1 h2).1
  have h6 := good_len2 h1
  have p4 := pow4_le n5
  have p2 := pow_le_32 n5
  have t := treeL_tr L' (levN F q.toNat) 0 0 F n5 (good_grows h1)
  refine ⟨t.grows, by have := t.most; omega, ?_⟩
  intro W base p g cap mb hG
  have := c_fill (cellsOfQ F q.toNat) L' fx fy tx ty is his base p mb (levN F q.toNat) q.toNat 0 0 F g cap W n5 (good_grows h1) (by omega) (by omega) (by omega) (by omega) (by omega) (cellsOfQ_is h1 h2) hm hG
  rw [h3, hisv] at this
  exact this.mono fun e w' ⟨g', c', e1, e2, e3, _⟩ => ⟨g', c', e1, e2, e3⟩

set_option maxHeartbeats 4000000 in
set_option maxRecDepth 100000 in
theorem c_iSetCell (a : Option Addr) (F : List Qd) (ca : Nat) (q : Int) (c : Cl) (al : Bool) (w : World) (ha : QSeg w a F) (hl : F.length ≤ 1048576) (hk : KidsLe F) (hca : F.length ≤ ca) (hcm : ca ≤ 9223372036854775807) :
    Calls Try.prog 44 #[.agg #[.slice a F.length ca], .int .i64 q, .agg #[.int .i64 c.1, .int .i64 c.2], .bool al] w fun e w' => ∃ u, e = .returned (.tuple #[.agg #[u], .int .i64 (ansQ (setOK F q c) (setR F q c al)), .bool (ansB (setOK F q c) (setR F q c al))]) ∧ FOwn w' w.heap.size w'.heap.size u (ansF (setOK F q c) (setR F q c al)) ∧ Below w.heap.size w w' := by
  have B1 := (Bx.nil w).add (by simp) #[.slice a F.length ca] 25
  have B1b := B1.add (by simp) #[.int .i64 c.1, .int .i64 c.2] 39
  have B2 := hid (B1b.add (by simp) #[.slice none 0 0] 25)
  have Q2 := hid (ha.below B2.out.2.2)
  clear B1 B1b ha
  have x0 := B2.out.cell 0 0 (v := .slice a F.length ca) rfl rfl
  rw [Nat.add_zero] at x0
  have fin : ∀ W : World, Below w.heap.size w W → ∃ u, Ending.returned (.tuple #[.agg #[.slice none 0 0], .int .i64 0, .bool false]) = .returned (.tuple #[.agg #[u], .int .i64 0, .bool false]) ∧ FOwn W w.heap.size W.heap.size u [] ∧ Below w.heap.size w W := fun W h => ⟨_, rfl, .inl ⟨rfl, rfl⟩, h⟩
  have HC := hid (c_groveOf a F ca _ Q2.out hl hk hca hcm)
  cases hg : goodF F
  · rw [hg] at HC
    have HV := hid (show setOK F q c = false by simp [setOK, thereB, hg])
    clear hg
    go_enter Try.func44, Try.ntmps44
    go_wp2_with fail
    refine HC.out.mono ?_
    rintro e w3 ⟨pv, rfl, ho, hb⟩
    have B3 := hid (B2.out.step hb)
    clear ho HC hb
    have R9 := B3.out.row 2 (v := .slice none 0 0) (t := 25) rfl
    have r0 := R9.cell (i := 0) (by omega)
    have f0 := R9.frozen 0
    have E0 := hid ((R9.set 0 (.slice none 0 0)).cell (i := 0) (by omega))
    simp only [if_true] at E0
    have HB := hid (B3.out.2.2.setCell (p := ⟨w.heap.size + 2, 0, none⟩) (by dsimp only; omega) (.slice none 0 0))
    clear R9
    go_wp2_with fail
    rw [HV.out, (ans_no _).1, (ans_no _).2.1, (ans_no _).2.2]
    exact bodyPost_ret (v := .tuple #[.agg #[.slice none 0 0], .int .i64 0, .bool false]) (by simp [results, Try.results44, go_sem, E0.out]) rfl (fin _ HB.out)
  · rw [hg] at HC
    have HG := hid hg
    cases hq : inB 0 ((F.length : Int) - 1) q
    · have HV := hid (show setOK F q c = false by simp [setOK, thereB, hq])
      have HE := hid (fun (W : World) (base p g cap mb : Nat) (h : Grv W base p g cap mb F) => c_has' q false W hq h)
      clear hg hq
      go_enter Try.func44, Try.ntmps44
      go_wp2_with fail
      refine HC.out.mono ?_
      rintro e w3 ⟨pv, rfl, ho, hb⟩
      have B3 := hid (B2.out.step hb)
      rcases ho with ⟨_, p, g, cap, mb, base, hbase, rfl, hGv⟩ | ⟨e, _⟩
      · have HGV := hid hGv
        clear HC hb hGv x0
        go_wp2_with fail
        refine (HE.out _ _ _ _ _ _ HGV.out).mono ?_
        rintro e w4 ⟨rfl, hb4⟩
        have B4 := hid (B3.out.step hb4)
        clear hb4
        have R9 := B4.out.row 2 (v := .slice none 0 0) (t := 25) rfl
        have r0 := R9.cell (i := 0) (by omega)
        have f0 := R9.frozen 0
        have E0 := hid ((R9.set 0 (.slice none 0 0)).cell (i := 0) (by omega))
        simp only [if_true] at E0
        have HB := hid (B4.out.2.2.setCell (p := ⟨w.heap.size + 2, 0, none⟩) (by dsimp only; omega) (.slice none 0 0))
        clear R9
        go_wp2_with fail
        rw [HV.out, (ans_no _).1, (ans_no _).2.1, (ans_no _).2.2]
        exact bodyPost_ret (v := .tuple #[.agg #[.slice none 0 0], .int .i64 0, .bool false]) (by simp [results, Try.results44, go_sem, E0.out]) rfl (fin _ HB.out)
      · rw [HG.out] at e; cases e
    · have HE := hid (fun (W : World) (base p g cap mb : Nat) (h : Grv W base p g cap mb F) => c_has' q true W hq h)
      have hqb := inB_bd hq
      have hth : thereB F q = true := by simp [thereB, hg, hq]
      obtain ⟨hn5, hlevN⟩ := levN_le hg (show q.toNat < F.length by omega)
      cases hw : hoB (levN F q.toNat) c
      · have HV := hid (show setOK F q c = false by simp [setOK, hw])
        have HD := hid (fun (W : World) (base p g cap mb : Nat) (h : Grv W base p g cap mb F) => c_holds q c (levN F q.toNat) hn5 false W hw (by omega) (by omega) hlevN h)
        clear hg hq hth hw hlevN hn5 hqb
        go_enter Try.func44, Try.ntmps44
        go_wp2_with fail
        refine HC.out.mono ?_
        rintro e w3 ⟨pv, rfl, ho, hb⟩
        have B3 := hid (B2.out.step hb)
        rcases ho with ⟨_, p, g, cap, mb, base, hbase, rfl, hGv⟩ | ⟨e, _⟩
        · have HGV := hid hGv
          clear HC hb hGv x0
          go_wp2_with fail
          refine (HE.out _ _ _ _ _ _ HGV.out).mono ?_
          rintro e w4 ⟨rfl, hb4⟩
          have B4 := hid (B3.out.step hb4)
          have G4 := hid (HGV.out.below hb4)
          have c0 := B4.out.cell 1 0 (v := .int .i64 c.1) rfl rfl
          have c1 := B4.out.cell 1 1 (v := .int .i64 c.2) rfl rfl
          clear hb4
          go_wp2_with fail
          refine (HD.out _ _ _ _ _ _ G4.out).mono ?_
          rintro e w5 ⟨rfl, hb5⟩
          have B5 := hid (B4.out.step hb5)
          clear hb5 c0 c1
          have R9 := B5.out.row 2 (v := .slice none 0 0) (t := 25) rfl
          have r0 := R9.cell (i := 0) (by omega)
          have f0 := R9.frozen 0
          have E0 := hid ((R9.set 0 (.slice none 0 0)).cell (i := 0) (by omega))
          simp only [if_true] at E0
          have HB := hid (B5.out.2.2.setCell (p := ⟨w.heap.size + 2, 0, none⟩) (by dsimp only; omega) (.slice none 0 0))
          clear R9
          go_wp2_with fail
          rw [HV.out, (ans_no _).1, (ans_no _).2.1, (ans_no _).2.2]
          exact bodyPost_ret (v := .tuple #[.agg #[.slice none 0 0], .int .i64 0, .bool false]) (by simp [results, Try.results44, go_sem, E0.out]) rfl (fin _ HB.out)
        · rw [HG.out] at e; cases e
      · have HV := hid (show setOK F q c = true by simp [setOK, hth, hw])
        have HD := hid (fun (W : World) (base p g cap mb : Nat) (h : Grv W base p g cap mb F) => c_holds q c (levN F q.toNat) hn5 true W hw (by omega) (by omega) hlevN h)
        obtain ⟨hGR, hLR, hcall⟩ := fill_call (setL F q.toNat c al) c.1 c.2 c.1 c.2 (if al then 1 else 0) (by cases al <;> simp) (if al then 1 else 0) (by cases al <;> rfl) hth (set_mem F q.toNat c al)
        have hRR : setR F q c al = treeL (setL F q.toNat c al) (levN F q.toNat) 0 0 F := rfl
        rw [← hRR] at hGR hLR hcall
        have HGR := hid hGR
        have HLR := hid (show (setR F q c al).1.length ≤ 100000 by omega)
        have HCALL := hid hcall
        generalize setR F q c al = R at *
        clear hg hq hth hw hlevN hn5 hqb hGR hLR hcall hRR
        cases al
        all_goals
          simp only [Bool.false_eq_true, if_false, if_true] at HCALL
          go_enter Try.func44, Try.ntmps44
          go_wp2_with fail
          refine HC.out.mono ?_
          rintro e w3 ⟨pv, rfl, ho, hb⟩
          have B3 := hid (B2.out.step hb)
          rcases ho with ⟨_, p, g, cap, mb, base, hbase, rfl, hGv⟩ | ⟨e, _⟩
          · have HGV := hid hGv
            clear HC hb hGv x0
            go_wp2_with fail
            have HBS := hid (show w.heap.size + 3 ≤ base from Nat.le_trans B2.out.2.1 hbase)
            clear hbase
            refine (HE.out _ _ _ _ _ _ HGV.out).mono ?_
            rintro e w4 ⟨rfl, hb4⟩
            have B4 := hid (B3.out.step hb4)
            have G4 := hid (HGV.out.below hb4)
            have c0 := B4.out.cell 1 0 (v := .int .i64 c.1) rfl rfl
            have c1 := B4.out.cell 1 1 (v := .int .i64 c.2) rfl rfl
            clear hb4
            go_wp2_with fail
            refine (HD.out _ _ _ _ _ _ G4.out).mono ?_
            rintro e w5 ⟨rfl, hb5⟩
            have B5 := hid (B4.out.step hb5)
            have G5 := hid (G4.out.below hb5)
            clear hb5 c0 c1
            have c0 := B5.out.cell 1 0 (v := .int .i64 c.1) rfl rfl
            have c1 := B5.out.cell 1 1 (v := .int .i64 c.2) rfl rfl
            go_wp2_with fail
            refine (HCALL.out _ _ _ _ _ _ G5.out).mono ?_
            rintro e w7 ⟨g7, cap7, rfl, hG7, hb7⟩
            clear c0 c1
            have R7 := hid ((B5.out.row 2 (v := .slice none 0 0) (t := 25) rfl).of_block (hb7.block _ (show w.heap.size + 2 < base by have := HBS.out; omega)))
            have HB7 := hid (B5.out.2.2.trans (hb7.mono (show w.heap.size ≤ base by have := HBS.out; omega)))
            have HG7 := hid hG7
            clear hG7 hb7
            have HTL := hid (c_told (R.2 : Int) w7 HG7.out HGR.out HLR.out)
            go_wp2_with fail
            refine HTL.out.mono ?_
            rintro e w8 ⟨u8, rfl, hO8, hb8⟩
            have HO8 := hid hO8
            obtain ⟨ua8, uc8, rfl, _⟩ := hO8.form
            have R9 := R7.out.of_block (hb8.block _ R7.out.lt)
            have hlt7 := R7.out.lt
            have r0 := R9.cell (i := 0) (by omega)
            have f0 := R9.frozen 0
            have E0 := hid ((R9.set 0 (.slice ua8 (tellF R.1).length uc8)).cell (i := 0) (by omega))
            simp only [if_true] at E0
            have hs9 : (w8.setCell ⟨w.heap.size + 2, 0, none⟩ (.slice ua8 (tellF R.1).length uc8)).heap.size = w8.heap.size := by simp
            have hGW : Grew w8 (w8.setCell ⟨w.heap.size + 2, 0, none⟩ (.slice ua8 (tellF R.1).length uc8)) (w.heap.size + 2) (w.heap.size + 2 + 1) := (Grew.refl w8 _ _).set (Nat.le_refl _) (by omega) _
            have HO9 := hid ((HO8.out.kept hGW (by omega)).wide (lo' := w.heap.size) (hi' := w8.heap.size) (by omega) (Nat.le_refl _) (by rw [hs9]; exact Nat.le_refl _))
            have HB9 := hid ((HB7.out.trans (hb8.mono HB7.out.size)).setCell (p := ⟨w.heap.size + 2, 0, none⟩) (by dsimp only; omega) (.slice ua8 (tellF R.1).length uc8))
            have HS9 := hid hs9
            clear HTL hO8 HO8 hb8 R9 hGW hs9 hlt7
            generalize hT : tellF R.1 = TF at *
            generalize hQ' : tellQ R.1 (R.2 : Int) = TQ at *
            generalize hB' : tellB R.1 = TB at *
            go_wp2_with fail
            rw [HV.out, (ans_yes _).1, (ans_yes _).2.1, (ans_yes _).2.2, hT, hQ', hB']
            exact bodyPost_ret (v := .tuple #[.agg #[.slice ua8 TF.length uc8], .int .i64 TQ, .bool TB]) (by simp [results, Try.results44, go_sem, E0.out]) rfl ⟨.slice ua8 TF.length uc8, rfl, by rw [HS9.out]; exact HO9.out, HB9.out⟩
          · rw [HG.out] at e; cases e

set_option maxHeartbeats 4000000 in
set_option maxRecDepth 100000 in
theorem c_iClearBox (a : Option Addr) (F : List Qd) (ca : Nat) (q : Int) (c d : Cl) (w : World) (ha : QSeg w a F) (hl : F.length ≤ 1048576) (hk : KidsLe F) (hca : F.length ≤ ca) (hcm : ca ≤ 9223372036854775807) :
    Calls Try.prog 48 #[.agg #[.slice a F.length ca], .int .i64 q, .agg #[.int .i64 c.1, .int .i64 c.2], .agg #[.int .i64 d.1, .int .i64 d.2]] w fun e w' => ∃ u, e = .returned (.tuple #[.agg #[u], .int .i64 (ansQ (clrOK F q c d) (clrR F q c d)), .bool (ansB (clrOK F q c d) (clrR F q c d))]) ∧ FOwn w' w.heap.size w'.heap.size u (ansF (clrOK F q c d) (clrR F q c d)) ∧ Below w.heap.size w w' := by
  have B1 := (Bx.nil w).add (by simp) #[.slice a F.length ca] 25
  have B1b := B1.add (by simp) #[.int .i64 c.1, .int .i64 c.2] 39
  have B1c := B1b.add (by simp) #[.int .i64 d.1, .int .i64 d.2] 39
  have B2 := hid (B1c.add (by simp) #[.slice none 0 0] 25)
  have Q2 := hid (ha.below B2.out.2.2)
  clear B1 B1b B1c ha
  have x0 := B2.out.cell 0 0 (v := .slice a F.length ca) rfl rfl
  rw [Nat.add_zero] at x0
  have fin : ∀ W : World, Below w.heap.size w W → ∃ u, Ending.returned (.tuple #[.agg #[.slice none 0 0], .int .i64 0, .bool false]) = .returned (.tuple #[.agg #[u], .int .i64 0, .bool false]) ∧ FOwn W w.heap.size W.heap.size u [] ∧ Below w.heap.size w W := fun W h => ⟨_, rfl, .inl ⟨rfl, rfl⟩, h⟩
  have HC := hid (c_groveOf a F ca _ Q2.out hl hk hca hcm)
  cases hg : goodF F
  · rw [hg] at HC
    have HV := hid (show clrOK F q c d = false by simp [clrOK, thereB, hg])
    clear hg
    go_enter Try.func48, Try.ntmps48
    go_wp2_with fail
    refine HC.out.mono ?_
    rintro e w3 ⟨pv, rfl, ho, hb⟩
    have B3 := hid (B2.out.step hb)
    clear ho HC hb
    have R9 := B3.out.row 3 (v := .slice none 0 0) (t := 25) rfl
    have r0 := R9.cell (i := 0) (by omega)
    have f0 := R9.frozen 0
    have E0 := hid ((R9.set 0 (.slice none 0 0)).cell (i := 0) (by omega))
    simp only [if_true] at E0
    have HB := hid (B3.out.2.2.setCell (p := ⟨w.heap.size + 3, 0, none⟩) (by dsimp only; omega) (.slice none 0 0))
    clear R9
    go_wp2_with fail
    rw [HV.out, (ans_no _).1, (ans_no _).2.1, (ans_no _).2.2]
    exact bodyPost_ret (v := .tuple #[.agg #[.slice none 0 0], .int .i64 0, .bool false]) (by simp [results, Try.results48, go_sem, E0.out]) rfl (fin _ HB.out)
  · rw [hg] at HC
    have HG := hid hg
    cases hq : inB 0 ((F.length : Int) - 1) q
    · have HV := hid (show clrOK F q c d = false by simp [clrOK, thereB, hq])
      have HE := hid (fun (W : World) (base p g cap mb : Nat) (h : Grv W base p g cap mb F) => c_has' q false W hq h)
      clear hg hq
      go_enter Try.func48, Try.ntmps48
      go_wp2_with fail
      refine HC.out.mono ?_
      rintro e w3 ⟨pv, rfl, ho, hb⟩
      have B3 := hid (B2.out.step hb)
      rcases ho with ⟨_, p, g, cap, mb, base, hbase, rfl, hGv⟩ | ⟨e, _⟩
      · have HGV := hid hGv
        clear HC hb hGv x0
        go_wp2_with fail
        refine (HE.out _ _ _ _ _ _ HGV.out).mono ?_
        rintro e w4 ⟨rfl, hb4⟩
        have B4 := hid (B3.out.step hb4)
        clear hb4
        have R9 := B4.out.row 3 (v := .slice none 0 0) (t := 25) rfl
        have r0 := R9.cell (i := 0) (by omega)
        have f0 := R9.frozen 0
        have E0 := hid ((R9.set 0 (.slice none 0 0)).cell (i := 0) (by omega))
        simp only [if_true] at E0
        have HB := hid (B4.out.2.2.setCell (p := ⟨w.heap.size + 3, 0, none⟩) (by dsimp only; omega) (.slice none 0 0))
        clear R9
        go_wp2_with fail
        rw [HV.out, (ans_no _).1, (ans_no _).2.1, (ans_no _).2.2]
        exact bodyPost_ret (v := .tuple #[.agg #[.slice none 0 0], .int .i64 0, .bool false]) (by simp [results, Try.results48, go_sem, E0.out]) rfl (fin _ HB.out)
      · rw [HG.out] at e; cases e
    · have HE := hid (fun (W : World) (base p g cap mb : Nat) (h : Grv W base p g cap mb F) => c_has' q true W hq h)
      have hth : thereB F q = true := by simp [thereB, hg, hq]
      cases hw : inR c
      · have HV := hid (show clrOK F q c d = false by simp [clrOK, hw])
        have HD := hid (fun (W : World) => c_inReach' c false hw W)
        clear hg hq hth hw
        go_enter Try.func48, Try.ntmps48
        go_wp2_with fail
        refine HC.out.mono ?_
        rintro e w3 ⟨pv, rfl, ho, hb⟩
        have B3 := hid (B2.out.step hb)
        rcases ho with ⟨_, p, g, cap, mb, base, hbase, rfl, hGv⟩ | ⟨e, _⟩
        · have HGV := hid hGv
          clear HC hb hGv x0
          go_wp2_with fail
          refine (HE.out _ _ _ _ _ _ HGV.out).mono ?_
          rintro e w4 ⟨rfl, hb4⟩
          have B4 := hid (B3.out.step hb4)
          have c0 := B4.out.cell 1 0 (v := .int .i64 c.1) rfl rfl
          have c1 := B4.out.cell 1 1 (v := .int .i64 c.2) rfl rfl
          clear hb4
          go_wp2_with fail
          refine (HD.out _).mono ?_
          rintro e w5 ⟨rfl, hb5⟩
          have B5 := hid (B4.out.step hb5)
          clear hb5 c0 c1
          have R9 := B5.out.row 3 (v := .slice none 0 0) (t := 25) rfl
          have r0 := R9.cell (i := 0) (by omega)
          have f0 := R9.frozen 0
          have E0 := hid ((R9.set 0 (.slice none 0 0)).cell (i := 0) (by omega))
          simp only [if_true] at E0
          have HB := hid (B5.out.2.2.setCell (p := ⟨w.heap.size + 3, 0, none⟩) (by dsimp only; omega) (.slice none 0 0))
          clear R9
          go_wp2_with fail
          rw [HV.out, (ans_no _).1, (ans_no _).2.1, (ans_no _).2.2]
          exact bodyPost_ret (v := .tuple #[.agg #[.slice none 0 0], .int .i64 0, .bool false]) (by simp [results, Try.results48, go_sem, E0.out]) rfl (fin _ HB.out)
        · rw [HG.out] at e; cases e
      · have HD := hid (fun (W : World) => c_inReach' c true hw W)
        cases hw2 : inR d
        · have HV := hid (show clrOK F q c d = false by simp [clrOK, hw2])
          have HD2 := hid (fun (W : World) => c_inReach' d false hw2 W)
          clear hg hq hth hw hw2
          go_enter Try.func48, Try.ntmps48
          go_wp2_with fail
          refine HC.out.mono ?_
          rintro e w3 ⟨pv, rfl, ho, hb⟩
          have B3 := hid (B2.out.step hb)
          rcases ho with ⟨_, p, g, cap, mb, base, hbase, rfl, hGv⟩ | ⟨e, _⟩
          · have HGV := hid hGv
            clear HC hb hGv x0
            go_wp2_with fail
            refine (HE.out _ _ _ _ _ _ HGV.out).mono ?_
            rintro e w4 ⟨rfl, hb4⟩
            have B4 := hid (B3.out.step hb4)
            have G4 := hid (HGV.out.below hb4)
            have c0 := B4.out.cell 1 0 (v := .int .i64 c.1) rfl rfl
            have c1 := B4.out.cell 1 1 (v := .int .i64 c.2) rfl rfl
            clear hb4
            go_wp2_with fail
            refine (HD.out _).mono ?_
            rintro e w5 ⟨rfl, hb5⟩
            have B5 := hid (B4.out.step hb5)
            have G5 := hid (G4.out.below hb5)
            clear hb5 c0 c1
            have d0 := B5.out.cell 2 0 (v := .int .i64 d.1) rfl rfl
            have d1 := B5.out.cell 2 1 (v := .int .i64 d.2) rfl rfl
            go_wp2_with fail
            refine (HD2.out _).mono ?_
            rintro e w6 ⟨rfl, hb6⟩
            have B6 := hid (B5.out.step hb6)
            clear hb6 d0 d1
            have R9 := B6.out.row 3 (v := .slice none 0 0) (t := 25) rfl
            have r0 := R9.cell (i := 0) (by omega)
            have f0 := R9.frozen 0
            have E0 := hid ((R9.set 0 (.slice none 0 0)).cell (i := 0) (by omega))
            simp only [if_true] at E0
            have HB := hid (B6.out.2.2.setCell (p := ⟨w.heap.size + 3, 0, none⟩) (by dsimp only; omega) (.slice none 0 0))
            clear R9
            go_wp2_with fail
            rw [HV.out, (ans_no _).1, (ans_no _).2.1, (ans_no _).2.2]
            exact bodyPost_ret (v := .tuple #[.agg #[.slice none 0 0], .int .i64 0, .bool false]) (by simp [results, Try.results48, go_sem, E0.out]) rfl (fin _ HB.out)
          · rw [HG.out] at e; cases e
        · have HV := hid (show clrOK F q c d = true by simp [clrOK, hth, hw, hw2])
          have HD2 := hid (fun (W : World) => c_inReach' d true hw2 W)
          obtain ⟨hGR, hLR, hcall⟩ := fill_call (clrL F q.toNat c d) c.1 c.2 d.1 d.2 0 (.inl rfl) 0 rfl hth (clr_mem F q.toNat c d)
          have hRR : clrR F q c d = treeL (clrL F q.toNat c d) (levN F q.toNat) 0 0 F := rfl
          rw [← hRR] at hGR hLR hcall
          have HGR := hid hGR
          have HLR := hid (show (clrR F q c d).1.length ≤ 100000 by omega)
          have HCALL := hid hcall
          generalize clrR F q c d = R at *
          clear hg hq hth hw hw2 hGR hLR hcall hRR
          go_enter Try.func48, Try.ntmps48
          go_wp2_with fail
          refine HC.out.mono ?_
          rintro e w3 ⟨pv, rfl, ho, hb⟩
          have B3 := hid (B2.out.step hb)
          rcases ho with ⟨_, p, g, cap, mb, base, hbase, rfl, hGv⟩ | ⟨e, _⟩
          · have HGV := hid hGv
            clear HC hb hGv x0
            go_wp2_with fail
            have HBS := hid (show w.heap.size + 4 ≤ base from Nat.le_trans B2.out.2.1 hbase)
            clear hbase
            refine (HE.out _ _ _ _ _ _ HGV.out).mono ?_
            rintro e w4 ⟨rfl, hb4⟩
            have B4 := hid (B3.out.step hb4)
            have G4 := hid (HGV.out.below hb4)
            have c0 := B4.out.cell 1 0 (v := .int .i64 c.1) rfl rfl
            have c1 := B4.out.cell 1 1 (v := .int .i64 c.2) rfl rfl
            clear hb4
            go_wp2_with fail
            refine (HD.out _).mono ?_
            rintro e w5 ⟨rfl, hb5⟩
            have B5 := hid (B4.out.step hb5)
            have G5 := hid (G4.out.below hb5)
            clear hb5 c0 c1
            have d0 := B5.out.cell 2 0 (v := .int .i64 d.1) rfl rfl
            have d1 := B5.out.cell 2 1 (v := .int .i64 d.2) rfl rfl
            go_wp2_with fail
            refine (HD2.out _).mono ?_
            rintro e w6 ⟨rfl, hb6⟩
            have B6 := hid (B5.out.step hb6)
            have G6 := hid (G5.out.below hb6)
            clear hb6 d0 d1
            have c0 := B6.out.cell 1 0 (v := .int .i64 c.1) rfl rfl
            have c1 := B6.out.cell 1 1 (v := .int .i64 c.2) rfl rfl
            have d0 := B6.out.cell 2 0 (v := .int .i64 d.1) rfl rfl
            have d1 := B6.out.cell 2 1 (v := .int .i64 d.2) rfl rfl
            go_wp2_with fail
            refine (HCALL.out _ _ _ _ _ _ G6.out).mono ?_
            rintro e w7 ⟨g7, cap7, rfl, hG7, hb7⟩
            clear c0 c1 d0 d1
            have R7 := hid ((B6.out.row 3 (v := .slice none 0 0) (t := 25) rfl).of_block (hb7.block _ (show w.heap.size + 3 < base by have := HBS.out; omega)))
            have HB7 := hid (B6.out.2.2.trans (hb7.mono (show w.heap.size ≤ base by have := HBS.out; omega)))
            have HG7 := hid hG7
            clear hG7 hb7
            have HTL := hid (c_told (R.2 : Int) w7 HG7.out HGR.out HLR.out)
            go_wp2_with fail
            refine HTL.out.mono ?_
            rintro e w8 ⟨u8, rfl, hO8, hb8⟩
            have HO8 := hid hO8
            obtain ⟨ua8, uc8, rfl, _⟩ := hO8.form
            have R9 := R7.out.of_block (hb8.block _ R7.out.lt)
            have hlt7 := R7.out.lt
            have r0 := R9.cell (i := 0) (by omega)
            have f0 := R9.frozen 0
            have E0 := hid ((R9.set 0 (.slice ua8 (tellF R.1).length uc8)).cell (i := 0) (by omega))
            simp only [if_true] at E0
            have hs9 : (w8.setCell ⟨w.heap.size + 3, 0, none⟩ (.slice ua8 (tellF R.1).length uc8)).heap.size = w8.heap.size := by simp
            have hGW : Grew w8 (w8.setCell ⟨w.heap.size + 3, 0, none⟩ (.slice ua8 (tellF R.1).length uc8)) (w.heap.size + 3) (w.heap.size + 3 + 1) := (Grew.refl w8 _ _).set (Nat.le_refl _) (by omega) _
            have HO9 := hid ((HO8.out.kept hGW (by omega)).wide (lo' := w.heap.size) (hi' := w8.heap.size) (by omega) (Nat.le_refl _) (by rw [hs9]; exact Nat.le_refl _))
            have HB9 := hid ((HB7.out.trans (hb8.mono HB7.out.size)).setCell (p := ⟨w.heap.size + 3, 0, none⟩) (by dsimp only; omega) (.slice ua8 (tellF R.1).length uc8))
            have HS9 := hid hs9
            clear HTL hO8 HO8 hb8 R9 hGW hs9 hlt7
            generalize hT : tellF R.1 = TF at *
            generalize hQ' : tellQ R.1 (R.2 : Int) = TQ at *
            generalize hB' : tellB R.1 = TB at *
            go_wp2_with fail
            rw [HV.out, (ans_yes _).1, (ans_yes _).2.1, (ans_yes _).2.2, hT, hQ', hB']
            exact bodyPost_ret (v := .tuple #[.agg #[.slice ua8 TF.length uc8], .int .i64 TQ, .bool TB]) (by simp [results, Try.results48, go_sem, E0.out]) rfl ⟨.slice ua8 TF.length uc8, rfl, by rw [HS9.out]; exact HO9.out, HB9.out⟩
          · rw [HG.out] at e; cases e

end Go.Proofs.Ytmapbkefndbnnaa

namespace Go.Proofs.Ytmapbkefndbnnaa
open Go.RowKit
set_option linter.unusedVariables false

theorem c_l1Least (a b : Int) (w : World) : Calls Try.prog 75 #[.int .i64 a, .int .i64 b] w fun e w' => e = .returned (.int .i64 (if b < a then b else a)) ∧ w' = w := by
  by_cases h : a < b
  all_goals
    have e : (if b < a then b else a) = if a < b then a else b := by (repeat' split) <;> omega
    go_enter Try.func75, Try.ntmps75
    go_wp2
    go_ret
    first | (rw [e]; simp [h]) | simp
theorem c_l1Most (a b : Int) (w : World) : Calls Try.prog 76 #[.int .i64 a, .int .i64 b] w fun e w' => e = .returned (.int .i64 (if a < b then b else a)) ∧ w' = w := by
  by_cases h : b < a
  all_goals
    have e : (if a < b then b else a) = if b < a then a else b := by (repeat' split) <;> omega
    go_enter Try.func76, Try.ntmps76
    go_wp2
    go_ret
    first | (rw [e]; simp [h]) | simp

/-- The least of two corners, and the greatest. -/
def loC (a b : Cl) : Cl := (if b.1 < a.1 then b.1 else a.1, if b.2 < a.2 then b.2 else a.2)
def hiC (a b : Cl) : Cl := (if a.1 < b.1 then b.1 else a.1, if a.2 < b.2 then b.2 else a.2)
/-- The corners of the first k. -/
def loTo (l : List Cl) (k : Nat) : Cl := (l.take k).foldl loC (at_ l 0)
def hiTo (l : List Cl) (k : Nat) : Cl := (l.take k).foldl hiC (at_ l 0)
theorem loTo_succ {l : List Cl} {k : Nat} (h : k < l.length) : loTo l (k + 1) = loC (loTo l k) (at_ l k) := by
  unfold loTo
  rw [List.take_succ_eq_append_getElem h, List.foldl_append]
  simp [at_, h]
theorem hiTo_succ {l : List Cl} {k : Nat} (h : k < l.length) : hiTo l (k + 1) = hiC (hiTo l k) (at_ l k) := by
  unfold hiTo
  rw [List.take_succ_eq_append_getElem h, List.foldl_append]
  simp [at_, h]
/-- What BoxOf answers. -/
def boxOk (l : List Cl) : Bool := good l && decide (l.length ≠ 0)
def boxLo (l : List Cl) : Cl := if boxOk l then loTo l l.length else (0, 0)
def boxHi (l : List Cl) : Cl := if boxOk l then hiTo l l.length else (0, 0)

/-- A box of a cell that may be written, in block b. -/
def BoxAt (w : World) (b : Nat) (c : Cl) : Prop :=
  w.cell? ⟨b, 0, none⟩ = some (.int .i64 c.1) ∧ w.cell? ⟨b, 1, none⟩ = some (.int .i64 c.2) ∧ w.frozen? ⟨b, 0, none⟩ = false ∧ w.frozen? ⟨b, 1, none⟩ = false ∧ b < w.heap.size
theorem BoxAt.below {w w' : World} {b n : Nat} {c : Cl} (h : BoxAt w b c) (hb : Below n w w') (hn : b < n) : BoxAt w' b c :=
  ⟨(hb.cell (p := ⟨b, 0, none⟩) hn).trans h.1, (hb.cell (p := ⟨b, 1, none⟩) hn).trans h.2.1, (hb.frozen (p := ⟨b, 0, none⟩) hn).trans h.2.2.1, (hb.frozen (p := ⟨b, 1, none⟩) hn).trans h.2.2.2.1, Nat.lt_of_lt_of_le h.2.2.2.2 hb.size⟩
theorem BoxAt.new (w : World) (c : Cl) : BoxAt (w.alloc (.cells #[.int .i64 c.1, .int .i64 c.2] 39)) w.heap.size c := by
  refine ⟨cell_new0 _ _ _ _, cell_new1 _ _ _ _, ?_, ?_, by simp⟩
  · simp [go_sem]
  · simp [go_sem]
theorem BoxAt.alloc {w : World} {b : Nat} {c : Cl} (h : BoxAt w b c) (o : Obj) : BoxAt (w.alloc o) b c := h.below ((Below.refl w.heap.size w).alloc (Nat.le_refl _) o) h.2.2.2.2
theorem BoxAt.drew {w : World} {b : Nat} {c : Cl} (h : BoxAt w b c) : BoxAt w.drew b c := h.below ((Below.refl w.heap.size w).drew) h.2.2.2.2
theorem BoxAt.other {w : World} {b p o : Nat} {c : Cl} {v : Value} (h : BoxAt w b c) (hne : b ≠ p) : BoxAt (w.setCell ⟨p, o, none⟩ v) b c := by
  obtain ⟨h1, h2, h3, h4, h5⟩ := h
  have e : (w.setCell ⟨p, o, none⟩ v).heap[b]? = w.heap[b]? := Below.heap_setCell _ _ _ _ hne
  refine ⟨?_, ?_, ?_, ?_, by simpa using h5⟩
  · unfold World.cell? at *; rw [e]; exact h1
  · unfold World.cell? at *; rw [e]; exact h2
  · unfold World.frozen? at *; rw [e]; exact h3
  · unfold World.frozen? at *; rw [e]; exact h4

theorem BoxAt.set2 {w : World} {b : Nat} {c : Cl} (h : BoxAt w b c) (x y : Int) : BoxAt ((w.setCell ⟨b, 0, none⟩ (.int .i64 x)).setCell ⟨b, 1, none⟩ (.int .i64 y)) b (x, y) := by
  obtain ⟨h1, h2, h3, h4, h5⟩ := h
  refine ⟨?_, ?_, by simpa using h3, by simpa using h4, by simpa using h5⟩
  · rw [World.cell?_setCell_other _ _ _ _ (by simp)]; exact World.cell?_setCell_same _ _ _ h1
  · have h2' := (World.cell?_setCell_other w ⟨b, 0, none⟩ ⟨b, 1, none⟩ (.int .i64 x) (by simp)).trans h2
    exact World.cell?_setCell_same _ _ _ h2'

end Go.Proofs.Ytmapbkefndbnnaa

namespace Go.Proofs.Ytmapbkefndbnnaa
set_option linter.unusedVariables false

/-- Is a cell in the middle of a square of level n + 2? -/
def midB (n : Nat) (c : Cl) : Bool := inB (2 ^ n) (3 * 2 ^ n - 1) c.1 && inB (2 ^ n) (3 * 2 ^ n - 1) c.2
/-- What IsFramed answers. -/
def frdV (F : List Qd) (q : Int) : Bool := cenOK F q && (cellsOfQ F q.toNat).all (midB (levN F q.toNat - 2))
theorem midB_iff (n : Nat) (c : Cl) : midB n c = true ↔ ((2 : Int) ^ n ≤ c.1 ∧ c.1 < 2 ^ n + 2 ^ n + 2 ^ n) ∧ (2 : Int) ^ n ≤ c.2 ∧ c.2 < 2 ^ n + 2 ^ n + 2 ^ n := by
  unfold midB inB
  simp only [Bool.and_eq_true, decide_eq_true_eq]
  omega
/-- The forest and the quad behind the middle, and behind its frame. -/
def frmJ (n : Nat) (C : List Qd × Nat) : List Qd × Nat := joinF (frk ((treeL [] n 0 0 C.1).2 : Int) (qa C.1 C.2).2 (treeL [] n 0 0 C.1).1 4).1 (frk ((treeL [] n 0 0 C.1).2 : Int) (qa C.1 C.2).2 (treeL [] n 0 0 C.1).1 4).2
theorem framed_q {F : List Qd} (hg : goodF F = true) {q n : Nat} (hq : q < F.length) (hn : levN F q = n + 2) (h4 : n < 4) : (frmJ n (joinF F (midK F q))).2 = q ↔ (cellsOfQ F q).all (midB n) = true := by
  have hp := two_pow n
  have hpos := pow_pos' n
  have h := cellsOfQ_is hg hq
  rw [hn] at h
  have hc := cen_join hg hq hn
  unfold cenR at hc
  rw [Int.toNat_natCast, hn] at hc
  have hGF := good_grows hg
  have tr := treeL_tr (mv (cellsOfQ F q) (-(2 ^ n)) (-(2 ^ n))) (n + 1) 0 0 F (by omega) hGF
  have tb := treeL_is (mv (cellsOfQ F q) (-(2 ^ n)) (-(2 ^ n))) (n + 1) 0 0 F (by omega) hGF
  rw [show n + 2 - 2 = n by omega, show n + 2 - 1 = n + 1 by omega] at hc
  rw [hc] at tr tb
  generalize joinF F (midK F q) = C at *
  have hL := tb.congr (L' := cellsL C.1 (n + 1) C.2 0 0) fun c hc' => by
    have := tb.mem c
    unfold sqB at hc'
    constructor
    · intro h'; exact this.2 ⟨hc', h'⟩
    · intro h'; exact (this.1 h').2
  have hf := frame_tree (L' := mv (cellsL C.1 (n + 1) C.2 0 0) (2 ^ n) (2 ^ n)) tr.grows h4 hL (fun c hc' => cellsL_in C.1 _ _ _ _ c hc') (fun c => mv_mem _ _ _ c)
  have hq' := h.more tr.more tr.old
  have mem : ∀ c : Cl, c ∈ mv (cellsL C.1 (n + 1) C.2 0 0) (2 ^ n) (2 ^ n) ↔ midB n c = true ∧ c ∈ cellsOfQ F q := by
    intro c
    have e1 := mv_mem (cellsL C.1 (n + 1) C.2 0 0) (2 ^ n) (2 ^ n) (c.1 - 2 ^ n, c.2 - 2 ^ n)
    have e2 := mv_mem (cellsOfQ F q) (-(2 ^ n)) (-(2 ^ n)) c
    rw [show c = ((c.1 - 2 ^ n, c.2 - 2 ^ n).1 + 2 ^ n, (c.1 - 2 ^ n, c.2 - 2 ^ n).2 + 2 ^ n) from Prod.ext (by simp) (by simp), ← e1, tb.mem, midB_iff]
    rw [show (c.1 + -(2 ^ n), c.2 + -(2 ^ n)) = ((c.1 - 2 ^ n, c.2 - 2 ^ n) : Cl) from Prod.ext (by simp; omega) (by simp; omega)] at e2
    rw [← e2]
    simp only [Int.sub_add_cancel]
    rw [hp]
    constructor
    · rintro ⟨h1, h2⟩; exact ⟨⟨by omega, by omega⟩, h2⟩
    · rintro ⟨h1, h2⟩; exact ⟨by omega, h2⟩
  generalize mv (cellsL C.1 (n + 1) C.2 0 0) (2 ^ n) (2 ^ n) = L' at *
  unfold frmJ
  rw [← hf, List.all_eq_true]
  constructor
  · intro e c hc'
    have r := treeL_is L' (n + 2) 0 0 C.1 (by omega) tr.grows
    have t := treeL_tr L' (n + 2) 0 0 C.1 (by omega) tr.grows
    rw [e] at r
    have k := hq'.more t.more t.old
    have s := cellsOfQ_sq F q c hc'
    rw [hn] at s
    have := (r.mem c).1 ((k.mem c).2 ⟨s, hc'⟩)
    exact ((mem c).1 this.2).1
  · intro hall
    have := hq'.congr (L' := L') fun c hc' => by
      rw [mem c]
      constructor
      · intro h'; exact ⟨hall c h', h'⟩
      · intro h'; exact h'.2
    rw [treeL_there tr.grows this]

end Go.Proofs.Ytmapbkefndbnnaa

namespace Go.Proofs.Ytmapbkefndbnnaa
open Go.RowKit
set_option linter.unusedVariables false
set_option linter.unusedSimpArgs false
attribute [local go_sem ↓] Go.wp_at_zero Go.wp_at_succ

/-- GetCell. -/
def getV (F : List Qd) (q : Int) (c : Cl) : Bool := setOK F q c && decide (c ∈ cellsOfQ F q.toNat)

set_option maxHeartbeats 4000000 in
set_option maxRecDepth 100000 in
theorem c_sGetCell (a : Option Addr) (F : List Qd) (ca : Nat) (q : Int) (c : Cl) (w : World) (ha : QSeg w a F) (hl : F.length ≤ 1048576) (hk : KidsLe F) (hca : F.length ≤ ca) (hcm : ca ≤ 9223372036854775807) :
    Calls Try.prog 51 #[.agg #[.slice a F.length ca], .int .i64 q, .agg #[.int .i64 c.1, .int .i64 c.2]] w fun e w' => e = .returned (.tuple #[.bool (getV F q c), .bool (setOK F q c)]) ∧ Below w.heap.size w w' := by
  have B1 := (Bx.nil w).add (by simp) #[.slice a F.length ca] 25
  have B2 := hid (B1.add (by simp) #[.int .i64 c.1, .int .i64 c.2] 39)
  have Q2 := hid (ha.below B2.out.2.2)
  clear B1
  have x0 := B2.out.cell 0 0 (v := .slice a F.length ca) rfl rfl
  rw [Nat.add_zero] at x0
  cases hth : thereB F q
  · have HC := hid (c_l3There' a F ca q false hth _ Q2.out hl hk hca hcm)
    have HV := hid (show setOK F q c = false by simp [setOK, hth])
    have HW := hid (show getV F q c = false by simp [getV, HV.out])
    clear hth ha
    go_enter Try.func51, Try.ntmps51
    go_wp2_with fail
    refine HC.out.mono ?_
    rintro e w3 ⟨rfl, hb⟩
    have B3 := hid (B2.out.step hb)
    clear HC hb
    go_wp2_with fail
    go_ret2
    exact ⟨by rw [HV.out, HW.out]; rfl, B3.out.2.2⟩
  · have HC := hid (c_l3There' a F ca q true hth _ Q2.out hl hk hca hcm)
    obtain ⟨hg, h0, h1⟩ := there_bd hth
    obtain ⟨hn5, hlevN⟩ := levN_le hg (show q.toNat < F.length by omega)
    cases hw : hoB (levN F q.toNat) c
    · have HV := hid (show setOK F q c = false by simp [setOK, hth, hw])
      have HW := hid (show getV F q c = false by simp [getV, HV.out])
      have HD := hid (fun (W : World) (hQ : QSeg W a F) => c_l4Within a F ca q c (levN F q.toNat) hn5 false W hw h0 h1 hlevN hQ)
      clear hth ha hw hlevN hn5 hg
      go_enter Try.func51, Try.ntmps51
      go_wp2_with fail
      refine HC.out.mono ?_
      rintro e w3 ⟨rfl, hb⟩
      have B3 := hid (B2.out.step hb)
      have Q3 := hid (Q2.out.below hb)
      have x3 := B3.out.cell 0 0 (v := .slice a F.length ca) rfl rfl
      rw [Nat.add_zero] at x3
      have c0 := B3.out.cell 1 0 (v := .int .i64 c.1) rfl rfl
      have c1 := B3.out.cell 1 1 (v := .int .i64 c.2) rfl rfl
      clear HC hb x0
      go_wp2_with fail
      refine (HD.out _ Q3.out).mono ?_
      rintro e w4 ⟨rfl, hb4⟩
      have B4 := hid (B3.out.step hb4)
      clear hb4 x3 c0 c1
      go_wp2_with fail
      go_ret2
      exact ⟨by rw [HV.out, HW.out]; rfl, B4.out.2.2⟩
    · have HV := hid (show setOK F q c = true by simp [setOK, hth, hw])
      have HW := hid (show getV F q c = decide (c ∈ cellsOfQ F q.toNat) by simp [getV, HV.out])
      have HD := hid (fun (W : World) (hQ : QSeg W a F) => c_l4Within a F ca q c (levN F q.toNat) hn5 true W hw h0 h1 hlevN hQ)
      have LA := cellsOfQ_le hg (show q.toNat < F.length by omega)
      have HL1 := hid (fun (W : World) (hQ : QSeg W a F) => c_l3CellsAll hg a ca q W hQ h0 h1)
      have HAL := hid (fun (W : World) (aa : Option Addr) (cc : Nat) (h : Seg W aa (cellsOfQ F q.toNat)) => c_l1Alive aa (cellsOfQ F q.toNat) cc c W h (by omega))
      generalize cellsOfQ F q.toNat = CA at *
      clear hth ha hw hlevN hn5 hg LA
      go_enter Try.func51, Try.ntmps51
      go_wp2_with fail
      refine HC.out.mono ?_
      rintro e w3 ⟨rfl, hb⟩
      have B3 := hid (B2.out.step hb)
      have Q3 := hid (Q2.out.below hb)
      have x3 := B3.out.cell 0 0 (v := .slice a F.length ca) rfl rfl
      rw [Nat.add_zero] at x3
      have c0 := B3.out.cell 1 0 (v := .int .i64 c.1) rfl rfl
      have c1 := B3.out.cell 1 1 (v := .int .i64 c.2) rfl rfl
      clear HC hb x0
      go_wp2_with fail
      refine (HD.out _ Q3.out).mono ?_
      rintro e w4 ⟨rfl, hb4⟩
      have B4 := hid (B3.out.step hb4)
      have Q4 := hid (Q3.out.below hb4)
      clear hb4 x3 c0 c1
      have keep : Hid (∀ W : World, Below w4.heap.size w4 W → W.cell? ⟨w.heap.size, 0, none⟩ = some (.slice a F.length ca) ∧ W.cell? ⟨w.heap.size + 1, 0, none⟩ = some (.int .i64 c.1) ∧ W.cell? ⟨w.heap.size + 1, 1, none⟩ = some (.int .i64 c.2)) := fun W h => ⟨by have := (B4.out.step h).cell 0 0 (v := .slice a F.length ca) rfl rfl; rwa [Nat.add_zero] at this, (B4.out.step h).cell 1 0 (v := .int .i64 c.1) rfl rfl, (B4.out.step h).cell 1 1 (v := .int .i64 c.2) rfl rfl⟩
      have bd := (Below.refl w4.heap.size w4).drew
      have S4 := hid (keep.out _ (Below.refl w4.heap.size w4))
      have S4d := hid (keep.out _ bd)
      have Q4d := hid (Q4.out.below bd)
      go_wp2_with fail
      go_region_held3 (fun W => W.cell? ⟨w.heap.size, 0, none⟩ = some (.slice a F.length ca) ∧ W.cell? ⟨w.heap.size + 1, 0, none⟩ = some (.int .i64 c.1) ∧ W.cell? ⟨w.heap.size + 1, 1, none⟩ = some (.int .i64 c.2))
        (first | exact S4d.out | exact S4.out | exact S5.out | exact S6.out | go_keep)
        (first
          | (go_at_call 94; refine (HL1.out _ Q4d.out).mono ?_; rintro e w5 ⟨v5, rfl, hO5, hb5⟩; obtain ⟨a5, c5, rfl, hS5⟩ := hO5.form; have bb5 := bd.trans (hb5.mono bd.size); have S5 := hid (keep.out _ bb5); have HS5 := hid hS5)
          | (go_at_call 111; refine (HAL.out _ _ _ HS5.out).mono ?_; rintro e w6 ⟨rfl, hb6⟩; have bb6 := bb5.trans (hb6.mono bb5.size); have S6 := hid (keep.out _ bb6)))
      have B6 := hid (B4.out.step bb6)
      clear S4 S4d S5 S6 keep bb5 bb6 hb5 hb6 bd hO5 hS5
      go_wp2_with fail
      go_ret2
      exact ⟨by rw [HV.out, HW.out]; rfl, B6.out.2.2⟩

end Go.Proofs.Ytmapbkefndbnnaa

namespace Go.Proofs.Ytmapbkefndbnnaa
open Go.RowKit Go.Maps
set_option linter.unusedVariables false
set_option linter.unusedSimpArgs false
attribute [local go_sem ↓] Go.wp_at_zero Go.wp_at_succ

theorem half_of {z H : Int} (h0 : 0 ≤ z) (h1 : z < H + H) : ∃ j : Nat, j < 2 ∧ z.tdiv H = (j : Int) ∧ z.tmod H = z - (j : Int) * H ∧ 0 ≤ z - (j : Int) * H ∧ z - (j : Int) * H < H := by
  have hm := Int.mul_tdiv_add_tmod z H
  by_cases h : z < H
  · have e : z.tdiv H = 0 := Int.tdiv_eq_zero_of_lt h0 h
    rw [e] at hm
    exact ⟨0, by omega, by rw [e]; rfl, by simp at hm ⊢; exact hm, by simpa using h0, by simpa using h⟩
  · have e : z.tdiv H = 1 := by
      rw [Int.tdiv_eq_ediv_of_nonneg h0]
      have hH : 0 < H := by omega
      have h2 : z = (z - H) + 1 * H := by omega
      rw [h2, Int.add_mul_ediv_right _ _ (by omega), Int.ediv_eq_zero_of_lt (by omega) (by omega)]
      rfl
    rw [e] at hm
    exact ⟨1, by omega, by rw [e]; rfl, by simp at hm ⊢; omega, by simp; omega, by simp; omega⟩

/-- What stands at a cell. -/
def cellV (L : List Cl) (c : Cl) : Int := if c ∈ L then 1 else 0
set_option maxHeartbeats 4000000 in
set_option maxRecDepth 100000 in
theorem c_cellAt {L : List Cl} (n q : Nat) (c : Cl) (w : World) {base p g cap mb : Nat} {G : List Qd} (hGr : Grows G) (hn : n ≤ 5) (hT : IsT L G n q 0 0) (hc : sqB n 0 0 c) (hG : Grv w base p g cap mb G) :
    Calls Try.prog 108 #[.pointer (some ⟨p, 0, none⟩), .int .i64 (q : Int), .agg #[.int .i64 c.1, .int .i64 c.2]] w fun e w' => e = .returned (.int .i64 (cellV L c)) ∧ Below w.heap.size w w' := by
  have hq := hT.lt hGr.two
  have hlev := hT.lev hGr
  have hb1 := (Below.refl w.heap.size w).alloc (Nat.le_refl _) (.cells #[.int .i64 c.1, .int .i64 c.2] 39)
  have G1 := hid (hG.below hb1)
  have c0 := G1.out.c0
  have c1 := G1.out.lev hq
  rw [hlev] at c1
  have i0 : (0 : Int) ≤ (q : Int) := by omega
  have i1 : (q : Int) < (G.length : Int) := by omega
  have HBX := hid (BoxAt.new w c)
  have HB1 := hid hb1
  have HGG := hid hG
  have HT := hid hT
  have HCS := hid hc
  clear hb1 hG hT hc hlev
  go_enter Try.func108, Try.ntmps108
  go_wp2_with fail
  go_loopw [1, 7] (fun qv lv wr => ∃ (m r : Nat) (x y : Int) (d : Cl), m ≤ 5 ∧ qv = .int .i64 (r : Int) ∧ lv = .int .i64 (m : Int) ∧ Hid (IsT L G m r x y ∧ sqB m 0 0 d ∧ c.1 = d.1 + x ∧ c.2 = d.2 + y) ∧ Hid (BoxAt wr w.heap.size d) ∧ Hid (Below w.heap.size w wr)) (fun _ lv _ => (intOf lv).toNat)
  case atStart => exact ⟨n, q, 0, 0, c, hn, rfl, rfl, ⟨HT.out, HCS.out, by omega, by omega⟩, HBX.out, HB1.out⟩
  case round =>
    clear HT HCS HBX HB1 c0 c1 G1 i0 i1 hq
    obtain ⟨m, r, x, y, d, hm5, rfl, rfl, HI, HX, HB⟩ := hrel
    have GW := hid (HGG.out.below HB.out)
    have hr := HI.out.1.lt hGr.two
    have b0 := HX.out.1
    have b1 := HX.out.2.1
    have f0 := HX.out.2.2.1
    have f1 := HX.out.2.2.2.1
    have hbx := HX.out.2.2.2.2
    by_cases hm : 0 < m
    · obtain ⟨k, rfl⟩ : ∃ k, m = k + 1 := ⟨m - 1, by omega⟩
      obtain ⟨hI, hS, hx, hy⟩ := HI.out
      unfold sqB at hS
      have hp := two_pow k
      have hpos := pow_pos' k
      have hle := pow_le5 (show k ≤ 5 by omega)
      obtain ⟨i, hi2, ei, mi, r0, r1⟩ := half_of (z := d.1) (H := 2 ^ k) (by omega) (by omega)
      obtain ⟨j, hj2, ej, mj, s0, s1⟩ := half_of (z := d.2) (H := 2 ^ k) (by omega) (by omega)
      have hkid := hI.kid (j * 2 + i) (by omega)
      have hkk := hI.kids.2.2.1 (j * 2 + i) (by omega)
      have e0 := GW.out.c0
      have e1 := GW.out.kidAt hr (j := j * 2 + i) (by omega)
      rw [hkk] at e1
      have HN := hid (show IsT L G k (kidq G r (j * 2 + i)) (x + (i : Int) * 2 ^ k) (y + (j : Int) * 2 ^ k) by
        rw [show (j * 2 + i) % 2 = i by omega, show (j * 2 + i) / 2 = j by omega] at hkid; exact hkid)
      have HN2 := hid (show sqB k 0 0 (d.1 - (i : Int) * 2 ^ k, d.2 - (j : Int) * 2 ^ k) ∧ c.1 = d.1 - (i : Int) * 2 ^ k + (x + (i : Int) * 2 ^ k) ∧ c.2 = d.2 - (j : Int) * 2 ^ k + (y + (j : Int) * 2 ^ k) from ⟨by unfold sqB; simp only []; omega, by omega, by omega⟩)
      have q0 : (0 : Int) ≤ (r : Int) := by omega
      have q1 : (r : Int) < (G.length : Int) := by omega
      have hbne : w.heap.size ≠ p := by have := HGG.out.box.lt; omega
      have HX2 := hid (fun (a b : Int) => HX.out.set2 a b)
      have hcast : ((k + 1 : Nat) : Int) = (k : Int) + 1 := by omega
      have HP := hid hp
      have HBX := hid HX.out
      clear hI hS hx hy hkid hkk hp HI HX GW hr hm
      rw [hcast]
      generalize kidq G r (j * 2 + i) = KQ at *
      have hz : (2 : Int) ^ k ≠ 0 := by omega
      go_wp2_with fail
      generalize (2 : Int) ^ k = H at *
      have z0 : IntKind.i64.wrap 0 = 0 := by decide
      have z1 : IntKind.i64.wrap 1 = 1 := by decide
      have z2 : IntKind.i64.wrap 2 = 2 := by decide
      have z3 : IntKind.i64.wrap 3 = 3 := by decide
      have HMI := hid mi
      have HMJ := hid mj
      obtain ⟨X1, hX1⟩ : ∃ X, d.1 - (i : Int) * H = X := ⟨_, rfl⟩
      obtain ⟨Y1, hY1⟩ : ∃ Y, d.2 - (j : Int) * H = Y := ⟨_, rfl⟩
      rw [hX1] at mi r0 r1 HN2
      rw [hY1] at mj s0 s1 HN2
      have v1 : IntKind.i64.wrap X1 = X1 := IntWalk.i64_in X1 ⟨by omega, by omega⟩
      have v2 : IntKind.i64.wrap Y1 = Y1 := IntWalk.i64_in Y1 ⟨by omega, by omega⟩
      clear hX1 hY1 HMI HMJ
      rcases (show i = 0 ∨ i = 1 by omega) with rfl | rfl <;> rcases (show j = 0 ∨ j = 1 by omega) with rfl | rfl
      all_goals
        simp only [Nat.reduceMul, Nat.reduceAdd, Nat.add_zero, Nat.zero_mul, Nat.zero_add, Nat.one_mul, Int.natCast_zero, Int.natCast_one, Int.zero_mul, Int.one_mul, Int.sub_zero, Int.add_zero] at e1 ei ej
        refine wp_region_still_tail 19 (by kernel_rfl) (by kernel_rfl) ?_
        simp only [List.take_succ_cons, List.take_zero, List.drop_succ_cons, List.drop_zero]
        iterate 19 still_step
        refine wpStill_nil ?_
        go_wp2_with fail
        have d0 : wr.drew.cell? ⟨w.heap.size, 0, none⟩ = some (.int .i64 d.1) := b0
        have d1 : wr.drew.cell? ⟨w.heap.size, 1, none⟩ = some (.int .i64 d.2) := b1
        have g0 : wr.drew.frozen? ⟨w.heap.size, 0, none⟩ = false := f0
        have g1 : wr.drew.frozen? ⟨w.heap.size, 1, none⟩ = false := f1
        have HY := hid ((HBX.out.drew.set2 X1 Y1).drew)
        have HBY := hid ((((HB.out.drew).setCell (p := ⟨w.heap.size, 0, none⟩) (Nat.le_refl _) (.int .i64 X1)).setCell (p := ⟨w.heap.size, 1, none⟩) (Nat.le_refl _) (.int .i64 Y1)).drew)
        clear e0 e1 b0 b1 f0 f1 q0 q1 HBX
        have hwd : ({ heap := wr.heap, tape := wr.tape, drawn := wr.drawn + 1, os := wr.os, output := wr.output } : World) = wr.drew := rfl
        rw [hwd]
        generalize wr.drew = wq at *
        clear hwd
        refine wp_region_still_tail 9 (by kernel_rfl) (by kernel_rfl) ?_
        simp only [List.take_succ_cons, List.take_zero, List.drop_succ_cons, List.drop_zero]
        iterate 9 still_step
        refine wpStill_nil ?_
        go_wp2_with fail
        go_roundw
        case rel => exact ⟨k, KQ, _, _, (X1, Y1), by omega, rfl, by go_num, ⟨HN.out, HN2.out⟩, HY.out, HBY.out⟩
        case measure => simp [intOf]
    · obtain rfl : m = 0 := by omega
      obtain ⟨hI, hS, hx, hy⟩ := HI.out
      have HV := hid (show (r : Int) = cellV L c by
        unfold cellV
        unfold sqB at hS
        unfold IsT at hI
        have e : c = (x, y) := Prod.ext (by simp at hS ⊢; omega) (by simp at hS ⊢; omega)
        rw [hI, e]
        split <;> rfl)
      clear hI hS hx hy
      go_wp2
      go_ret
      exact ⟨by rw [← HV.out]; rfl, HB.out⟩

theorem get_call {F : List Qd} {q : Int} {c : Cl} (h : setOK F q c = true) : ((cellV (cellsOfQ F q.toNat) c == 1) = getV F q c) ∧ ∀ (W : World) (base p g cap mb : Nat), Grv W base p g cap mb F → Calls Try.prog 108 #[.pointer (some ⟨p, 0, none⟩), .int .i64 q, .agg #[.int .i64 c.1, .int .i64 c.2]] W fun e w' => e = .returned (.int .i64 (cellV (cellsOfQ F q.toNat) c)) ∧ Below W.heap.size W w' := by
  refine ⟨?_, ?_⟩
  · unfold getV cellV
    rw [h]
    by_cases e : c ∈ cellsOfQ F q.toNat <;> simp [e]
  · simp only [setOK, Bool.and_eq_true] at h
    obtain ⟨h1, h2, h3⟩ := there_to h.1
    intro W base p g cap mb hG
    have := c_cellAt (levN F q.toNat) q.toNat c W (good_grows h1) (levN_le h1 h2).1 (cellsOfQ_is h1 h2) (hoB_sq h.2) hG
    rw [h3] at this
    exact this

set_option maxHeartbeats 4000000 in
set_option maxRecDepth 100000 in
theorem c_iGetCell (a : Option Addr) (F : List Qd) (ca : Nat) (q : Int) (c : Cl) (w : World) (ha : QSeg w a F) (hl : F.length ≤ 1048576) (hk : KidsLe F) (hca : F.length ≤ ca) (hcm : ca ≤ 9223372036854775807) :
    Calls Try.prog 46 #[.agg #[.slice a F.length ca], .int .i64 q, .agg #[.int .i64 c.1, .int .i64 c.2]] w fun e w' => e = .returned (.tuple #[.bool (getV F q c), .bool (setOK F q c)]) ∧ Below w.heap.size w w' := by
  have B1 := (Bx.nil w).add (by simp) #[.slice a F.length ca] 25
  have B2 := hid (B1.add (by simp) #[.int .i64 c.1, .int .i64 c.2] 39)
  have Q2 := hid (ha.below B2.out.2.2)
  clear B1 ha
  have x0 := B2.out.cell 0 0 (v := .slice a F.length ca) rfl rfl
  rw [Nat.add_zero] at x0
  have HC := hid (c_groveOf a F ca _ Q2.out hl hk hca hcm)
  cases hg : goodF F
  · rw [hg] at HC
    have HV := hid (show setOK F q c = false by simp [setOK, thereB, hg])
    have HW := hid (show getV F q c = false by simp [getV, HV.out])
    clear hg
    go_enter Try.func46, Try.ntmps46
    go_wp2_with fail
    refine HC.out.mono ?_
    rintro e w3 ⟨pv, rfl, ho, hb⟩
    have B3 := hid (B2.out.step hb)
    clear ho HC hb
    go_wp2
    go_ret2
    exact ⟨by rw [HV.out, HW.out]; rfl, B3.out.2.2⟩
  · rw [hg] at HC
    have HG := hid hg
    cases hq : inB 0 ((F.length : Int) - 1) q
    · have HV := hid (show setOK F q c = false by simp [setOK, thereB, hq])
      have HW := hid (show getV F q c = false by simp [getV, HV.out])
      have HE := hid (fun (W : World) (base p g cap mb : Nat) (h : Grv W base p g cap mb F) => c_has' q false W hq h)
      clear hg hq
      go_enter Try.func46, Try.ntmps46
      go_wp2_with fail
      refine HC.out.mono ?_
      rintro e w3 ⟨pv, rfl, ho, hb⟩
      have B3 := hid (B2.out.step hb)
      rcases ho with ⟨_, p, g, cap, mb, base, hbase, rfl, hGv⟩ | ⟨e, _⟩
      · have HGV := hid hGv
        clear HC hb hGv x0
        go_wp2_with fail
        refine (HE.out _ _ _ _ _ _ HGV.out).mono ?_
        rintro e w4 ⟨rfl, hb4⟩
        have B4 := hid (B3.out.step hb4)
        clear hb4
        go_wp2
        go_ret2
        exact ⟨by rw [HV.out, HW.out]; rfl, B4.out.2.2⟩
      · rw [HG.out] at e; cases e
    · have HE := hid (fun (W : World) (base p g cap mb : Nat) (h : Grv W base p g cap mb F) => c_has' q true W hq h)
      have hqb := inB_bd hq
      have hth : thereB F q = true := by simp [thereB, hg, hq]
      obtain ⟨hn5, hlevN⟩ := levN_le hg (show q.toNat < F.length by omega)
      cases hw : hoB (levN F q.toNat) c
      · have HV := hid (show setOK F q c = false by simp [setOK, hw])
        have HW := hid (show getV F q c = false by simp [getV, HV.out])
        have HD := hid (fun (W : World) (base p g cap mb : Nat) (h : Grv W base p g cap mb F) => c_holds q c (levN F q.toNat) hn5 false W hw (by omega) (by omega) hlevN h)
        clear hg hq hth hw hlevN hn5 hqb
        go_enter Try.func46, Try.ntmps46
        go_wp2_with fail
        refine HC.out.mono ?_
        rintro e w3 ⟨pv, rfl, ho, hb⟩
        have B3 := hid (B2.out.step hb)
        rcases ho with ⟨_, p, g, cap, mb, base, hbase, rfl, hGv⟩ | ⟨e, _⟩
        · have HGV := hid hGv
          clear HC hb hGv x0
          go_wp2_with fail
          refine (HE.out _ _ _ _ _ _ HGV.out).mono ?_
          rintro e w4 ⟨rfl, hb4⟩
          have B4 := hid (B3.out.step hb4)
          have G4 := hid (HGV.out.below hb4)
          have c0 := B4.out.cell 1 0 (v := .int .i64 c.1) rfl rfl
          have c1 := B4.out.cell 1 1 (v := .int .i64 c.2) rfl rfl
          clear hb4
          go_wp2_with fail
          refine (HD.out _ _ _ _ _ _ G4.out).mono ?_
          rintro e w5 ⟨rfl, hb5⟩
          have B5 := hid (B4.out.step hb5)
          clear hb5 c0 c1
          go_wp2
          go_ret2
          exact ⟨by rw [HV.out, HW.out]; rfl, B5.out.2.2⟩
        · rw [HG.out] at e; cases e
      · have HV := hid (show setOK F q c = true by simp [setOK, hth, hw])
        obtain ⟨hW, hcall⟩ := get_call HV.out
        have HW := hid hW
        have HCALL := hid hcall
        have HD := hid (fun (W : World) (base p g cap mb : Nat) (h : Grv W base p g cap mb F) => c_holds q c (levN F q.toNat) hn5 true W hw (by omega) (by omega) hlevN h)
        generalize cellV (cellsOfQ F q.toNat) c = R at *
        clear hg hq hth hw hlevN hn5 hqb hW hcall
        go_enter Try.func46, Try.ntmps46
        go_wp2_with fail
        refine HC.out.mono ?_
        rintro e w3 ⟨pv, rfl, ho, hb⟩
        have B3 := hid (B2.out.step hb)
        rcases ho with ⟨_, p, g, cap, mb, base, hbase, rfl, hGv⟩ | ⟨e, _⟩
        · have HGV := hid hGv
          clear HC hb hGv x0
          go_wp2_with fail
          refine (HE.out _ _ _ _ _ _ HGV.out).mono ?_
          rintro e w4 ⟨rfl, hb4⟩
          have B4 := hid (B3.out.step hb4)
          have G4 := hid (HGV.out.below hb4)
          have c0 := B4.out.cell 1 0 (v := .int .i64 c.1) rfl rfl
          have c1 := B4.out.cell 1 1 (v := .int .i64 c.2) rfl rfl
          clear hb4
          go_wp2_with fail
          refine (HD.out _ _ _ _ _ _ G4.out).mono ?_
          rintro e w5 ⟨rfl, hb5⟩
          have B5 := hid (B4.out.step hb5)
          have G5 := hid (G4.out.below hb5)
          clear hb5 c0 c1
          have c0 := B5.out.cell 1 0 (v := .int .i64 c.1) rfl rfl
          have c1 := B5.out.cell 1 1 (v := .int .i64 c.2) rfl rfl
          go_wp2_with fail
          refine (HCALL.out _ _ _ _ _ _ G5.out).mono ?_
          rintro e w6 ⟨rfl, hb6⟩
          have B6 := hid (B5.out.step hb6)
          clear hb6 c0 c1
          go_wp2
          go_ret2
          exact ⟨by rw [HV.out, ← HW.out]; rfl, B6.out.2.2⟩
        · rw [HG.out] at e; cases e

end Go.Proofs.Ytmapbkefndbnnaa

namespace Go.Proofs.Ytmapbkefndbnnaa
open Go.RowKit
set_option linter.unusedVariables false
set_option linter.unusedSimpArgs false
attribute [local go_sem ↓] Go.wp_at_zero Go.wp_at_succ

theorem all_at {l : List Cl} {f : Cl → Bool} (h : ∀ t, t < l.length → f (at_ l t) = true) : l.all f = true := by
  rw [List.all_eq_true]
  intro c hc
  obtain ⟨i, hi, e⟩ := mem_at.1 hc
  rw [← e]; exact h i hi
theorem not_all_at {l : List Cl} {f : Cl → Bool} {t : Nat} (ht : t < l.length) (h : f (at_ l t) = false) : l.all f = false := by
  cases e : l.all f
  · rfl
  · rw [List.all_eq_true] at e
    have := e (at_ l t) (mem_at.2 ⟨t, ht, rfl⟩)
    rw [h] at this; cases this

set_option maxHeartbeats 4000000 in
set_option maxRecDepth 100000 in
theorem c_sIsFramed (a : Option Addr) (F : List Qd) (ca : Nat) (q : Int) (w : World) (ha : QSeg w a F) (hl : F.length ≤ 1048576) (hk : KidsLe F) (hca : F.length ≤ ca) (hcm : ca ≤ 9223372036854775807) :
    Calls Try.prog 65 #[.agg #[.slice a F.length ca], .int .i64 q] w fun e w' => e = .returned (.tuple #[.bool (frdV F q), .bool (cenOK F q)]) ∧ Below w.heap.size w w' := by
  have B2 := hid ((Bx.nil w).add (by simp) #[.slice a F.length ca] 25)
  have Q2 := hid (ha.below B2.out.2.2)
  clear ha
  have x0 := B2.out.cell 0 0 (v := .slice a F.length ca) rfl rfl
  rw [Nat.add_zero] at x0
  cases hth : thereB F q
  · have HC := hid (c_l3There' a F ca q false hth _ Q2.out hl hk hca hcm)
    have HV := hid (show cenOK F q = false by simp [cenOK, hth])
    have HW := hid (show frdV F q = false by simp [frdV, HV.out])
    clear hth
    go_enter Try.func65, Try.ntmps65
    go_wp2_with fail
    refine HC.out.mono ?_
    rintro e w3 ⟨rfl, hb⟩
    have B3 := hid (B2.out.step hb)
    clear HC hb
    go_wp2_with fail
    go_ret2
    exact ⟨by rw [HV.out, HW.out]; rfl, B3.out.2.2⟩
  · have HC := hid (c_l3There' a F ca q true hth _ Q2.out hl hk hca hcm)
    obtain ⟨hg, h0, h1⟩ := there_bd hth
    obtain ⟨hn5, hlevN⟩ := levN_le hg (show q.toNat < F.length by omega)
    have QA := Q2.out q.toNat (by omega)
    obtain ⟨b1, o1, ak, ck, rfl, hb1, p1, _⟩ := QA
    obtain ⟨lv, hlv⟩ : ∃ lv, (qa F q.toNat).1 = lv := ⟨_, rfl⟩
    rw [hlv] at p1 hlevN
    by_cases hbad : lv < 2
    · have HV := hid (show cenOK F q = false by simp only [cenOK, hth, hlv, Bool.true_and]; rw [decide_eq_false (by omega)])
      have HW := hid (show frdV F q = false by simp [frdV, HV.out])
      have dl : decide (lv < 2) = true := decide_eq_true hbad
      clear hth hg
      go_enter Try.func65, Try.ntmps65
      go_wp2_with fail
      refine HC.out.mono ?_
      rintro e w3 ⟨rfl, hb⟩
      have B3 := hid (B2.out.step hb)
      have x3 := B3.out.cell 0 0 (v := .slice (some ⟨b1, o1, none⟩) F.length ca) rfl rfl
      rw [Nat.add_zero] at x3
      have y3 := (hb.cell (p := ⟨b1, o1 + q.toNat * 2, none⟩) hb1).trans p1
      clear HC hb p1 x0
      go_wp2_with fail
      go_ret2
      exact ⟨by rw [HV.out, HW.out]; rfl, B3.out.2.2⟩
    · have HV := hid (show cenOK F q = true by simp only [cenOK, hth, hlv, Bool.true_and]; rw [decide_eq_true (by omega)])
      have HLEN := hid (show (cellsOfQ F q.toNat).length ≤ 1048576 by have := cellsOfQ_le hg (show q.toNat < F.length by omega); omega)
      have hNN : levN F q.toNat - 2 = (lv - 2).toNat := by omega
      have HWT := hid (fun (h : ∀ t, t < (cellsOfQ F q.toNat).length → midB (lv - 2).toNat (at_ (cellsOfQ F q.toNat) t) = true) => (show frdV F q = true by unfold frdV; rw [HV.out, hNN, all_at h]; rfl))
      have HWF := hid (fun (t : Nat) (ht : t < (cellsOfQ F q.toNat).length) (h : midB (lv - 2).toNat (at_ (cellsOfQ F q.toNat) t) = false) => (show frdV F q = false by unfold frdV; rw [HV.out, hNN, not_all_at ht h]; rfl))
      have HX := hid (fun (z : Int) (v : Bool) (lo hi : Int) (W : World) (e1 : lo = 2 ^ (lv - 2).toNat) (e2 : hi = 3 * 2 ^ (lv - 2).toNat - 1) (hv : inB (2 ^ (lv - 2).toNat) (3 * 2 ^ (lv - 2).toNat - 1) z = v) => c_l1In' z lo hi v (by rw [e1, e2]; exact hv) W)
      have HLL := hid (fun (W : World) (hQ : QSeg W (some ⟨b1, o1, none⟩) F) => c_l3CellsAll hg (some ⟨b1, o1, none⟩) ca q W hQ h0 h1)
      have hlo : lv = 2 ∨ lv = 3 ∨ lv = 4 ∨ lv = 5 := by omega
      clear hlevN hn5 hNN
      generalize cellsOfQ F q.toNat = CL at *
      generalize frdV F q = FV at *
      obtain ⟨NN, hN⟩ : ∃ n, (lv - 2).toNat = n := ⟨_, rfl⟩
      rw [hN] at HWT HWF HX
      have HNN := hid hN.symm
      clear hth hg hbad hlv hN
      rcases hlo with rfl | rfl | rfl | rfl
      all_goals
        go_enter Try.func65, Try.ntmps65
        go_wp2_with fail
        refine HC.out.mono ?_
        rintro e w3 ⟨rfl, hb⟩
        have B3 := hid (B2.out.step hb)
        have x3 := B3.out.cell 0 0 (v := .slice (some ⟨b1, o1, none⟩) F.length ca) rfl rfl
        rw [Nat.add_zero] at x3
        have y3 := (hb.cell (p := ⟨b1, o1 + q.toNat * 2, none⟩) hb1).trans p1
        have Q3 := hid (Q2.out.below hb)
        clear HC hb p1 x0
        go_wp2_with fail
        refine (HLL.out _ Q3.out).mono ?_
        rintro e w5 ⟨v5, rfl, hO5, hb5⟩
        obtain ⟨a5, c5, rfl, hS5⟩ := hO5.form
        have HSS5 := hid hS5
        have B5 := hid (B3.out.step hb5)
        clear hO5 hS5 hb5 x3 y3
        go_wp2_with fail
        go_loopw [35] (fun i wr => ∃ k : Nat, k ≤ CL.length ∧ i = .int .i64 k ∧ Hid (∀ t, t < k → midB NN (at_ CL t) = true) ∧ Hid (Below w5.heap.size w5 wr)) (fun i _ => CL.length - (intOf i).toNat)
        case atStart => exact ⟨0, Nat.zero_le _, rfl, (fun t ht => absurd ht (Nat.not_lt_zero _)), Below.refl _ _⟩
        case round =>
          obtain ⟨k, hk', rfl, HM, HB⟩ := hrel
          by_cases hlt : k < CL.length
          · obtain ⟨bz, oz, rfl, hbz, p1, p2⟩ := HSS5.out k hlt
            have g1 := (HB.out.cell (p := ⟨bz, oz + k * 2, none⟩) hbz).trans p1
            have g2 := (HB.out.cell (p := ⟨bz, oz + k * 2 + 1, none⟩) hbz).trans p2
            change _ = some (Value.int .i64 (at_ CL k).1) at g1
            change _ = some (Value.int .i64 (at_ CL k).2) at g2
            clear p1 p2
            have hcl : CL.length ≤ 1048576 := HLEN.out
            have k0 : (0 : Int) ≤ (k : Int) := by omega
            have k1 : (k : Int) < (CL.length : Int) := by omega
            have HBA := hid (HB.out.alloc HB.out.size (.cells #[.int .i64 (at_ CL k).1, .int .i64 (at_ CL k).2] 39))
            have HFF := hid (HWF.out k hlt)
            have HMM : Hid (midB NN (at_ CL k) = true → Hid (∀ t, t < k + 1 → midB NN (at_ CL t) = true)) := fun h t ht => if e : t = k then by rw [e]; exact h else HM.out t (by omega)
            unfold midB at HFF
            generalize at_ CL k = z at *
            cases hx : inB (2 ^ NN) (3 * 2 ^ NN - 1) z.1
            · have HF := hid (HFF.out (by rw [hx]; rfl))
              clear HMM HFF
              have HX1 := hid (fun lo hi W e1 e2 => HX.out z.1 false lo hi W e1 e2 hx)
              clear hx
              go_wp2_with fail
              refine (HX1.out _ _ _ (by rw [HNN.out]; decide) (by rw [HNN.out]; decide)).mono ?_
              rintro e w1 ⟨rfl, rfl⟩
              go_wp2
              go_ret2
              exact ⟨by rw [HV.out, HF.out]; rfl, B5.out.2.2.trans (HBA.out.mono B5.out.2.2.size)⟩
            · have HX1 := hid (fun lo hi W e1 e2 => HX.out z.1 true lo hi W e1 e2 hx)
              cases hy : inB (2 ^ NN) (3 * 2 ^ NN - 1) z.2
              · have HF := hid (HFF.out (by rw [hx, hy]; rfl))
                have HY1 := hid (fun lo hi W e1 e2 => HX.out z.2 false lo hi W e1 e2 hy)
                clear hx hy HMM HFF
                go_wp2_with fail
                refine (HX1.out _ _ _ (by rw [HNN.out]; decide) (by rw [HNN.out]; decide)).mono ?_
                rintro e w1 ⟨rfl, rfl⟩
                go_wp2_with fail
                refine (HY1.out _ _ _ (by rw [HNN.out]; decide) (by rw [HNN.out]; decide)).mono ?_
                rintro e w1 ⟨rfl, rfl⟩
                go_wp2
                go_ret2
                exact ⟨by rw [HV.out, HF.out]; rfl, B5.out.2.2.trans (HBA.out.mono B5.out.2.2.size)⟩
              · have HM2 := hid (HMM.out (by unfold midB; rw [hx, hy]; rfl))
                have HY1 := hid (fun lo hi W e1 e2 => HX.out z.2 true lo hi W e1 e2 hy)
                clear hx hy HMM HFF
                go_wp2_with fail
                refine (HX1.out _ _ _ (by rw [HNN.out]; decide) (by rw [HNN.out]; decide)).mono ?_
                rintro e w1 ⟨rfl, rfl⟩
                go_wp2_with fail
                refine (HY1.out _ _ _ (by rw [HNN.out]; decide) (by rw [HNN.out]; decide)).mono ?_
                rintro e w1 ⟨rfl, rfl⟩
                go_wp2_with fail
                go_roundw
                case rel => exact ⟨k + 1, by omega, by go_num, HM2.out, HBA.out⟩
                case measure => simp [intOf]; omega
          · have hkk : k = CL.length := by omega
            subst hkk
            have HT := hid (HWT.out HM.out)
            go_wp2
            go_ret2
            exact ⟨by rw [HV.out, HT.out]; rfl, B5.out.2.2.trans (HB.out.mono B5.out.2.2.size)⟩

end Go.Proofs.Ytmapbkefndbnnaa

namespace Go.Proofs.Ytmapbkefndbnnaa
open Go.RowKit
set_option linter.unusedVariables false
set_option linter.unusedSimpArgs false
attribute [local go_sem ↓] Go.wp_at_zero Go.wp_at_succ

/-- The middle, and its frame, by the program. -/
theorem mid_frame {F : List Qd} {q : Int} (h : cenOK F q = true) : ∃ (m : Nat) (C : List Qd × Nat), (((frmJ m C).2 : Int) == q) = frdV F q ∧
    (∀ (W : World) (base p g cap mb : Nat), Grv W base p g cap mb F → Calls Try.prog 121 #[.pointer (some ⟨p, 0, none⟩), .int .i64 q] W fun e w' => ∃ g' cap', e = .returned (.int .i64 (C.2 : Int)) ∧ Grv w' base p g' cap' mb C.1 ∧ Below base W w') ∧
    (∀ (W : World) (base p g cap mb : Nat), Grv W base p g cap mb C.1 → Calls Try.prog 118 #[.pointer (some ⟨p, 0, none⟩), .int .i64 (C.2 : Int)] W fun e w' => e = .returned (.int .i64 ((frmJ m C).2 : Int)) ∧ Below base W w') := by
  have hcc := cen_call h
  have hV : cenOK F q = true := h
  simp only [cenOK, Bool.and_eq_true, decide_eq_true_eq] at h
  obtain ⟨h1, h2, h3⟩ := there_to h.1
  have h5 := levN_le h1 h2
  have h6 := good_len2 h1
  obtain ⟨m, hm⟩ : ∃ m, levN F q.toNat = m + 2 := ⟨levN F q.toNat - 2, by omega⟩
  have hj := cen_join h1 h2 hm
  rw [h3] at hj
  have hfq := framed_q h1 h2 hm (by omega)
  rw [hj] at hcc
  have hcR : cenR F q = treeL (mv (cellsOfQ F q.toNat) (-(2 ^ m)) (-(2 ^ m))) (m + 1) 0 0 F := by
    unfold cenR
    rw [hm, show m + 2 - 2 = m by omega, show m + 2 - 1 = m + 1 by omega]
  have hT := treeL_is (mv (cellsOfQ F q.toNat) (-(2 ^ m)) (-(2 ^ m))) (m + 1) 0 0 F (by omega) (good_grows h1)
  have hM := (treeL_tr (mv (cellsOfQ F q.toNat) (-(2 ^ m)) (-(2 ^ m))) (m + 1) 0 0 F (by omega) (good_grows h1)).most
  have h4 := pow4_le (show m + 1 ≤ 5 by omega)
  rw [← hcR, hj] at hT hM
  refine ⟨m, joinF F (midK F q.toNat), ?_, hcc.2.2, ?_⟩
  · have : frdV F q = (cellsOfQ F q.toNat).all (midB m) := by
      unfold frdV
      rw [hV, hm, show m + 2 - 2 = m by omega]
      rfl
    rw [this]
    cases hx : (cellsOfQ F q.toNat).all (midB m)
    · have : (frmJ m (joinF F (midK F q.toNat))).2 ≠ q.toNat := fun e => by rw [hfq.1 e] at hx; cases hx
      simp only [beq_eq_false_iff_ne, ne_eq]
      omega
    · have := hfq.2 hx
      simp only [beq_iff_eq]
      omega
  · intro W base p g cap mb hG
    exact (c_frame m _ (by omega) W hcc.1 (by omega) hT hG).mono fun e w' ⟨g', c', e1, e2, e3, _⟩ => ⟨e1, e3⟩

set_option maxHeartbeats 2000000 in
set_option maxRecDepth 100000 in
theorem c_iIsFramed (a : Option Addr) (F : List Qd) (ca : Nat) (q : Int) (w : World) (ha : QSeg w a F) (hl : F.length ≤ 1048576) (hk : KidsLe F) (hca : F.length ≤ ca) (hcm : ca ≤ 9223372036854775807) :
    Calls Try.prog 60 #[.agg #[.slice a F.length ca], .int .i64 q] w fun e w' => e = .returned (.tuple #[.bool (frdV F q), .bool (cenOK F q)]) ∧ Below w.heap.size w w' := by
  have BX := hid (Box1.new w (.slice a F.length ca) 25)
  have HC := hid (c_groveOf a F ca _ (ha.below BX.out.2.2) hl hk hca hcm)
  clear ha
  have hok := cen_ok F q
  cases hg : goodF F
  · have HV := hid (show cenOK F q = false by rw [← hok, hg]; rfl)
    have HW := hid (show frdV F q = false by simp [frdV, HV.out])
    rw [hg] at HC
    clear hok hg
    go_enter Try.func60, Try.ntmps60
    go_wp2_with fail
    refine HC.out.mono ?_
    rintro e w1 ⟨pv, rfl, ho, hb⟩
    clear HC ho
    go_wp2
    go_ret2
    exact ⟨by rw [HV.out, HW.out]; rfl, (BX.out.step hb).2.2⟩
  · rw [hg] at HC
    have HG := hid hg
    cases hh : hlB F q 2 5
    · have HV := hid (show cenOK F q = false by rw [← hok, hg, hh]; rfl)
      have HW := hid (show frdV F q = false by simp [frdV, HV.out])
      have HE := hid (fun (W : World) (base p g cap mb : Nat) (h : Grv W base p g cap mb F) => c_hasLevel q 2 5 false W hh h)
      clear hok hg hh
      go_enter Try.func60, Try.ntmps60
      go_wp2_with fail
      refine HC.out.mono ?_
      rintro e w3 ⟨pv, rfl, ho, hb⟩
      have X3 := hid (BX.out.step hb)
      rcases ho with ⟨_, p, g, cap, mb, base, hbase, rfl, hGv⟩ | ⟨e, _⟩
      · have HGV := hid hGv
        clear HC hb hGv
        go_wp2_with fail
        refine (HE.out _ _ _ _ _ _ HGV.out).mono ?_
        rintro e w4 ⟨rfl, hb4⟩
        have X4 := hid (X3.out.step hb4)
        clear hb4
        go_wp2
        go_ret2
        exact ⟨by rw [HV.out, HW.out]; rfl, X4.out.2.2⟩
      · rw [HG.out] at e; cases e
    · have HV := hid (show cenOK F q = true by rw [← hok, hg, hh]; rfl)
      obtain ⟨m, C, hW, hc1, hc2⟩ := mid_frame HV.out
      have HW := hid hW
      have H1 := hid hc1
      have H2 := hid hc2
      have HE := hid (fun (W : World) (base p g cap mb : Nat) (h : Grv W base p g cap mb F) => c_hasLevel q 2 5 true W hh h)
      generalize (frmJ m C).2 = R at *
      clear hok hg hh hW hc1 hc2
      go_enter Try.func60, Try.ntmps60
      go_wp2_with fail
      refine HC.out.mono ?_
      rintro e w3 ⟨pv, rfl, ho, hb⟩
      have X3 := hid (BX.out.step hb)
      rcases ho with ⟨_, p, g, cap, mb, base, hbase, rfl, hGv⟩ | ⟨e, _⟩
      · have HGV := hid hGv
        have HBS := hid (show w.heap.size ≤ base from Nat.le_trans BX.out.2.2.size hbase)
        clear HC hb hGv hbase
        go_wp2_with fail
        refine (HE.out _ _ _ _ _ _ HGV.out).mono ?_
        rintro e w4 ⟨rfl, hb4⟩
        have X4 := hid (X3.out.step hb4)
        have G4 := hid (HGV.out.below hb4)
        clear hb4
        go_wp2_with fail
        refine (H1.out _ _ _ _ _ _ G4.out).mono ?_
        rintro e w5 ⟨g5, cap5, rfl, hG5, hb5⟩
        have G5 := hid hG5
        have HB5 := hid (X4.out.2.2.trans (hb5.mono HBS.out))
        clear hG5 hb5
        go_wp2_with fail
        refine (H2.out _ _ _ _ _ _ G5.out).mono ?_
        rintro e w6 ⟨rfl, hb6⟩
        have HB6 := hid (HB5.out.trans (hb6.mono HBS.out))
        clear hb6
        go_wp2
        go_ret2
        exact ⟨by rw [HV.out, ← HW.out]; rfl, HB6.out⟩
      · rw [HG.out] at e; cases e

end Go.Proofs.Ytmapbkefndbnnaa

namespace Go.Proofs.Ytmapbkefndbnnaa
open Go.RowKit
set_option linter.unusedVariables false
set_option linter.unusedSimpArgs false
attribute [local go_sem ↓] Go.wp_at_zero Go.wp_at_succ

theorem clrL_le (F : List Qd) (q : Nat) (a b : Cl) : (clrL F q a b).length ≤ (cellsOfQ F q).length := List.length_filter_le _ _

set_option maxHeartbeats 4000000 in
set_option maxRecDepth 100000 in
theorem c_sClearBox (a : Option Addr) (F : List Qd) (ca : Nat) (q : Int) (c d : Cl) (w : World) (ha : QSeg w a F) (hl : F.length ≤ 1048576) (hk : KidsLe F) (hca : F.length ≤ ca) (hcm : ca ≤ 9223372036854775807) (hnc : NoneCap w a F) :
    Calls Try.prog 49 #[.agg #[.slice a F.length ca], .int .i64 q, .agg #[.int .i64 c.1, .int .i64 c.2], .agg #[.int .i64 d.1, .int .i64 d.2]] w fun e w' => ∃ u, e = .returned (.tuple #[.agg #[u], .int .i64 (ansQ (clrOK F q c d) (clrR F q c d)), .bool (ansB (clrOK F q c d) (clrR F q c d))]) ∧ GF w' w.heap.size u (ansF (clrOK F q c d) (clrR F q c d)) ∧ Below w.heap.size w w' := by
  have B1 := (Bx.nil w).add (by simp) #[.slice a F.length ca] 25
  have B1b := B1.add (by simp) #[.int .i64 c.1, .int .i64 c.2] 39
  have B1c := B1b.add (by simp) #[.int .i64 d.1, .int .i64 d.2] 39
  have B2 := hid (B1c.add (by simp) #[.slice none 0 0] 25)
  have Q2 := hid (ha.below B2.out.2.2)
  have N2 := hid (hnc.below ha B2.out.2.2)
  clear B1 B1b B1c hnc
  have x0 := B2.out.cell 0 0 (v := .slice a F.length ca) rfl rfl
  rw [Nat.add_zero] at x0
  have fin : ∀ W : World, Below w.heap.size w W → ∃ u, Ending.returned (.tuple #[.agg #[.slice none 0 0], .int .i64 0, .bool false]) = .returned (.tuple #[.agg #[u], .int .i64 0, .bool false]) ∧ GF W w.heap.size u [] ∧ Below w.heap.size w W := fun W h => ⟨_, rfl, GF.nil _ _, h⟩
  cases hth : thereB F q
  · have HC := hid (c_l3There' a F ca q false hth _ Q2.out hl hk hca hcm)
    have HV := hid (show clrOK F q c d = false by simp [clrOK, hth])
    clear hth ha
    go_enter Try.func49, Try.ntmps49
    go_wp2_with fail
    refine HC.out.mono ?_
    rintro e w3 ⟨rfl, hb⟩
    have B3 := hid (B2.out.step hb)
    clear HC hb
    have R9 := B3.out.row 3 (v := .slice none 0 0) (t := 25) rfl
    have r0 := R9.cell (i := 0) (by omega)
    have f0 := R9.frozen 0
    have E0 := hid ((R9.set 0 (.slice none 0 0)).cell (i := 0) (by omega))
    simp only [if_true] at E0
    have HB := hid (B3.out.2.2.setCell (p := ⟨w.heap.size + 3, 0, none⟩) (by dsimp only; omega) (.slice none 0 0))
    clear R9
    go_wp2_with fail
    rw [HV.out, (ans_no _).1, (ans_no _).2.1, (ans_no _).2.2]
    exact bodyPost_ret (v := .tuple #[.agg #[.slice none 0 0], .int .i64 0, .bool false]) (by simp [results, Try.results49, go_sem, E0.out]) rfl (fin _ HB.out)
  · have HC := hid (c_l3There' a F ca q true hth _ Q2.out hl hk hca hcm)
    obtain ⟨hg, h0, h1⟩ := there_bd hth
    obtain ⟨hn5, hlevN⟩ := levN_le hg (show q.toNat < F.length by omega)
    obtain ⟨b1, o1, ak, ck, rfl, hb1, p1, _⟩ := ha q.toNat (by omega)
    cases hw : inR c
    · have HV := hid (show clrOK F q c d = false by simp [clrOK, hth, hw])
      have HD := hid (fun (W : World) => c_l1There' c false hw W)
      clear hth ha hw hlevN hn5 hg p1
      go_enter Try.func49, Try.ntmps49
      go_wp2_with fail
      refine HC.out.mono ?_
      rintro e w3 ⟨rfl, hb⟩
      have B3 := hid (B2.out.step hb)
      have c0 := B3.out.cell 1 0 (v := .int .i64 c.1) rfl rfl
      have c1 := B3.out.cell 1 1 (v := .int .i64 c.2) rfl rfl
      clear HC x0
      clear hb
      go_wp2_with fail
      refine (HD.out _).mono ?_
      rintro e w4 ⟨rfl, hb4⟩
      have B4 := hid (B3.out.step hb4)
      clear hb4 c0 c1
      have R9 := B4.out.row 3 (v := .slice none 0 0) (t := 25) rfl
      have r0 := R9.cell (i := 0) (by omega)
      have f0 := R9.frozen 0
      have E0 := hid ((R9.set 0 (.slice none 0 0)).cell (i := 0) (by omega))
      simp only [if_true] at E0
      have HB := hid (B4.out.2.2.setCell (p := ⟨w.heap.size + 3, 0, none⟩) (by dsimp only; omega) (.slice none 0 0))
      clear R9
      go_wp2_with fail
      rw [HV.out, (ans_no _).1, (ans_no _).2.1, (ans_no _).2.2]
      exact bodyPost_ret (v := .tuple #[.agg #[.slice none 0 0], .int .i64 0, .bool false]) (by simp [results, Try.results49, go_sem, E0.out]) rfl (fin _ HB.out)
    · have HD := hid (fun (W : World) => c_l1There' c true hw W)
      cases hw2 : inR d
      · have HV := hid (show clrOK F q c d = false by simp [clrOK, hth, hw, hw2])
        have HD2 := hid (fun (W : World) => c_l1There' d false hw2 W)
        clear hth ha hw hw2 hlevN hn5 hg p1
        go_enter Try.func49, Try.ntmps49
        go_wp2_with fail
        refine HC.out.mono ?_
        rintro e w3 ⟨rfl, hb⟩
        have B3 := hid (B2.out.step hb)
        have c0 := B3.out.cell 1 0 (v := .int .i64 c.1) rfl rfl
        have c1 := B3.out.cell 1 1 (v := .int .i64 c.2) rfl rfl
        clear HC x0
        clear hb
        go_wp2_with fail
        refine (HD.out _).mono ?_
        rintro e w4 ⟨rfl, hb4⟩
        have B4 := hid (B3.out.step hb4)
        clear hb4 c0 c1
        have d0 := B4.out.cell 2 0 (v := .int .i64 d.1) rfl rfl
        have d1 := B4.out.cell 2 1 (v := .int .i64 d.2) rfl rfl
        go_wp2_with fail
        refine (HD2.out _).mono ?_
        rintro e w5 ⟨rfl, hb5⟩
        have B5 := hid (B4.out.step hb5)
        clear hb5 d0 d1
        have R9 := B5.out.row 3 (v := .slice none 0 0) (t := 25) rfl
        have r0 := R9.cell (i := 0) (by omega)
        have f0 := R9.frozen 0
        have E0 := hid ((R9.set 0 (.slice none 0 0)).cell (i := 0) (by omega))
        simp only [if_true] at E0
        have HB := hid (B5.out.2.2.setCell (p := ⟨w.heap.size + 3, 0, none⟩) (by dsimp only; omega) (.slice none 0 0))
        clear R9
        go_wp2_with fail
        rw [HV.out, (ans_no _).1, (ans_no _).2.1, (ans_no _).2.2]
        exact bodyPost_ret (v := .tuple #[.agg #[.slice none 0 0], .int .i64 0, .bool false]) (by simp [results, Try.results49, go_sem, E0.out]) rfl (fin _ HB.out)
      · have HV := hid (show clrOK F q c d = true by simp [clrOK, hth, hw, hw2])
        have HD2 := hid (fun (W : World) => c_l1There' d true hw2 W)
        have LA := cellsOfQ_le hg (show q.toNat < F.length by omega)
        obtain ⟨SL, hSL⟩ : ∃ L, L = clrL F q.toNat c d := ⟨_, rfl⟩
        have HLEN := hid (show SL.length ≤ 1048576 by rw [hSL]; have := clrL_le F q.toNat c d; omega)
        have HTL : Hid (∀ (W : World) (la : Option Addr) (lca : Nat), QSeg W (some ⟨b1, o1, none⟩) F → NoneCap W (some ⟨b1, o1, none⟩) F → Seg W la SL → Calls Try.prog 107 #[.agg #[.slice (some ⟨b1, o1, none⟩) F.length ca], .int .i64 (qa F q.toNat).1, .slice la SL.length lca] W fun e w' => ∃ u, e = .returned (.tuple #[.agg #[u], .int .i64 (tellQ (clrR F q c d).1 ((clrR F q c d).2 : Int)), .bool (tellB (clrR F q c d).1)]) ∧ GF w' W.heap.size u (tellF (clrR F q c d).1) ∧ Below W.heap.size W w') := by
          intro W la lca hQ hN hS
          have := c_l4Tell hg (some ⟨b1, o1, none⟩) ca (levN F q.toNat) hn5 la SL lca W hQ hN hS HLEN.out
          rw [← hlevN] at this
          have e : clrR F q c d = treeL SL (levN F q.toNat) 0 0 F := by rw [hSL]; rfl
          rw [← e] at this
          exact this
        have HL1 := hid (fun (W : World) (hQ : QSeg W (some ⟨b1, o1, none⟩) F) => c_l3CellsAll hg (some ⟨b1, o1, none⟩) ca q W hQ h0 h1)
        have HSL := hid (show SL = (cellsOfQ F q.toNat).filter fun z => !(inB c.1 d.1 z.1 && inB c.2 d.2 z.2) from hSL)
        have HLA := hid LA
        have HLV := hid (⟨hb1, p1⟩ : _ ∧ _)
        generalize (qa F q.toNat).1 = lv at *
        generalize hRR : clrR F q c d = RR at *
        generalize cellsOfQ F q.toNat = CA at *
        clear hRR hth ha hw hw2 hlevN hn5 hg LA hSL p1
        go_enter Try.func49, Try.ntmps49
        go_wp2_with fail
        refine HC.out.mono ?_
        rintro e w3 ⟨rfl, hb⟩
        have B3 := hid (B2.out.step hb)
        have c0 := B3.out.cell 1 0 (v := .int .i64 c.1) rfl rfl
        have c1 := B3.out.cell 1 1 (v := .int .i64 c.2) rfl rfl
        clear HC x0
        have Q3 := hid (Q2.out.below hb)
        have N3 := hid (N2.out.below Q2.out hb)
        clear hb
        go_wp2_with fail
        refine (HD.out _).mono ?_
        rintro e wa ⟨rfl, hba⟩
        have Ba := hid (B3.out.step hba)
        have Qa := hid (Q3.out.below hba)
        have Na := hid (N3.out.below Q3.out hba)
        clear hba c0 c1
        have d0 := Ba.out.cell 2 0 (v := .int .i64 d.1) rfl rfl
        have d1 := Ba.out.cell 2 1 (v := .int .i64 d.2) rfl rfl
        go_wp2_with fail
        refine (HD2.out _).mono ?_
        rintro e w4 ⟨rfl, hb4⟩
        have B4 := hid (Ba.out.step hb4)
        have Q4 := hid (Qa.out.below hb4)
        have N4 := hid (Na.out.below Qa.out hb4)
        have x4 := B4.out.cell 0 0 (v := .slice (some ⟨b1, o1, none⟩) F.length ca) rfl rfl
        rw [Nat.add_zero] at x4
        have y4 := (B4.out.2.2.cell (p := ⟨b1, o1 + q.toNat * 2, none⟩) HLV.out.1).trans HLV.out.2
        have S4 := hid (⟨x4, y4⟩ : _ ∧ _)
        have HSZ4 := hid (⟨B4.out.lt 0 (by simp), Nat.lt_of_lt_of_le HLV.out.1 B4.out.2.2.size⟩ : w.heap.size + 0 < w4.heap.size ∧ b1 < w4.heap.size)
        have keep : Hid (∀ W : World, Below w4.heap.size w4 W → W.cell? ⟨w.heap.size, 0, none⟩ = some (.slice (some ⟨b1, o1, none⟩) F.length ca) ∧ W.cell? ⟨b1, o1 + q.toNat * 2, none⟩ = some (.int .i64 lv)) := fun W h => ⟨(h.cell (p := ⟨w.heap.size, 0, none⟩) (by have := HSZ4.out.1; simpa using this)).trans S4.out.1, (h.cell (p := ⟨b1, o1 + q.toNat * 2, none⟩) HSZ4.out.2).trans S4.out.2⟩
        clear hb4 d0 d1 y4
        go_wp2_with fail
        refine (HL1.out _ Q4.out).mono ?_
        rintro e w5 ⟨v5, rfl, hO5, hb5⟩
        obtain ⟨a5, c5, rfl, hS5⟩ := hO5.form
        have HSS5 := hid hS5
        have HB5 := hid hb5
        clear hO5 hS5 x4 hb5
        go_wp2_with fail
        go_loopw [11, 33] (fun v i wr => ∃ k : Nat, k ≤ CA.length ∧ i = .int .i64 k ∧ Hid (OwnS wr w5.heap.size v ((CA.take k).filter fun z => !(inB c.1 d.1 z.1 && inB c.2 d.2 z.2))) ∧ Hid (Below w5.heap.size w5 wr)) (fun _ i _ => CA.length - (intOf i).toNat)
        case atStart => exact ⟨0, Nat.zero_le _, rfl, OwnS.nil _ _, Below.refl _ _⟩
        case round =>
          obtain ⟨k, hk', rfl, HO, HB⟩ := hrel
          by_cases hlt : k < CA.length
          · obtain ⟨bz, oz, rfl, hbz, p1, p2⟩ := HSS5.out k hlt
            have g1 := (HB.out.cell (p := ⟨bz, oz + k * 2, none⟩) hbz).trans p1
            have g2 := (HB.out.cell (p := ⟨bz, oz + k * 2 + 1, none⟩) hbz).trans p2
            change _ = some (Value.int .i64 (at_ CA k).1) at g1
            change _ = some (Value.int .i64 (at_ CA k).2) at g2
            clear p1 p2
            have hcl : CA.length ≤ 1024 := HLA.out
            have k0 : (0 : Int) ≤ (k : Int) := by omega
            have k1 : (k : Int) < (CA.length : Int) := by omega
            have HFS := hid (filter_take_succ (f := fun z => !(inB c.1 d.1 z.1 && inB c.2 d.2 z.2)) hlt)
            have HLL := hid (show ((CA.take k).filter fun z => !(inB c.1 d.1 z.1 && inB c.2 d.2 z.2)).length ≤ 1048576 by
              have h1 := List.length_filter_le (fun z : Cl => !(inB c.1 d.1 z.1 && inB c.2 d.2 z.2)) (CA.take k)
              rw [List.length_take] at h1; have := HLA.out; omega)
            generalize at_ CA k = z at *
            generalize ((CA.take k).filter fun z => !(inB c.1 d.1 z.1 && inB c.2 d.2 z.2)) = lm at *
            have ba := (Below.refl wr.heap.size wr).alloc (Nat.le_refl _) (.cells #[.int .i64 z.1, .int .i64 z.2] 39)
            have hba := HB.out.trans (ba.mono HB.out.size)
            have Bw := hid (B4.out.step (HB5.out.trans (hba.mono HB5.out.size)))
            have c0 := Bw.out.cell 1 0 (v := .int .i64 c.1) rfl rfl
            have c1 := Bw.out.cell 1 1 (v := .int .i64 c.2) rfl rfl
            have d0 := Bw.out.cell 2 0 (v := .int .i64 d.1) rfl rfl
            have d1 := Bw.out.cell 2 1 (v := .int .i64 d.2) rfl rfl
            have HO1 := hid ((HO.out.below ba).below ((Below.refl _ (wr.alloc (.cells #[.int .i64 z.1, .int .i64 z.2] 39))).alloc (Nat.le_refl _) (.cells #[.int .i64 z.1, .int .i64 z.2] 39)))
            have HB1 := hid (hba.alloc hba.size (.cells #[.int .i64 z.1, .int .i64 z.2] 39))
            have HSg := hid (seg_block (c := (z.1, z.2)) (heap_alloc_new (wr.alloc (.cells #[.int .i64 z.1, .int .i64 z.2] 39)) (.cells #[.int .i64 z.1, .int .i64 z.2] 39)))
            have HBA := hid hba
            have HO0 := hid (HO.out.below ba)
            have hsz : (wr.alloc (.cells #[.int .i64 z.1, .int .i64 z.2] 39)).heap.size = wr.heap.size + 1 := by simp
            rw [hsz] at HSg
            clear ba hba hsz
            cases hx : inB c.1 d.1 z.1
            · have HX := hid (fun W => c_l1In' z.1 c.1 d.1 false hx W)
              have HSS := hid (show (CA.take (k + 1)).filter (fun z => !(inB c.1 d.1 z.1 && inB c.2 d.2 z.2)) = lm ++ [z] by have := HFS.out; rw [hx] at this; simpa using this)
              clear HFS hx
              go_wp2_with fail
              refine (HX.out _).mono ?_
              rintro e w1 ⟨rfl, rfl⟩
              go_wp2_with (at_builtin; refine wpList_app rfl _ _ rfl w5.heap.size _ lm [(z.1, z.2)] _ 1 rfl HO1.out rfl HSg.out (by intro h; cases h) (by have := HLL.out; simp; omega) HB1.out.size ?_; intro v' w2 hO2 hG2)
              go_roundw
              case rel => exact ⟨k + 1, by omega, by go_num, by (show OwnS _ _ _ _; rw [HSS.out]; exact hO2), below_grown HB1.out HO1.out hG2⟩
              case measure => simp [intOf]; omega
            · have HX := hid (fun W => c_l1In' z.1 c.1 d.1 true hx W)
              cases hy : inB c.2 d.2 z.2
              · have HY := hid (fun W => c_l1In' z.2 c.2 d.2 false hy W)
                have HSS := hid (show (CA.take (k + 1)).filter (fun z => !(inB c.1 d.1 z.1 && inB c.2 d.2 z.2)) = lm ++ [z] by have := HFS.out; rw [hx, hy] at this; simpa using this)
                clear HFS hx hy
                go_wp2_with fail
                refine (HX.out _).mono ?_
                rintro e w1 ⟨rfl, rfl⟩
                go_wp2_with fail
                refine (HY.out _).mono ?_
                rintro e w1 ⟨rfl, rfl⟩
                go_wp2_with (at_builtin; refine wpList_app rfl _ _ rfl w5.heap.size _ lm [(z.1, z.2)] _ 1 rfl HO1.out rfl HSg.out (by intro h; cases h) (by have := HLL.out; simp; omega) HB1.out.size ?_; intro v' w2 hO2 hG2)
                go_roundw
                case rel => exact ⟨k + 1, by omega, by go_num, by (show OwnS _ _ _ _; rw [HSS.out]; exact hO2), below_grown HB1.out HO1.out hG2⟩
                case measure => simp [intOf]; omega
              · have HY := hid (fun W => c_l1In' z.2 c.2 d.2 true hy W)
                have HSS := hid (show (CA.take (k + 1)).filter (fun z => !(inB c.1 d.1 z.1 && inB c.2 d.2 z.2)) = lm by have := HFS.out; rw [hx, hy] at this; simpa using this)
                clear HFS hx hy
                go_wp2_with fail
                refine (HX.out _).mono ?_
                rintro e w1 ⟨rfl, rfl⟩
                go_wp2_with fail
                refine (HY.out _).mono ?_
                rintro e w1 ⟨rfl, rfl⟩
                go_wp2_with fail
                go_roundw
                case rel => exact ⟨k + 1, by omega, by go_num, by (show OwnS _ _ _ _; rw [HSS.out]; exact HO0.out), HBA.out⟩
                case measure => simp [intOf]; omega
          · have hkk : k = CA.length := by omega
            subst hkk
            have hO6 := HO.out
            rw [List.take_length, ← HSL.out] at hO6
            obtain ⟨a6, c6, rfl, hS6⟩ := hO6.form
            have hb6 := HB5.out.trans (HB.out.mono HB5.out.size)
            rename World => w6
            clear hO6
            have bd := (Below.refl w6.heap.size w6).drew
            have hb6d := hb6.trans (bd.mono hb6.size)
            have HS6 := hid (hS6.below bd)
            have Q6 := hid (Q4.out.below hb6d)
            have N6 := hid (N4.out.below Q4.out hb6d)
            have S6 := hid (keep.out _ hb6)
            have S6d := hid (keep.out _ hb6d)
            clear bd hS6
            go_wp2_with fail
            go_region_held3 (fun W => W.cell? ⟨w.heap.size, 0, none⟩ = some (.slice (some ⟨b1, o1, none⟩) F.length ca) ∧ W.cell? ⟨b1, o1 + q.toNat * 2, none⟩ = some (.int .i64 lv))
              (first | exact S6d.out | exact S6.out | exact S7.out | exact S8.out | go_keep)
              (first
                | (go_at_call 107; refine (HTL.out _ a6 c6 Q6.out N6.out HS6.out).mono ?_; rintro e w7 ⟨u7, rfl, hG7, hb7⟩; have HG7 := hid hG7; obtain ⟨ua7, uc7, rfl, _⟩ := hG7.form; have bb7 := hb6d.trans (hb7.mono hb6d.size); have B7 := hid (B4.out.step bb7); have S7 := hid (keep.out w7 bb7); have R7 := B7.out.row 3 (v := .slice none 0 0) (t := 25) rfl; have r0 := R7.cell (i := 0) (by omega); have f0 := R7.frozen 0; have S8 := hid (⟨cell_other S7.out.1 (show (⟨w.heap.size + 3, 0, none⟩ : Addr).block ≠ (⟨w.heap.size, 0, none⟩ : Addr).block by dsimp only; omega) (.slice ua7 (tellF RR.1).length uc7), cell_other S7.out.2 (show (⟨w.heap.size + 3, 0, none⟩ : Addr).block ≠ (⟨b1, o1 + q.toNat * 2, none⟩ : Addr).block by have := HLV.out.1; dsimp only; omega) (.slice ua7 (tellF RR.1).length uc7)⟩ : _ ∧ _)))
            have E0 := hid ((R7.set 0 (.slice ua7 (tellF RR.1).length uc7)).cell (i := 0) (by omega))
            simp only [if_true] at E0
            have HG9 := hid ((HG7.out.setRow (o := 0) R7 (by decide) (by decide) (.slice ua7 (tellF RR.1).length uc7)).mono (show w.heap.size ≤ _ from Nat.le_trans B4.out.2.2.size hb6d.size))
            have HB9 := hid (B7.out.2.2.setCell (p := ⟨w.heap.size + 3, 0, none⟩) (by dsimp only; omega) (.slice ua7 (tellF RR.1).length uc7))
            clear R7 r0 f0 hG7
            go_wp2_with fail
            rw [HV.out, (ans_yes _).1, (ans_yes _).2.1, (ans_yes _).2.2]
            exact bodyPost_ret (v := .tuple #[.agg #[.slice ua7 (tellF RR.1).length uc7], .int .i64 (tellQ RR.1 (RR.2 : Int)), .bool (tellB RR.1)]) (by simp [results, Try.results49, go_sem, E0.out]) rfl ⟨.slice ua7 (tellF RR.1).length uc7, rfl, HG9.out, HB9.out⟩

end Go.Proofs.Ytmapbkefndbnnaa

namespace Go.Proofs.Ytmapbkefndbnnaa
open Go.RowKit
set_option linter.unusedVariables false
set_option linter.unusedSimpArgs false

/-- All orders of a region come to one thing. -/
structure KeyP (K : Prop) : Prop where
  out : K
theorem cut5 {C P : Option Addr → Option Addr → Nat → Nat → World → Prop} {G : Prop} (main : KeyP (∀ a b c d W, C a b c d W → P a b c d W) → G) (pf : ∀ a b c d W, C a b c d W → P a b c d W) : G := main ⟨pf⟩
theorem cut4 {C P : Option Addr → Nat → Nat → World → Prop} {G : Prop} (main : KeyP (∀ a c d W, C a c d W → P a c d W) → G) (pf : ∀ a c d W, C a c d W → P a c d W) : G := main ⟨pf⟩
theorem alloc_size (W : World) (o : Obj) : (W.alloc o).heap.size = W.heap.size + 1 := by simp
theorem bel_step {w W W' : World} (h : Below w.heap.size w W) (hb : Below W.heap.size W W') : Below w.heap.size w W' := h.trans (hb.mono h.size)
theorem Kpt.wide' {P : World → Prop} {lo hi lo' hi' : Nat} (h : Kpt P lo hi) (h1 : lo' ≤ lo) (h2 : hi ≤ hi') : Kpt P lo' hi' := fun W W' l' h' hp hg hd => h W W' l' h' hp hg (by omega)
theorem Kpt.and' {P Q : World → Prop} {lo hi : Nat} (h : Kpt P lo hi) (k : Kpt Q lo hi) : Kpt (fun W => P W ∧ Q W) lo hi := fun W W' l' h' hp hg hd => ⟨h W W' l' h' hp.1 hg hd, k W W' l' h' hp.2 hg hd⟩
/-- Cells' boxes, right behind the forest's. -/
def CBs (w W : World) (l : List Cl) : Prop := ∀ i c, l[i]? = some c → w.heap.size + 1 + i < W.heap.size ∧ W.heap[w.heap.size + 1 + i]? = some (.cells #[.int .i64 c.1, .int .i64 c.2] 74)
theorem CBs.nil (w W : World) : CBs w W [] := fun i c h => by simp at h
theorem CBs.below {w W W' : World} {l : List Cl} (h : CBs w W l) (hb : Below W.heap.size W W') : CBs w W' l := fun i c hi => ⟨Nat.lt_of_lt_of_le (h i c hi).1 hb.size, (hb.block _ (h i c hi).1).trans (h i c hi).2⟩
theorem CBs.add {w W : World} {l : List Cl} (h : CBs w W l) (hs : W.heap.size = w.heap.size + 1 + l.length) (c : Cl) : CBs w (W.alloc (.cells #[.int .i64 c.1, .int .i64 c.2] 74)) (l ++ [c]) := by
  intro i d hi
  have hb := (Below.refl W.heap.size W).alloc (Nat.le_refl _) (.cells #[.int .i64 c.1, .int .i64 c.2] 74)
  by_cases e : i < l.length
  · rw [List.getElem?_append_left e] at hi
    exact h.below hb i d hi
  · have e2 : i = l.length := by
      by_cases h2 : i = l.length
      · exact h2
      · rw [List.getElem?_eq_none (by simp; omega)] at hi; cases hi
    subst e2
    simp at hi
    subst hi
    rw [← hs]
    exact ⟨by simp, heap_alloc_new _ _⟩
theorem CBs.kpt (w : World) (l : List Cl) : Kpt (fun W => CBs w W l) (w.heap.size + 1) (w.heap.size + 1 + l.length) := fun W W' lo hi h hg hd i c hi => by
  have := (List.getElem?_eq_some_iff.1 hi).1
  exact ⟨Nat.lt_of_lt_of_le (h i c hi).1 hg.size, (hg.block _ (h i c hi).1 (by omega)).trans (h i c hi).2⟩
theorem CBs.cell {w W : World} {l : List Cl} (h : CBs w W l) (i : Nat) {c : Cl} (hi : l[i]? = some c) : W.cell? ⟨w.heap.size + 1 + i, 0, none⟩ = some (.int .i64 c.1) ∧ W.cell? ⟨w.heap.size + 1 + i, 1, none⟩ = some (.int .i64 c.2) := by
  unfold World.cell?
  dsimp only
  rw [(h i c hi).2]
  exact ⟨rfl, rfl⟩

/-- A forest that the specification told, in a variable whose box is block b; all from lo on and ahead of hi. -/
def PSb (w : World) (lo hi b : Nat) (v : Value) (F : List Qd) : Prop := (∃ m1 m2, SG w m1 m2 v F ∧ lo ≤ m1 ∧ m2 ≤ hi) ∧ w.cell? ⟨b, 0, none⟩ = some v ∧ lo ≤ b ∧ b < hi ∧ hi ≤ w.heap.size
theorem PSb.kpt (lo hi b : Nat) (v : Value) (F : List Qd) : Kpt (fun W => PSb W lo hi b v F) lo hi := by
  rintro W W' lo' hi' ⟨⟨m1, m2, h1, k1, k2⟩, h2, h3, h4, h5⟩ hg hd
  exact ⟨⟨m1, m2, SG.kpt m1 m2 v F W W' lo' hi' h1 hg (by omega), k1, k2⟩, (World.cell?_of_block (a := ⟨b, 0, none⟩) (hg.block b (by omega) (by omega))).trans h2, h3, h4, Nat.le_trans h5 hg.size⟩
theorem PSb.gf {w : World} {lo hi b : Nat} {v : Value} {F : List Qd} (h : PSb w lo hi b v F) : ∃ m, GF w m v F := by
  obtain ⟨⟨m1, m2, h1, _⟩, _⟩ := h
  exact ⟨m1, h1.gf⟩
theorem PSb.after {w : World} {lo m : Nat} {v : Value} {F : List Qd} (h : GF w m v F) (hl : lo ≤ m) (hm : m ≤ w.heap.size) (t : TypeId) : PSb (w.alloc (.cells #[v] t)) lo (w.alloc (.cells #[v] t)).heap.size w.heap.size v F := by
  have hb := (Below.refl w.heap.size w).alloc (Nat.le_refl _) (.cells #[v] t)
  refine ⟨⟨m, w.heap.size, (SG.kpt _ _ _ _).below (SG.of h) hb, hl, hb.size⟩, ?_, Nat.le_trans hl hm, by simp, Nat.le_refl _⟩
  unfold World.cell?; rw [heap_alloc_new]; rfl
theorem PSb.ahead {w : World} {lo m b : Nat} {v : Value} {F : List Qd} {f : Nat → Value} (h : GF w m v F) (hr : w.rowIs b 25 1 f) (hl : lo ≤ b) (hm : b < m) : PSb (w.setCell ⟨b, 0, none⟩ v) lo (w.setCell ⟨b, 0, none⟩ v).heap.size b v F := by
  have hs : (w.setCell ⟨b, 0, none⟩ v).heap.size = w.heap.size := by simp
  have hlt := hr.lt
  have e := (hr.set 0 v).cell (i := 0) (by omega)
  simp only [if_true] at e
  exact ⟨⟨m, _, SG.of (h.setRow (o := 0) hr (by decide) (by decide) v), by omega, Nat.le_refl _⟩, e, hl, by omega, Nat.le_refl _⟩
/-- A forest that the program told, in a variable whose box is block b; its memory is from m1 on and ahead of m2. -/
def PFb (w : World) (lo hi m1 m2 b : Nat) (v : Value) (F : List Qd) : Prop := FOwn w m1 m2 v F ∧ w.cell? ⟨b, 0, none⟩ = some v ∧ (lo ≤ m1 ∧ m2 ≤ hi ∧ (b < m1 ∨ m2 ≤ b) ∧ lo ≤ b ∧ b < hi ∧ hi ≤ w.heap.size)
theorem PFb.kpt (lo hi m1 m2 b : Nat) (v : Value) (F : List Qd) : Kpt (fun W => PFb W lo hi m1 m2 b v F) lo hi := by
  rintro W W' lo' hi' ⟨h1, h2, h3⟩ hg hd
  exact ⟨h1.kept hg (by omega), (World.cell?_of_block (a := ⟨b, 0, none⟩) (hg.block b (by omega) (by omega))).trans h2, by have := hg.size; omega⟩
theorem PFb.mark {W W' : World} {lo hi m1 m2 b : Nat} {v : Value} {F F' : List Qd} (h : PFb W lo hi m1 m2 b v F) (hg : Grew W W' m1 m2) (h' : FOwn W' m1 m2 v F') : PFb W' lo hi m1 m2 b v F' :=
  ⟨h', (World.cell?_of_block (a := ⟨b, 0, none⟩) (hg.block b (by have := h.2.2; omega) (by have := h.2.2; omega))).trans h.2.1, by have := h.2.2; have := hg.size; omega⟩
theorem PFb.after {w : World} {lo m : Nat} {v : Value} {F : List Qd} (h : FOwn w m w.heap.size v F) (hl : lo ≤ m) (hm : m ≤ w.heap.size) (t : TypeId) : PFb (w.alloc (.cells #[v] t)) lo (w.alloc (.cells #[v] t)).heap.size m w.heap.size w.heap.size v F := by
  have hb := (Below.refl w.heap.size w).alloc (Nat.le_refl _) (.cells #[v] t)
  refine ⟨h.below hb, ?_, by simp; omega⟩
  unfold World.cell?; rw [heap_alloc_new]; rfl
theorem PFb.ahead {w : World} {lo m b : Nat} {v : Value} {F : List Qd} {f : Nat → Value} (h : FOwn w m w.heap.size v F) (hr : w.rowIs b 25 1 f) (hl : lo ≤ b) (hm : b < m) : PFb (w.setCell ⟨b, 0, none⟩ v) lo (w.setCell ⟨b, 0, none⟩ v).heap.size m w.heap.size b v F := by
  have hs : (w.setCell ⟨b, 0, none⟩ v).heap.size = w.heap.size := by simp
  have hlt := hr.lt
  have e := (hr.set 0 v).cell (i := 0) (by omega)
  simp only [if_true] at e
  exact ⟨h.kept ((Grew.refl w b (b + 1)).set (Nat.le_refl _) (by omega) v) (by omega), e, by omega⟩
/-- toForest, its address a letter. -/
theorem c_toForestA (a : Option Addr) (F : List Qd) (ca : Nat) (w : World) (ha : QSeg w a F) (hl : F.length ≤ 1048576) (hk : KidsLe F) :
    Calls Try.prog 67 #[.agg #[.slice a F.length ca]] w fun e w' => ∃ ad, e = .returned (.agg #[.slice ad F.length F.length]) ∧ QSeg w' ad F ∧ NoneCap w' ad F ∧ Below w.heap.size w w' :=
  (c_toForest a F ca w ha hl hk).mono fun e w' ⟨h1, ⟨ks, r⟩, h3⟩ => ⟨_, h1, r.seg, r.noneCap, h3⟩
theorem box_new {W W' : World} (hb : Below (W.alloc (.cells #[.slice none 0 0] 25)).heap.size (W.alloc (.cells #[.slice none 0 0] 25)) W') : W'.rowIs W.heap.size 25 1 (fun _ => .slice none 0 0) :=
  one_row ((hb.block W.heap.size (by simp)).trans (heap_alloc_new W _))
theorem box_newD {W W' : World} (hb : Below (W.alloc (.cells #[.slice none 0 0] 25)).drew.heap.size (W.alloc (.cells #[.slice none 0 0] 25)).drew W') : W'.rowIs W.heap.size 25 1 (fun _ => .slice none 0 0) :=
  box_new (show Below (W.alloc (.cells #[.slice none 0 0] 25)).heap.size (W.alloc (.cells #[.slice none 0 0] 25)) W' from ⟨hb.os, hb.tape, hb.output, hb.size, hb.block⟩)

end Go.Proofs.Ytmapbkefndbnnaa
