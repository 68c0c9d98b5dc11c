/- Texts of this seat, one behind the other: SCen, SFrm, ICh, IChF, SMrg, IMq. -/
import Derived.Test.YtmapbkefndbnnaaKg
import Derived.Deep.RegionHeld3
namespace Go.Proofs.Ytmapbkefndbnnaa
open Go.RowKit
set_option linter.unusedVariables false
set_option linter.unusedSimpArgs false
attribute [local go_sem ↓] Go.wp_at_zero Go.wp_at_succ

theorem cell_other {W : World} {p r : Addr} {v : Value} (h : W.cell? p = some v) (hne : r.block ≠ p.block) (u : Value) : (W.setCell r u).cell? p = some v := by
  rw [World.cell?_setCell_far _ _ _ _ hne]; exact h

set_option maxHeartbeats 4000000 in
set_option maxRecDepth 100000 in
theorem c_sCentreOf (a : Option Addr) (F : List Qd) (ca : Nat) (q : Int) (w : World) (ha : QSeg w a F) (hl : F.length ≤ 1048576) (hk : KidsLe F) (hca : F.length ≤ ca) (hcm : ca ≤ 9223372036854775807) (hnc : NoneCap w a F) :
    Calls Try.prog 63 #[.agg #[.slice a F.length ca], .int .i64 q] w fun e w' => ∃ u, e = .returned (.tuple #[.agg #[u], .int .i64 (ansQ (cenOK F q) (cenR F q)), .bool (ansB (cenOK F q) (cenR F q))]) ∧ GF w' w.heap.size u (ansF (cenOK F q) (cenR F q)) ∧ Below w.heap.size w w' := by
  have B1 := (Bx.nil w).add (by simp) #[.slice a F.length ca] 25
  have B2 := hid (B1.add (by simp) #[.slice none 0 0] 25)
  have Q2 := hid (ha.below B2.out.2.2)
  have N2 := hid (hnc.below ha B2.out.2.2)
  clear B1 hnc ha
  have x0 := B2.out.cell 0 0 (v := .slice a F.length ca) rfl rfl
  rw [Nat.add_zero] at x0
  have fin : ∀ W : World, Below w.heap.size w W → ∃ u, Ending.returned (.tuple #[.agg #[.slice none 0 0], .int .i64 0, .bool false]) = .returned (.tuple #[.agg #[u], .int .i64 0, .bool false]) ∧ GF W w.heap.size u [] ∧ Below w.heap.size w W := fun W h => ⟨_, rfl, GF.nil _ _, h⟩
  cases hth : thereB F q
  · have HC := hid (c_l3There' a F ca q false hth _ Q2.out hl hk hca hcm)
    have HV : Hid (cenOK F q = false) := by simp [Hid, cenOK, hth]
    clear hth
    go_enter Try.func63, Try.ntmps63
    go_wp2_with fail
    refine HC.out.mono ?_
    rintro e w3 ⟨rfl, hb⟩
    have B3 := hid (B2.out.step hb)
    have R3 := B3.out.row 1 (v := .slice none 0 0) (t := 25) rfl
    have r0 := R3.cell (i := 0) (by omega)
    have f0 := R3.frozen 0
    have E0 := hid ((R3.set 0 (.slice none 0 0)).cell (i := 0) (by omega))
    simp only [if_true] at E0
    have HB := hid (B3.out.2.2.setCell (p := ⟨w.heap.size + 1, 0, none⟩) (by dsimp only; omega) (.slice none 0 0))
    clear HC R3 hb
    go_wp2_with fail
    rw [HV.out, (ans_no _).1, (ans_no _).2.1, (ans_no _).2.2]
    exact bodyPost_ret (v := .tuple #[.agg #[.slice none 0 0], .int .i64 0, .bool false]) (by simp [results, Try.results63, go_sem, E0.out]) rfl (fin _ HB.out)
  · have HC := hid (c_l3There' a F ca q true hth _ Q2.out hl hk hca hcm)
    obtain ⟨hg, h0, h1⟩ := there_bd hth
    obtain ⟨hn5, hlevN⟩ := levN_le hg (show q.toNat < F.length by omega)
    have HG := hid hg
    have QA := Q2.out q.toNat (by omega)
    obtain ⟨b1, o1, ak, ck, rfl, hb1, p1, _⟩ := QA
    obtain ⟨lv, hlv⟩ : ∃ lv, (qa F q.toNat).1 = lv := ⟨_, rfl⟩
    rw [hlv] at p1 hlevN
    by_cases hbad : lv < 2
    · have HV : Hid (cenOK F q = false) := by
        simp only [Hid, cenOK, hth, hlv, Bool.true_and]
        rw [decide_eq_false (by omega)]
      have dl : decide (lv < 2) = true := decide_eq_true hbad
      clear hth hg
      go_enter Try.func63, Try.ntmps63
      go_wp2_with fail
      refine HC.out.mono ?_
      rintro e w3 ⟨rfl, hb⟩
      have B3 := hid (B2.out.step hb)
      have R3 := B3.out.row 1 (v := .slice none 0 0) (t := 25) rfl
      have r0 := R3.cell (i := 0) (by omega)
      have f0 := R3.frozen 0
      have E0 := hid ((R3.set 0 (.slice none 0 0)).cell (i := 0) (by omega))
      simp only [if_true] at E0
      have HB := hid (B3.out.2.2.setCell (p := ⟨w.heap.size + 1, 0, none⟩) (by dsimp only; omega) (.slice none 0 0))
      have x3 := B3.out.cell 0 0 (v := .slice (some ⟨b1, o1, none⟩) F.length ca) rfl rfl
      rw [Nat.add_zero] at x3
      have y3 := (hb.cell (p := ⟨b1, o1 + q.toNat * 2, none⟩) hb1).trans p1
      clear HC R3 hb p1 x0
      go_wp2_with fail
      rw [HV.out, (ans_no _).1, (ans_no _).2.1, (ans_no _).2.2]
      exact bodyPost_ret (v := .tuple #[.agg #[.slice none 0 0], .int .i64 0, .bool false]) (by simp [results, Try.results63, go_sem, E0.out]) rfl (fin _ HB.out)
    · have HV : Hid (cenOK F q = true) := by
        simp only [Hid, cenOK, hth, hlv, Bool.true_and]
        rw [decide_eq_true (by omega)]
      have HLEN := hid (show (cellsOfQ F q.toNat).length ≤ 1048576 by
        have h1 := cellsL_len F (levN F q.toNat) q.toNat 0 0
        have h2 := pow4_le hn5
        unfold cellsOfQ; omega)
      have HPW := hid (show (0 : Int) < 2 ^ ((lv - 2).toNat) ∧ (2 : Int) ^ ((lv - 2).toNat) ≤ 32 from ⟨pow_pos' _, pow_le5 (by omega)⟩)
      have HMV := hid (fun (X : Int) (W : World) (aa : Option Addr) (cc : Nat) (hX : X = -(2 ^ (lv - 2).toNat)) (hS : Seg W aa (cellsOfQ F q.toNat)) => c_l1Move aa (cellsOfQ F q.toNat) cc X X W hS HLEN.out (cellsOfQ_inR hg (by omega)) (by have := HPW.out; omega) (by have := HPW.out; omega))
      have hR : cenR F q = treeL (mv (cellsOfQ F q.toNat) (-(2 ^ (lv - 2).toNat)) (-(2 ^ (lv - 2).toNat))) (lv - 1).toNat 0 0 F := by
        unfold cenR
        rw [show levN F q.toNat - 2 = (lv - 2).toNat by omega, show levN F q.toNat - 1 = (lv - 1).toNat by omega]
      have HTL : Hid (∀ (Z : Int) (W : World) (la : Option Addr) (L : List Cl) (lca : Nat), Z = lv - 1 → L = mv (cellsOfQ F q.toNat) (-(2 ^ (lv - 2).toNat)) (-(2 ^ (lv - 2).toNat)) → QSeg W (some ⟨b1, o1, none⟩) F → NoneCap W (some ⟨b1, o1, none⟩) F → Seg W la L → Calls Try.prog 107 #[.agg #[.slice (some ⟨b1, o1, none⟩) F.length ca], .int .i64 Z, .slice la L.length lca] W fun e w' => ∃ u, e = .returned (.tuple #[.agg #[u], .int .i64 (tellQ (cenR F q).1 ((cenR F q).2 : Int)), .bool (tellB (cenR F q).1)]) ∧ GF w' W.heap.size u (tellF (cenR F q).1) ∧ Below W.heap.size W w') := by
        intro Z W la L lca hZ hL hQ hN hS
        have := c_l4Tell hg (some ⟨b1, o1, none⟩) ca (lv - 1).toNat (by omega) la L lca W hQ hN hS (by rw [hL, mv_length]; exact HLEN.out)
        rw [show (((lv - 1).toNat : Nat) : Int) = Z by omega] at this
        subst hL
        rw [← hR] at this
        exact this
      have HLL := hid (fun (W : World) (hQ : QSeg W (some ⟨b1, o1, none⟩) F) => c_l3CellsAll hg (some ⟨b1, o1, none⟩) ca q W hQ h0 h1)
      have hlo : lv = 2 ∨ lv = 3 ∨ lv = 4 ∨ lv = 5 := by omega
      clear hR hlevN hn5
      generalize hRR : cenR F q = RR at *
      generalize cellsOfQ F q.toNat = CL at *
      generalize levN F q.toNat = NN at *
      clear hth hg HPW hbad hlv hRR
      rcases hlo with rfl | rfl | rfl | rfl
      all_goals
        go_enter Try.func63, Try.ntmps63
        go_wp2_with fail
        refine HC.out.mono ?_
        rintro e w3 ⟨rfl, hb⟩
        have B3 := hid (B2.out.step hb)
        have x3 := B3.out.cell 0 0 (v := .slice (some ⟨b1, o1, none⟩) F.length ca) rfl rfl
        rw [Nat.add_zero] at x3
        have y3 := (hb.cell (p := ⟨b1, o1 + q.toNat * 2, none⟩) hb1).trans p1
        have Q3 := hid (Q2.out.below hb)
        have N3 := hid (N2.out.below Q2.out hb)
        clear HC hb p1 x0
        go_wp2_with fail
        have bd := (Below.refl w3.heap.size w3).drew
        have Q4 := hid (Q3.out.below bd)
        have N4 := hid (N3.out.below Q3.out bd)
        have B4 := hid (B3.out.step bd)
        have x4 := B4.out.cell 0 0 (v := .slice (some ⟨b1, o1, none⟩) F.length ca) rfl rfl
        rw [Nat.add_zero] at x4
        have hlt4 := B4.out.lt 1 (by simp)
        clear bd
        go_region_held3 (fun W => W.cell? ⟨w.heap.size, 0, none⟩ = some (.slice (some ⟨b1, o1, none⟩) F.length ca))
          (first | exact x3 | exact x4 | exact x5 | exact x6 | exact x7 | exact x8 | go_keep)
          (first
            | (go_at_call 94; refine (HLL.out _ Q4.out).mono ?_; rintro e w5 ⟨v5, rfl, hO5, hb5⟩; obtain ⟨a5, c5, rfl, hS5⟩ := hO5.form; have Q5 := hid (Q4.out.below hb5); have N5 := hid (N4.out.below Q4.out hb5); have B5 := hid (B4.out.step hb5); have x5 := (hb5.cell (p := ⟨w.heap.size, 0, none⟩) (by have := B4.out.lt 0 (by simp); simpa using this)).trans x4; have S5 := hid hS5)
            | (go_at_call 119; refine (HMV.out _ w5 a5 c5 (by decide) S5.out).mono ?_; rintro e w6 ⟨v6, rfl, hO6, hb6⟩; obtain ⟨a6, c6, rfl, hS6⟩ := hO6.form; have Q6 := hid (Q5.out.below hb6); have N6 := hid (N5.out.below Q5.out hb6); have B6 := hid (B5.out.step hb6); have x6 := (hb6.cell (p := ⟨w.heap.size, 0, none⟩) (by have := B5.out.lt 0 (by simp); simpa using this)).trans x5; have S6 := hid hS6)
            | (go_at_call 107; refine (HTL.out _ w6 a6 _ c6 (by decide) rfl Q6.out N6.out S6.out).mono ?_; rintro e w7 ⟨u7, rfl, hG7, hb7⟩; have HG7 := hid hG7; obtain ⟨ua7, uc7, rfl, _⟩ := hG7.form; have B7 := hid (B6.out.step hb7); have x7 := (hb7.cell (p := ⟨w.heap.size, 0, none⟩) (by have := B6.out.lt 0 (by simp); simpa using this)).trans x6; have R7 := B7.out.row 1 (v := .slice none 0 0) (t := 25) rfl; have r0 := R7.cell (i := 0) (by omega); have f0 := R7.frozen 0; have x8 := cell_other x7 (show (⟨w.heap.size + 1, 0, none⟩ : Addr).block ≠ (⟨w.heap.size, 0, none⟩ : Addr).block by dsimp only; omega) (.slice ua7 (tellF RR.1).length uc7)))
        have E0 := hid ((R7.set 0 (.slice ua7 (tellF RR.1).length uc7)).cell (i := 0) (by omega))
        simp only [if_true] at E0
        have HG9 := hid ((HG7.out.setRow (o := 0) R7 (by decide) (by decide) (.slice ua7 (tellF RR.1).length uc7)).mono (show w.heap.size ≤ _ from B6.out.2.2.size))
        have HB9 := hid (B7.out.2.2.setCell (p := ⟨w.heap.size + 1, 0, none⟩) (by dsimp only; omega) (.slice ua7 (tellF RR.1).length uc7))
        clear R7 r0 f0 hG7
        go_wp2_with fail
        rw [HV.out, (ans_yes _).1, (ans_yes _).2.1, (ans_yes _).2.2]
        exact bodyPost_ret (v := .tuple #[.agg #[.slice ua7 (tellF RR.1).length uc7], .int .i64 (tellQ RR.1 (RR.2 : Int)), .bool (tellB RR.1)]) (by simp [results, Try.results63, go_sem, E0.out]) rfl ⟨.slice ua7 (tellF RR.1).length uc7, rfl, HG9.out, HB9.out⟩

end Go.Proofs.Ytmapbkefndbnnaa

namespace Go.Proofs.Ytmapbkefndbnnaa
open Go.RowKit
set_option linter.unusedVariables false
set_option linter.unusedSimpArgs false
attribute [local go_sem ↓] Go.wp_at_zero Go.wp_at_succ

set_option maxHeartbeats 4000000 in
set_option maxRecDepth 100000 in
theorem c_sFrameOf (a : Option Addr) (F : List Qd) (ca : Nat) (q : Int) (w : World) (ha : QSeg w a F) (hl : F.length ≤ 1048576) (hk : KidsLe F) (hca : F.length ≤ ca) (hcm : ca ≤ 9223372036854775807) (hnc : NoneCap w a F) :
    Calls Try.prog 59 #[.agg #[.slice a F.length ca], .int .i64 q] w fun e w' => ∃ u, e = .returned (.tuple #[.agg #[u], .int .i64 (ansQ (frmOK F q) (frmR F q)), .bool (ansB (frmOK F q) (frmR F q))]) ∧ GF w' w.heap.size u (ansF (frmOK F q) (frmR F q)) ∧ Below w.heap.size w w' := by
  have B1 := (Bx.nil w).add (by simp) #[.slice a F.length ca] 25
  have B2 := hid (B1.add (by simp) #[.slice none 0 0] 25)
  have Q2 := hid (ha.below B2.out.2.2)
  have N2 := hid (hnc.below ha B2.out.2.2)
  clear B1 hnc ha
  have x0 := B2.out.cell 0 0 (v := .slice a F.length ca) rfl rfl
  rw [Nat.add_zero] at x0
  have fin : ∀ W : World, Below w.heap.size w W → ∃ u, Ending.returned (.tuple #[.agg #[.slice none 0 0], .int .i64 0, .bool false]) = .returned (.tuple #[.agg #[u], .int .i64 0, .bool false]) ∧ GF W w.heap.size u [] ∧ Below w.heap.size w W := fun W h => ⟨_, rfl, GF.nil _ _, h⟩
  cases hth : thereB F q
  · have HC := hid (c_l3There' a F ca q false hth _ Q2.out hl hk hca hcm)
    have HV : Hid (frmOK F q = false) := by simp [Hid, frmOK, hth]
    clear hth
    go_enter Try.func59, Try.ntmps59
    go_wp2_with fail
    refine HC.out.mono ?_
    rintro e w3 ⟨rfl, hb⟩
    have B3 := hid (B2.out.step hb)
    have R3 := B3.out.row 1 (v := .slice none 0 0) (t := 25) rfl
    have r0 := R3.cell (i := 0) (by omega)
    have f0 := R3.frozen 0
    have E0 := hid ((R3.set 0 (.slice none 0 0)).cell (i := 0) (by omega))
    simp only [if_true] at E0
    have HB := hid (B3.out.2.2.setCell (p := ⟨w.heap.size + 1, 0, none⟩) (by dsimp only; omega) (.slice none 0 0))
    clear HC R3 hb
    go_wp2_with fail
    rw [HV.out, (ans_no _).1, (ans_no _).2.1, (ans_no _).2.2]
    exact bodyPost_ret (v := .tuple #[.agg #[.slice none 0 0], .int .i64 0, .bool false]) (by simp [results, Try.results59, go_sem, E0.out]) rfl (fin _ HB.out)
  · have HC := hid (c_l3There' a F ca q true hth _ Q2.out hl hk hca hcm)
    obtain ⟨hg, h0, h1⟩ := there_bd hth
    obtain ⟨hn5, hlevN⟩ := levN_le hg (show q.toNat < F.length by omega)
    have HG := hid hg
    have QA := Q2.out q.toNat (by omega)
    obtain ⟨b1, o1, ak, ck, rfl, hb1, p1, _⟩ := QA
    obtain ⟨lv, hlv⟩ : ∃ lv, (qa F q.toNat).1 = lv := ⟨_, rfl⟩
    rw [hlv] at p1 hlevN
    by_cases hbad : inB 1 4 lv = false
    · have HV : Hid (frmOK F q = false) := by
        simp only [Hid, frmOK, hth, hlv, Bool.true_and]
        exact hbad
      have HD := hid (fun W => c_l1In' lv 1 4 false hbad W)
      clear hlevN hlv hn5 hbad
      clear hth hg
      go_enter Try.func59, Try.ntmps59
      go_wp2_with fail
      refine HC.out.mono ?_
      rintro e w3 ⟨rfl, hb⟩
      have B3 := hid (B2.out.step hb)
      have R3 := B3.out.row 1 (v := .slice none 0 0) (t := 25) rfl
      have r0 := R3.cell (i := 0) (by omega)
      have f0 := R3.frozen 0
      have E0 := hid ((R3.set 0 (.slice none 0 0)).cell (i := 0) (by omega))
      simp only [if_true] at E0
      have HB := hid (B3.out.2.2.setCell (p := ⟨w.heap.size + 1, 0, none⟩) (by dsimp only; omega) (.slice none 0 0))
      have x3 := B3.out.cell 0 0 (v := .slice (some ⟨b1, o1, none⟩) F.length ca) rfl rfl
      rw [Nat.add_zero] at x3
      have y3 := (hb.cell (p := ⟨b1, o1 + q.toNat * 2, none⟩) hb1).trans p1
      clear HC R3 hb p1 x0
      go_wp2_with fail
      refine (HD.out w3).mono ?_
      rintro e w3 ⟨rfl, rfl⟩
      go_wp2_with fail
      rw [HV.out, (ans_no _).1, (ans_no _).2.1, (ans_no _).2.2]
      exact bodyPost_ret (v := .tuple #[.agg #[.slice none 0 0], .int .i64 0, .bool false]) (by simp [results, Try.results59, go_sem, E0.out]) rfl (fin _ HB.out)
    · have HV : Hid (frmOK F q = true) := by
        simp only [Hid, frmOK, hth, hlv, Bool.true_and]
        simpa using hbad
      have hin : inB 1 4 lv = true := by simpa using hbad
      have HD := hid (fun W => c_l1In' lv 1 4 true hin W)
      have hlb := inB_bd hin
      clear hin
      have HLEN := hid (show (cellsOfQ F q.toNat).length ≤ 1048576 by
        have h1 := cellsL_len F (levN F q.toNat) q.toNat 0 0
        have h2 := pow4_le hn5
        unfold cellsOfQ; omega)
      have HPW := hid (show (0 : Int) < 2 ^ ((lv - 1).toNat) ∧ (2 : Int) ^ ((lv - 1).toNat) ≤ 32 from ⟨pow_pos' _, pow_le5 (by omega)⟩)
      have HMV := hid (fun (X : Int) (W : World) (aa : Option Addr) (cc : Nat) (hX : X = 2 ^ (lv - 1).toNat) (hS : Seg W aa (cellsOfQ F q.toNat)) => c_l1Move aa (cellsOfQ F q.toNat) cc X X W hS HLEN.out (cellsOfQ_inR hg (by omega)) (by have := HPW.out; omega) (by have := HPW.out; omega))
      have hR : frmR F q = treeL (mv (cellsOfQ F q.toNat) (2 ^ (lv - 1).toNat) (2 ^ (lv - 1).toNat)) (lv + 1).toNat 0 0 F := by
        unfold frmR
        rw [show levN F q.toNat - 1 = (lv - 1).toNat by omega, show levN F q.toNat + 1 = (lv + 1).toNat by omega]
      have HTL : Hid (∀ (Z : Int) (W : World) (la : Option Addr) (L : List Cl) (lca : Nat), Z = lv + 1 → L = mv (cellsOfQ F q.toNat) (2 ^ (lv - 1).toNat) (2 ^ (lv - 1).toNat) → QSeg W (some ⟨b1, o1, none⟩) F → NoneCap W (some ⟨b1, o1, none⟩) F → Seg W la L → Calls Try.prog 107 #[.agg #[.slice (some ⟨b1, o1, none⟩) F.length ca], .int .i64 Z, .slice la L.length lca] W fun e w' => ∃ u, e = .returned (.tuple #[.agg #[u], .int .i64 (tellQ (frmR F q).1 ((frmR F q).2 : Int)), .bool (tellB (frmR F q).1)]) ∧ GF w' W.heap.size u (tellF (frmR F q).1) ∧ Below W.heap.size W w') := by
        intro Z W la L lca hZ hL hQ hN hS
        have := c_l4Tell hg (some ⟨b1, o1, none⟩) ca (lv + 1).toNat (by omega) la L lca W hQ hN hS (by rw [hL, mv_length]; exact HLEN.out)
        rw [show (((lv + 1).toNat : Nat) : Int) = Z by omega] at this
        subst hL
        rw [← hR] at this
        exact this
      have HLL := hid (fun (W : World) (hQ : QSeg W (some ⟨b1, o1, none⟩) F) => c_l3CellsAll hg (some ⟨b1, o1, none⟩) ca q W hQ h0 h1)
      have hlo : lv = 1 ∨ lv = 2 ∨ lv = 3 ∨ lv = 4 := by omega
      clear hR hlevN hn5
      generalize hRR : frmR F q = RR at *
      generalize cellsOfQ F q.toNat = CL at *
      generalize levN F q.toNat = NN at *
      clear hth hg HPW hbad hlv hRR
      rcases hlo with rfl | rfl | rfl | rfl
      all_goals
        go_enter Try.func59, Try.ntmps59
        go_wp2_with fail
        refine HC.out.mono ?_
        rintro e w3 ⟨rfl, hb⟩
        have B3 := hid (B2.out.step hb)
        have x3 := B3.out.cell 0 0 (v := .slice (some ⟨b1, o1, none⟩) F.length ca) rfl rfl
        rw [Nat.add_zero] at x3
        have y3 := (hb.cell (p := ⟨b1, o1 + q.toNat * 2, none⟩) hb1).trans p1
        have Q3 := hid (Q2.out.below hb)
        have N3 := hid (N2.out.below Q2.out hb)
        clear HC hb p1 x0
        go_wp2_with fail
        refine (HD.out w3).mono ?_
        rintro e w3 ⟨rfl, rfl⟩
        go_wp2_with fail
        have bd := (Below.refl w3.heap.size w3).drew
        have Q4 := hid (Q3.out.below bd)
        have N4 := hid (N3.out.below Q3.out bd)
        have B4 := hid (B3.out.step bd)
        have x4 := B4.out.cell 0 0 (v := .slice (some ⟨b1, o1, none⟩) F.length ca) rfl rfl
        rw [Nat.add_zero] at x4
        have hlt4 := B4.out.lt 1 (by simp)
        clear bd
        go_region_held3 (fun W => W.cell? ⟨w.heap.size, 0, none⟩ = some (.slice (some ⟨b1, o1, none⟩) F.length ca))
          (first | exact x3 | exact x4 | exact x5 | exact x6 | exact x7 | exact x8 | go_keep)
          (first
            | (go_at_call 94; refine (HLL.out _ Q4.out).mono ?_; rintro e w5 ⟨v5, rfl, hO5, hb5⟩; obtain ⟨a5, c5, rfl, hS5⟩ := hO5.form; have Q5 := hid (Q4.out.below hb5); have N5 := hid (N4.out.below Q4.out hb5); have B5 := hid (B4.out.step hb5); have x5 := (hb5.cell (p := ⟨w.heap.size, 0, none⟩) (by have := B4.out.lt 0 (by simp); simpa using this)).trans x4; have S5 := hid hS5)
            | (go_at_call 119; refine (HMV.out _ w5 a5 c5 (by decide) S5.out).mono ?_; rintro e w6 ⟨v6, rfl, hO6, hb6⟩; obtain ⟨a6, c6, rfl, hS6⟩ := hO6.form; have Q6 := hid (Q5.out.below hb6); have N6 := hid (N5.out.below Q5.out hb6); have B6 := hid (B5.out.step hb6); have x6 := (hb6.cell (p := ⟨w.heap.size, 0, none⟩) (by have := B5.out.lt 0 (by simp); simpa using this)).trans x5; have S6 := hid hS6)
            | (go_at_call 107; refine (HTL.out _ w6 a6 _ c6 (by decide) rfl Q6.out N6.out S6.out).mono ?_; rintro e w7 ⟨u7, rfl, hG7, hb7⟩; have HG7 := hid hG7; obtain ⟨ua7, uc7, rfl, _⟩ := hG7.form; have B7 := hid (B6.out.step hb7); have x7 := (hb7.cell (p := ⟨w.heap.size, 0, none⟩) (by have := B6.out.lt 0 (by simp); simpa using this)).trans x6; have R7 := B7.out.row 1 (v := .slice none 0 0) (t := 25) rfl; have r0 := R7.cell (i := 0) (by omega); have f0 := R7.frozen 0; have x8 := cell_other x7 (show (⟨w.heap.size + 1, 0, none⟩ : Addr).block ≠ (⟨w.heap.size, 0, none⟩ : Addr).block by dsimp only; omega) (.slice ua7 (tellF RR.1).length uc7)))
        have E0 := hid ((R7.set 0 (.slice ua7 (tellF RR.1).length uc7)).cell (i := 0) (by omega))
        simp only [if_true] at E0
        have HG9 := hid ((HG7.out.setRow (o := 0) R7 (by decide) (by decide) (.slice ua7 (tellF RR.1).length uc7)).mono (show w.heap.size ≤ _ from B6.out.2.2.size))
        have HB9 := hid (B7.out.2.2.setCell (p := ⟨w.heap.size + 1, 0, none⟩) (by dsimp only; omega) (.slice ua7 (tellF RR.1).length uc7))
        clear R7 r0 f0 hG7
        go_wp2_with fail
        rw [HV.out, (ans_yes _).1, (ans_yes _).2.1, (ans_yes _).2.2]
        exact bodyPost_ret (v := .tuple #[.agg #[.slice ua7 (tellF RR.1).length uc7], .int .i64 (tellQ RR.1 (RR.2 : Int)), .bool (tellB RR.1)]) (by simp [results, Try.results59, go_sem, E0.out]) rfl ⟨.slice ua7 (tellF RR.1).length uc7, rfl, HG9.out, HB9.out⟩

end Go.Proofs.Ytmapbkefndbnnaa

namespace Go.Proofs.Ytmapbkefndbnnaa
open Go.RowKit
set_option linter.unusedVariables false
set_option linter.unusedSimpArgs false
attribute [local go_sem ↓] Go.wp_at_zero Go.wp_at_succ

set_option maxHeartbeats 2000000 in
set_option maxRecDepth 100000 in
theorem c_changeQuad (f : Nat) (hf : f = 121 ∨ f = 118) (least most : Int) (R : List Qd × Nat) (a : Option Addr) (F : List Qd) (ca : Nat) (q : Int) (w : World) (ha : QSeg w a F) (hl : F.length ≤ 1048576) (hk : KidsLe F) (hca : F.length ≤ ca) (hcm : ca ≤ 9223372036854775807) (ok : Bool) (hok : (goodF F && hlB F q least most) = ok)
    (hR : ok = true → Grows R.1 ∧ R.1.length ≤ 10000 ∧ ∀ (W : World) (base p g cap mb : Nat), Grv W base p g cap mb F → Calls Try.prog f #[.pointer (some ⟨p, 0, none⟩), .int .i64 q] W fun e w' => ∃ g' cap', e = .returned (.int .i64 (R.2 : Int)) ∧ Grv w' base p g' cap' mb R.1 ∧ Below base W w') :
    Calls Try.prog 117 #[.agg #[.slice a F.length ca], .int .i64 q, .int .i64 least, .int .i64 most, .func (.func f) #[] #[]] w fun e w' => ∃ u, e = .returned (.tuple #[.agg #[u], .int .i64 (ansQ ok R), .bool (ansB ok R)]) ∧ FOwn w' w.heap.size w'.heap.size u (ansF ok R) ∧ Below w.heap.size w w' := by
  have B1 := (Bx.nil w).add (by simp) #[.slice a F.length ca] 25
  have B2 := hid (B1.add (by simp) #[.slice none 0 0] 25)
  have Q2 := hid (ha.below B2.out.2.2)
  clear B1 ha
  have x0 := B2.out.cell 0 0 (v := .slice a F.length ca) rfl rfl
  rw [Nat.add_zero] at x0
  have fin : ∀ W : World, Below w.heap.size w W → ∃ u, Ending.returned (.tuple #[.agg #[.slice none 0 0], .int .i64 0, .bool false]) = .returned (.tuple #[.agg #[u], .int .i64 0, .bool false]) ∧ FOwn W w.heap.size W.heap.size u [] ∧ Below w.heap.size w W := fun W h => ⟨_, rfl, .inl ⟨rfl, rfl⟩, h⟩
  have HC := hid (c_groveOf a F ca _ Q2.out hl hk hca hcm)
  cases hg : goodF F
  · rw [hg] at HC
    have HV := hid (show ok = false by rw [← hok, hg]; rfl)
    clear hg hok hR
    go_enter Try.func117, Try.ntmps117
    go_wp2_with fail
    refine HC.out.mono ?_
    rintro e w3 ⟨pv, rfl, ho, hb⟩
    have B3 := hid (B2.out.step hb)
    clear ho HC hb
    have R9 := B3.out.row 1 (v := .slice none 0 0) (t := 25) rfl
    have r0 := R9.cell (i := 0) (by omega)
    have f0 := R9.frozen 0
    have E0 := hid ((R9.set 0 (.slice none 0 0)).cell (i := 0) (by omega))
    simp only [if_true] at E0
    have HB := hid (B3.out.2.2.setCell (p := ⟨w.heap.size + 1, 0, none⟩) (by dsimp only; omega) (.slice none 0 0))
    clear R9
    go_wp2_with fail
    rw [HV.out, (ans_no _).1, (ans_no _).2.1, (ans_no _).2.2]
    exact bodyPost_ret (v := .tuple #[.agg #[.slice none 0 0], .int .i64 0, .bool false]) (by simp [results, Try.results117, go_sem, E0.out]) rfl (fin _ HB.out)
  · rw [hg] at HC
    have HG := hid hg
    cases hh : hlB F q least most
    · have HV := hid (show ok = false by rw [← hok, hg, hh]; rfl)
      have HE := hid (fun (W : World) (base p g cap mb : Nat) (h : Grv W base p g cap mb F) => c_hasLevel q least most false W hh h)
      clear hok hR hg hh
      go_enter Try.func117, Try.ntmps117
      go_wp2_with fail
      refine HC.out.mono ?_
      rintro e w3 ⟨pv, rfl, ho, hb⟩
      have B3 := hid (B2.out.step hb)
      rcases ho with ⟨_, p, g, cap, mb, base, hbase, rfl, hGv⟩ | ⟨e, _⟩
      · have HGV := hid hGv
        clear HC hb hGv
        go_wp2_with fail
        refine (HE.out _ _ _ _ _ _ HGV.out).mono ?_
        rintro e w4 ⟨rfl, hb4⟩
        have B4 := hid (B3.out.step hb4)
        clear hb4
        have R9 := B4.out.row 1 (v := .slice none 0 0) (t := 25) rfl
        have r0 := R9.cell (i := 0) (by omega)
        have f0 := R9.frozen 0
        have E0 := hid ((R9.set 0 (.slice none 0 0)).cell (i := 0) (by omega))
        simp only [if_true] at E0
        have HB := hid (B4.out.2.2.setCell (p := ⟨w.heap.size + 1, 0, none⟩) (by dsimp only; omega) (.slice none 0 0))
        clear R9
        go_wp2_with fail
        rw [HV.out, (ans_no _).1, (ans_no _).2.1, (ans_no _).2.2]
        exact bodyPost_ret (v := .tuple #[.agg #[.slice none 0 0], .int .i64 0, .bool false]) (by simp [results, Try.results117, go_sem, E0.out]) rfl (fin _ HB.out)
      · rw [HG.out] at e; cases e
    · have HV := hid (show ok = true by rw [← hok, hg, hh]; rfl)
      obtain ⟨hGR, hLR, hcall⟩ := hR HV.out
      have HGR := hid hGR
      have HLR := hid (show R.1.length ≤ 100000 by omega)
      have HCALL := hid hcall
      have HE := hid (fun (W : World) (base p g cap mb : Nat) (h : Grv W base p g cap mb F) => c_hasLevel q least most true W hh h)
      clear hok hR hg hh hGR hLR hcall
      rcases hf with rfl | rfl
      all_goals
        go_enter Try.func117, Try.ntmps117
        go_wp2_with fail
        refine HC.out.mono ?_
        rintro e w3 ⟨pv, rfl, ho, hb⟩
        have B3 := hid (B2.out.step hb)
        rcases ho with ⟨_, p, g, cap, mb, base, hbase, rfl, hGv⟩ | ⟨e, _⟩
        · have HGV := hid hGv
          have HBS := hid (show w.heap.size + 2 ≤ base from Nat.le_trans B2.out.2.1 hbase)
          clear HC hb hGv hbase x0
          go_wp2_with fail
          refine (HE.out _ _ _ _ _ _ HGV.out).mono ?_
          rintro e w4 ⟨rfl, hb4⟩
          have B4 := hid (B3.out.step hb4)
          have G4 := hid (HGV.out.below hb4)
          clear hb4
          go_wp2_with fail
          refine (HCALL.out _ _ _ _ _ _ G4.out).mono ?_
          rintro e w7 ⟨g7, cap7, rfl, hG7, hb7⟩
          have R7 := hid ((B4.out.row 1 (v := .slice none 0 0) (t := 25) rfl).of_block (hb7.block _ (show w.heap.size + 1 < base by have := HBS.out; omega)))
          have HB7 := hid (B4.out.2.2.trans (hb7.mono (show w.heap.size ≤ base by have := HBS.out; omega)))
          have HG7 := hid hG7
          clear hG7 hb7
          have HTL := hid (c_told (R.2 : Int) w7 HG7.out HGR.out HLR.out)
          go_wp2_with fail
          refine HTL.out.mono ?_
          rintro e w8 ⟨u8, rfl, hO8, hb8⟩
          have HO8 := hid hO8
          obtain ⟨ua8, uc8, rfl, _⟩ := hO8.form
          have R9 := R7.out.of_block (hb8.block _ R7.out.lt)
          have hlt7 := R7.out.lt
          have r0 := R9.cell (i := 0) (by omega)
          have f0 := R9.frozen 0
          have E0 := hid ((R9.set 0 (.slice ua8 (tellF R.1).length uc8)).cell (i := 0) (by omega))
          simp only [if_true] at E0
          have hs9 : (w8.setCell ⟨w.heap.size + 1, 0, none⟩ (.slice ua8 (tellF R.1).length uc8)).heap.size = w8.heap.size := by simp
          have hGW : Grew w8 (w8.setCell ⟨w.heap.size + 1, 0, none⟩ (.slice ua8 (tellF R.1).length uc8)) (w.heap.size + 1) (w.heap.size + 1 + 1) := (Grew.refl w8 _ _).set (Nat.le_refl _) (by omega) _
          have HO9 := hid ((HO8.out.kept hGW (by omega)).wide (lo' := w.heap.size) (hi' := w8.heap.size) (by omega) (Nat.le_refl _) (by rw [hs9]; exact Nat.le_refl _))
          have HB9 := hid ((HB7.out.trans (hb8.mono HB7.out.size)).setCell (p := ⟨w.heap.size + 1, 0, none⟩) (by dsimp only; omega) (.slice ua8 (tellF R.1).length uc8))
          have HS9 := hid hs9
          clear HTL hO8 HO8 hb8 R9 hGW hs9 hlt7
          generalize hT : tellF R.1 = TF at *
          generalize hQ' : tellQ R.1 (R.2 : Int) = TQ at *
          generalize hB' : tellB R.1 = TB at *
          go_wp2_with fail
          rw [HV.out, (ans_yes _).1, (ans_yes _).2.1, (ans_yes _).2.2, hT, hQ', hB']
          exact bodyPost_ret (v := .tuple #[.agg #[.slice ua8 TF.length uc8], .int .i64 TQ, .bool TB]) (by simp [results, Try.results117, go_sem, E0.out]) rfl ⟨.slice ua8 TF.length uc8, rfl, by rw [HS9.out]; exact HO9.out, HB9.out⟩
        · rw [HG.out] at e; cases e


/-- A function that hands changeQuad's answer on. -/
theorem cen_ok (F : List Qd) (q : Int) : (goodF F && hlB F q 2 5) = cenOK F q := by
  unfold cenOK thereB hlB
  cases hg : goodF F
  · rfl
  · cases hq : inB 0 ((F.length : Int) - 1) q
    · rfl
    · have h1 := inB_bd hq
      have h2 := levN_le hg (show q.toNat < F.length by omega)
      simp only [Bool.true_and, inB]
      rw [decide_eq_true (show (qa F q.toNat).1 ≤ 5 by omega), Bool.and_true]
theorem cen_call {F : List Qd} {q : Int} (h : cenOK F q = true) : Grows (cenR F q).1 ∧ (cenR F q).1.length ≤ 10000 ∧ ∀ (W : World) (base p g cap mb : Nat), Grv W base p g cap mb F → Calls Try.prog 121 #[.pointer (some ⟨p, 0, none⟩), .int .i64 q] W fun e w' => ∃ g' cap', e = .returned (.int .i64 ((cenR F q).2 : Int)) ∧ Grv w' base p g' cap' mb (cenR F q).1 ∧ Below base W w' := by
  have hgr := cen_grows h
  simp only [cenOK, Bool.and_eq_true, decide_eq_true_eq] at h
  obtain ⟨h1, h2, h3⟩ := there_to h.1
  have h5 := levN_le h1 h2
  have h6 := good_len2 h1
  obtain ⟨m, hm⟩ : ∃ m, levN F q.toNat = m + 2 := ⟨levN F q.toNat - 2, by omega⟩
  refine ⟨hgr, ?_, ?_⟩
  · have t := (treeL_tr (mv (cellsOfQ F q.toNat) (-(2 ^ (levN F q.toNat - 2))) (-(2 ^ (levN F q.toNat - 2)))) (levN F q.toNat - 1) 0 0 F (by omega) (good_grows h1)).most
    have := pow4_le (show levN F q.toNat - 1 ≤ 5 by omega)
    unfold cenR; omega
  · intro W base p g cap mb hG
    have hj := cen_join h1 h2 hm
    rw [h3] at hj
    rw [hj]
    have hT := cellsOfQ_is h1 h2
    rw [hm] at hT
    have := c_centre m q.toNat W (good_grows h1) (by omega) hT hG
    rw [h3] at this
    exact this.mono fun e w' ⟨g', c', e1, e2, e3, _⟩ => ⟨g', c', e1, e2, e3⟩

set_option maxHeartbeats 1000000 in
set_option maxRecDepth 100000 in
theorem c_iCentreOf (a : Option Addr) (F : List Qd) (ca : Nat) (q : Int) (w : World) (ha : QSeg w a F) (hl : F.length ≤ 1048576) (hk : KidsLe F) (hca : F.length ≤ ca) (hcm : ca ≤ 9223372036854775807) :
    Calls Try.prog 61 #[.agg #[.slice a F.length ca], .int .i64 q] w fun e w' => ∃ u, e = .returned (.tuple #[.agg #[u], .int .i64 (ansQ (cenOK F q) (cenR F q)), .bool (ansB (cenOK F q) (cenR F q))]) ∧ FOwn w' w.heap.size w'.heap.size u (ansF (cenOK F q) (cenR F q)) ∧ Below w.heap.size w w' := by
  have B1 := (Bx.nil w).add (by simp) #[.slice a F.length ca] 25
  have B2 := hid (B1.add (by simp) #[.slice none 0 0] 25)
  have x0 := B2.out.cell 0 0 (v := .slice a F.length ca) rfl rfl
  rw [Nat.add_zero] at x0
  have HC := hid (c_changeQuad 121 (by simp) 2 5 (cenR F q) a F ca q _ (ha.below B2.out.2.2) hl hk hca hcm (cenOK F q) (cen_ok F q) cen_call)
  clear B1 ha
  generalize ansF (cenOK F q) (cenR F q) = TF at *
  generalize ansQ (cenOK F q) (cenR F q) = TQ at *
  generalize ansB (cenOK F q) (cenR F q) = TB at *
  go_enter Try.func61, Try.ntmps61
  go_wp2_with fail
  refine HC.out.mono ?_
  rintro e w8 ⟨u8, rfl, hO8, hb8⟩
  have HO8 := hid hO8
  obtain ⟨ua8, uc8, rfl, _⟩ := hO8.form
  have R9 := (B2.out.step hb8).row 1 (v := .slice none 0 0) (t := 25) rfl
  have r0 := R9.cell (i := 0) (by omega)
  have f0 := R9.frozen 0
  have E0 := hid ((R9.set 0 (.slice ua8 TF.length uc8)).cell (i := 0) (by omega))
  simp only [if_true] at E0
  have hs9 : (w8.setCell ⟨w.heap.size + 1, 0, none⟩ (.slice ua8 TF.length uc8)).heap.size = w8.heap.size := by simp
  have hGW : Grew w8 (w8.setCell ⟨w.heap.size + 1, 0, none⟩ (.slice ua8 TF.length uc8)) (w.heap.size + 1) (w.heap.size + 1 + 1) := (Grew.refl w8 _ _).set (Nat.le_refl _) (by omega) _
  have h21 := B2.out.2.1
  simp only [List.length_append, List.length_cons, List.length_nil] at h21
  have HO9 := hid ((HO8.out.kept hGW (by omega)).wide (lo' := w.heap.size) (hi' := w8.heap.size) (by omega) (Nat.le_refl _) (by rw [hs9]; exact Nat.le_refl _))
  have HB9 := hid ((B2.out.step hb8).2.2.setCell (p := ⟨w.heap.size + 1, 0, none⟩) (by dsimp only; omega) (.slice ua8 TF.length uc8))
  have HS9 := hid hs9
  clear HC hO8 HO8 hb8 R9 hGW hs9 h21
  go_wp2_with fail
  exact bodyPost_ret (v := .tuple #[.agg #[.slice ua8 TF.length uc8], .int .i64 TQ, .bool TB]) (by simp [results, Try.results61, go_sem, E0.out]) rfl ⟨.slice ua8 TF.length uc8, rfl, by rw [HS9.out]; exact HO9.out, HB9.out⟩

end Go.Proofs.Ytmapbkefndbnnaa

namespace Go.Proofs.Ytmapbkefndbnnaa
open Go.RowKit
set_option linter.unusedVariables false
set_option linter.unusedSimpArgs false
attribute [local go_sem ↓] Go.wp_at_zero Go.wp_at_succ

theorem frm_ok (F : List Qd) (q : Int) : (goodF F && hlB F q 1 4) = frmOK F q := by
  unfold frmOK thereB hlB
  rw [Bool.and_assoc]
theorem frm_call {F : List Qd} {q : Int} (h : frmOK F q = true) : Grows (frmR F q).1 ∧ (frmR F q).1.length ≤ 10000 ∧ ∀ (W : World) (base p g cap mb : Nat), Grv W base p g cap mb F → Calls Try.prog 118 #[.pointer (some ⟨p, 0, none⟩), .int .i64 q] W fun e w' => ∃ g' cap', e = .returned (.int .i64 ((frmR F q).2 : Int)) ∧ Grv w' base p g' cap' mb (frmR F q).1 ∧ Below base W w' := by
  have hgr := frm_grows h
  simp only [frmOK, Bool.and_eq_true] at h
  obtain ⟨h1, h2, h3⟩ := there_to h.1
  have hb := inB_bd h.2
  have h5 := levN_le h1 h2
  have h6 := good_len2 h1
  obtain ⟨m, hm⟩ : ∃ m, levN F q.toNat = m + 1 := ⟨levN F q.toNat - 1, by omega⟩
  refine ⟨hgr, ?_, ?_⟩
  · have t := (treeL_tr (mv (cellsOfQ F q.toNat) (2 ^ (levN F q.toNat - 1)) (2 ^ (levN F q.toNat - 1))) (levN F q.toNat + 1) 0 0 F (by omega) (good_grows h1)).most
    have := pow4_le (show levN F q.toNat + 1 ≤ 5 by omega)
    unfold frmR; omega
  · intro W base p g cap mb hG
    have hj := frm_join h1 h2 hm (by omega)
    rw [h3] at hj
    rw [hj]
    have hT := cellsOfQ_is h1 h2
    rw [hm] at hT
    have := c_frame m q.toNat (by omega) W (good_grows h1) (by omega) hT hG
    rw [h3] at this
    exact this.mono fun e w' ⟨g', c', e1, e2, e3, _⟩ => ⟨g', c', e1, e2, e3⟩

set_option maxHeartbeats 1000000 in
set_option maxRecDepth 100000 in
theorem c_iFrameOf (a : Option Addr) (F : List Qd) (ca : Nat) (q : Int) (w : World) (ha : QSeg w a F) (hl : F.length ≤ 1048576) (hk : KidsLe F) (hca : F.length ≤ ca) (hcm : ca ≤ 9223372036854775807) :
    Calls Try.prog 58 #[.agg #[.slice a F.length ca], .int .i64 q] w fun e w' => ∃ u, e = .returned (.tuple #[.agg #[u], .int .i64 (ansQ (frmOK F q) (frmR F q)), .bool (ansB (frmOK F q) (frmR F q))]) ∧ FOwn w' w.heap.size w'.heap.size u (ansF (frmOK F q) (frmR F q)) ∧ Below w.heap.size w w' := by
  have B1 := (Bx.nil w).add (by simp) #[.slice a F.length ca] 25
  have B2 := hid (B1.add (by simp) #[.slice none 0 0] 25)
  have x0 := B2.out.cell 0 0 (v := .slice a F.length ca) rfl rfl
  rw [Nat.add_zero] at x0
  have HC := hid (c_changeQuad 118 (by simp) 1 4 (frmR F q) a F ca q _ (ha.below B2.out.2.2) hl hk hca hcm (frmOK F q) (frm_ok F q) frm_call)
  clear B1 ha
  generalize ansF (frmOK F q) (frmR F q) = TF at *
  generalize ansQ (frmOK F q) (frmR F q) = TQ at *
  generalize ansB (frmOK F q) (frmR F q) = TB at *
  go_enter Try.func58, Try.ntmps58
  go_wp2_with fail
  refine HC.out.mono ?_
  rintro e w8 ⟨u8, rfl, hO8, hb8⟩
  have HO8 := hid hO8
  obtain ⟨ua8, uc8, rfl, _⟩ := hO8.form
  have R9 := (B2.out.step hb8).row 1 (v := .slice none 0 0) (t := 25) rfl
  have r0 := R9.cell (i := 0) (by omega)
  have f0 := R9.frozen 0
  have E0 := hid ((R9.set 0 (.slice ua8 TF.length uc8)).cell (i := 0) (by omega))
  simp only [if_true] at E0
  have hs9 : (w8.setCell ⟨w.heap.size + 1, 0, none⟩ (.slice ua8 TF.length uc8)).heap.size = w8.heap.size := by simp
  have hGW : Grew w8 (w8.setCell ⟨w.heap.size + 1, 0, none⟩ (.slice ua8 TF.length uc8)) (w.heap.size + 1) (w.heap.size + 1 + 1) := (Grew.refl w8 _ _).set (Nat.le_refl _) (by omega) _
  have h21 := B2.out.2.1
  simp only [List.length_append, List.length_cons, List.length_nil] at h21
  have HO9 := hid ((HO8.out.kept hGW (by omega)).wide (lo' := w.heap.size) (hi' := w8.heap.size) (by omega) (Nat.le_refl _) (by rw [hs9]; exact Nat.le_refl _))
  have HB9 := hid ((B2.out.step hb8).2.2.setCell (p := ⟨w.heap.size + 1, 0, none⟩) (by dsimp only; omega) (.slice ua8 TF.length uc8))
  have HS9 := hid hs9
  clear HC hO8 HO8 hb8 R9 hGW hs9 h21
  go_wp2_with fail
  exact bodyPost_ret (v := .tuple #[.agg #[.slice ua8 TF.length uc8], .int .i64 TQ, .bool TB]) (by simp [results, Try.results58, go_sem, E0.out]) rfl ⟨.slice ua8 TF.length uc8, rfl, by rw [HS9.out]; exact HO9.out, HB9.out⟩

end Go.Proofs.Ytmapbkefndbnnaa

namespace Go.Proofs.Ytmapbkefndbnnaa
open Go.RowKit
set_option linter.unusedVariables false
set_option linter.unusedSimpArgs false
attribute [local go_sem ↓] Go.wp_at_zero Go.wp_at_succ

/-- A quad's cells put behind those that are there. -/
theorem c_l3CellsMore {F : List Qd} (hg : goodF F = true) (a : Option Addr) (ca : Nat) (q : Int) (W0 w : World) (v : Value) (out L : List Cl) (hL : L = out ++ cellsOfQ F q.toNat) (ha : QSeg W0 a F) (h0 : 0 ≤ q) (h1 : q < (F.length : Int)) (hB : Below W0.heap.size W0 w) (hO : OwnS w W0.heap.size v out) (hl : out.length ≤ 1024) :
    Calls Try.prog 94 #[.agg #[.slice a F.length ca], .int .i64 q, .int .i64 0, .int .i64 0, v] w fun e w' => ∃ v', e = .returned v' ∧ OwnS w' W0.heap.size v' L ∧ Below W0.heap.size W0 w' := by
  obtain ⟨e1, e2⟩ := levN_eq hg h0 h1
  have p1 := pow_le_32 e2
  have p2 := pow4_le e2
  refine (c_l3Cells hg a ca W0 ha (levN F q.toNat) q 0 0 v out w W0.heap.size h0 h1 e1 (by omega) (by omega) (by omega) (by omega) hB (Nat.le_refl _) hB.size hO (by omega)).mono ?_
  rintro e w' ⟨v', he, hO', hG, _⟩
  refine ⟨v', he, ?_, hB.grown hG hB.size fun k hk => (hO.lt k hk).1⟩
  rw [hL]; exact hO'
theorem cellsOfQ_le {F : List Qd} (hg : goodF F = true) {q : Nat} (hq : q < F.length) : (cellsOfQ F q).length ≤ 1024 := by
  have h1 := cellsL_len F (levN F q) q 0 0
  have h2 := pow4_le (levN_le hg hq).1
  unfold cellsOfQ; omega
theorem dropL_le (l m : List Cl) : (dropL l m).length ≤ l.length := List.length_filter_le _ _

set_option maxHeartbeats 2000000 in
set_option maxRecDepth 100000 in
theorem c_l4Two (a : Option Addr) (F : List Qd) (ca : Nat) (x y : Int) (w : World) (ha : QSeg w a F) (hl : F.length ≤ 1048576) (hk : KidsLe F) (hca : F.length ≤ ca) (hcm : ca ≤ 9223372036854775807) :
    Calls Try.prog 115 #[.agg #[.slice a F.length ca], .int .i64 x, .int .i64 y] w fun e w' => e = .returned (.bool (twoOK F x y)) ∧ Below w.heap.size w w' := by
  have B1 := hid ((Bx.nil w).add (by simp) #[.slice a F.length ca] 25)
  have x1 := B1.out.cell 0 0 (v := .slice a F.length ca) rfl rfl
  rw [Nat.add_zero] at x1
  have hlt1 := B1.out.lt 0 (by simp)
  rw [Nat.add_zero] at hlt1
  have g1 := fun z : Gr (w.alloc (.cells #[.slice a F.length ca] 25)) => z.cell x1 hlt1
  have hne := Gr.ne (w.alloc (.cells #[.slice a F.length ca] 25))
  have QZ := hid (fun z : Gr (w.alloc (.cells #[.slice a F.length ca] 25)) => (ha.below B1.out.2.2).below z.below)
  have BZ := hid (fun z : Gr (w.alloc (.cells #[.slice a F.length ca] 25)) => (B1.out.step z.below).2.2)
  cases hx : thereB F x
  · have HC := hid (fun z => c_l3There' a F ca x false hx _ (QZ.out z) hl hk hca hcm)
    have HV := hid (show twoOK F x y = false by simp [twoOK, hx])
    clear hx ha x1
    go_enter Try.func115, Try.ntmps115
    go_wp2_with fail
    refine wp_region_gr (by kernel_rfl) (by kernel_rfl) ?_
    repeat (go_big_quiet_step (first | (go_at_call 92; exact Calls.gr _ (HC.out _))))
    refine wpQuiet_nil ?_
    rintro _ ⟨z, rfl⟩
    have HBB := hid (BZ.out z)
    clear g1 hne
    go_wp2_with fail
    go_ret
    exact ⟨ret_bool HV.out.symm, HBB.out⟩
  · have HC := hid (fun z => c_l3There' a F ca x true hx _ (QZ.out z) hl hk hca hcm)
    cases hy : thereB F y
    · have HD := hid (fun z => c_l3There' a F ca y false hy _ (QZ.out z) hl hk hca hcm)
      have HV := hid (show twoOK F x y = false by simp [twoOK, hx, hy])
      clear hx hy ha x1
      go_enter Try.func115, Try.ntmps115
      go_wp2_with fail
      refine wp_region_gr (by kernel_rfl) (by kernel_rfl) ?_
      repeat (go_big_quiet_step (first | (go_at_call 92; first | with_reducible exact Calls.gr _ (HC.out _) | with_reducible exact Calls.gr _ (HD.out _) | exact Calls.gr _ (HC.out _) | exact Calls.gr _ (HD.out _))))
      refine wpQuiet_nil ?_
      rintro _ ⟨z, rfl⟩
      have HBB := hid (BZ.out z)
      clear g1 hne
      go_wp2_with fail
      go_ret
      exact ⟨ret_bool HV.out.symm, HBB.out⟩
    · have HD := hid (fun z => c_l3There' a F ca y true hy _ (QZ.out z) hl hk hca hcm)
      obtain ⟨hg, i0, i1⟩ := there_bd hx
      obtain ⟨_, j0, j1⟩ := there_bd hy
      obtain ⟨b1, o1, ak, ck, rfl, hb1, p1, _⟩ := ha x.toNat (by omega)
      obtain ⟨b2, o2, ak2, ck2, e12, hb2, p2, _⟩ := ha y.toNat (by omega)
      simp only [Option.some.injEq, Addr.mk.injEq, and_true] at e12
      obtain ⟨rfl, rfl⟩ := e12
      have HV := hid (show twoOK F x y = decide ((qa F x.toNat).1 = (qa F y.toNat).1) by simp [twoOK, hx, hy])
      have y2 := (B1.out.2.2.cell (p := ⟨b1, o1 + x.toNat * 2, none⟩) hb1).trans p1
      have z2 := (B1.out.2.2.cell (p := ⟨b1, o1 + y.toNat * 2, none⟩) hb1).trans p2
      have hb1' := Nat.lt_of_lt_of_le hb1 B1.out.2.2.size
      have g2 := fun z : Gr (w.alloc (.cells #[.slice (some ⟨b1, o1, none⟩) F.length ca] 25)) => z.cell y2 hb1'
      have g3 := fun z : Gr (w.alloc (.cells #[.slice (some ⟨b1, o1, none⟩) F.length ca] 25)) => z.cell z2 hb1'
      clear hx hy ha p1 p2 hb1 hb2 hg x1 y2 z2 hb1'
      rw [HV.out]
      generalize (qa F x.toNat).1 = lx at *
      generalize (qa F y.toNat).1 = ly at *
      clear HV
      go_enter Try.func115, Try.ntmps115
      go_wp2_with fail
      refine wp_region_gr (by kernel_rfl) (by kernel_rfl) ?_
      repeat (go_big_quiet_step (first | (go_at_call 92; first | with_reducible exact Calls.gr _ (HC.out _) | with_reducible exact Calls.gr _ (HD.out _) | exact Calls.gr _ (HC.out _) | exact Calls.gr _ (HD.out _))))
      refine wpQuiet_nil ?_
      rintro _ ⟨z, rfl⟩
      have HBB := hid (BZ.out z)
      clear g1 g2 g3 hne
      go_wp2_with fail
      go_ret
      first | exact ⟨rfl, HBB.out⟩ | exact ⟨ret_bool (by simp), HBB.out⟩ | exact ⟨ret_bool (by by_cases e : lx = ly <;> simp [e]), HBB.out⟩
theorem c_l4Two' (a : Option Addr) (F : List Qd) (ca : Nat) (x y : Int) (v : Bool) (hv : twoOK F x y = v) (w : World) (ha : QSeg w a F) (hl : F.length ≤ 1048576) (hk : KidsLe F) (hca : F.length ≤ ca) (hcm : ca ≤ 9223372036854775807) :
    Calls Try.prog 115 #[.agg #[.slice a F.length ca], .int .i64 x, .int .i64 y] w fun e w' => e = .returned (.bool v) ∧ Below w.heap.size w w' := by
  rw [← hv]; exact c_l4Two a F ca x y w ha hl hk hca hcm

set_option maxHeartbeats 4000000 in
set_option maxRecDepth 100000 in
theorem c_sUnionOf (a : Option Addr) (F : List Qd) (ca : Nat) (q q2 : Int) (w : World) (ha : QSeg w a F) (hl : F.length ≤ 1048576) (hk : KidsLe F) (hca : F.length ≤ ca) (hcm : ca ≤ 9223372036854775807) (hnc : NoneCap w a F) :
    Calls Try.prog 54 #[.agg #[.slice a F.length ca], .int .i64 q, .int .i64 q2] w fun e w' => ∃ u, e = .returned (.tuple #[.agg #[u], .int .i64 (ansQ (twoOK F q q2) (uniR F q q2)), .bool (ansB (twoOK F q q2) (uniR F q q2))]) ∧ GF w' w.heap.size u (ansF (twoOK F q q2) (uniR F q q2)) ∧ Below w.heap.size w w' := by
  have B1 := (Bx.nil w).add (by simp) #[.slice a F.length ca] 25
  have B2 := hid (B1.add (by simp) #[.slice none 0 0] 25)
  have Q2 := hid (ha.below B2.out.2.2)
  have N2 := hid (hnc.below ha B2.out.2.2)
  clear B1 hnc
  have x0 := B2.out.cell 0 0 (v := .slice a F.length ca) rfl rfl
  rw [Nat.add_zero] at x0
  have fin : ∀ W : World, Below w.heap.size w W → ∃ u, Ending.returned (.tuple #[.agg #[.slice none 0 0], .int .i64 0, .bool false]) = .returned (.tuple #[.agg #[u], .int .i64 0, .bool false]) ∧ GF W w.heap.size u [] ∧ Below w.heap.size w W := fun W h => ⟨_, rfl, GF.nil _ _, h⟩
  cases hok : twoOK F q q2
  · have HC := hid (c_l4Two' a F ca q q2 false hok _ Q2.out hl hk hca hcm)
    have HV := hid (rfl : false = false)
    clear hok ha
    go_enter Try.func54, Try.ntmps54
    go_wp2_with fail
    refine HC.out.mono ?_
    rintro e w3 ⟨rfl, hb⟩
    have B3 := hid (B2.out.step hb)
    clear HC hb
    have R9 := B3.out.row 1 (v := .slice none 0 0) (t := 25) rfl
    have r0 := R9.cell (i := 0) (by omega)
    have f0 := R9.frozen 0
    have E0 := hid ((R9.set 0 (.slice none 0 0)).cell (i := 0) (by omega))
    simp only [if_true] at E0
    have HB := hid (B3.out.2.2.setCell (p := ⟨w.heap.size + 1, 0, none⟩) (by dsimp only; omega) (.slice none 0 0))
    clear R9
    go_wp2_with fail
    rw [(ans_no _).1, (ans_no _).2.1, (ans_no _).2.2]
    exact bodyPost_ret (v := .tuple #[.agg #[.slice none 0 0], .int .i64 0, .bool false]) (by simp [results, Try.results54, go_sem, E0.out]) rfl (fin _ HB.out)
  · have HC := hid (c_l4Two' a F ca q q2 true hok _ Q2.out hl hk hca hcm)
    have hok' := hok
    simp only [twoOK, Bool.and_eq_true, decide_eq_true_eq] at hok'
    obtain ⟨⟨hta, htb⟩, hlv2⟩ := hok'
    obtain ⟨hg, h0, h1⟩ := there_bd hta
    obtain ⟨_, k0, k1⟩ := there_bd htb
    obtain ⟨hn5, hlevN⟩ := levN_le hg (show q.toNat < F.length by omega)
    obtain ⟨b1, o1, ak, ck, rfl, hb1, p1, _⟩ := ha q.toNat (by omega)
    have hb1' := hb1
    have LA := cellsOfQ_le hg (show q.toNat < F.length by omega)
    have LB := cellsOfQ_le hg (show q2.toNat < F.length by omega)
    obtain ⟨LST, hLST⟩ : ∃ L, L = cellsOfQ F q.toNat ++ cellsOfQ F q2.toNat := ⟨_, rfl⟩
    have HLST := hid hLST
    have HLEN := hid (show LST.length ≤ 1048576 by rw [hLST]; rw [List.length_append]; omega)
    have HTL : Hid (∀ (W : World) (la : Option Addr) (lca : Nat), QSeg W (some ⟨b1, o1, none⟩) F → NoneCap W (some ⟨b1, o1, none⟩) F → Seg W la LST → Calls Try.prog 107 #[.agg #[.slice (some ⟨b1, o1, none⟩) F.length ca], .int .i64 (qa F q.toNat).1, .slice la LST.length lca] W fun e w' => ∃ u, e = .returned (.tuple #[.agg #[u], .int .i64 (tellQ (uniR F q q2).1 ((uniR F q q2).2 : Int)), .bool (tellB (uniR F q q2).1)]) ∧ GF w' W.heap.size u (tellF (uniR F q q2).1) ∧ Below W.heap.size W w') := by
      intro W la lca hQ hN hS
      have := c_l4Tell hg (some ⟨b1, o1, none⟩) ca (levN F q.toNat) hn5 la LST lca W hQ hN hS HLEN.out
      rw [← hlevN] at this
      have e : uniR F q q2 = treeL LST (levN F q.toNat) 0 0 F := by rw [hLST]; rfl
      rw [← e] at this
      exact this
    have HL1 := hid (fun (W : World) (hQ : QSeg W (some ⟨b1, o1, none⟩) F) => c_l3CellsAll hg (some ⟨b1, o1, none⟩) ca q W hQ h0 h1)
    have HL2 := hid (fun (W0 W : World) (v : Value) (hQ : QSeg W0 (some ⟨b1, o1, none⟩) F) (hB : Below W0.heap.size W0 W) (hO : OwnS W W0.heap.size v (cellsOfQ F q.toNat)) => c_l3CellsMore hg (some ⟨b1, o1, none⟩) ca q2 W0 W v (cellsOfQ F q.toNat) LST HLST.out hQ k0 k1 hB hO LA)
    have HLA := hid LA
    have HLB := hid LB
    generalize (qa F q.toNat).1 = lv at *
    generalize hRR : uniR F q q2 = RR at *
    generalize cellsOfQ F q.toNat = CA at *
    generalize cellsOfQ F q2.toNat = CB at *
    have T1 := hid (rfl : 0 = 0)
    clear hRR hok hta htb hlv2 hg ha hlevN hn5 LA LB hLST
    go_enter Try.func54, Try.ntmps54
    go_wp2_with fail
    refine HC.out.mono ?_
    rintro e w3 ⟨rfl, hb⟩
    have B3 := hid (B2.out.step hb)
    have bd := (Below.refl w3.heap.size w3).drew
    have B4 := hid (B3.out.step bd)
    have Q4 := hid ((Q2.out.below hb).below bd)
    have N4 := hid ((N2.out.below Q2.out hb).below (Q2.out.below hb) bd)
    have x4 := B4.out.cell 0 0 (v := .slice (some ⟨b1, o1, none⟩) F.length ca) rfl rfl
    rw [Nat.add_zero] at x4
    have y4 := (B4.out.2.2.cell (p := ⟨b1, o1 + q.toNat * 2, none⟩) hb1).trans p1
    have S4 := hid (⟨x4, y4⟩ : _ ∧ _)
    have HSZ4 := hid (⟨B4.out.lt 0 (by simp), Nat.lt_of_lt_of_le hb1 B4.out.2.2.size⟩ : w.heap.size + 0 < w3.drew.heap.size ∧ b1 < w3.drew.heap.size)
    have keep : Hid (∀ W : World, Below w3.drew.heap.size w3.drew W → W.cell? ⟨w.heap.size, 0, none⟩ = some (.slice (some ⟨b1, o1, none⟩) F.length ca) ∧ W.cell? ⟨b1, o1 + q.toNat * 2, none⟩ = some (.int .i64 lv)) := fun W h => ⟨(h.cell (p := ⟨w.heap.size, 0, none⟩) (by have := HSZ4.out.1; simpa using this)).trans S4.out.1, (h.cell (p := ⟨b1, o1 + q.toNat * 2, none⟩) HSZ4.out.2).trans S4.out.2⟩
    clear HC hb bd x0 p1 x4 y4
    go_wp2_with fail
    go_region_held3 (fun W => W.cell? ⟨w.heap.size, 0, none⟩ = some (.slice (some ⟨b1, o1, none⟩) F.length ca) ∧ W.cell? ⟨b1, o1 + q.toNat * 2, none⟩ = some (.int .i64 lv))
      (first | exact S4.out | exact S5.out | exact S6.out | exact S6b.out | exact S7.out | exact S8.out | go_keep)
      (first
        | (go_at_call 94; clear T1; refine (HL1.out _ Q4.out).mono ?_; rintro e w5 ⟨v5, rfl, hO5, hb5⟩; have HO5 := hid hO5; obtain ⟨a5, c5, rfl, hS5⟩ := hO5.form; have HSS5 := hid hS5; have S5 := hid (keep.out w5 hb5))
        | (go_at_call 94; refine (HL2.out _ w5 _ Q4.out hb5 HO5.out).mono ?_; rintro e w6 ⟨v6, rfl, hO6, hb6⟩; obtain ⟨a6, c6, rfl, hS6⟩ := hO6.form; have S6s := hid hS6; have S6 := hid (keep.out w6 hb6))
        | (go_at_call 107; refine (HTL.out w6 a6 c6 (Q4.out.below hb6) (N4.out.below Q4.out hb6) S6s.out).mono ?_; rintro e w7 ⟨u7, rfl, hG7, hb7⟩; have HG7 := hid hG7; obtain ⟨ua7, uc7, rfl, _⟩ := hG7.form; have bb7 := hb6.trans (hb7.mono hb6.size); have B7 := hid (B4.out.step bb7); have S7 := hid (keep.out w7 bb7); have R7 := B7.out.row 1 (v := .slice none 0 0) (t := 25) rfl; have r0 := R7.cell (i := 0) (by omega); have f0 := R7.frozen 0; have S8 := hid (⟨cell_other S7.out.1 (show (⟨w.heap.size + 1, 0, none⟩ : Addr).block ≠ (⟨w.heap.size, 0, none⟩ : Addr).block by dsimp only; omega) (.slice ua7 (tellF RR.1).length uc7), cell_other S7.out.2 (show (⟨w.heap.size + 1, 0, none⟩ : Addr).block ≠ (⟨b1, o1 + q.toNat * 2, none⟩ : Addr).block by dsimp only; omega) (.slice ua7 (tellF RR.1).length uc7)⟩ : _ ∧ _)))
    have E0 := hid ((R7.set 0 (.slice ua7 (tellF RR.1).length uc7)).cell (i := 0) (by omega))
    simp only [if_true] at E0
    have HG9 := hid ((HG7.out.setRow (o := 0) R7 (by decide) (by decide) (.slice ua7 (tellF RR.1).length uc7)).mono (show w.heap.size ≤ _ from Nat.le_trans B4.out.2.2.size hb6.size))
    have HB9 := hid (B7.out.2.2.setCell (p := ⟨w.heap.size + 1, 0, none⟩) (by dsimp only; omega) (.slice ua7 (tellF RR.1).length uc7))
    clear R7 r0 f0 hG7
    go_wp2_with fail
    rw [(ans_yes _).1, (ans_yes _).2.1, (ans_yes _).2.2]
    exact bodyPost_ret (v := .tuple #[.agg #[.slice ua7 (tellF RR.1).length uc7], .int .i64 (tellQ RR.1 (RR.2 : Int)), .bool (tellB RR.1)]) (by simp [results, Try.results54, go_sem, E0.out]) rfl ⟨.slice ua7 (tellF RR.1).length uc7, rfl, HG9.out, HB9.out⟩

set_option maxHeartbeats 4000000 in
set_option maxRecDepth 100000 in
theorem c_sWithoutOf (a : Option Addr) (F : List Qd) (ca : Nat) (q q2 : Int) (w : World) (ha : QSeg w a F) (hl : F.length ≤ 1048576) (hk : KidsLe F) (hca : F.length ≤ ca) (hcm : ca ≤ 9223372036854775807) (hnc : NoneCap w a F) :
    Calls Try.prog 56 #[.agg #[.slice a F.length ca], .int .i64 q, .int .i64 q2] w fun e w' => ∃ u, e = .returned (.tuple #[.agg #[u], .int .i64 (ansQ (twoOK F q q2) (witR F q q2)), .bool (ansB (twoOK F q q2) (witR F q q2))]) ∧ GF w' w.heap.size u (ansF (twoOK F q q2) (witR F q q2)) ∧ Below w.heap.size w w' := by
  have B1 := (Bx.nil w).add (by simp) #[.slice a F.length ca] 25
  have B2 := hid (B1.add (by simp) #[.slice none 0 0] 25)
  have Q2 := hid (ha.below B2.out.2.2)
  have N2 := hid (hnc.below ha B2.out.2.2)
  clear B1 hnc
  have x0 := B2.out.cell 0 0 (v := .slice a F.length ca) rfl rfl
  rw [Nat.add_zero] at x0
  have fin : ∀ W : World, Below w.heap.size w W → ∃ u, Ending.returned (.tuple #[.agg #[.slice none 0 0], .int .i64 0, .bool false]) = .returned (.tuple #[.agg #[u], .int .i64 0, .bool false]) ∧ GF W w.heap.size u [] ∧ Below w.heap.size w W := fun W h => ⟨_, rfl, GF.nil _ _, h⟩
  cases hok : twoOK F q q2
  · have HC := hid (c_l4Two' a F ca q q2 false hok _ Q2.out hl hk hca hcm)
    have HV := hid (rfl : false = false)
    clear hok ha
    go_enter Try.func56, Try.ntmps56
    go_wp2_with fail
    refine HC.out.mono ?_
    rintro e w3 ⟨rfl, hb⟩
    have B3 := hid (B2.out.step hb)
    clear HC hb
    have R9 := B3.out.row 1 (v := .slice none 0 0) (t := 25) rfl
    have r0 := R9.cell (i := 0) (by omega)
    have f0 := R9.frozen 0
    have E0 := hid ((R9.set 0 (.slice none 0 0)).cell (i := 0) (by omega))
    simp only [if_true] at E0
    have HB := hid (B3.out.2.2.setCell (p := ⟨w.heap.size + 1, 0, none⟩) (by dsimp only; omega) (.slice none 0 0))
    clear R9
    go_wp2_with fail
    rw [(ans_no _).1, (ans_no _).2.1, (ans_no _).2.2]
    exact bodyPost_ret (v := .tuple #[.agg #[.slice none 0 0], .int .i64 0, .bool false]) (by simp [results, Try.results56, go_sem, E0.out]) rfl (fin _ HB.out)
  · have HC := hid (c_l4Two' a F ca q q2 true hok _ Q2.out hl hk hca hcm)
    have hok' := hok
    simp only [twoOK, Bool.and_eq_true, decide_eq_true_eq] at hok'
    obtain ⟨⟨hta, htb⟩, hlv2⟩ := hok'
    obtain ⟨hg, h0, h1⟩ := there_bd hta
    obtain ⟨_, k0, k1⟩ := there_bd htb
    obtain ⟨hn5, hlevN⟩ := levN_le hg (show q.toNat < F.length by omega)
    obtain ⟨b1, o1, ak, ck, rfl, hb1, p1, _⟩ := ha q.toNat (by omega)
    have hb1' := hb1
    have LA := cellsOfQ_le hg (show q.toNat < F.length by omega)
    have LB := cellsOfQ_le hg (show q2.toNat < F.length by omega)
    obtain ⟨LST, hLST⟩ : ∃ L, L = dropL (cellsOfQ F q.toNat) (cellsOfQ F q2.toNat) := ⟨_, rfl⟩
    have HLST := hid hLST
    have HLEN := hid (show LST.length ≤ 1048576 by rw [hLST]; have := dropL_le (cellsOfQ F q.toNat) (cellsOfQ F q2.toNat); omega)
    have HTL : Hid (∀ (W : World) (la : Option Addr) (lca : Nat), QSeg W (some ⟨b1, o1, none⟩) F → NoneCap W (some ⟨b1, o1, none⟩) F → Seg W la LST → Calls Try.prog 107 #[.agg #[.slice (some ⟨b1, o1, none⟩) F.length ca], .int .i64 (qa F q.toNat).1, .slice la LST.length lca] W fun e w' => ∃ u, e = .returned (.tuple #[.agg #[u], .int .i64 (tellQ (witR F q q2).1 ((witR F q q2).2 : Int)), .bool (tellB (witR F q q2).1)]) ∧ GF w' W.heap.size u (tellF (witR F q q2).1) ∧ Below W.heap.size W w') := by
      intro W la lca hQ hN hS
      have := c_l4Tell hg (some ⟨b1, o1, none⟩) ca (levN F q.toNat) hn5 la LST lca W hQ hN hS HLEN.out
      rw [← hlevN] at this
      have e : witR F q q2 = treeL LST (levN F q.toNat) 0 0 F := by rw [hLST]; rfl
      rw [← e] at this
      exact this
    have HL1 := hid (fun (W : World) (hQ : QSeg W (some ⟨b1, o1, none⟩) F) => c_l3CellsAll hg (some ⟨b1, o1, none⟩) ca q W hQ h0 h1)
    have HL2 := hid (fun (W : World) (hQ : QSeg W (some ⟨b1, o1, none⟩) F) => c_l3CellsAll hg (some ⟨b1, o1, none⟩) ca q2 W hQ k0 k1)
    have HDR : Hid (∀ (W : World) (aa bb : Option Addr) (cc dd : Nat), Seg W aa (cellsOfQ F q.toNat) → Seg W bb (cellsOfQ F q2.toNat) → Calls Try.prog 106 #[.slice aa (cellsOfQ F q.toNat).length cc, .slice bb (cellsOfQ F q2.toNat).length dd] W fun e w' => ∃ v, e = .returned v ∧ OwnS w' W.heap.size v LST ∧ Below W.heap.size W w') := by
      intro W aa bb cc dd s1 s2
      rw [HLST.out]
      exact c_l4Drop aa _ cc bb _ dd W s1 (by omega) s2 (by omega)
    have HLA := hid LA
    have HLB := hid LB
    generalize (qa F q.toNat).1 = lv at *
    generalize hRR : witR F q q2 = RR at *
    generalize cellsOfQ F q.toNat = CA at *
    generalize cellsOfQ F q2.toNat = CB at *
    have T1 := hid (rfl : 0 = 0)
    clear hRR hok hta htb hlv2 hg ha hlevN hn5 LA LB hLST
    go_enter Try.func56, Try.ntmps56
    go_wp2_with fail
    refine HC.out.mono ?_
    rintro e w3 ⟨rfl, hb⟩
    have B3 := hid (B2.out.step hb)
    have bd := (Below.refl w3.heap.size w3).drew
    have B4 := hid (B3.out.step bd)
    have Q4 := hid ((Q2.out.below hb).below bd)
    have N4 := hid ((N2.out.below Q2.out hb).below (Q2.out.below hb) bd)
    have x4 := B4.out.cell 0 0 (v := .slice (some ⟨b1, o1, none⟩) F.length ca) rfl rfl
    rw [Nat.add_zero] at x4
    have y4 := (B4.out.2.2.cell (p := ⟨b1, o1 + q.toNat * 2, none⟩) hb1).trans p1
    have S4 := hid (⟨x4, y4⟩ : _ ∧ _)
    have HSZ4 := hid (⟨B4.out.lt 0 (by simp), Nat.lt_of_lt_of_le hb1 B4.out.2.2.size⟩ : w.heap.size + 0 < w3.drew.heap.size ∧ b1 < w3.drew.heap.size)
    have keep : Hid (∀ W : World, Below w3.drew.heap.size w3.drew W → W.cell? ⟨w.heap.size, 0, none⟩ = some (.slice (some ⟨b1, o1, none⟩) F.length ca) ∧ W.cell? ⟨b1, o1 + q.toNat * 2, none⟩ = some (.int .i64 lv)) := fun W h => ⟨(h.cell (p := ⟨w.heap.size, 0, none⟩) (by have := HSZ4.out.1; simpa using this)).trans S4.out.1, (h.cell (p := ⟨b1, o1 + q.toNat * 2, none⟩) HSZ4.out.2).trans S4.out.2⟩
    clear HC hb bd x0 p1 x4 y4
    go_wp2_with fail
    go_region_held3 (fun W => W.cell? ⟨w.heap.size, 0, none⟩ = some (.slice (some ⟨b1, o1, none⟩) F.length ca) ∧ W.cell? ⟨b1, o1 + q.toNat * 2, none⟩ = some (.int .i64 lv))
      (first | exact S4.out | exact S5.out | exact S6.out | exact S6b.out | exact S7.out | exact S8.out | go_keep)
      (first
        | (go_at_call 94; clear T1; refine (HL1.out _ Q4.out).mono ?_; rintro e w5 ⟨v5, rfl, hO5, hb5⟩; have HO5 := hid hO5; obtain ⟨a5, c5, rfl, hS5⟩ := hO5.form; have HSS5 := hid hS5; have S5 := hid (keep.out w5 hb5))
        | (go_at_call 94; refine (HL2.out _ (Q4.out.below hb5)).mono ?_; rintro e w5b ⟨v5b, rfl, hO5b, hb5b⟩; obtain ⟨a5b, c5b, rfl, hS5b⟩ := hO5b.form; have HSS5b := hid hS5b; have HSS5c := hid (HSS5.out.below hb5b); have hb5c := hb5.trans (hb5b.mono hb5.size); have S6b := hid (keep.out w5b hb5c))
        | (go_at_call 106; refine (HDR.out w5b _ _ _ _ HSS5c.out HSS5b.out).mono ?_; rintro e w6 ⟨v6, rfl, hO6, hb6d⟩; obtain ⟨a6, c6, rfl, hS6⟩ := hO6.form; have S6s := hid hS6; have hb6 := hb5c.trans (hb6d.mono hb5c.size); have S6 := hid (keep.out w6 hb6))
        | (go_at_call 107; refine (HTL.out w6 a6 c6 (Q4.out.below hb6) (N4.out.below Q4.out hb6) S6s.out).mono ?_; rintro e w7 ⟨u7, rfl, hG7, hb7⟩; have HG7 := hid hG7; obtain ⟨ua7, uc7, rfl, _⟩ := hG7.form; have bb7 := hb6.trans (hb7.mono hb6.size); have B7 := hid (B4.out.step bb7); have S7 := hid (keep.out w7 bb7); have R7 := B7.out.row 1 (v := .slice none 0 0) (t := 25) rfl; have r0 := R7.cell (i := 0) (by omega); have f0 := R7.frozen 0; have S8 := hid (⟨cell_other S7.out.1 (show (⟨w.heap.size + 1, 0, none⟩ : Addr).block ≠ (⟨w.heap.size, 0, none⟩ : Addr).block by dsimp only; omega) (.slice ua7 (tellF RR.1).length uc7), cell_other S7.out.2 (show (⟨w.heap.size + 1, 0, none⟩ : Addr).block ≠ (⟨b1, o1 + q.toNat * 2, none⟩ : Addr).block by dsimp only; omega) (.slice ua7 (tellF RR.1).length uc7)⟩ : _ ∧ _)))
    have E0 := hid ((R7.set 0 (.slice ua7 (tellF RR.1).length uc7)).cell (i := 0) (by omega))
    simp only [if_true] at E0
    have HG9 := hid ((HG7.out.setRow (o := 0) R7 (by decide) (by decide) (.slice ua7 (tellF RR.1).length uc7)).mono (show w.heap.size ≤ _ from Nat.le_trans B4.out.2.2.size hb6.size))
    have HB9 := hid (B7.out.2.2.setCell (p := ⟨w.heap.size + 1, 0, none⟩) (by dsimp only; omega) (.slice ua7 (tellF RR.1).length uc7))
    clear R7 r0 f0 hG7
    go_wp2_with fail
    rw [(ans_yes _).1, (ans_yes _).2.1, (ans_yes _).2.2]
    exact bodyPost_ret (v := .tuple #[.agg #[.slice ua7 (tellF RR.1).length uc7], .int .i64 (tellQ RR.1 (RR.2 : Int)), .bool (tellB RR.1)]) (by simp [results, Try.results56, go_sem, E0.out]) rfl ⟨.slice ua7 (tellF RR.1).length uc7, rfl, HG9.out, HB9.out⟩

end Go.Proofs.Ytmapbkefndbnnaa

namespace Go.Proofs.Ytmapbkefndbnnaa
open Go.RowKit
set_option linter.unusedVariables false
set_option linter.unusedSimpArgs false
attribute [local go_sem ↓] Go.wp_at_zero Go.wp_at_succ

set_option maxHeartbeats 4000000 in
set_option maxRecDepth 100000 in
theorem c_mergeQuads (f : Nat) (R : List Qd × Nat) (a : Option Addr) (F : List Qd) (ca : Nat) (q q2 : Int) (w : World) (ha : QSeg w a F) (hl : F.length ≤ 1048576) (hk : KidsLe F) (hca : F.length ≤ ca) (hcm : ca ≤ 9223372036854775807) (ok : Bool) (hok : twoOK F q q2 = ok)
    (hR : ok = true → Grows R.1 ∧ R.1.length ≤ 10000 ∧ ∀ (W : World) (base p g cap mb : Nat), Grv W base p g cap mb F → Calls Try.prog 142 #[.pointer (some ⟨p, 0, none⟩), .int .i64 q, .int .i64 q2, .func (.func f) #[] #[]] W fun e w' => ∃ g' cap', e = .returned (.int .i64 (R.2 : Int)) ∧ Grv w' base p g' cap' mb R.1 ∧ Below base W w') :
    Calls Try.prog 113 #[.agg #[.slice a F.length ca], .int .i64 q, .int .i64 q2, .func (.func f) #[] #[]] w fun e w' => ∃ u, e = .returned (.tuple #[.agg #[u], .int .i64 (ansQ ok R), .bool (ansB ok R)]) ∧ FOwn w' w.heap.size w'.heap.size u (ansF ok R) ∧ Below w.heap.size w w' := by
  have B1 := (Bx.nil w).add (by simp) #[.slice a F.length ca] 25
  have B2 := hid (B1.add (by simp) #[.slice none 0 0] 25)
  have Q2 := hid (ha.below B2.out.2.2)
  clear B1 ha
  have x0 := B2.out.cell 0 0 (v := .slice a F.length ca) rfl rfl
  rw [Nat.add_zero] at x0
  have fin : ∀ W : World, Below w.heap.size w W → ∃ u, Ending.returned (.tuple #[.agg #[.slice none 0 0], .int .i64 0, .bool false]) = .returned (.tuple #[.agg #[u], .int .i64 0, .bool false]) ∧ FOwn W w.heap.size W.heap.size u [] ∧ Below w.heap.size w W := fun W h => ⟨_, rfl, .inl ⟨rfl, rfl⟩, h⟩
  have HC := hid (c_groveOf a F ca _ Q2.out hl hk hca hcm)
  have T1 := hid (rfl : 0 = 0)
  cases hg : goodF F
  · rw [hg] at HC
    have HV := hid (show ok = false by rw [← hok]; simp [twoOK, thereB, hg])
    clear hg hok hR
    go_enter Try.func113, Try.ntmps113
    go_wp2_with fail
    refine HC.out.mono ?_
    rintro e w3 ⟨pv, rfl, ho, hb⟩
    have B2b := hid (B2.out.step hb)
    have hne := Gr.ne w3
    clear ho HC hb x0
    go_wp2_with fail
    refine wp_region_gr (by kernel_rfl) (by kernel_rfl) ?_
    repeat (go_big_quiet_step (fail))
    refine wpQuiet_nil ?_
    rintro _ ⟨z, rfl⟩
    have B3 := hid (B2b.out.step z.below)
    clear hne
    have R9 := B3.out.row 1 (v := .slice none 0 0) (t := 25) rfl
    have r0 := R9.cell (i := 0) (by omega)
    have f0 := R9.frozen 0
    have E0 := hid ((R9.set 0 (.slice none 0 0)).cell (i := 0) (by omega))
    simp only [if_true] at E0
    have HB := hid (B3.out.2.2.setCell (p := ⟨w.heap.size + 1, 0, none⟩) (by dsimp only; omega) (.slice none 0 0))
    clear R9
    go_wp2_with fail
    rw [HV.out, (ans_no _).1, (ans_no _).2.1, (ans_no _).2.2]
    exact bodyPost_ret (v := .tuple #[.agg #[.slice none 0 0], .int .i64 0, .bool false]) (by simp [results, Try.results113, go_sem, E0.out]) rfl (fin _ HB.out)
  · rw [hg] at HC
    have HG := hid hg
    cases hq : inB 0 ((F.length : Int) - 1) q
    · have HV := hid (show ok = false by rw [← hok]; simp [twoOK, thereB, hq])
      have HE := hid (fun (W : World) (base p g cap mb : Nat) (h : Grv W base p g cap mb F) => by exact c_has' q _ W hq h)
      clear hok hR hg hq
      go_enter Try.func113, Try.ntmps113
      go_wp2_with fail
      refine HC.out.mono ?_
      rintro e w3 ⟨pv, rfl, ho, hb⟩
      have B2b := hid (B2.out.step hb)
      rcases ho with ⟨_, p, g, cap, mb, base, hbase, rfl, hGv⟩ | ⟨e, _⟩
      · have G3 := hid hGv
        have c3 := G3.out.c0
        have hpl := G3.out.box.lt
        have hgl := G3.out.lt.2
        have g1 := fun z : Gr w3 => z.cell c3 hpl
        have hne := Gr.ne w3
        have HEz := hid (fun z : Gr w3 => HE.out z.val base p g cap mb (G3.out.below z.below))
        clear HC hb hGv x0 c3
        go_wp2_with fail
        refine wp_region_gr (by kernel_rfl) (by kernel_rfl) ?_
        repeat (go_big_quiet_step (first | (go_at_call 88; exact Calls.gr _ (HEz.out _))))
        refine wpQuiet_nil ?_
        rintro _ ⟨z, rfl⟩
        have B3 := hid (B2b.out.step z.below)
        clear g1 hne
        have R9 := B3.out.row 1 (v := .slice none 0 0) (t := 25) rfl
        have r0 := R9.cell (i := 0) (by omega)
        have f0 := R9.frozen 0
        have E0 := hid ((R9.set 0 (.slice none 0 0)).cell (i := 0) (by omega))
        simp only [if_true] at E0
        have HB := hid (B3.out.2.2.setCell (p := ⟨w.heap.size + 1, 0, none⟩) (by dsimp only; omega) (.slice none 0 0))
        clear R9
        go_wp2_with fail
        rw [HV.out, (ans_no _).1, (ans_no _).2.1, (ans_no _).2.2]
        exact bodyPost_ret (v := .tuple #[.agg #[.slice none 0 0], .int .i64 0, .bool false]) (by simp [results, Try.results113, go_sem, E0.out]) rfl (fin _ HB.out)
      · rw [HG.out] at e; cases e
    · have HE := hid (fun (W : World) (base p g cap mb : Nat) (h : Grv W base p g cap mb F) => by exact c_has' q _ W hq h)
      cases hq2 : inB 0 ((F.length : Int) - 1) q2
      · have HV := hid (show ok = false by rw [← hok]; simp [twoOK, thereB, hq2])
        have HE2 := hid (fun (W : World) (base p g cap mb : Nat) (h : Grv W base p g cap mb F) => by exact c_has' q2 _ W hq2 h)
        clear hok hR hg hq hq2
        go_enter Try.func113, Try.ntmps113
        go_wp2_with fail
        refine HC.out.mono ?_
        rintro e w3 ⟨pv, rfl, ho, hb⟩
        have B2b := hid (B2.out.step hb)
        rcases ho with ⟨_, p, g, cap, mb, base, hbase, rfl, hGv⟩ | ⟨e, _⟩
        · have G3 := hid hGv
          have c3 := G3.out.c0
          have hpl := G3.out.box.lt
          have hgl := G3.out.lt.2
          have g1 := fun z : Gr w3 => z.cell c3 hpl
          have hne := Gr.ne w3
          have HEz := hid (fun z : Gr w3 => HE.out z.val base p g cap mb (G3.out.below z.below))
          clear HC hb hGv x0 c3
          go_wp2_with fail
          have HE2z := hid (fun z : Gr w3 => HE2.out z.val base p g cap mb (G3.out.below z.below))
          refine wp_region_gr (by kernel_rfl) (by kernel_rfl) ?_
          repeat (go_big_quiet_step (first | (go_at_call 88; first | with_reducible exact Calls.gr _ (HEz.out _) | with_reducible exact Calls.gr _ (HE2z.out _) | exact Calls.gr _ (HEz.out _) | exact Calls.gr _ (HE2z.out _))))
          refine wpQuiet_nil ?_
          rintro _ ⟨z, rfl⟩
          have B3 := hid (B2b.out.step z.below)
          clear g1 hne
          have R9 := B3.out.row 1 (v := .slice none 0 0) (t := 25) rfl
          have r0 := R9.cell (i := 0) (by omega)
          have f0 := R9.frozen 0
          have E0 := hid ((R9.set 0 (.slice none 0 0)).cell (i := 0) (by omega))
          simp only [if_true] at E0
          have HB := hid (B3.out.2.2.setCell (p := ⟨w.heap.size + 1, 0, none⟩) (by dsimp only; omega) (.slice none 0 0))
          clear R9
          go_wp2_with fail
          rw [HV.out, (ans_no _).1, (ans_no _).2.1, (ans_no _).2.2]
          exact bodyPost_ret (v := .tuple #[.agg #[.slice none 0 0], .int .i64 0, .bool false]) (by simp [results, Try.results113, go_sem, E0.out]) rfl (fin _ HB.out)
        · rw [HG.out] at e; cases e
      · have HE2 := hid (fun (W : World) (base p g cap mb : Nat) (h : Grv W base p g cap mb F) => by exact c_has' q2 _ W hq2 h)
        have hqb := inB_bd hq
        have hqb2 := inB_bd hq2
        have i0 : 0 ≤ q := by omega
        have i1 : q < (F.length : Int) := by omega
        have j0 : 0 ≤ q2 := by omega
        have j1 : q2 < (F.length : Int) := by omega
        obtain ⟨lx, hlx⟩ : ∃ lx, (qa F q.toNat).1 = lx := ⟨_, rfl⟩
        obtain ⟨ly, hly⟩ : ∃ ly, (qa F q2.toNat).1 = ly := ⟨_, rfl⟩
        by_cases hne : lx = ly
        · have HV := hid (show ok = true by rw [← hok]; simp [twoOK, thereB, hq, hq2, hg, hlx, hly, hne])
          obtain ⟨hGR, hLR, hcall⟩ := hR HV.out
          have HGR := hid hGR
          have HLR := hid (show R.1.length ≤ 100000 by omega)
          have HCALL := hid hcall
          have HLX := hid hlx
          have HLY := hid hly
          have hd : (lx != ly) = false := by simp [hne]
          clear hok hR hg hq hq2 hGR hLR hcall hne hlx hly
          go_enter Try.func113, Try.ntmps113
          go_wp2_with fail
          refine HC.out.mono ?_
          rintro e w3 ⟨pv, rfl, ho, hb⟩
          have B2b := hid (B2.out.step hb)
          rcases ho with ⟨_, p, g, cap, mb, base, hbase, rfl, hGv⟩ | ⟨e, _⟩
          · have G3 := hid hGv
            have c3 := G3.out.c0
            have hpl := G3.out.box.lt
            have hgl := G3.out.lt.2
            have g1 := fun z : Gr w3 => z.cell c3 hpl
            have hne := Gr.ne w3
            have HEz := hid (fun z : Gr w3 => HE.out z.val base p g cap mb (G3.out.below z.below))
            clear HC hb hGv x0 c3
            have HBS := hid (show w.heap.size + 2 ≤ base from Nat.le_trans B2.out.2.1 hbase)
            have y3 := G3.out.lev (show q.toNat < F.length by omega)
            have z3 := G3.out.lev (show q2.toNat < F.length by omega)
            rw [HLX.out] at y3
            rw [HLY.out] at z3
            have g2 := fun z : Gr w3 => z.cell y3 hgl
            have g3 := fun z : Gr w3 => z.cell z3 hgl
            clear hbase y3 z3
            go_wp2_with fail
            have HE2z := hid (fun z : Gr w3 => HE2.out z.val base p g cap mb (G3.out.below z.below))
            refine wp_region_gr (by kernel_rfl) (by kernel_rfl) ?_
            repeat (go_big_quiet_step (first | (go_at_call 88; first | with_reducible exact Calls.gr _ (HEz.out _) | with_reducible exact Calls.gr _ (HE2z.out _) | exact Calls.gr _ (HEz.out _) | exact Calls.gr _ (HE2z.out _))))
            refine wpQuiet_nil ?_
            rintro _ ⟨z, rfl⟩
            have B3 := hid (B2b.out.step z.below)
            clear g1 hne
            have G3z := hid (G3.out.below z.below)
            clear g2 g3
            go_wp2_with fail
            refine (HCALL.out _ _ _ _ _ _ G3z.out).mono ?_
            rintro e w7 ⟨g7, cap7, rfl, hG7, hb7⟩
            have R7 := hid ((B3.out.row 1 (v := .slice none 0 0) (t := 25) rfl).of_block (hb7.block _ (show w.heap.size + 1 < base by have := HBS.out; omega)))
            have HB7 := hid (B3.out.2.2.trans (hb7.mono (show w.heap.size ≤ base by have := HBS.out; omega)))
            have HG7 := hid hG7
            clear hG7 hb7
            have HTL := hid (c_told (R.2 : Int) w7 HG7.out HGR.out HLR.out)
            go_wp2_with fail
            refine HTL.out.mono ?_
            rintro e w8 ⟨u8, rfl, hO8, hb8⟩
            have HO8 := hid hO8
            obtain ⟨ua8, uc8, rfl, _⟩ := hO8.form
            have R9 := R7.out.of_block (hb8.block _ R7.out.lt)
            have hlt7 := R7.out.lt
            have r0 := R9.cell (i := 0) (by omega)
            have f0 := R9.frozen 0
            have E0 := hid ((R9.set 0 (.slice ua8 (tellF R.1).length uc8)).cell (i := 0) (by omega))
            simp only [if_true] at E0
            have hs9 : (w8.setCell ⟨w.heap.size + 1, 0, none⟩ (.slice ua8 (tellF R.1).length uc8)).heap.size = w8.heap.size := by simp
            have hGW : Grew w8 (w8.setCell ⟨w.heap.size + 1, 0, none⟩ (.slice ua8 (tellF R.1).length uc8)) (w.heap.size + 1) (w.heap.size + 1 + 1) := (Grew.refl w8 _ _).set (Nat.le_refl _) (by omega) _
            have HO9 := hid ((HO8.out.kept hGW (by omega)).wide (lo' := w.heap.size) (hi' := w8.heap.size) (by omega) (Nat.le_refl _) (by rw [hs9]; exact Nat.le_refl _))
            have HB9 := hid ((HB7.out.trans (hb8.mono HB7.out.size)).setCell (p := ⟨w.heap.size + 1, 0, none⟩) (by dsimp only; omega) (.slice ua8 (tellF R.1).length uc8))
            have HS9 := hid hs9
            clear HTL hO8 HO8 hb8 R9 hGW hs9 hlt7
            generalize hT : tellF R.1 = TF at *
            generalize hQ' : tellQ R.1 (R.2 : Int) = TQ at *
            generalize hB' : tellB R.1 = TB at *
            go_wp2_with fail
            rw [HV.out, (ans_yes _).1, (ans_yes _).2.1, (ans_yes _).2.2, hT, hQ', hB']
            exact bodyPost_ret (v := .tuple #[.agg #[.slice ua8 TF.length uc8], .int .i64 TQ, .bool TB]) (by simp [results, Try.results113, go_sem, E0.out]) rfl ⟨.slice ua8 TF.length uc8, rfl, by rw [HS9.out]; exact HO9.out, HB9.out⟩
          · rw [HG.out] at e; cases e
        · have HV := hid (show ok = false by rw [← hok]; simp [twoOK, hlx, hly, hne])
          have HLX := hid hlx
          have HLY := hid hly
          have hd : (lx != ly) = true := by simp [hne]
          clear hok hR hg hq hq2 hne hlx hly
          go_enter Try.func113, Try.ntmps113
          go_wp2_with fail
          refine HC.out.mono ?_
          rintro e w3 ⟨pv, rfl, ho, hb⟩
          have B2b := hid (B2.out.step hb)
          rcases ho with ⟨_, p, g, cap, mb, base, hbase, rfl, hGv⟩ | ⟨e, _⟩
          · have G3 := hid hGv
            have c3 := G3.out.c0
            have hpl := G3.out.box.lt
            have hgl := G3.out.lt.2
            have g1 := fun z : Gr w3 => z.cell c3 hpl
            have hne := Gr.ne w3
            have HEz := hid (fun z : Gr w3 => HE.out z.val base p g cap mb (G3.out.below z.below))
            clear HC hb hGv x0 c3
            have y3 := G3.out.lev (show q.toNat < F.length by omega)
            have z3 := G3.out.lev (show q2.toNat < F.length by omega)
            rw [HLX.out] at y3
            rw [HLY.out] at z3
            have g2 := fun z : Gr w3 => z.cell y3 hgl
            have g3 := fun z : Gr w3 => z.cell z3 hgl
            clear hbase y3 z3
            go_wp2_with fail
            have HE2z := hid (fun z : Gr w3 => HE2.out z.val base p g cap mb (G3.out.below z.below))
            refine wp_region_gr (by kernel_rfl) (by kernel_rfl) ?_
            repeat (go_big_quiet_step (first | (go_at_call 88; first | with_reducible exact Calls.gr _ (HEz.out _) | with_reducible exact Calls.gr _ (HE2z.out _) | exact Calls.gr _ (HEz.out _) | exact Calls.gr _ (HE2z.out _))))
            refine wpQuiet_nil ?_
            rintro _ ⟨z, rfl⟩
            have B3 := hid (B2b.out.step z.below)
            clear g1 hne
            have G3z := hid (G3.out.below z.below)
            clear g2 g3
            have R9 := B3.out.row 1 (v := .slice none 0 0) (t := 25) rfl
            have r0 := R9.cell (i := 0) (by omega)
            have f0 := R9.frozen 0
            have E0 := hid ((R9.set 0 (.slice none 0 0)).cell (i := 0) (by omega))
            simp only [if_true] at E0
            have HB := hid (B3.out.2.2.setCell (p := ⟨w.heap.size + 1, 0, none⟩) (by dsimp only; omega) (.slice none 0 0))
            clear R9
            go_wp2_with fail
            rw [HV.out, (ans_no _).1, (ans_no _).2.1, (ans_no _).2.2]
            exact bodyPost_ret (v := .tuple #[.agg #[.slice none 0 0], .int .i64 0, .bool false]) (by simp [results, Try.results113, go_sem, E0.out]) rfl (fin _ HB.out)
          · rw [HG.out] at e; cases e

theorem mrg_call {F : List Qd} {q q2 : Int} (L' : List Cl) (f : Nat) (hf : f = 114 ∨ f = 116) (op : Nat → Nat → Nat) (hop : ∀ (i j : Nat) (W : World), i < 2 → j < 2 → Calls Try.prog f #[.int .i64 (i : Int), .int .i64 (j : Int)] W fun e w' => e = .returned (.int .i64 (op i j : Int)) ∧ w' = W) (hbit : ∀ c, bitC L' c = op (bitC (cellsOfQ F q.toNat) c) (bitC (cellsOfQ F q2.toNat) c)) (h : twoOK F q q2 = true) : Grows (treeL L' (levN F q.toNat) 0 0 F).1 ∧ (treeL L' (levN F q.toNat) 0 0 F).1.length ≤ 10000 ∧ ∀ (W : World) (base p g cap mb : Nat), Grv W base p g cap mb F → Calls Try.prog 142 #[.pointer (some ⟨p, 0, none⟩), .int .i64 q, .int .i64 q2, .func (.func f) #[] #[]] W fun e w' => ∃ g' cap', e = .returned (.int .i64 ((treeL L' (levN F q.toNat) 0 0 F).2 : Int)) ∧ Grv w' base p g' cap' mb (treeL L' (levN F q.toNat) 0 0 F).1 ∧ Below base W w' := by
  simp only [twoOK, Bool.and_eq_true, decide_eq_true_eq] at h
  obtain ⟨h1, h2, h3⟩ := there_to h.1.1
  obtain ⟨_, h4, h5⟩ := there_to h.1.2
  have n5 := (levN_le h1 h2).1
  have h6 := good_len2 h1
  have p4 := pow4_le n5
  have t := treeL_tr L' (levN F q.toNat) 0 0 F n5 (good_grows h1)
  have el : levN F q2.toNat = levN F q.toNat := by unfold levN; rw [h.2]
  refine ⟨t.grows, by have := t.most; omega, ?_⟩
  intro W base p g cap mb hG
  have tb := cellsOfQ_is h1 h4
  rw [el] at tb
  have := c_merge (cellsOfQ F q.toNat) (cellsOfQ F q2.toNat) L' f hf op hop base p mb (levN F q.toNat) q.toNat q2.toNat 0 0 F g cap W n5 (good_grows h1) (by omega) (cellsOfQ_is h1 h2) tb (fun c _ => hbit c) hG
  rw [h3, h5] at this
  exact this.mono fun e w' ⟨g', c', e1, e2, e3, _⟩ => ⟨g', c', e1, e2, e3⟩

set_option maxHeartbeats 1000000 in
set_option maxRecDepth 100000 in
theorem c_iUnionOf (a : Option Addr) (F : List Qd) (ca : Nat) (q q2 : Int) (w : World) (ha : QSeg w a F) (hl : F.length ≤ 1048576) (hk : KidsLe F) (hca : F.length ≤ ca) (hcm : ca ≤ 9223372036854775807) :
    Calls Try.prog 53 #[.agg #[.slice a F.length ca], .int .i64 q, .int .i64 q2] w fun e w' => ∃ u, e = .returned (.tuple #[.agg #[u], .int .i64 (ansQ (twoOK F q q2) (uniR F q q2)), .bool (ansB (twoOK F q q2) (uniR F q q2))]) ∧ FOwn w' w.heap.size w'.heap.size u (ansF (twoOK F q q2) (uniR F q q2)) ∧ Below w.heap.size w w' := by
  have B1 := (Bx.nil w).add (by simp) #[.slice a F.length ca] 25
  have B2 := hid (B1.add (by simp) #[.slice none 0 0] 25)
  have x0 := B2.out.cell 0 0 (v := .slice a F.length ca) rfl rfl
  rw [Nat.add_zero] at x0
  have HC := hid (c_mergeQuads 114 (uniR F q q2) a F ca q q2 _ (ha.below B2.out.2.2) hl hk hca hcm (twoOK F q q2) rfl (fun h => mrg_call (cellsOfQ F q.toNat ++ cellsOfQ F q2.toNat) _ (.inl rfl) orN c_either (fun c => uni_bit _ _ c) h))
  clear B1 ha
  generalize ansF (twoOK F q q2) (uniR F q q2) = TF at *
  generalize ansQ (twoOK F q q2) (uniR F q q2) = TQ at *
  generalize ansB (twoOK F q q2) (uniR F q q2) = TB at *
  go_enter Try.func53, Try.ntmps53
  go_wp2_with fail
  refine HC.out.mono ?_
  rintro e w8 ⟨u8, rfl, hO8, hb8⟩
  have HO8 := hid hO8
  obtain ⟨ua8, uc8, rfl, _⟩ := hO8.form
  have R9 := (B2.out.step hb8).row 1 (v := .slice none 0 0) (t := 25) rfl
  have r0 := R9.cell (i := 0) (by omega)
  have f0 := R9.frozen 0
  have E0 := hid ((R9.set 0 (.slice ua8 TF.length uc8)).cell (i := 0) (by omega))
  simp only [if_true] at E0
  have hs9 : (w8.setCell ⟨w.heap.size + 1, 0, none⟩ (.slice ua8 TF.length uc8)).heap.size = w8.heap.size := by simp
  have hGW : Grew w8 (w8.setCell ⟨w.heap.size + 1, 0, none⟩ (.slice ua8 TF.length uc8)) (w.heap.size + 1) (w.heap.size + 1 + 1) := (Grew.refl w8 _ _).set (Nat.le_refl _) (by omega) _
  have h21 := B2.out.2.1
  simp only [List.length_append, List.length_cons, List.length_nil] at h21
  have HO9 := hid ((HO8.out.kept hGW (by omega)).wide (lo' := w.heap.size) (hi' := w8.heap.size) (by omega) (Nat.le_refl _) (by rw [hs9]; exact Nat.le_refl _))
  have HB9 := hid ((B2.out.step hb8).2.2.setCell (p := ⟨w.heap.size + 1, 0, none⟩) (by dsimp only; omega) (.slice ua8 TF.length uc8))
  have HS9 := hid hs9
  clear HC hO8 HO8 hb8 R9 hGW hs9 h21
  go_wp2_with fail
  exact bodyPost_ret (v := .tuple #[.agg #[.slice ua8 TF.length uc8], .int .i64 TQ, .bool TB]) (by simp [results, Try.results53, go_sem, E0.out]) rfl ⟨.slice ua8 TF.length uc8, rfl, by rw [HS9.out]; exact HO9.out, HB9.out⟩

set_option maxHeartbeats 1000000 in
set_option maxRecDepth 100000 in
theorem c_iWithoutOf (a : Option Addr) (F : List Qd) (ca : Nat) (q q2 : Int) (w : World) (ha : QSeg w a F) (hl : F.length ≤ 1048576) (hk : KidsLe F) (hca : F.length ≤ ca) (hcm : ca ≤ 9223372036854775807) :
    Calls Try.prog 55 #[.agg #[.slice a F.length ca], .int .i64 q, .int .i64 q2] w fun e w' => ∃ u, e = .returned (.tuple #[.agg #[u], .int .i64 (ansQ (twoOK F q q2) (witR F q q2)), .bool (ansB (twoOK F q q2) (witR F q q2))]) ∧ FOwn w' w.heap.size w'.heap.size u (ansF (twoOK F q q2) (witR F q q2)) ∧ Below w.heap.size w w' := by
  have B1 := (Bx.nil w).add (by simp) #[.slice a F.length ca] 25
  have B2 := hid (B1.add (by simp) #[.slice none 0 0] 25)
  have x0 := B2.out.cell 0 0 (v := .slice a F.length ca) rfl rfl
  rw [Nat.add_zero] at x0
  have HC := hid (c_mergeQuads 116 (witR F q q2) a F ca q q2 _ (ha.below B2.out.2.2) hl hk hca hcm (twoOK F q q2) rfl (fun h => mrg_call (dropL (cellsOfQ F q.toNat) (cellsOfQ F q2.toNat)) _ (.inr rfl) lessN c_without (fun c => wit_bit _ _ c) h))
  clear B1 ha
  generalize ansF (twoOK F q q2) (witR F q q2) = TF at *
  generalize ansQ (twoOK F q q2) (witR F q q2) = TQ at *
  generalize ansB (twoOK F q q2) (witR F q q2) = TB at *
  go_enter Try.func55, Try.ntmps55
  go_wp2_with fail
  refine HC.out.mono ?_
  rintro e w8 ⟨u8, rfl, hO8, hb8⟩
  have HO8 := hid hO8
  obtain ⟨ua8, uc8, rfl, _⟩ := hO8.form
  have R9 := (B2.out.step hb8).row 1 (v := .slice none 0 0) (t := 25) rfl
  have r0 := R9.cell (i := 0) (by omega)
  have f0 := R9.frozen 0
  have E0 := hid ((R9.set 0 (.slice ua8 TF.length uc8)).cell (i := 0) (by omega))
  simp only [if_true] at E0
  have hs9 : (w8.setCell ⟨w.heap.size + 1, 0, none⟩ (.slice ua8 TF.length uc8)).heap.size = w8.heap.size := by simp
  have hGW : Grew w8 (w8.setCell ⟨w.heap.size + 1, 0, none⟩ (.slice ua8 TF.length uc8)) (w.heap.size + 1) (w.heap.size + 1 + 1) := (Grew.refl w8 _ _).set (Nat.le_refl _) (by omega) _
  have h21 := B2.out.2.1
  simp only [List.length_append, List.length_cons, List.length_nil] at h21
  have HO9 := hid ((HO8.out.kept hGW (by omega)).wide (lo' := w.heap.size) (hi' := w8.heap.size) (by omega) (Nat.le_refl _) (by rw [hs9]; exact Nat.le_refl _))
  have HB9 := hid ((B2.out.step hb8).2.2.setCell (p := ⟨w.heap.size + 1, 0, none⟩) (by dsimp only; omega) (.slice ua8 TF.length uc8))
  have HS9 := hid hs9
  clear HC hO8 HO8 hb8 R9 hGW hs9 h21
  go_wp2_with fail
  exact bodyPost_ret (v := .tuple #[.agg #[.slice ua8 TF.length uc8], .int .i64 TQ, .bool TB]) (by simp [results, Try.results55, go_sem, E0.out]) rfl ⟨.slice ua8 TF.length uc8, rfl, by rw [HS9.out]; exact HO9.out, HB9.out⟩

end Go.Proofs.Ytmapbkefndbnnaa
