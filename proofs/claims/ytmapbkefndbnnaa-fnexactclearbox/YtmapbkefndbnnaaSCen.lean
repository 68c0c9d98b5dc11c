/- What the specification's CentreOf answers. -/
import Derived.Test.YtmapbkefndbnnaaAns
import Derived.Deep.RegionHeld3
namespace Go.Proofs.Ytmapbkefndbnnaa
open Go.RowKit
set_option linter.unusedVariables false
set_option linter.unusedSimpArgs false
attribute [local go_sem ↓] Go.wp_at_zero Go.wp_at_succ

theorem cell_other {W : World} {p r : Addr} {v : Value} (h : W.cell? p = some v) (hne : r.block ≠ p.block) (u : Value) : (W.setCell r u).cell? p = some v := by
  rw [World.cell?_setCell_far _ _ _ _ hne]; exact h

set_option maxHeartbeats 4000000 in
set_option maxRecDepth 100000 in
theorem c_sCentreOf (a : Option Addr) (F : List Qd) (ca : Nat) (q : Int) (w : World) (ha : QSeg w a F) (hl : F.length ≤ 1048576) (hk : KidsLe F) (hca : F.length ≤ ca) (hcm : ca ≤ 9223372036854775807) (hnc : NoneCap w a F) :
    Calls Try.prog 63 #[.agg #[.slice a F.length ca], .int .i64 q] w fun e w' => ∃ u, e = .returned (.tuple #[.agg #[u], .int .i64 (ansQ (cenOK F q) (cenR F q)), .bool (ansB (cenOK F q) (cenR F q))]) ∧ GF w' w.heap.size u (ansF (cenOK F q) (cenR F q)) ∧ Below w.heap.size w w' := by
  have B1 := (Bx.nil w).add (by simp) #[.slice a F.length ca] 25
  have B2 := hid (B1.add (by simp) #[.slice none 0 0] 25)
  have Q2 := hid (ha.below B2.out.2.2)
  have N2 := hid (hnc.below ha B2.out.2.2)
  clear B1 hnc ha
  have x0 := B2.out.cell 0 0 (v := .slice a F.length ca) rfl rfl
  rw [Nat.add_zero] at x0
  have fin : ∀ W : World, Below w.heap.size w W → ∃ u, Ending.returned (.tuple #[.agg #[.slice none 0 0], .int .i64 0, .bool false]) = .returned (.tuple #[.agg #[u], .int .i64 0, .bool false]) ∧ GF W w.heap.size u [] ∧ Below w.heap.size w W := fun W h => ⟨_, rfl, GF.nil _ _, h⟩
  cases hth : thereB F q
  · have HC := hid (c_l3There' a F ca q false hth _ Q2.out hl hk hca hcm)
    have HV : Hid (cenOK F q = false) := by simp [Hid, cenOK, hth]
    clear hth
    go_enter Try.func63, Try.ntmps63
    go_wp2_with fail
    refine HC.out.mono ?_
    rintro e w3 ⟨rfl, hb⟩
    have B3 := hid (B2.out.step hb)
    have R3 := B3.out.row 1 (v := .slice none 0 0) (t := 25) rfl
    have r0 := R3.cell (i := 0) (by omega)
    have f0 := R3.frozen 0
    have E0 := hid ((R3.set 0 (.slice none 0 0)).cell (i := 0) (by omega))
    simp only [if_true] at E0
    have HB := hid (B3.out.2.2.setCell (p := ⟨w.heap.size + 1, 0, none⟩) (by dsimp only; omega) (.slice none 0 0))
    clear HC R3 hb
    go_wp2_with fail
    rw [HV.out, (ans_no _).1, (ans_no _).2.1, (ans_no _).2.2]
    exact bodyPost_ret (v := .tuple #[.agg #[.slice none 0 0], .int .i64 0, .bool false]) (by simp [results, Try.results63, go_sem, E0.out]) rfl (fin _ HB.out)
  · have HC := hid (c_l3There' a F ca q true hth _ Q2.out hl hk hca hcm)
    obtain ⟨hg, h0, h1⟩ := there_bd hth
    obtain ⟨hn5, hlevN⟩ := levN_le hg (show q.toNat < F.length by omega)
    have HG := hid hg
    have QA := Q2.out q.toNat (by omega)
    obtain ⟨b1, o1, ak, ck, rfl, hb1, p1, _⟩ := QA
    obtain ⟨lv, hlv⟩ : ∃ lv, (qa F q.toNat).1 = lv := ⟨_, rfl⟩
    rw [hlv] at p1 hlevN
    by_cases hbad : lv < 2
    · have HV : Hid (cenOK F q = false) := by
        simp only [Hid, cenOK, hth, hlv, Bool.true_and]
        rw [decide_eq_false (by omega)]
      have dl : decide (lv < 2) = true := decide_eq_true hbad
      clear hth hg
      go_enter Try.func63, Try.ntmps63
      go_wp2_with fail
      refine HC.out.mono ?_
      rintro e w3 ⟨rfl, hb⟩
      have B3 := hid (B2.out.step hb)
      have R3 := B3.out.row 1 (v := .slice none 0 0) (t := 25) rfl
      have r0 := R3.cell (i := 0) (by omega)
      have f0 := R3.frozen 0
      have E0 := hid ((R3.set 0 (.slice none 0 0)).cell (i := 0) (by omega))
      simp only [if_true] at E0
      have HB := hid (B3.out.2.2.setCell (p := ⟨w.heap.size + 1, 0, none⟩) (by dsimp only; omega) (.slice none 0 0))
      have x3 := B3.out.cell 0 0 (v := .slice (some ⟨b1, o1, none⟩) F.length ca) rfl rfl
      rw [Nat.add_zero] at x3
      have y3 := (hb.cell (p := ⟨b1, o1 + q.toNat * 2, none⟩) hb1).trans p1
      clear HC R3 hb p1 x0
      go_wp2_with fail
      rw [HV.out, (ans_no _).1, (ans_no _).2.1, (ans_no _).2.2]
      exact bodyPost_ret (v := .tuple #[.agg #[.slice none 0 0], .int .i64 0, .bool false]) (by simp [results, Try.results63, go_sem, E0.out]) rfl (fin _ HB.out)
    · have HV : Hid (cenOK F q = true) := by
        simp only [Hid, cenOK, hth, hlv, Bool.true_and]
        rw [decide_eq_true (by omega)]
      have HLEN := hid (show (cellsOfQ F q.toNat).length ≤ 1048576 by
        have h1 := cellsL_len F (levN F q.toNat) q.toNat 0 0
        have h2 := pow4_le hn5
        unfold cellsOfQ; omega)
      have HPW := hid (show (0 : Int) < 2 ^ ((lv - 2).toNat) ∧ (2 : Int) ^ ((lv - 2).toNat) ≤ 32 from ⟨pow_pos' _, pow_le5 (by omega)⟩)
      have HMV := hid (fun (X : Int) (W : World) (aa : Option Addr) (cc : Nat) (hX : X = -(2 ^ (lv - 2).toNat)) (hS : Seg W aa (cellsOfQ F q.toNat)) => c_l1Move aa (cellsOfQ F q.toNat) cc X X W hS HLEN.out (cellsOfQ_inR hg (by omega)) (by have := HPW.out; omega) (by have := HPW.out; omega))
      have hR : cenR F q = treeL (mv (cellsOfQ F q.toNat) (-(2 ^ (lv - 2).toNat)) (-(2 ^ (lv - 2).toNat))) (lv - 1).toNat 0 0 F := by
        unfold cenR
        rw [show levN F q.toNat - 2 = (lv - 2).toNat by omega, show levN F q.toNat - 1 = (lv - 1).toNat by omega]
      have HTL : Hid (∀ (Z : Int) (W : World) (la : Option Addr) (L : List Cl) (lca : Nat), Z = lv - 1 → L = mv (cellsOfQ F q.toNat) (-(2 ^ (lv - 2).toNat)) (-(2 ^ (lv - 2).toNat)) → QSeg W (some ⟨b1, o1, none⟩) F → NoneCap W (some ⟨b1, o1, none⟩) F → Seg W la L → Calls Try.prog 107 #[.agg #[.slice (some ⟨b1, o1, none⟩) F.length ca], .int .i64 Z, .slice la L.length lca] W fun e w' => ∃ u, e = .returned (.tuple #[.agg #[u], .int .i64 (tellQ (cenR F q).1 ((cenR F q).2 : Int)), .bool (tellB (cenR F q).1)]) ∧ GF w' W.heap.size u (tellF (cenR F q).1) ∧ Below W.heap.size W w') := by
        intro Z W la L lca hZ hL hQ hN hS
        have := c_l4Tell hg (some ⟨b1, o1, none⟩) ca (lv - 1).toNat (by omega) la L lca W hQ hN hS (by rw [hL, mv_length]; exact HLEN.out)
        rw [show (((lv - 1).toNat : Nat) : Int) = Z by omega] at this
        subst hL
        rw [← hR] at this
        exact this
      have HLL := hid (fun (W : World) (hQ : QSeg W (some ⟨b1, o1, none⟩) F) => c_l3CellsAll hg (some ⟨b1, o1, none⟩) ca q W hQ h0 h1)
      have hlo : lv = 2 ∨ lv = 3 ∨ lv = 4 ∨ lv = 5 := by omega
      clear hR hlevN hn5
      generalize hRR : cenR F q = RR at *
      generalize cellsOfQ F q.toNat = CL at *
      generalize levN F q.toNat = NN at *
      clear hth hg HPW hbad hlv hRR
      rcases hlo with rfl | rfl | rfl | rfl
      all_goals
        go_enter Try.func63, Try.ntmps63
        go_wp2_with fail
        refine HC.out.mono ?_
        rintro e w3 ⟨rfl, hb⟩
        have B3 := hid (B2.out.step hb)
        have x3 := B3.out.cell 0 0 (v := .slice (some ⟨b1, o1, none⟩) F.length ca) rfl rfl
        rw [Nat.add_zero] at x3
        have y3 := (hb.cell (p := ⟨b1, o1 + q.toNat * 2, none⟩) hb1).trans p1
        have Q3 := hid (Q2.out.below hb)
        have N3 := hid (N2.out.below Q2.out hb)
        clear HC hb p1 x0
        go_wp2_with fail
        have bd := (Below.refl w3.heap.size w3).drew
        have Q4 := hid (Q3.out.below bd)
        have N4 := hid (N3.out.below Q3.out bd)
        have B4 := hid (B3.out.step bd)
        have x4 := B4.out.cell 0 0 (v := .slice (some ⟨b1, o1, none⟩) F.length ca) rfl rfl
        rw [Nat.add_zero] at x4
        have hlt4 := B4.out.lt 1 (by simp)
        clear bd
        go_region_held3 (fun W => W.cell? ⟨w.heap.size, 0, none⟩ = some (.slice (some ⟨b1, o1, none⟩) F.length ca))
          (first | exact x3 | exact x4 | exact x5 | exact x6 | exact x7 | exact x8 | go_keep)
          (first
            | (go_at_call 94; refine (HLL.out _ Q4.out).mono ?_; rintro e w5 ⟨v5, rfl, hO5, hb5⟩; obtain ⟨a5, c5, rfl, hS5⟩ := hO5.form; have Q5 := hid (Q4.out.below hb5); have N5 := hid (N4.out.below Q4.out hb5); have B5 := hid (B4.out.step hb5); have x5 := (hb5.cell (p := ⟨w.heap.size, 0, none⟩) (by have := B4.out.lt 0 (by simp); simpa using this)).trans x4; have S5 := hid hS5)
            | (go_at_call 119; refine (HMV.out _ w5 a5 c5 (by decide) S5.out).mono ?_; rintro e w6 ⟨v6, rfl, hO6, hb6⟩; obtain ⟨a6, c6, rfl, hS6⟩ := hO6.form; have Q6 := hid (Q5.out.below hb6); have N6 := hid (N5.out.below Q5.out hb6); have B6 := hid (B5.out.step hb6); have x6 := (hb6.cell (p := ⟨w.heap.size, 0, none⟩) (by have := B5.out.lt 0 (by simp); simpa using this)).trans x5; have S6 := hid hS6)
            | (go_at_call 107; refine (HTL.out _ w6 a6 _ c6 (by decide) rfl Q6.out N6.out S6.out).mono ?_; rintro e w7 ⟨u7, rfl, hG7, hb7⟩; have HG7 := hid hG7; obtain ⟨ua7, uc7, rfl, _⟩ := hG7.form; have B7 := hid (B6.out.step hb7); have x7 := (hb7.cell (p := ⟨w.heap.size, 0, none⟩) (by have := B6.out.lt 0 (by simp); simpa using this)).trans x6; have R7 := B7.out.row 1 (v := .slice none 0 0) (t := 25) rfl; have r0 := R7.cell (i := 0) (by omega); have f0 := R7.frozen 0; have x8 := cell_other x7 (show (⟨w.heap.size + 1, 0, none⟩ : Addr).block ≠ (⟨w.heap.size, 0, none⟩ : Addr).block by dsimp only; omega) (.slice ua7 (tellF RR.1).length uc7)))
        have E0 := hid ((R7.set 0 (.slice ua7 (tellF RR.1).length uc7)).cell (i := 0) (by omega))
        simp only [if_true] at E0
        have HG9 := hid ((HG7.out.setRow (o := 0) R7 (by decide) (by decide) (.slice ua7 (tellF RR.1).length uc7)).mono (show w.heap.size ≤ _ from B6.out.2.2.size))
        have HB9 := hid (B7.out.2.2.setCell (p := ⟨w.heap.size + 1, 0, none⟩) (by dsimp only; omega) (.slice ua7 (tellF RR.1).length uc7))
        clear R7 r0 f0 hG7
        go_wp2_with fail
        rw [HV.out, (ans_yes _).1, (ans_yes _).2.1, (ans_yes _).2.2]
        exact bodyPost_ret (v := .tuple #[.agg #[.slice ua7 (tellF RR.1).length uc7], .int .i64 (tellQ RR.1 (RR.2 : Int)), .bool (tellB RR.1)]) (by simp [results, Try.results63, go_sem, E0.out]) rfl ⟨.slice ua7 (tellF RR.1).length uc7, rfl, HG9.out, HB9.out⟩

end Go.Proofs.Ytmapbkefndbnnaa
