/- Texts of this seat, one behind the other: Lev, STree, STof. -/
import Derived.Test.YtokemdbgcegjiaaGreatB06
import Derived.Test.YtokemdbgcegjiaaGreatSJoin
import Derived.Test.YtokemdbgcegjiaaGreatB02
namespace Go.Proofs.YtokemdbgcegjiaaGreat
open Go.RowKit Go.Maps
set_option linter.unusedVariables false
set_option linter.unusedSimpArgs false
attribute [local go_sem ↓] Go.wp_at_zero Go.wp_at_succ

/-- Is there such a quad in a good forest? -/
def thereB (F : List Qd) (q : Int) : Bool := goodF F && inB 0 ((F.length : Int) - 1) q
def levV (F : List Qd) (q : Int) : Int := if thereB F q then (qa F q.toNat).1 else 0
theorem c_sGoodForest' (a : Option Addr) (F : List Qd) (ca : Nat) (v : Bool) (hv : goodF F = v) (w : World) (ha : QSeg w a F) (hl : F.length ≤ 1048576) (hk : KidsLe F) (hca : F.length ≤ ca) (hcm : ca ≤ 9223372036854775807) :
    Calls Tryz.prog 81 #[.agg #[.slice a F.length ca]] w fun e w' => e = .returned (.bool v) ∧ Below w.heap.size w w' := by
  rw [← hv]; exact c_sGoodForest a F ca w ha hl hk hca hcm

set_option maxHeartbeats 1000000 in
theorem c_l3There (a : Option Addr) (F : List Qd) (ca : Nat) (q : Int) (w : World) (ha : QSeg w a F) (hl : F.length ≤ 1048576) (hk : KidsLe F) (hca : F.length ≤ ca) (hcm : ca ≤ 9223372036854775807) :
    Calls Tryz.prog 103 #[.agg #[.slice a F.length ca], .int .i64 q] w fun e w' => e = .returned (.bool (thereB F q)) ∧ Below w.heap.size w w' := by
  have BX := hid (Box1.new w (.slice a F.length ca) 25)
  cases hg : goodF F
  · have HC := hid (c_sGoodForest' a F ca false hg _ (ha.below BX.out.2.2) hl hk hca hcm)
    have HV : Hid (thereB F q = false) := by simp [Hid, thereB, hg]
    clear ha hg
    go_enter Tryz.func103, Tryz.ntmps103
    go_wp2_with fail
    refine HC.out.mono ?_
    rintro e w1 ⟨rfl, hb⟩
    clear HC
    go_wp2
    go_ret
    exact ⟨ret_bool HV.out.symm, (BX.out.step hb).2.2⟩
  · have HC := hid (c_sGoodForest' a F ca true hg _ (ha.below BX.out.2.2) hl hk hca hcm)
    have HV0 : Hid (thereB F q = inB 0 ((F.length : Int) - 1) q) := by simp [Hid, thereB, hg]
    clear ha hg
    by_cases h0 : 0 ≤ q
    · have d0 : decide (0 ≤ q) = true := decide_eq_true h0
      by_cases h1 : q < (F.length : Int)
      · have d1 : decide (q < (F.length : Int)) = true := decide_eq_true h1
        have HV := hid (show thereB F q = true by rw [HV0.out]; simp [inB]; omega)
        go_enter Tryz.func103, Tryz.ntmps103
        go_wp2_with fail
        refine HC.out.mono ?_
        rintro e w1 ⟨rfl, hb⟩
        clear HC
        have x := (BX.out.step hb).1
        go_wp2
        go_ret
        exact ⟨ret_bool HV.out.symm, (BX.out.step hb).2.2⟩
      · have d1 : decide (q < (F.length : Int)) = false := decide_eq_false h1
        have HV := hid (show thereB F q = false by rw [HV0.out]; unfold inB; rw [decide_eq_false (show ¬ q ≤ (F.length : Int) - 1 by omega)]; simp)
        go_enter Tryz.func103, Tryz.ntmps103
        go_wp2_with fail
        refine HC.out.mono ?_
        rintro e w1 ⟨rfl, hb⟩
        clear HC
        have x := (BX.out.step hb).1
        go_wp2
        go_ret
        exact ⟨ret_bool HV.out.symm, (BX.out.step hb).2.2⟩
    · have d0 : decide (0 ≤ q) = false := decide_eq_false h0
      have HV := hid (show thereB F q = false by rw [HV0.out]; unfold inB; rw [d0]; rfl)
      go_enter Tryz.func103, Tryz.ntmps103
      go_wp2_with fail
      refine HC.out.mono ?_
      rintro e w1 ⟨rfl, hb⟩
      clear HC
      go_wp2
      go_ret
      exact ⟨ret_bool HV.out.symm, (BX.out.step hb).2.2⟩
theorem c_l3There' (a : Option Addr) (F : List Qd) (ca : Nat) (q : Int) (v : Bool) (hv : thereB F q = v) (w : World) (ha : QSeg w a F) (hl : F.length ≤ 1048576) (hk : KidsLe F) (hca : F.length ≤ ca) (hcm : ca ≤ 9223372036854775807) :
    Calls Tryz.prog 103 #[.agg #[.slice a F.length ca], .int .i64 q] w fun e w' => e = .returned (.bool v) ∧ Below w.heap.size w w' := by
  rw [← hv]; exact c_l3There a F ca q w ha hl hk hca hcm
theorem there_bd {F : List Qd} {q : Int} (h : thereB F q = true) : goodF F = true ∧ 0 ≤ q ∧ q < (F.length : Int) := by
  simp only [thereB, Bool.and_eq_true] at h
  have := inB_bd h.2
  exact ⟨h.1, by omega, by omega⟩

set_option maxHeartbeats 1000000 in
theorem c_iLevelOf (a : Option Addr) (F : List Qd) (ca : Nat) (q : Int) (w : World) (ha : QSeg w a F) (hl : F.length ≤ 1048576) (hk : KidsLe F) (hca : F.length ≤ ca) (hcm : ca ≤ 9223372036854775807) :
    Calls Tryz.prog 16 #[.agg #[.slice a F.length ca], .int .i64 q] w fun e w' => e = .returned (.tuple #[.int .i64 (levV F q), .bool (thereB F q)]) ∧ Below w.heap.size w w' := by
  have BX := hid (Box1.new w (.slice a F.length ca) 25)
  have HC := hid (c_groveOf a F ca _ (ha.below BX.out.2.2) hl hk hca hcm)
  clear ha
  cases hg : goodF F
  · have HT : Hid (thereB F q = false) := by simp [Hid, thereB, hg]
    have HV : Hid (levV F q = 0) := by simp [Hid, levV, HT.out]
    rw [hg] at HC
    go_enter Tryz.func16, Tryz.ntmps16
    go_wp2_with fail
    refine HC.out.mono ?_
    rintro e w1 ⟨pv, rfl, ho, hb⟩
    clear HC ho
    go_wp2
    go_ret2
    exact ⟨by rw [HV.out, HT.out]; rfl, (BX.out.step hb).2.2⟩
  · rw [hg] at HC
    have HG := hid hg
    go_enter Tryz.func16, Tryz.ntmps16
    go_wp2_with fail
    refine HC.out.mono ?_
    rintro e w1 ⟨pv, rfl, ho, hb⟩
    have X1 := hid (BX.out.step hb)
    clear HC hb BX
    rcases ho with ⟨_, p, g, cap, mb, base, _, rfl, hGr⟩ | ⟨e, _⟩
    · have H1 := hid hGr
      have c0 := hGr.c0
      cases hin : inB 0 ((F.length : Int) - 1) q
      · have HT : Hid (thereB F q = false) := by simp [Hid, thereB, hin]
        have HV : Hid (levV F q = 0) := by simp [Hid, levV, HT.out]
        have HH := hid (c_has' q false w1 hin H1.out)
        clear hGr hin hg
        go_wp2_with fail
        refine HH.out.mono ?_
        rintro e w2 ⟨rfl, hb⟩
        go_wp2
        go_ret2
        exact ⟨by rw [HV.out, HT.out]; rfl, (X1.out.step hb).2.2⟩
      · have HT : Hid (thereB F q = true) := by simp [Hid, thereB, hin, hg]
        have HV : Hid (levV F q = (qa F q.toNat).1) := by simp [Hid, levV, HT.out]
        have HH := hid (c_has' q true w1 hin H1.out)
        have hbd := inB_bd hin
        clear hGr hin hg c0
        go_wp2_with fail
        refine HH.out.mono ?_
        rintro e w2 ⟨rfl, hb⟩
        have H2 := hid (H1.out.below hb)
        have c0 := H2.out.c0
        have cl := H2.out.lev (i := q.toNat) (by omega)
        have i0 : 0 ≤ q := hbd.1
        have i1 : q < (F.length : Int) := by omega
        clear HH H1
        go_wp2
        go_ret2
        exact ⟨by rw [HV.out, HT.out]; rfl, (X1.out.step hb).2.2⟩
    · rw [HG.out] at e; cases e

end Go.Proofs.YtokemdbgcegjiaaGreat

namespace Go.Proofs.YtokemdbgcegjiaaGreat
open Go.RowKit
set_option linter.unusedVariables false
set_option linter.unusedSimpArgs false
attribute [local go_sem ↓] Go.wp_at_zero Go.wp_at_succ

/-- What is told of a forest: nothing, where it has outgrown. -/
def tellF (F : List Qd) : List Qd := if F.length ≤ 400 then F else []
def tellQ (F : List Qd) (q : Int) : Int := if F.length ≤ 400 then q else 0
def tellB (F : List Qd) : Bool := decide (F.length ≤ 400)

set_option maxHeartbeats 1000000 in
theorem c_tell (q : Int) (w : World) {base p : Nat} {v : Value} {F : List Qd} (h : SF w base p v F) (hF : F.length ≤ 100000) (hk : KidsLe F) :
    Calls Tryz.prog 60 #[.pointer (some ⟨p, 0, none⟩), .int .i64 q] w fun e w' => ∃ u, e = .returned (.tuple #[.agg #[u], .int .i64 (tellQ F q), .bool (tellB F)]) ∧ GF w' w.heap.size u (tellF F) ∧ Below w.heap.size w w' := by
  have hb1 := (Below.refl w.heap.size w).alloc (Nat.le_refl _) (.cells #[.slice none 0 0] 25)
  have R1 := hid (one_row (heap_alloc_new w (.cells #[.slice none 0 0] 25)))
  have H1 := hid (h.below hb1)
  have HB1 := hid hb1
  have hsz : (w.alloc (.cells #[.slice none 0 0] 25)).heap.size = w.heap.size + 1 := by simp
  have HSZ := hid hsz
  clear hb1 hsz
  by_cases h4 : F.length ≤ 400
  · have e1 := H1.out.c1
    have e0 := H1.out.c0
    rw [show decide (400 < F.length) = false by simp; omega] at e1
    have HV : Hid (tellF F = F ∧ tellQ F q = q ∧ tellB F = true) := by simp [Hid, tellF, tellQ, tellB, h4]
    obtain ⟨a, cap, rfl, _, _, hQ⟩ := h.gf.form
    have HC := hid (c_l3Own a F cap _ (hQ.below HB1.out) (by omega) hk (h.gf.noneCap.below hQ HB1.out))
    clear h hQ
    go_enter Tryz.func60, Tryz.ntmps60
    go_wp2_with fail
    refine HC.out.mono ?_
    rintro e w1 ⟨u, rfl, hG, hB⟩
    have HG := hid hG
    obtain ⟨a2, cap2, rfl, _⟩ := hG.form
    have R2 := R1.out.of_block (hB.block _ R1.out.lt)
    have r0 := R2.cell (i := 0) (by omega)
    have f0 := R2.frozen 0
    have E0 := hid ((R2.set 0 (.slice a2 F.length cap2)).cell (i := 0) (by omega))
    simp only [if_true] at E0
    have HG2 := hid ((HG.out.setRow (o := 0) R2 (by decide) (by decide) (.slice a2 F.length cap2)).mono (show w.heap.size ≤ _ by rw [HSZ.out]; omega))
    have HB2 := hid ((HB1.out.trans (hB.mono HB1.out.size)).setCell (p := ⟨w.heap.size, 0, none⟩) (Nat.le_refl _) (.slice a2 F.length cap2))
    clear HC hG HG hB R2 R1 H1 HB1
    go_wp2_with fail
    refine bodyPost_ret (v := .tuple #[.agg #[.slice a2 F.length cap2], .int .i64 q, .bool true]) (by simp [results, Tryz.results60, go_sem, E0.out]) rfl ⟨.slice a2 F.length cap2, ?_, ?_, HB2.out⟩
    · rw [HV.out.2.1, HV.out.2.2]
    · rw [HV.out.1]; exact HG2.out
  · have e1 := H1.out.c1
    rw [show decide (400 < F.length) = true by simp; omega] at e1
    have HV : Hid (tellF F = [] ∧ tellQ F q = 0 ∧ tellB F = false) := by simp [Hid, tellF, tellQ, tellB, h4]
    clear h
    go_enter Tryz.func60, Tryz.ntmps60
    go_wp2_with fail
    refine bodyPost_ret (v := .tuple #[.agg #[.slice none 0 0], .int .i64 0, .bool false]) (by simp [results, Tryz.results60, go_sem]) rfl ⟨.slice none 0 0, ?_, ?_, HB1.out⟩
    · rw [HV.out.2.1, HV.out.2.2]
    · rw [HV.out.1]; exact GF.nil _ _

set_option maxHeartbeats 4000000 in
set_option maxRecDepth 100000 in
theorem c_stree (L : List Cl) (la : Option Addr) (lca : Nat) (W0 : World) (hL : Seg W0 la L) (hLl : L.length ≤ 1048576) (base p : Nat) (hb0 : W0.heap.size ≤ base) : ∀ (n : Nat) (x y : Int) (v : Value) (F : List Qd) (w : World),
    n ≤ 5 → Grows F → F.length + 4 ^ n ≤ 10000 → -100000 ≤ x → x + 2 ^ n ≤ 100000 → -100000 ≤ y → y + 2 ^ n ≤ 100000 → SF w base p v F → Below W0.heap.size W0 w →
    Calls Tryz.prog 95 #[.pointer (some ⟨p, 0, none⟩), .int .i64 (n : Int), .int .i64 x, .int .i64 y, .slice la L.length lca] w fun e w' => ∃ v', e = .returned (.int .i64 ((treeL L n x y F).2 : Int)) ∧ SF w' base p v' (treeL L n x y F).1 ∧ Below base w w' := by
  intro n
  induction n with
  | zero =>
    intro x y v F w hn hGr hlen x0 x1 y0 y1 hS hB
    have HS := hid hS
    have HC := hid (c_l1Alive la L lca (x, y) w (hL.below hB) hLl)
    have hbs : base ≤ w.heap.size := Nat.le_trans hS.low (Nat.le_of_lt hS.box.lt)
    by_cases e : (x, y) ∈ L
    · rw [show decide ((x, y) ∈ L) = true by simp [e]] at HC
      have HV : Hid (treeL L 0 x y F = (F, 1)) := by simp [Hid, treeL, e]
      clear hS hB e
      go_enter Tryz.func95, Tryz.ntmps95
      go_wp2_with fail
      refine HC.out.mono ?_
      rintro e w1 ⟨rfl, hb⟩
      go_wp2_with fail
      go_ret
      rw [HV.out]
      exact ⟨_, rfl, HS.out.below hb, hb.mono hbs⟩
    · rw [show decide ((x, y) ∈ L) = false by simp [e]] at HC
      have HV : Hid (treeL L 0 x y F = (F, 0)) := by simp [Hid, treeL, e]
      clear hS hB e
      go_enter Tryz.func95, Tryz.ntmps95
      go_wp2_with fail
      refine HC.out.mono ?_
      rintro e w1 ⟨rfl, hb⟩
      go_wp2_with fail
      go_ret
      rw [HV.out]
      exact ⟨_, rfl, HS.out.below hb, hb.mono hbs⟩
  | succ n ih =>
    intro x y v F w hn hGr hlen x0 x1 y0 y1 hS hB
    have HIH := hid ih
    have HS := hid hS
    have HB := hid hB
    have hpos := pow_pos' n
    have hle : (2 : Int) ^ n ≤ 16 := by
      rcases (show n = 0 ∨ n = 1 ∨ n = 2 ∨ n = 3 ∨ n = 4 by omega) with rfl | rfl | rfl | rfl | rfl <;> decide
    have h4 : (4 : Nat) ^ (n + 1) = 4 * 4 ^ n := by rw [Nat.pow_succ]; omega
    rw [h4] at hlen
    rw [two_pow] at x1 y1
    have t0 := treeL_tr L n x y F (by omega) hGr
    have t1 := treeL_tr L n (x + 2 ^ n) y _ (by omega) t0.grows
    have t2 := treeL_tr L n x (y + 2 ^ n) _ (by omega) t1.grows
    have t3 := treeL_tr L n (x + 2 ^ n) (y + 2 ^ n) _ (by omega) t2.grows
    have HTJ := hid (tr_join (by omega) t0 t1 t2 t3)
    have HT0 := hid t0
    have HT1 := hid t1
    have HT2 := hid t2
    have HT3 := hid t3
    have HCL := hid (show treeL L (n + 1) x y F = joinF (treeL L n (x + 2 ^ n) (y + 2 ^ n) (treeL L n x (y + 2 ^ n) (treeL L n (x + 2 ^ n) y (treeL L n x y F).1).1).1).1 [((treeL L n x y F).2 : Int), ((treeL L n (x + 2 ^ n) y (treeL L n x y F).1).2 : Int), ((treeL L n x (y + 2 ^ n) (treeL L n (x + 2 ^ n) y (treeL L n x y F).1).1).2 : Int), ((treeL L n (x + 2 ^ n) (y + 2 ^ n) (treeL L n x (y + 2 ^ n) (treeL L n (x + 2 ^ n) y (treeL L n x y F).1).1).1).2 : Int)] from rfl)
    have l0 := t0.most
    have l1 := t1.most
    have l2 := t2.most
    have l3 := t3.most
    rw [HCL.out]
    have HQ := hid (⟨l0, l1, l2, l3, hlen⟩ : _ ∧ _ ∧ _ ∧ _ ∧ _)
    have HG0 := hid t0.grows
    have HG1 := hid t1.grows
    have HG2 := hid t2.grows
    have HG3 := hid t3.grows
    clear t0 t1 t2 t3 hS hB ih l0 l1 l2 l3 hlen h4 HCL HT0 HT1 HT2 HT3
    generalize hr0 : treeL L n x y F = r0 at *
    generalize hr1 : treeL L n (x + 2 ^ n) y r0.1 = r1 at *
    generalize hr2 : treeL L n x (y + 2 ^ n) r1.1 = r2 at *
    generalize hr3 : treeL L n (x + 2 ^ n) (y + 2 ^ n) r2.1 = r3 at *
    have HR0 := hid hr0
    have HR1 := hid hr1
    have HR2 := hid hr2
    have HR3 := hid hr3
    have HGF := hid hGr
    clear hr0 hr1 hr2 hr3 hGr
    have dn : ((n : Int) + 1 == 0) = false := by simp; omega
    rw [show ((n + 1 : Nat) : Int) = (n : Int) + 1 by omega]
    go_enter Tryz.func95, Tryz.ntmps95
    go_wp2_with fail
    have H0 := hid (HIH.out x y v F w (by omega) HGF.out (by have := HQ.out; omega) x0 (by omega) y0 (by omega) HS.out HB.out)
    rw [HR0.out] at H0
    refine H0.out.mono ?_
    rintro e w1 ⟨v1, rfl, hS1, hB1⟩
    have HS1 := hid hS1
    have HBA := hid hB1
    have HO1 := hid (show Below W0.heap.size W0 w1 from HB.out.trans (hB1.mono hb0 |>.mono (Nat.le_refl _)))
    clear H0 hS1 hB1
    go_wp2_with fail
    have H1 := hid (HIH.out (x + 2 ^ n) y v1 r0.1 w1 (by omega) HG0.out (by have := HQ.out; omega) (by omega) (by omega) y0 (by omega) HS1.out HO1.out)
    rw [HR1.out] at H1
    refine H1.out.mono ?_
    rintro e w2 ⟨v2, rfl, hS2, hB2⟩
    have HS2 := hid hS2
    replace HBA := hid (HBA.out.trans hB2)
    have HO2 := hid (show Below W0.heap.size W0 w2 from HO1.out.trans (hB2.mono hb0))
    clear H1 hS2 hB2
    go_wp2_with fail
    have H2 := hid (HIH.out x (y + 2 ^ n) v2 r1.1 w2 (by omega) HG1.out (by have := HQ.out; omega) x0 (by omega) (by omega) (by omega) HS2.out HO2.out)
    rw [HR2.out] at H2
    refine H2.out.mono ?_
    rintro e w3 ⟨v3, rfl, hS3, hB3⟩
    have HS3 := hid hS3
    replace HBA := hid (HBA.out.trans hB3)
    have HO3 := hid (show Below W0.heap.size W0 w3 from HO2.out.trans (hB3.mono hb0))
    clear H2 hS3 hB3
    go_wp2_with fail
    have H3 := hid (HIH.out (x + 2 ^ n) (y + 2 ^ n) v3 r2.1 w3 (by omega) HG2.out (by have := HQ.out; omega) (by omega) (by omega) (by omega) (by omega) HS3.out HO3.out)
    rw [HR3.out] at H3
    refine H3.out.mono ?_
    rintro e w4 ⟨v4, rfl, hS4, hB4⟩
    have HS4 := hid hS4
    replace HBA := hid (HBA.out.trans hB4)
    clear H3 hS4 hB4
    have hkk := HTJ.out.2.1 0 (by omega)
    have HJ := hid (c_sjoin [(r0.2 : Int), (r1.2 : Int), (r2.2 : Int), (r3.2 : Int)] rfl w4 HS4.out (by have := HQ.out; omega) HG3.out.kidsLe hkk.1 hkk.2 (by rw [HTJ.out.2.2]; omega) (by rw [HTJ.out.2.2]; omega))
    clear hkk
    go_wp2_with fail
    refine HJ.out.mono ?_
    rintro e w5 ⟨v5, rfl, hS5, hB5, _⟩
    have HS5 := hid hS5
    replace HBA := hid (HBA.out.trans hB5)
    clear HJ hS5 hB5
    go_wp2_with fail
    go_ret
    exact ⟨_, rfl, HS5.out, HBA.out⟩

end Go.Proofs.YtokemdbgcegjiaaGreat

namespace Go.Proofs.YtokemdbgcegjiaaGreat
open Go.RowKit
set_option linter.unusedVariables false
set_option linter.unusedSimpArgs false
attribute [local go_sem ↓] Go.wp_at_zero Go.wp_at_succ

/-- May a tree be made? -/
def tofOK (F : List Qd) (lv : Int) (L : List Cl) : Bool := goodF F && inB 0 5 lv && good L
def tofR (F : List Qd) (lv : Int) (L : List Cl) : List Qd × Nat := treeL L lv.toNat 0 0 F
def tofF (F : List Qd) (lv : Int) (L : List Cl) : List Qd := if tofOK F lv L then tellF (tofR F lv L).1 else []
def tofQ (F : List Qd) (lv : Int) (L : List Cl) : Int := if tofOK F lv L then tellQ (tofR F lv L).1 ((tofR F lv L).2 : Int) else 0
def tofB (F : List Qd) (lv : Int) (L : List Cl) : Bool := tofOK F lv L && tellB (tofR F lv L).1

set_option maxHeartbeats 2000000 in
set_option maxRecDepth 100000 in
theorem c_sTreeOf (a : Option Addr) (F : List Qd) (ca : Nat) (lv : Int) (la : Option Addr) (L : List Cl) (lca : Nat) (w : World) (ha : QSeg w a F) (hl : F.length ≤ 1048576) (hk : KidsLe F) (hca : F.length ≤ ca) (hcm : ca ≤ 9223372036854775807) (hnc : NoneCap w a F) (hL : Seg w la L) (hLl : L.length ≤ 1048576) :
    Calls Tryz.prog 46 #[.agg #[.slice a F.length ca], .int .i64 lv, .slice la L.length lca] w fun e w' => ∃ u, e = .returned (.tuple #[.agg #[u], .int .i64 (tofQ F lv L), .bool (tofB F lv L)]) ∧ GF w' w.heap.size u (tofF F lv L) ∧ Below w.heap.size w w' := by
  obtain ⟨W1, hW1⟩ : ∃ W1, W1 = w.alloc (.cells #[.slice a F.length ca] 25) := ⟨_, rfl⟩
  have X1 := Box1.new w (.slice a F.length ca) 25
  rw [← hW1] at X1
  have hb2 := (Below.refl W1.heap.size W1).alloc (Nat.le_refl _) (.cells #[.slice none 0 0] 25)
  have X2 := X1.step hb2
  have R2 := one_row (heap_alloc_new W1 (.cells #[.slice none 0 0] 25))
  have s1 : W1.heap.size = w.heap.size + 1 := by rw [hW1]; simp
  rw [s1] at R2
  have s2 : (W1.alloc (.cells #[.slice none 0 0] 25)).heap.size = w.heap.size + 1 + 1 := by simp [s1]
  rw [hW1] at X2 R2 s2
  have HX := hid X2
  have HR := hid R2
  have HSZ := hid s2
  clear X1 X2 R2 s1 s2 hb2 hW1
  clear W1
  have x0 := HX.out.1
  have HQ := hid (ha.below HX.out.2.2)
  have HL2 := hid (hL.below HX.out.2.2)
  have HNC := hid (hnc.below ha HX.out.2.2)
  clear ha hL hnc
  have fin : ∀ W : World, Below w.heap.size w W → ∃ u, Ending.returned (.tuple #[.agg #[.slice none 0 0], .int .i64 0, .bool false]) = .returned (.tuple #[.agg #[u], .int .i64 0, .bool false]) ∧ GF W w.heap.size u [] ∧ Below w.heap.size w W := fun W h => ⟨_, rfl, GF.nil _ _, h⟩
  cases hg : goodF F
  · have HC := hid (c_sGoodForest' a F ca false hg _ HQ.out hl hk hca hcm)
    have HV : Hid (tofF F lv L = [] ∧ tofQ F lv L = 0 ∧ tofB F lv L = false) := by simp [Hid, tofF, tofQ, tofB, tofOK, hg]
    clear hg
    go_enter Tryz.func46, Tryz.ntmps46
    go_wp2_with fail
    refine HC.out.mono ?_
    rintro e w3 ⟨rfl, hb⟩
    have R3 := HR.out.of_block (hb.block _ HR.out.lt)
    have r0 := R3.cell (i := 0) (by omega)
    have f0 := R3.frozen 0
    have E0 := hid ((R3.set 0 (.slice none 0 0)).cell (i := 0) (by omega))
    simp only [if_true] at E0
    have HB := hid ((HX.out.step hb).2.2.setCell (p := ⟨w.heap.size + 1, 0, none⟩) (by dsimp only; omega) (.slice none 0 0))
    clear HC R3
    go_wp2_with fail
    rw [HV.out.1, HV.out.2.1, HV.out.2.2]
    exact bodyPost_ret (v := .tuple #[.agg #[.slice none 0 0], .int .i64 0, .bool false]) (by simp [results, Tryz.results46, go_sem, E0.out]) rfl (fin _ HB.out)
  · have HC := hid (c_sGoodForest' a F ca true hg _ HQ.out hl hk hca hcm)
    have HG := hid hg
    cases hin : inB 0 5 lv
    · have HD := hid (c_l1In' lv 0 5 false hin)
      have HV : Hid (tofF F lv L = [] ∧ tofQ F lv L = 0 ∧ tofB F lv L = false) := by simp [Hid, tofF, tofQ, tofB, tofOK, hin]
      clear hg hin
      go_enter Tryz.func46, Tryz.ntmps46
      go_wp2_with fail
      refine HC.out.mono ?_
      rintro e w3 ⟨rfl, hb⟩
      have R3 := HR.out.of_block (hb.block _ HR.out.lt)
      have r0 := R3.cell (i := 0) (by omega)
      have f0 := R3.frozen 0
      have E0 := hid ((R3.set 0 (.slice none 0 0)).cell (i := 0) (by omega))
      simp only [if_true] at E0
      have HB := hid ((HX.out.step hb).2.2.setCell (p := ⟨w.heap.size + 1, 0, none⟩) (by dsimp only; omega) (.slice none 0 0))
      clear HC R3
      go_wp2_with fail
      refine (HD.out _).mono ?_
      rintro e w4 ⟨rfl, rfl⟩
      go_wp2_with fail
      rw [HV.out.1, HV.out.2.1, HV.out.2.2]
      exact bodyPost_ret (v := .tuple #[.agg #[.slice none 0 0], .int .i64 0, .bool false]) (by simp [results, Tryz.results46, go_sem, E0.out]) rfl (fin _ HB.out)
    · have HD := hid (c_l1In' lv 0 5 true hin)
      have hlv := inB_bd hin
      cases hgl : good L
      · have HV : Hid (tofF F lv L = [] ∧ tofQ F lv L = 0 ∧ tofB F lv L = false) := by simp [Hid, tofF, tofQ, tofB, tofOK, hgl]
        have HE := hid (fun W h => c_sGood' la L lca false hgl W h hLl)
        clear hg hin hgl
        go_enter Tryz.func46, Tryz.ntmps46
        go_wp2_with fail
        refine HC.out.mono ?_
        rintro e w3 ⟨rfl, hb⟩
        have R3 := hid (HR.out.of_block (hb.block _ HR.out.lt))
        have X3 := hid (HX.out.step hb)
        have L3 := hid (HL2.out.below hb)
        clear HC hb
        go_wp2_with fail
        refine (HD.out _).mono ?_
        rintro e w4 ⟨rfl, rfl⟩
        go_wp2_with fail
        refine (HE.out _ L3.out).mono ?_
        rintro e w5 ⟨rfl, hb⟩
        have R5 := R3.out.of_block (hb.block _ R3.out.lt)
        have r0 := R5.cell (i := 0) (by omega)
        have f0 := R5.frozen 0
        have E0 := hid ((R5.set 0 (.slice none 0 0)).cell (i := 0) (by omega))
        simp only [if_true] at E0
        have HB := hid ((X3.out.step hb).2.2.setCell (p := ⟨w.heap.size + 1, 0, none⟩) (by dsimp only; omega) (.slice none 0 0))
        clear R3 R5 X3 L3 hb
        go_wp2_with fail
        rw [HV.out.1, HV.out.2.1, HV.out.2.2]
        exact bodyPost_ret (v := .tuple #[.agg #[.slice none 0 0], .int .i64 0, .bool false]) (by simp [results, Tryz.results46, go_sem, E0.out]) rfl (fin _ HB.out)
      · have HOK : Hid (tofOK F lv L = true) := by simp [Hid, tofOK, hg, hin, hgl]
        have HV : Hid (tofF F lv L = tellF (tofR F lv L).1 ∧ tofQ F lv L = tellQ (tofR F lv L).1 ((tofR F lv L).2 : Int) ∧ tofB F lv L = tellB (tofR F lv L).1) := by simp [Hid, tofF, tofQ, tofB, HOK.out]
        have HE := hid (fun W h => c_sGood' la L lca true hgl W h hLl)
        have hg2 := good_len2 hg
        have hGr := good_grows hg
        have n5 : lv.toNat ≤ 5 := by omega
        have HT := hid (treeL_tr L lv.toNat 0 0 F n5 hGr)
        have p4 : 4 ^ lv.toNat ≤ 1024 := by
          rcases (show lv.toNat = 0 ∨ lv.toNat = 1 ∨ lv.toNat = 2 ∨ lv.toNat = 3 ∨ lv.toNat = 4 ∨ lv.toNat = 5 by omega) with e | e | e | e | e | e <;> rw [e] <;> decide
        have p2 : (2 : Int) ^ lv.toNat ≤ 32 := by
          rcases (show lv.toNat = 0 ∨ lv.toNat = 1 ∨ lv.toNat = 2 ∨ lv.toNat = 3 ∨ lv.toNat = 4 ∨ lv.toNat = 5 by omega) with e | e | e | e | e | e <;> rw [e] <;> decide
        have HGR := hid hGr
        have HP4 := hid p4
        have HP2 := hid p2
        clear hg hin hgl hGr p4 p2
        go_enter Tryz.func46, Tryz.ntmps46
        go_wp2_with fail
        refine HC.out.mono ?_
        rintro e w3 ⟨rfl, hb⟩
        have R3 := hid (HR.out.of_block (hb.block _ HR.out.lt))
        have X3 := hid (HX.out.step hb)
        have L3 := hid (HL2.out.below hb)
        have Q3 := hid (HQ.out.below hb)
        have N3 := hid (HNC.out.below HQ.out hb)
        clear HC hb HX HR HL2 HQ HNC x0
        go_wp2_with fail
        refine (HD.out _).mono ?_
        rintro e w4 ⟨rfl, rfl⟩
        go_wp2_with fail
        refine (HE.out _ L3.out).mono ?_
        rintro e w5 ⟨rfl, hb⟩
        have R5 := hid (R3.out.of_block (hb.block _ R3.out.lt))
        have X5 := hid (X3.out.step hb)
        have L5 := hid (L3.out.below hb)
        have Q5 := hid (Q3.out.below hb)
        have N5 := hid (N3.out.below Q3.out hb)
        clear hb R3 X3 L3 Q3 N3
        have x0 := X5.out.1
        go_wp2_with fail
        refine (c_l3Own a F ca w5 Q5.out hl hk N5.out).mono ?_
        rintro e w6 ⟨u, rfl, hG6, hb6⟩
        have HG6 := hid hG6
        obtain ⟨ua, uc, rfl, _⟩ := hG6.form
        have hb7 := (Below.refl w6.heap.size w6).alloc (Nat.le_refl _) (.cells #[.slice ua F.length uc, .bool false] 86)
        have hSF : SF (w6.alloc (.cells #[.slice ua F.length uc, .bool false] 86)) w5.heap.size w6.heap.size (.slice ua F.length uc) F := by
          refine ⟨HG6.out.below hb7, (two_row (heap_alloc_new _ _)).congr fun j hj => ?_, hb6.size⟩
          rcases (show j = 0 ∨ j = 1 by omega) with rfl | rfl
          · simp
          · simp; omega
        have HSF := hid hSF
        have B7 := hid (hb6.trans (hb7.mono hb6.size))
        have HCT := hid (c_stree L la lca w5 L5.out hLl w5.heap.size w6.heap.size (Nat.le_refl _) lv.toNat 0 0 _ F _ n5 HGR.out (by have := HP4.out; omega) (by omega) (by have := HP2.out; omega) (by omega) (by have := HP2.out; omega) HSF.out B7.out)
        rw [show ((lv.toNat : Nat) : Int) = lv by omega] at HCT
        clear hG6 hb6 hb7 hSF x0
        go_wp2_with fail
        refine HCT.out.mono ?_
        rintro e w7 ⟨v7, rfl, hS7, hb7⟩
        have HS7 := hid hS7
        have B8 := hid (B7.out.trans hb7)
        have hmost := HT.out.most
        clear HCT hS7 hb7
        have HTL := hid (c_tell ((treeL L lv.toNat 0 0 F).2 : Int) w7 HS7.out (by have := HP4.out; omega) HT.out.grows.kidsLe)
        clear hmost
        go_wp2_with fail
        refine HTL.out.mono ?_
        rintro e w8 ⟨u8, rfl, hG8, hb8⟩
        have HG8 := hid hG8
        obtain ⟨ua8, uc8, rfl, _⟩ := hG8.form
        have B9 := hid (B8.out.trans (hb8.mono B8.out.size))
        have R9 := R5.out.of_block (B9.out.block _ R5.out.lt)
        have r0 := R9.cell (i := 0) (by omega)
        have f0 := R9.frozen 0
        have E0 := hid ((R9.set 0 (.slice ua8 (tellF (treeL L lv.toNat 0 0 F).1).length uc8)).cell (i := 0) (by omega))
        simp only [if_true] at E0
        have HG9 := hid ((HG8.out.setRow (o := 0) R9 (by decide) (by decide) (.slice ua8 (tellF (treeL L lv.toNat 0 0 F).1).length uc8)).mono (show w.heap.size ≤ _ from Nat.le_trans X5.out.2.2.size B8.out.size))
        have HB9 := hid ((X5.out.2.2.trans (B9.out.mono X5.out.2.2.size)).setCell (p := ⟨w.heap.size + 1, 0, none⟩) (by dsimp only; omega) (.slice ua8 (tellF (treeL L lv.toNat 0 0 F).1).length uc8))
        clear HTL hG8 HG8 hb8 R9 B8 HS7
        unfold tofR at HV
        generalize hT : tellF (treeL L lv.toNat 0 0 F).1 = TF at *
        generalize tellQ (treeL L lv.toNat 0 0 F).1 ((treeL L lv.toNat 0 0 F).2 : Int) = TQ at *
        generalize tellB (treeL L lv.toNat 0 0 F).1 = TB at *
        clear hT
        go_wp2_with fail
        rw [HV.out.1, HV.out.2.1, HV.out.2.2]
        exact bodyPost_ret (v := .tuple #[.agg #[.slice ua8 TF.length uc8], .int .i64 TQ, .bool TB]) (by simp [results, Tryz.results46, go_sem, E0.out]) rfl ⟨.slice ua8 TF.length uc8, rfl, HG9.out, HB9.out⟩

end Go.Proofs.YtokemdbgcegjiaaGreat
