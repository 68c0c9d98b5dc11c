/- What both LevelOf answer. -/
import Derived.Test.YtmapbkefndbnnaaGroveP
namespace Go.Proofs.Ytmapbkefndbnnaa
open Go.RowKit Go.Maps
set_option linter.unusedVariables false
set_option linter.unusedSimpArgs false
attribute [local go_sem ↓] Go.wp_at_zero Go.wp_at_succ

/-- Is there such a quad in a good forest? -/
def thereB (F : List Qd) (q : Int) : Bool := goodF F && inB 0 ((F.length : Int) - 1) q
def levV (F : List Qd) (q : Int) : Int := if thereB F q then (qa F q.toNat).1 else 0
theorem c_sGoodForest' (a : Option Addr) (F : List Qd) (ca : Nat) (v : Bool) (hv : goodF F = v) (w : World) (ha : QSeg w a F) (hl : F.length ≤ 1048576) (hk : KidsLe F) (hca : F.length ≤ ca) (hcm : ca ≤ 9223372036854775807) :
    Calls Try.prog 20 #[.agg #[.slice a F.length ca]] w fun e w' => e = .returned (.bool v) ∧ Below w.heap.size w w' := by
  rw [← hv]; exact c_sGoodForest a F ca w ha hl hk hca hcm

set_option maxHeartbeats 1000000 in
theorem c_l3There (a : Option Addr) (F : List Qd) (ca : Nat) (q : Int) (w : World) (ha : QSeg w a F) (hl : F.length ≤ 1048576) (hk : KidsLe F) (hca : F.length ≤ ca) (hcm : ca ≤ 9223372036854775807) :
    Calls Try.prog 92 #[.agg #[.slice a F.length ca], .int .i64 q] w fun e w' => e = .returned (.bool (thereB F q)) ∧ Below w.heap.size w w' := by
  have BX := hid (Box1.new w (.slice a F.length ca) 25)
  cases hg : goodF F
  · have HC := hid (c_sGoodForest' a F ca false hg _ (ha.below BX.out.2.2) hl hk hca hcm)
    have HV : Hid (thereB F q = false) := by simp [Hid, thereB, hg]
    clear ha hg
    go_enter Try.func92, Try.ntmps92
    go_wp2_with fail
    refine HC.out.mono ?_
    rintro e w1 ⟨rfl, hb⟩
    clear HC
    go_wp2
    go_ret
    exact ⟨ret_bool HV.out.symm, (BX.out.step hb).2.2⟩
  · have HC := hid (c_sGoodForest' a F ca true hg _ (ha.below BX.out.2.2) hl hk hca hcm)
    have HV0 : Hid (thereB F q = inB 0 ((F.length : Int) - 1) q) := by simp [Hid, thereB, hg]
    clear ha hg
    by_cases h0 : 0 ≤ q
    · have d0 : decide (0 ≤ q) = true := decide_eq_true h0
      by_cases h1 : q < (F.length : Int)
      · have d1 : decide (q < (F.length : Int)) = true := decide_eq_true h1
        have HV := hid (show thereB F q = true by rw [HV0.out]; simp [inB]; omega)
        go_enter Try.func92, Try.ntmps92
        go_wp2_with fail
        refine HC.out.mono ?_
        rintro e w1 ⟨rfl, hb⟩
        clear HC
        have x := (BX.out.step hb).1
        go_wp2
        go_ret
        exact ⟨ret_bool HV.out.symm, (BX.out.step hb).2.2⟩
      · have d1 : decide (q < (F.length : Int)) = false := decide_eq_false h1
        have HV := hid (show thereB F q = false by rw [HV0.out]; unfold inB; rw [decide_eq_false (show ¬ q ≤ (F.length : Int) - 1 by omega)]; simp)
        go_enter Try.func92, Try.ntmps92
        go_wp2_with fail
        refine HC.out.mono ?_
        rintro e w1 ⟨rfl, hb⟩
        clear HC
        have x := (BX.out.step hb).1
        go_wp2
        go_ret
        exact ⟨ret_bool HV.out.symm, (BX.out.step hb).2.2⟩
    · have d0 : decide (0 ≤ q) = false := decide_eq_false h0
      have HV := hid (show thereB F q = false by rw [HV0.out]; unfold inB; rw [d0]; rfl)
      go_enter Try.func92, Try.ntmps92
      go_wp2_with fail
      refine HC.out.mono ?_
      rintro e w1 ⟨rfl, hb⟩
      clear HC
      go_wp2
      go_ret
      exact ⟨ret_bool HV.out.symm, (BX.out.step hb).2.2⟩
theorem c_l3There' (a : Option Addr) (F : List Qd) (ca : Nat) (q : Int) (v : Bool) (hv : thereB F q = v) (w : World) (ha : QSeg w a F) (hl : F.length ≤ 1048576) (hk : KidsLe F) (hca : F.length ≤ ca) (hcm : ca ≤ 9223372036854775807) :
    Calls Try.prog 92 #[.agg #[.slice a F.length ca], .int .i64 q] w fun e w' => e = .returned (.bool v) ∧ Below w.heap.size w w' := by
  rw [← hv]; exact c_l3There a F ca q w ha hl hk hca hcm
theorem there_bd {F : List Qd} {q : Int} (h : thereB F q = true) : goodF F = true ∧ 0 ≤ q ∧ q < (F.length : Int) := by
  simp only [thereB, Bool.and_eq_true] at h
  have := inB_bd h.2
  exact ⟨h.1, by omega, by omega⟩

set_option maxHeartbeats 1000000 in
theorem c_sLevelOf (a : Option Addr) (F : List Qd) (ca : Nat) (q : Int) (w : World) (ha : QSeg w a F) (hl : F.length ≤ 1048576) (hk : KidsLe F) (hca : F.length ≤ ca) (hcm : ca ≤ 9223372036854775807) :
    Calls Try.prog 40 #[.agg #[.slice a F.length ca], .int .i64 q] w fun e w' => e = .returned (.tuple #[.int .i64 (levV F q), .bool (thereB F q)]) ∧ Below w.heap.size w w' := by
  have BX := hid (Box1.new w (.slice a F.length ca) 25)
  cases ht : thereB F q
  · have HC := hid (c_l3There' a F ca q false ht _ (ha.below BX.out.2.2) hl hk hca hcm)
    have HV : Hid (levV F q = 0) := by simp [Hid, levV, ht]
    clear ha ht
    go_enter Try.func40, Try.ntmps40
    go_wp2_with fail
    refine HC.out.mono ?_
    rintro e w1 ⟨rfl, hb⟩
    clear HC
    go_wp2
    go_ret2
    exact ⟨by rw [HV.out]; rfl, (BX.out.step hb).2.2⟩
  · have HC := hid (c_l3There' a F ca q true ht _ (ha.below BX.out.2.2) hl hk hca hcm)
    have HV : Hid (levV F q = (qa F q.toNat).1) := by simp [Hid, levV, ht]
    obtain ⟨_, h0, h1⟩ := there_bd ht
    obtain ⟨b1, o1, ak, ck, rfl, hb1, p1, _⟩ := ha q.toNat (by omega)
    clear ha ht
    go_enter Try.func40, Try.ntmps40
    go_wp2_with fail
    refine HC.out.mono ?_
    rintro e w1 ⟨rfl, hb⟩
    have X1 := hid (BX.out.step hb)
    have x := X1.out.1
    have y := (X1.out.2.2.cell (p := ⟨b1, o1 + q.toNat * 2, none⟩) hb1).trans p1
    clear HC p1 BX hb
    go_wp2
    go_ret2
    exact ⟨by rw [HV.out]; rfl, X1.out.2.2⟩

set_option maxHeartbeats 1000000 in
theorem c_iLevelOf (a : Option Addr) (F : List Qd) (ca : Nat) (q : Int) (w : World) (ha : QSeg w a F) (hl : F.length ≤ 1048576) (hk : KidsLe F) (hca : F.length ≤ ca) (hcm : ca ≤ 9223372036854775807) :
    Calls Try.prog 23 #[.agg #[.slice a F.length ca], .int .i64 q] w fun e w' => e = .returned (.tuple #[.int .i64 (levV F q), .bool (thereB F q)]) ∧ Below w.heap.size w w' := by
  have BX := hid (Box1.new w (.slice a F.length ca) 25)
  have HC := hid (c_groveOf a F ca _ (ha.below BX.out.2.2) hl hk hca hcm)
  clear ha
  cases hg : goodF F
  · have HT : Hid (thereB F q = false) := by simp [Hid, thereB, hg]
    have HV : Hid (levV F q = 0) := by simp [Hid, levV, HT.out]
    rw [hg] at HC
    go_enter Try.func23, Try.ntmps23
    go_wp2_with fail
    refine HC.out.mono ?_
    rintro e w1 ⟨pv, rfl, ho, hb⟩
    clear HC ho
    go_wp2
    go_ret2
    exact ⟨by rw [HV.out, HT.out]; rfl, (BX.out.step hb).2.2⟩
  · rw [hg] at HC
    have HG := hid hg
    go_enter Try.func23, Try.ntmps23
    go_wp2_with fail
    refine HC.out.mono ?_
    rintro e w1 ⟨pv, rfl, ho, hb⟩
    have X1 := hid (BX.out.step hb)
    clear HC hb BX
    rcases ho with ⟨_, p, g, cap, mb, base, _, rfl, hGr⟩ | ⟨e, _⟩
    · have H1 := hid hGr
      have c0 := hGr.c0
      cases hin : inB 0 ((F.length : Int) - 1) q
      · have HT : Hid (thereB F q = false) := by simp [Hid, thereB, hin]
        have HV : Hid (levV F q = 0) := by simp [Hid, levV, HT.out]
        have HH := hid (c_has' q false w1 hin H1.out)
        clear hGr hin hg
        go_wp2_with fail
        refine HH.out.mono ?_
        rintro e w2 ⟨rfl, hb⟩
        go_wp2
        go_ret2
        exact ⟨by rw [HV.out, HT.out]; rfl, (X1.out.step hb).2.2⟩
      · have HT : Hid (thereB F q = true) := by simp [Hid, thereB, hin, hg]
        have HV : Hid (levV F q = (qa F q.toNat).1) := by simp [Hid, levV, HT.out]
        have HH := hid (c_has' q true w1 hin H1.out)
        have hbd := inB_bd hin
        clear hGr hin hg c0
        go_wp2_with fail
        refine HH.out.mono ?_
        rintro e w2 ⟨rfl, hb⟩
        have H2 := hid (H1.out.below hb)
        have c0 := H2.out.c0
        have cl := H2.out.lev (i := q.toNat) (by omega)
        have i0 : 0 ≤ q := hbd.1
        have i1 : q < (F.length : Int) := by omega
        clear HH H1
        go_wp2
        go_ret2
        exact ⟨by rw [HV.out, HT.out]; rfl, (X1.out.step hb).2.2⟩
    · rw [HG.out] at e; cases e

end Go.Proofs.Ytmapbkefndbnnaa
