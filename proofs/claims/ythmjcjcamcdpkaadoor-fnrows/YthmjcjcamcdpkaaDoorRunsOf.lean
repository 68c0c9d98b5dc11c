/- What both RunsOf answer. -/
import Derived.Test.YthmjcjcamcdpkaaDoorRunsS
import Derived.Test.YthmjcjcamcdpkaaDoorRunsT
namespace Go.Proofs.YthmjcjcamcdpkaaDoor
open Go.RowKit
set_option linter.unusedVariables false

/-- What RunsOf answers. -/
def runsOk (l : List Cl) : Bool := inTTo l l.length && good l
def runsTx (l : List Cl) : Tx := ⟨(if runsOk l then runs l else []).toArray⟩
theorem runsOk_text {l : List Cl} (h : runsOk l = true) : TextL l := by
  simp only [runsOk, Bool.and_eq_true] at h
  exact ⟨good_len h.2, good_ris h.2, h.1⟩
theorem inT_x {c : Cl} (h : (decide (0 ≤ c.1) && decide (c.1 ≤ 30)) = false) : inT c = false := by simp only [inT, h, Bool.false_and]
theorem inT_y {c : Cl} (h : (decide (0 ≤ c.2) && decide (c.2 ≤ 30)) = false) : inT c = false := by
  simp only [inT, Bool.and_assoc]
  rw [h]
  simp
theorem inT_xy {c : Cl} (h : (decide (0 ≤ c.1) && decide (c.1 ≤ 30)) = true) (h2 : (decide (0 ≤ c.2) && decide (c.2 ≤ 30)) = true) : inT c = true := by
  simp only [inT, Bool.and_assoc]
  rw [h2]
  simpa using h
theorem c_l1In30 (n : Int) (v : Bool) (h : (decide (0 ≤ n) && decide (n ≤ 30)) = v) (w : World) : Calls Tryd.prog 22 #[.int .i64 n, .int .i64 0, .int .i64 30] w fun e w' => e = .returned (.bool v) ∧ w' = w := by
  rw [← h]; exact c_l1In n 0 30 w

set_option maxHeartbeats 1000000 in
theorem c_l2Small (a : Option Addr) (l : List Cl) (ca : Nat) (w : World) (ha : Seg w a l) (hl : l.length ≤ 1048576) :
    Calls Tryd.prog 52 #[.slice a l.length ca] w fun e w' => e = .returned (.bool (runsOk l)) ∧ Below w.heap.size w w' := by
  go_enter Tryd.func52, Tryd.ntmps52
  go_wp2
  go_loopw [7] (fun i wr => ∃ k : Nat, k ≤ l.length ∧ i = .int .i64 k ∧ Hid (inTTo l k = true) ∧ Below w.heap.size w wr) (fun i _ => l.length - (intOf i).toNat)
  case atStart => exact ⟨0, Nat.zero_le _, rfl, (rfl : _ = _), Below.refl _ _⟩
  case round =>
    obtain ⟨k, hk, rfl, hT, hbel⟩ := hrel
    by_cases hlt : k < l.length
    · obtain ⟨b1, o1, rfl, hb1, p1, p2⟩ := ha k hlt
      have g1 := (hbel.cell (p := ⟨b1, o1 + k * 2, none⟩) hb1).trans p1
      have g2 := (hbel.cell (p := ⟨b1, o1 + k * 2 + 1, none⟩) hb1).trans p2
      change _ = some (Value.int .i64 (at_ l k).1) at g1
      change _ = some (Value.int .i64 (at_ l k).2) at g2
      clear p1 p2
      have k0 : (0 : Int) ≤ (k : Int) := by omega
      have k1 : (k : Int) < (l.length : Int) := by omega
      have HNO := hid (fun h : inT (at_ l k) = false => show runsOk l = false by simp [runsOk, inTTo_false hlt h])
      have HSU := hid (inTTo_succ l k)
      have HB := hid (hbel.alloc hbel.size (.cells #[.int .i64 (at_ l k).1, .int .i64 (at_ l k).2] 33))
      clear hbel
      generalize at_ l k = c at *
      cases hx : (decide (0 ≤ c.1) && decide (c.1 ≤ 30))
      · have HI := hid (c_l1In30 c.1 false hx)
        have HQ := hid (HNO.out (inT_x hx))
        go_wp2_with fail
        refine (HI.out _).mono ?_
        rintro e w1 ⟨rfl, rfl⟩
        go_wp2
        go_ret
        exact ⟨ret_bool HQ.out.symm, HB.out⟩
      · have HI := hid (c_l1In30 c.1 true hx)
        cases hy : (decide (0 ≤ c.2) && decide (c.2 ≤ 30))
        · have HJ := hid (c_l1In30 c.2 false hy)
          have HQ := hid (HNO.out (inT_y hy))
          go_wp2_with fail
          refine (HI.out _).mono ?_
          rintro e w1 ⟨rfl, rfl⟩
          go_wp2_with fail
          refine (HJ.out _).mono ?_
          rintro e w1 ⟨rfl, rfl⟩
          go_wp2
          go_ret
          exact ⟨ret_bool HQ.out.symm, HB.out⟩
        · have HJ := hid (c_l1In30 c.2 true hy)
          have HQ := hid (inT_xy hx hy)
          go_wp2_with fail
          refine (HI.out _).mono ?_
          rintro e w1 ⟨rfl, rfl⟩
          go_wp2_with fail
          refine (HJ.out _).mono ?_
          rintro e w1 ⟨rfl, rfl⟩
          go_wp2
          go_roundw
          case rel => exact ⟨k + 1, by omega, by go_num, (show _ = true by rw [HSU.out, hT.out, HQ.out]; rfl), HB.out⟩
          case measure => simp [intOf]; omega
    · obtain rfl : k = l.length := by omega
      have HQ : Hid (runsOk l = good l) := by simp [Hid, runsOk, hT.out]
      have HB := hid hbel
      have HC := hid (c_sGood a l ca wr (ha.below hbel) hl)
      clear hbel
      go_wp2_with fail
      refine HC.out.mono ?_
      rintro e w1 ⟨rfl, hb1⟩
      go_wp2
      go_ret
      exact ⟨ret_bool HQ.out.symm, HB.out.trans (hb1.mono HB.out.size)⟩
theorem c_sRunsOf (a : Option Addr) (l : List Cl) (ca : Nat) (w : World) (ha : Seg w a l) (hl : l.length ≤ 1048576) :
    Calls Tryd.prog 41 #[.slice a l.length ca] w fun e w' => e = .returned (.tuple #[.string (runsTx l), .bool (runsOk l)]) ∧ Below w.heap.size w w' := by
  cases hg : runsOk l
  · have HC := hid (c_l2Small a l ca w ha hl)
    rw [hg] at HC
    have HV : Hid (runsTx l = ⟨#[]⟩) := by simp [Hid, runsTx, hg]
    clear ha
    go_enter Tryd.func41, Tryd.ntmps41
    go_wp2_with fail
    refine HC.out.mono ?_
    rintro e w1 ⟨rfl, hb1⟩
    go_wp2
    go_ret2
    exact ⟨by rw [HV.out]; rfl, hb1⟩
  · have HC := hid (c_l2Small a l ca w ha hl)
    rw [hg] at HC
    have HV : Hid (runsTx l = ⟨(runs l).toArray⟩) := by simp [Hid, runsTx, hg]
    have HT := hid (runsOk_text hg)
    go_enter Tryd.func41, Tryd.ntmps41
    go_wp2_with fail
    refine HC.out.mono ?_
    rintro e w1 ⟨rfl, hb1⟩
    have HS := hid (ha.below hb1)
    have HB := hid hb1
    clear ha hb1
    go_wp2_with fail
    refine (c_l2Runs a l ca w1 HS.out HT.out).mono ?_
    rintro e w2 ⟨rfl, hb2⟩
    go_wp2
    go_ret2
    exact ⟨by rw [HV.out]; rfl, HB.out.trans (hb2.mono HB.out.size)⟩

end Go.Proofs.YthmjcjcamcdpkaaDoor
