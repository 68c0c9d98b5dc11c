/- What MoveCells answers, both of them: cells moved, where they are good then. -/
import Derived.Test.YthmjcjcamcdpkaaDoorApp
namespace Go.Proofs.YthmjcjcamcdpkaaDoor
open Go.RowKit
set_option linter.unusedVariables false

/-- Cells moved. -/
def mv (l : List Cl) (x y : Int) : List Cl := l.map fun c => (c.1 + x, c.2 + y)
theorem mv_length (l : List Cl) (x y : Int) : (mv l x y).length = l.length := by simp [mv]
theorem mv_take_succ {l : List Cl} {x y : Int} {k : Nat} (h : k < l.length) : mv (l.take (k + 1)) x y = mv (l.take k) x y ++ [((at_ l k).1 + x, (at_ l k).2 + y)] := by
  rw [List.take_succ_eq_append_getElem h]
  unfold mv
  rw [List.map_append]
  simp [at_, h]
theorem mv_at {l : List Cl} {x y : Int} {k : Nat} (h : k < l.length) : at_ (mv l x y) k = ((at_ l k).1 + x, (at_ l k).2 + y) := by simp [at_, mv, h]

/-- May cells be moved so far? -/
def inM (n : Int) : Bool := decide (-100 ≤ n) && decide (n ≤ 100)

theorem c_l1In100 (n : Int) (v : Bool) (h : inM n = v) (w : World) : Calls Tryd.prog 22 #[.int .i64 n, .int .i64 (-100), .int .i64 100] w fun e w' => e = .returned (.bool v) ∧ w' = w := by
  rw [← h]; exact c_l1In n (-100) 100 w

set_option maxHeartbeats 400000 in
theorem c_onlyGood (a : Option Addr) (l : List Cl) (ca base : Nat) (w : World) (ho : OwnS w base (.slice a l.length ca) l) (ha : Seg w a l) (hl : l.length ≤ 1048576) :
    Calls Tryd.prog 24 #[.slice a l.length ca] w fun e w' => ∃ v, e = .returned (.tuple #[v, .bool (good l)]) ∧ OwnS w' base v (tellV l) ∧ Below w.heap.size w w' := by
  cases hg : good l
  · have HC := hid (c_iGood' a l ca false hg _ ha hl)
    have HV : Hid (tellV l = []) := by simp [Hid, tellV, hg]
    clear ha ho
    go_enter Tryd.func24, Tryd.ntmps24
    go_wp2_with fail
    refine HC.out.mono ?_
    rintro e w1 ⟨rfl, hb1⟩
    go_wp2
    go_ret2
    exact ⟨_, rfl, by rw [HV.out]; exact OwnS.nil _ _, hb1⟩
  · have HC := hid (c_iGood' a l ca true hg _ ha hl)
    have HV : Hid (tellV l = l) := by simp [Hid, tellV, hg]
    have HO := hid ho
    clear ha ho
    go_enter Tryd.func24, Tryd.ntmps24
    go_wp2_with fail
    refine HC.out.mono ?_
    rintro e w1 ⟨rfl, hb1⟩
    go_wp2
    go_ret2
    exact ⟨_, rfl, by rw [HV.out]; exact HO.out.below hb1, hb1⟩

/-- What MoveCells answers. -/
def moveOk (l : List Cl) (x y : Int) : Bool := good l && inM x && inM y && good (mv l x y)
def moveL (l : List Cl) (x y : Int) : List Cl := if good l && inM x && inM y then tellV (mv l x y) else []
theorem inM_bd {n : Int} (h : inM n = true) : -100 ≤ n ∧ n ≤ 100 := by simp [inM] at h; exact h
theorem tellV_le (l : List Cl) : (tellV l).length ≤ 120 := by
  unfold tellV; split
  · rename_i h; exact good_le h
  · simp
theorem moveL_le (l : List Cl) (x y : Int) : (moveL l x y).length ≤ 120 := by
  unfold moveL; split
  · exact tellV_le _
  · simp

end Go.Proofs.YthmjcjcamcdpkaaDoor
