/- What MoveCells answers, both of them: cells moved, where they are good then. -/
import Derived.Test.YtgfdkolhldbehaaApp
namespace Go.Proofs.Ytgfdkolhldbehaa
open Go.RowKit
set_option linter.unusedVariables false

/-- Cells moved. -/
def mv (l : List Cl) (x y : Int) : List Cl := l.map fun c => (c.1 + x, c.2 + y)
theorem mv_length (l : List Cl) (x y : Int) : (mv l x y).length = l.length := by simp [mv]
theorem mv_take_succ {l : List Cl} {x y : Int} {k : Nat} (h : k < l.length) : mv (l.take (k + 1)) x y = mv (l.take k) x y ++ [((at_ l k).1 + x, (at_ l k).2 + y)] := by
  rw [List.take_succ_eq_append_getElem h]
  unfold mv
  rw [List.map_append]
  simp [at_, h]
theorem mv_at {l : List Cl} {x y : Int} {k : Nat} (h : k < l.length) : at_ (mv l x y) k = ((at_ l k).1 + x, (at_ l k).2 + y) := by simp [at_, mv, h]

set_option maxHeartbeats 400000 in
theorem c_l1Move (a : Option Addr) (l : List Cl) (ca : Nat) (x y : Int) (w : World) (ha : Seg w a l) (hl : l.length ≤ 1048576) (hin : ∀ i, i < l.length → inR (at_ l i) = true) (hx : -100 ≤ x ∧ x ≤ 100) (hy : -100 ≤ y ∧ y ≤ 100) :
    Calls Try.prog 115 #[.slice a l.length ca, .int .i64 x, .int .i64 y] w fun e w' => ∃ v, e = .returned v ∧ OwnS w' w.heap.size v (mv l x y) ∧ Below w.heap.size w w' := by
  obtain ⟨x1, x2⟩ := hx
  obtain ⟨y1, y2⟩ := hy
  have HIN := hid hin
  clear hin
  go_enter Try.func115, Try.ntmps115
  go_wp2
  go_loopw [7, 12] (fun v i wr => ∃ k : Nat, k ≤ l.length ∧ i = .int .i64 k ∧ OwnS wr w.heap.size v (mv (l.take k) x y) ∧ Below w.heap.size w wr) (fun _ i _ => l.length - (intOf i).toNat)
  case atStart => exact ⟨0, Nat.zero_le _, rfl, OwnS.nil _ _, Below.refl _ _⟩
  case round =>
    obtain ⟨k, hk, rfl, hO, hB⟩ := hrel
    have HO := hid hO
    have HB := hid hB
    by_cases hlt : k < l.length
    · obtain ⟨b1, o1, rfl, hb1, p1, p2⟩ := ha k hlt
      have g1 := (hB.cell (p := ⟨b1, o1 + k * 2, none⟩) hb1).trans p1
      have g2 := (hB.cell (p := ⟨b1, o1 + k * 2 + 1, none⟩) hb1).trans p2
      change _ = some (Value.int .i64 (at_ l k).1) at g1
      change _ = some (Value.int .i64 (at_ l k).2) at g2
      clear p1 p2 hO hB
      have k0 : (0 : Int) ≤ (k : Int) := by omega
      have k1 : (k : Int) < (l.length : Int) := by omega
      have hr := HIN.out k hlt
      simp only [inR, Bool.and_eq_true, decide_eq_true_eq] at hr
      obtain ⟨⟨⟨r1, r2⟩, r3⟩, r4⟩ := hr
      have HS := hid (mv_take_succ (x := x) (y := y) hlt)
      have hll : (mv (l.take k) x y).length ≤ 1048576 := by rw [mv_length, List.length_take]; omega
      generalize at_ l k = c at *
      generalize mv (l.take k) x y = lm at *
      have HO1 := hid ((HO.out.below ((Below.refl wr.heap.size wr).alloc (Nat.le_refl _) (.cells #[.int .i64 c.1, .int .i64 c.2] 36))).below ((Below.refl _ _).alloc (Nat.le_refl _) (.cells #[.int .i64 (c.1 + x), .int .i64 (c.2 + y)] 36)))
      have HB1 := hid ((HB.out.alloc HB.out.size (.cells #[.int .i64 c.1, .int .i64 c.2] 36)).alloc (by have := HB.out.size; simp; omega) (.cells #[.int .i64 (c.1 + x), .int .i64 (c.2 + y)] 36))
      have hs2 : (wr.alloc (.cells #[.int .i64 c.1, .int .i64 c.2] 36)).heap.size = wr.heap.size + 1 := by simp
      have HSeg := (seg_block (c := (c.1 + x, c.2 + y)) (heap_alloc_new (wr.alloc (.cells #[.int .i64 c.1, .int .i64 c.2] 36)) (.cells #[.int .i64 (c.1 + x), .int .i64 (c.2 + y)] 36)))
      rw [hs2] at HSeg
      have HSg := hid HSeg
      clear HSeg hs2
      go_wp2_with (at_builtin; refine wpList_app rfl _ _ rfl w.heap.size _ lm [(c.1 + x, c.2 + y)] _ 1 rfl HO1.out rfl HSg.out (by intro h; cases h) (by simp; omega) HB1.out.size ?_; intro v' w2 hO2 hG2)
      go_roundw
      case rel => exact ⟨k + 1, by omega, by go_num, by rw [HS.out]; exact hO2, below_grown HB1.out HO1.out hG2⟩
      case measure => simp [intOf]; omega
    · go_wp2
      go_ret
      have : k = l.length := by omega
      subst this
      exact ⟨_, rfl, by simpa using hO, hB⟩


set_option maxHeartbeats 400000 in
theorem c_moveFreely (a : Option Addr) (l : List Cl) (ca : Nat) (x y : Int) (w : World) (ha : Seg w a l) (hl : l.length ≤ 1048576) (hin : ∀ i, i < l.length → inR (at_ l i) = true) (hx : -100 ≤ x ∧ x ≤ 100) (hy : -100 ≤ y ∧ y ≤ 100) :
    Calls Try.prog 69 #[.slice a l.length ca, .int .i64 x, .int .i64 y] w fun e w' => e = .returned (.slice (some ⟨w.heap.size, 0, none⟩) l.length l.length) ∧ Row w' w.heap.size (mv l x y) ∧ Below w.heap.size w w' := by
  obtain ⟨x1, x2⟩ := hx
  obtain ⟨y1, y2⟩ := hy
  have HIN := hid hin
  clear hin
  have hmk := make_Cells l.length hl
  have hml := mv_length l x y
  have R0 := made_row w (mv l x y)
  rw [hml] at R0
  have HR0 := hid R0
  have HML := hid hml
  clear R0 hml
  go_enter Try.func69, Try.ntmps69
  go_wp2
  go_loopw [15] (fun i wr => ∃ k : Nat, k ≤ l.length ∧ i = .int .i64 k ∧ wr.rowIs w.heap.size 36 (l.length * 2) (cellTo (mv l x y) k) ∧ Below w.heap.size w wr) (fun i _ => l.length - (intOf i).toNat)
  case atStart => exact ⟨0, Nat.zero_le _, rfl, HR0.out, (Below.refl _ _).alloc (Nat.le_refl _) _⟩
  case round =>
    clear HR0 hmk
    obtain ⟨k, hk, rfl, hR, hbel⟩ := hrel
    by_cases hlt : k < l.length
    · obtain ⟨b1, o1, rfl, hb1, p1, p2⟩ := ha k hlt
      have g1 := (hbel.cell (p := ⟨b1, o1 + k * 2, none⟩) hb1).trans p1
      have g2 := (hbel.cell (p := ⟨b1, o1 + k * 2 + 1, none⟩) hb1).trans p2
      change _ = some (Value.int .i64 (at_ l k).1) at g1
      change _ = some (Value.int .i64 (at_ l k).2) at g2
      clear p1 p2
      have k0 : (0 : Int) ≤ (k : Int) := by omega
      have k1 : (k : Int) < (l.length : Int) := by omega
      have hr := HIN.out k hlt
      simp only [inR, Bool.and_eq_true, decide_eq_true_eq] at hr
      obtain ⟨⟨⟨r1, r2⟩, r3⟩, r4⟩ := hr
      have hat := mv_at (x := x) (y := y) hlt
      have c1 := hR.cell (i := k * 2) (by omega)
      have c2 := hR.cell (i := k * 2 + 1) (by omega)
      have f1 := hR.frozen (k * 2)
      have f2 := hR.frozen (k * 2 + 1)
      have hlm : k < (mv l x y).length := by rw [HML.out]; exact hlt
      have RS := row_step (l := mv l x y) (g := w.heap.size) (k := k) (w := wr) (by rw [HML.out]; exact hR) hlm
      rw [hat, HML.out] at RS
      have HRS := hid (RS.alloc (.cells #[.int .i64 (at_ l k).1, .int .i64 (at_ l k).2] 36))
      have HBL := hid (((hbel.setCell (p := ⟨w.heap.size, k * 2, none⟩) (Nat.le_refl _) (.int .i64 ((at_ l k).1 + x))).setCell (p := ⟨w.heap.size, k * 2 + 1, none⟩) (Nat.le_refl _) (.int .i64 ((at_ l k).2 + y))).alloc (by have := hbel.size; simpa using this) (.cells #[.int .i64 (at_ l k).1, .int .i64 (at_ l k).2] 36))
      have hgw := hR.lt
      clear RS hR hat hlm hbel
      generalize at_ l k = c at *
      go_wp2
      go_roundw
      case rel => exact ⟨k + 1, by omega, by go_num, HRS.out, HBL.out⟩
      case measure => simp [intOf]; omega
    · go_wp2
      go_ret
      have : k = l.length := by omega
      subst this
      refine ⟨rfl, ?_, hbel⟩
      have e := HML.out
      rw [← e] at hR
      exact row_done hR

/-- May cells be moved so far? -/
def inM (n : Int) : Bool := decide (-100 ≤ n) && decide (n ≤ 100)

set_option maxHeartbeats 400000 in
theorem c_isMove (n : Int) (w : World) : Calls Try.prog 67 #[.int .i64 n] w fun e w' => e = .returned (.bool (inM n)) ∧ w' = w := by
  by_cases h1 : -100 ≤ n <;> by_cases h2 : n ≤ 100
  all_goals
    go_enter Try.func67, Try.ntmps67
    go_wp2
    go_ret
    exact ⟨ret_bool (by simp [inM, h1, h2] <;> omega), rfl⟩
theorem c_isMove' (n : Int) (v : Bool) (h : inM n = v) (w : World) : Calls Try.prog 67 #[.int .i64 n] w fun e w' => e = .returned (.bool v) ∧ w' = w := by
  rw [← h]; exact c_isMove n w
theorem c_l1In100 (n : Int) (v : Bool) (h : inM n = v) (w : World) : Calls Try.prog 102 #[.int .i64 n, .int .i64 (-100), .int .i64 100] w fun e w' => e = .returned (.bool v) ∧ w' = w := by
  rw [← h]; exact c_l1In n (-100) 100 w

set_option maxHeartbeats 400000 in
theorem c_onlyGood (a : Option Addr) (l : List Cl) (ca base : Nat) (w : World) (ho : OwnS w base (.slice a l.length ca) l) (ha : Seg w a l) (hl : l.length ≤ 1048576) :
    Calls Try.prog 68 #[.slice a l.length ca] w fun e w' => ∃ v, e = .returned (.tuple #[v, .bool (good l)]) ∧ OwnS w' base v (tellV l) ∧ Below w.heap.size w w' := by
  cases hg : good l
  · have HC := hid (c_iGood' a l ca false hg _ ha hl)
    have HV : Hid (tellV l = []) := by simp [Hid, tellV, hg]
    clear ha ho
    go_enter Try.func68, Try.ntmps68
    go_wp2_with fail
    refine HC.out.mono ?_
    rintro e w1 ⟨rfl, hb1⟩
    go_wp2
    go_ret2
    exact ⟨_, rfl, by rw [HV.out]; exact OwnS.nil _ _, hb1⟩
  · have HC := hid (c_iGood' a l ca true hg _ ha hl)
    have HV : Hid (tellV l = l) := by simp [Hid, tellV, hg]
    have HO := hid ho
    clear ha ho
    go_enter Try.func68, Try.ntmps68
    go_wp2_with fail
    refine HC.out.mono ?_
    rintro e w1 ⟨rfl, hb1⟩
    go_wp2
    go_ret2
    exact ⟨_, rfl, by rw [HV.out]; exact HO.out.below hb1, hb1⟩

/-- What MoveCells answers. -/
def moveOk (l : List Cl) (x y : Int) : Bool := good l && inM x && inM y && good (mv l x y)
def moveL (l : List Cl) (x y : Int) : List Cl := if good l && inM x && inM y then tellV (mv l x y) else []
theorem inM_bd {n : Int} (h : inM n = true) : -100 ≤ n ∧ n ≤ 100 := by simp [inM] at h; exact h
theorem tellV_le (l : List Cl) : (tellV l).length ≤ 120 := by
  unfold tellV; split
  · rename_i h; exact good_le h
  · simp
theorem moveL_le (l : List Cl) (x y : Int) : (moveL l x y).length ≤ 120 := by
  unfold moveL; split
  · exact tellV_le _
  · simp

set_option maxHeartbeats 1000000 in
theorem c_iMoveCells (a : Option Addr) (l : List Cl) (ca : Nat) (x y : Int) (w : World) (ha : Seg w a l) (hl : l.length ≤ 1048576) :
    Calls Try.prog 17 #[.slice a l.length ca, .int .i64 x, .int .i64 y] w fun e w' => ∃ v, e = .returned (.tuple #[v, .bool (moveOk l x y)]) ∧ OwnS w' w.heap.size v (moveL l x y) ∧ Below w.heap.size w w' := by
  cases hg : good l
  · have HC := hid (c_iGood' a l ca false hg _ ha hl)
    have HV : Hid (moveL l x y = [] ∧ moveOk l x y = false) := by simp [Hid, moveL, moveOk, hg]
    clear ha
    go_enter Try.func17, Try.ntmps17
    go_wp2_with fail
    refine HC.out.mono ?_
    rintro e w1 ⟨rfl, hb1⟩
    go_wp2
    go_ret2
    exact ⟨_, by rw [HV.out.2]; rfl, by rw [HV.out.1]; exact OwnS.nil _ _, hb1⟩
  · have HC := hid (c_iGood' a l ca true hg _ ha hl)
    cases hx : inM x
    · have HV : Hid (moveL l x y = [] ∧ moveOk l x y = false) := by simp [Hid, moveL, moveOk, hg, hx]
      have HI := hid (c_isMove' x false hx)
      clear ha
      go_enter Try.func17, Try.ntmps17
      go_wp2_with fail
      refine HC.out.mono ?_
      rintro e w1 ⟨rfl, hb1⟩
      go_wp2_with fail
      refine (HI.out _).mono ?_
      rintro e w2 ⟨rfl, rfl⟩
      go_wp2
      go_ret2
      exact ⟨_, by rw [HV.out.2]; rfl, by rw [HV.out.1]; exact OwnS.nil _ _, hb1⟩
    · have HI := hid (c_isMove' x true hx)
      cases hy : inM y
      · have HV : Hid (moveL l x y = [] ∧ moveOk l x y = false) := by simp [Hid, moveL, moveOk, hg, hx, hy]
        have HJ := hid (c_isMove' y false hy)
        clear ha
        go_enter Try.func17, Try.ntmps17
        go_wp2_with fail
        refine HC.out.mono ?_
        rintro e w1 ⟨rfl, hb1⟩
        go_wp2_with fail
        refine (HI.out _).mono ?_
        rintro e w2 ⟨rfl, rfl⟩
        go_wp2_with fail
        refine (HJ.out _).mono ?_
        rintro e w3 ⟨rfl, rfl⟩
        go_wp2
        go_ret2
        exact ⟨_, by rw [HV.out.2]; rfl, by rw [HV.out.1]; exact OwnS.nil _ _, hb1⟩
      · have HV : Hid (moveL l x y = tellV (mv l x y) ∧ moveOk l x y = good (mv l x y)) := by simp [Hid, moveL, moveOk, hg, hx, hy]
        have HJ := hid (c_isMove' y true hy)
        go_enter Try.func17, Try.ntmps17
        go_wp2_with fail
        refine HC.out.mono ?_
        rintro e w1 ⟨rfl, hb1⟩
        have HB1 := hid hb1
        clear hb1
        go_wp2_with fail
        refine (HI.out _).mono ?_
        rintro e w2 ⟨rfl, rfl⟩
        go_wp2_with fail
        refine (HJ.out _).mono ?_
        rintro e w3 ⟨rfl, rfl⟩
        go_wp2_with fail
        refine (c_moveFreely a l ca x y _ (ha.below HB1.out) hl (good_in hg) (inM_bd hx) (inM_bd hy)).mono ?_
        rintro e w4 ⟨rfl, hR, hB⟩
        have hml := mv_length l x y
        have HO := hR.own (by rw [hml]; exact hl)
        have HSv := hid hR.seg
        have HB2 := hid (HB1.out.trans (hB.mono HB1.out.size))
        have HT := hid (c_onlyGood _ (mv l x y) _ _ w4 HO HSv.out (by rw [hml]; exact hl))
        rw [hml] at HT
        clear hR hB HO hml
        go_wp2_with fail
        refine HT.out.mono ?_
        rintro e w5 ⟨v, rfl, hO5, hB5⟩
        go_wp2
        go_ret2
        exact ⟨_, by rw [HV.out.2]; rfl, by rw [HV.out.1]; exact hO5.mono HB1.out.size, HB2.out.trans (hB5.mono HB2.out.size)⟩

end Go.Proofs.Ytgfdkolhldbehaa
