/- What MoveCells answers, both of them: cells moved, where they are good then. -/
import Derived.Test.YtmapbkefndbnnaaApp
namespace Go.Proofs.Ytmapbkefndbnnaa
open Go.RowKit
set_option linter.unusedVariables false

/-- Cells moved. -/
def mv (l : List Cl) (x y : Int) : List Cl := l.map fun c => (c.1 + x, c.2 + y)
theorem mv_length (l : List Cl) (x y : Int) : (mv l x y).length = l.length := by simp [mv]
theorem mv_take_succ {l : List Cl} {x y : Int} {k : Nat} (h : k < l.length) : mv (l.take (k + 1)) x y = mv (l.take k) x y ++ [((at_ l k).1 + x, (at_ l k).2 + y)] := by
  rw [List.take_succ_eq_append_getElem h]
  unfold mv
  rw [List.map_append]
  simp [at_, h]
theorem mv_at {l : List Cl} {x y : Int} {k : Nat} (h : k < l.length) : at_ (mv l x y) k = ((at_ l k).1 + x, (at_ l k).2 + y) := by simp [at_, mv, h]

set_option maxHeartbeats 400000 in
theorem c_l1Move (a : Option Addr) (l : List Cl) (ca : Nat) (x y : Int) (w : World) (ha : Seg w a l) (hl : l.length ≤ 1048576) (hin : ∀ i, i < l.length → inR (at_ l i) = true) (hx : -100 ≤ x ∧ x ≤ 100) (hy : -100 ≤ y ∧ y ≤ 100) :
    Calls Try.prog 119 #[.slice a l.length ca, .int .i64 x, .int .i64 y] w fun e w' => ∃ v, e = .returned v ∧ OwnS w' w.heap.size v (mv l x y) ∧ Below w.heap.size w w' := by
  obtain ⟨x1, x2⟩ := hx
  obtain ⟨y1, y2⟩ := hy
  have HIN := hid hin
  clear hin
  go_enter Try.func119, Try.ntmps119
  go_wp2
  go_loopw [7, 12] (fun v i wr => ∃ k : Nat, k ≤ l.length ∧ i = .int .i64 k ∧ OwnS wr w.heap.size v (mv (l.take k) x y) ∧ Below w.heap.size w wr) (fun _ i _ => l.length - (intOf i).toNat)
  case atStart => exact ⟨0, Nat.zero_le _, rfl, OwnS.nil _ _, Below.refl _ _⟩
  case round =>
    obtain ⟨k, hk, rfl, hO, hB⟩ := hrel
    have HO := hid hO
    have HB := hid hB
    by_cases hlt : k < l.length
    · obtain ⟨b1, o1, rfl, hb1, p1, p2⟩ := ha k hlt
      have g1 := (hB.cell (p := ⟨b1, o1 + k * 2, none⟩) hb1).trans p1
      have g2 := (hB.cell (p := ⟨b1, o1 + k * 2 + 1, none⟩) hb1).trans p2
      change _ = some (Value.int .i64 (at_ l k).1) at g1
      change _ = some (Value.int .i64 (at_ l k).2) at g2
      clear p1 p2 hO hB
      have k0 : (0 : Int) ≤ (k : Int) := by omega
      have k1 : (k : Int) < (l.length : Int) := by omega
      have hr := HIN.out k hlt
      simp only [inR, Bool.and_eq_true, decide_eq_true_eq] at hr
      obtain ⟨⟨⟨r1, r2⟩, r3⟩, r4⟩ := hr
      have HS := hid (mv_take_succ (x := x) (y := y) hlt)
      have hll : (mv (l.take k) x y).length ≤ 1048576 := by rw [mv_length, List.length_take]; omega
      generalize at_ l k = c at *
      generalize mv (l.take k) x y = lm at *
      have HO1 := hid ((HO.out.below ((Below.refl wr.heap.size wr).alloc (Nat.le_refl _) (.cells #[.int .i64 c.1, .int .i64 c.2] 39))).below ((Below.refl _ _).alloc (Nat.le_refl _) (.cells #[.int .i64 (c.1 + x), .int .i64 (c.2 + y)] 39)))
      have HB1 := hid ((HB.out.alloc HB.out.size (.cells #[.int .i64 c.1, .int .i64 c.2] 39)).alloc (by have := HB.out.size; simp; omega) (.cells #[.int .i64 (c.1 + x), .int .i64 (c.2 + y)] 39))
      have hs2 : (wr.alloc (.cells #[.int .i64 c.1, .int .i64 c.2] 39)).heap.size = wr.heap.size + 1 := by simp
      have HSeg := (seg_block (c := (c.1 + x, c.2 + y)) (heap_alloc_new (wr.alloc (.cells #[.int .i64 c.1, .int .i64 c.2] 39)) (.cells #[.int .i64 (c.1 + x), .int .i64 (c.2 + y)] 39)))
      rw [hs2] at HSeg
      have HSg := hid HSeg
      clear HSeg hs2
      go_wp2_with (at_builtin; refine wpList_app rfl _ _ rfl w.heap.size _ lm [(c.1 + x, c.2 + y)] _ 1 rfl HO1.out rfl HSg.out (by intro h; cases h) (by simp; omega) HB1.out.size ?_; intro v' w2 hO2 hG2)
      go_roundw
      case rel => exact ⟨k + 1, by omega, by go_num, by rw [HS.out]; exact hO2, below_grown HB1.out HO1.out hG2⟩
      case measure => simp [intOf]; omega
    · go_wp2
      go_ret
      have : k = l.length := by omega
      subst this
      exact ⟨_, rfl, by simpa using hO, hB⟩


/-- May cells be moved so far? -/
def inM (n : Int) : Bool := decide (-100 ≤ n) && decide (n ≤ 100)

theorem c_l1In100 (n : Int) (v : Bool) (h : inM n = v) (w : World) : Calls Try.prog 81 #[.int .i64 n, .int .i64 (-100), .int .i64 100] w fun e w' => e = .returned (.bool v) ∧ w' = w := by
  rw [← h]; exact c_l1In n (-100) 100 w

/-- What MoveCells answers. -/
def moveOk (l : List Cl) (x y : Int) : Bool := good l && inM x && inM y && good (mv l x y)
def moveL (l : List Cl) (x y : Int) : List Cl := if good l && inM x && inM y then tellV (mv l x y) else []
theorem inM_bd {n : Int} (h : inM n = true) : -100 ≤ n ∧ n ≤ 100 := by simp [inM] at h; exact h
theorem tellV_le (l : List Cl) : (tellV l).length ≤ 120 := by
  unfold tellV; split
  · rename_i h; exact good_le h
  · simp
theorem moveL_le (l : List Cl) (x y : Int) : (moveL l x y).length ≤ 120 := by
  unfold moveL; split
  · exact tellV_le _
  · simp

end Go.Proofs.Ytmapbkefndbnnaa
