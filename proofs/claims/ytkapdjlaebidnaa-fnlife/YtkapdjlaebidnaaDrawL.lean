/- The draws for FnLife. -/
import Derived.Test.YtkapdjlaebidnaaDraw
namespace Go.Proofs.Ytkapdjlaebidnaa
open Go.RowKit
set_option linter.unusedVariables false

theorem BoxAt.grown {w w' : World} {B : Nat} {c : Cl} {row : Option Nat} (h : BoxAt w B c) (hg : w.grownBy w' row) (hne : some B ≠ row) : BoxAt w' B c := by
  obtain ⟨h1, h2, h3, h4, h5⟩ := h
  exact ⟨(cell_grown1 hg h5 hne).trans h1, (cell_grown1 hg h5 hne).trans h2, (frozen_grown1 hg h5 hne).trans h3, (frozen_grown1 hg h5 hne).trans h4, Nat.lt_of_lt_of_le h5 hg.size⟩
theorem CU.nilset {w W : World} {base b n : Nat} {A : Int} (h : CU w W base b n A (.slice none 0 0) []) {B : Nat} (hB : w.heap.size ≤ B) (o : Nat) (u : Value) : CU w (W.setCell ⟨B, o, none⟩ u) base b n A (.slice none 0 0) [] :=
  ⟨OwnS.nil _ _, h.cur.kept (grown_set1 W B o u) (fun e => by have := h.bl; simp only [Option.some.injEq] at e; omega) (fun k e => by have := h.bl; have := h.cur.lt; simp only [Option.some.injEq] at e; omega), grown_over h.gr (grown_set1 W B o u) (fun k e => by simp only [Option.some.injEq] at e; omega), h.bl⟩

set_option maxHeartbeats 1000000 in
set_option maxRecDepth 100000 in
theorem c_cell (base b n : Nat) (A : Int) (w : World) (h : CurAt w base b n A) (hA : A ≤ 1000000) :
    Calls Try.prog 45 #[.pointer (some ⟨b, 0, none⟩)] w fun e w' => ∃ c : Cl, e = .returned (.agg #[.int .i64 c.1, .int .i64 c.2]) ∧ CurAt w' base b n (A + 10) ∧ w.grownBy w' (some b) := by
  have hbl := h.lt
  have HU := hid ((show CU w w base b n A (.slice none 0 0) [] from ⟨OwnS.nil _ _, h, grown_same w _, hbl.2⟩).alloc (.cells #[.int .i64 0, .int .i64 0] 30))
  have HX := hid (BoxAt.new w (0, 0))
  have hne : some w.heap.size ≠ some b := by simp; omega
  clear h
  go_enter Try.func45, Try.ntmps45
  go_wp2_with fail
  refine (c_one base b n A 12 _ HU.out.cur (by omega) (by omega) (by omega)).mono ?_
  rintro e w1 ⟨x, rfl, hc1, hg1⟩
  have HU1 := hid (HU.out.cur' hc1 hg1)
  have HX1 := hid (HX.out.grown hg1 hne)
  clear hc1 hg1 HU HX
  cases x
  · go_wp2_with fail
    refine (c_pick base b n _ 9 w1 HU1.out.cur (by omega) (by omega) (by omega)).mono ?_
    rintro e w2 ⟨p2, rfl, p20, p21, hc2, hg2⟩
    have HU2 := hid (HU1.out.cur' hc2 hg2)
    have HX2 := hid (HX1.out.grown hg2 hne)
    clear hc2 hg2 HU1 HX1
    go_wp2_with fail
    refine (c_pick base b n _ 9 w2 HU2.out.cur (by omega) (by omega) (by omega)).mono ?_
    rintro e w3 ⟨p3, rfl, p30, p31, hc3, hg3⟩
    have HU3 := hid (HU2.out.cur' hc3 hg3)
    have HX3 := hid (HX2.out.grown hg3 hne)
    clear hc3 hg3 HU2 HX2
    have HU4 := hid ((HU3.out.nilset (Nat.le_refl _) 0 (.int .i64 (p2 - 4))).nilset (Nat.le_refl _) 1 (.int .i64 (p3 - 4)))
    have HX4 := hid (HX3.out.set2 (p2 - 4) (p3 - 4))
    obtain ⟨f1, f2, f3, f4, f5⟩ := HX3.out
    clear HU3 HX3
    go_wp2
    obtain ⟨k1, k2, _⟩ := HX4.out
    exact bodyPost_ret (v := .agg #[.int .i64 (p2 - 4), .int .i64 (p3 - 4)]) (by simp [results, Try.results45, go_sem, k1, k2]) rfl ⟨(p2 - 4, p3 - 4), rfl, HU4.out.cur.more (by omega), HU4.out.gr⟩
  · have HU9 := hid (HU1.out.alloc (.cells #[.int .i64 (-41), .int .i64 (-40), .int .i64 40, .int .i64 41] 3))
    have HX9 := hid (HX1.out.alloc (.cells #[.int .i64 (-41), .int .i64 (-40), .int .i64 40, .int .i64 41] 3))
    have HI9 := hid (iseg_new w1 [-41, -40, 40, 41] #[.int .i64 (-41), .int .i64 (-40), .int .i64 40, .int .i64 41] 3 rfl)
    have hq := HU1.out.cur.lt
    go_wp2_with fail
    refine (c_among base b n _ 0 4 _ [-41, -40, 40, 41] _ HU9.out.cur (by omega) (by simp) (by simp) HI9.out (by omega) (by simp)).mono ?_
    rintro e w2 ⟨p2, rfl, _, hc2, hg2⟩
    have HU2 := hid (HU9.out.cur' hc2 hg2)
    have HX2 := hid (HX9.out.grown hg2 hne)
    clear hc2 hg2 HU1 HX1 HU9 HX9 HI9 hq
    have HU9 := hid (HU2.out.alloc (.cells #[.int .i64 (-40), .int .i64 0, .int .i64 41] 3))
    have HX9 := hid (HX2.out.alloc (.cells #[.int .i64 (-40), .int .i64 0, .int .i64 41] 3))
    have HI9 := hid (iseg_new w2 [-40, 0, 41] #[.int .i64 (-40), .int .i64 0, .int .i64 41] 3 rfl)
    have hq := HU2.out.cur.lt
    go_wp2_with fail
    refine (c_among base b n _ 0 3 _ [-40, 0, 41] _ HU9.out.cur (by omega) (by simp) (by simp) HI9.out (by omega) (by simp)).mono ?_
    rintro e w3 ⟨p3, rfl, _, hc3, hg3⟩
    have HU3 := hid (HU9.out.cur' hc3 hg3)
    have HX3 := hid (HX9.out.grown hg3 hne)
    clear hc3 hg3 HU2 HX2 HU9 HX9 HI9 hq
    have HU4 := hid ((HU3.out.nilset (Nat.le_refl _) 0 (.int .i64 p2)).nilset (Nat.le_refl _) 1 (.int .i64 p3))
    have HX4 := hid (HX3.out.set2 p2 p3)
    obtain ⟨f1, f2, f3, f4, f5⟩ := HX3.out
    clear HU3 HX3
    go_wp2
    obtain ⟨k1, k2, _⟩ := HX4.out
    exact bodyPost_ret (v := .agg #[.int .i64 p2, .int .i64 p3]) (by simp [results, Try.results45, go_sem, k1, k2]) rfl ⟨(p2, p3), rfl, HU4.out.cur.more (by omega), HU4.out.gr⟩

set_option maxHeartbeats 1000000 in
set_option maxRecDepth 100000 in
theorem c_DrawGoodCells (a : Option Addr) (l : List Int) (ca : Nat) (w : World) (ha : BSeg w a l) (hl : l.length ≤ 9223372036854775807) :
    Calls Try.prog 32 #[.slice a l.length ca] w fun e w' => ∃ (v : Value) (L : List Cl), e = .returned v ∧ OwnS w' w.heap.size v L ∧ L.length ≤ 105 ∧ Small L ∧ Below w.heap.size w w' := by
  have HC := hid (cur_new w a l ca ha hl)
  clear ha
  go_enter Try.func32, Try.ntmps32
  go_wp2_with fail
  refine (c_cells w.heap.size w.heap.size l.length 0 12 9 4 (curW w a l.length ca) HC.out (by omega) (by omega) (by omega) (by omega) (by omega) rfl (by omega) (by omega) (by omega)).mono ?_
  rintro e w1 ⟨v1, L, rfl, hO1, hl1, hs1, hc1, hg1⟩
  have HO := hid (hO1.mono (show w.heap.size ≤ (curW w a l.length ca).heap.size by simp))
  have HS := hid hs1
  have HB := hid (below_cur hg1)
  clear hO1 hs1 hc1 hg1 HC
  go_wp2
  go_ret
  exact ⟨_, L, rfl, HO.out, hl1, HS.out, HB.out⟩
theorem c_DrawStepCells (a : Option Addr) (l : List Int) (ca : Nat) (w : World) (ha : BSeg w a l) (hl : l.length ≤ 9223372036854775807) :
    Calls Try.prog 5 #[.slice a l.length ca] w fun e w' => ∃ (v : Value) (L : List Cl), e = .returned v ∧ OwnS w' w.heap.size v L ∧ L.length ≤ 105 ∧ Small L ∧ Below w.heap.size w w' := by
  have HC := hid (c_DrawGoodCells a l ca w ha hl)
  clear ha
  go_enter Try.func5, Try.ntmps5
  go_wp2_with fail
  refine HC.out.mono ?_
  rintro e w1 ⟨v1, L, rfl, hO1, hl1, hs1, hb1⟩
  have HO := hid hO1
  have HS := hid hs1
  have HB := hid hb1
  clear hO1 hs1 hb1
  go_wp2
  go_ret
  exact ⟨_, L, rfl, HO.out, hl1, HS.out, HB.out⟩
theorem c_DrawBoxOf (a : Option Addr) (l : List Int) (ca : Nat) (w : World) (ha : BSeg w a l) (hl : l.length ≤ 9223372036854775807) :
    Calls Try.prog 17 #[.slice a l.length ca] w fun e w' => ∃ (v : Value) (L : List Cl), e = .returned v ∧ OwnS w' w.heap.size v L ∧ L.length ≤ 105 ∧ Small L ∧ Below w.heap.size w w' := by
  have HC := hid (c_DrawGoodCells a l ca w ha hl)
  clear ha
  go_enter Try.func17, Try.ntmps17
  go_wp2_with fail
  refine HC.out.mono ?_
  rintro e w1 ⟨v1, L, rfl, hO1, hl1, hs1, hb1⟩
  have HO := hid hO1
  have HS := hid hs1
  have HB := hid hb1
  clear hO1 hs1 hb1
  go_wp2
  go_ret
  exact ⟨_, L, rfl, HO.out, hl1, HS.out, HB.out⟩

set_option maxHeartbeats 1000000 in
set_option maxRecDepth 100000 in
theorem c_DrawNearOf (a : Option Addr) (l : List Int) (ca : Nat) (w : World) (ha : BSeg w a l) (hl : l.length ≤ 9223372036854775807) :
    Calls Try.prog 14 #[.slice a l.length ca] w fun e w' => ∃ (v : Value) (L : List Cl) (c : Cl), e = .returned (.tuple #[v, .agg #[.int .i64 c.1, .int .i64 c.2]]) ∧ OwnS w' w.heap.size v L ∧ L.length ≤ 105 ∧ Small L ∧ Below w.heap.size w w' := by
  have hz : (w.alloc (.cells #[.int .i64 0, .int .i64 0] 30)).heap.size = w.heap.size + 1 := by simp
  have hB0 := (Below.refl w.heap.size w).alloc (Nat.le_refl _) (.cells #[.int .i64 0, .int .i64 0] 30)
  have HC := hid (cur_new (w.alloc (.cells #[.int .i64 0, .int .i64 0] 30)) a l ca (ha.below hB0) hl)
  have HX := hid ((BoxAt.new w (0, 0)).alloc (.cells #[.slice a l.length ca, .int .i64 0, .int .u64 0] 59))
  have HB0 := hid hB0
  clear ha hB0
  rw [hz] at HC
  go_enter Try.func14, Try.ntmps14
  go_wp2_with fail
  refine (c_cells (w.heap.size + 1) (w.heap.size + 1) l.length 0 12 9 4 (curW (w.alloc (.cells #[.int .i64 0, .int .i64 0] 30)) a l.length ca) HC.out (by omega) (by omega) (by omega) (by omega) (by omega) rfl (by omega) (by omega) (by omega)).mono ?_
  rintro e w1 ⟨v1, L, rfl, hO1, hl1, hs1, hc1, hg1⟩
  have HU := hid (show CU (curW (w.alloc (.cells #[.int .i64 0, .int .i64 0] 30)) a l.length ca) w1 (w.heap.size + 1) (w.heap.size + 1) l.length (0 + 1000) v1 L from ⟨hO1, hc1, hg1, by simp⟩)
  have HS := hid hs1
  have HX1 := hid (HX.out.grown hg1 (by simp))
  clear hO1 hs1 hc1 hg1 HC HX
  go_wp2_with fail
  refine (c_cell (w.heap.size + 1) (w.heap.size + 1) l.length _ w1 HU.out.cur (by omega)).mono ?_
  rintro e w2 ⟨c, rfl, hc2, hg2⟩
  have HU2 := hid (HU.out.cur' hc2 hg2)
  have HX2 := hid (HX1.out.grown hg2 (by simp))
  clear hc2 hg2 HU HX1
  have HX3 := hid (HX2.out.set2 c.1 c.2)
  have HO3 := hid (own_keep HU2.out.own ((grown_set1 w2 w.heap.size 0 (.int .i64 c.1)).trans (grown_set1 _ w.heap.size 1 (.int .i64 c.2))) (fun k hk e => by have := (HU2.out.own.lt k hk).1; simp at this; simp only [Option.some.injEq] at e; omega))
  have hb2 : Below w.heap.size w w2 := (HB0.out.alloc (by simp) (.cells #[.slice a l.length ca, .int .i64 0, .int .u64 0] 59)).grown HU2.out.gr (by simp; omega) (fun k e => by simp only [Option.some.injEq] at e; omega)
  have HB3 := hid ((hb2.setCell (p := ⟨w.heap.size, 0, none⟩) (Nat.le_refl _) (.int .i64 c.1)).setCell (p := ⟨w.heap.size, 1, none⟩) (Nat.le_refl _) (.int .i64 c.2))
  obtain ⟨f1, f2, f3, f4, f5⟩ := HX2.out
  clear HX2 HU2 hb2
  go_wp2
  obtain ⟨k1, k2, _⟩ := HX3.out
  exact bodyPost_ret (v := .tuple #[v1, .agg #[.int .i64 c.1, .int .i64 c.2]]) (by simp [results, Try.results14, go_sem, k1, k2]) rfl ⟨v1, L, c, rfl, HO3.out.mono (by simp; omega), hl1, HS.out, HB3.out⟩
end Go.Proofs.Ytkapdjlaebidnaa
