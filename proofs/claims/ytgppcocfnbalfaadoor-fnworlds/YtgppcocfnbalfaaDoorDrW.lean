/- Texts of this seat, one behind the other: DrW. -/
import Derived.Test.YtgppcocfnbalfaaDoorDWd
import Derived.Test.YtgppcocfnbalfaaDoorCurW
namespace Go.Proofs.YtgppcocfnbalfaaDoor
open Go.RowKit Go.ChangeShapes Go.WideShapes Go.ChangeAt
set_option linter.unusedVariables false
set_option linter.unusedSimpArgs false
attribute [local go_sem ↓] Go.wp_at_zero Go.wp_at_succ

set_option maxHeartbeats 1000000 in
set_option maxRecDepth 100000 in
theorem c_DrawSquareFor (a : Option Addr) (l : List Int) (ca : Nat) (w : World) (ha : BSeg w a l) (hl : l.length ≤ 9223372036854775807) :
    Calls Tryd.prog 4 #[.slice a l.length ca] w fun e w' => ∃ (v : Value) (L : List Cl) (t s : Int), e = .returned (.tuple #[.agg #[v, .int .i64 t], .int .i64 s]) ∧ OwnS w' w.heap.size v L ∧ L.length ≤ 120 ∧ Small L ∧ (-1 ≤ t ∧ t ≤ 1001) ∧ ((-1 ≤ s ∧ s ≤ 9)) ∧ Below w.heap.size w w' := by
  have RB := hid (WRow.new w (.slice none 0 0) 0 25)
  have ba := hid ((Below.refl w.heap.size w).alloc (Nat.le_refl _) (.cells #[.slice none 0 0, .int .i64 0] 25))
  have HZ := hid (show (w.alloc (.cells #[.slice none 0 0, .int .i64 0] 25)).heap.size = w.heap.size + 1 by simp)
  have HA := hid (BSeg.below ha ba.out)
  clear ha
  go_enter Tryd.func4, Tryd.ntmps4
  go_upto_region 1 with fail
  generalize w.alloc (.cells #[.slice none 0 0, .int .i64 0] 25) = Wr at *
  have HC := hid (show CurAt (Wr.alloc (.cells #[.slice a l.length ca, .int .i64 0, .int .u64 0] 53)) Wr.heap.size Wr.heap.size l.length 0 from cur_new Wr a l ca HA.out hl)
  have RB1 := hid (World.rowIs.alloc RB.out (.cells #[.slice a l.length ca, .int .i64 0, .int .u64 0] 53))
  have HBC := hid (show ∀ W', (Wr.alloc (.cells #[.slice a l.length ca, .int .i64 0, .int .u64 0] 53)).grownBy W' (some Wr.heap.size) → Below Wr.heap.size Wr W' from fun W' h => below_cur h)
  have ZC := hid (show (Wr.alloc (.cells #[.slice a l.length ca, .int .i64 0, .int .u64 0] 53)).heap.size = Wr.heap.size + 1 by simp)
  clear RB HA
  go_upto_region 2 with fail
  generalize Wr.alloc (.cells #[.slice a l.length ca, .int .i64 0, .int .u64 0] 53) = Wc at *
  go_wp2_with fail
  refine (c_world Wr.heap.size Wr.heap.size l.length 0 _ HC.out (by omega)).mono ?_
  rintro e w1 ⟨v1, L, t, rfl, hO1, hl1, hs1, ht1, hc1, hg1⟩
  obtain ⟨a1, c1, rfl, _⟩ := hO1.form
  have HU := hid (show CU Wc w1 Wr.heap.size Wr.heap.size l.length (0 + 1010) (.slice a1 L.length c1) L from ⟨hO1, hc1, hg1, by have := ZC.out; omega⟩)
  have HS := hid hs1
  have RB := hid (WRow.grown RB1.out hg1 (by have := HZ.out; omega))
  have Z1 := hid (show Wr.heap.size + 1 ≤ w1.heap.size by have := hg1.size; have := ZC.out; omega)
  clear hO1 hs1 hc1 hg1 HC RB1
  go_wp2_with fail
  refine (c_pick Wr.heap.size Wr.heap.size l.length _ 11 _ HU.out.cur (by omega) (by omega) (by omega)).mono ?_
  rintro e w2 ⟨ps, rfl, p0, p1, hc, hg⟩
  have HXs := hid (show -1 ≤ ps - 1 ∧ ps - 1 ≤ 9 by omega)
  replace RB := hid (WRow.grown RB.out hg (by have := HZ.out; omega))
  replace HU := hid (HU.out.cur' hc hg)
  clear hc hg
  have f0 := RB.out.fr 0
  have f1 := RB.out.fr 1
  have d0 := RB.out.c0
  have d1 := RB.out.c1
  have PP := hid (RB.out.put (.slice a1 L.length c1) t)
  have p0 := hid PP.out.c0
  have p1 := hid PP.out.c1
  have HO := hid (ownW HU.out.own (b := w.heap.size) (by have := HZ.out; have := ZC.out; omega) (.slice a1 L.length c1) (.int .i64 t) (base' := w.heap.size) (by have := HZ.out; have := ZC.out; omega))
  have HB := hid (belW (ba.out.trans ((HBC.out _ HU.out.gr).mono (by have := HZ.out; omega))) (b := w.heap.size) (Nat.le_refl _) (.slice a1 L.length c1) (.int .i64 t))
  clear HU PP
  go_wp2
  exact bodyPost_ret (v := .tuple #[.agg #[.slice a1 L.length c1, .int .i64 t], .int .i64 (ps - 1)]) (by simp [results, Tryd.results4, go_sem, p0.out, p1.out]) rfl ⟨_, L, t, ps - 1, rfl, HO.out, hl1, HS.out, ht1, HXs.out, HB.out⟩

set_option maxHeartbeats 1000000 in
set_option maxRecDepth 100000 in
theorem c_DrawMoveWorld (a : Option Addr) (l : List Int) (ca : Nat) (w : World) (ha : BSeg w a l) (hl : l.length ≤ 9223372036854775807) :
    Calls Tryd.prog 10 #[.slice a l.length ca] w fun e w' => ∃ (v : Value) (L : List Cl) (t x y : Int), e = .returned (.tuple #[.agg #[v, .int .i64 t], .int .i64 x, .int .i64 y]) ∧ OwnS w' w.heap.size v L ∧ L.length ≤ 120 ∧ Small L ∧ (-1 ≤ t ∧ t ≤ 1001) ∧ ((-101 ≤ x ∧ x ≤ 101) ∧ (-4 ≤ y ∧ y ≤ 4)) ∧ Below w.heap.size w w' := by
  have RB := hid (WRow.new w (.slice none 0 0) 0 25)
  have ba := hid ((Below.refl w.heap.size w).alloc (Nat.le_refl _) (.cells #[.slice none 0 0, .int .i64 0] 25))
  have HZ := hid (show (w.alloc (.cells #[.slice none 0 0, .int .i64 0] 25)).heap.size = w.heap.size + 1 by simp)
  have HA := hid (BSeg.below ha ba.out)
  clear ha
  go_enter Tryd.func10, Tryd.ntmps10
  go_upto_region 1 with fail
  generalize w.alloc (.cells #[.slice none 0 0, .int .i64 0] 25) = Wr at *
  have HC := hid (show CurAt (Wr.alloc (.cells #[.slice a l.length ca, .int .i64 0, .int .u64 0] 53)) Wr.heap.size Wr.heap.size l.length 0 from cur_new Wr a l ca HA.out hl)
  have RB1 := hid (World.rowIs.alloc RB.out (.cells #[.slice a l.length ca, .int .i64 0, .int .u64 0] 53))
  have HBC := hid (show ∀ W', (Wr.alloc (.cells #[.slice a l.length ca, .int .i64 0, .int .u64 0] 53)).grownBy W' (some Wr.heap.size) → Below Wr.heap.size Wr W' from fun W' h => below_cur h)
  have ZC := hid (show (Wr.alloc (.cells #[.slice a l.length ca, .int .i64 0, .int .u64 0] 53)).heap.size = Wr.heap.size + 1 by simp)
  clear RB HA
  go_upto_region 2 with fail
  generalize Wr.alloc (.cells #[.slice a l.length ca, .int .i64 0, .int .u64 0] 53) = Wc at *
  go_wp2_with fail
  refine (c_world Wr.heap.size Wr.heap.size l.length 0 _ HC.out (by omega)).mono ?_
  rintro e w1 ⟨v1, L, t, rfl, hO1, hl1, hs1, ht1, hc1, hg1⟩
  obtain ⟨a1, c1, rfl, _⟩ := hO1.form
  have HU := hid (show CU Wc w1 Wr.heap.size Wr.heap.size l.length (0 + 1010) (.slice a1 L.length c1) L from ⟨hO1, hc1, hg1, by have := ZC.out; omega⟩)
  have HS := hid hs1
  have RB := hid (WRow.grown RB1.out hg1 (by have := HZ.out; omega))
  have Z1 := hid (show Wr.heap.size + 1 ≤ w1.heap.size by have := hg1.size; have := ZC.out; omega)
  clear hO1 hs1 hc1 hg1 HC RB1
  replace HU := hid (HU.out.alloc (.cells #[.int .i64 (-101), .int .i64 (-40), .int .i64 (-3), .int .i64 0, .int .i64 5, .int .i64 38, .int .i64 100, .int .i64 101] 3))
  have HI := hid (amseg_new w1 [-101, -40, -3, 0, 5, 38, 100, 101] #[.int .i64 (-101), .int .i64 (-40), .int .i64 (-3), .int .i64 0, .int .i64 5, .int .i64 38, .int .i64 100, .int .i64 101] 3 rfl)
  replace RB := hid (World.rowIs.alloc RB.out (.cells #[.int .i64 (-101), .int .i64 (-40), .int .i64 (-3), .int .i64 0, .int .i64 5, .int .i64 38, .int .i64 100, .int .i64 101] 3))
  go_wp2_with fail
  refine (c_among Wr.heap.size Wr.heap.size l.length w1.heap.size 0 8 _ [-101, -40, -3, 0, 5, 38, 100, 101] _ HU.out.cur (by omega) (by simp) (by simp) HI.out (by have := Z1.out; omega) (by simp)).mono ?_
  rintro e w2 ⟨x, rfl, hx, hc, hg⟩
  have HXx := hid (show -101 ≤ x ∧ x ≤ 101 by simp at hx; omega)
  clear hx HI
  replace RB := hid (WRow.grown RB.out hg (by have := HZ.out; omega))
  replace HU := hid (HU.out.cur' hc hg)
  clear hc hg
  go_wp2_with fail
  refine (c_pick Wr.heap.size Wr.heap.size l.length _ 9 _ HU.out.cur (by omega) (by omega) (by omega)).mono ?_
  rintro e w3 ⟨py, rfl, p0, p1, hc, hg⟩
  have HXy := hid (show -4 ≤ py - 4 ∧ py - 4 ≤ 4 by omega)
  replace RB := hid (WRow.grown RB.out hg (by have := HZ.out; omega))
  replace HU := hid (HU.out.cur' hc hg)
  clear hc hg
  have f0 := RB.out.fr 0
  have f1 := RB.out.fr 1
  have d0 := RB.out.c0
  have d1 := RB.out.c1
  have PP := hid (RB.out.put (.slice a1 L.length c1) t)
  have p0 := hid PP.out.c0
  have p1 := hid PP.out.c1
  have HO := hid (ownW HU.out.own (b := w.heap.size) (by have := HZ.out; have := ZC.out; omega) (.slice a1 L.length c1) (.int .i64 t) (base' := w.heap.size) (by have := HZ.out; have := ZC.out; omega))
  have HB := hid (belW (ba.out.trans ((HBC.out _ HU.out.gr).mono (by have := HZ.out; omega))) (b := w.heap.size) (Nat.le_refl _) (.slice a1 L.length c1) (.int .i64 t))
  clear HU PP
  go_wp2
  exact bodyPost_ret (v := .tuple #[.agg #[.slice a1 L.length c1, .int .i64 t], .int .i64 x, .int .i64 (py - 4)]) (by simp [results, Tryd.results10, go_sem, p0.out, p1.out]) rfl ⟨_, L, t, x, py - 4, rfl, HO.out, hl1, HS.out, ht1, ⟨HXx.out, HXy.out⟩, HB.out⟩

set_option maxHeartbeats 1000000 in
theorem c_DrawNewWorld (a : Option Addr) (l : List Int) (ca : Nat) (w : World) (ha : BSeg w a l) (hl : l.length ≤ 9223372036854775807) :
    Calls Tryd.prog 16 #[.slice a l.length ca] w fun e w' => ∃ (v : Value) (L : List Cl), e = .returned v ∧ OwnS w' w.heap.size v L ∧ L.length ≤ 105 ∧ Small L ∧ Below w.heap.size w w' := by
  have HC := hid (c_DrawGoodCells a l ca w ha hl)
  clear ha
  go_enter Tryd.func16, Tryd.ntmps16
  go_wp2_with fail
  refine HC.out.mono ?_
  rintro e w1 ⟨v, L, rfl, ho, hL, hs, b⟩
  have HO := hid ho
  have HS := hid hs
  clear ho hs
  go_wp2
  go_ret
  exact ⟨v, L, rfl, HO.out, hL, HS.out, b⟩

set_option maxHeartbeats 1000000 in
set_option maxRecDepth 100000 in
theorem c_DrawSplitSteps (a : Option Addr) (l : List Int) (ca : Nat) (w : World) (ha : BSeg w a l) (hl : l.length ≤ 9223372036854775807) :
    Calls Tryd.prog 7 #[.slice a l.length ca] w fun e w' => ∃ n : Int, e = .returned (.int .i64 n) ∧ (-1 ≤ n ∧ n ≤ 1001) ∧ Below w.heap.size w w' := by
  have HC := hid (show CurAt (w.alloc (.cells #[.slice a l.length ca, .int .i64 0, .int .u64 0] 53)) w.heap.size w.heap.size l.length 0 from cur_new w a l ca ha hl)
  have HBC := hid (show ∀ W', (w.alloc (.cells #[.slice a l.length ca, .int .i64 0, .int .u64 0] 53)).grownBy W' (some w.heap.size) → Below w.heap.size w W' from fun W' h => below_cur h)
  have ZC := hid (show (w.alloc (.cells #[.slice a l.length ca, .int .i64 0, .int .u64 0] 53)).heap.size = w.heap.size + 1 by simp)
  clear ha
  go_enter Tryd.func7, Tryd.ntmps7
  go_upto_region 2 with fail
  generalize w.alloc (.cells #[.slice a l.length ca, .int .i64 0, .int .u64 0] 53) = Wc at *
  go_wp2_with fail
  refine (c_pickW w.heap.size w.heap.size l.length _ 250 _ HC.out (by omega) (by omega) (by omega)).mono ?_
  rintro e w1 ⟨p, rfl, p0, p1, hc, hg⟩
  have HU := hid (show CU Wc w1 w.heap.size w.heap.size l.length (0 + 2) (.slice none 0 0) [] from ⟨OwnS.nil _ _, hc, hg, by have := ZC.out; omega⟩)
  have Z1 := hid (show w.heap.size + 1 ≤ w1.heap.size by have := hg.size; have := ZC.out; omega)
  clear hc hg HC
  have HI := hid (amseg_new w1 [-1, 0, 1, 6, 1000, 1001, p * 4] #[.int .i64 (-1), .int .i64 0, .int .i64 1, .int .i64 6, .int .i64 1000, .int .i64 1001, .int .i64 (p * 4)] 3 rfl)
  replace HU := hid (HU.out.alloc (.cells #[.int .i64 (-1), .int .i64 0, .int .i64 1, .int .i64 6, .int .i64 1000, .int .i64 1001, .int .i64 (p * 4)] 3))
  go_wp2_with fail
  refine (c_among w.heap.size w.heap.size l.length w1.heap.size 0 7 _ [-1, 0, 1, 6, 1000, 1001, p * 4] _ HU.out.cur (by omega) (by simp) (by simp) HI.out (by have := Z1.out; omega) (by simp)).mono ?_
  rintro e w2 ⟨x, rfl, hx, hc, hg⟩
  have HX := hid (show -1 ≤ x ∧ x ≤ 1001 by simp at hx; omega)
  replace HU := hid (HU.out.cur' hc hg)
  clear hc hg hx HI
  go_wp2
  go_ret
  exact ⟨x, rfl, HX.out, HBC.out _ HU.out.gr⟩

end Go.Proofs.YtgppcocfnbalfaaDoor
