/- Texts of this seat, one behind the other: DrA. -/
import Derived.Test.YtnabgfbempkgnaaGreatDoorDWd
import Derived.Test.YtnabgfbempkgnaaGreatDoorSame
namespace Go.Proofs.YtnabgfbempkgnaaGreatDoor
open Go.RowKit Go.ChangeShapes Go.WideShapes Go.ChangeAt
set_option linter.unusedVariables false
set_option linter.unusedSimpArgs false
attribute [local go_sem ↓] Go.wp_at_zero Go.wp_at_succ

set_option maxHeartbeats 1000000 in
set_option maxRecDepth 100000 in
theorem c_DrawAdvance (a : Option Addr) (l : List Int) (ca : Nat) (w : World) (ha : BSeg w a l) (hl : l.length ≤ 9223372036854775807) :
    Calls Tryz.prog 4 #[.slice a l.length ca] w fun e w' => ∃ (v : Value) (L : List Cl) (t s : Int), e = .returned (.tuple #[.agg #[v, .int .i64 t], .int .i64 s]) ∧ OwnS w' w.heap.size v L ∧ L.length ≤ 120 ∧ Small L ∧ (-1 ≤ t ∧ t ≤ 1001) ∧ (-1 ≤ s ∧ s ≤ 21) ∧ Below w.heap.size w w' := by
  have RB := hid (WRow.new w (.slice none 0 0) 0 25)
  have ba := hid ((Below.refl w.heap.size w).alloc (Nat.le_refl _) (.cells #[.slice none 0 0, .int .i64 0] 25))
  have HZ := hid (show (w.alloc (.cells #[.slice none 0 0, .int .i64 0] 25)).heap.size = w.heap.size + 1 by simp)
  have HA := hid (BSeg.below ha ba.out)
  clear ha
  go_enter Tryz.func4, Tryz.ntmps4
  go_upto_region 1 with fail
  generalize w.alloc (.cells #[.slice none 0 0, .int .i64 0] 25) = Wr at *
  have HC := hid (show CurAt (Wr.alloc (.cells #[.slice a l.length ca, .int .i64 0, .int .u64 0] 39)) Wr.heap.size Wr.heap.size l.length 0 from cur_new Wr a l ca HA.out hl)
  have RB1 := hid (World.rowIs.alloc RB.out (.cells #[.slice a l.length ca, .int .i64 0, .int .u64 0] 39))
  have HBC := hid (show ∀ W', (Wr.alloc (.cells #[.slice a l.length ca, .int .i64 0, .int .u64 0] 39)).grownBy W' (some Wr.heap.size) → Below Wr.heap.size Wr W' from fun W' h => below_cur h)
  have ZC := hid (show (Wr.alloc (.cells #[.slice a l.length ca, .int .i64 0, .int .u64 0] 39)).heap.size = Wr.heap.size + 1 by simp)
  clear RB HA
  go_upto_region 2 with fail
  generalize Wr.alloc (.cells #[.slice a l.length ca, .int .i64 0, .int .u64 0] 39) = Wc at *
  go_wp2_with fail
  refine (c_world Wr.heap.size Wr.heap.size l.length 0 _ HC.out (by omega)).mono ?_
  rintro e w1 ⟨v1, L, t, rfl, hO1, hl1, hs1, ht1, hc1, hg1⟩
  obtain ⟨a1, c1, rfl, _⟩ := hO1.form
  have HU := hid (show CU Wc w1 Wr.heap.size Wr.heap.size l.length (0 + 1010) (.slice a1 L.length c1) L from ⟨hO1, hc1, hg1, by have := ZC.out; omega⟩)
  have HS := hid hs1
  have RB2 := hid (WRow.grown RB1.out hg1 (by have := HZ.out; omega))
  have Z1 := hid (show Wr.heap.size + 1 ≤ w1.heap.size by have := hg1.size; have := ZC.out; omega)
  clear hO1 hs1 hc1 hg1 HC RB1
  have HU9 := hid (HU.out.alloc (.cells #[.int .i64 (-1), .int .i64 0, .int .i64 1, .int .i64 2, .int .i64 3, .int .i64 7, .int .i64 20, .int .i64 21] 3))
  have HI9 := hid (amseg_new w1 [-1, 0, 1, 2, 3, 7, 20, 21] #[.int .i64 (-1), .int .i64 0, .int .i64 1, .int .i64 2, .int .i64 3, .int .i64 7, .int .i64 20, .int .i64 21] 3 rfl)
  have RB9 := hid (World.rowIs.alloc RB2.out (.cells #[.int .i64 (-1), .int .i64 0, .int .i64 1, .int .i64 2, .int .i64 3, .int .i64 7, .int .i64 20, .int .i64 21] 3))
  clear RB2
  go_wp2_with fail
  refine (c_among Wr.heap.size Wr.heap.size l.length w1.heap.size 0 8 _ [-1, 0, 1, 2, 3, 7, 20, 21] _ HU9.out.cur (by omega) (by simp) (by simp) HI9.out (by have := Z1.out; omega) (by simp)).mono ?_
  rintro e w10 ⟨x1, rfl, hx1, hc10, hg10⟩
  have HU10 := hid (HU9.out.cur' hc10 hg10)
  have HX1 := hid (show -1 ≤ x1 ∧ x1 ≤ 21 by simp at hx1; omega)
  have RB10 := hid (WRow.grown RB9.out hg10 (by have := HZ.out; omega))
  clear hc10 hg10 HU9 HI9 hx1 RB9
  have f0 := RB10.out.fr 0
  have f1 := RB10.out.fr 1
  have d0 := RB10.out.c0
  have d1 := RB10.out.c1
  have PP := hid (RB10.out.put (.slice a1 L.length c1) t)
  have p0 := hid PP.out.c0
  have p1 := hid PP.out.c1
  have HO := hid (ownW HU10.out.own (b := w.heap.size) (by have := HZ.out; have := ZC.out; omega) (.slice a1 L.length c1) (.int .i64 t) (base' := w.heap.size) (by have := HZ.out; have := ZC.out; omega))
  have HB := hid (belW (ba.out.trans ((HBC.out _ HU10.out.gr).mono (by have := HZ.out; omega))) (b := w.heap.size) (Nat.le_refl _) (.slice a1 L.length c1) (.int .i64 t))
  clear HU10 PP
  go_wp2
  exact bodyPost_ret (v := .tuple #[.agg #[.slice a1 L.length c1, .int .i64 t], .int .i64 x1]) (by simp [results, Tryz.results4, go_sem, p0.out, p1.out]) rfl ⟨_, L, t, x1, rfl, HO.out, hl1, HS.out, ht1, HX1.out, HB.out⟩

set_option maxHeartbeats 1000000 in
set_option maxRecDepth 100000 in
theorem c_DrawAdvanceByTree (a : Option Addr) (l : List Int) (ca : Nat) (w : World) (ha : BSeg w a l) (hl : l.length ≤ 9223372036854775807) :
    Calls Tryz.prog 11 #[.slice a l.length ca] w fun e w' => ∃ (v : Value) (L : List Cl) (t s : Int), e = .returned (.tuple #[.agg #[v, .int .i64 t], .int .i64 s]) ∧ OwnS w' w.heap.size v L ∧ L.length ≤ 120 ∧ Small L ∧ (-1 ≤ t ∧ t ≤ 1001) ∧ (0 ≤ s ∧ s ≤ 9) ∧ Below w.heap.size w w' := by
  have RB := hid (WRow.new w (.slice none 0 0) 0 25)
  have ba := hid ((Below.refl w.heap.size w).alloc (Nat.le_refl _) (.cells #[.slice none 0 0, .int .i64 0] 25))
  have HZ := hid (show (w.alloc (.cells #[.slice none 0 0, .int .i64 0] 25)).heap.size = w.heap.size + 1 by simp)
  have HA := hid (BSeg.below ha ba.out)
  clear ha
  go_enter Tryz.func11, Tryz.ntmps11
  go_upto_region 1 with fail
  generalize w.alloc (.cells #[.slice none 0 0, .int .i64 0] 25) = Wr at *
  have HC := hid (show CurAt (Wr.alloc (.cells #[.slice a l.length ca, .int .i64 0, .int .u64 0] 39)) Wr.heap.size Wr.heap.size l.length 0 from cur_new Wr a l ca HA.out hl)
  have RB1 := hid (World.rowIs.alloc RB.out (.cells #[.slice a l.length ca, .int .i64 0, .int .u64 0] 39))
  have HBC := hid (show ∀ W', (Wr.alloc (.cells #[.slice a l.length ca, .int .i64 0, .int .u64 0] 39)).grownBy W' (some Wr.heap.size) → Below Wr.heap.size Wr W' from fun W' h => below_cur h)
  have ZC := hid (show (Wr.alloc (.cells #[.slice a l.length ca, .int .i64 0, .int .u64 0] 39)).heap.size = Wr.heap.size + 1 by simp)
  clear RB HA
  go_upto_region 2 with fail
  generalize Wr.alloc (.cells #[.slice a l.length ca, .int .i64 0, .int .u64 0] 39) = Wc at *
  go_wp2_with fail
  refine (c_world Wr.heap.size Wr.heap.size l.length 0 _ HC.out (by omega)).mono ?_
  rintro e w1 ⟨v1, L, t, rfl, hO1, hl1, hs1, ht1, hc1, hg1⟩
  obtain ⟨a1, c1, rfl, _⟩ := hO1.form
  have HU := hid (show CU Wc w1 Wr.heap.size Wr.heap.size l.length (0 + 1010) (.slice a1 L.length c1) L from ⟨hO1, hc1, hg1, by have := ZC.out; omega⟩)
  have HS := hid hs1
  have RB2 := hid (WRow.grown RB1.out hg1 (by have := HZ.out; omega))
  have Z1 := hid (show Wr.heap.size + 1 ≤ w1.heap.size by have := hg1.size; have := ZC.out; omega)
  clear hO1 hs1 hc1 hg1 HC RB1
  have HU9 := hid (HU.out.alloc (.cells #[.int .i64 0, .int .i64 1, .int .i64 1, .int .i64 2, .int .i64 2, .int .i64 3, .int .i64 4, .int .i64 5, .int .i64 8, .int .i64 9] 3))
  have HI9 := hid (amseg_new w1 [0, 1, 1, 2, 2, 3, 4, 5, 8, 9] #[.int .i64 0, .int .i64 1, .int .i64 1, .int .i64 2, .int .i64 2, .int .i64 3, .int .i64 4, .int .i64 5, .int .i64 8, .int .i64 9] 3 rfl)
  have RB9 := hid (World.rowIs.alloc RB2.out (.cells #[.int .i64 0, .int .i64 1, .int .i64 1, .int .i64 2, .int .i64 2, .int .i64 3, .int .i64 4, .int .i64 5, .int .i64 8, .int .i64 9] 3))
  clear RB2
  go_wp2_with fail
  refine (c_among Wr.heap.size Wr.heap.size l.length w1.heap.size 0 10 _ [0, 1, 1, 2, 2, 3, 4, 5, 8, 9] _ HU9.out.cur (by omega) (by simp) (by simp) HI9.out (by have := Z1.out; omega) (by simp)).mono ?_
  rintro e w10 ⟨x1, rfl, hx1, hc10, hg10⟩
  have HU10 := hid (HU9.out.cur' hc10 hg10)
  have HX1 := hid (show 0 ≤ x1 ∧ x1 ≤ 9 by simp at hx1; omega)
  have RB10 := hid (WRow.grown RB9.out hg10 (by have := HZ.out; omega))
  clear hc10 hg10 HU9 HI9 hx1 RB9
  have f0 := RB10.out.fr 0
  have f1 := RB10.out.fr 1
  have d0 := RB10.out.c0
  have d1 := RB10.out.c1
  have PP := hid (RB10.out.put (.slice a1 L.length c1) t)
  have p0 := hid PP.out.c0
  have p1 := hid PP.out.c1
  have HO := hid (ownW HU10.out.own (b := w.heap.size) (by have := HZ.out; have := ZC.out; omega) (.slice a1 L.length c1) (.int .i64 t) (base' := w.heap.size) (by have := HZ.out; have := ZC.out; omega))
  have HB := hid (belW (ba.out.trans ((HBC.out _ HU10.out.gr).mono (by have := HZ.out; omega))) (b := w.heap.size) (Nat.le_refl _) (.slice a1 L.length c1) (.int .i64 t))
  clear HU10 PP
  go_wp2
  exact bodyPost_ret (v := .tuple #[.agg #[.slice a1 L.length c1, .int .i64 t], .int .i64 x1]) (by simp [results, Tryz.results11, go_sem, p0.out, p1.out]) rfl ⟨_, L, t, x1, rfl, HO.out, hl1, HS.out, ht1, HX1.out, HB.out⟩

set_option maxHeartbeats 1000000 in
/-- laws.sameWorld of two that are the same. -/
theorem c_sameWorld (a b : Option Addr) (l : List Cl) (ca cb : Nat) (t : Int) (w : World) (ha : Seg w a l) (hb : Seg w b l) (hl : l.length ≤ 1048576) :
    Calls Tryz.prog 7 #[.agg #[.slice a l.length ca, .int .i64 t], .agg #[.slice b l.length cb, .int .i64 t]] w fun e w' => e = .returned (.bool true) ∧ Below w.heap.size w w' := by
  have R1 := WRow.new w (.slice a l.length ca) t 25
  have R2 := WRow.new (w.alloc (.cells #[.slice a l.length ca, .int .i64 t] 25)) (.slice b l.length cb) t 25
  have B2 := ((Below.refl w.heap.size w).alloc (Nat.le_refl _) (.cells #[.slice a l.length ca, .int .i64 t] 25)).alloc (by simp) (.cells #[.slice b l.length cb, .int .i64 t] 25)
  have R1' := hid (World.rowIs.alloc R1 (.cells #[.slice b l.length cb, .int .i64 t] 25))
  have R2' := hid R2
  have HB := hid B2
  have HC := hid (c_sameCells a b l l ca cb _ (ha.below B2) (hb.below B2) hl hl)
  clear R1 R2 B2 ha hb
  rw [show (w.alloc (.cells #[.slice a l.length ca, .int .i64 t] 25)).heap.size = w.heap.size + 1 by simp] at R2'
  rw [show decide (l = l) = true by simp] at HC
  have hne : (t == t) = true := by simp
  go_enter Tryz.func7, Tryz.ntmps7
  go_wp2_with fail
  refine HC.out.mono ?_
  rintro e w1 ⟨rfl, hb1⟩
  have x1 := (WRow.below R1'.out hb1).c1
  have x2 := (WRow.below R2'.out hb1).c1
  go_wp2
  go_ret
  exact ⟨rfl, HB.out.trans (hb1.mono HB.out.size)⟩

end Go.Proofs.YtnabgfbempkgnaaGreatDoor
