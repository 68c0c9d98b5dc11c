/- Texts of this seat, one behind the other: CellsA, DrawL, Life. -/
import Derived.Test.YtgfdkolhldbehaaLj
import Derived.Test.YtgfdkolhldbehaaLe
import Derived.Test.YtgfdkolhldbehaaBoxY
import Derived.Test.YtgfdkolhldbehaaBoxS
namespace Go.Proofs.Ytgfdkolhldbehaa
open Go.RowKit
set_option linter.unusedVariables false

theorem c_pick1 (b : Nat) (w : World) :
    Calls Try.prog 81 #[.pointer (some ⟨b, 0, none⟩), .int .i64 1] w fun e w' => e = .returned (.int .i64 0) ∧ w' = w := by
  go_enter Try.func81, Try.ntmps81
  go_wp2
  go_ret
  exact ⟨rfl, rfl⟩
theorem c_pickA (base b n : Nat) (A m : Int) (w : World) (h : CurAt w base b n A) (hA : A ≤ 1073741824) (hm : 1 ≤ m) (hm2 : m ≤ 200) :
    Calls Try.prog 81 #[.pointer (some ⟨b, 0, none⟩), .int .i64 m] w fun e w' => ∃ v : Int, e = .returned (.int .i64 v) ∧ 0 ≤ v ∧ v < m ∧ CurAt w' base b n (A + 1) ∧ w.grownBy w' (some b) := by
  by_cases h1 : 1 < m
  · exact c_pick base b n A m w h hA h1 hm2
  · obtain rfl : m = 1 := by omega
    refine (c_pick1 b w).mono ?_
    rintro e w' ⟨rfl, rfl⟩
    exact ⟨0, rfl, by omega, by omega, h.more (by omega), grown_same _ _⟩

set_option maxRecDepth 100000 in
set_option maxHeartbeats 1000000 in
theorem c_cellsA (base b n : Nat) (A m wd q : Int) (w : World) (h : CurAt w base b n A) (hA : A ≤ 1000000) (hm : 0 ≤ m) (hm2 : m ≤ 100) (hw : 1 < wd) (hw2 : wd ≤ 200) (hq : wd.tdiv 2 = q) (hq0 : 0 ≤ q) (hq1 : q ≤ 100) (hq2 : wd ≤ 2 * q + 1) :
    Calls Try.prog 73 #[.pointer (some ⟨b, 0, none⟩), .int .i64 m, .int .i64 wd] w fun e w' => ∃ (v : Value) (l : List Cl), e = .returned v ∧ OwnS w' w.heap.size v l ∧ l.length ≤ 105 ∧ Small l ∧ CurAt w' base b n (A + 1000) ∧ w.grownBy w' (some b) := by
  have HN := hid (c_known base b n A w h (by omega))
  have hbl := h.lt
  have hwq : IntKind.wrap .i64 q = q := by rw [IntKind.wrap_i64]; omega
  clear h
  go_enter Try.func73, Try.ntmps73
  go_wp2_with fail
  refine HN.out.mono ?_
  rintro e w1 ⟨v1, l1, rfl, hO1, hl1, hs1, hc1, hg1⟩
  have HU := hid (show CU w w1 base b n (A + 1) v1 l1 from ⟨hO1, hc1, hg1, hbl.2⟩)
  have HS := hid hs1
  clear hO1 hs1 hc1 hg1 HN
  go_wp2_with fail
  refine (c_pickA base b n (A + 1) (m + 1) w1 HU.out.cur (by omega) (by omega) (by omega)).mono ?_
  rintro e w2 ⟨p, rfl, p0, p1, hc2, hg2⟩
  have HU2 := hid (HU.out.cur' hc2 hg2)
  clear hc2 hg2 HU
  go_wp2
  go_loopw [7, 8] (fun lv nv wr => ∃ (j : Nat) (L : List Cl), nv = .int .i64 j ∧ j ≤ 100 ∧ L.length + j ≤ 105 ∧ Hid (Small L) ∧ Hid (CU w wr base b n (A + 300 - 2 * (j : Int)) lv L)) (fun _ nv _ => (intOf nv).toNat)
  case atStart => exact ⟨p.toNat, l1, by go_num, by omega, by omega, HS.out, HU2.out.more (by omega)⟩
  case round =>
    obtain ⟨j, L, rfl, hj, hL, hSm, hCU⟩ := hrel
    clear HU2 HS
    by_cases hj0 : 0 < j
    · have j0 : (0 : Int) < (j : Int) := by omega
      go_wp2_with fail
      refine (c_pick base b n _ wd wr hCU.out.cur (by omega) hw hw2).mono ?_
      rintro e w3 ⟨p3, rfl, p30, p31, hc3, hg3⟩
      have HU3 := hid (hCU.out.cur' hc3 hg3)
      clear hc3 hg3 hCU
      go_wp2_with fail
      refine (c_pick base b n _ wd w3 HU3.out.cur (by omega) hw hw2).mono ?_
      rintro e w4 ⟨p4, rfl, p40, p41, hc4, hg4⟩
      have HU4 := hid (HU3.out.cur' hc4 hg4)
      clear hc4 hg4 HU3
      have HU5 := hid (HU4.out.alloc (.cells #[.int .i64 (p3 - q), .int .i64 (p4 - q)] 36))
      go_wp2_with (at_builtin; refine wpList_app' rfl (.tmp 19) (.tmp 33) rfl w.heap.size _ L [(p3 - q, p4 - q)] (some ⟨w4.heap.size, 0, none⟩) 1 1 rfl HU5.out.own rfl rfl (seg_block (heap_alloc_new w4 _)) (by intro h; cases h) (by simp; omega) HU5.out.gr.size ?_; intro v6 w6 hO6 hG6; have HU6 := hid (HU5.out.app hO6 hG6); clear hO6 hG6)
      go_roundw
      case rel => exact ⟨j - 1, _, by go_num, by omega, by simp; omega, small_snoc hSm.out (by simp only []; omega), HU6.out.more (by omega)⟩
      case measure => simp [intOf]; omega
    · have j0 : decide ((0 : Int) < (j : Int)) = false := by simp; omega
      obtain rfl : j = 0 := by omega
      clear hj0 j0
      obtain ⟨a5, ca5, rfl, hs5⟩ := hCU.out.own.form
      go_wp2_with fail
      refine (c_l1Sort a5 L ca5 wr hs5 (by omega)).mono ?_
      rintro e w7 ⟨v7, l7, rfl, hO7, hr7, hm7, hl7, hb7⟩
      have HU7 := hid (show CU w w7 base b n (A + 300) v7 l7 from ⟨hO7.mono hCU.out.gr.size, (hCU.out.below hb7).cur.more (by omega), (hCU.out.below hb7).gr, hbl.2⟩)
      have HS7 := hid (show Small l7 from fun c hc => hSm.out c ((hm7 c).1 hc))
      clear hO7 hr7 hm7 hb7 hCU hs5 hSm
      by_cases h0 : l7 = []
      · subst h0
        obtain ⟨a7, ca7, rfl, _⟩ := HU7.out.own.form
        go_wp2
        go_ret
        exact ⟨_, [], rfl, HU7.out.own, by simp, HS7.out, HU7.out.cur.more (by omega), HU7.out.gr⟩
      · have hlen : 0 < l7.length := List.length_pos_iff.2 h0
        have hlen' : (0 : Int) < (l7.length : Int) := by omega
        obtain ⟨g, cap, rfl⟩ : ∃ g cap, v7 = .slice (some ⟨g, 0, none⟩) l7.length cap := by
          rcases HU7.out.own.2 with ⟨_, hn⟩ | ⟨g, cap, cur, e, _⟩
          · omega
          · exact ⟨g, cap, e⟩
        clear h0
        go_wp2_with fail
        refine (c_one base b n _ 40 w7 HU7.out.cur (by omega) (by omega) (by omega)).mono ?_
        rintro e w8 ⟨x, rfl, hc8, hg8⟩
        have HU8 := hid (HU7.out.cur' hc8 hg8)
        clear hc8 hg8 HU7
        cases x
        · go_wp2
          go_ret
          exact ⟨_, l7, rfl, HU8.out.own, by omega, HS7.out, HU8.out.cur.more (by omega), HU8.out.gr⟩
        · have HU9 := hid (HU8.out.alloc (.cells #[.int .i64 (-41), .int .i64 (-40), .int .i64 40, .int .i64 41] 3))
          have HI9 := hid (amseg_new w8 [-41, -40, 40, 41] #[.int .i64 (-41), .int .i64 (-40), .int .i64 40, .int .i64 41] 3 rfl)
          go_wp2_with fail
          refine (c_among base b n _ 0 4 _ [-41, -40, 40, 41] _ HU9.out.cur (by omega) (by simp) (by simp) HI9.out (by have := HU8.out.cur.lt; omega) (by simp)).mono ?_
          rintro e w10 ⟨x1, rfl, hx1, hc10, hg10⟩
          have HU10 := hid (HU9.out.cur' hc10 hg10)
          have HX1 := hid (show -100 ≤ x1 ∧ x1 ≤ 100 by simp at hx1; omega)
          clear hc10 hg10 HU9 HU8 HI9 hx1
          have HU11 := hid (HU10.out.alloc (.cells #[.int .i64 (-41), .int .i64 (-40), .int .i64 0] 3))
          have HI11 := hid (amseg_new w10 [-41, -40, 0] #[.int .i64 (-41), .int .i64 (-40), .int .i64 0] 3 rfl)
          go_wp2_with fail
          refine (c_among base b n _ 0 3 _ [-41, -40, 0] _ HU11.out.cur (by omega) (by simp) (by simp) HI11.out (by have := HU10.out.cur.lt; omega) (by simp)).mono ?_
          rintro e w12 ⟨x2, rfl, hx2, hc12, hg12⟩
          have HU12 := hid (HU11.out.cur' hc12 hg12)
          have HX2 := hid (show -100 ≤ x2 ∧ x2 ≤ 100 by simp at hx2; omega)
          clear hc12 hg12 HU11 HU10 HI11 hx2
          have e0 := World.ownsRow.cellAt HU12.out.own 0 (by omega)
          have e1 := World.ownsRow.cellAt HU12.out.own 1 (by omega)
          have z0 : (flat l7)[0]? = some (.int .i64 (at_ l7 0).1) := flat_even (i := 0) hlen
          have z1 : (flat l7)[1]? = some (.int .i64 (at_ l7 0).2) := flat_odd (i := 0) hlen
          rw [z0] at e0
          rw [z1] at e1
          have f0 := World.ownsRow.frozenAt HU12.out.own 0
          have f1 := World.ownsRow.frozenAt HU12.out.own 1
          have R := hid (own_set0 (x1, x2) HU12.out.own hlen)
          have HU13 := hid (HU12.out.app R.out.1 (by exact R.out.2))
          clear z0 z1 R
          generalize at_ l7 0 = y at *
          go_wp2
          go_ret
          exact ⟨_, _, rfl, HU13.out.own, by simp; omega, small_set HS7.out ⟨HX1.out.1, HX1.out.2, HX2.out.1, HX2.out.2⟩, HU13.out.cur.more (by omega), HU13.out.gr⟩

set_option maxHeartbeats 1000000 in
set_option maxRecDepth 100000 in
theorem c_DrawPeriodOf (a : Option Addr) (l : List Int) (ca : Nat) (w : World) (ha : BSeg w a l) (hl : l.length ≤ 9223372036854775807) :
    Calls Try.prog 57 #[.slice a l.length ca] w fun e w' => ∃ (v : Value) (L : List Cl) (t : Int), e = .returned (.tuple #[v, .int .i64 t]) ∧ OwnS w' w.heap.size v L ∧ L.length ≤ 105 ∧ Small L ∧ 0 ≤ t ∧ t ≤ 21 ∧ Below w.heap.size w w' := by
  have HC := hid (cur_new w a l ca ha hl)
  obtain ⟨W, hW⟩ : ∃ W, W = w.alloc (.cells #[.slice a l.length ca, .int .i64 0, .int .u64 0] 88) := ⟨_, rfl⟩
  have hsz : W.heap.size = w.heap.size + 1 := by rw [hW]; simp
  have HBC := hid (fun (w' : World) (h : W.grownBy w' (some w.heap.size)) => below_cur (w := w) (w' := w') (a := a) (n := l.length) (ca := ca) (by show World.grownBy (w.alloc (.cells #[.slice a l.length ca, .int .i64 0, .int .u64 0] 88)) w' (some w.heap.size); rw [← hW]; exact h))
  rw [show curW w a l.length ca = W from hW.symm] at HC
  have HU := hid (show CU W W w.heap.size w.heap.size l.length 0 (.slice none 0 0) [] from ⟨OwnS.nil _ _, HC.out, grown_same _ _, by omega⟩)
  have HU9 := hid (HU.out.alloc (.cells #[.int .i64 0, .int .i64 0, .int .i64 4] 3))
  have HI9 := hid (amseg_new W [0, 0, 4] #[.int .i64 0, .int .i64 0, .int .i64 4] 3 rfl)
  rw [hsz] at HI9
  clear ha HC HU
  go_enter Try.func57, Try.ntmps57
  go_wp2_with fail
  rw [← hW]
  clear hW
  refine (c_among w.heap.size w.heap.size l.length _ 0 3 _ [0, 0, 4] _ HU9.out.cur (by omega) (by simp) (by simp) HI9.out (by omega) (by simp [hsz])).mono ?_
  rintro e w1 ⟨x, rfl, hx, hc1, hg1⟩
  have HU1 := hid (HU9.out.cur' hc1 hg1)
  have hx0 : 0 ≤ x ∧ x ≤ 4 := by simp at hx; omega
  clear hc1 hg1 HU9 HI9 hx
  obtain ⟨x0, x4⟩ := hx0
  go_wp2_with fail
  refine (c_cellsA w.heap.size w.heap.size l.length _ x 9 4 w1 HU1.out.cur (by omega) (by omega) (by omega) (by omega) (by omega) rfl (by omega) (by omega) (by omega)).mono ?_
  rintro e w2 ⟨v2, L, rfl, hO2, hl2, hs2, hc2, hg2⟩
  have HU2 := hid (show CU W w2 w.heap.size w.heap.size l.length (0 + 1 + 1000) v2 L from ⟨hO2.mono HU1.out.gr.size, hc2, grown_trans HU1.out.gr hg2, by omega⟩)
  have HS := hid hs2
  clear hO2 hs2 hc2 hg2 HU1
  have HU9 := hid (HU2.out.alloc (.cells #[.int .i64 0, .int .i64 1, .int .i64 2, .int .i64 6, .int .i64 12, .int .i64 20, .int .i64 21] 3))
  have HI9 := hid (amseg_new w2 [0, 1, 2, 6, 12, 20, 21] #[.int .i64 0, .int .i64 1, .int .i64 2, .int .i64 6, .int .i64 12, .int .i64 20, .int .i64 21] 3 rfl)
  have hne := HU2.out.cur.lt
  go_wp2_with fail
  refine (c_among w.heap.size w.heap.size l.length _ 0 7 _ [0, 1, 2, 6, 12, 20, 21] _ HU9.out.cur (by omega) (by simp) (by simp) HI9.out (by omega) (by simp)).mono ?_
  rintro e w10 ⟨x1, rfl, hx1, hc10, hg10⟩
  have HU10 := hid (HU9.out.cur' hc10 hg10)
  have HX1 := hid (show 0 ≤ x1 ∧ x1 ≤ 21 by simp at hx1; omega)
  clear hc10 hg10 HU9 HI9 hx1
  go_wp2
  go_ret2
  exact ⟨_, L, x1, rfl, HU10.out.own.mono (by omega), hl2, HS.out, HX1.out.1, HX1.out.2, HBC.out _ HU10.out.gr⟩

theorem c_DrawFateOf (a : Option Addr) (l : List Int) (ca : Nat) (w : World) (ha : BSeg w a l) (hl : l.length ≤ 9223372036854775807) :
    Calls Try.prog 13 #[.slice a l.length ca] w fun e w' => ∃ (v : Value) (L : List Cl) (t : Int), e = .returned (.tuple #[v, .int .i64 t]) ∧ OwnS w' w.heap.size v L ∧ L.length ≤ 105 ∧ Small L ∧ 0 ≤ t ∧ t ≤ 21 ∧ Below w.heap.size w w' := by
  have HC := hid (c_DrawPeriodOf a l ca w ha hl)
  clear ha
  go_enter Try.func13, Try.ntmps13
  go_wp2_with fail
  refine HC.out.mono ?_
  rintro e w1 ⟨v1, L, t, rfl, hO1, hl1, hs1, t0, t1, hb1⟩
  have HO := hid hO1
  have HS := hid hs1
  have HB := hid hb1
  clear hO1 hs1 hb1
  go_wp2
  go_ret2
  exact ⟨_, L, t, rfl, HO.out, hl1, HS.out, t0, t1, HB.out⟩

end Go.Proofs.Ytgfdkolhldbehaa

namespace Go.Proofs.Ytgfdkolhldbehaa
open Go.RowKit
set_option linter.unusedVariables false

theorem BoxAt.grown {w w' : World} {B : Nat} {c : Cl} {row : Option Nat} (h : BoxAt w B c) (hg : w.grownBy w' row) (hne : some B ≠ row) : BoxAt w' B c := by
  obtain ⟨h1, h2, h3, h4, h5⟩ := h
  exact ⟨(cell_grown1 hg h5 hne).trans h1, (cell_grown1 hg h5 hne).trans h2, (frozen_grown1 hg h5 hne).trans h3, (frozen_grown1 hg h5 hne).trans h4, Nat.lt_of_lt_of_le h5 hg.size⟩
theorem CU.nilset {w W : World} {base b n : Nat} {A : Int} (h : CU w W base b n A (.slice none 0 0) []) {B : Nat} (hB : w.heap.size ≤ B) (o : Nat) (u : Value) : CU w (W.setCell ⟨B, o, none⟩ u) base b n A (.slice none 0 0) [] :=
  ⟨OwnS.nil _ _, h.cur.kept (grown_set1 W B o u) (fun e => by have := h.bl; simp only [Option.some.injEq] at e; omega) (fun k e => by have := h.bl; have := h.cur.lt; simp only [Option.some.injEq] at e; omega), grown_over h.gr (grown_set1 W B o u) (fun k e => by simp only [Option.some.injEq] at e; omega), h.bl⟩

set_option maxHeartbeats 1000000 in
set_option maxRecDepth 100000 in
theorem c_DrawGoodCells (a : Option Addr) (l : List Int) (ca : Nat) (w : World) (ha : BSeg w a l) (hl : l.length ≤ 9223372036854775807) :
    Calls Try.prog 70 #[.slice a l.length ca] w fun e w' => ∃ (v : Value) (L : List Cl), e = .returned v ∧ OwnS w' w.heap.size v L ∧ L.length ≤ 105 ∧ Small L ∧ Below w.heap.size w w' := by
  have HC := hid (cur_new w a l ca ha hl)
  clear ha
  go_enter Try.func70, Try.ntmps70
  go_wp2_with fail
  refine (c_cells w.heap.size w.heap.size l.length 0 12 9 4 (curW w a l.length ca) HC.out (by omega) (by omega) (by omega) (by omega) (by omega) rfl (by omega) (by omega) (by omega)).mono ?_
  rintro e w1 ⟨v1, L, rfl, hO1, hl1, hs1, hc1, hg1⟩
  have HO := hid (hO1.mono (show w.heap.size ≤ (curW w a l.length ca).heap.size by simp))
  have HS := hid hs1
  have HB := hid (below_cur hg1)
  clear hO1 hs1 hc1 hg1 HC
  go_wp2
  go_ret
  exact ⟨_, L, rfl, HO.out, hl1, HS.out, HB.out⟩
end Go.Proofs.Ytgfdkolhldbehaa

namespace Go.Proofs.Ytgfdkolhldbehaa
open Go.RowKit
set_option linter.unusedVariables false

theorem lo_fold : ∀ (L : List Cl) (a : Cl), (L.foldl loC a).1 ≤ a.1 ∧ (L.foldl loC a).2 ≤ a.2 ∧ (∀ x ∈ L, (L.foldl loC a).1 ≤ x.1 ∧ (L.foldl loC a).2 ≤ x.2) ∧ ((L.foldl loC a).1 = a.1 ∨ ∃ x ∈ L, (L.foldl loC a).1 = x.1) ∧ ((L.foldl loC a).2 = a.2 ∨ ∃ x ∈ L, (L.foldl loC a).2 = x.2)
  | [], a => ⟨Int.le_refl _, Int.le_refl _, (fun x hx => by cases hx), .inl rfl, .inl rfl⟩
  | c :: L, a => by
    obtain ⟨h1, h2, h3, h4, h5⟩ := lo_fold L (loC a c)
    have e1 : (loC a c).1 = if c.1 < a.1 then c.1 else a.1 := rfl
    have e2 : (loC a c).2 = if c.2 < a.2 then c.2 else a.2 := rfl
    have b1 : (loC a c).1 ≤ a.1 ∧ (loC a c).1 ≤ c.1 := by rw [e1]; split <;> omega
    have b2 : (loC a c).2 ≤ a.2 ∧ (loC a c).2 ≤ c.2 := by rw [e2]; split <;> omega
    have c1 : (loC a c).1 = a.1 ∨ (loC a c).1 = c.1 := by rw [e1]; split <;> simp
    have c2 : (loC a c).2 = a.2 ∨ (loC a c).2 = c.2 := by rw [e2]; split <;> simp
    rw [List.foldl_cons]
    refine ⟨by omega, by omega, fun x hx => ?_, ?_, ?_⟩
    · rcases List.mem_cons.1 hx with rfl | hx
      · omega
      · exact h3 x hx
    · rcases h4 with h | ⟨x, hx, h⟩
      · rcases c1 with c | c
        · exact .inl (h.trans c)
        · exact .inr ⟨_, List.mem_cons_self, h.trans c⟩
      · exact .inr ⟨x, List.mem_cons_of_mem _ hx, h⟩
    · rcases h5 with h | ⟨x, hx, h⟩
      · rcases c2 with c | c
        · exact .inl (h.trans c)
        · exact .inr ⟨_, List.mem_cons_self, h.trans c⟩
      · exact .inr ⟨x, List.mem_cons_of_mem _ hx, h⟩
theorem hi_fold : ∀ (L : List Cl) (a : Cl), a.1 ≤ (L.foldl hiC a).1 ∧ a.2 ≤ (L.foldl hiC a).2 ∧ (∀ x ∈ L, x.1 ≤ (L.foldl hiC a).1 ∧ x.2 ≤ (L.foldl hiC a).2) ∧ ((L.foldl hiC a).1 = a.1 ∨ ∃ x ∈ L, (L.foldl hiC a).1 = x.1) ∧ ((L.foldl hiC a).2 = a.2 ∨ ∃ x ∈ L, (L.foldl hiC a).2 = x.2)
  | [], a => ⟨Int.le_refl _, Int.le_refl _, (fun x hx => by cases hx), .inl rfl, .inl rfl⟩
  | c :: L, a => by
    obtain ⟨h1, h2, h3, h4, h5⟩ := hi_fold L (hiC a c)
    have e1 : (hiC a c).1 = if a.1 < c.1 then c.1 else a.1 := rfl
    have e2 : (hiC a c).2 = if a.2 < c.2 then c.2 else a.2 := rfl
    have b1 : a.1 ≤ (hiC a c).1 ∧ c.1 ≤ (hiC a c).1 := by rw [e1]; split <;> omega
    have b2 : a.2 ≤ (hiC a c).2 ∧ c.2 ≤ (hiC a c).2 := by rw [e2]; split <;> omega
    have c1 : (hiC a c).1 = a.1 ∨ (hiC a c).1 = c.1 := by rw [e1]; split <;> simp
    have c2 : (hiC a c).2 = a.2 ∨ (hiC a c).2 = c.2 := by rw [e2]; split <;> simp
    rw [List.foldl_cons]
    refine ⟨by omega, by omega, fun x hx => ?_, ?_, ?_⟩
    · rcases List.mem_cons.1 hx with rfl | hx
      · omega
      · exact h3 x hx
    · rcases h4 with h | ⟨x, hx, h⟩
      · rcases c1 with c | c
        · exact .inl (h.trans c)
        · exact .inr ⟨_, List.mem_cons_self, h.trans c⟩
      · exact .inr ⟨x, List.mem_cons_of_mem _ hx, h⟩
    · rcases h5 with h | ⟨x, hx, h⟩
      · rcases c2 with c | c
        · exact .inl (h.trans c)
        · exact .inr ⟨_, List.mem_cons_self, h.trans c⟩
      · exact .inr ⟨x, List.mem_cons_of_mem _ hx, h⟩

theorem boxOk_parts {l : List Cl} (h : boxOk l = true) : good l = true ∧ at_ l 0 ∈ l ∧ boxLo l = l.foldl loC (at_ l 0) ∧ boxHi l = l.foldl hiC (at_ l 0) := by
  have h' := h
  unfold boxOk at h'
  simp only [Bool.and_eq_true, decide_eq_true_eq] at h'
  refine ⟨h'.1, mem_at.2 ⟨0, by omega, rfl⟩, ?_, ?_⟩
  · unfold boxLo loTo; rw [h, List.take_length]; rfl
  · unfold boxHi hiTo; rw [h, List.take_length]; rfl
theorem box_in {l : List Cl} (h : boxOk l = true) : (∀ x ∈ l, (boxLo l).1 ≤ x.1 ∧ (boxLo l).2 ≤ x.2 ∧ x.1 ≤ (boxHi l).1 ∧ x.2 ≤ (boxHi l).2) ∧ (∃ x ∈ l, (boxLo l).1 = x.1) ∧ (∃ x ∈ l, (boxLo l).2 = x.2) ∧ (∃ x ∈ l, (boxHi l).1 = x.1) ∧ (∃ x ∈ l, (boxHi l).2 = x.2) := by
  obtain ⟨hg, h0, e1, e2⟩ := boxOk_parts h
  rw [e1, e2]
  obtain ⟨_, _, a3, a4, a5⟩ := lo_fold l (at_ l 0)
  obtain ⟨_, _, b3, b4, b5⟩ := hi_fold l (at_ l 0)
  refine ⟨fun x hx => ⟨(a3 x hx).1, (a3 x hx).2, (b3 x hx).1, (b3 x hx).2⟩, ?_, ?_, ?_, ?_⟩
  · rcases a4 with h | h
    · exact ⟨_, h0, h⟩
    · exact h
  · rcases a5 with h | h
    · exact ⟨_, h0, h⟩
    · exact h
  · rcases b4 with h | h
    · exact ⟨_, h0, h⟩
    · exact h
  · rcases b5 with h | h
    · exact ⟨_, h0, h⟩
    · exact h
theorem good_mem {l : List Cl} (h : good l = true) {c : Cl} (hc : c ∈ l) : -40 ≤ c.1 ∧ c.1 ≤ 40 ∧ -40 ≤ c.2 ∧ c.2 ≤ 40 := by
  obtain ⟨i, hi, e⟩ := mem_at.1 hc
  have := good_in h i hi
  rw [e] at this
  simp [inR] at this
  omega
/-- A box's corners are within reach. -/
theorem box_bd (l : List Cl) : (-40 ≤ (boxLo l).1 ∧ (boxLo l).1 ≤ 40 ∧ -40 ≤ (boxLo l).2 ∧ (boxLo l).2 ≤ 40) ∧ (-40 ≤ (boxHi l).1 ∧ (boxHi l).1 ≤ 40 ∧ -40 ≤ (boxHi l).2 ∧ (boxHi l).2 ≤ 40) := by
  cases h : boxOk l
  · simp [boxLo, boxHi, h]
  · obtain ⟨_, ⟨x, hx, e1⟩, ⟨y, hy, e2⟩, ⟨u, hu, e3⟩, ⟨v, hv, e4⟩⟩ := box_in h
    have hg := (boxOk_parts h).1
    have := good_mem hg hx
    have := good_mem hg hy
    have := good_mem hg hu
    have := good_mem hg hv
    omega
theorem stepOk_parts {l : List Cl} (h : stepOk l = true) : good l = true ∧ stepL l = pickL (nxtB l) ∧ good (stepL l) = true := by
  unfold stepOk at h
  simp only [Bool.and_eq_true] at h
  have e : stepL l = pickL (nxtB l) := by unfold stepL tellV; rw [h.1, h.2]; rfl
  exact ⟨h.1, e, by rw [e]; exact h.2⟩
/-- None is born further off than one. -/
theorem life_box {l : List Cl} (h : stepOk l = true) (hb : boxOk (stepL l) = true) : boxOk l = true ∧ ¬ (boxLo (stepL l)).1 < (boxLo l).1 - 1 ∧ ¬ (boxLo (stepL l)).2 < (boxLo l).2 - 1 ∧ ¬ (boxHi l).1 + 1 < (boxHi (stepL l)).1 ∧ ¬ (boxHi l).2 + 1 < (boxHi (stepL l)).2 := by
  obtain ⟨hg, e, hs⟩ := stepOk_parts h
  have hn : ∀ c ∈ stepL l, ∃ x ∈ l, -1 ≤ x.1 - c.1 ∧ x.1 - c.1 ≤ 1 ∧ -1 ≤ x.2 - c.2 ∧ x.2 - c.2 ≤ 1 := by
    intro c hc
    rw [e] at hc
    obtain ⟨x, hx, hxn⟩ := nxt_near (((pickL_spec l).2 c).1 hc)
    exact ⟨x, hx, ((nearB_iff c x).1 hxn).2⟩
  obtain ⟨_, ⟨c1, m1, e1⟩, ⟨c2, m2, e2⟩, ⟨c3, m3, e3⟩, ⟨c4, m4, e4⟩⟩ := box_in hb
  obtain ⟨x1, n1, d1⟩ := hn c1 m1
  obtain ⟨x2, n2, d2⟩ := hn c2 m2
  obtain ⟨x3, n3, d3⟩ := hn c3 m3
  obtain ⟨x4, n4, d4⟩ := hn c4 m4
  have hbl : boxOk l = true := by
    unfold boxOk
    rw [hg]
    simp only [Bool.true_and, decide_eq_true_eq]
    intro h0
    rw [List.length_eq_zero_iff] at h0
    rw [h0] at n1
    cases n1
  obtain ⟨k, _⟩ := box_in hbl
  have k1 := k x1 n1
  have k2 := k x2 n2
  have k3 := k x3 n3
  have k4 := k x4 n4
  refine ⟨hbl, ?_, ?_, ?_, ?_⟩ <;> omega
/-- Who is alive next. -/
theorem life_next {l : List Cl} (h : stepOk l = true) (c : Cl) (hc : inR c = true) : nearV l c = ((near l c : Int), true) ∧ aliveV l c = (decide (c ∈ l), true) ∧ aliveV (stepL l) c = ((decide ((near l c : Int) = 3) || (decide ((near l c : Int) = 2) && decide (c ∈ l))), true) := by
  obtain ⟨hg, e, hs⟩ := stepOk_parts h
  refine ⟨by unfold nearV; rw [hg, hc]; rfl, by unfold aliveV; rw [hg, hc]; rfl, ?_⟩
  unfold aliveV
  rw [hs, hc]
  have : decide (c ∈ stepL l) = nxtB l c := by
    rw [Bool.eq_iff_iff, decide_eq_true_eq, e]
    exact (pickL_spec l).2 c
  rw [this]
  rfl
theorem BoxAt.bel {w w' : World} {b : Nat} {c : Cl} (h : BoxAt w b c) (hb : Below w.heap.size w w') : BoxAt w' b c := h.below hb h.2.2.2.2
/-- Two new boxes. -/
theorem two_new (w : World) (lo hi : Cl) : BoxAt ((w.alloc (.cells #[.int .i64 lo.1, .int .i64 lo.2] 36)).alloc (.cells #[.int .i64 hi.1, .int .i64 hi.2] 36)) w.heap.size lo ∧
    BoxAt ((w.alloc (.cells #[.int .i64 lo.1, .int .i64 lo.2] 36)).alloc (.cells #[.int .i64 hi.1, .int .i64 hi.2] 36)) (w.heap.size + 1) hi ∧
    Below w.heap.size w ((w.alloc (.cells #[.int .i64 lo.1, .int .i64 lo.2] 36)).alloc (.cells #[.int .i64 hi.1, .int .i64 hi.2] 36)) := by
  have hz : (w.alloc (.cells #[.int .i64 lo.1, .int .i64 lo.2] 36)).heap.size = w.heap.size + 1 := by simp
  refine ⟨(BoxAt.new w lo).alloc _, ?_, ((Below.refl w.heap.size w).alloc (Nat.le_refl _) _).alloc (by rw [hz]; omega) _⟩
  rw [← hz]
  exact BoxAt.new _ hi
end Go.Proofs.Ytgfdkolhldbehaa
