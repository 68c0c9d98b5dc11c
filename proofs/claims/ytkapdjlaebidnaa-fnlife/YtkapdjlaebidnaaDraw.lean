/- The draws of chapter 1. -/
import Derived.Test.YtkapdjlaebidnaaCells
import Derived.Test.YtkapdjlaebidnaaSame
import Derived.OwnWalk
namespace Go.Proofs.Ytkapdjlaebidnaa
open Go.RowKit
set_option linter.unusedVariables false

/-- The world with a new cursor. -/
abbrev curW (w : World) (a : Option Addr) (n ca : Nat) : World := w.alloc (.cells #[.slice a n ca, .int .i64 0, .int .u64 0] 59)
theorem cur_new (w : World) (a : Option Addr) (l : List Int) (ca : Nat) (ha : BSeg w a l) (hl : l.length ≤ 9223372036854775807) : CurAt (curW w a l.length ca) w.heap.size w.heap.size l.length 0 := by
  refine ⟨a, ca, 0, 0, by simp, Nat.le_refl _, ?_, ?_, ?_, ?_, ?_, by omega, by omega, hl, fun i hi => ?_⟩
  · unfold World.cell?; rw [heap_alloc_new]; rfl
  · unfold World.cell?; rw [heap_alloc_new]; rfl
  · unfold World.cell?; rw [heap_alloc_new]; rfl
  · unfold World.frozen?; rw [heap_alloc_new]; rfl
  · unfold World.frozen?; rw [heap_alloc_new]; rfl
  · obtain ⟨g, o, e, hg, hc, h0, h1⟩ := ha i hi
    exact ⟨g, o, _, e, hg, cell_old w _ hc hg, h0, h1⟩
theorem below_cur {w w' : World} {a : Option Addr} {n ca : Nat} (h : (curW w a n ca).grownBy w' (some w.heap.size)) : Below w.heap.size w w' :=
  ((Below.refl w.heap.size w).alloc (Nat.le_refl _) _).grown h (by simp) (fun k e => by simp only [Option.some.injEq] at e; omega)

set_option maxHeartbeats 1000000 in
set_option maxRecDepth 100000 in
theorem c_DrawStepTimes (a : Option Addr) (l : List Int) (ca : Nat) (w : World) (ha : BSeg w a l) (hl : l.length ≤ 9223372036854775807) :
    Calls Try.prog 19 #[.slice a l.length ca] w fun e w' => ∃ (v : Value) (L : List Cl) (t : Int), e = .returned (.tuple #[v, .int .i64 t]) ∧ OwnS w' w.heap.size v L ∧ L.length ≤ 105 ∧ Small L ∧ -1 ≤ t ∧ t ≤ 21 ∧ Below w.heap.size w w' := by
  have HC := hid (cur_new w a l ca ha hl)
  clear ha
  go_enter Try.func19, Try.ntmps19
  go_wp2_with fail
  refine (c_cells w.heap.size w.heap.size l.length 0 9 7 3 (curW w a l.length ca) HC.out (by omega) (by omega) (by omega) (by omega) (by omega) rfl (by omega) (by omega) (by omega)).mono ?_
  rintro e w1 ⟨v1, L, rfl, hO1, hl1, hs1, hc1, hg1⟩
  have HU := hid (show CU (curW w a l.length ca) w1 w.heap.size w.heap.size l.length (0 + 1000) v1 L from ⟨hO1, hc1, hg1, by simp⟩)
  have HS := hid hs1
  clear hO1 hs1 hc1 hg1 HC
  have HU9 := hid (HU.out.alloc (.cells #[.int .i64 (-1), .int .i64 0, .int .i64 1, .int .i64 2, .int .i64 4, .int .i64 7, .int .i64 20, .int .i64 21] 3))
  have HI9 := hid (iseg_new w1 [-1, 0, 1, 2, 4, 7, 20, 21] #[.int .i64 (-1), .int .i64 0, .int .i64 1, .int .i64 2, .int .i64 4, .int .i64 7, .int .i64 20, .int .i64 21] 3 rfl)
  have hne := HU.out.cur.lt
  go_wp2_with fail
  refine (c_among w.heap.size w.heap.size l.length _ 0 8 _ [-1, 0, 1, 2, 4, 7, 20, 21] _ HU9.out.cur (by omega) (by simp) (by simp) HI9.out (by omega) (by simp)).mono ?_
  rintro e w10 ⟨x1, rfl, hx1, hc10, hg10⟩
  have HU10 := hid (HU9.out.cur' hc10 hg10)
  have HX1 := hid (show -1 ≤ x1 ∧ x1 ≤ 21 by simp at hx1; omega)
  clear hc10 hg10 HU9 HI9 hx1
  go_wp2
  go_ret2
  exact ⟨_, L, x1, rfl, HU10.out.own.mono (by simp), hl1, HS.out, HX1.out.1, HX1.out.2, below_cur HU10.out.gr⟩

set_option maxHeartbeats 1000000 in
set_option maxRecDepth 100000 in
theorem c_DrawMoveCells (a : Option Addr) (l : List Int) (ca : Nat) (w : World) (ha : BSeg w a l) (hl : l.length ≤ 9223372036854775807) :
    Calls Try.prog 24 #[.slice a l.length ca] w fun e w' => ∃ (v : Value) (L : List Cl) (x y : Int), e = .returned (.tuple #[v, .int .i64 x, .int .i64 y]) ∧ OwnS w' w.heap.size v L ∧ L.length ≤ 105 ∧ Small L ∧ -101 ≤ x ∧ x ≤ 101 ∧ -4 ≤ y ∧ y ≤ 4 ∧ Below w.heap.size w w' := by
  have HC := hid (cur_new w a l ca ha hl)
  clear ha
  go_enter Try.func24, Try.ntmps24
  go_wp2_with fail
  refine (c_cells w.heap.size w.heap.size l.length 0 9 9 4 (curW w a l.length ca) HC.out (by omega) (by omega) (by omega) (by omega) (by omega) rfl (by omega) (by omega) (by omega)).mono ?_
  rintro e w1 ⟨v1, L, rfl, hO1, hl1, hs1, hc1, hg1⟩
  have HU := hid (show CU (curW w a l.length ca) w1 w.heap.size w.heap.size l.length (0 + 1000) v1 L from ⟨hO1, hc1, hg1, by simp⟩)
  have HS := hid hs1
  clear hO1 hs1 hc1 hg1 HC
  have HU9 := hid (HU.out.alloc (.cells #[.int .i64 (-101), .int .i64 (-100), .int .i64 (-30), .int .i64 (-1), .int .i64 0, .int .i64 2, .int .i64 36, .int .i64 100, .int .i64 101] 3))
  have HI9 := hid (iseg_new w1 [-101, -100, -30, -1, 0, 2, 36, 100, 101] #[.int .i64 (-101), .int .i64 (-100), .int .i64 (-30), .int .i64 (-1), .int .i64 0, .int .i64 2, .int .i64 36, .int .i64 100, .int .i64 101] 3 rfl)
  have hne := HU.out.cur.lt
  go_wp2_with fail
  refine (c_among w.heap.size w.heap.size l.length _ 0 9 _ [-101, -100, -30, -1, 0, 2, 36, 100, 101] _ HU9.out.cur (by omega) (by simp) (by simp) HI9.out (by omega) (by simp)).mono ?_
  rintro e w10 ⟨x1, rfl, hx1, hc10, hg10⟩
  have HU10 := hid (HU9.out.cur' hc10 hg10)
  have HX1 := hid (show -101 ≤ x1 ∧ x1 ≤ 101 by simp at hx1; omega)
  clear hc10 hg10 HU9 HI9 hx1
  go_wp2_with fail
  refine (c_pick w.heap.size w.heap.size l.length _ 9 w10 HU10.out.cur (by omega) (by omega) (by omega)).mono ?_
  rintro e w11 ⟨p, rfl, p0, p1, hc11, hg11⟩
  have HU11 := hid (HU10.out.cur' hc11 hg11)
  clear hc11 hg11 HU10
  go_wp2
  go_ret3
  exact ⟨_, L, x1, p - 4, rfl, HU11.out.own.mono (by simp), hl1, HS.out, HX1.out.1, HX1.out.2, by omega, by omega, below_cur HU11.out.gr⟩

set_option maxHeartbeats 1000000 in
set_option maxRecDepth 100000 in
theorem c_DrawBothCells (a : Option Addr) (l : List Int) (ca : Nat) (w : World) (ha : BSeg w a l) (hl : l.length ≤ 9223372036854775807) :
    Calls Try.prog 26 #[.slice a l.length ca] w fun e w' => ∃ (v u : Value) (L M : List Cl), e = .returned (.tuple #[v, u]) ∧ OwnS w' w.heap.size v L ∧ L.length ≤ 105 ∧ Small L ∧ OwnS w' w.heap.size u M ∧ M.length ≤ 105 ∧ Small M ∧ Below w.heap.size w w' := by
  have HC := hid (cur_new w a l ca ha hl)
  clear ha
  go_enter Try.func26, Try.ntmps26
  go_wp2_with fail
  refine (c_cells w.heap.size w.heap.size l.length 0 9 9 4 (curW w a l.length ca) HC.out (by omega) (by omega) (by omega) (by omega) (by omega) rfl (by omega) (by omega) (by omega)).mono ?_
  rintro e w1 ⟨v1, L, rfl, hO1, hl1, hs1, hc1, hg1⟩
  have HU := hid (show CU (curW w a l.length ca) w1 w.heap.size w.heap.size l.length (0 + 1000) v1 L from ⟨hO1, hc1, hg1, by simp⟩)
  have HS := hid hs1
  clear hO1 hs1 hc1 hg1 HC
  go_wp2_with fail
  refine (c_cells w.heap.size w.heap.size l.length _ 9 9 4 w1 HU.out.cur (by omega) (by omega) (by omega) (by omega) (by omega) rfl (by omega) (by omega) (by omega)).mono ?_
  rintro e w2 ⟨v2, M, rfl, hO2, hl2, hs2, hc2, hg2⟩
  have HU2 := hid (HU.out.cur' hc2 hg2)
  have HO2 := hid (hO2.mono (show w.heap.size ≤ w1.heap.size from Nat.le_trans (by simp) HU.out.gr.size))
  have HS2 := hid hs2
  clear hO2 hs2 hc2 hg2 HU
  go_wp2
  go_ret2
  exact ⟨_, _, L, M, rfl, HU2.out.own.mono (by simp), hl1, HS.out, HO2.out, hl2, HS2.out, below_cur HU2.out.gr⟩

set_option maxHeartbeats 1000000 in
set_option maxRecDepth 100000 in
theorem c_DrawCellsOf (a : Option Addr) (l : List Int) (ca : Nat) (w : World) (ha : BSeg w a l) (hl : l.length ≤ 9223372036854775807) :
    Calls Try.prog 29 #[.slice a l.length ca] w fun e w' => ∃ (v : Value) (L : List Cl), e = .returned v ∧ OwnS w' w.heap.size v L ∧ L.length ≤ 201 ∧ Small L ∧ Below w.heap.size w w' := by
  have HC := hid (cur_new w a l ca ha hl)
  clear ha
  go_enter Try.func29, Try.ntmps29
  go_wp2_with fail
  refine (c_pick w.heap.size w.heap.size l.length _ 12 (curW w a l.length ca) HC.out (by omega) (by omega) (by omega)).mono ?_
  rintro e w1 ⟨p, rfl, p0, p1, hc1, hg1⟩
  have HU := hid (show CU (curW w a l.length ca) w1 w.heap.size w.heap.size l.length (0 + 1) (.slice none 0 0) [] from ⟨OwnS.nil _ _, hc1, hg1, by simp⟩)
  clear hc1 hg1 HC
  go_wp2_with fail
  refine (c_one w.heap.size w.heap.size l.length _ 20 w1 HU.out.cur (by omega) (by omega) (by omega)).mono ?_
  rintro e w2 ⟨x, rfl, hc2, hg2⟩
  have HU2 := hid (HU.out.cur' hc2 hg2)
  clear hc2 hg2 HU
  cases x
  case false =>
    go_wp2
    have HU3 := hid (HU2.out.more (show (0 + 1 + 1 : Int) ≤ 3 by omega))
    have q1 : p ≤ 201 := by omega
    clear HU2
    generalize w2 = w3 at *
    go_loopw [4, 5] (fun lv nv wr => ∃ (j : Nat) (L : List Cl), nv = .int .i64 j ∧ j ≤ 201 ∧ L.length + j ≤ 201 ∧ Hid (Small L) ∧ Hid (CU (curW w a l.length ca) wr w.heap.size w.heap.size l.length (500 - 2 * (j : Int)) lv L)) (fun _ nv _ => (intOf nv).toNat)
    case atStart => exact ⟨p.toNat, [], by go_num, by omega, by simp; omega, (fun c hc => by cases hc), HU3.out.more (by omega)⟩
    case round =>
      obtain ⟨j, L, rfl, hj, hL, hSm, hCU⟩ := hrel
      clear HU3
      by_cases hj0 : 0 < j
      · have j0 : (0 : Int) < (j : Int) := by omega
        go_wp2_with fail
        refine (c_pick w.heap.size w.heap.size l.length _ 5 wr hCU.out.cur (by omega) (by omega) (by omega)).mono ?_
        rintro e w4 ⟨p3, rfl, p30, p31, hc3, hg3⟩
        have HU4 := hid (hCU.out.cur' hc3 hg3)
        clear hc3 hg3 hCU
        go_wp2_with fail
        refine (c_pick w.heap.size w.heap.size l.length _ 5 w4 HU4.out.cur (by omega) (by omega) (by omega)).mono ?_
        rintro e w5 ⟨p4, rfl, p40, p41, hc4, hg4⟩
        have HU5 := hid (HU4.out.cur' hc4 hg4)
        clear hc4 hg4 HU4
        have HU6 := hid (HU5.out.alloc (.cells #[.int .i64 p3, .int .i64 p4] 30))
        go_wp2_with (at_builtin; refine wpList_app' rfl (.tmp 20) (.tmp 26) rfl (curW w a l.length ca).heap.size _ L [(p3, p4)] (some ⟨w5.heap.size, 0, none⟩) 1 1 rfl HU6.out.own rfl rfl (seg_block (heap_alloc_new w5 _)) (by intro h; cases h) (by simp; omega) HU6.out.gr.size ?_; intro v6 w6 hO6 hG6; have HU7 := hid (HU6.out.app hO6 hG6); clear hO6 hG6)
        go_roundw
        case rel => exact ⟨j - 1, _, by go_num, by omega, by simp; omega, small_snoc hSm.out (by simp only []; omega), HU7.out.more (by omega)⟩
        case measure => simp [intOf]; omega
      · obtain rfl : j = 0 := by omega
        clear hj0
        by_cases h0 : L = []
        · subst h0
          obtain ⟨a7, ca7, rfl, _⟩ := hCU.out.own.form
          go_wp2
          go_ret
          exact ⟨_, [], rfl, hCU.out.own.mono (by simp), by simp, hSm.out, below_cur hCU.out.gr⟩
        · have hlen : 0 < L.length := List.length_pos_iff.2 h0
          have hlen' : (0 : Int) < (L.length : Int) := by omega
          obtain ⟨a7, ca7, ev, _⟩ := hCU.out.own.form
          obtain ⟨g, cap, ev2⟩ : ∃ g cap, Value.slice a7 L.length ca7 = .slice (some ⟨g, 0, none⟩) L.length cap := by
            rw [← ev]
            rcases hCU.out.own.2 with ⟨_, hn⟩ | ⟨g, cap, cur, e, _⟩
            · omega
            · exact ⟨g, cap, e⟩
          rw [ev2] at ev
          subst ev
          clear h0 ev2
          go_wp2_with fail
          refine (c_one w.heap.size w.heap.size l.length _ 12 wr hCU.out.cur (by omega) (by omega) (by omega)).mono ?_
          rintro e w8 ⟨x, rfl, hc8, hg8⟩
          have HU8 := hid (hCU.out.cur' hc8 hg8)
          clear hc8 hg8 hCU
          cases x
          · go_wp2
            go_ret
            exact ⟨_, L, rfl, HU8.out.own.mono (by simp), by omega, hSm.out, below_cur HU8.out.gr⟩
          · have HU9 := hid (HU8.out.alloc (.cells #[.int .i64 (-41), .int .i64 40, .int .i64 41] 3))
            have HI9 := hid (iseg_new w8 [-41, 40, 41] #[.int .i64 (-41), .int .i64 40, .int .i64 41] 3 rfl)
            have hne := HU8.out.cur.lt
            go_wp2_with fail
            refine (c_among w.heap.size w.heap.size l.length _ 0 3 _ [-41, 40, 41] _ HU9.out.cur (by omega) (by simp) (by simp) HI9.out (by omega) (by simp)).mono ?_
            rintro e w10 ⟨x1, rfl, hx1, hc10, hg10⟩
            have HU12 := hid (HU9.out.cur' hc10 hg10)
            have HX1 := hid (show -100 ≤ x1 ∧ x1 ≤ 100 by simp at hx1; omega)
            clear hc10 hg10 HU9 HU8 HI9 hx1
            have e0 := World.ownsRow.cellAt HU12.out.own 0 (by omega)
            have e1 := World.ownsRow.cellAt HU12.out.own 1 (by omega)
            have z0 : (flat L)[0]? = some (.int .i64 (at_ L 0).1) := flat_even (i := 0) hlen
            have z1 : (flat L)[1]? = some (.int .i64 (at_ L 0).2) := flat_odd (i := 0) hlen
            rw [z0] at e0
            rw [z1] at e1
            have f0 := World.ownsRow.frozenAt HU12.out.own 0
            have f1 := World.ownsRow.frozenAt HU12.out.own 1
            have R := hid (own_set0 (x1, 0) HU12.out.own hlen)
            have HU13 := hid (HU12.out.app R.out.1 (by exact R.out.2))
            clear z0 z1 R
            generalize at_ L 0 = y at *
            go_wp2
            go_ret
            exact ⟨_, _, rfl, HU13.out.own.mono (by simp), by simp; omega, small_set hSm.out ⟨HX1.out.1, HX1.out.2, by simp, by simp⟩, below_cur HU13.out.gr⟩
  case true =>
    go_wp2_with fail
    refine (c_pick w.heap.size w.heap.size l.length _ 2 w2 HU2.out.cur (by omega) (by omega) (by omega)).mono ?_
    rintro e w3 ⟨p', rfl, p0', p1', hc3, hg3⟩
    have HU3 := hid ((HU2.out.cur' hc3 hg3).more (show (0 + 1 + 1 + 1 : Int) ≤ 3 by omega))
    clear hc3 hg3 HU2
    go_wp2
    have q0 : 0 ≤ 200 + p' := by omega
    have q1 : 200 + p' ≤ 201 := by omega
    generalize 200 + p' = p2 at *
    clear p0 p1 p0' p1'
    go_loopw [4, 5] (fun lv nv wr => ∃ (j : Nat) (L : List Cl), nv = .int .i64 j ∧ j ≤ 201 ∧ L.length + j ≤ 201 ∧ Hid (Small L) ∧ Hid (CU (curW w a l.length ca) wr w.heap.size w.heap.size l.length (500 - 2 * (j : Int)) lv L)) (fun _ nv _ => (intOf nv).toNat)
    case atStart => exact ⟨p2.toNat, [], by go_num, by omega, by simp; omega, (fun c hc => by cases hc), HU3.out.more (by omega)⟩
    case round =>
      obtain ⟨j, L, rfl, hj, hL, hSm, hCU⟩ := hrel
      clear HU3
      by_cases hj0 : 0 < j
      · have j0 : (0 : Int) < (j : Int) := by omega
        go_wp2_with fail
        refine (c_pick w.heap.size w.heap.size l.length _ 5 wr hCU.out.cur (by omega) (by omega) (by omega)).mono ?_
        rintro e w4 ⟨p3, rfl, p30, p31, hc3, hg3⟩
        have HU4 := hid (hCU.out.cur' hc3 hg3)
        clear hc3 hg3 hCU
        go_wp2_with fail
        refine (c_pick w.heap.size w.heap.size l.length _ 5 w4 HU4.out.cur (by omega) (by omega) (by omega)).mono ?_
        rintro e w5 ⟨p4, rfl, p40, p41, hc4, hg4⟩
        have HU5 := hid (HU4.out.cur' hc4 hg4)
        clear hc4 hg4 HU4
        have HU6 := hid (HU5.out.alloc (.cells #[.int .i64 p3, .int .i64 p4] 30))
        go_wp2_with (at_builtin; refine wpList_app' rfl (.tmp 20) (.tmp 26) rfl (curW w a l.length ca).heap.size _ L [(p3, p4)] (some ⟨w5.heap.size, 0, none⟩) 1 1 rfl HU6.out.own rfl rfl (seg_block (heap_alloc_new w5 _)) (by intro h; cases h) (by simp; omega) HU6.out.gr.size ?_; intro v6 w6 hO6 hG6; have HU7 := hid (HU6.out.app hO6 hG6); clear hO6 hG6)
        go_roundw
        case rel => exact ⟨j - 1, _, by go_num, by omega, by simp; omega, small_snoc hSm.out (by simp only []; omega), HU7.out.more (by omega)⟩
        case measure => simp [intOf]; omega
      · obtain rfl : j = 0 := by omega
        clear hj0
        by_cases h0 : L = []
        · subst h0
          obtain ⟨a7, ca7, rfl, _⟩ := hCU.out.own.form
          go_wp2
          go_ret
          exact ⟨_, [], rfl, hCU.out.own.mono (by simp), by simp, hSm.out, below_cur hCU.out.gr⟩
        · have hlen : 0 < L.length := List.length_pos_iff.2 h0
          have hlen' : (0 : Int) < (L.length : Int) := by omega
          obtain ⟨a7, ca7, ev, _⟩ := hCU.out.own.form
          obtain ⟨g, cap, ev2⟩ : ∃ g cap, Value.slice a7 L.length ca7 = .slice (some ⟨g, 0, none⟩) L.length cap := by
            rw [← ev]
            rcases hCU.out.own.2 with ⟨_, hn⟩ | ⟨g, cap, cur, e, _⟩
            · omega
            · exact ⟨g, cap, e⟩
          rw [ev2] at ev
          subst ev
          clear h0 ev2
          go_wp2_with fail
          refine (c_one w.heap.size w.heap.size l.length _ 12 wr hCU.out.cur (by omega) (by omega) (by omega)).mono ?_
          rintro e w8 ⟨x, rfl, hc8, hg8⟩
          have HU8 := hid (hCU.out.cur' hc8 hg8)
          clear hc8 hg8 hCU
          cases x
          · go_wp2
            go_ret
            exact ⟨_, L, rfl, HU8.out.own.mono (by simp), by omega, hSm.out, below_cur HU8.out.gr⟩
          · have HU9 := hid (HU8.out.alloc (.cells #[.int .i64 (-41), .int .i64 40, .int .i64 41] 3))
            have HI9 := hid (iseg_new w8 [-41, 40, 41] #[.int .i64 (-41), .int .i64 40, .int .i64 41] 3 rfl)
            have hne := HU8.out.cur.lt
            go_wp2_with fail
            refine (c_among w.heap.size w.heap.size l.length _ 0 3 _ [-41, 40, 41] _ HU9.out.cur (by omega) (by simp) (by simp) HI9.out (by omega) (by simp)).mono ?_
            rintro e w10 ⟨x1, rfl, hx1, hc10, hg10⟩
            have HU12 := hid (HU9.out.cur' hc10 hg10)
            have HX1 := hid (show -100 ≤ x1 ∧ x1 ≤ 100 by simp at hx1; omega)
            clear hc10 hg10 HU9 HU8 HI9 hx1
            have e0 := World.ownsRow.cellAt HU12.out.own 0 (by omega)
            have e1 := World.ownsRow.cellAt HU12.out.own 1 (by omega)
            have z0 : (flat L)[0]? = some (.int .i64 (at_ L 0).1) := flat_even (i := 0) hlen
            have z1 : (flat L)[1]? = some (.int .i64 (at_ L 0).2) := flat_odd (i := 0) hlen
            rw [z0] at e0
            rw [z1] at e1
            have f0 := World.ownsRow.frozenAt HU12.out.own 0
            have f1 := World.ownsRow.frozenAt HU12.out.own 1
            have R := hid (own_set0 (x1, 0) HU12.out.own hlen)
            have HU13 := hid (HU12.out.app R.out.1 (by exact R.out.2))
            clear z0 z1 R
            generalize at_ L 0 = y at *
            go_wp2
            go_ret
            exact ⟨_, _, rfl, HU13.out.own.mono (by simp), by simp; omega, small_set hSm.out ⟨HX1.out.1, HX1.out.2, by simp, by simp⟩, below_cur HU13.out.gr⟩
end Go.Proofs.Ytkapdjlaebidnaa
