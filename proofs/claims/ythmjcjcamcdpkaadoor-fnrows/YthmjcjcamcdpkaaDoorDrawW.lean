/- For FnRows: the draws of rows, texts compared, a cell looked for. -/
import Derived.Test.YthmjcjcamcdpkaaDoorDrawR
import Derived.Test.YthmjcjcamcdpkaaDoorRowsOf
namespace Go.Proofs.YthmjcjcamcdpkaaDoor
open Go.RowKit
set_option linter.unusedVariables false

set_option maxHeartbeats 1000000 in
set_option maxRecDepth 100000 in
theorem c_DrawRowsOf (a : Option Addr) (l : List Int) (ca : Nat) (w : World) (ha : BSeg w a l) (hl : l.length ≤ 9223372036854775807) :
    Calls Tryd.prog 4 #[.slice a l.length ca] w fun e w' => ∃ (v : Value) (L : List Cl) (x y : Int), e = .returned (.tuple #[v, .int .i64 x, .int .i64 y]) ∧ OwnS w' w.heap.size v L ∧ L.length ≤ 20 ∧ Small L ∧ -1 ≤ x ∧ x ≤ 21 ∧ -1 ≤ y ∧ y ≤ 21 ∧ Below w.heap.size w w' := by
  have HC := hid (cur_new w a l ca ha hl)
  clear ha
  go_enter Tryd.func4, Tryd.ntmps4
  go_wp2_with fail
  refine (c_small w.heap.size w.heap.size l.length 0 (curW w a l.length ca) HC.out (by omega)).mono ?_
  rintro e w1 ⟨v1, L, rfl, hO1, hl1, hs1, hc1, hg1⟩
  have HU := hid (show CU (curW w a l.length ca) w1 w.heap.size w.heap.size l.length (0 + 1000) v1 L from ⟨hO1, hc1, hg1, by simp⟩)
  have HS := hid hs1
  clear hO1 hs1 hc1 hg1 HC
  have HU9 := hid (HU.out.alloc (.cells #[.int .i64 (-1), .int .i64 0, .int .i64 3, .int .i64 9, .int .i64 20, .int .i64 21] 3))
  have HI9 := hid (iseg_new w1 [-1, 0, 3, 9, 20, 21] #[.int .i64 (-1), .int .i64 0, .int .i64 3, .int .i64 9, .int .i64 20, .int .i64 21] 3 rfl)
  have hne := HU.out.cur.lt
  go_wp2_with fail
  refine (c_among w.heap.size w.heap.size l.length _ 0 6 _ [-1, 0, 3, 9, 20, 21] _ HU9.out.cur (by omega) (by simp) (by simp) HI9.out (by omega) (by simp)).mono ?_
  rintro e w10 ⟨x1, rfl, hx1, hc10, hg10⟩
  have HU10 := hid (HU9.out.cur' hc10 hg10)
  have HX1 := hid (show -1 ≤ x1 ∧ x1 ≤ 21 by simp at hx1; omega)
  clear hc10 hg10 HU9 HI9 hx1 HU hne
  have HU9 := hid (HU10.out.alloc (.cells #[.int .i64 (-1), .int .i64 0, .int .i64 3, .int .i64 9, .int .i64 20, .int .i64 21] 3))
  have HI9 := hid (iseg_new w10 [-1, 0, 3, 9, 20, 21] #[.int .i64 (-1), .int .i64 0, .int .i64 3, .int .i64 9, .int .i64 20, .int .i64 21] 3 rfl)
  have hne := HU10.out.cur.lt
  go_wp2_with fail
  refine (c_among w.heap.size w.heap.size l.length _ 0 6 _ [-1, 0, 3, 9, 20, 21] _ HU9.out.cur (by omega) (by simp) (by simp) HI9.out (by omega) (by simp)).mono ?_
  rintro e w11 ⟨x2, rfl, hx2, hc11, hg11⟩
  have HU11 := hid (HU9.out.cur' hc11 hg11)
  have HX2 := hid (show -1 ≤ x2 ∧ x2 ≤ 21 by simp at hx2; omega)
  clear hc11 hg11 HU9 HI9 hx2 HU10 hne
  go_wp2
  go_ret3
  exact ⟨_, L, x1, x2, rfl, HU11.out.own.mono (by simp), hl1, HS.out, HX1.out.1, HX1.out.2, HX2.out.1, HX2.out.2, below_cur HU11.out.gr⟩

theorem c_DrawRunTokens (a : Option Addr) (l : List Int) (ca : Nat) (w : World) (ha : BSeg w a l) (hl : l.length ≤ 9223372036854775807) :
    Calls Tryd.prog 10 #[.slice a l.length ca] w fun e w' => ∃ t : Tx, e = .returned (.string t) ∧ t.size ≤ 183 ∧ Below w.heap.size w w' := by
  have HC := hid (c_DrawOfRuns a l ca w ha hl)
  clear ha
  go_enter Tryd.func10, Tryd.ntmps10
  go_wp2_with fail
  refine HC.out.mono ?_
  rintro e w1 ⟨t, rfl, ht, b⟩
  have HB := hid b
  clear b
  go_wp2
  go_ret
  exact ⟨t, rfl, ht, HB.out⟩

set_option maxHeartbeats 1000000 in
set_option maxRecDepth 100000 in
theorem c_sameTexts (a b : Option Addr) (l m : List Tx) (ca cb : Nat) (w : World) (ha : TSeg w a l) (hb : TSeg w b m) (hl : l.length ≤ 1048576) (hm : m.length ≤ 1048576) :
    Calls Tryd.prog 7 #[.slice a l.length ca, .slice b m.length cb] w fun e w' => e = .returned (.bool (decide (l = m))) ∧ Below w.heap.size w w' := by
  by_cases hlm : l.length = m.length
  · have hlm' : ((l.length : Int) != (m.length : Int)) = false := by simp [hlm]
    have HLM : Hid (l.length = m.length) := hlm
    have hle : l.length ≤ m.length := by omega
    clear hlm
    go_enter Tryd.func7, Tryd.ntmps7
    go_wp2
    go_loopw [13] (fun i wr => ∃ k : Nat, k ≤ l.length ∧ i = .int .i64 k ∧ Hid (l.take k = m.take k) ∧ Below w.heap.size w wr) (fun i _ => l.length - (intOf i).toNat)
    case atStart => exact ⟨0, Nat.zero_le _, rfl, (rfl : _ = _), Below.refl _ _⟩
    case round =>
      obtain ⟨k, hk, rfl, ht, hbel⟩ := hrel
      by_cases hlt : k < l.length
      · obtain ⟨b1, o1, rfl, hb1, p1⟩ := (ha k hlt)
        obtain ⟨b2, o2, rfl, hb2, q1⟩ := (hb k (by omega))
        have g1 := (hbel.cell (p := ⟨b1, o1 + k, none⟩) hb1).trans p1
        have g3 := (hbel.cell (p := ⟨b2, o2 + k, none⟩) hb2).trans q1
        clear p1 q1
        have k0 : (0 : Int) ≤ (k : Int) := by omega
        have k1 : (k : Int) < (l.length : Int) := by omega
        have k2 : (k : Int) < (m.length : Int) := by omega
        by_cases hxy : tx l k = tx m k
        · have hd : ((tx l k).toList == (tx m k).toList) = true := by rw [bytes_beq]; simp [hxy]
          have HXY := hid (hxy)
          clear hxy
          go_wp2
          go_region
          go_wp2
          go_roundw
          case rel => exact ⟨k + 1, by omega, by go_num, takeT_succ hlt (by omega) ht.out HXY.out, hbel.drew⟩
          case measure => simp [intOf]; omega
        · have hd : ((tx l k).toList == (tx m k).toList) = false := by rw [bytes_beq]; simp [hxy]
          have HXY := hid (hxy)
          clear hxy
          go_wp2
          go_region
          go_wp2
          go_ret
          exact ⟨ret_bool (by simp; intro e; subst e; exact HXY.out rfl), hbel.drew⟩
      · go_wp2
        go_ret
        have e1 : l.take k = l := List.take_of_length_le (by omega)
        have e2 : m.take k = m := List.take_of_length_le (by have := HLM.out; omega)
        have e3 := ht.out
        rw [e1, e2] at e3
        exact ⟨ret_bool (by simp [e3]), hbel⟩
  · have hlm' : ((l.length : Int) != (m.length : Int)) = true := by simp; omega
    go_enter Tryd.func7, Tryd.ntmps7
    go_wp2
    go_ret
    exact ⟨ret_bool (by simp; intro e; exact hlm (by rw [e])), Below.refl _ _⟩

set_option maxHeartbeats 1000000 in
set_option maxRecDepth 100000 in
theorem c_lhasCell (a : Option Addr) (l : List Cl) (ca : Nat) (c : Cl) (w : World) (ha : Seg w a l) (hl : l.length ≤ 1048576) :
    Calls Tryd.prog 9 #[.slice a l.length ca, .agg #[.int .i64 c.1, .int .i64 c.2]] w fun e w' => e = .returned (.bool (decide (c ∈ l))) ∧ Below w.heap.size w w' := by
  go_enter Tryd.func9, Tryd.ntmps9
  go_wp2
  go_loopw [9] (fun i wr => ∃ k : Nat, k ≤ l.length ∧ i = .int .i64 k ∧ Hid (∀ j, j < k → at_ l j ≠ c) ∧ Hid (BoxIn w wr c)) (fun i _ => l.length - (intOf i).toNat)
  case atStart => exact ⟨0, Nat.zero_le _, rfl, (fun j h => absurd h (Nat.not_lt_zero _)), BoxIn.new w c _⟩
  case round =>
    obtain ⟨k, hk, rfl, hT, HX⟩ := hrel
    by_cases hlt : k < l.length
    · obtain ⟨b1, o1, rfl, hb1, p1, p2⟩ := ha k hlt
      have g1 := (HX.out.below.cell (p := ⟨b1, o1 + k * 2, none⟩) hb1).trans p1
      have g2 := (HX.out.below.cell (p := ⟨b1, o1 + k * 2 + 1, none⟩) hb1).trans p2
      change _ = some (Value.int .i64 (at_ l k).1) at g1
      change _ = some (Value.int .i64 (at_ l k).2) at g2
      have g3 := HX.out.1
      have g4 := HX.out.2.1
      have g5 := HX.out.2.2.1
      have g6 : b1 < wr.heap.size := Nat.lt_of_lt_of_le hb1 HX.out.below.size
      clear p1 p2
      have k0 : (0 : Int) ≤ (k : Int) := by omega
      have k1 : (k : Int) < (l.length : Int) := by omega
      have HM := hid (fun h : at_ l k = c => mem_at.2 ⟨k, hlt, h⟩)
      have HN := hid (fun (h : at_ l k ≠ c) j (hj : j < k + 1) => if e : j = k then (by rw [e]; exact h) else hT.out j (by omega))
      generalize at_ l k = x at *
      have HB := hid (HX.out.step ((Below.refl wr.heap.size wr).alloc (Nat.le_refl _) (.cells #[.int .i64 x.1, .int .i64 x.2] 33)))
      clear HX
      by_cases h1 : x.1 = c.1
      · by_cases h2 : x.2 = c.2
        · have HM' := hid (HM.out (Prod.ext h1 h2))
          go_wp2
          go_ret
          exact ⟨ret_bool (by simpa using HM'.out), by have := HB.out.below; rw [h1, h2] at this; exact this⟩
        · have HN' := hid (HN.out (fun e => h2 (by rw [e])))
          have hb2 : (x.2 == c.2) = false := beq_eq_false_iff_ne.2 h2
          go_wp2
          go_roundw
          case rel => exact ⟨k + 1, by omega, by go_num, HN'.out, by have := HB.out; rw [h1] at this; exact this⟩
          case measure => simp [intOf]; omega
      · have HN' := hid (HN.out (fun e => h1 (by rw [e])))
        have hb2 : (x.1 == c.1) = false := beq_eq_false_iff_ne.2 h1
        go_wp2
        go_roundw
        case rel => exact ⟨k + 1, by omega, by go_num, HN'.out, HB.out⟩
        case measure => simp [intOf]; omega
    · go_wp2
      go_ret
      refine ⟨ret_bool ?_, HX.out.below⟩
      symm
      simp only [decide_eq_false_iff_not]
      intro hm
      obtain ⟨i, hi, e⟩ := mem_at.1 hm
      exact hT.out i (by omega) e
end Go.Proofs.YthmjcjcamcdpkaaDoor
