/- The draws of chapter 2: small cells. -/
import Derived.Test.YthmjcjcamcdpkaaDoorDraw
namespace Go.Proofs.YthmjcjcamcdpkaaDoor
open Go.RowKit
set_option linter.unusedVariables false

set_option maxRecDepth 100000 in
set_option maxHeartbeats 1000000 in
theorem c_small (base b n : Nat) (A : Int) (w : World) (h : CurAt w base b n A) (hA : A ≤ 1000000) :
    Calls Tryd.prog 16 #[.pointer (some ⟨b, 0, none⟩)] w fun e w' => ∃ (v : Value) (l : List Cl), e = .returned v ∧ OwnS w' w.heap.size v l ∧ l.length ≤ 20 ∧ Small l ∧ CurAt w' base b n (A + 1000) ∧ w.grownBy w' (some b) := by
  have hbl := h.lt
  have HU := hid (show CU w w base b n A (.slice none 0 0) [] from ⟨OwnS.nil _ _, h, grown_same w _, hbl.2⟩)
  clear h
  go_enter Tryd.func16, Tryd.ntmps16
  go_wp2_with fail
  refine (c_pick base b n A 8 w HU.out.cur (by omega) (by omega) (by omega)).mono ?_
  rintro e w1 ⟨p, rfl, p0, p1, hc1, hg1⟩
  have HU1 := hid (HU.out.cur' hc1 hg1)
  clear hc1 hg1 HU
  go_wp2_with fail
  refine (c_pick base b n _ 20 w1 HU1.out.cur (by omega) (by omega) (by omega)).mono ?_
  rintro e w2 ⟨q, rfl, q0, q1, hc2, hg2⟩
  have HU2 := hid (HU1.out.cur' hc2 hg2)
  clear hc2 hg2 HU1
  go_wp2
  have hw1 : 1 < 2 + p := by omega
  have hw2 : 2 + p ≤ 9 := by omega
  generalize 2 + p = wd at *
  go_loopw [3, 5] (fun lv nv wr => ∃ (j : Nat) (L : List Cl), nv = .int .i64 j ∧ j ≤ 19 ∧ L.length + j ≤ 19 ∧ Hid (Small L) ∧ Hid (CU w wr base b n (A + 300 - 2 * (j : Int)) lv L)) (fun _ nv _ => (intOf nv).toNat)
  case atStart => exact ⟨q.toNat, [], by go_num, by omega, by simp; omega, (fun c hc => by cases hc), HU2.out.more (by omega)⟩
  case round =>
    obtain ⟨j, L, rfl, hj, hL, hSm, hCU⟩ := hrel
    clear HU2
    by_cases hj0 : 0 < j
    · have j0 : (0 : Int) < (j : Int) := by omega
      go_wp2_with fail
      refine (c_pick base b n _ wd wr hCU.out.cur (by omega) hw1 (by omega)).mono ?_
      rintro e w3 ⟨p3, rfl, p30, p31, hc3, hg3⟩
      have HU3 := hid (hCU.out.cur' hc3 hg3)
      clear hc3 hg3 hCU
      go_wp2_with fail
      refine (c_pick base b n _ wd w3 HU3.out.cur (by omega) hw1 (by omega)).mono ?_
      rintro e w4 ⟨p4, rfl, p40, p41, hc4, hg4⟩
      have HU4 := hid (HU3.out.cur' hc4 hg4)
      clear hc4 hg4 HU3
      have HU5 := hid (HU4.out.alloc (.cells #[.int .i64 p3, .int .i64 p4] 33))
      go_wp2_with (at_builtin; refine wpList_app' rfl (.tmp 15) (.tmp 23) rfl w.heap.size _ L [(p3, p4)] (some ⟨w4.heap.size, 0, none⟩) 1 1 rfl HU5.out.own rfl rfl (seg_block (heap_alloc_new w4 _)) (by intro h; cases h) (by simp; omega) HU5.out.gr.size ?_; intro v6 w6 hO6 hG6; have HU6 := hid (HU5.out.app hO6 hG6); clear hO6 hG6)
      go_roundw
      case rel => exact ⟨j - 1, _, by go_num, by omega, by simp; omega, small_snoc hSm.out (by simp only []; omega), HU6.out.more (by omega)⟩
      case measure => simp [intOf]; omega
    · obtain rfl : j = 0 := by omega
      clear hj0
      go_wp2_with fail
      refine (c_one base b n _ 12 wr hCU.out.cur (by omega) (by omega) (by omega)).mono ?_
      rintro e w8 ⟨x, rfl, hc8, hg8⟩
      have HU8 := hid (hCU.out.cur' hc8 hg8)
      clear hc8 hg8 hCU
      cases x
      · obtain ⟨a5, ca5, rfl, hs5⟩ := HU8.out.own.form
        go_wp2_with fail
        refine (c_l1Sort a5 L ca5 w8 hs5 (by omega)).mono ?_
        rintro e w9 ⟨v9, l9, rfl, hO9, hr9, hm9, hl9, hb9⟩
        have HU9 := hid (show CU w w9 base b n (A + 500) v9 l9 from ⟨hO9.mono HU8.out.gr.size, (HU8.out.below hb9).cur.more (by omega), (HU8.out.below hb9).gr, hbl.2⟩)
        have HS9 := hid (show Small l9 from fun c hc => hSm.out c ((hm9 c).1 hc))
        clear hO9 hr9 hm9 hb9 HU8 hs5 hSm
        go_wp2
        go_ret
        exact ⟨_, l9, rfl, HU9.out.own, by omega, HS9.out, HU9.out.cur.more (by omega), HU9.out.gr⟩
      · have HU9 := hid (HU8.out.alloc (.cells #[.int .i64 (-1), .int .i64 30, .int .i64 31] 3))
        have HI9 := hid (iseg_new w8 [-1, 30, 31] #[.int .i64 (-1), .int .i64 30, .int .i64 31] 3 rfl)
        have hne := HU8.out.cur.lt
        go_wp2_with fail
        refine (c_among base b n _ 0 3 _ [-1, 30, 31] _ HU9.out.cur (by omega) (by simp) (by simp) HI9.out (by omega) (by simp)).mono ?_
        rintro e w10 ⟨x1, rfl, hx1, hc10, hg10⟩
        have HU10 := hid (HU9.out.cur' hc10 hg10)
        have HX1 := hid (show -100 ≤ x1 ∧ x1 ≤ 100 by simp at hx1; omega)
        clear hc10 hg10 HU9 HU8 HI9 hx1 hne
        have HU11 := hid (HU10.out.alloc (.cells #[.int .i64 0, .int .i64 30, .int .i64 31] 3))
        have HI11 := hid (iseg_new w10 [0, 30, 31] #[.int .i64 0, .int .i64 30, .int .i64 31] 3 rfl)
        have hne := HU10.out.cur.lt
        go_wp2_with fail
        refine (c_among base b n _ 0 3 _ [0, 30, 31] _ HU11.out.cur (by omega) (by simp) (by simp) HI11.out (by omega) (by simp)).mono ?_
        rintro e w12 ⟨x2, rfl, hx2, hc12, hg12⟩
        have HU12 := hid (HU11.out.cur' hc12 hg12)
        have HX2 := hid (show -100 ≤ x2 ∧ x2 ≤ 100 by simp at hx2; omega)
        clear hc12 hg12 HU11 HU10 HI11 hx2 hne
        have HU5 := hid (HU12.out.alloc (.cells #[.int .i64 x1, .int .i64 x2] 33))
        go_wp2_with (at_builtin; refine wpList_app' rfl (.tmp 27) (.tmp 35) rfl w.heap.size _ L [(x1, x2)] (some ⟨w12.heap.size, 0, none⟩) 1 1 rfl HU5.out.own rfl rfl (seg_block (heap_alloc_new w12 _)) (by intro h; cases h) (by simp; omega) HU5.out.gr.size ?_; intro v6 w6 hO6 hG6; have HU6 := hid (HU5.out.app hO6 hG6); clear hO6 hG6; obtain ⟨L2, hL2⟩ : ∃ L2, L2 = L ++ [(x1, x2)] := ⟨_, rfl⟩; rw [← hL2] at HU6; have HS2 : Hid (Small L2) := hid (by rw [hL2]; exact small_snoc hSm.out ⟨HX1.out.1, HX1.out.2, HX2.out.1, HX2.out.2⟩); have hl2 : L2.length ≤ 20 := (by rw [hL2]; simp; omega); clear hL2; obtain ⟨a5, ca5, rfl, hs5⟩ := HU6.out.own.form)
        go_wp2_with fail
        refine (c_l1Sort a5 L2 ca5 w6 hs5 (by omega)).mono ?_
        rintro e w9 ⟨v9, l9, rfl, hO9, hr9, hm9, hl9, hb9⟩
        have HU9 := hid (show CU w w9 base b n (A + 500) v9 l9 from ⟨hO9.mono HU6.out.gr.size, (HU6.out.below hb9).cur.more (by omega), (HU6.out.below hb9).gr, hbl.2⟩)
        have HS9 := hid (show Small l9 from fun c hc => HS2.out c ((hm9 c).1 hc))
        have hl9' : l9.length ≤ 20 := by omega
        clear hO9 hr9 hm9 hb9 HU6 HU5 HU12 hs5 hSm hl9
        go_wp2
        go_ret
        exact ⟨_, l9, rfl, HU9.out.own, hl9', HS9.out, HU9.out.cur.more (by omega), HU9.out.gr⟩

end Go.Proofs.YthmjcjcamcdpkaaDoor
