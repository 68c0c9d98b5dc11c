/- A text with a byte more, less, or another one. -/
import Derived.Test.YthmjcjcamcdpkaaDoorDrawT
import Derived.Test.YthmjcjcamcdpkaaDoorMark
import Derived.Test.YthmjcjcamcdpkaaDoorByt
namespace Go.Proofs.YthmjcjcamcdpkaaDoor
open Go.RowKit
set_option linter.unusedVariables false

theorem c_pick1 (b : Nat) (m : Int) (w : World) (hm : m ≤ 1) : Calls Tryd.prog 31 #[.pointer (some ⟨b, 0, none⟩), .int .i64 m] w fun e w' => e = .returned (.int .i64 0) ∧ w' = w := by
  go_enter Tryd.func31, Tryd.ntmps31
  go_wp2
  go_ret
  exact ⟨rfl, rfl⟩
theorem c_pick' (base b n : Nat) (A m : Int) (w : World) (h : CurAt w base b n A) (hA : A ≤ 1073741824) (hm : 0 < m) (hm2 : m ≤ 200) :
    Calls Tryd.prog 31 #[.pointer (some ⟨b, 0, none⟩), .int .i64 m] w fun e w' => ∃ v : Int, e = .returned (.int .i64 v) ∧ 0 ≤ v ∧ v < m ∧ CurAt w' base b n (A + 1) ∧ w.grownBy w' (some b) := by
  by_cases h1 : 1 < m
  · exact c_pick base b n A m w h hA h1 hm2
  · refine (c_pick1 b m w (by omega)).mono ?_
    rintro e w' ⟨rfl, rfl⟩
    exact ⟨0, rfl, by omega, hm, h.more (by omega), grown_same _ _⟩

set_option maxRecDepth 100000 in
set_option maxHeartbeats 1000000 in
theorem c_spoilt (base b n : Nat) (A : Int) (t wt : Tx) (w : World) (h : CurAt w base b n A) (hA : A ≤ 1000000) (ht : t.size ≤ 195) (hw1 : 1 < wt.size) (hw2 : wt.size ≤ 200) :
    Calls Tryd.prog 42 #[.pointer (some ⟨b, 0, none⟩), .string t, .string wt] w fun e w' => ∃ t' : Tx, e = .returned (.string t') ∧ t'.size ≤ t.size + 2 ∧ CurAt w' base b n (A + 100) ∧ w.grownBy w' (some b) := by
  have hbl := h.lt
  have HU := hid (show CU w w base b n A (.slice none 0 0) [] from ⟨OwnS.nil _ _, h, grown_same w _, hbl.2⟩)
  have hcv := fun (n : Int) (W : World) => conv_one n W
  clear h
  go_enter Tryd.func42, Tryd.ntmps42
  go_wp2_with fail
  refine (c_pick base b n A 3 w HU.out.cur (by omega) (by omega) (by omega)).mono ?_
  rintro e w1 ⟨p, rfl, p0, p1, hc1, hg1⟩
  have HU1 := hid (HU.out.cur' hc1 hg1)
  clear hc1 hg1 HU
  go_wp2
  go_loopw [1, 7] (fun tv nv wr => ∃ (j : Nat) (u : Tx), nv = .int .i64 j ∧ tv = .string u ∧ j ≤ 2 ∧ u.size + j ≤ t.size + 2 ∧ Hid (CU w wr base b n (A + 50 - 3 * (j : Int)) (.slice none 0 0) [])) (fun _ nv _ => (intOf nv).toNat)
  case atStart => exact ⟨p.toNat, t, by go_num, rfl, by omega, by omega, HU1.out.more (by omega)⟩
  case round =>
    obtain ⟨j, u, rfl, rfl, hj, hu, hCU⟩ := hrel
    clear HU1
    by_cases hj0 : 0 < j
    · have j0 : (0 : Int) < (j : Int) := by omega
      by_cases hu0 : 0 < u.size
      · have u0 : (0 : Int) < (u.size : Int) := by omega
        go_wp2_with fail
        refine (c_pick' base b n _ (u.size : Int) wr hCU.out.cur (by omega) u0 (by omega)).mono ?_
        rintro e w2 ⟨i, rfl, i0, i1, hc2, hg2⟩
        have HU2 := hid (hCU.out.cur' hc2 hg2)
        clear hc2 hg2 hCU
        go_wp2_with fail
        refine (c_pick' base b n _ (wt.size : Int) w2 HU2.out.cur (by omega) (by omega) (by omega)).mono ?_
        rintro e w3 ⟨q, rfl, q0, q1, hc3, hg3⟩
        have HU3 := hid (HU2.out.cur' hc3 hg3)
        clear hc3 hg3 HU2
        obtain ⟨q, rfl⟩ : ∃ q' : Nat, q = (q' : Int) := ⟨q.toNat, by omega⟩
        obtain ⟨i, rfl⟩ : ∃ i' : Nat, i = (i' : Int) := ⟨i.toNat, by omega⟩
        go_wp2_with fail
        refine (c_pick base b n _ 3 _ (HU3.out.alloc _).cur (by omega) (by omega) (by omega)).mono ?_
        rintro e w4 ⟨r, rfl, r0, r1, hc4, hg4⟩
        have HU4 := hid (((HU3.out.alloc _).cur' hc4 hg4).more (show _ ≤ A + 50 - 3 * ((j : Int) - 1) by omega))
        have hsw := sgn_size (wt[q].toNat : Int)
        generalize sgn (wt[q].toNat : Int) = sw at *
        clear hc4 hg4 HU3 hcv
        have i2 : (i : Int) ≤ (u.size : Int) := by omega
        have e1 : (u.extract 0 i).size = i := by simp; omega
        have e2 : (u.extract i u.size).size = u.size - i := by simp
        have e3 : (u.extract (i + 1) u.size).size = u.size - (i + 1) := by simp
        have e4 : (u.extract 0 i ++ sw).size = i + 1 := by rw [ByteArray.size_append', e1, hsw]
        rcases (show r = 0 ∨ r = 1 ∨ r = 2 by omega) with rfl | rfl | rfl
        · go_wp2
          go_region
          go_wp2
          go_roundw
          case rel => exact ⟨j - 1, _, by go_num, rfl, by omega, by rw [ByteArray.size_append', e4, e2]; omega, by first | exact HU4.out.more (by omega) | exact (HU4.out.below ((Below.refl _ w4).drew)).more (by omega)⟩
          case measure => simp [intOf]; omega
        · go_wp2
          go_region
          go_wp2
          go_roundw
          case rel => exact ⟨j - 1, _, by go_num, rfl, by omega, by rw [ByteArray.size_append', e4, e3]; omega, by first | exact HU4.out.more (by omega) | exact (HU4.out.below ((Below.refl _ w4).drew)).more (by omega)⟩
          case measure => simp [intOf]; omega
        · go_wp2
          go_region
          go_wp2
          go_roundw
          case rel => exact ⟨j - 1, _, by go_num, rfl, by omega, by rw [ByteArray.size_append', e1, e3]; omega, by first | exact HU4.out.more (by omega) | exact (HU4.out.below ((Below.refl _ w4).drew)).more (by omega)⟩
          case measure => simp [intOf]; omega
      · have u0 : decide ((0 : Int) < (u.size : Int)) = false := decide_eq_false (by omega)
        go_wp2
        go_ret
        exact ⟨u, rfl, by omega, hCU.out.cur.more (by omega), hCU.out.gr⟩
    · have j0 : decide ((0 : Int) < (j : Int)) = false := by simp; omega
      go_wp2
      go_ret
      exact ⟨u, rfl, by omega, hCU.out.cur.more (by omega), hCU.out.gr⟩
end Go.Proofs.YthmjcjcamcdpkaaDoor
