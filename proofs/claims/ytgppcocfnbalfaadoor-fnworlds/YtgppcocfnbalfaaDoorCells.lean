/- Texts of this seat, one behind the other: Cells. -/
import Derived.Test.YtgppcocfnbalfaaDoorKnown
import Derived.Test.YtgppcocfnbalfaaDoorSortS
namespace Go.Proofs.YtgppcocfnbalfaaDoor
open Go.RowKit
set_option linter.unusedVariables false

theorem CurAt.more {w : World} {base b n : Nat} {A A' : Int} (h : CurAt w base b n A) (hA : A ≤ A') : CurAt w base b n A' := by
  obtain ⟨a, cap, t, sd, e1, e2, e3, e4, e5, e6, e7, e8, e9, e10⟩ := h
  exact ⟨a, cap, t, sd, e1, e2, e3, e4, e5, e6, e7, e8, by omega, e10⟩
theorem CurAt.lt {w : World} {base b n : Nat} {A : Int} (h : CurAt w base b n A) : base ≤ b ∧ b < w.heap.size := by
  obtain ⟨a, cap, t, sd, e1, e2, _⟩ := h
  exact ⟨e2, e1⟩
/-- What is written behind a world's blocks leaves these as they were. -/
theorem grown_over {w W W' : World} {r row : Option Nat} (h : w.grownBy W r) (k : W.grownBy W' row) (hk : ∀ j, row = some j → w.heap.size ≤ j) : w.grownBy W' r :=
  ⟨k.os.trans h.os, k.tape.trans h.tape, k.output.trans h.output, Nat.le_trans h.size k.size, fun i hi hn => (k.block i (Nat.lt_of_lt_of_le hi h.size) (fun e => by have := hk i e.symm; omega)).trans (h.block i hi hn)⟩
theorem own_set0 {W : World} {base g ca : Nat} {l : List Cl} (c : Cl) (h : OwnS W base (.slice (some ⟨g, 0, none⟩) l.length ca) l) (hl : 0 < l.length) :
    OwnS ((W.setCell ⟨g, 0, none⟩ (.int .i64 c.1)).setCell ⟨g, 1, none⟩ (.int .i64 c.2)) base (.slice (some ⟨g, 0, none⟩) l.length ca) (l.set 0 c) ∧ W.grownBy ((W.setCell ⟨g, 0, none⟩ (.int .i64 c.1)).setCell ⟨g, 1, none⟩ (.int .i64 c.2)) (some g) := by
  unfold OwnS at h ⊢
  obtain ⟨h1, g1⟩ := World.ownsRow.stored h 0 (.int .i64 c.1)
  obtain ⟨h2, g2⟩ := World.ownsRow.stored h1 1 (.int .i64 c.2)
  refine ⟨?_, grown_trans g1 g2⟩
  rw [← flat_set _ _ _ hl, List.length_set]
  exact h2
theorem amseg_new (w : World) (L : List Int) (cs : Array Value) (t : TypeId) (h : cs = (L.map (Value.int .i64)).toArray) : AmSeg (w.alloc (.cells cs t)) w.heap.size 0 L := by
  subst h
  intro i hi
  unfold World.cell?
  rw [heap_alloc_new]
  simp [hi]

/-- What stands while cells runs. -/
structure CU (w W : World) (base b n : Nat) (A : Int) (v : Value) (l : List Cl) : Prop where
  own : OwnS W w.heap.size v l
  cur : CurAt W base b n A
  gr : w.grownBy W (some b)
  bl : b < w.heap.size
section
variable {w W W' : World} {base b n : Nat} {A A' : Int} {v v' : Value} {l l' : List Cl}
theorem CU.cur' (h : CU w W base b n A v l) (hc : CurAt W' base b n A') (hg : W.grownBy W' (some b)) : CU w W' base b n A' v l :=
  ⟨own_keep h.own hg (fun k hk e => by have := (h.own.lt k hk).1; have := h.bl; simp only [Option.some.injEq] at e; omega), hc, grown_trans h.gr hg, h.bl⟩
theorem CU.app (h : CU w W base b n A v l) (ho : OwnS W' w.heap.size v' l') (hg : W.grownBy W' v.ownBlock) : CU w W' base b n A v' l' :=
  ⟨ho, h.cur.kept hg (fun e => by have := (h.own.lt b e.symm).1; have := h.bl; omega) (fun k e => by have := (h.own.lt k e).1; have := h.bl; have := h.cur.lt; omega), grown_over h.gr hg (fun k e => (h.own.lt k e).1), h.bl⟩
theorem CU.alloc (h : CU w W base b n A v l) (o : Obj) : CU w (W.alloc o) base b n A v l :=
  ⟨own_keep h.own (World.grownBy_alloc W o none) (fun k _ e => by cases e), h.cur.kept (World.grownBy_alloc W o none) (by simp) (fun k e => by cases e), grown_over h.gr (World.grownBy_alloc W o none) (fun k e => by cases e), h.bl⟩
theorem CU.below (h : CU w W base b n A v l) (hb : Below W.heap.size W W') : CU w W' base b n A v l :=
  ⟨h.own.below hb, h.cur.kept (grown_of_below hb none) (by simp) (fun k e => by cases e), grown_over h.gr (grown_of_below hb none) (fun k e => by cases e), h.bl⟩
theorem CU.more (h : CU w W base b n A v l) (hA : A ≤ A') : CU w W base b n A' v l := ⟨h.own, h.cur.more hA, h.gr, h.bl⟩
end

theorem small_snoc {l : List Cl} {c : Cl} (h : Small l) (hc : -100 ≤ c.1 ∧ c.1 ≤ 100 ∧ -100 ≤ c.2 ∧ c.2 ≤ 100) : Small (l ++ [c]) := by
  intro d hd
  rcases List.mem_append.1 hd with h1 | h1
  · exact h d h1
  · rw [List.mem_singleton.1 h1]; exact hc
theorem small_set {l : List Cl} {c : Cl} (h : Small l) (hc : -100 ≤ c.1 ∧ c.1 ≤ 100 ∧ -100 ≤ c.2 ∧ c.2 ≤ 100) : Small (l.set 0 c) := by
  intro d hd
  rcases List.mem_or_eq_of_mem_set hd with h1 | h1
  · exact h d h1
  · rw [h1]; exact hc

set_option maxRecDepth 100000 in
set_option maxHeartbeats 1000000 in
theorem c_cells (base b n : Nat) (A m wd q : Int) (w : World) (h : CurAt w base b n A) (hA : A ≤ 1000000) (hm : 0 < m) (hm2 : m ≤ 100) (hw : 1 < wd) (hw2 : wd ≤ 200) (hq : wd.tdiv 2 = q) (hq0 : 0 ≤ q) (hq1 : q ≤ 100) (hq2 : wd ≤ 2 * q + 1) :
    Calls Tryd.prog 42 #[.pointer (some ⟨b, 0, none⟩), .int .i64 m, .int .i64 wd] w fun e w' => ∃ (v : Value) (l : List Cl), e = .returned v ∧ OwnS w' w.heap.size v l ∧ l.length ≤ 105 ∧ Small l ∧ CurAt w' base b n (A + 1000) ∧ w.grownBy w' (some b) := by
  have HN := hid (c_known base b n A w h (by omega))
  have hbl := h.lt
  have hwq : IntKind.wrap .i64 q = q := by rw [IntKind.wrap_i64]; omega
  clear h
  go_enter Tryd.func42, Tryd.ntmps42
  go_wp2_with fail
  refine HN.out.mono ?_
  rintro e w1 ⟨v1, l1, rfl, hO1, hl1, hs1, hc1, hg1⟩
  have HU := hid (show CU w w1 base b n (A + 1) v1 l1 from ⟨hO1, hc1, hg1, hbl.2⟩)
  have HS := hid hs1
  clear hO1 hs1 hc1 hg1 HN
  go_wp2_with fail
  refine (c_pick base b n (A + 1) (m + 1) w1 HU.out.cur (by omega) (by omega) (by omega)).mono ?_
  rintro e w2 ⟨p, rfl, p0, p1, hc2, hg2⟩
  have HU2 := hid (HU.out.cur' hc2 hg2)
  clear hc2 hg2 HU
  go_wp2
  go_loopw [7, 8] (fun lv nv wr => ∃ (j : Nat) (L : List Cl), nv = .int .i64 j ∧ j ≤ 100 ∧ L.length + j ≤ 105 ∧ Hid (Small L) ∧ Hid (CU w wr base b n (A + 300 - 2 * (j : Int)) lv L)) (fun _ nv _ => (intOf nv).toNat)
  case atStart => exact ⟨p.toNat, l1, by go_num, by omega, by omega, HS.out, HU2.out.more (by omega)⟩
  case round =>
    obtain ⟨j, L, rfl, hj, hL, hSm, hCU⟩ := hrel
    clear HU2 HS
    by_cases hj0 : 0 < j
    · have j0 : (0 : Int) < (j : Int) := by omega
      go_wp2_with fail
      refine (c_pick base b n _ wd wr hCU.out.cur (by omega) hw hw2).mono ?_
      rintro e w3 ⟨p3, rfl, p30, p31, hc3, hg3⟩
      have HU3 := hid (hCU.out.cur' hc3 hg3)
      clear hc3 hg3 hCU
      go_wp2_with fail
      refine (c_pick base b n _ wd w3 HU3.out.cur (by omega) hw hw2).mono ?_
      rintro e w4 ⟨p4, rfl, p40, p41, hc4, hg4⟩
      have HU4 := hid (HU3.out.cur' hc4 hg4)
      clear hc4 hg4 HU3
      have HU5 := hid (HU4.out.alloc (.cells #[.int .i64 (p3 - q), .int .i64 (p4 - q)] 29))
      go_wp2_with (at_builtin; refine wpList_app' rfl (.tmp 19) (.tmp 33) rfl w.heap.size _ L [(p3 - q, p4 - q)] (some ⟨w4.heap.size, 0, none⟩) 1 1 rfl HU5.out.own rfl rfl (seg_block (heap_alloc_new w4 _)) (by intro h; cases h) (by simp; omega) HU5.out.gr.size ?_; intro v6 w6 hO6 hG6; have HU6 := hid (HU5.out.app hO6 hG6); clear hO6 hG6)
      go_roundw
      case rel => exact ⟨j - 1, _, by go_num, by omega, by simp; omega, small_snoc hSm.out (by simp only []; omega), HU6.out.more (by omega)⟩
      case measure => simp [intOf]; omega
    · have j0 : decide ((0 : Int) < (j : Int)) = false := by simp; omega
      obtain rfl : j = 0 := by omega
      clear hj0 j0
      obtain ⟨a5, ca5, rfl, hs5⟩ := hCU.out.own.form
      go_wp2_with fail
      refine (c_l1Sort a5 L ca5 wr hs5 (by omega)).mono ?_
      rintro e w7 ⟨v7, l7, rfl, hO7, hr7, hm7, hl7, hb7⟩
      have HU7 := hid (show CU w w7 base b n (A + 300) v7 l7 from ⟨hO7.mono hCU.out.gr.size, (hCU.out.below hb7).cur.more (by omega), (hCU.out.below hb7).gr, hbl.2⟩)
      have HS7 := hid (show Small l7 from fun c hc => hSm.out c ((hm7 c).1 hc))
      clear hO7 hr7 hm7 hb7 hCU hs5 hSm
      by_cases h0 : l7 = []
      · subst h0
        obtain ⟨a7, ca7, rfl, _⟩ := HU7.out.own.form
        go_wp2
        go_ret
        exact ⟨_, [], rfl, HU7.out.own, by simp, HS7.out, HU7.out.cur.more (by omega), HU7.out.gr⟩
      · have hlen : 0 < l7.length := List.length_pos_iff.2 h0
        have hlen' : (0 : Int) < (l7.length : Int) := by omega
        obtain ⟨g, cap, rfl⟩ : ∃ g cap, v7 = .slice (some ⟨g, 0, none⟩) l7.length cap := by
          rcases HU7.out.own.2 with ⟨_, hn⟩ | ⟨g, cap, cur, e, _⟩
          · omega
          · exact ⟨g, cap, e⟩
        clear h0
        go_wp2_with fail
        refine (c_one base b n _ 40 w7 HU7.out.cur (by omega) (by omega) (by omega)).mono ?_
        rintro e w8 ⟨x, rfl, hc8, hg8⟩
        have HU8 := hid (HU7.out.cur' hc8 hg8)
        clear hc8 hg8 HU7
        cases x
        · go_wp2
          go_ret
          exact ⟨_, l7, rfl, HU8.out.own, by omega, HS7.out, HU8.out.cur.more (by omega), HU8.out.gr⟩
        · have HU9 := hid (HU8.out.alloc (.cells #[.int .i64 (-41), .int .i64 (-40), .int .i64 40, .int .i64 41] 3))
          have HI9 := hid (amseg_new w8 [-41, -40, 40, 41] #[.int .i64 (-41), .int .i64 (-40), .int .i64 40, .int .i64 41] 3 rfl)
          go_wp2_with fail
          refine (c_among base b n _ 0 4 _ [-41, -40, 40, 41] _ HU9.out.cur (by omega) (by simp) (by simp) HI9.out (by have := HU8.out.cur.lt; omega) (by simp)).mono ?_
          rintro e w10 ⟨x1, rfl, hx1, hc10, hg10⟩
          have HU10 := hid (HU9.out.cur' hc10 hg10)
          have HX1 := hid (show -100 ≤ x1 ∧ x1 ≤ 100 by simp at hx1; omega)
          clear hc10 hg10 HU9 HU8 HI9 hx1
          have HU11 := hid (HU10.out.alloc (.cells #[.int .i64 (-41), .int .i64 (-40), .int .i64 0] 3))
          have HI11 := hid (amseg_new w10 [-41, -40, 0] #[.int .i64 (-41), .int .i64 (-40), .int .i64 0] 3 rfl)
          go_wp2_with fail
          refine (c_among base b n _ 0 3 _ [-41, -40, 0] _ HU11.out.cur (by omega) (by simp) (by simp) HI11.out (by have := HU10.out.cur.lt; omega) (by simp)).mono ?_
          rintro e w12 ⟨x2, rfl, hx2, hc12, hg12⟩
          have HU12 := hid (HU11.out.cur' hc12 hg12)
          have HX2 := hid (show -100 ≤ x2 ∧ x2 ≤ 100 by simp at hx2; omega)
          clear hc12 hg12 HU11 HU10 HI11 hx2
          have e0 := World.ownsRow.cellAt HU12.out.own 0 (by omega)
          have e1 := World.ownsRow.cellAt HU12.out.own 1 (by omega)
          have z0 : (flat l7)[0]? = some (.int .i64 (at_ l7 0).1) := flat_even (i := 0) hlen
          have z1 : (flat l7)[1]? = some (.int .i64 (at_ l7 0).2) := flat_odd (i := 0) hlen
          rw [z0] at e0
          rw [z1] at e1
          have f0 := World.ownsRow.frozenAt HU12.out.own 0
          have f1 := World.ownsRow.frozenAt HU12.out.own 1
          have R := hid (own_set0 (x1, x2) HU12.out.own hlen)
          have HU13 := hid (HU12.out.app R.out.1 (by exact R.out.2))
          clear z0 z1 R
          generalize at_ l7 0 = y at *
          go_wp2
          go_ret
          exact ⟨_, _, rfl, HU13.out.own, by simp; omega, small_set HS7.out ⟨HX1.out.1, HX1.out.2, HX2.out.1, HX2.out.2⟩, HU13.out.cur.more (by omega), HU13.out.gr⟩
end Go.Proofs.YtgppcocfnbalfaaDoor
