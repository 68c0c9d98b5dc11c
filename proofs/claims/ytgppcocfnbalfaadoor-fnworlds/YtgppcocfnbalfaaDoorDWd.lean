/- Texts of this seat, one behind the other: DWd. -/
import Derived.Test.YtgppcocfnbalfaaDoorWdF
import Derived.Test.YtgppcocfnbalfaaDoorDraw
import Derived.Test.YtgppcocfnbalfaaDoorDrawL
import Derived.Deep.Cut
namespace Go.Proofs.YtgppcocfnbalfaaDoor
open Go.RowKit Go.ChangeShapes Go.WideShapes Go.ChangeAt
set_option linter.unusedVariables false
set_option linter.unusedSimpArgs false
attribute [local go_sem ↓] Go.wp_at_zero Go.wp_at_succ

theorem CU.set {w W : World} {base b n : Nat} {A : Int} {v : Value} {l : List Cl} (h : CU w W base b n A v l) {k o : Nat} (u : Value) (hk : w.heap.size ≤ k) (hv : ∀ j, v.ownBlock = some j → j ≠ k) : CU w (W.setCell ⟨k, o, none⟩ u) base b n A v l := by
  have hb := h.bl
  have hbb : base ≤ b := by obtain ⟨a, cap, t, sd, e1, e2, _⟩ := h.cur; exact e2
  exact ⟨h.own.other hv u, h.cur.kept (grown_setW W k o u) (fun e => by simp only [Option.some.injEq] at e; omega) (fun j e => by simp only [Option.some.injEq] at e; omega), grown_over h.gr (grown_setW W k o u) (fun j e => by simp only [Option.some.injEq] at e; omega), hb⟩
theorem WRow.grown {w w' : World} {b b' : Nat} {s : Value} {t : Int} {T : TypeId} (h : WRow w b s t T) (hg : w.grownBy w' (some b')) (hne : b ≠ b') : WRow w' b s t T :=
  h.of_block (hg.block _ (World.rowIs.lt h) (by simp only [ne_eq, Option.some.injEq]; exact hne))
theorem small_tell {l : List Cl} (h : Small l) : Small (tellV l) := by
  unfold tellV; split
  · exact h
  · intro c hc; cases hc

set_option maxHeartbeats 4000000 in
set_option maxRecDepth 100000 in
theorem c_world (base b n : Nat) (A : Int) (w : World) (h : CurAt w base b n A) (hA : A ≤ 900000) :
    Calls Tryd.prog 21 #[.pointer (some ⟨b, 0, none⟩)] w fun e w' => ∃ (v : Value) (l : List Cl) (t : Int), e = .returned (.agg #[v, .int .i64 t]) ∧ OwnS w' w.heap.size v l ∧ l.length ≤ 120 ∧ Small l ∧ (-1 ≤ t ∧ t ≤ 1001) ∧ CurAt w' base b n (A + 1010) ∧ w.grownBy w' (some b) := by
  have hbl : b < w.heap.size := by obtain ⟨a, cap, t, sd, e1, e2, _⟩ := h; exact e1
  have ba := (Below.refl w.heap.size w).alloc (Nat.le_refl _) (.cells #[.slice none 0 0, .int .i64 0] 25)
  have HCU := hid (show CU w (w.alloc (.cells #[.slice none 0 0, .int .i64 0] 25)) base b n A (.slice none 0 0) [] from ⟨OwnS.nil _ _, h.kept (World.grownBy_alloc w _ none) (by simp) (fun k e => by cases e), World.grownBy_alloc w _ (some b), hbl⟩)
  have RB := hid (WRow.new w (.slice none 0 0) 0 25)
  have HZ := hid (show (w.alloc (.cells #[.slice none 0 0, .int .i64 0] 25)).heap.size = w.heap.size + 1 by simp)
  have HBL := hid hbl
  clear h ba hbl
  go_enter Tryd.func21, Tryd.ntmps21
  go_wp2_with fail
  refine (c_cells base b n A 7 6 3 _ HCU.out.cur (by omega) (by omega) (by omega) (by omega) (by omega) rfl (by omega) (by omega) (by omega)).mono ?_
  rintro e w2 ⟨v2, L, rfl, hO2, hl2, hs2, hc2, hg2⟩
  obtain ⟨a2, c2, rfl, _⟩ := hO2.form
  have HU2 := hid (HCU.out.cur' hc2 hg2)
  have O2 := hid hO2
  have HS := hid (small_tell hs2)
  have HL := hid (tellV_le L)
  have HL2 := hid hl2
  have Z2 := hid (show w.heap.size + 1 ≤ w2.heap.size by have := hg2.size; have := HZ.out; omega)
  replace RB := hid (RB.out.grown hg2 (by have := HBL.out; omega))
  clear hO2 hl2 hs2 hc2 hg2 HCU
  go_wp2_with fail
  refine (c_sNewWorld a2 L c2 w2 O2.out.seg (by have := HL2.out; omega) (own_none O2.out)).mono ?_
  rintro e w3 ⟨v3, rfl, hO3, hb3⟩
  obtain ⟨a3, c3, rfl, _⟩ := hO3.form
  generalize tellV L = T at *
  have HU3 := hid (HU2.out.below hb3)
  have HU3' := hid (show CU w w3 base b n (A + 1000) (.slice a3 T.length c3) T from ⟨hO3.mono (by have := Z2.out; omega), HU3.out.cur, HU3.out.gr, HU3.out.bl⟩)
  have HOB := hid (fun k (hk : (Value.slice a3 T.length c3).ownBlock = some k) => (hO3.lt k hk))
  replace RB := hid (RB.out.below hb3)
  have Z3 := hid (show w.heap.size + 1 ≤ w3.heap.size by have := hb3.size; have := Z2.out; omega)
  have RW := hid (WRow.new w3 (.slice a3 T.length c3) 0 25)
  have HU4 := hid (HU3'.out.alloc (.cells #[.slice a3 T.length c3, .int .i64 0] 25))
  replace RB := hid (World.rowIs.alloc RB.out (.cells #[.slice a3 T.length c3, .int .i64 0] 25))
  have Z4 := hid (show (w3.alloc (.cells #[.slice a3 T.length c3, .int .i64 0] 25)).heap.size = w3.heap.size + 1 by simp)
  clear hO3 hb3 HU2 HU3 HU3' O2 HL2
  go_upto_region 2 with fail
  generalize w3.alloc (.cells #[.slice a3 T.length c3, .int .i64 0] 25) = W4 at *
  have HU5 := hid (HU4.out.alloc (.cells #[.int .i64 0, .int .i64 0, .int .i64 5, .int .i64 999, .int .i64 1000] 3))
  have HI5 := hid (amseg_new W4 [0, 0, 5, 999, 1000] #[.int .i64 0, .int .i64 0, .int .i64 5, .int .i64 999, .int .i64 1000] 3 rfl)
  have RW5 := hid (World.rowIs.alloc RW.out (.cells #[.int .i64 0, .int .i64 0, .int .i64 5, .int .i64 999, .int .i64 1000] 3))
  have RB5 := hid (World.rowIs.alloc RB.out (.cells #[.int .i64 0, .int .i64 0, .int .i64 5, .int .i64 999, .int .i64 1000] 3))
  clear HU4 RW RB
  go_wp2_with fail
  refine (c_among base b n W4.heap.size 0 5 _ [0, 0, 5, 999, 1000] _ HU5.out.cur (by omega) (by simp) (by simp) HI5.out (by have := Z4.out; have := Z3.out; have := HBL.out; omega) (by simp)).mono ?_
  rintro e w6 ⟨x1, rfl, hx1, hc6, hg6⟩
  have HU6 := hid (HU5.out.cur' hc6 hg6)
  have HX1 := hid (show -1 ≤ x1 ∧ x1 ≤ 1001 by simp at hx1; omega)
  have RW6 := hid (WRow.grown RW5.out hg6 (by have := Z3.out; have := HBL.out; omega))
  have RB6 := hid (WRow.grown RB5.out hg6 (by have := HBL.out; omega))
  clear hc6 hg6 HU5 HI5 hx1 RW5 RB5
  have f1 := RW6.out.fr 1
  have d1 := RW6.out.c1
  have HU7 := hid (HU6.out.set (k := w3.heap.size) (o := 1) (.int .i64 x1) (by have := Z3.out; omega) (fun j hj => by have := (HOB.out j hj).2; omega))
  have RW7 := hid (RW6.out.put1 x1)
  have RB7 := hid (RB6.out.other (b' := w3.heap.size) (o := 1) (by have := Z3.out; omega) (.int .i64 x1))
  clear HU6 RW6 RB6
  go_upto_region 3 with fail
  generalize w6.setCell ⟨w3.heap.size, 1, none⟩ (.int .i64 x1) = W7 at *
  go_wp2_with fail
  refine (c_one base b n _ 20 W7 HU7.out.cur (by omega) (by omega) (by omega)).mono ?_
  rintro e w8 ⟨x, rfl, hc8, hg8⟩
  have HU8 := hid (HU7.out.cur' hc8 hg8)
  have RW8 := hid (RW7.out.grown hg8 (by have := Z3.out; have := HBL.out; omega))
  have RB8 := hid (RB7.out.grown hg8 (by have := HBL.out; omega))
  clear hc8 hg8 HU7 RW7 RB7 f1 d1
  have fin : ∀ (W : World) (t : Int), CU w W base b n (A + 1003) (.slice a3 T.length c3) T → WRow W w3.heap.size (.slice a3 T.length c3) t 25 → WRow W w.heap.size (.slice none 0 0) 0 25 → (-1 ≤ t ∧ t ≤ 1001) → CU w ((W.setCell ⟨w.heap.size, 0, none⟩ (.slice a3 T.length c3)).setCell ⟨w.heap.size, 1, none⟩ (.int .i64 t)) base b n (A + 1010) (.slice a3 T.length c3) T := by
    intro W t hU hW hB ht
    exact ((hU.set (k := w.heap.size) (o := 0) (.slice a3 T.length c3) (Nat.le_refl _) (fun j hj => by have := (HOB.out j hj).1; have := Z2.out; omega)).set (k := w.heap.size) (o := 1) (.int .i64 t) (Nat.le_refl _) (fun j hj => by have := (HOB.out j hj).1; have := Z2.out; omega)).more (by omega)
  have FIN := hid fin
  clear fin
  cases x
  case false =>
    have HUF := hid (HU8.out.more (show (A + 1000 + 1 + 1 : Int) ≤ A + 1003 by omega))
    have y0 := RW8.out.c0
    have y1 := RW8.out.c1
    have f0 := RB8.out.fr 0
    have f1 := RB8.out.fr 1
    have d0 := RB8.out.c0
    have d1 := RB8.out.c1
    have PP := hid (RB8.out.put (.slice a3 T.length c3) x1)
    have p0 := hid PP.out.c0
    have p1 := hid PP.out.c1
    have HE := hid (FIN.out _ _ HUF.out RW8.out RB8.out HX1.out)
    clear HU8 HUF
    go_wp2
    exact bodyPost_ret (v := .agg #[.slice a3 T.length c3, .int .i64 x1]) (by simp [results, Tryd.results21, go_sem, p0.out, p1.out]) rfl ⟨_, T, x1, rfl, HE.out.own, HL.out, HS.out, HX1.out, HE.out.cur, HE.out.gr⟩
  case true =>
    have HU9 := hid (HU8.out.alloc (.cells #[.int .i64 (-1), .int .i64 1001] 3))
    have HI9 := hid (amseg_new w8 [-1, 1001] #[.int .i64 (-1), .int .i64 1001] 3 rfl)
    have RW9 := hid (World.rowIs.alloc RW8.out (.cells #[.int .i64 (-1), .int .i64 1001] 3))
    have RB9 := hid (World.rowIs.alloc RB8.out (.cells #[.int .i64 (-1), .int .i64 1001] 3))
    have LW := hid (World.rowIs.lt RW8.out)
    clear HU8 RW8 RB8
    go_wp2_with fail
    refine (c_among base b n w8.heap.size 0 2 _ [-1, 1001] _ HU9.out.cur (by omega) (by simp) (by simp) HI9.out (by have := LW.out; have := Z3.out; have := HBL.out; omega) (by simp)).mono ?_
    rintro e w10 ⟨x2, rfl, hx2, hc10, hg10⟩
    have HU10 := hid ((HU9.out.cur' hc10 hg10).more (show (A + 1000 + 1 + 1 + 1 : Int) ≤ A + 1003 by omega))
    have HX2 := hid (show -1 ≤ x2 ∧ x2 ≤ 1001 by simp at hx2; omega)
    have RW10 := hid (WRow.grown RW9.out hg10 (by have := Z3.out; have := HBL.out; omega))
    have RB10 := hid (WRow.grown RB9.out hg10 (by have := HBL.out; omega))
    clear hc10 hg10 HU9 HI9 hx2 RW9 RB9
    have f1 := RW10.out.fr 1
    have d1 := RW10.out.c1
    have HU11 := hid (HU10.out.set (k := w3.heap.size) (o := 1) (.int .i64 x2) (by have := Z3.out; omega) (fun j hj => by have := (HOB.out j hj).2; omega))
    have RW11 := hid (RW10.out.put1 x2)
    have RB11 := hid (RB10.out.other (b' := w3.heap.size) (o := 1) (by have := Z3.out; omega) (.int .i64 x2))
    clear HU10 RW10 RB10
    go_upto_region 5 with fail
    generalize w10.setCell ⟨w3.heap.size, 1, none⟩ (.int .i64 x2) = W11 at *
    clear f1 d1
    have y0 := RW11.out.c0
    have y1 := RW11.out.c1
    have f0 := RB11.out.fr 0
    have f1 := RB11.out.fr 1
    have d0 := RB11.out.c0
    have d1 := RB11.out.c1
    have PP := hid (RB11.out.put (.slice a3 T.length c3) x2)
    have p0 := hid PP.out.c0
    have p1 := hid PP.out.c1
    have HE := hid (FIN.out _ _ HU11.out RW11.out RB11.out HX2.out)
    clear HU11
    go_wp2
    exact bodyPost_ret (v := .agg #[.slice a3 T.length c3, .int .i64 x2]) (by simp [results, Tryd.results21, go_sem, p0.out, p1.out]) rfl ⟨_, T, x2, rfl, HE.out.own, HL.out, HS.out, HX2.out, HE.out.cur, HE.out.gr⟩

end Go.Proofs.YtgppcocfnbalfaaDoor
