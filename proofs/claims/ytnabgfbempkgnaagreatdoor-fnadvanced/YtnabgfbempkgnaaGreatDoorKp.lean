/- Texts of this seat, one behind the other: AbS, AbI. -/
import Derived.Test.YtnabgfbempkgnaaGreatDoorKo
import Derived.Test.YtnabgfbempkgnaaGreatDoorKl
import Derived.Test.YtnabgfbempkgnaaGreatDoorKe
import Derived.Test.YtnabgfbempkgnaaGreatDoorISafe
import Derived.Deep.RegionHeld3
import Derived.Deep.Cut
namespace Go.Proofs.YtnabgfbempkgnaaGreatDoor
open Go.RowKit
set_option linter.unusedVariables false
set_option linter.unusedSimpArgs false
attribute [local go_sem ↓] Go.wp_at_zero Go.wp_at_succ

theorem nw_gf {w : World} {g base : Nat} (h : NwRow w g (fun _ => 0)) (hb : base ≤ g) : GF w base (.slice (some ⟨g, 0, none⟩) 2 2) two := by
  obtain ⟨c, h1, h2, h3⟩ := h
  refine ⟨fun _ => (none, 0), ⟨rfl, .inr ⟨g, 2, c, rfl, hb, h1, Nat.le_refl _, by decide, by first | omega | (simp [two]; omega), ?_⟩⟩, fun i hi => ?_⟩
  · apply List.ext_getElem?
    intro i
    show (List.take 4 c.toList)[i]? = _
    by_cases e : i < 4
    · rw [List.getElem?_take_of_lt e, Array.getElem?_toList, h3 i (by omega)]
      rcases (show i = 0 ∨ i = 1 ∨ i = 2 ∨ i = 3 by omega) with rfl | rfl | rfl | rfl <;> rfl
    · rw [List.getElem?_eq_none (by simp; omega), List.getElem?_eq_none (by simp [two, qfl, qf]; omega)]
  · rcases (show i = 0 ∨ i = 1 by simp [two] at hi; omega) with rfl | rfl <;> exact ⟨fun j hj => by simp [two, qa] at hj, by simp [two, qa], fun _ => rfl⟩
theorem pow4_5 {n : Nat} (h : n ≤ 5) : 4 ^ n ≤ 1024 := by
  rcases (show n = 0 ∨ n = 1 ∨ n = 2 ∨ n = 3 ∨ n = 4 ∨ n = 5 by omega) with rfl | rfl | rfl | rfl | rfl | rfl <;> decide
theorem pow2_5 {n : Nat} (h : n ≤ 5) : (2 : Int) ^ n ≤ 32 := by
  rcases (show n = 0 ∨ n = 1 ∨ n = 2 ∨ n = 3 ∨ n = 4 ∨ n = 5 by omega) with rfl | rfl | rfl | rfl | rfl | rfl <;> decide

set_option maxHeartbeats 8000000 in
set_option maxRecDepth 100000 in
theorem c_sAdvanceByTree (a : Option Addr) (l : List Cl) (ca : Nat) (t s : Int) (w : World) (ha : Seg w a l) (hl : l.length ≤ 1048576) :
    Calls Tryz.prog 13 #[.agg #[.slice a l.length ca, .int .i64 t], .int .i64 s] w fun e w' => ∃ v, e = .returned (.tuple #[.agg #[v, .int .i64 (abtT l t s)], .bool (abtOk l t s)]) ∧ OwnS w' w.heap.size v (abtL l t s) ∧ Below w.heap.size w w' := by
  have h1 := (Below.refl w.heap.size w).alloc (Nat.le_refl _) (.cells #[.slice a l.length ca, .int .i64 t] 25)
  have h2 := (Below.refl (w.alloc (.cells #[.slice a l.length ca, .int .i64 t] 25)).heap.size (w.alloc (.cells #[.slice a l.length ca, .int .i64 t] 25))).alloc (Nat.le_refl _) (.cells #[.slice none 0 0, .int .i64 0] 25)
  have h3 := h1.trans (h2.mono h1.size)
  have RP := hid ((WRow.new w (.slice a l.length ca) t 25).below h2)
  have RB := hid (WRow.new (w.alloc (.cells #[.slice a l.length ca, .int .i64 t] 25)) (.slice none 0 0) 0 25)
  rw [show (w.alloc (.cells #[.slice a l.length ca, .int .i64 t] 25)).heap.size = w.heap.size + 1 by simp] at RB
  have HA := hid (ha.below h3)
  have HB := hid h3
  have HZ := hid (show ((w.alloc (.cells #[.slice a l.length ca, .int .i64 t] 25)).alloc (.cells #[.slice none 0 0, .int .i64 0] 25)).heap.size = w.heap.size + 2 by simp)
  have HSQ := hid (c_sSquareFor a l ca t s _ HA.out hl)
  clear ha h1 h2 h3
  cases hq : sqOk l t s
  · have HV := hid (show abtL l t s = [] ∧ abtT l t s = 0 ∧ abtOk l t s = false by simp [abtL, abtT, abtOk, hq])
    rw [hq] at HSQ
    go_enter Tryz.func13, Tryz.ntmps13
    have x0 := RP.out.c0
    have x1 := RP.out.c1
    go_wp2_with fail
    refine HSQ.out.mono ?_
    rintro e w1 ⟨rfl, b1⟩
    have ba := (Below.refl w1.heap.size w1).alloc (Nat.le_refl _) (.cells #[.int .i64 (sqC l t s).1, .int .i64 (sqC l t s).2] 51)
    replace RB := hid ((RB.out.below b1).below ba)
    replace HB := hid ((HB.out.trans (b1.mono HB.out.size)).trans (ba.mono (by have := HB.out.size; have := b1.size; omega)))
    clear b1 ba x0 x1 HSQ
    have f0 := RB.out.fr 0
    have f1 := RB.out.fr 1
    have d0 := RB.out.c0
    have d1 := RB.out.c1
    have PP := hid (RB.out.put (.slice none 0 0) 0)
    have p0 := hid PP.out.c0
    have p1 := hid PP.out.c1
    go_wp2
    exact bodyPost_ret (v := .tuple #[.agg #[.slice none 0 0, .int .i64 0], .bool false]) (by simp [results, Tryz.results13, go_sem, p0.out, p1.out]) rfl ⟨_, by rw [HV.out.2.2, HV.out.2.1], by rw [HV.out.1]; exact nilW _ _ _ _ _, belW HB.out (by omega) _ _⟩
  · obtain ⟨n, AF⟩ := ab_facts hq
    have hn2 := AF.n2
    have hn5 := AF.n5
    have hc1 := AF.c1
    have hc2 := AF.c2
    have hs1 := AF.s1
    have hs8 := AF.s8
    have htt := gw_age AF.g
    rw [hq, AF.v] at HSQ
    have HL0 := hid (show mv l (-(sqC l t s).1) (-(sqC l t s).2) = abL0 l t s from rfl)
    have HM0 := hid (show mv (abR l t s) (sqC l t s).1 (sqC l t s).2 = abM l t s from rfl)
    have HR := hid (show gw (abM l t s) (t + s) = abtOk l t s by simp [abtOk, hq])
    have HRL := hid (show gwL (abM l t s) (t + s) = abtL l t s by simp [gwL, abtL, HR.out])
    have HRT := hid (show gwT (abM l t s) (t + s) = abtT l t s by simp [gwT, abtT, HR.out])
    have HX := hid (show treeL (abL0 l t s) n 0 0 two = abX l t s by unfold abX; rw [AF.nn])
    have HXR := hid (show safV (abX l t s).1 ((abX l t s).2 : Int) s = abR l t s from rfl)
    have HIN := hid (ab_in AF)
    have HRL6 := hid (show (abR l t s).length ≤ 1048576 from safV_le _ _ _)
    have HML := hid (show (abM l t s).length ≤ 1048576 by rw [← HM0.out, mv_length]; exact HRL6.out)
    have HG0 := hid AF.good0
    have HGR := hid AF.grows
    have HFW := hid AF.few
    have HTO := hid (ab_tof AF)
    have HGI := hid (good_in (show good l = true by have := AF.g; simp only [gw, Bool.and_eq_true] at this; exact this.1))
    have HRE1 := hid (show IntKind.i64.wrap (t + s) = t + s from IntWalk.i64_in _ ⟨by omega, by omega⟩)
    have HN1 := hid (show IntKind.i64.wrap (-(sqC l t s).1) = -(sqC l t s).1 from IntWalk.i64_in _ ⟨by omega, by omega⟩)
    have HN2 := hid (show IntKind.i64.wrap (-(sqC l t s).2) = -(sqC l t s).2 from IntWalk.i64_in _ ⟨by omega, by omega⟩)
    clear hq AF
    generalize sqC l t s = C at *
    generalize abL0 l t s = L0 at *
    generalize abX l t s = X at *
    generalize abR l t s = R at *
    generalize abM l t s = M at *
    go_enter Tryz.func13, Tryz.ntmps13
    have x0 := RP.out.c0
    have x1 := RP.out.c1
    go_wp2_with fail
    refine HSQ.out.mono ?_
    rintro e w1 ⟨rfl, b1⟩
    have ba := (Below.refl w1.heap.size w1).alloc (Nat.le_refl _) (.cells #[.int .i64 C.1, .int .i64 C.2] 51)
    have CW := hid (WRow.new w1 (.int .i64 C.1) C.2 51)
    have Z1 := hid (⟨b1.size, by simp⟩ : ((w.alloc (.cells #[.slice a l.length ca, .int .i64 t] 25)).alloc (.cells #[.slice none 0 0, .int .i64 0] 25)).heap.size ≤ w1.heap.size ∧ (w1.alloc (.cells #[.int .i64 C.1, .int .i64 C.2] 51)).heap.size = w1.heap.size + 1)
    replace RP := hid ((RP.out.below b1).below ba)
    replace RB := hid ((RB.out.below b1).below ba)
    replace HA := hid ((HA.out.below b1).below ba)
    replace HB := hid ((HB.out.trans (b1.mono HB.out.size)).trans (ba.mono (by have := HB.out.size; have := b1.size; omega)))
    clear b1 ba x0 x1 HSQ
    have HP4 := hid (pow4_5 hn5)
    have HP2 := hid (pow2_5 hn5)
    go_wp2_with fail
    generalize w1.alloc (.cells #[.int .i64 C.1, .int .i64 C.2] 51) = W1 at *
    refine (c_sNewForest _).mono ?_
    rintro e w2 ⟨rfl, hN, b2⟩
    have ba := (Below.refl w2.heap.size w2).alloc (Nat.le_refl _) (.cells #[.slice (some ⟨W1.heap.size + 1, 0, none⟩) 2 2, .bool false] 64)
    have SF3 := hid (show SF (w2.alloc (.cells #[.slice (some ⟨W1.heap.size + 1, 0, none⟩) 2 2, .bool false] 64)) W1.heap.size w2.heap.size (.slice (some ⟨W1.heap.size + 1, 0, none⟩) 2 2) two from ⟨(nw_gf hN (by omega)).below ba, (two_row (heap_alloc_new _ _)).congr fun j hj => by
      rcases (show j = 0 ∨ j = 1 by omega) with rfl | rfl <;> simp [two], b2.size⟩)
    have LP := hid (World.rowIs.lt RP.out)
    have LB := hid (World.rowIs.lt RB.out)
    have LC := hid (World.rowIs.lt CW.out)
    have Z2 := hid b2.size
    replace RP := hid (RP.out.below b2)
    replace RB := hid (RB.out.below b2)
    replace CW := hid (CW.out.below b2)
    replace HA := hid (HA.out.below b2)
    replace HB := hid (HB.out.trans (b2.mono HB.out.size))
    replace RP := hid (RP.out.below ba)
    replace RB := hid (RB.out.below ba)
    replace CW := hid (CW.out.below ba)
    replace HA := hid (HA.out.below ba)
    replace HB := hid (HB.out.trans (ba.mono HB.out.size))
    have Z3 := hid (show W1.heap.size ≤ (w2.alloc (.cells #[.slice (some ⟨W1.heap.size + 1, 0, none⟩) 2 2, .bool false] 64)).heap.size by have := Z2.out; simp; omega)
    clear b2 ba hN
    have x0 := RP.out.c0
    have y0 := CW.out.c0
    have y1 := CW.out.c1
    go_wp2_with fail
    generalize w2.alloc (.cells #[.slice (some ⟨W1.heap.size + 1, 0, none⟩) 2 2, .bool false] 64) = W3 at *
    refine (c_l1Move a l ca (-C.1) (-C.2) _ HA.out hl HGI.out (by omega) (by omega)).mono ?_
    rintro e w4 ⟨v4, rfl, hO4, b4⟩
    rw [HL0.out] at hO4
    obtain ⟨a4, c4, rfl, _⟩ := hO4.form
    have HT4 := hid hO4.tys.2
    have Z4 := hid b4.size
    replace SF3 := hid (SF3.out.below b4)
    replace RP := hid (RP.out.below b4)
    replace RB := hid (RB.out.below b4)
    replace CW := hid (CW.out.below b4)
    replace HB := hid (HB.out.trans (b4.mono HB.out.size))
    clear b4 x0 y0 y1 hO4 HA
    have HTR := hid (c_streeE L0 a4 c4 (by have := good_le HG0.out; omega) W1.heap.size w2.heap.size n 0 0 _ two w4 hn5 two_grow (by have := HP4.out; show 2 + _ ≤ _; omega) (by omega) (by have := HP2.out; omega) (by omega) (by have := HP2.out; omega) SF3.out HT4.out (by intro z h; cases h))
    rw [HX.out] at HTR
    go_wp2_with fail
    refine HTR.out.mono ?_
    rintro e w5 ⟨v5, rfl, hS5, b5, k5⟩
    obtain ⟨a5, c5, rfl, q1, q2, q3⟩ := hS5.gf.form
    replace RP := hid (RP.out.of_block (b5.block _ LP.out))
    replace RB := hid (RB.out.of_block (b5.block _ LB.out))
    replace CW := hid (CW.out.of_block (b5.block _ LC.out))
    have Z5 := hid (⟨b5.size, by have := LB.out; omega⟩ : w4.heap.size ≤ w5.heap.size ∧ w.heap.size ≤ W1.heap.size)
    replace HB := hid (HB.out.trans (b5.mono Z5.out.2))
    have HS5 := hid hS5
    have HQ5 := hid (And.intro q1 (And.intro q2 q3))
    clear b5 k5 hS5 q1 q2 q3 HTR
    have z0 := HS5.out.c0
    go_wp2_with fail
    refine (c_sSafeIn a5 X.1 c5 (X.2 : Int) s _ HQ5.out.2.2 (by have := HFW.out; omega) HGR.out.kidsLe HQ5.out.1 HQ5.out.2.1).mono ?_
    rintro e w6 ⟨v6, rfl, hO6, b6⟩
    rw [HXR.out] at hO6
    obtain ⟨a6, c6, rfl, _⟩ := hO6.form
    have O6 := hid hO6
    have Z6 := hid (show w1.heap.size ≤ w6.heap.size by have := b6.size; have := Z5.out; have := Z4.out; have := Z3.out; have := LC.out; omega)
    replace RP := hid (RP.out.below b6)
    replace RB := hid (RB.out.below b6)
    replace CW := hid (CW.out.below b6)
    replace HB := hid (HB.out.trans (b6.mono HB.out.size))
    clear b6 hO6 HS5 HQ5 z0
    have hd := (Below.refl w6.heap.size w6).drew
    have ZD := hid (show w6.drew.heap.size = w6.heap.size from rfl)
    have D1 := hid (RP.out.below hd)
    have D2 := hid (CW.out.below hd)
    have D3 := hid (RB.out.below hd)
    have D4 := hid (O6.out.below hd)
    have D5 := hid (HB.out.trans (hd.mono HB.out.size))
    clear hd
    have y0 := CW.out.c0
    have y1 := CW.out.c1
    have y2 := RP.out.c1
    go_wp2_with fail
    go_region_held3 (fun W => W.cell? ⟨w1.heap.size, 0, none⟩ = some (.int .i64 C.1) ∧ W.cell? ⟨w1.heap.size, 1, none⟩ = some (.int .i64 C.2) ∧ W.cell? ⟨w.heap.size, 1, none⟩ = some (.int .i64 t))
      (first | exact ⟨CW.out.c0, CW.out.c1, RP.out.c1⟩ | exact ⟨E2.out.c0, E2.out.c1, E1.out.c1⟩ | exact ⟨G2.out.c0, G2.out.c1, G1.out.c1⟩ | exact ⟨H2.out.c0, H2.out.c1, H1.out.c1⟩ | go_keep)
      (first
        | (go_at_call 19; rw [HRE1.out]; refine (c_l6Tell a7 M c7 (t + s) _ O7.out.seg HML.out (own_none O7.out)).mono ?_; rintro e w8 ⟨v8, rfl, o8, b8⟩; rw [HRL.out] at o8; rw [HRT.out, HR.out]; obtain ⟨a8, c8, rfl, _⟩ := o8.form; have O8 := hid o8; have G1 := hid (E1.out.below b8); have G2 := hid (E2.out.below b8); have G3 := hid (E3.out.below b8); have G5 := hid (E5.out.trans (b8.mono E5.out.size)); have PP := hid (G3.out.put (.slice a8 (abtL l t s).length c8) (abtT l t s)); have p0 := hid PP.out.c0; have p1 := hid PP.out.c1; have H1 := hid ((G1.out.other (b' := w.heap.size + 1) (o := 0) (by omega) (.slice a8 (abtL l t s).length c8)).other (b' := w.heap.size + 1) (o := 1) (by omega) (.int .i64 (abtT l t s))); have H2 := hid ((G2.out.other (b' := w.heap.size + 1) (o := 0) (by have := Z1.out; have := HZ.out; omega) (.slice a8 (abtL l t s).length c8)).other (b' := w.heap.size + 1) (o := 1) (by have := Z1.out; have := HZ.out; omega) (.int .i64 (abtT l t s))); have f0 := G3.out.fr 0; have f1 := G3.out.fr 1; have d0 := G3.out.c0; have d1 := G3.out.c1)
        | (go_at_call 32; refine (c_l1Move a6 R c6 C.1 C.2 _ D4.out.seg HRL6.out HIN.out (by omega) (by omega)).mono ?_; rintro e w7 ⟨v7, rfl, o7, b7⟩; rw [HM0.out] at o7; obtain ⟨a7, c7, rfl, _⟩ := o7.form; have O7 := hid o7; have E1 := hid (D1.out.below b7); have E2 := hid (D2.out.below b7); have E3 := hid (D3.out.below b7); have E5 := hid (D5.out.trans (b7.mono D5.out.size)); have Z7 := hid b7.size))
    go_wp2
    exact bodyPost_ret (v := .tuple #[.agg #[.slice a8 (abtL l t s).length c8, .int .i64 (abtT l t s)], .bool (abtOk l t s)]) (by simp [results, Tryz.results13, go_sem, p0.out, p1.out]) rfl ⟨_, rfl, ownW O8.out (by have h1 := Z1.out.1; have h2 := HZ.out; have h3 := Z6.out; have h4 := Z7.out; have h5 := ZD.out; omega) _ _ (by have h1 := Z1.out.1; have h2 := HZ.out; have h3 := Z6.out; have h4 := Z7.out; have h5 := ZD.out; omega), belW G5.out (by omega) _ _⟩

end Go.Proofs.YtnabgfbempkgnaaGreatDoor

namespace Go.Proofs.YtnabgfbempkgnaaGreatDoor
open Go.RowKit
set_option linter.unusedVariables false
set_option linter.unusedSimpArgs false
attribute [local go_sem ↓] Go.wp_at_zero Go.wp_at_succ

/-- What stands while the program goes on by a tree. -/
structure ABs (w W : World) (B : Nat) (a : Option Addr) (l : List Cl) (ca : Nat) (t : Int) (C : Cl) : Prop where
  rp : WRow W w.heap.size (.slice a l.length ca) t 25
  cw : WRow W B (.int .i64 C.1) C.2 51
  rb : WRow W (w.heap.size + 1) (.slice none 0 0) 0 25
  hb : Below w.heap.size w W
theorem ABs.below {w W W' : World} {B : Nat} {a : Option Addr} {l : List Cl} {ca : Nat} {t : Int} {C : Cl} (h : ABs w W B a l ca t C) (b : Below W.heap.size W W') : ABs w W' B a l ca t C :=
  ⟨h.rp.below b, h.cw.below b, h.rb.below b, h.hb.trans (b.mono h.hb.size)⟩
theorem ABs.ltc {w W : World} {B : Nat} {a : Option Addr} {l : List Cl} {ca : Nat} {t : Int} {C : Cl} (h : ABs w W B a l ca t C) : B < W.heap.size := World.rowIs.lt h.cw
theorem ABs.alloc {w W : World} {B : Nat} {a : Option Addr} {l : List Cl} {ca : Nat} {t : Int} {C : Cl} (h : ABs w W B a l ca t C) (o : Obj) : ABs w (W.alloc o) B a l ca t C := h.below ((Below.refl W.heap.size W).alloc (Nat.le_refl _) o)
theorem ABs.drew {w W : World} {B : Nat} {a : Option Addr} {l : List Cl} {ca : Nat} {t : Int} {C : Cl} (h : ABs w W B a l ca t C) : ABs w W.drew B a l ca t C := h.below ((Below.refl W.heap.size W).drew)
def FBx (W : World) (b : Nat) (u : Value) : Prop := W.rowIs b 56 1 (fun _ => u)
theorem FBx.new (W : World) (u : Value) : FBx (W.alloc (.cells #[u] 56)) W.heap.size u := one_row (heap_alloc_new _ _)
theorem FBx.below {W W' : World} {b : Nat} {u : Value} (h : FBx W b u) (hb : Below W.heap.size W W') : FBx W' b u := World.rowIs.of_block h (hb.block _ (World.rowIs.lt h))
theorem FBx.c {W : World} {b : Nat} {u : Value} (h : FBx W b u) : W.cell? ⟨b, 0, none⟩ = some u := World.rowIs.cell h (i := 0) (by omega)
theorem FBx.put {W : World} {b : Nat} {u : Value} (h : FBx W b u) (v : Value) : FBx (W.setCell ⟨b, 0, none⟩ v) b v := (World.rowIs.set h 0 v).congr fun i hi => by simp; omega
theorem ABs.put {w W : World} {B b : Nat} {a : Option Addr} {l : List Cl} {ca : Nat} {t : Int} {C : Cl} {u : Value} (h : ABs w W B a l ca t C) (f : FBx W b u) (h1 : w.heap.size + 1 < b) (v : Value) (h2 : b ≠ B) : ABs w (W.setCell ⟨b, 0, none⟩ v) B a l ca t C :=
  ⟨h.rp.other (by omega) v, h.cw.other (Ne.symm h2) v, h.rb.other (by omega) v, h.hb.setCell (p := ⟨b, 0, none⟩) (by dsimp only; omega) v⟩
theorem FOwn.put {W : World} {lo hi b : Nat} {v : Value} {F : List Qd} (h : FOwn W lo hi v F) (hb : b < lo) (u : Value) : FOwn (W.setCell ⟨b, 0, none⟩ u) lo hi v F :=
  h.kept ((Grew.refl W b (b + 1)).set (Nat.le_refl _) (by omega) u) (by omega)

set_option maxHeartbeats 8000000 in
set_option maxRecDepth 100000 in
theorem c_iAdvanceByTree (a : Option Addr) (l : List Cl) (ca : Nat) (t s : Int) (w : World) (ha : Seg w a l) (hl : l.length ≤ 1048576) :
    Calls Tryz.prog 12 #[.agg #[.slice a l.length ca, .int .i64 t], .int .i64 s] w fun e w' => ∃ v, e = .returned (.tuple #[.agg #[v, .int .i64 (abtT l t s)], .bool (abtOk l t s)]) ∧ OwnS w' w.heap.size v (abtL l t s) ∧ Below w.heap.size w w' := by
  have h1 := (Below.refl w.heap.size w).alloc (Nat.le_refl _) (.cells #[.slice a l.length ca, .int .i64 t] 25)
  have h2 := (Below.refl (w.alloc (.cells #[.slice a l.length ca, .int .i64 t] 25)).heap.size (w.alloc (.cells #[.slice a l.length ca, .int .i64 t] 25))).alloc (Nat.le_refl _) (.cells #[.slice none 0 0, .int .i64 0] 25)
  have h3 := h1.trans (h2.mono h1.size)
  have RP := hid ((WRow.new w (.slice a l.length ca) t 25).below h2)
  have RB := hid (WRow.new (w.alloc (.cells #[.slice a l.length ca, .int .i64 t] 25)) (.slice none 0 0) 0 25)
  rw [show (w.alloc (.cells #[.slice a l.length ca, .int .i64 t] 25)).heap.size = w.heap.size + 1 by simp] at RB
  have HA := hid (ha.below h3)
  have HB := hid h3
  have HZ := hid (show ((w.alloc (.cells #[.slice a l.length ca, .int .i64 t] 25)).alloc (.cells #[.slice none 0 0, .int .i64 0] 25)).heap.size = w.heap.size + 2 by simp)
  have HSQ := hid (c_iSquareFor a l ca t s _ HA.out hl)
  clear ha h1 h2 h3
  cases hq : sqOk l t s
  · have HV := hid (show abtL l t s = [] ∧ abtT l t s = 0 ∧ abtOk l t s = false by simp [abtL, abtT, abtOk, hq])
    rw [hq] at HSQ
    go_enter Tryz.func12, Tryz.ntmps12
    have x0 := RP.out.c0
    have x1 := RP.out.c1
    go_wp2_with fail
    refine HSQ.out.mono ?_
    rintro e w1 ⟨rfl, b1⟩
    have ba := (Below.refl w1.heap.size w1).alloc (Nat.le_refl _) (.cells #[.int .i64 (sqC l t s).1, .int .i64 (sqC l t s).2] 51)
    replace RB := hid ((RB.out.below b1).below ba)
    replace HB := hid ((HB.out.trans (b1.mono HB.out.size)).trans (ba.mono (by have := HB.out.size; have := b1.size; omega)))
    clear b1 ba x0 x1 HSQ
    have f0 := RB.out.fr 0
    have f1 := RB.out.fr 1
    have d0 := RB.out.c0
    have d1 := RB.out.c1
    have PP := hid (RB.out.put (.slice none 0 0) 0)
    have p0 := hid PP.out.c0
    have p1 := hid PP.out.c1
    go_wp2
    exact bodyPost_ret (v := .tuple #[.agg #[.slice none 0 0, .int .i64 0], .bool false]) (by simp [results, Tryz.results12, go_sem, p0.out, p1.out]) rfl ⟨_, by rw [HV.out.2.2, HV.out.2.1], by rw [HV.out.1]; exact nilW _ _ _ _ _, belW HB.out (by omega) _ _⟩
  · obtain ⟨n, AF⟩ := ab_facts hq
    have hn2 := AF.n2
    have hn5 := AF.n5
    have hc1 := AF.c1
    have hc2 := AF.c2
    have hs1 := AF.s1
    have hs8 := AF.s8
    have htt := gw_age AF.g
    rw [hq, AF.v] at HSQ
    have HL0 := hid (show mv l (-(sqC l t s).1) (-(sqC l t s).2) = abL0 l t s from rfl)
    have HM0 := hid (show mv (abR l t s) (sqC l t s).1 (sqC l t s).2 = abM l t s from rfl)
    have HR := hid (show gw (abM l t s) (t + s) = abtOk l t s by simp [abtOk, hq])
    have HRL := hid (show gwL (abM l t s) (t + s) = abtL l t s by simp [gwL, abtL, HR.out])
    have HRT := hid (show gwT (abM l t s) (t + s) = abtT l t s by simp [gwT, abtT, HR.out])
    have HX := hid (show treeL (abL0 l t s) n 0 0 two = abX l t s by unfold abX; rw [AF.nn])
    have HXR := hid (show safV (abX l t s).1 ((abX l t s).2 : Int) s = abR l t s from rfl)
    have HIN := hid (ab_in AF)
    have HRL6 := hid (show (abR l t s).length ≤ 1048576 from safV_le _ _ _)
    have HML := hid (show (abM l t s).length ≤ 1048576 by rw [← HM0.out, mv_length]; exact HRL6.out)
    have HG0 := hid AF.good0
    have HGR := hid AF.grows
    have HFW := hid AF.few
    have HTO := hid (ab_tof AF)
    have HGI := hid (good_in (show good l = true by have := AF.g; simp only [gw, Bool.and_eq_true] at this; exact this.1))
    have HRE1 := hid (show IntKind.i64.wrap (t + s) = t + s from IntWalk.i64_in _ ⟨by omega, by omega⟩)
    have HN1 := hid (show IntKind.i64.wrap (-(sqC l t s).1) = -(sqC l t s).1 from IntWalk.i64_in _ ⟨by omega, by omega⟩)
    have HN2 := hid (show IntKind.i64.wrap (-(sqC l t s).2) = -(sqC l t s).2 from IntWalk.i64_in _ ⟨by omega, by omega⟩)
    clear hq AF
    generalize sqC l t s = C at *
    generalize abL0 l t s = L0 at *
    generalize abX l t s = X at *
    generalize abR l t s = R at *
    generalize abM l t s = M at *
    go_enter Tryz.func12, Tryz.ntmps12
    have x0 := RP.out.c0
    have x1 := RP.out.c1
    go_wp2_with fail
    refine HSQ.out.mono ?_
    rintro e w1 ⟨rfl, b1⟩
    have ba := (Below.refl w1.heap.size w1).alloc (Nat.le_refl _) (.cells #[.int .i64 C.1, .int .i64 C.2] 51)
    have CW := hid (WRow.new w1 (.int .i64 C.1) C.2 51)
    have Z1 := hid (⟨b1.size, by simp⟩ : ((w.alloc (.cells #[.slice a l.length ca, .int .i64 t] 25)).alloc (.cells #[.slice none 0 0, .int .i64 0] 25)).heap.size ≤ w1.heap.size ∧ (w1.alloc (.cells #[.int .i64 C.1, .int .i64 C.2] 51)).heap.size = w1.heap.size + 1)
    replace RP := hid ((RP.out.below b1).below ba)
    replace RB := hid ((RB.out.below b1).below ba)
    replace HA := hid ((HA.out.below b1).below ba)
    replace HB := hid ((HB.out.trans (b1.mono HB.out.size)).trans (ba.mono (by have := HB.out.size; have := b1.size; omega)))
    clear b1 ba x0 x1 HSQ
    have HLL := hid (show L0.length = l.length by rw [← HL0.out, mv_length])
    have A1 := hid (show ABs w (w1.alloc (.cells #[.int .i64 C.1, .int .i64 C.2] 51)) w1.heap.size a l ca t C from ⟨RP.out, CW.out, RB.out, HB.out⟩)
    have S1 := hid HA.out
    have ZB := hid (show w.heap.size + 1 < w1.heap.size by have h1 := Z1.out.1; have h2 := HZ.out; omega)
    have hIT : ∀ (W : World) (g b : Nat), NwRow W g (fun _ => 0) → Seg W (some ⟨b, 0, none⟩) L0 → Calls Tryz.prog 25 #[.agg #[.slice (some ⟨g, 0, none⟩) 2 2], .int .i64 (n : Int), .slice (some ⟨b, 0, none⟩) l.length l.length] W (fun e w' => ∃ ua uc, e = .returned (.tuple #[.agg #[.slice ua X.1.length uc], .int .i64 (X.2 : Int), .bool true]) ∧ FOwn w' W.heap.size w'.heap.size (.slice ua X.1.length uc) X.1 ∧ Below W.heap.size W w') := by
      intro W g b h1 h2
      have hT := c_iTreeOf (some ⟨g, 0, none⟩) two 2 (n : Int) (some ⟨b, 0, none⟩) L0 l.length W h1.seg (by show 2 ≤ _; omega) two_grow.kidsLe (Nat.le_refl 2) (by omega) h2 (by rw [HLL.out]; exact hl)
      rw [HTO.out.1, HTO.out.2.1, HTO.out.2.2, HLL.out] at hT
      refine hT.mono ?_
      rintro e w' ⟨u, rfl, hO, hb⟩
      obtain ⟨ua, uc, rfl, _⟩ := hO.form
      exact ⟨ua, uc, rfl, hO, hb⟩
    have HIT := hid hIT
    have HMV := hid (fun (W : World) (h : Seg W a l) => c_moveFreely a l ca (-C.1) (-C.2) W h hl HGI.out (by omega) (by omega))
    have x0 := A1.out.rp.c0
    have y0 := A1.out.cw.c0
    have y1 := A1.out.cw.c1
    clear hIT RP CW RB HA HB
    go_upto_region 4 with fail
    refine wp_cut (fun a' wx => ∃ (bx lo hi : Nat) (ua : Option Addr) (uc : Nat), ∃ sl : Nat → Value, a' = Act.mk #[sl 0, .int .i64 s, .pointer (some ⟨w.heap.size, 0, none⟩), sl 3, .pointer (some ⟨w.heap.size + 1, 0, none⟩), sl 5, .pointer (some ⟨w1.heap.size, 0, none⟩), sl 7, sl 8, .pointer (some ⟨bx, 0, none⟩), .int .i64 (X.2 : Int), sl 11, sl 12, sl 13, sl 14, sl 15, sl 16, sl 17, sl 18, sl 19, sl 20, sl 21, sl 22, sl 23, sl 24, sl 25, sl 26, sl 27, sl 28, sl 29, sl 30, sl 31, sl 32, sl 33, sl 34, sl 35, sl 36, sl 37, sl 38, sl 39, sl 40, sl 41, sl 42, sl 43, sl 44, sl 45, sl 46, sl 47, sl 48, sl 49, sl 50, sl 51, sl 52, sl 53, sl 54, sl 55, sl 56, sl 57, sl 58, sl 59, sl 60] [] ∧ Hid (ABs w wx w1.heap.size a l ca t C) ∧ Hid (FBx wx bx (.slice ua X.1.length uc)) ∧ Hid (FOwn wx lo hi (.slice ua X.1.length uc) X.1)) ?rest ?first
    case first =>
      intro J K' hJ hK
      have AD := hid A1.out.drew
      have SD := hid (S1.out.below ((Below.refl (w1.alloc (.cells #[.int .i64 C.1, .int .i64 C.2] 51)).heap.size (w1.alloc (.cells #[.int .i64 C.1, .int .i64 C.2] 51))).drew))
      have AE := hid (A1.out.alloc (.cells #[.slice none 0 0] 56)).drew
      have SE := hid ((S1.out.below ((Below.refl (w1.alloc (.cells #[.int .i64 C.1, .int .i64 C.2] 51)).heap.size (w1.alloc (.cells #[.int .i64 C.1, .int .i64 C.2] 51))).alloc (Nat.le_refl _) (.cells #[.slice none 0 0] 56))).below ((Below.refl ((w1.alloc (.cells #[.int .i64 C.1, .int .i64 C.2] 51)).alloc (.cells #[.slice none 0 0] 56)).heap.size ((w1.alloc (.cells #[.int .i64 C.1, .int .i64 C.2] 51)).alloc (.cells #[.slice none 0 0] 56))).drew))
      have RE := (FBx.new (w1.alloc (.cells #[.int .i64 C.1, .int .i64 C.2] 51)) (.slice none 0 0)).below ((Below.refl ((w1.alloc (.cells #[.int .i64 C.1, .int .i64 C.2] 51)).alloc (.cells #[.slice none 0 0] 56)).heap.size ((w1.alloc (.cells #[.int .i64 C.1, .int .i64 C.2] 51)).alloc (.cells #[.slice none 0 0] 56))).drew)
      rw [Z1.out.2] at RE
      have RE' := hid RE
      clear RE
      go_wp2_with fail
      go_region_held3 (fun W => W.cell? ⟨w.heap.size, 0, none⟩ = some (.slice a l.length ca) ∧ W.cell? ⟨w1.heap.size, 0, none⟩ = some (.int .i64 C.1) ∧ W.cell? ⟨w1.heap.size, 1, none⟩ = some (.int .i64 C.2))
        (first | with_reducible exact ⟨A5.out.rp.c0, A5.out.cw.c0, A5.out.cw.c1⟩ | with_reducible exact ⟨A4.out.rp.c0, A4.out.cw.c0, A4.out.cw.c1⟩ | with_reducible exact ⟨(A4.out.alloc _).rp.c0, (A4.out.alloc _).cw.c0, (A4.out.alloc _).cw.c1⟩ | with_reducible exact ⟨A3.out.rp.c0, A3.out.cw.c0, A3.out.cw.c1⟩ | with_reducible exact ⟨(A3.out.alloc _).rp.c0, (A3.out.alloc _).cw.c0, (A3.out.alloc _).cw.c1⟩ | with_reducible exact ⟨A2.out.rp.c0, A2.out.cw.c0, A2.out.cw.c1⟩ | with_reducible exact ⟨(A2.out.alloc _).rp.c0, (A2.out.alloc _).cw.c0, (A2.out.alloc _).cw.c1⟩ | with_reducible exact ⟨(AD.out.alloc _).rp.c0, (AD.out.alloc _).cw.c0, (AD.out.alloc _).cw.c1⟩ | with_reducible exact ⟨AD.out.rp.c0, AD.out.cw.c0, AD.out.cw.c1⟩ | with_reducible exact ⟨AE.out.rp.c0, AE.out.cw.c0, AE.out.cw.c1⟩ | with_reducible exact ⟨(A1.out.alloc _).rp.c0, (A1.out.alloc _).cw.c0, (A1.out.alloc _).cw.c1⟩ | with_reducible exact ⟨A1.out.rp.c0, A1.out.cw.c0, A1.out.cw.c1⟩)
        (first
          | (go_at_call 25; (first | (with_reducible show Calls _ _ _ (World.alloc _ _) _; refine (HIT.out _ g _ (HN3.out.below ((Below.refl w3.heap.size w3).alloc (Nat.le_refl _) _)) (HM3.out.below ((Below.refl w3.heap.size w3).alloc (Nat.le_refl _) _))).mono ?_; rintro e w4 ⟨ua, uc, rfl, hO4, b4⟩; have A4 := hid ((A3.out.alloc _).below b4); have RF4 := hid ((FBx.new _ _).below b4); have ZX := hid A3.out.ltc) | (refine (HIT.out _ g _ HN3.out HM3.out).mono ?_; rintro e w4 ⟨ua, uc, rfl, hO4, b4⟩; have A4 := hid (A3.out.below b4); (try have RF4 := hid (RF3.out.below b4)))); have O4 := hid hO4; (try (have f0 := World.rowIs.frozen RF4.out 0; have d0 := RF4.out.c; have A5 := hid (A4.out.put RF4.out (by have := ZX.out; have := ZB.out; omega) (.slice ua X.1.length uc) (by have := ZX.out; omega)))))
          | (go_at_call 27; rw [HN1.out, HN2.out]; (first | (with_reducible show Calls _ _ _ (World.alloc _ _) _; refine (HMV.out _ (S2.out.below ((Below.refl w2.heap.size w2).alloc (Nat.le_refl _) _))).mono ?_; rintro e w3 ⟨rfl, hR3, b3⟩; rw [show (w2.alloc (.cells #[.slice none 0 0] 56)).heap.size = w2.heap.size + 1 by simp] at hR3; have A3 := hid ((A2.out.alloc _).below b3); have RF3 := hid ((FBx.new _ _).below b3); have ZX := hid A2.out.ltc; have HN3 := hid ((HN2'.out.below ((Below.refl w2.heap.size w2).alloc (Nat.le_refl _) _)).below b3)) | (refine (HMV.out _ S2.out).mono ?_; rintro e w3 ⟨rfl, hR3, b3⟩; have A3 := hid (A2.out.below b3); (try have RF3 := hid (RF2.out.below b3)); have HN3 := hid (HN2'.out.below b3))); rw [HL0.out] at hR3; have HM3 := hid hR3.seg)
          | (go_at_call 26; refine (c_iNewForest _).mono ?_; rintro e w2 ⟨g, rfl, hN, _, b2⟩; have HN2' := hid hN; (first | (have A2 := hid (by with_reducible exact ABs.below AD.out b2); have S2 := hid (SD.out.below b2)) | (have A2 := hid (by with_reducible exact ABs.below AE.out b2); have S2 := hid (SE.out.below b2); have RF2 := hid (RE'.out.below b2); have ZX := hid (show w1.heap.size < w1.heap.size + 1 by omega)))))
      all_goals show K' _ _
      all_goals first
        | exact hK _ _ (Met.intro (hJ _ _ ⟨_, _, _, ua, uc, meet_fun ⟨hid A5.out, hid (RF4.out.put _), hid (O4.out.put (by first | exact World.rowIs.lt RF3.out | simp) _)⟩ (by kernel_rfl)⟩))
        | exact hK _ _ (Met.intro (hJ _ _ ⟨_, _, _, ua, uc, meet_fun ⟨hid (A4.out.alloc _), hid (FBx.new _ _), hid (O4.out.below ((Below.refl w4.heap.size w4).alloc (Nat.le_refl _) _))⟩ (by kernel_rfl)⟩))
    case rest =>
      clear A1 S1 HIT HMV HTO x0 y0 y1
      rintro _ w5 ⟨bx, lo, hi, ua, uc, sl, rfl, A5, RF5, O5⟩
      have RP := hid A5.out.rp
      have CW := hid A5.out.cw
      have RB := hid A5.out.rb
      have HB := hid A5.out.hb
      have ZC := hid (show w1.heap.size < w5.heap.size from A5.out.ltc)
      clear A5
      obtain ⟨a5, c5, e5, q1, q2, q3⟩ := O5.out.form
      simp only [Value.slice.injEq, true_and] at e5
      obtain ⟨rfl, rfl⟩ := e5
      have HQ5 := hid (And.intro q1 (And.intro q2 q3))
      clear q1 q2 q3 O5
      have z0 := RF5.out.c
      go_wp2_with fail
      refine (c_iSafeIn ua X.1 uc (X.2 : Int) s _ HQ5.out.2.2 (by have := HFW.out; omega) HGR.out.kidsLe HQ5.out.1 HQ5.out.2.1).mono ?_
      rintro e w6 ⟨v6, rfl, hO6, b6⟩
      rw [HXR.out] at hO6
      obtain ⟨a6, c6, rfl, _⟩ := hO6.form
      have O6 := hid hO6
      have Z6 := hid (show w1.heap.size ≤ w6.heap.size by have := b6.size; have := ZC.out; omega)
      replace RP := hid (RP.out.below b6)
      replace RB := hid (RB.out.below b6)
      replace CW := hid (CW.out.below b6)
      replace HB := hid (HB.out.trans (b6.mono HB.out.size))
      have HMR := hid (show M.length = R.length by rw [← HM0.out, mv_length])
      clear b6 hO6 HQ5 z0 RF5
      have hd := (Below.refl w6.heap.size w6).drew
      have ZD := hid (show w6.drew.heap.size = w6.heap.size from rfl)
      have D1 := hid (RP.out.below hd)
      have D2 := hid (CW.out.below hd)
      have D3 := hid (RB.out.below hd)
      have D4 := hid (O6.out.below hd)
      have D5 := hid (HB.out.trans (hd.mono HB.out.size))
      clear hd
      have y0 := CW.out.c0
      have y1 := CW.out.c1
      have y2 := RP.out.c1
      go_wp2_with fail
      go_region_held3 (fun W => W.cell? ⟨w1.heap.size, 0, none⟩ = some (.int .i64 C.1) ∧ W.cell? ⟨w1.heap.size, 1, none⟩ = some (.int .i64 C.2) ∧ W.cell? ⟨w.heap.size, 1, none⟩ = some (.int .i64 t))
        (first | exact ⟨CW.out.c0, CW.out.c1, RP.out.c1⟩ | exact ⟨E2.out.c0, E2.out.c1, E1.out.c1⟩ | exact ⟨G2.out.c0, G2.out.c1, G1.out.c1⟩ | exact ⟨H2.out.c0, H2.out.c1, H1.out.c1⟩ | go_keep)
        (first
          | (go_at_call 17; rw [HRE1.out]; refine HT.out.mono ?_; rintro e w8 ⟨v8, rfl, o8, b8⟩; rw [HRL.out] at o8; rw [HRT.out, HR.out]; obtain ⟨a8, c8, rfl, _⟩ := o8.form; have O8 := hid o8; have G1 := hid (E1.out.below b8); have G2 := hid (E2.out.below b8); have G3 := hid (E3.out.below b8); have G5 := hid (E5.out.trans (b8.mono E5.out.size)); have PP := hid (G3.out.put (.slice a8 (abtL l t s).length c8) (abtT l t s)); have p0 := hid PP.out.c0; have p1 := hid PP.out.c1; have H1 := hid ((G1.out.other (b' := w.heap.size + 1) (o := 0) (by omega) (.slice a8 (abtL l t s).length c8)).other (b' := w.heap.size + 1) (o := 1) (by omega) (.int .i64 (abtT l t s))); have H2 := hid ((G2.out.other (b' := w.heap.size + 1) (o := 0) (by have := Z1.out; have := HZ.out; omega) (.slice a8 (abtL l t s).length c8)).other (b' := w.heap.size + 1) (o := 1) (by have := Z1.out; have := HZ.out; omega) (.int .i64 (abtT l t s))); have f0 := G3.out.fr 0; have f1 := G3.out.fr 1; have d0 := G3.out.c0; have d1 := G3.out.c1)
          | (go_at_call 27; refine (c_moveFreely a6 R c6 C.1 C.2 _ D4.out.seg HRL6.out HIN.out (by omega) (by omega)).mono ?_; rintro e w7 ⟨rfl, hR7, b7⟩; rw [HM0.out] at hR7; have hT := c_onlyGoodWorld _ M M.length (t + s) _ w7 (hR7.own HML.out) HML.out (Nat.le_of_lt (World.rowIs.lt hR7)); rw [HMR.out] at hT; have HT := hid hT; clear hT hR7; have E1 := hid (D1.out.below b7); have E2 := hid (D2.out.below b7); have E3 := hid (D3.out.below b7); have E5 := hid (D5.out.trans (b7.mono D5.out.size)); have Z7 := hid b7.size))
      go_wp2
      exact bodyPost_ret (v := .tuple #[.agg #[.slice a8 (abtL l t s).length c8, .int .i64 (abtT l t s)], .bool (abtOk l t s)]) (by simp [results, Tryz.results12, go_sem, p0.out, p1.out]) rfl ⟨_, rfl, ownW O8.out (by have h1 := Z1.out.1; have h2 := HZ.out; have h3 := Z6.out; have h4 := Z7.out; have h5 := ZD.out; omega) _ _ (by have h1 := Z1.out.1; have h2 := HZ.out; have h3 := Z6.out; have h4 := Z7.out; have h5 := ZD.out; omega), belW G5.out (by omega) _ _⟩

end Go.Proofs.YtnabgfbempkgnaaGreatDoor
