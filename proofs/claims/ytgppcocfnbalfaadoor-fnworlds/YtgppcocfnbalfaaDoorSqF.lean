/- Texts of this seat, one behind the other: SqF. -/
import Derived.Test.YtgppcocfnbalfaaDoorWdF
import Derived.Test.YtgppcocfnbalfaaDoorBoxS
import Derived.Test.YtgppcocfnbalfaaDoorBoxY
namespace Go.Proofs.YtgppcocfnbalfaaDoor
open Go.RowKit
set_option linter.unusedVariables false
set_option linter.unusedSimpArgs false
attribute [local go_sem ↓] Go.wp_at_zero Go.wp_at_succ

theorem sq_in {l : List Cl} {t s : Int} (h : sqIn l t s = true) : (boxOk l = true ∧ gw l t = true) ∧ inB 1 8 s = true := by
  simpa [sqIn] using h
theorem sq_2 {n : Int} (h : 0 < n) (h' : n ≤ 2) : sqQ n = 1 ∧ sqLev n = 2 := by unfold sqQ sqLev; simp [h']
theorem sq_3 {n : Int} (h : 2 < n) (h' : n ≤ 4) : sqQ n = 2 ∧ sqLev n = 3 := by unfold sqQ sqLev; simp [h', show ¬ n ≤ 2 by omega]
theorem sq_4 {n : Int} (h : 4 < n) (h' : n ≤ 8) : sqQ n = 4 ∧ sqLev n = 4 := by unfold sqQ sqLev; simp [h', show ¬ n ≤ 2 by omega, show ¬ n ≤ 4 by omega]
theorem sq_5 {n : Int} (h : 8 < n) (h' : n ≤ 16) : sqQ n = 8 ∧ sqLev n = 5 := by unfold sqQ sqLev; simp [h', show ¬ n ≤ 2 by omega, show ¬ n ≤ 4 by omega, show ¬ n ≤ 8 by omega]
theorem sq_no {l : List Cl} {t s : Int} (h : sqOk l t s = false) : (sqC l t s = (0, 0) ∧ sqV l t s = 0) ∧ sqOk l t s = false := by simp [sqC, sqV, h]

set_option maxHeartbeats 8000000 in
set_option maxRecDepth 100000 in
theorem c_sSquareFor (a : Option Addr) (l : List Cl) (ca : Nat) (t s : Int) (w : World) (ha : Seg w a l) (hl : l.length ≤ 1048576) :
    Calls Tryd.prog 6 #[.agg #[.slice a l.length ca, .int .i64 t], .int .i64 s] w fun e w' => e = .returned (.tuple #[.agg #[.int .i64 (sqC l t s).1, .int .i64 (sqC l t s).2], .int .i64 (sqV l t s), .bool (sqOk l t s)]) ∧ Below w.heap.size w w' := by
  have h1 := (Below.refl w.heap.size w).alloc (Nat.le_refl _) (.cells #[.slice a l.length ca, .int .i64 t] 25)
  have h2 := (Below.refl (w.alloc (.cells #[.slice a l.length ca, .int .i64 t] 25)).heap.size (w.alloc (.cells #[.slice a l.length ca, .int .i64 t] 25))).alloc (Nat.le_refl _) (.cells #[.int .i64 0, .int .i64 0] 29)
  have h3 := h1.trans (h2.mono h1.size)
  have RP := hid ((WRow.new w (.slice a l.length ca) t 25).below h2)
  have RB := hid (WRow.new (w.alloc (.cells #[.slice a l.length ca, .int .i64 t] 25)) (.int .i64 0) 0 29)
  rw [show (w.alloc (.cells #[.slice a l.length ca, .int .i64 t] 25)).heap.size = w.heap.size + 1 by simp] at RB
  have HA := hid (ha.below h3)
  have HB := hid h3
  clear ha h1 h2 h3
  have HBX := hid (c_sBoxOf a l ca _ HA.out hl)
  cases hg : gw l t
  · have HN := hid (sq_no (l := l) (t := t) (s := s) (by simp [sqOk, sqIn, hg]))
    have HC := hid (fun (W : World) (h : Seg W a l) => c_sGoodWorld' a l ca t false hg W h hl)
    generalize boxOk l = bo at *
    go_enter Tryd.func6, Tryd.ntmps6
    have x0 := RP.out.c0
    go_wp2_with fail
    refine HBX.out.mono ?_
    rintro e w1 ⟨rfl, b1⟩
    have k1 := (Below.refl w1.heap.size w1).alloc (Nat.le_refl _) (.cells #[.int .i64 (boxLo l).1, .int .i64 (boxLo l).2] 29)
    have k2 := (Below.refl (w1.alloc (.cells #[.int .i64 (boxLo l).1, .int .i64 (boxLo l).2] 29)).heap.size (w1.alloc (.cells #[.int .i64 (boxLo l).1, .int .i64 (boxLo l).2] 29))).alloc (Nat.le_refl _) (.cells #[.int .i64 (boxHi l).1, .int .i64 (boxHi l).2] 29)
    have RA := hid ((WRow.new w1 (.int .i64 (boxLo l).1) (boxLo l).2 29).below k2)
    have RH := hid (WRow.new (w1.alloc (.cells #[.int .i64 (boxLo l).1, .int .i64 (boxLo l).2] 29)) (.int .i64 (boxHi l).1) (boxHi l).2 29)
    rw [show (w1.alloc (.cells #[.int .i64 (boxLo l).1, .int .i64 (boxLo l).2] 29)).heap.size = w1.heap.size + 1 by simp] at RH
    replace RP := hid (((RP.out.below b1).below k1).below k2)
    replace RB := hid (((RB.out.below b1).below k1).below k2)
    replace HA := hid (((HA.out.below b1).below k1).below k2)
    replace HB := hid (((HB.out.trans (b1.mono HB.out.size)).trans (k1.mono (by have := HB.out.size; have := b1.size; omega))).trans (k2.mono (by have := HB.out.size; have := b1.size; have := k1.size; omega)))
    clear b1 k1 k2 x0 HBX
    have x0 := RP.out.c0
    have x1 := RP.out.c1
    go_wp2_with fail
    refine (HC.out _ HA.out).mono ?_
    rintro e w4 ⟨rfl, b4⟩
    replace RB := hid (RB.out.below b4)
    replace HB := hid (HB.out.trans (b4.mono HB.out.size))
    clear b4
    have f0 := RB.out.fr 0
    have f1 := RB.out.fr 1
    have d0 := RB.out.c0
    have d1 := RB.out.c1
    have PP := hid (RB.out.put (.int .i64 (0)) (0))
    have p0 := hid PP.out.c0
    have p1 := hid PP.out.c1
    go_wp2
    exact bodyPost_ret (v := .tuple #[.agg #[.int .i64 (0), .int .i64 (0)], .int .i64 (0), .bool false]) (by simp [results, Tryd.results6, go_sem, p0.out, p1.out]) rfl ⟨by rw [HN.out.1.1, HN.out.1.2, HN.out.2], belW HB.out (by omega) _ _⟩
  · have HC := hid (fun (W : World) (h : Seg W a l) => c_sGoodWorld' a l ca t true hg W h hl)
    cases hbo : boxOk l
    · have HN := hid (sq_no (l := l) (t := t) (s := s) (by simp [sqOk, sqIn, hbo]))
      rw [hbo] at HBX
      go_enter Tryd.func6, Tryd.ntmps6
      have x0 := RP.out.c0
      go_wp2_with fail
      refine HBX.out.mono ?_
      rintro e w1 ⟨rfl, b1⟩
      have k1 := (Below.refl w1.heap.size w1).alloc (Nat.le_refl _) (.cells #[.int .i64 (boxLo l).1, .int .i64 (boxLo l).2] 29)
      have k2 := (Below.refl (w1.alloc (.cells #[.int .i64 (boxLo l).1, .int .i64 (boxLo l).2] 29)).heap.size (w1.alloc (.cells #[.int .i64 (boxLo l).1, .int .i64 (boxLo l).2] 29))).alloc (Nat.le_refl _) (.cells #[.int .i64 (boxHi l).1, .int .i64 (boxHi l).2] 29)
      have RA := hid ((WRow.new w1 (.int .i64 (boxLo l).1) (boxLo l).2 29).below k2)
      have RH := hid (WRow.new (w1.alloc (.cells #[.int .i64 (boxLo l).1, .int .i64 (boxLo l).2] 29)) (.int .i64 (boxHi l).1) (boxHi l).2 29)
      rw [show (w1.alloc (.cells #[.int .i64 (boxLo l).1, .int .i64 (boxLo l).2] 29)).heap.size = w1.heap.size + 1 by simp] at RH
      replace RP := hid (((RP.out.below b1).below k1).below k2)
      replace RB := hid (((RB.out.below b1).below k1).below k2)
      replace HA := hid (((HA.out.below b1).below k1).below k2)
      replace HB := hid (((HB.out.trans (b1.mono HB.out.size)).trans (k1.mono (by have := HB.out.size; have := b1.size; omega))).trans (k2.mono (by have := HB.out.size; have := b1.size; have := k1.size; omega)))
      clear b1 k1 k2 x0 HBX
      have x0 := RP.out.c0
      have x1 := RP.out.c1
      go_wp2_with fail
      refine (HC.out _ HA.out).mono ?_
      rintro e w4 ⟨rfl, b4⟩
      replace RB := hid (RB.out.below b4)
      replace HB := hid (HB.out.trans (b4.mono HB.out.size))
      clear b4
      have f0 := RB.out.fr 0
      have f1 := RB.out.fr 1
      have d0 := RB.out.c0
      have d1 := RB.out.c1
      have PP := hid (RB.out.put (.int .i64 (0)) (0))
      have p0 := hid PP.out.c0
      have p1 := hid PP.out.c1
      go_wp2
      exact bodyPost_ret (v := .tuple #[.agg #[.int .i64 (0), .int .i64 (0)], .int .i64 (0), .bool false]) (by simp [results, Tryd.results6, go_sem, p0.out, p1.out]) rfl ⟨by rw [HN.out.1.1, HN.out.1.2, HN.out.2], belW HB.out (by omega) _ _⟩
    · rw [hbo] at HBX
      cases hs : inB 1 8 s
      · have HN := hid (sq_no (l := l) (t := t) (s := s) (by simp [sqOk, sqIn, hs]))
        have HI := hid (fun (W : World) => c_l1In' s 1 8 false hs W)
        go_enter Tryd.func6, Tryd.ntmps6
        have x0 := RP.out.c0
        go_wp2_with fail
        refine HBX.out.mono ?_
        rintro e w1 ⟨rfl, b1⟩
        have k1 := (Below.refl w1.heap.size w1).alloc (Nat.le_refl _) (.cells #[.int .i64 (boxLo l).1, .int .i64 (boxLo l).2] 29)
        have k2 := (Below.refl (w1.alloc (.cells #[.int .i64 (boxLo l).1, .int .i64 (boxLo l).2] 29)).heap.size (w1.alloc (.cells #[.int .i64 (boxLo l).1, .int .i64 (boxLo l).2] 29))).alloc (Nat.le_refl _) (.cells #[.int .i64 (boxHi l).1, .int .i64 (boxHi l).2] 29)
        have RA := hid ((WRow.new w1 (.int .i64 (boxLo l).1) (boxLo l).2 29).below k2)
        have RH := hid (WRow.new (w1.alloc (.cells #[.int .i64 (boxLo l).1, .int .i64 (boxLo l).2] 29)) (.int .i64 (boxHi l).1) (boxHi l).2 29)
        rw [show (w1.alloc (.cells #[.int .i64 (boxLo l).1, .int .i64 (boxLo l).2] 29)).heap.size = w1.heap.size + 1 by simp] at RH
        replace RP := hid (((RP.out.below b1).below k1).below k2)
        replace RB := hid (((RB.out.below b1).below k1).below k2)
        replace HA := hid (((HA.out.below b1).below k1).below k2)
        replace HB := hid (((HB.out.trans (b1.mono HB.out.size)).trans (k1.mono (by have := HB.out.size; have := b1.size; omega))).trans (k2.mono (by have := HB.out.size; have := b1.size; have := k1.size; omega)))
        clear b1 k1 k2 x0 HBX
        have x0 := RP.out.c0
        have x1 := RP.out.c1
        go_wp2_with fail
        refine (HC.out _ HA.out).mono ?_
        rintro e w4 ⟨rfl, b4⟩
        replace RB := hid (RB.out.below b4)
        replace HB := hid (HB.out.trans (b4.mono HB.out.size))
        clear b4
        go_wp2_with fail
        refine (HI.out _).mono ?_
        rintro e w5 ⟨rfl, rfl⟩
        have f0 := RB.out.fr 0
        have f1 := RB.out.fr 1
        have d0 := RB.out.c0
        have d1 := RB.out.c1
        have PP := hid (RB.out.put (.int .i64 (0)) (0))
        have p0 := hid PP.out.c0
        have p1 := hid PP.out.c1
        go_wp2
        exact bodyPost_ret (v := .tuple #[.agg #[.int .i64 (0), .int .i64 (0)], .int .i64 (0), .bool false]) (by simp [results, Tryd.results6, go_sem, p0.out, p1.out]) rfl ⟨by rw [HN.out.1.1, HN.out.1.2, HN.out.2], belW HB.out (by omega) _ _⟩
      · have HI := hid (fun (W : World) => c_l1In' s 1 8 true hs W)
        have hsb := inB_bd hs
        obtain ⟨hlo, hhi⟩ := box_reach hbo
        obtain ⟨hle1, hle2⟩ := box_le hbo
        simp only [inR, Bool.and_eq_true, decide_eq_true_eq] at hlo hhi
        have HOK := hid (show sqOk l t s = decide (longC l s ≤ 16) by simp [sqOk, sqIn, hbo, hg, hs])
        have HCV := hid (show longC l s ≤ 16 → sqC l t s = ((boxLo l).1 - s - sqQ (longC l s), (boxLo l).2 - s - sqQ (longC l s)) ∧ sqV l t s = sqLev (longC l s) from fun h => by
          have e : sqOk l t s = true := by rw [HOK.out]; simpa using h
          simp [sqC, sqV, e])
        have HZR := hid (sq_no (l := l) (t := t) (s := s))
        have HLC := hid (show longC l s = max ((boxHi l).1 - (boxLo l).1) ((boxHi l).2 - (boxLo l).2) + 1 + 2 * s from rfl)
        go_enter Tryd.func6, Tryd.ntmps6
        have x0 := RP.out.c0
        go_wp2_with fail
        refine HBX.out.mono ?_
        rintro e w1 ⟨rfl, b1⟩
        have k1 := (Below.refl w1.heap.size w1).alloc (Nat.le_refl _) (.cells #[.int .i64 (boxLo l).1, .int .i64 (boxLo l).2] 29)
        have k2 := (Below.refl (w1.alloc (.cells #[.int .i64 (boxLo l).1, .int .i64 (boxLo l).2] 29)).heap.size (w1.alloc (.cells #[.int .i64 (boxLo l).1, .int .i64 (boxLo l).2] 29))).alloc (Nat.le_refl _) (.cells #[.int .i64 (boxHi l).1, .int .i64 (boxHi l).2] 29)
        have RA := hid ((WRow.new w1 (.int .i64 (boxLo l).1) (boxLo l).2 29).below k2)
        have RH := hid (WRow.new (w1.alloc (.cells #[.int .i64 (boxLo l).1, .int .i64 (boxLo l).2] 29)) (.int .i64 (boxHi l).1) (boxHi l).2 29)
        rw [show (w1.alloc (.cells #[.int .i64 (boxLo l).1, .int .i64 (boxLo l).2] 29)).heap.size = w1.heap.size + 1 by simp] at RH
        replace RP := hid (((RP.out.below b1).below k1).below k2)
        replace RB := hid (((RB.out.below b1).below k1).below k2)
        replace HA := hid (((HA.out.below b1).below k1).below k2)
        replace HB := hid (((HB.out.trans (b1.mono HB.out.size)).trans (k1.mono (by have := HB.out.size; have := b1.size; omega))).trans (k2.mono (by have := HB.out.size; have := b1.size; have := k1.size; omega)))
        clear b1 k1 k2 x0 HBX
        have x0 := RP.out.c0
        have x1 := RP.out.c1
        go_wp2_with fail
        refine (HC.out _ HA.out).mono ?_
        rintro e w4 ⟨rfl, b4⟩
        replace RB := hid (RB.out.below b4)
        replace RA := hid (RA.out.below b4)
        replace RH := hid (RH.out.below b4)
        replace HB := hid (HB.out.trans (b4.mono HB.out.size))
        clear b4
        go_wp2_with fail
        refine (HI.out _).mono ?_
        rintro e w5 ⟨rfl, rfl⟩
        generalize boxLo l = lo at *
        generalize boxHi l = hi at *
        generalize longC l s = LC at *
        clear HI HC x0 x1 hs hg hbo RP HA
        go_wp2
        go_loopw [10] (fun i wr => ∃ n : Int, i = .int .i64 n ∧ Hid (n = 2 ∨ n = 3 ∧ 2 < LC ∨ n = 4 ∧ 4 < LC ∨ n = 5 ∧ 8 < LC ∨ n = 6 ∧ 16 < LC) ∧ Hid (WRow wr w1.heap.size (.int .i64 lo.1) lo.2 29) ∧ Hid (WRow wr (w1.heap.size + 1) (.int .i64 hi.1) hi.2 29) ∧ Hid (WRow wr (w.heap.size + 1) (.int .i64 0) 0 29) ∧ Hid (Below w.heap.size w wr)) (fun i _ => (7 - (intOf i)).toNat)
        case atStart => exact ⟨2, rfl, .inl rfl, RA.out, RH.out, RB.out, HB.out⟩
        case round =>
          clear RA RH RB HB
          obtain ⟨n, rfl, HNC, RA, RH, RB, HB⟩ := hrel
          rcases HNC.out with rfl | ⟨rfl, hn⟩ | ⟨rfl, hn⟩ | ⟨rfl, hn⟩ | ⟨rfl, hn⟩
          · have x0 := RA.out.c0
            have x1 := RA.out.c1
            have y0 := RH.out.c0
            have y1 := RH.out.c1
            have ba := (Below.refl wr.heap.size wr).alloc (Nat.le_refl _) (.cells #[.int .i64 (lo.1 - s - 1), .int .i64 (lo.2 - s - 1)] 29)
            have RF := hid (WRow.new wr (.int .i64 (lo.1 - s - 1)) (lo.2 - s - 1) 29)
            have z0 := RF.out.c0
            have z1 := RF.out.c1
            replace RA := hid (RA.out.below ba)
            replace RH := hid (RH.out.below ba)
            replace RB := hid (RB.out.below ba)
            replace HB := hid (HB.out.trans (ba.mono HB.out.size))
            have u0 := RA.out.c0
            have u1 := RA.out.c1
            have v0 := RH.out.c0
            have v1 := RH.out.c1
            clear ba
            have e0 : LC = max (hi.1 - lo.1) (hi.2 - lo.2) + 1 + 2 * s := HLC.out
            by_cases c1 : s ≤ 1
            · by_cases c2 : hi.1 + s ≤ lo.1 - s - 1 + 3 * 1 - 1
              · exfalso; omega
              · have HN1 := hid (show 2 * 1 < LC by omega)
                clear e0 HNC HLC HCV HOK HZR
                go_wp2
                go_roundw
                case rel => exact ⟨2 + 1, by go_num, by have := HN1.out; show _ ∨ _; omega, RA.out, RH.out, RB.out, HB.out⟩
                case measure => simp [intOf]
            · have HN1 := hid (show 2 * 1 < LC by omega)
              clear e0 HNC HLC HCV HOK HZR
              go_wp2
              go_roundw
              case rel => exact ⟨2 + 1, by go_num, by have := HN1.out; show _ ∨ _; omega, RA.out, RH.out, RB.out, HB.out⟩
              case measure => simp [intOf]
          · have x0 := RA.out.c0
            have x1 := RA.out.c1
            have y0 := RH.out.c0
            have y1 := RH.out.c1
            have ba := (Below.refl wr.heap.size wr).alloc (Nat.le_refl _) (.cells #[.int .i64 (lo.1 - s - 2), .int .i64 (lo.2 - s - 2)] 29)
            have RF := hid (WRow.new wr (.int .i64 (lo.1 - s - 2)) (lo.2 - s - 2) 29)
            have z0 := RF.out.c0
            have z1 := RF.out.c1
            replace RA := hid (RA.out.below ba)
            replace RH := hid (RH.out.below ba)
            replace RB := hid (RB.out.below ba)
            replace HB := hid (HB.out.trans (ba.mono HB.out.size))
            have u0 := RA.out.c0
            have u1 := RA.out.c1
            have v0 := RH.out.c0
            have v1 := RH.out.c1
            clear ba
            have e0 : LC = max (hi.1 - lo.1) (hi.2 - lo.2) + 1 + 2 * s := HLC.out
            by_cases c1 : s ≤ 2
            · by_cases c2 : hi.1 + s ≤ lo.1 - s - 2 + 3 * 2 - 1
              · by_cases c3 : hi.2 + s ≤ lo.2 - s - 2 + 3 * 2 - 1
                · have HR := hid (show (sqC l t s = (lo.1 - s - 2, lo.2 - s - 2) ∧ sqV l t s = 3) ∧ sqOk l t s = true by
                    have hf : LC ≤ 2 * 2 := by omega
                    obtain ⟨h1, h2⟩ : sqQ LC = 2 ∧ sqLev LC = 3 := sq_3 (by omega) (by omega)
                    have h3 := HCV.out (by omega)
                    rw [h1, h2] at h3
                    exact ⟨h3, by rw [HOK.out]; simp; omega⟩)
                  clear e0 HNC HLC HCV HOK HZR
                  have f0 := RB.out.fr 0
                  have f1 := RB.out.fr 1
                  have d0 := RB.out.c0
                  have d1 := RB.out.c1
                  have PP := hid (RB.out.put (.int .i64 (lo.1 - s - 2)) (lo.2 - s - 2))
                  have p0 := hid PP.out.c0
                  have p1 := hid PP.out.c1
                  go_wp2
                  exact bodyPost_ret (v := .tuple #[.agg #[.int .i64 (lo.1 - s - 2), .int .i64 (lo.2 - s - 2)], .int .i64 (3), .bool true]) (by simp [results, Tryd.results6, go_sem, p0.out, p1.out]) rfl ⟨by rw [HR.out.1.1, HR.out.1.2, HR.out.2], belW HB.out (by omega) _ _⟩
                · have HN1 := hid (show 2 * 2 < LC by omega)
                  clear e0 HNC HLC HCV HOK HZR
                  go_wp2
                  go_roundw
                  case rel => exact ⟨3 + 1, by go_num, by have := HN1.out; show _ ∨ _; omega, RA.out, RH.out, RB.out, HB.out⟩
                  case measure => simp [intOf]
              · have HN1 := hid (show 2 * 2 < LC by omega)
                clear e0 HNC HLC HCV HOK HZR
                go_wp2
                go_roundw
                case rel => exact ⟨3 + 1, by go_num, by have := HN1.out; show _ ∨ _; omega, RA.out, RH.out, RB.out, HB.out⟩
                case measure => simp [intOf]
            · have HN1 := hid (show 2 * 2 < LC by omega)
              clear e0 HNC HLC HCV HOK HZR
              go_wp2
              go_roundw
              case rel => exact ⟨3 + 1, by go_num, by have := HN1.out; show _ ∨ _; omega, RA.out, RH.out, RB.out, HB.out⟩
              case measure => simp [intOf]
          · have x0 := RA.out.c0
            have x1 := RA.out.c1
            have y0 := RH.out.c0
            have y1 := RH.out.c1
            have ba := (Below.refl wr.heap.size wr).alloc (Nat.le_refl _) (.cells #[.int .i64 (lo.1 - s - 4), .int .i64 (lo.2 - s - 4)] 29)
            have RF := hid (WRow.new wr (.int .i64 (lo.1 - s - 4)) (lo.2 - s - 4) 29)
            have z0 := RF.out.c0
            have z1 := RF.out.c1
            replace RA := hid (RA.out.below ba)
            replace RH := hid (RH.out.below ba)
            replace RB := hid (RB.out.below ba)
            replace HB := hid (HB.out.trans (ba.mono HB.out.size))
            have u0 := RA.out.c0
            have u1 := RA.out.c1
            have v0 := RH.out.c0
            have v1 := RH.out.c1
            clear ba
            have e0 : LC = max (hi.1 - lo.1) (hi.2 - lo.2) + 1 + 2 * s := HLC.out
            by_cases c1 : s ≤ 4
            · by_cases c2 : hi.1 + s ≤ lo.1 - s - 4 + 3 * 4 - 1
              · by_cases c3 : hi.2 + s ≤ lo.2 - s - 4 + 3 * 4 - 1
                · have HR := hid (show (sqC l t s = (lo.1 - s - 4, lo.2 - s - 4) ∧ sqV l t s = 4) ∧ sqOk l t s = true by
                    have hf : LC ≤ 2 * 4 := by omega
                    obtain ⟨h1, h2⟩ : sqQ LC = 4 ∧ sqLev LC = 4 := sq_4 (by omega) (by omega)
                    have h3 := HCV.out (by omega)
                    rw [h1, h2] at h3
                    exact ⟨h3, by rw [HOK.out]; simp; omega⟩)
                  clear e0 HNC HLC HCV HOK HZR
                  have f0 := RB.out.fr 0
                  have f1 := RB.out.fr 1
                  have d0 := RB.out.c0
                  have d1 := RB.out.c1
                  have PP := hid (RB.out.put (.int .i64 (lo.1 - s - 4)) (lo.2 - s - 4))
                  have p0 := hid PP.out.c0
                  have p1 := hid PP.out.c1
                  go_wp2
                  exact bodyPost_ret (v := .tuple #[.agg #[.int .i64 (lo.1 - s - 4), .int .i64 (lo.2 - s - 4)], .int .i64 (4), .bool true]) (by simp [results, Tryd.results6, go_sem, p0.out, p1.out]) rfl ⟨by rw [HR.out.1.1, HR.out.1.2, HR.out.2], belW HB.out (by omega) _ _⟩
                · have HN1 := hid (show 2 * 4 < LC by omega)
                  clear e0 HNC HLC HCV HOK HZR
                  go_wp2
                  go_roundw
                  case rel => exact ⟨4 + 1, by go_num, by have := HN1.out; show _ ∨ _; omega, RA.out, RH.out, RB.out, HB.out⟩
                  case measure => simp [intOf]
              · have HN1 := hid (show 2 * 4 < LC by omega)
                clear e0 HNC HLC HCV HOK HZR
                go_wp2
                go_roundw
                case rel => exact ⟨4 + 1, by go_num, by have := HN1.out; show _ ∨ _; omega, RA.out, RH.out, RB.out, HB.out⟩
                case measure => simp [intOf]
            · have HN1 := hid (show 2 * 4 < LC by omega)
              clear e0 HNC HLC HCV HOK HZR
              go_wp2
              go_roundw
              case rel => exact ⟨4 + 1, by go_num, by have := HN1.out; show _ ∨ _; omega, RA.out, RH.out, RB.out, HB.out⟩
              case measure => simp [intOf]
          · have x0 := RA.out.c0
            have x1 := RA.out.c1
            have y0 := RH.out.c0
            have y1 := RH.out.c1
            have ba := (Below.refl wr.heap.size wr).alloc (Nat.le_refl _) (.cells #[.int .i64 (lo.1 - s - 8), .int .i64 (lo.2 - s - 8)] 29)
            have RF := hid (WRow.new wr (.int .i64 (lo.1 - s - 8)) (lo.2 - s - 8) 29)
            have z0 := RF.out.c0
            have z1 := RF.out.c1
            replace RA := hid (RA.out.below ba)
            replace RH := hid (RH.out.below ba)
            replace RB := hid (RB.out.below ba)
            replace HB := hid (HB.out.trans (ba.mono HB.out.size))
            have u0 := RA.out.c0
            have u1 := RA.out.c1
            have v0 := RH.out.c0
            have v1 := RH.out.c1
            clear ba
            have e0 : LC = max (hi.1 - lo.1) (hi.2 - lo.2) + 1 + 2 * s := HLC.out
            by_cases c1 : s ≤ 8
            · by_cases c2 : hi.1 + s ≤ lo.1 - s - 8 + 3 * 8 - 1
              · by_cases c3 : hi.2 + s ≤ lo.2 - s - 8 + 3 * 8 - 1
                · have HR := hid (show (sqC l t s = (lo.1 - s - 8, lo.2 - s - 8) ∧ sqV l t s = 5) ∧ sqOk l t s = true by
                    have hf : LC ≤ 2 * 8 := by omega
                    obtain ⟨h1, h2⟩ : sqQ LC = 8 ∧ sqLev LC = 5 := sq_5 (by omega) (by omega)
                    have h3 := HCV.out (by omega)
                    rw [h1, h2] at h3
                    exact ⟨h3, by rw [HOK.out]; simp; omega⟩)
                  clear e0 HNC HLC HCV HOK HZR
                  have f0 := RB.out.fr 0
                  have f1 := RB.out.fr 1
                  have d0 := RB.out.c0
                  have d1 := RB.out.c1
                  have PP := hid (RB.out.put (.int .i64 (lo.1 - s - 8)) (lo.2 - s - 8))
                  have p0 := hid PP.out.c0
                  have p1 := hid PP.out.c1
                  go_wp2
                  exact bodyPost_ret (v := .tuple #[.agg #[.int .i64 (lo.1 - s - 8), .int .i64 (lo.2 - s - 8)], .int .i64 (5), .bool true]) (by simp [results, Tryd.results6, go_sem, p0.out, p1.out]) rfl ⟨by rw [HR.out.1.1, HR.out.1.2, HR.out.2], belW HB.out (by omega) _ _⟩
                · have HN1 := hid (show 2 * 8 < LC by omega)
                  clear e0 HNC HLC HCV HOK HZR
                  go_wp2
                  go_roundw
                  case rel => exact ⟨5 + 1, by go_num, by have := HN1.out; show _ ∨ _; omega, RA.out, RH.out, RB.out, HB.out⟩
                  case measure => simp [intOf]
              · have HN1 := hid (show 2 * 8 < LC by omega)
                clear e0 HNC HLC HCV HOK HZR
                go_wp2
                go_roundw
                case rel => exact ⟨5 + 1, by go_num, by have := HN1.out; show _ ∨ _; omega, RA.out, RH.out, RB.out, HB.out⟩
                case measure => simp [intOf]
            · exfalso; omega
          · have HN := hid (HZR.out (by rw [HOK.out]; simp; omega))
            clear HNC HLC HCV HOK HZR
            have f0 := RB.out.fr 0
            have f1 := RB.out.fr 1
            have d0 := RB.out.c0
            have d1 := RB.out.c1
            have PP := hid (RB.out.put (.int .i64 (0)) (0))
            have p0 := hid PP.out.c0
            have p1 := hid PP.out.c1
            go_wp2
            exact bodyPost_ret (v := .tuple #[.agg #[.int .i64 (0), .int .i64 (0)], .int .i64 (0), .bool false]) (by simp [results, Tryd.results6, go_sem, p0.out, p1.out]) rfl ⟨by rw [HN.out.1.1, HN.out.1.2, HN.out.2], belW HB.out (by omega) _ _⟩

end Go.Proofs.YtgppcocfnbalfaaDoor
