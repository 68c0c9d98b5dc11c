/- Texts of this seat, one behind the other: SqI, AbP. -/
import Derived.Test.YtnabgfbempkgnaaGreatDoorKn
import Derived.Test.YtnabgfbempkgnaaGreatDoorKl
import Derived.ScopeJumps
import Derived.Test.YtnabgfbempkgnaaGreatDoorKh
import Derived.Test.YtnabgfbempkgnaaGreatDoorKe
namespace Go.Proofs.YtnabgfbempkgnaaGreatDoor
open Go.RowKit
set_option linter.unusedVariables false
set_option linter.unusedSimpArgs false
attribute [local go_sem ↓] Go.wp_at_zero Go.wp_at_succ

set_option maxHeartbeats 1000000 in
theorem c_stp (n q : Int) (W : World) (hn : (n = 2 ∧ q = 1) ∨ (n = 3 ∧ q = 2) ∨ (n = 4 ∧ q = 4) ∨ (n = 5 ∧ q = 8)) :
    Calls Tryz.prog 46 #[.int .i64 n] W fun e w' => e = .returned (.tuple #[.int .i64 q, .bool true]) ∧ w' = W := by
  rcases hn with ⟨rfl, rfl⟩ | ⟨rfl, rfl⟩ | ⟨rfl, rfl⟩ | ⟨rfl, rfl⟩
  · go_enter Tryz.func46, Tryz.ntmps46
    go_wp2_with fail
    exact bodyPost_ret (v := .tuple #[.int .i64 1, .bool true]) (by simp [results, Tryz.results46, go_sem]) rfl ⟨rfl, rfl⟩
  · go_enter Tryz.func46, Tryz.ntmps46
    go_wp2_with fail
    exact bodyPost_ret (v := .tuple #[.int .i64 2, .bool true]) (by simp [results, Tryz.results46, go_sem]) rfl ⟨rfl, rfl⟩
  · go_enter Tryz.func46, Tryz.ntmps46
    go_wp2_with fail
    exact bodyPost_ret (v := .tuple #[.int .i64 4, .bool true]) (by simp [results, Tryz.results46, go_sem]) rfl ⟨rfl, rfl⟩
  · go_enter Tryz.func46, Tryz.ntmps46
    go_wp2_with fail
    exact bodyPost_ret (v := .tuple #[.int .i64 8, .bool true]) (by simp [results, Tryz.results46, go_sem]) rfl ⟨rfl, rfl⟩
set_option maxHeartbeats 1000000 in
theorem c_stp6 (W : World) : Calls Tryz.prog 46 #[.int .i64 6] W fun e w' => e = .returned (.tuple #[.int .i64 0, .bool false]) ∧ w' = W := by
  go_enter Tryz.func46, Tryz.ntmps46
  go_wp2_with fail
  exact bodyPost_ret (v := .tuple #[.int .i64 0, .bool false]) (by simp [results, Tryz.results46, go_sem]) rfl ⟨rfl, rfl⟩

set_option maxHeartbeats 8000000 in
set_option maxRecDepth 100000 in
theorem c_iSquareFor (a : Option Addr) (l : List Cl) (ca : Nat) (t s : Int) (w : World) (ha : Seg w a l) (hl : l.length ≤ 1048576) :
    Calls Tryz.prog 24 #[.agg #[.slice a l.length ca, .int .i64 t], .int .i64 s] w fun e w' => e = .returned (.tuple #[.agg #[.int .i64 (sqC l t s).1, .int .i64 (sqC l t s).2], .int .i64 (sqV l t s), .bool (sqOk l t s)]) ∧ Below w.heap.size w w' := by
  have h1 := (Below.refl w.heap.size w).alloc (Nat.le_refl _) (.cells #[.slice a l.length ca, .int .i64 t] 25)
  have h2 := (Below.refl (w.alloc (.cells #[.slice a l.length ca, .int .i64 t] 25)).heap.size (w.alloc (.cells #[.slice a l.length ca, .int .i64 t] 25))).alloc (Nat.le_refl _) (.cells #[.int .i64 0, .int .i64 0] 51)
  have h3 := h1.trans (h2.mono h1.size)
  have RP := hid ((WRow.new w (.slice a l.length ca) t 25).below h2)
  have RB := hid (WRow.new (w.alloc (.cells #[.slice a l.length ca, .int .i64 t] 25)) (.int .i64 0) 0 51)
  rw [show (w.alloc (.cells #[.slice a l.length ca, .int .i64 t] 25)).heap.size = w.heap.size + 1 by simp] at RB
  have HA := hid (ha.below h3)
  have HB := hid h3
  clear ha h1 h2 h3
  have HBX := hid (c_iBoxOf a l ca _ HA.out hl)
  cases hbo : boxOk l
  · have HN := hid (sq_no (l := l) (t := t) (s := s) (by simp [sqOk, sqIn, hbo]))
    rw [hbo] at HBX
    go_enter Tryz.func24, Tryz.ntmps24
    go_wp2
    go_step3
    have x0 := RP.out.c0
    go_wp2_with fail
    refine HBX.out.mono ?_
    rintro e w1 ⟨rfl, b1⟩
    have k1 := (Below.refl w1.heap.size w1).alloc (Nat.le_refl _) (.cells #[.int .i64 (boxLo l).1, .int .i64 (boxLo l).2] 51)
    have k2 := (Below.refl (w1.alloc (.cells #[.int .i64 (boxLo l).1, .int .i64 (boxLo l).2] 51)).heap.size (w1.alloc (.cells #[.int .i64 (boxLo l).1, .int .i64 (boxLo l).2] 51))).alloc (Nat.le_refl _) (.cells #[.int .i64 (boxHi l).1, .int .i64 (boxHi l).2] 51)
    have RA := hid ((WRow.new w1 (.int .i64 (boxLo l).1) (boxLo l).2 51).below k2)
    have RH := hid (WRow.new (w1.alloc (.cells #[.int .i64 (boxLo l).1, .int .i64 (boxLo l).2] 51)) (.int .i64 (boxHi l).1) (boxHi l).2 51)
    rw [show (w1.alloc (.cells #[.int .i64 (boxLo l).1, .int .i64 (boxLo l).2] 51)).heap.size = w1.heap.size + 1 by simp] at RH
    replace RP := hid (((RP.out.below b1).below k1).below k2)
    replace RB := hid (((RB.out.below b1).below k1).below k2)
    replace HA := hid (((HA.out.below b1).below k1).below k2)
    replace HB := hid (((HB.out.trans (b1.mono HB.out.size)).trans (k1.mono (by have := HB.out.size; have := b1.size; omega))).trans (k2.mono (by have := HB.out.size; have := b1.size; have := k1.size; omega)))
    clear b1 k1 k2 x0 HBX
    have x0 := RP.out.c0
    have x1 := RP.out.c1
    have f0 := RB.out.fr 0
    have f1 := RB.out.fr 1
    have d0 := RB.out.c0
    have d1 := RB.out.c1
    have PP := hid (RB.out.put (.int .i64 (0)) (0))
    have p0 := hid PP.out.c0
    have p1 := hid PP.out.c1
    go_wp2
    rw [Exit.noGoto_ret]
    exact bodyPost_ret (v := .tuple #[.agg #[.int .i64 (0), .int .i64 (0)], .int .i64 (0), .bool false]) (by simp [results, Tryz.results24, go_sem, p0.out, p1.out]) rfl ⟨by rw [HN.out.1.1, HN.out.1.2, HN.out.2], belW HB.out (by omega) _ _⟩
  · rw [hbo] at HBX
    cases hg : gw l t
    · have HN := hid (sq_no (l := l) (t := t) (s := s) (by simp [sqOk, sqIn, hg]))
      have HC := hid (fun (W : World) (h : Seg W a l) => c_iGoodWorld' a l ca t false hg W h hl)
      go_enter Tryz.func24, Tryz.ntmps24
      go_wp2
      go_step3
      have x0 := RP.out.c0
      go_wp2_with fail
      refine HBX.out.mono ?_
      rintro e w1 ⟨rfl, b1⟩
      have k1 := (Below.refl w1.heap.size w1).alloc (Nat.le_refl _) (.cells #[.int .i64 (boxLo l).1, .int .i64 (boxLo l).2] 51)
      have k2 := (Below.refl (w1.alloc (.cells #[.int .i64 (boxLo l).1, .int .i64 (boxLo l).2] 51)).heap.size (w1.alloc (.cells #[.int .i64 (boxLo l).1, .int .i64 (boxLo l).2] 51))).alloc (Nat.le_refl _) (.cells #[.int .i64 (boxHi l).1, .int .i64 (boxHi l).2] 51)
      have RA := hid ((WRow.new w1 (.int .i64 (boxLo l).1) (boxLo l).2 51).below k2)
      have RH := hid (WRow.new (w1.alloc (.cells #[.int .i64 (boxLo l).1, .int .i64 (boxLo l).2] 51)) (.int .i64 (boxHi l).1) (boxHi l).2 51)
      rw [show (w1.alloc (.cells #[.int .i64 (boxLo l).1, .int .i64 (boxLo l).2] 51)).heap.size = w1.heap.size + 1 by simp] at RH
      replace RP := hid (((RP.out.below b1).below k1).below k2)
      replace RB := hid (((RB.out.below b1).below k1).below k2)
      replace HA := hid (((HA.out.below b1).below k1).below k2)
      replace HB := hid (((HB.out.trans (b1.mono HB.out.size)).trans (k1.mono (by have := HB.out.size; have := b1.size; omega))).trans (k2.mono (by have := HB.out.size; have := b1.size; have := k1.size; omega)))
      clear b1 k1 k2 x0 HBX
      have x0 := RP.out.c0
      have x1 := RP.out.c1
      go_wp2_with fail
      refine (HC.out _ HA.out).mono ?_
      rintro e w4 ⟨rfl, b4⟩
      replace RB := hid (RB.out.below b4)
      replace HB := hid (HB.out.trans (b4.mono HB.out.size))
      clear b4
      have f0 := RB.out.fr 0
      have f1 := RB.out.fr 1
      have d0 := RB.out.c0
      have d1 := RB.out.c1
      have PP := hid (RB.out.put (.int .i64 (0)) (0))
      have p0 := hid PP.out.c0
      have p1 := hid PP.out.c1
      go_wp2
      rw [Exit.noGoto_ret]
      exact bodyPost_ret (v := .tuple #[.agg #[.int .i64 (0), .int .i64 (0)], .int .i64 (0), .bool false]) (by simp [results, Tryz.results24, go_sem, p0.out, p1.out]) rfl ⟨by rw [HN.out.1.1, HN.out.1.2, HN.out.2], belW HB.out (by omega) _ _⟩
    · have HC := hid (fun (W : World) (h : Seg W a l) => c_iGoodWorld' a l ca t true hg W h hl)
      by_cases s1 : s < 1
      · have HN := hid (sq_no (l := l) (t := t) (s := s) (by simp [sqOk, sqIn, inB]; omega))
        go_enter Tryz.func24, Tryz.ntmps24
        go_wp2
        go_step3
        have x0 := RP.out.c0
        go_wp2_with fail
        refine HBX.out.mono ?_
        rintro e w1 ⟨rfl, b1⟩
        have k1 := (Below.refl w1.heap.size w1).alloc (Nat.le_refl _) (.cells #[.int .i64 (boxLo l).1, .int .i64 (boxLo l).2] 51)
        have k2 := (Below.refl (w1.alloc (.cells #[.int .i64 (boxLo l).1, .int .i64 (boxLo l).2] 51)).heap.size (w1.alloc (.cells #[.int .i64 (boxLo l).1, .int .i64 (boxLo l).2] 51))).alloc (Nat.le_refl _) (.cells #[.int .i64 (boxHi l).1, .int .i64 (boxHi l).2] 51)
        have RA := hid ((WRow.new w1 (.int .i64 (boxLo l).1) (boxLo l).2 51).below k2)
        have RH := hid (WRow.new (w1.alloc (.cells #[.int .i64 (boxLo l).1, .int .i64 (boxLo l).2] 51)) (.int .i64 (boxHi l).1) (boxHi l).2 51)
        rw [show (w1.alloc (.cells #[.int .i64 (boxLo l).1, .int .i64 (boxLo l).2] 51)).heap.size = w1.heap.size + 1 by simp] at RH
        replace RP := hid (((RP.out.below b1).below k1).below k2)
        replace RB := hid (((RB.out.below b1).below k1).below k2)
        replace HA := hid (((HA.out.below b1).below k1).below k2)
        replace HB := hid (((HB.out.trans (b1.mono HB.out.size)).trans (k1.mono (by have := HB.out.size; have := b1.size; omega))).trans (k2.mono (by have := HB.out.size; have := b1.size; have := k1.size; omega)))
        clear b1 k1 k2 x0 HBX
        have x0 := RP.out.c0
        have x1 := RP.out.c1
        go_wp2_with fail
        refine (HC.out _ HA.out).mono ?_
        rintro e w4 ⟨rfl, b4⟩
        replace RB := hid (RB.out.below b4)
        replace HB := hid (HB.out.trans (b4.mono HB.out.size))
        clear b4
        have f0 := RB.out.fr 0
        have f1 := RB.out.fr 1
        have d0 := RB.out.c0
        have d1 := RB.out.c1
        have PP := hid (RB.out.put (.int .i64 (0)) (0))
        have p0 := hid PP.out.c0
        have p1 := hid PP.out.c1
        go_wp2
        rw [Exit.noGoto_ret]
        exact bodyPost_ret (v := .tuple #[.agg #[.int .i64 (0), .int .i64 (0)], .int .i64 (0), .bool false]) (by simp [results, Tryz.results24, go_sem, p0.out, p1.out]) rfl ⟨by rw [HN.out.1.1, HN.out.1.2, HN.out.2], belW HB.out (by omega) _ _⟩
      · by_cases s2 : 8 < s
        · have HN := hid (sq_no (l := l) (t := t) (s := s) (by simp [sqOk, sqIn, inB]; omega))
          go_enter Tryz.func24, Tryz.ntmps24
          go_wp2
          go_step3
          have x0 := RP.out.c0
          go_wp2_with fail
          refine HBX.out.mono ?_
          rintro e w1 ⟨rfl, b1⟩
          have k1 := (Below.refl w1.heap.size w1).alloc (Nat.le_refl _) (.cells #[.int .i64 (boxLo l).1, .int .i64 (boxLo l).2] 51)
          have k2 := (Below.refl (w1.alloc (.cells #[.int .i64 (boxLo l).1, .int .i64 (boxLo l).2] 51)).heap.size (w1.alloc (.cells #[.int .i64 (boxLo l).1, .int .i64 (boxLo l).2] 51))).alloc (Nat.le_refl _) (.cells #[.int .i64 (boxHi l).1, .int .i64 (boxHi l).2] 51)
          have RA := hid ((WRow.new w1 (.int .i64 (boxLo l).1) (boxLo l).2 51).below k2)
          have RH := hid (WRow.new (w1.alloc (.cells #[.int .i64 (boxLo l).1, .int .i64 (boxLo l).2] 51)) (.int .i64 (boxHi l).1) (boxHi l).2 51)
          rw [show (w1.alloc (.cells #[.int .i64 (boxLo l).1, .int .i64 (boxLo l).2] 51)).heap.size = w1.heap.size + 1 by simp] at RH
          replace RP := hid (((RP.out.below b1).below k1).below k2)
          replace RB := hid (((RB.out.below b1).below k1).below k2)
          replace HA := hid (((HA.out.below b1).below k1).below k2)
          replace HB := hid (((HB.out.trans (b1.mono HB.out.size)).trans (k1.mono (by have := HB.out.size; have := b1.size; omega))).trans (k2.mono (by have := HB.out.size; have := b1.size; have := k1.size; omega)))
          clear b1 k1 k2 x0 HBX
          have x0 := RP.out.c0
          have x1 := RP.out.c1
          go_wp2_with fail
          refine (HC.out _ HA.out).mono ?_
          rintro e w4 ⟨rfl, b4⟩
          replace RB := hid (RB.out.below b4)
          replace HB := hid (HB.out.trans (b4.mono HB.out.size))
          clear b4
          have f0 := RB.out.fr 0
          have f1 := RB.out.fr 1
          have d0 := RB.out.c0
          have d1 := RB.out.c1
          have PP := hid (RB.out.put (.int .i64 (0)) (0))
          have p0 := hid PP.out.c0
          have p1 := hid PP.out.c1
          go_wp2
          rw [Exit.noGoto_ret]
          exact bodyPost_ret (v := .tuple #[.agg #[.int .i64 (0), .int .i64 (0)], .int .i64 (0), .bool false]) (by simp [results, Tryz.results24, go_sem, p0.out, p1.out]) rfl ⟨by rw [HN.out.1.1, HN.out.1.2, HN.out.2], belW HB.out (by omega) _ _⟩
        · have hsb : 1 ≤ s ∧ s ≤ 8 := by omega
          have hs : inB 1 8 s = true := by simp [inB]; omega
          obtain ⟨hlo, hhi⟩ := box_reach hbo
          obtain ⟨hle1, hle2⟩ := box_le hbo
          simp only [inR, Bool.and_eq_true, decide_eq_true_eq] at hlo hhi
          have HOK := hid (show sqOk l t s = decide (longC l s ≤ 16) by simp [sqOk, sqIn, hbo, hg, hs])
          have HCV := hid (show longC l s ≤ 16 → sqC l t s = ((boxLo l).1 - s - sqQ (longC l s), (boxLo l).2 - s - sqQ (longC l s)) ∧ sqV l t s = sqLev (longC l s) from fun h => by
            have e : sqOk l t s = true := by rw [HOK.out]; simpa using h
            simp [sqC, sqV, e])
          have HZR := hid (sq_no (l := l) (t := t) (s := s))
          have hLC : longC l s = max ((boxHi l).1 - (boxLo l).1) ((boxHi l).2 - (boxLo l).2) + 1 + 2 * s := rfl
          rw [hLC] at HOK HCV
          have ST := hid (fun (n q : Int) (W : World) (hn : (n = 2 ∧ q = 1) ∨ (n = 3 ∧ q = 2) ∨ (n = 4 ∧ q = 4) ∨ (n = 5 ∧ q = 8)) => c_stp n q W hn)
          have S6 := hid (fun (W : World) => c_stp6 W)
          generalize hlo' : boxLo l = lo at *
          generalize hhi' : boxHi l = hi at *
          clear hLC hs hg hbo hlo' hhi'
          go_enter Tryz.func24, Tryz.ntmps24
          go_wp2
          refine wp_scope_jumps 0 (fun a' wx => ∃ (n : Int) (W1 : Nat), ∃ sl : Nat → Value, a' = Act.mk #[sl 0, .int .i64 s, sl 2, sl 3, .pointer (some ⟨w.heap.size + 1, 0, none⟩), sl 5, sl 6, .pointer (some ⟨W1, 0, none⟩), sl 8, sl 9, .int .i64 (max (hi.1 - lo.1) (hi.2 - lo.2) + 1 + 2 * s), .int .i64 n, sl 12, sl 13, sl 14, sl 15, sl 16, sl 17, sl 18, sl 19, sl 20, sl 21, sl 22, sl 23, sl 24, sl 25, sl 26, sl 27, sl 28, sl 29, sl 30, sl 31, sl 32, sl 33, sl 34, sl 35, sl 36, sl 37, sl 38, sl 39, sl 40, sl 41, sl 42, sl 43, sl 44, sl 45, sl 46, sl 47, sl 48, sl 49, sl 50, sl 51, sl 52, sl 53, sl 54, sl 55, sl 56, sl 57, sl 58, sl 59, sl 60, sl 61, sl 62, sl 63, sl 64, sl 65, sl 66, sl 67, sl 68, sl 69, sl 70, sl 71, sl 72, sl 73, sl 74, sl 75, sl 76, sl 77, sl 78] [] ∧ Hid (n = 3 ∧ 2 < max (hi.1 - lo.1) (hi.2 - lo.2) + 1 + 2 * s ∨ n = 4 ∧ 4 < max (hi.1 - lo.1) (hi.2 - lo.2) + 1 + 2 * s ∨ n = 5 ∧ 8 < max (hi.1 - lo.1) (hi.2 - lo.2) + 1 + 2 * s ∨ n = 6 ∧ 16 < max (hi.1 - lo.1) (hi.2 - lo.2) + 1 + 2 * s) ∧ Hid (WRow wx W1 (.int .i64 lo.1) lo.2 51) ∧ Hid (WRow wx (w.heap.size + 1) (.int .i64 0) 0 51) ∧ Hid (Below w.heap.size w wx)) (fun a' _ => (7 - intOf (a'.tmps.getD 11 undef)).toNat) rfl ?_ ?_
          · have x0 := RP.out.c0
            go_wp2_with fail
            refine HBX.out.mono ?_
            rintro e w1 ⟨rfl, b1⟩
            have k1 := (Below.refl w1.heap.size w1).alloc (Nat.le_refl _) (.cells #[.int .i64 lo.1, .int .i64 lo.2] 51)
            have k2 := (Below.refl (w1.alloc (.cells #[.int .i64 lo.1, .int .i64 lo.2] 51)).heap.size (w1.alloc (.cells #[.int .i64 lo.1, .int .i64 lo.2] 51))).alloc (Nat.le_refl _) (.cells #[.int .i64 hi.1, .int .i64 hi.2] 51)
            have RA := hid ((WRow.new w1 (.int .i64 lo.1) lo.2 51).below k2)
            have RH := hid (WRow.new (w1.alloc (.cells #[.int .i64 lo.1, .int .i64 lo.2] 51)) (.int .i64 hi.1) hi.2 51)
            rw [show (w1.alloc (.cells #[.int .i64 lo.1, .int .i64 lo.2] 51)).heap.size = w1.heap.size + 1 by simp] at RH
            replace RP := hid (((RP.out.below b1).below k1).below k2)
            replace RB := hid (((RB.out.below b1).below k1).below k2)
            replace HA := hid (((HA.out.below b1).below k1).below k2)
            replace HB := hid (((HB.out.trans (b1.mono HB.out.size)).trans (k1.mono (by have := HB.out.size; have := b1.size; omega))).trans (k2.mono (by have := HB.out.size; have := b1.size; have := k1.size; omega)))
            clear b1 k1 k2 x0 HBX
            have x0 := RP.out.c0
            have x1 := RP.out.c1
            go_wp2_with fail
            refine (HC.out _ HA.out).mono ?_
            rintro e w4 ⟨rfl, b4⟩
            replace RB := hid (RB.out.below b4)
            replace RA := hid (RA.out.below b4)
            replace RH := hid (RH.out.below b4)
            replace HB := hid (HB.out.trans (b4.mono HB.out.size))
            clear b4
            have u0 := RA.out.c0
            have u1 := RA.out.c1
            have v0 := RH.out.c0
            have v1 := RH.out.c1
            clear x0 x1 HC RP HA
            go_wp2_with fail
            go_step3
            go_wp2_with fail
            refine (ST.out 2 1 _ (by omega)).mono ?_
            rintro e w5 ⟨rfl, rfl⟩
            by_cases c1 : max (hi.1 - lo.1) (hi.2 - lo.2) + 1 + 2 * s ≤ 2
            · exfalso; omega
            · have HN1 := hid (show 2 < max (hi.1 - lo.1) (hi.2 - lo.2) + 1 + 2 * s by omega)
              go_wp2_with fail
              go_step3
              refine ⟨rfl, 3, w1.heap.size, meet_fun ⟨.inl ⟨rfl, HN1.out⟩, RA.out, RB.out, HB.out⟩ ?_⟩
              all_goals kernel_rfl
          · clear RP RB HA HB HC HBX
            rintro a' wc ⟨n, W1, sl, rfl, HNC, RA, RB, HB⟩
            have u0 := RA.out.c0
            have u1 := RA.out.c1
            rcases HNC.out with ⟨rfl, hn⟩ | ⟨rfl, hn⟩ | ⟨rfl, hn⟩ | ⟨rfl, hn⟩
            · go_wp2_with fail
              refine (ST.out 3 2 _ (by omega)).mono ?_
              rintro e w5 ⟨rfl, rfl⟩
              by_cases c1 : max (hi.1 - lo.1) (hi.2 - lo.2) + 1 + 2 * s ≤ 4
              · have HR := hid (show (sqC l t s = (lo.1 - s - 2, lo.2 - s - 2) ∧ sqV l t s = 3) ∧ sqOk l t s = true by
                  obtain ⟨h1, h2⟩ := sq_3 (n := max (hi.1 - lo.1) (hi.2 - lo.2) + 1 + 2 * s) (by omega) c1
                  have h3 := HCV.out (by omega)
                  rw [h1, h2] at h3
                  exact ⟨h3, by rw [HOK.out]; simp; omega⟩)
                have f0 := RB.out.fr 0
                have f1 := RB.out.fr 1
                have d0 := RB.out.c0
                have d1 := RB.out.c1
                have PP := hid (RB.out.put (.int .i64 (lo.1 - s - 2)) (lo.2 - s - 2))
                have p0 := hid PP.out.c0
                have p1 := hid PP.out.c1
                go_wp2
                simp only [Exit.jump]
                exact bodyPost_ret (v := .tuple #[.agg #[.int .i64 (lo.1 - s - 2), .int .i64 (lo.2 - s - 2)], .int .i64 (3), .bool true]) (by simp [results, Tryz.results24, go_sem, p0.out, p1.out]) rfl ⟨by rw [HR.out.1.1, HR.out.1.2, HR.out.2], belW HB.out (by omega) _ _⟩
              · have HN1 := hid (show 4 < max (hi.1 - lo.1) (hi.2 - lo.2) + 1 + 2 * s by omega)
                go_wp2_with fail
                go_step3
                refine ⟨rfl, ⟨4, W1, meet_fun ⟨.inr (.inl ⟨rfl, HN1.out⟩), RA.out, RB.out, HB.out⟩ ?_⟩, ?_⟩
                · kernel_rfl
                · simp [intOf]
            · go_wp2_with fail
              refine (ST.out 4 4 _ (by omega)).mono ?_
              rintro e w5 ⟨rfl, rfl⟩
              by_cases c1 : max (hi.1 - lo.1) (hi.2 - lo.2) + 1 + 2 * s ≤ 8
              · have HR := hid (show (sqC l t s = (lo.1 - s - 4, lo.2 - s - 4) ∧ sqV l t s = 4) ∧ sqOk l t s = true by
                  obtain ⟨h1, h2⟩ := sq_4 (n := max (hi.1 - lo.1) (hi.2 - lo.2) + 1 + 2 * s) (by omega) c1
                  have h3 := HCV.out (by omega)
                  rw [h1, h2] at h3
                  exact ⟨h3, by rw [HOK.out]; simp; omega⟩)
                have f0 := RB.out.fr 0
                have f1 := RB.out.fr 1
                have d0 := RB.out.c0
                have d1 := RB.out.c1
                have PP := hid (RB.out.put (.int .i64 (lo.1 - s - 4)) (lo.2 - s - 4))
                have p0 := hid PP.out.c0
                have p1 := hid PP.out.c1
                go_wp2
                simp only [Exit.jump]
                exact bodyPost_ret (v := .tuple #[.agg #[.int .i64 (lo.1 - s - 4), .int .i64 (lo.2 - s - 4)], .int .i64 (4), .bool true]) (by simp [results, Tryz.results24, go_sem, p0.out, p1.out]) rfl ⟨by rw [HR.out.1.1, HR.out.1.2, HR.out.2], belW HB.out (by omega) _ _⟩
              · have HN1 := hid (show 8 < max (hi.1 - lo.1) (hi.2 - lo.2) + 1 + 2 * s by omega)
                go_wp2_with fail
                go_step3
                refine ⟨rfl, ⟨5, W1, meet_fun ⟨.inr (.inr (.inl ⟨rfl, HN1.out⟩)), RA.out, RB.out, HB.out⟩ ?_⟩, ?_⟩
                · kernel_rfl
                · simp [intOf]
            · go_wp2_with fail
              refine (ST.out 5 8 _ (by omega)).mono ?_
              rintro e w5 ⟨rfl, rfl⟩
              by_cases c1 : max (hi.1 - lo.1) (hi.2 - lo.2) + 1 + 2 * s ≤ 16
              · have HR := hid (show (sqC l t s = (lo.1 - s - 8, lo.2 - s - 8) ∧ sqV l t s = 5) ∧ sqOk l t s = true by
                  obtain ⟨h1, h2⟩ := sq_5 (n := max (hi.1 - lo.1) (hi.2 - lo.2) + 1 + 2 * s) (by omega) c1
                  have h3 := HCV.out (by omega)
                  rw [h1, h2] at h3
                  exact ⟨h3, by rw [HOK.out]; simp; omega⟩)
                have f0 := RB.out.fr 0
                have f1 := RB.out.fr 1
                have d0 := RB.out.c0
                have d1 := RB.out.c1
                have PP := hid (RB.out.put (.int .i64 (lo.1 - s - 8)) (lo.2 - s - 8))
                have p0 := hid PP.out.c0
                have p1 := hid PP.out.c1
                go_wp2
                simp only [Exit.jump]
                exact bodyPost_ret (v := .tuple #[.agg #[.int .i64 (lo.1 - s - 8), .int .i64 (lo.2 - s - 8)], .int .i64 (5), .bool true]) (by simp [results, Tryz.results24, go_sem, p0.out, p1.out]) rfl ⟨by rw [HR.out.1.1, HR.out.1.2, HR.out.2], belW HB.out (by omega) _ _⟩
              · have HN1 := hid (show 16 < max (hi.1 - lo.1) (hi.2 - lo.2) + 1 + 2 * s by omega)
                go_wp2_with fail
                go_step3
                refine ⟨rfl, ⟨6, W1, meet_fun ⟨.inr (.inr (.inr ⟨rfl, HN1.out⟩)), RA.out, RB.out, HB.out⟩ ?_⟩, ?_⟩
                · kernel_rfl
                · simp [intOf]
            · have HN := hid (HZR.out (by rw [HOK.out]; simp; omega))
              go_wp2_with fail
              refine (S6.out _).mono ?_
              rintro e w5 ⟨rfl, rfl⟩
              have f0 := RB.out.fr 0
              have f1 := RB.out.fr 1
              have d0 := RB.out.c0
              have d1 := RB.out.c1
              have PP := hid (RB.out.put (.int .i64 (0)) (0))
              have p0 := hid PP.out.c0
              have p1 := hid PP.out.c1
              go_wp2
              all_goals simp only [Exit.jump]
              all_goals exact bodyPost_ret (v := .tuple #[.agg #[.int .i64 (0), .int .i64 (0)], .int .i64 (0), .bool false]) (by simp [results, Tryz.results24, go_sem, p0.out, p1.out]) rfl ⟨by rw [HN.out.1.1, HN.out.1.2, HN.out.2], belW HB.out (by omega) _ _⟩

end Go.Proofs.YtnabgfbempkgnaaGreatDoor

namespace Go.Proofs.YtnabgfbempkgnaaGreatDoor
open Go.RowKit
set_option linter.unusedVariables false

theorem two_good : goodF two = true := by decide
theorem two_grow : Grows two := good_grows two_good
/-- A tree has few quads. -/
theorem tree_few (L : List Cl) : ∀ (n : Nat) (x y : Int) (F : List Qd), 3 * (treeL L n x y F).1.length + 1 ≤ 3 * F.length + 4 ^ n
  | 0, x, y, F => by simp [treeL]
  | n + 1, x, y, F => by
    have h0 := tree_few L n x y F
    have h1 := tree_few L n (x + 2 ^ n) y (treeL L n x y F).1
    have h2 := tree_few L n x (y + 2 ^ n) (treeL L n (x + 2 ^ n) y (treeL L n x y F).1).1
    have h3 := tree_few L n (x + 2 ^ n) (y + 2 ^ n) (treeL L n x (y + 2 ^ n) (treeL L n (x + 2 ^ n) y (treeL L n x y F).1).1).1
    have hj := fun l => (joinF_len (treeL L n (x + 2 ^ n) (y + 2 ^ n) (treeL L n x (y + 2 ^ n) (treeL L n (x + 2 ^ n) y (treeL L n x y F).1).1).1).1 l).2
    rw [Nat.pow_succ]
    simp only [treeL]
    refine Nat.le_trans (Nat.add_le_add_right (Nat.mul_le_mul_left 3 (hj _)) 1) ?_
    omega
def abN (l : List Cl) (t s : Int) : Nat := (sqV l t s).toNat
def abL0 (l : List Cl) (t s : Int) : List Cl := mv l (-(sqC l t s).1) (-(sqC l t s).2)
def abX (l : List Cl) (t s : Int) : List Qd × Nat := treeL (abL0 l t s) (abN l t s) 0 0 two
noncomputable def abR (l : List Cl) (t s : Int) : List Cl := safV (abX l t s).1 ((abX l t s).2 : Int) s
noncomputable def abM (l : List Cl) (t s : Int) : List Cl := mv (abR l t s) (sqC l t s).1 (sqC l t s).2
noncomputable def abtOk (l : List Cl) (t s : Int) : Bool := sqOk l t s && gw (abM l t s) (t + s)
noncomputable def abtL (l : List Cl) (t s : Int) : List Cl := if abtOk l t s then abM l t s else []
noncomputable def abtT (l : List Cl) (t s : Int) : Int := if abtOk l t s then t + s else 0
theorem abtL_le (l : List Cl) (t s : Int) : (abtL l t s).length ≤ 120 := by
  unfold abtL; split
  · rename_i h
    simp only [abtOk, gw, Bool.and_eq_true] at h
    exact good_le h.2.1
  · simp
theorem fold_lo_mem : ∀ (l : List Cl) (c : Cl), ∀ d ∈ l, (l.foldl loC c).1 ≤ d.1 ∧ (l.foldl loC c).2 ≤ d.2
  | [], c, d, h => by cases h
  | x :: r, c, d, h => by
    simp only [List.foldl_cons]
    rcases List.mem_cons.1 h with rfl | h
    · have := fold_lo_le r (loC c d)
      have e1 : (loC c d).1 ≤ d.1 := by unfold loC; dsimp only; split <;> omega
      have e2 : (loC c d).2 ≤ d.2 := by unfold loC; dsimp only; split <;> omega
      omega
    · exact fold_lo_mem r _ d h
theorem fold_hi_mem : ∀ (l : List Cl) (c : Cl), ∀ d ∈ l, d.1 ≤ (l.foldl hiC c).1 ∧ d.2 ≤ (l.foldl hiC c).2
  | [], c, d, h => by cases h
  | x :: r, c, d, h => by
    simp only [List.foldl_cons]
    rcases List.mem_cons.1 h with rfl | h
    · have := fold_hi_le r (hiC c d)
      have e1 : d.1 ≤ (hiC c d).1 := by unfold hiC; dsimp only; split <;> omega
      have e2 : d.2 ≤ (hiC c d).2 := by unfold hiC; dsimp only; split <;> omega
      omega
    · exact fold_hi_mem r _ d h
theorem box_mem {l : List Cl} (h : boxOk l = true) {c : Cl} (hc : c ∈ l) : (boxLo l).1 ≤ c.1 ∧ (boxLo l).2 ≤ c.2 ∧ c.1 ≤ (boxHi l).1 ∧ c.2 ≤ (boxHi l).2 := by
  have h1 := fold_lo_mem l (at_ l 0) c hc
  have h2 := fold_hi_mem l (at_ l 0) c hc
  simp only [boxLo, boxHi, h, if_true, loTo, hiTo, List.take_length]
  omega
/-- The square that is told. -/
theorem sq_yes {l : List Cl} {t s : Int} (h : sqOk l t s = true) : ∃ n : Nat, 2 ≤ n ∧ n ≤ 5 ∧ sqV l t s = (n : Int) ∧ sqC l t s = ((boxLo l).1 - s - 2 ^ (n - 2), (boxLo l).2 - s - 2 ^ (n - 2)) ∧ longC l s ≤ 2 * 2 ^ (n - 2) ∧ (boxOk l = true ∧ gw l t = true) ∧ (1 ≤ s ∧ s ≤ 8) ∧ (2 : Int) ^ (n - 2) ≤ 8 := by
  have h' := h
  simp only [sqOk, Bool.and_eq_true, decide_eq_true_eq] at h'
  obtain ⟨h1, h2⟩ := sq_in h'.1
  have hs := inB_bd h2
  have hle := box_le h1.1
  have hpos : 0 < longC l s := by unfold longC; omega
  have hC : sqC l t s = ((boxLo l).1 - s - sqQ (longC l s), (boxLo l).2 - s - sqQ (longC l s)) := by simp [sqC, h]
  have hV : sqV l t s = sqLev (longC l s) := by simp [sqV, h]
  by_cases c2 : longC l s ≤ 2
  · obtain ⟨e1, e2⟩ := sq_2 hpos c2
    exact ⟨2, by omega, by omega, by rw [hV, e2]; rfl, by rw [hC, e1]; rfl, by simpa using c2, h1, hs, by decide⟩
  · by_cases c3 : longC l s ≤ 4
    · obtain ⟨e1, e2⟩ := sq_3 (by omega) c3
      exact ⟨3, by omega, by omega, by rw [hV, e2]; rfl, by rw [hC, e1]; rfl, by simpa using c3, h1, hs, by decide⟩
    · by_cases c4 : longC l s ≤ 8
      · obtain ⟨e1, e2⟩ := sq_4 (by omega) c4
        exact ⟨4, by omega, by omega, by rw [hV, e2]; rfl, by rw [hC, e1]; rfl, by simpa using c4, h1, hs, by decide⟩
      · obtain ⟨e1, e2⟩ := sq_5 (by omega) h'.2
        exact ⟨5, by omega, by omega, by rw [hV, e2]; rfl, by rw [hC, e1]; rfl, by simpa using h'.2, h1, hs, by decide⟩
theorem good_mk {l : List Cl} (h1 : l.length ≤ 120) (h2 : ∀ c ∈ l, inR c = true) (h3 : risTo l l.length = true) : good l = true := by
  simp only [good, Bool.and_eq_true, decide_eq_true_eq]
  refine ⟨⟨h1, ?_⟩, h3⟩
  simp only [allTo, List.all_eq_true]
  intro i hi
  have hi' := List.mem_range.1 hi
  exact h2 _ (by simp [at_, hi'])
structure AbF (l : List Cl) (t s : Int) (n : Nat) : Prop where
  n2 : 2 ≤ n
  n5 : n ≤ 5
  v : sqV l t s = (n : Int)
  nn : abN l t s = n
  g : gw l t = true
  s1 : 1 ≤ s
  s8 : s ≤ 8
  c1 : -60 ≤ (sqC l t s).1 ∧ (sqC l t s).1 ≤ 60
  c2 : -60 ≤ (sqC l t s).2 ∧ (sqC l t s).2 ≤ 60
  cells : ∀ c ∈ abL0 l t s, 2 ^ (n - 2) + s ≤ c.1 ∧ c.1 < 3 * 2 ^ (n - 2) - s ∧ 2 ^ (n - 2) + s ≤ c.2 ∧ c.2 < 3 * 2 ^ (n - 2) - s
  good0 : good (abL0 l t s) = true
  grows : Grows (abX l t s).1
  goodX : goodF (abX l t s).1 = true
  few : (abX l t s).1.length ≤ 400
  lt : (abX l t s).2 < (abX l t s).1.length
  lev : levN (abX l t s).1 (abX l t s).2 = n
theorem ab_facts {l : List Cl} {t s : Int} (h : sqOk l t s = true) : ∃ n, AbF l t s n := by
  obtain ⟨n, n2, n5, hv, hC, hlong, ⟨hbo, hg⟩, hs, hq⟩ := sq_yes h
  obtain ⟨hlo, hhi⟩ := box_reach hbo
  simp only [inR, Bool.and_eq_true, decide_eq_true_eq] at hlo hhi
  have hq1 : (1 : Int) ≤ 2 ^ (n - 2) := by
    rcases (show n = 2 ∨ n = 3 ∨ n = 4 ∨ n = 5 by omega) with rfl | rfl | rfl | rfl <;> decide
  have hgl : good l = true := by simp only [gw, Bool.and_eq_true] at hg; exact hg.1
  have hnn : abN l t s = n := by unfold abN; rw [hv]; omega
  have hC1 : (sqC l t s).1 = (boxLo l).1 - s - 2 ^ (n - 2) := by rw [hC]
  have hC2 : (sqC l t s).2 = (boxLo l).2 - s - 2 ^ (n - 2) := by rw [hC]
  have hcells : ∀ c ∈ abL0 l t s, 2 ^ (n - 2) + s ≤ c.1 ∧ c.1 < 3 * 2 ^ (n - 2) - s ∧ 2 ^ (n - 2) + s ≤ c.2 ∧ c.2 < 3 * 2 ^ (n - 2) - s := by
    intro c hc
    unfold abL0 at hc
    rw [mv_sh] at hc
    obtain ⟨d, hd, rfl⟩ := List.mem_map.1 hc
    have hb := box_mem hbo hd
    have hl2 := hlong
    unfold longC at hl2
    simp only [sh]
    omega
  have h0 : good (abL0 l t s) = true := by
    refine good_mk (by unfold abL0; rw [mv_length]; exact good_le hgl) (fun c hc => ?_) (by unfold abL0; exact ris_mv _ _ (good_ris hgl))
    have := hcells c hc
    simp only [inR, Bool.and_eq_true, decide_eq_true_eq]
    omega
  have t0 := treeL_tr (abL0 l t s) n 0 0 two n5 two_grow
  have e0 : treeL (abL0 l t s) n 0 0 two = abX l t s := by unfold abX; rw [hnn]
  have f0 := tree_few (abL0 l t s) n 0 0 two
  have g0 := treeL_fine (abL0 l t s) n 0 0 two n5 two_grow (good_fineF two_good)
  rw [e0] at t0 f0 g0
  have hfew : (abX l t s).1.length ≤ 400 := by
    have h2 : two.length = 2 := rfl
    rcases (show n = 2 ∨ n = 3 ∨ n = 4 ∨ n = 5 by omega) with rfl | rfl | rfl | rfl <;> simp only [h2] at f0 <;> omega
  refine ⟨n, n2, n5, hv, hnn, hg, hs.1, hs.2, by omega, by omega, hcells, h0, t0.grows, g0.good hfew, hfew, t0.lt, ?_⟩
  have := t0.lev
  unfold levN
  omega
theorem ab_safe {l : List Cl} {t s : Int} {n : Nat} (h : AbF l t s n) : ∀ c ∈ abR l t s, 0 ≤ c.1 ∧ c.1 ≤ 31 ∧ 0 ≤ c.2 ∧ c.2 ≤ 31 := by
  intro c hc
  have hp : (2 : Int) ^ n ≤ 32 := by
    have := h.n2; have := h.n5
    rcases (show n = 2 ∨ n = 3 ∨ n = 4 ∨ n = 5 by omega) with rfl | rfl | rfl | rfl <;> decide
  have hs := h.s1
  unfold abR safV at hc
  split at hc
  · unfold safL at hc
    have := (List.mem_filter.1 hc).2
    rw [Int.toNat_natCast, h.lev] at this
    simp only [safB, Bool.and_eq_true] at this
    have b1 := inB_bd this.1
    have b2 := inB_bd this.2
    omega
  · cases hc
theorem ab_in {l : List Cl} {t s : Int} {n : Nat} (h : AbF l t s n) : ∀ i, i < (abR l t s).length → inR (at_ (abR l t s) i) = true := by
  intro i hi
  have := ab_safe h (at_ (abR l t s) i) (by simp [at_, hi])
  simp only [inR, Bool.and_eq_true, decide_eq_true_eq]
  omega
theorem ab_tof {l : List Cl} {t s : Int} {n : Nat} (h : AbF l t s n) : tofF two (n : Int) (abL0 l t s) = (abX l t s).1 ∧ tofQ two (n : Int) (abL0 l t s) = ((abX l t s).2 : Int) ∧ tofB two (n : Int) (abL0 l t s) = true := by
  have hok : tofOK two (n : Int) (abL0 l t s) = true := by
    have := h.n5
    simp [tofOK, two_good, h.good0, inB]
    omega
  have hR : tofR two (n : Int) (abL0 l t s) = abX l t s := by unfold tofR abX; rw [Int.toNat_natCast, h.nn]
  have hf := h.few
  simp [tofF, tofQ, tofB, hok, hR, tellF, tellQ, tellB, hf]

end Go.Proofs.YtnabgfbempkgnaaGreatDoor
