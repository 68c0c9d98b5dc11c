/- Texts of this seat, one behind the other: SqI. -/
import Derived.Test.YtgppcocfnbalfaaDoorSqF
import Derived.Test.YtgppcocfnbalfaaDoorMeet
import Derived.ScopeJumps
namespace Go.Proofs.YtgppcocfnbalfaaDoor
open Go.RowKit
set_option linter.unusedVariables false
set_option linter.unusedSimpArgs false
attribute [local go_sem ↓] Go.wp_at_zero Go.wp_at_succ

set_option maxHeartbeats 1000000 in
theorem c_stp (n q : Int) (W : World) (hn : (n = 2 ∧ q = 1) ∨ (n = 3 ∧ q = 2) ∨ (n = 4 ∧ q = 4) ∨ (n = 5 ∧ q = 8)) :
    Calls Tryd.prog 25 #[.int .i64 n] W fun e w' => e = .returned (.tuple #[.int .i64 q, .bool true]) ∧ w' = W := by
  rcases hn with ⟨rfl, rfl⟩ | ⟨rfl, rfl⟩ | ⟨rfl, rfl⟩ | ⟨rfl, rfl⟩
  · go_enter Tryd.func25, Tryd.ntmps25
    go_wp2_with fail
    exact bodyPost_ret (v := .tuple #[.int .i64 1, .bool true]) (by simp [results, Tryd.results25, go_sem]) rfl ⟨rfl, rfl⟩
  · go_enter Tryd.func25, Tryd.ntmps25
    go_wp2_with fail
    exact bodyPost_ret (v := .tuple #[.int .i64 2, .bool true]) (by simp [results, Tryd.results25, go_sem]) rfl ⟨rfl, rfl⟩
  · go_enter Tryd.func25, Tryd.ntmps25
    go_wp2_with fail
    exact bodyPost_ret (v := .tuple #[.int .i64 4, .bool true]) (by simp [results, Tryd.results25, go_sem]) rfl ⟨rfl, rfl⟩
  · go_enter Tryd.func25, Tryd.ntmps25
    go_wp2_with fail
    exact bodyPost_ret (v := .tuple #[.int .i64 8, .bool true]) (by simp [results, Tryd.results25, go_sem]) rfl ⟨rfl, rfl⟩
set_option maxHeartbeats 1000000 in
theorem c_stp6 (W : World) : Calls Tryd.prog 25 #[.int .i64 6] W fun e w' => e = .returned (.tuple #[.int .i64 0, .bool false]) ∧ w' = W := by
  go_enter Tryd.func25, Tryd.ntmps25
  go_wp2_with fail
  exact bodyPost_ret (v := .tuple #[.int .i64 0, .bool false]) (by simp [results, Tryd.results25, go_sem]) rfl ⟨rfl, rfl⟩

set_option maxHeartbeats 8000000 in
set_option maxRecDepth 100000 in
theorem c_iSquareFor (a : Option Addr) (l : List Cl) (ca : Nat) (t s : Int) (w : World) (ha : Seg w a l) (hl : l.length ≤ 1048576) :
    Calls Tryd.prog 5 #[.agg #[.slice a l.length ca, .int .i64 t], .int .i64 s] w fun e w' => e = .returned (.tuple #[.agg #[.int .i64 (sqC l t s).1, .int .i64 (sqC l t s).2], .int .i64 (sqV l t s), .bool (sqOk l t s)]) ∧ Below w.heap.size w w' := by
  have h1 := (Below.refl w.heap.size w).alloc (Nat.le_refl _) (.cells #[.slice a l.length ca, .int .i64 t] 25)
  have h2 := (Below.refl (w.alloc (.cells #[.slice a l.length ca, .int .i64 t] 25)).heap.size (w.alloc (.cells #[.slice a l.length ca, .int .i64 t] 25))).alloc (Nat.le_refl _) (.cells #[.int .i64 0, .int .i64 0] 29)
  have h3 := h1.trans (h2.mono h1.size)
  have RP := hid ((WRow.new w (.slice a l.length ca) t 25).below h2)
  have RB := hid (WRow.new (w.alloc (.cells #[.slice a l.length ca, .int .i64 t] 25)) (.int .i64 0) 0 29)
  rw [show (w.alloc (.cells #[.slice a l.length ca, .int .i64 t] 25)).heap.size = w.heap.size + 1 by simp] at RB
  have HA := hid (ha.below h3)
  have HB := hid h3
  clear ha h1 h2 h3
  have HBX := hid (c_iBoxOf a l ca _ HA.out hl)
  cases hbo : boxOk l
  · have HN := hid (sq_no (l := l) (t := t) (s := s) (by simp [sqOk, sqIn, hbo]))
    rw [hbo] at HBX
    go_enter Tryd.func5, Tryd.ntmps5
    go_wp2
    go_step3
    have x0 := RP.out.c0
    go_wp2_with fail
    refine HBX.out.mono ?_
    rintro e w1 ⟨rfl, b1⟩
    have k1 := (Below.refl w1.heap.size w1).alloc (Nat.le_refl _) (.cells #[.int .i64 (boxLo l).1, .int .i64 (boxLo l).2] 29)
    have k2 := (Below.refl (w1.alloc (.cells #[.int .i64 (boxLo l).1, .int .i64 (boxLo l).2] 29)).heap.size (w1.alloc (.cells #[.int .i64 (boxLo l).1, .int .i64 (boxLo l).2] 29))).alloc (Nat.le_refl _) (.cells #[.int .i64 (boxHi l).1, .int .i64 (boxHi l).2] 29)
    have RA := hid ((WRow.new w1 (.int .i64 (boxLo l).1) (boxLo l).2 29).below k2)
    have RH := hid (WRow.new (w1.alloc (.cells #[.int .i64 (boxLo l).1, .int .i64 (boxLo l).2] 29)) (.int .i64 (boxHi l).1) (boxHi l).2 29)
    rw [show (w1.alloc (.cells #[.int .i64 (boxLo l).1, .int .i64 (boxLo l).2] 29)).heap.size = w1.heap.size + 1 by simp] at RH
    replace RP := hid (((RP.out.below b1).below k1).below k2)
    replace RB := hid (((RB.out.below b1).below k1).below k2)
    replace HA := hid (((HA.out.below b1).below k1).below k2)
    replace HB := hid (((HB.out.trans (b1.mono HB.out.size)).trans (k1.mono (by have := HB.out.size; have := b1.size; omega))).trans (k2.mono (by have := HB.out.size; have := b1.size; have := k1.size; omega)))
    clear b1 k1 k2 x0 HBX
    have x0 := RP.out.c0
    have x1 := RP.out.c1
    have f0 := RB.out.fr 0
    have f1 := RB.out.fr 1
    have d0 := RB.out.c0
    have d1 := RB.out.c1
    have PP := hid (RB.out.put (.int .i64 (0)) (0))
    have p0 := hid PP.out.c0
    have p1 := hid PP.out.c1
    go_wp2
    rw [Exit.noGoto_ret]
    exact bodyPost_ret (v := .tuple #[.agg #[.int .i64 (0), .int .i64 (0)], .int .i64 (0), .bool false]) (by simp [results, Tryd.results5, go_sem, p0.out, p1.out]) rfl ⟨by rw [HN.out.1.1, HN.out.1.2, HN.out.2], belW HB.out (by omega) _ _⟩
  · rw [hbo] at HBX
    cases hg : gw l t
    · have HN := hid (sq_no (l := l) (t := t) (s := s) (by simp [sqOk, sqIn, hg]))
      have HC := hid (fun (W : World) (h : Seg W a l) => c_iGoodWorld' a l ca t false hg W h hl)
      go_enter Tryd.func5, Tryd.ntmps5
      go_wp2
      go_step3
      have x0 := RP.out.c0
      go_wp2_with fail
      refine HBX.out.mono ?_
      rintro e w1 ⟨rfl, b1⟩
      have k1 := (Below.refl w1.heap.size w1).alloc (Nat.le_refl _) (.cells #[.int .i64 (boxLo l).1, .int .i64 (boxLo l).2] 29)
      have k2 := (Below.refl (w1.alloc (.cells #[.int .i64 (boxLo l).1, .int .i64 (boxLo l).2] 29)).heap.size (w1.alloc (.cells #[.int .i64 (boxLo l).1, .int .i64 (boxLo l).2] 29))).alloc (Nat.le_refl _) (.cells #[.int .i64 (boxHi l).1, .int .i64 (boxHi l).2] 29)
      have RA := hid ((WRow.new w1 (.int .i64 (boxLo l).1) (boxLo l).2 29).below k2)
      have RH := hid (WRow.new (w1.alloc (.cells #[.int .i64 (boxLo l).1, .int .i64 (boxLo l).2] 29)) (.int .i64 (boxHi l).1) (boxHi l).2 29)
      rw [show (w1.alloc (.cells #[.int .i64 (boxLo l).1, .int .i64 (boxLo l).2] 29)).heap.size = w1.heap.size + 1 by simp] at RH
      replace RP := hid (((RP.out.below b1).below k1).below k2)
      replace RB := hid (((RB.out.below b1).below k1).below k2)
      replace HA := hid (((HA.out.below b1).below k1).below k2)
      replace HB := hid (((HB.out.trans (b1.mono HB.out.size)).trans (k1.mono (by have := HB.out.size; have := b1.size; omega))).trans (k2.mono (by have := HB.out.size; have := b1.size; have := k1.size; omega)))
      clear b1 k1 k2 x0 HBX
      have x0 := RP.out.c0
      have x1 := RP.out.c1
      go_wp2_with fail
      refine (HC.out _ HA.out).mono ?_
      rintro e w4 ⟨rfl, b4⟩
      replace RB := hid (RB.out.below b4)
      replace HB := hid (HB.out.trans (b4.mono HB.out.size))
      clear b4
      have f0 := RB.out.fr 0
      have f1 := RB.out.fr 1
      have d0 := RB.out.c0
      have d1 := RB.out.c1
      have PP := hid (RB.out.put (.int .i64 (0)) (0))
      have p0 := hid PP.out.c0
      have p1 := hid PP.out.c1
      go_wp2
      rw [Exit.noGoto_ret]
      exact bodyPost_ret (v := .tuple #[.agg #[.int .i64 (0), .int .i64 (0)], .int .i64 (0), .bool false]) (by simp [results, Tryd.results5, go_sem, p0.out, p1.out]) rfl ⟨by rw [HN.out.1.1, HN.out.1.2, HN.out.2], belW HB.out (by omega) _ _⟩
    · have HC := hid (fun (W : World) (h : Seg W a l) => c_iGoodWorld' a l ca t true hg W h hl)
      by_cases s1 : s < 1
      · have HN := hid (sq_no (l := l) (t := t) (s := s) (by simp [sqOk, sqIn, inB]; omega))
        go_enter Tryd.func5, Tryd.ntmps5
        go_wp2
        go_step3
        have x0 := RP.out.c0
        go_wp2_with fail
        refine HBX.out.mono ?_
        rintro e w1 ⟨rfl, b1⟩
        have k1 := (Below.refl w1.heap.size w1).alloc (Nat.le_refl _) (.cells #[.int .i64 (boxLo l).1, .int .i64 (boxLo l).2] 29)
        have k2 := (Below.refl (w1.alloc (.cells #[.int .i64 (boxLo l).1, .int .i64 (boxLo l).2] 29)).heap.size (w1.alloc (.cells #[.int .i64 (boxLo l).1, .int .i64 (boxLo l).2] 29))).alloc (Nat.le_refl _) (.cells #[.int .i64 (boxHi l).1, .int .i64 (boxHi l).2] 29)
        have RA := hid ((WRow.new w1 (.int .i64 (boxLo l).1) (boxLo l).2 29).below k2)
        have RH := hid (WRow.new (w1.alloc (.cells #[.int .i64 (boxLo l).1, .int .i64 (boxLo l).2] 29)) (.int .i64 (boxHi l).1) (boxHi l).2 29)
        rw [show (w1.alloc (.cells #[.int .i64 (boxLo l).1, .int .i64 (boxLo l).2] 29)).heap.size = w1.heap.size + 1 by simp] at RH
        replace RP := hid (((RP.out.below b1).below k1).below k2)
        replace RB := hid (((RB.out.below b1).below k1).below k2)
        replace HA := hid (((HA.out.below b1).below k1).below k2)
        replace HB := hid (((HB.out.trans (b1.mono HB.out.size)).trans (k1.mono (by have := HB.out.size; have := b1.size; omega))).trans (k2.mono (by have := HB.out.size; have := b1.size; have := k1.size; omega)))
        clear b1 k1 k2 x0 HBX
        have x0 := RP.out.c0
        have x1 := RP.out.c1
        go_wp2_with fail
        refine (HC.out _ HA.out).mono ?_
        rintro e w4 ⟨rfl, b4⟩
        replace RB := hid (RB.out.below b4)
        replace HB := hid (HB.out.trans (b4.mono HB.out.size))
        clear b4
        have f0 := RB.out.fr 0
        have f1 := RB.out.fr 1
        have d0 := RB.out.c0
        have d1 := RB.out.c1
        have PP := hid (RB.out.put (.int .i64 (0)) (0))
        have p0 := hid PP.out.c0
        have p1 := hid PP.out.c1
        go_wp2
        rw [Exit.noGoto_ret]
        exact bodyPost_ret (v := .tuple #[.agg #[.int .i64 (0), .int .i64 (0)], .int .i64 (0), .bool false]) (by simp [results, Tryd.results5, go_sem, p0.out, p1.out]) rfl ⟨by rw [HN.out.1.1, HN.out.1.2, HN.out.2], belW HB.out (by omega) _ _⟩
      · by_cases s2 : 8 < s
        · have HN := hid (sq_no (l := l) (t := t) (s := s) (by simp [sqOk, sqIn, inB]; omega))
          go_enter Tryd.func5, Tryd.ntmps5
          go_wp2
          go_step3
          have x0 := RP.out.c0
          go_wp2_with fail
          refine HBX.out.mono ?_
          rintro e w1 ⟨rfl, b1⟩
          have k1 := (Below.refl w1.heap.size w1).alloc (Nat.le_refl _) (.cells #[.int .i64 (boxLo l).1, .int .i64 (boxLo l).2] 29)
          have k2 := (Below.refl (w1.alloc (.cells #[.int .i64 (boxLo l).1, .int .i64 (boxLo l).2] 29)).heap.size (w1.alloc (.cells #[.int .i64 (boxLo l).1, .int .i64 (boxLo l).2] 29))).alloc (Nat.le_refl _) (.cells #[.int .i64 (boxHi l).1, .int .i64 (boxHi l).2] 29)
          have RA := hid ((WRow.new w1 (.int .i64 (boxLo l).1) (boxLo l).2 29).below k2)
          have RH := hid (WRow.new (w1.alloc (.cells #[.int .i64 (boxLo l).1, .int .i64 (boxLo l).2] 29)) (.int .i64 (boxHi l).1) (boxHi l).2 29)
          rw [show (w1.alloc (.cells #[.int .i64 (boxLo l).1, .int .i64 (boxLo l).2] 29)).heap.size = w1.heap.size + 1 by simp] at RH
          replace RP := hid (((RP.out.below b1).below k1).below k2)
          replace RB := hid (((RB.out.below b1).below k1).below k2)
          replace HA := hid (((HA.out.below b1).below k1).below k2)
          replace HB := hid (((HB.out.trans (b1.mono HB.out.size)).trans (k1.mono (by have := HB.out.size; have := b1.size; omega))).trans (k2.mono (by have := HB.out.size; have := b1.size; have := k1.size; omega)))
          clear b1 k1 k2 x0 HBX
          have x0 := RP.out.c0
          have x1 := RP.out.c1
          go_wp2_with fail
          refine (HC.out _ HA.out).mono ?_
          rintro e w4 ⟨rfl, b4⟩
          replace RB := hid (RB.out.below b4)
          replace HB := hid (HB.out.trans (b4.mono HB.out.size))
          clear b4
          have f0 := RB.out.fr 0
          have f1 := RB.out.fr 1
          have d0 := RB.out.c0
          have d1 := RB.out.c1
          have PP := hid (RB.out.put (.int .i64 (0)) (0))
          have p0 := hid PP.out.c0
          have p1 := hid PP.out.c1
          go_wp2
          rw [Exit.noGoto_ret]
          exact bodyPost_ret (v := .tuple #[.agg #[.int .i64 (0), .int .i64 (0)], .int .i64 (0), .bool false]) (by simp [results, Tryd.results5, go_sem, p0.out, p1.out]) rfl ⟨by rw [HN.out.1.1, HN.out.1.2, HN.out.2], belW HB.out (by omega) _ _⟩
        · have hsb : 1 ≤ s ∧ s ≤ 8 := by omega
          have hs : inB 1 8 s = true := by simp [inB]; omega
          obtain ⟨hlo, hhi⟩ := box_reach hbo
          obtain ⟨hle1, hle2⟩ := box_le hbo
          simp only [inR, Bool.and_eq_true, decide_eq_true_eq] at hlo hhi
          have HOK := hid (show sqOk l t s = decide (longC l s ≤ 16) by simp [sqOk, sqIn, hbo, hg, hs])
          have HCV := hid (show longC l s ≤ 16 → sqC l t s = ((boxLo l).1 - s - sqQ (longC l s), (boxLo l).2 - s - sqQ (longC l s)) ∧ sqV l t s = sqLev (longC l s) from fun h => by
            have e : sqOk l t s = true := by rw [HOK.out]; simpa using h
            simp [sqC, sqV, e])
          have HZR := hid (sq_no (l := l) (t := t) (s := s))
          have hLC : longC l s = max ((boxHi l).1 - (boxLo l).1) ((boxHi l).2 - (boxLo l).2) + 1 + 2 * s := rfl
          rw [hLC] at HOK HCV
          have ST := hid (fun (n q : Int) (W : World) (hn : (n = 2 ∧ q = 1) ∨ (n = 3 ∧ q = 2) ∨ (n = 4 ∧ q = 4) ∨ (n = 5 ∧ q = 8)) => c_stp n q W hn)
          have S6 := hid (fun (W : World) => c_stp6 W)
          generalize hlo' : boxLo l = lo at *
          generalize hhi' : boxHi l = hi at *
          clear hLC hs hg hbo hlo' hhi'
          go_enter Tryd.func5, Tryd.ntmps5
          go_wp2
          refine wp_scope_jumps 0 (fun a' wx => ∃ (n : Int) (W1 : Nat), ∃ sl : Nat → Value, a' = Act.mk #[sl 0, .int .i64 s, sl 2, sl 3, .pointer (some ⟨w.heap.size + 1, 0, none⟩), sl 5, sl 6, .pointer (some ⟨W1, 0, none⟩), sl 8, sl 9, .int .i64 (max (hi.1 - lo.1) (hi.2 - lo.2) + 1 + 2 * s), .int .i64 n, sl 12, sl 13, sl 14, sl 15, sl 16, sl 17, sl 18, sl 19, sl 20, sl 21, sl 22, sl 23, sl 24, sl 25, sl 26, sl 27, sl 28, sl 29, sl 30, sl 31, sl 32, sl 33, sl 34, sl 35, sl 36, sl 37, sl 38, sl 39, sl 40, sl 41, sl 42, sl 43, sl 44, sl 45, sl 46, sl 47, sl 48, sl 49, sl 50, sl 51, sl 52, sl 53, sl 54, sl 55, sl 56, sl 57, sl 58, sl 59, sl 60, sl 61, sl 62, sl 63, sl 64, sl 65, sl 66, sl 67, sl 68, sl 69, sl 70, sl 71, sl 72, sl 73, sl 74, sl 75, sl 76, sl 77, sl 78] [] ∧ Hid (n = 3 ∧ 2 < max (hi.1 - lo.1) (hi.2 - lo.2) + 1 + 2 * s ∨ n = 4 ∧ 4 < max (hi.1 - lo.1) (hi.2 - lo.2) + 1 + 2 * s ∨ n = 5 ∧ 8 < max (hi.1 - lo.1) (hi.2 - lo.2) + 1 + 2 * s ∨ n = 6 ∧ 16 < max (hi.1 - lo.1) (hi.2 - lo.2) + 1 + 2 * s) ∧ Hid (WRow wx W1 (.int .i64 lo.1) lo.2 29) ∧ Hid (WRow wx (w.heap.size + 1) (.int .i64 0) 0 29) ∧ Hid (Below w.heap.size w wx)) (fun a' _ => (7 - intOf (a'.tmps.getD 11 undef)).toNat) rfl ?_ ?_
          · have x0 := RP.out.c0
            go_wp2_with fail
            refine HBX.out.mono ?_
            rintro e w1 ⟨rfl, b1⟩
            have k1 := (Below.refl w1.heap.size w1).alloc (Nat.le_refl _) (.cells #[.int .i64 lo.1, .int .i64 lo.2] 29)
            have k2 := (Below.refl (w1.alloc (.cells #[.int .i64 lo.1, .int .i64 lo.2] 29)).heap.size (w1.alloc (.cells #[.int .i64 lo.1, .int .i64 lo.2] 29))).alloc (Nat.le_refl _) (.cells #[.int .i64 hi.1, .int .i64 hi.2] 29)
            have RA := hid ((WRow.new w1 (.int .i64 lo.1) lo.2 29).below k2)
            have RH := hid (WRow.new (w1.alloc (.cells #[.int .i64 lo.1, .int .i64 lo.2] 29)) (.int .i64 hi.1) hi.2 29)
            rw [show (w1.alloc (.cells #[.int .i64 lo.1, .int .i64 lo.2] 29)).heap.size = w1.heap.size + 1 by simp] at RH
            replace RP := hid (((RP.out.below b1).below k1).below k2)
            replace RB := hid (((RB.out.below b1).below k1).below k2)
            replace HA := hid (((HA.out.below b1).below k1).below k2)
            replace HB := hid (((HB.out.trans (b1.mono HB.out.size)).trans (k1.mono (by have := HB.out.size; have := b1.size; omega))).trans (k2.mono (by have := HB.out.size; have := b1.size; have := k1.size; omega)))
            clear b1 k1 k2 x0 HBX
            have x0 := RP.out.c0
            have x1 := RP.out.c1
            go_wp2_with fail
            refine (HC.out _ HA.out).mono ?_
            rintro e w4 ⟨rfl, b4⟩
            replace RB := hid (RB.out.below b4)
            replace RA := hid (RA.out.below b4)
            replace RH := hid (RH.out.below b4)
            replace HB := hid (HB.out.trans (b4.mono HB.out.size))
            clear b4
            have u0 := RA.out.c0
            have u1 := RA.out.c1
            have v0 := RH.out.c0
            have v1 := RH.out.c1
            clear x0 x1 HC RP HA
            go_wp2_with fail
            go_step3
            go_wp2_with fail
            refine (ST.out 2 1 _ (by omega)).mono ?_
            rintro e w5 ⟨rfl, rfl⟩
            by_cases c1 : max (hi.1 - lo.1) (hi.2 - lo.2) + 1 + 2 * s ≤ 2
            · exfalso; omega
            · have HN1 := hid (show 2 < max (hi.1 - lo.1) (hi.2 - lo.2) + 1 + 2 * s by omega)
              go_wp2_with fail
              go_step3
              refine ⟨rfl, 3, w1.heap.size, meet_fun ⟨.inl ⟨rfl, HN1.out⟩, RA.out, RB.out, HB.out⟩ ?_⟩
              all_goals kernel_rfl
          · clear RP RB HA HB HC HBX
            rintro a' wc ⟨n, W1, sl, rfl, HNC, RA, RB, HB⟩
            have u0 := RA.out.c0
            have u1 := RA.out.c1
            rcases HNC.out with ⟨rfl, hn⟩ | ⟨rfl, hn⟩ | ⟨rfl, hn⟩ | ⟨rfl, hn⟩
            · go_wp2_with fail
              refine (ST.out 3 2 _ (by omega)).mono ?_
              rintro e w5 ⟨rfl, rfl⟩
              by_cases c1 : max (hi.1 - lo.1) (hi.2 - lo.2) + 1 + 2 * s ≤ 4
              · have HR := hid (show (sqC l t s = (lo.1 - s - 2, lo.2 - s - 2) ∧ sqV l t s = 3) ∧ sqOk l t s = true by
                  obtain ⟨h1, h2⟩ := sq_3 (n := max (hi.1 - lo.1) (hi.2 - lo.2) + 1 + 2 * s) (by omega) c1
                  have h3 := HCV.out (by omega)
                  rw [h1, h2] at h3
                  exact ⟨h3, by rw [HOK.out]; simp; omega⟩)
                have f0 := RB.out.fr 0
                have f1 := RB.out.fr 1
                have d0 := RB.out.c0
                have d1 := RB.out.c1
                have PP := hid (RB.out.put (.int .i64 (lo.1 - s - 2)) (lo.2 - s - 2))
                have p0 := hid PP.out.c0
                have p1 := hid PP.out.c1
                go_wp2
                simp only [Exit.jump]
                exact bodyPost_ret (v := .tuple #[.agg #[.int .i64 (lo.1 - s - 2), .int .i64 (lo.2 - s - 2)], .int .i64 (3), .bool true]) (by simp [results, Tryd.results5, go_sem, p0.out, p1.out]) rfl ⟨by rw [HR.out.1.1, HR.out.1.2, HR.out.2], belW HB.out (by omega) _ _⟩
              · have HN1 := hid (show 4 < max (hi.1 - lo.1) (hi.2 - lo.2) + 1 + 2 * s by omega)
                go_wp2_with fail
                go_step3
                refine ⟨rfl, ⟨4, W1, meet_fun ⟨.inr (.inl ⟨rfl, HN1.out⟩), RA.out, RB.out, HB.out⟩ ?_⟩, ?_⟩
                · kernel_rfl
                · simp [intOf]
            · go_wp2_with fail
              refine (ST.out 4 4 _ (by omega)).mono ?_
              rintro e w5 ⟨rfl, rfl⟩
              by_cases c1 : max (hi.1 - lo.1) (hi.2 - lo.2) + 1 + 2 * s ≤ 8
              · have HR := hid (show (sqC l t s = (lo.1 - s - 4, lo.2 - s - 4) ∧ sqV l t s = 4) ∧ sqOk l t s = true by
                  obtain ⟨h1, h2⟩ := sq_4 (n := max (hi.1 - lo.1) (hi.2 - lo.2) + 1 + 2 * s) (by omega) c1
                  have h3 := HCV.out (by omega)
                  rw [h1, h2] at h3
                  exact ⟨h3, by rw [HOK.out]; simp; omega⟩)
                have f0 := RB.out.fr 0
                have f1 := RB.out.fr 1
                have d0 := RB.out.c0
                have d1 := RB.out.c1
                have PP := hid (RB.out.put (.int .i64 (lo.1 - s - 4)) (lo.2 - s - 4))
                have p0 := hid PP.out.c0
                have p1 := hid PP.out.c1
                go_wp2
                simp only [Exit.jump]
                exact bodyPost_ret (v := .tuple #[.agg #[.int .i64 (lo.1 - s - 4), .int .i64 (lo.2 - s - 4)], .int .i64 (4), .bool true]) (by simp [results, Tryd.results5, go_sem, p0.out, p1.out]) rfl ⟨by rw [HR.out.1.1, HR.out.1.2, HR.out.2], belW HB.out (by omega) _ _⟩
              · have HN1 := hid (show 8 < max (hi.1 - lo.1) (hi.2 - lo.2) + 1 + 2 * s by omega)
                go_wp2_with fail
                go_step3
                refine ⟨rfl, ⟨5, W1, meet_fun ⟨.inr (.inr (.inl ⟨rfl, HN1.out⟩)), RA.out, RB.out, HB.out⟩ ?_⟩, ?_⟩
                · kernel_rfl
                · simp [intOf]
            · go_wp2_with fail
              refine (ST.out 5 8 _ (by omega)).mono ?_
              rintro e w5 ⟨rfl, rfl⟩
              by_cases c1 : max (hi.1 - lo.1) (hi.2 - lo.2) + 1 + 2 * s ≤ 16
              · have HR := hid (show (sqC l t s = (lo.1 - s - 8, lo.2 - s - 8) ∧ sqV l t s = 5) ∧ sqOk l t s = true by
                  obtain ⟨h1, h2⟩ := sq_5 (n := max (hi.1 - lo.1) (hi.2 - lo.2) + 1 + 2 * s) (by omega) c1
                  have h3 := HCV.out (by omega)
                  rw [h1, h2] at h3
                  exact ⟨h3, by rw [HOK.out]; simp; omega⟩)
                have f0 := RB.out.fr 0
                have f1 := RB.out.fr 1
                have d0 := RB.out.c0
                have d1 := RB.out.c1
                have PP := hid (RB.out.put (.int .i64 (lo.1 - s - 8)) (lo.2 - s - 8))
                have p0 := hid PP.out.c0
                have p1 := hid PP.out.c1
                go_wp2
                simp only [Exit.jump]
                exact bodyPost_ret (v := .tuple #[.agg #[.int .i64 (lo.1 - s - 8), .int .i64 (lo.2 - s - 8)], .int .i64 (5), .bool true]) (by simp [results, Tryd.results5, go_sem, p0.out, p1.out]) rfl ⟨by rw [HR.out.1.1, HR.out.1.2, HR.out.2], belW HB.out (by omega) _ _⟩
              · have HN1 := hid (show 16 < max (hi.1 - lo.1) (hi.2 - lo.2) + 1 + 2 * s by omega)
                go_wp2_with fail
                go_step3
                refine ⟨rfl, ⟨6, W1, meet_fun ⟨.inr (.inr (.inr ⟨rfl, HN1.out⟩)), RA.out, RB.out, HB.out⟩ ?_⟩, ?_⟩
                · kernel_rfl
                · simp [intOf]
            · have HN := hid (HZR.out (by rw [HOK.out]; simp; omega))
              go_wp2_with fail
              refine (S6.out _).mono ?_
              rintro e w5 ⟨rfl, rfl⟩
              have f0 := RB.out.fr 0
              have f1 := RB.out.fr 1
              have d0 := RB.out.c0
              have d1 := RB.out.c1
              have PP := hid (RB.out.put (.int .i64 (0)) (0))
              have p0 := hid PP.out.c0
              have p1 := hid PP.out.c1
              go_wp2
              all_goals simp only [Exit.jump]
              all_goals exact bodyPost_ret (v := .tuple #[.agg #[.int .i64 (0), .int .i64 (0)], .int .i64 (0), .bool false]) (by simp [results, Tryd.results5, go_sem, p0.out, p1.out]) rfl ⟨by rw [HN.out.1.1, HN.out.1.2, HN.out.2], belW HB.out (by omega) _ _⟩

end Go.Proofs.YtgppcocfnbalfaaDoor
