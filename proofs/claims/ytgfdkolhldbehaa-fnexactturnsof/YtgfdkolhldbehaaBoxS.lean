/- Texts of this seat, one behind the other: BoxS. -/
import Derived.Test.YtgfdkolhldbehaaBox
import Derived.StillTailTactics
namespace Go.Proofs.Ytgfdkolhldbehaa
open Go.RowKit
set_option linter.unusedVariables false

theorem c_l1Least' (a b m : Int) (h : (if b < a then b else a) = m) (w : World) : Calls Try.prog 103 #[.int .i64 a, .int .i64 b] w fun e w' => e = .returned (.int .i64 m) ∧ w' = w := by
  rw [← h]; exact c_l1Least a b w
theorem c_l1Most' (a b m : Int) (h : (if a < b then b else a) = m) (w : World) : Calls Try.prog 139 #[.int .i64 a, .int .i64 b] w fun e w' => e = .returned (.int .i64 m) ∧ w' = w := by
  rw [← h]; exact c_l1Most a b w

set_option maxHeartbeats 4000000 in
theorem c_sBox_bad (a : Option Addr) (l : List Cl) (ca : Nat) (w : World) (ha : Seg w a l) (hl : l.length ≤ 1048576) (hg : good l = false) :
    Calls Try.prog 114 #[.slice a l.length ca] w fun e w' => e = .returned (.tuple #[.agg #[.int .i64 (boxLo l).1, .int .i64 (boxLo l).2], .agg #[.int .i64 (boxHi l).1, .int .i64 (boxHi l).2], .bool (boxOk l)]) ∧ Below w.heap.size w w' := by
  have HB0 := hid (((Below.refl w.heap.size w).alloc (Nat.le_refl _) (.cells #[.int .i64 0, .int .i64 0] 36)).alloc (by simp) (.cells #[.int .i64 0, .int .i64 0] 36))
  have HX0 := hid ((BoxAt.new w (0, 0)).alloc (.cells #[.int .i64 0, .int .i64 0] 36))
  have HX1 := hid (BoxAt.new (w.alloc (.cells #[.int .i64 0, .int .i64 0] 36)) (0, 0))
  have hz1 : (w.alloc (.cells #[.int .i64 0, .int .i64 0] 36)).heap.size = w.heap.size + 1 := by simp
  rw [hz1] at HX1
  have HA := hid ha
  clear ha hz1
  have HV : Hid (boxLo l = (0, 0) ∧ boxHi l = (0, 0) ∧ boxOk l = false) := by simp [Hid, boxLo, boxHi, boxOk, hg]
  go_enter Try.func114, Try.ntmps114
  go_wp2_with fail
  refine (c_sGood' a l ca false hg _ (HA.out.below HB0.out) hl).mono ?_
  rintro e w1 ⟨rfl, hb1⟩
  obtain ⟨f1, f2, f3, f4, f5⟩ := HX0.out.below hb1 (by simp; omega)
  obtain ⟨f6, f7, f8, f9, f10⟩ := HX1.out.below hb1 (by simp)
  have HB1 := hid (HB0.out.trans (hb1.mono HB0.out.size))
  clear hb1 HX0 HX1 HB0
  go_wp2
  refine bodyPost_ret (v := .tuple #[.agg #[.int .i64 0, .int .i64 0], .agg #[.int .i64 0, .int .i64 0], .bool false]) (by simp [results, Try.results114, go_sem, f1, f2, f6, f7]) rfl ⟨by rw [HV.out.1, HV.out.2.1, HV.out.2.2], ?_⟩
  exact (((HB1.out.setCell (Nat.le_refl _) _).setCell (Nat.le_refl _) _).setCell (Nat.le_succ _) _).setCell (Nat.le_succ _) _

set_option maxHeartbeats 4000000 in
theorem c_sBox_empty (a : Option Addr) (ca : Nat) (w : World) :
    Calls Try.prog 114 #[.slice a 0 ca] w fun e w' => e = .returned (.tuple #[.agg #[.int .i64 (boxLo []).1, .int .i64 (boxLo []).2], .agg #[.int .i64 (boxHi []).1, .int .i64 (boxHi []).2], .bool (boxOk [])]) ∧ Below w.heap.size w w' := by
  have HB0 := hid (((Below.refl w.heap.size w).alloc (Nat.le_refl _) (.cells #[.int .i64 0, .int .i64 0] 36)).alloc (by simp) (.cells #[.int .i64 0, .int .i64 0] 36))
  have HX0 := hid ((BoxAt.new w (0, 0)).alloc (.cells #[.int .i64 0, .int .i64 0] 36))
  have HX1 := hid (BoxAt.new (w.alloc (.cells #[.int .i64 0, .int .i64 0] 36)) (0, 0))
  have hz1 : (w.alloc (.cells #[.int .i64 0, .int .i64 0] 36)).heap.size = w.heap.size + 1 := by simp
  rw [hz1] at HX1
  have HA : ∀ W : World, Hid (Seg W a []) := fun W i hi => absurd hi (Nat.not_lt_zero _)
  clear hz1
  have HV : Hid (boxLo [] = (0, 0) ∧ boxHi [] = (0, 0) ∧ boxOk [] = false) := ⟨rfl, rfl, rfl⟩
  go_enter Try.func114, Try.ntmps114
  go_wp2_with fail
  refine (c_sGood' a [] ca true rfl _ (HA _).out (by simp)).mono ?_
  rintro e w1 ⟨rfl, hb1⟩
  obtain ⟨f1, f2, f3, f4, f5⟩ := HX0.out.below hb1 (by simp; omega)
  obtain ⟨f6, f7, f8, f9, f10⟩ := HX1.out.below hb1 (by simp)
  have HB1 := hid (HB0.out.trans (hb1.mono HB0.out.size))
  clear hb1 HX0 HX1 HB0
  go_wp2
  refine bodyPost_ret (v := .tuple #[.agg #[.int .i64 0, .int .i64 0], .agg #[.int .i64 0, .int .i64 0], .bool false]) (by simp [results, Try.results114, go_sem, f1, f2, f6, f7]) rfl ⟨by rw [HV.out.1, HV.out.2.1, HV.out.2.2], ?_⟩
  exact (((HB1.out.setCell (Nat.le_refl _) _).setCell (Nat.le_refl _) _).setCell (Nat.le_succ _) _).setCell (Nat.le_succ _) _

set_option maxRecDepth 100000 in
set_option maxHeartbeats 4000000 in
theorem c_sBox_yes (a : Option Addr) (l : List Cl) (ca : Nat) (w : World) (ha : Seg w a l) (hl : l.length ≤ 1048576) (hg : good l = true) (hz : l.length ≠ 0) :
    Calls Try.prog 114 #[.slice a l.length ca] w fun e w' => e = .returned (.tuple #[.agg #[.int .i64 (boxLo l).1, .int .i64 (boxLo l).2], .agg #[.int .i64 (boxHi l).1, .int .i64 (boxHi l).2], .bool (boxOk l)]) ∧ Below w.heap.size w w' := by
  have HB0 := hid (((Below.refl w.heap.size w).alloc (Nat.le_refl _) (.cells #[.int .i64 0, .int .i64 0] 36)).alloc (by simp) (.cells #[.int .i64 0, .int .i64 0] 36))
  have HX0 := hid ((BoxAt.new w (0, 0)).alloc (.cells #[.int .i64 0, .int .i64 0] 36))
  have HX1 := hid (BoxAt.new (w.alloc (.cells #[.int .i64 0, .int .i64 0] 36)) (0, 0))
  have hz1 : (w.alloc (.cells #[.int .i64 0, .int .i64 0] 36)).heap.size = w.heap.size + 1 := by simp
  rw [hz1] at HX1
  have HA := hid ha
  clear ha hz1
  go_enter Try.func114, Try.ntmps114
  go_wp2_with fail
  refine (c_sGood' a l ca true hg _ (HA.out.below HB0.out) hl).mono ?_
  rintro e w1 ⟨rfl, hb1⟩
  have HB1 := hid (HB0.out.trans (hb1.mono HB0.out.size))
  have HF1 := hid (HX0.out.below hb1 (by simp; omega))
  have HF2 := hid (HX1.out.below hb1 (by simp))
  clear hb1 HX0 HX1 HB0
  obtain ⟨b1, o1, rfl, hb1, p1, p2⟩ := HA.out 0 (by omega)
  have g1 := (HB1.out.cell (p := ⟨b1, o1 + 0 * 2, none⟩) hb1).trans p1
  have g2 := (HB1.out.cell (p := ⟨b1, o1 + 0 * 2 + 1, none⟩) hb1).trans p2
  change _ = some (Value.int .i64 (at_ l 0).1) at g1
  change _ = some (Value.int .i64 (at_ l 0).2) at g2
  rw [show o1 + 0 * 2 = o1 by omega] at g1 g2
  have HLO : Hid (loTo l 0 = at_ l 0 ∧ hiTo l 0 = at_ l 0) := ⟨rfl, rfl⟩
  have HV : Hid (boxLo l = loTo l l.length ∧ boxHi l = hiTo l l.length ∧ boxOk l = true) := by simp [Hid, boxLo, boxHi, boxOk, hg, hz]
  generalize at_ l 0 = x at *
  have h0 : (0 : Int) < (l.length : Int) := by omega
  have h0' : 0 < l.length := by omega
  have hbw : b1 < w1.heap.size := Nat.lt_of_lt_of_le hb1 HB1.out.size
  clear p1 p2
  have HBW := hid ((HB1.out.alloc HB1.out.size (.cells #[.int .i64 x.1, .int .i64 x.2] 36)).alloc (by have := HB1.out.size; simp; omega) (.cells #[.int .i64 x.1, .int .i64 x.2] 36))
  have HK0 := hid ((HF1.out.alloc (.cells #[.int .i64 x.1, .int .i64 x.2] 36)).alloc (.cells #[.int .i64 x.1, .int .i64 x.2] 36))
  have HK1 := hid ((HF2.out.alloc (.cells #[.int .i64 x.1, .int .i64 x.2] 36)).alloc (.cells #[.int .i64 x.1, .int .i64 x.2] 36))
  have Hp := hid ((BoxAt.new w1 x).alloc (.cells #[.int .i64 x.1, .int .i64 x.2] 36))
  have Hq := hid (BoxAt.new (w1.alloc (.cells #[.int .i64 x.1, .int .i64 x.2] 36)) x)
  have hzz : (w1.alloc (.cells #[.int .i64 x.1, .int .i64 x.2] 36)).heap.size = w1.heap.size + 1 := by simp
  rw [hzz] at Hq
  have d5 := HF1.out.2.2.2.2
  have d6 := HF2.out.2.2.2.2
  go_wp2
  clear g1 g2 hzz HF1 HF2 HB1 hbw
  have d1 : w1.heap.size ≠ w1.heap.size + 1 := by omega
  have d2 : w1.heap.size + 1 ≠ w1.heap.size := by omega
  have d3 : w.heap.size ≠ w.heap.size + 1 := by omega
  have d4 : w.heap.size + 1 ≠ w.heap.size := by omega
  have c1 : w.heap.size ≠ w1.heap.size := by omega
  have c2 : w.heap.size ≠ w1.heap.size + 1 := by omega
  have c3 : w.heap.size + 1 ≠ w1.heap.size := by omega
  have c4 : w.heap.size + 1 ≠ w1.heap.size + 1 := by omega
  have c5 : w.heap.size ≤ w1.heap.size + 1 := by omega
  have c6 : w.heap.size ≤ w1.heap.size := by omega
  have hzb : ((l.length : Int) == 0) = false := beq_eq_false_iff_ne.2 (by omega)
  simp only [hzb]
  generalize w1.heap.size + 1 = q at *
  generalize w1.heap.size = p at *
  clear d5 d6
  go_loopw [27] (fun i wr => ∃ k : Nat, k ≤ l.length ∧ i = .int .i64 k ∧ BoxAt wr w.heap.size (0, 0) ∧ BoxAt wr (w.heap.size + 1) (0, 0) ∧ BoxAt wr p (loTo l k) ∧ BoxAt wr q (hiTo l k) ∧ Below w.heap.size w wr) (fun i _ => l.length - (intOf i).toNat)
  case atStart => exact ⟨0, Nat.zero_le _, rfl, HK0.out, HK1.out, by rw [HLO.out.1]; exact Hp.out, by rw [HLO.out.2]; exact Hq.out, HBW.out⟩
  case round =>
    clear HK0 HK1 Hp Hq HBW HLO
    obtain ⟨k, hk, rfl, hK0, hK1, hP, hQ, hbel⟩ := hrel
    have HK0 := hid hK0
    have HK1 := hid hK1
    have HP := hid hP
    have HQ := hid hQ
    have HB := hid hbel
    clear hK0 hK1 hP hQ
    by_cases hlt : k < l.length
    · obtain ⟨b2, o2, e2, hb2, p1, p2⟩ := HA.out k hlt
      simp only [Option.some.injEq, Addr.mk.injEq, and_true] at e2
      obtain ⟨rfl, rfl⟩ := e2
      have g1 := (hbel.cell (p := ⟨b1, o1 + k * 2, none⟩) hb2).trans p1
      have g2 := (hbel.cell (p := ⟨b1, o1 + k * 2 + 1, none⟩) hb2).trans p2
      change _ = some (Value.int .i64 (at_ l k).1) at g1
      change _ = some (Value.int .i64 (at_ l k).2) at g2
      have HS := hid (And.intro (loTo_succ hlt) (hiTo_succ hlt))
      generalize at_ l k = y at *
      generalize loTo l k = lo at *
      generalize hiTo l k = hi at *
      clear p1 p2 hbel
      have HK0 := hid (HK0.out.alloc (.cells #[.int .i64 y.1, .int .i64 y.2] 36))
      have HK1 := hid (HK1.out.alloc (.cells #[.int .i64 y.1, .int .i64 y.2] 36))
      have e1 : wr.heap.size ≠ p := by have := HP.out.2.2.2.2; omega
      have e2 : p ≠ wr.heap.size := by have := HP.out.2.2.2.2; omega
      have e3 : wr.heap.size ≠ q := by have := HQ.out.2.2.2.2; omega
      have e4 : q ≠ wr.heap.size := by have := HQ.out.2.2.2.2; omega
      have HP := hid (HP.out.alloc (.cells #[.int .i64 y.1, .int .i64 y.2] 36))
      have HQ := hid (HQ.out.alloc (.cells #[.int .i64 y.1, .int .i64 y.2] 36))
      have HC := hid (BoxAt.new wr y)
      have HB := hid (HB.out.alloc HB.out.size (.cells #[.int .i64 y.1, .int .i64 y.2] 36))
      go_wp2_with fail
      generalize wr.alloc (.cells #[.int .i64 y.1, .int .i64 y.2] 36) = wc at *
      generalize wr.heap.size = bc at *
      clear g1 g2
      obtain ⟨r1, r2, r3, r4, r5⟩ := HP.out
      obtain ⟨s1, s2, s3, s4, s5⟩ := HC.out
      obtain ⟨m1, hm1⟩ : ∃ m : Int, (if y.1 < lo.1 then y.1 else lo.1) = m := ⟨_, rfl⟩
      obtain ⟨m2, hm2⟩ : ∃ m : Int, (if y.2 < lo.2 then y.2 else lo.2) = m := ⟨_, rfl⟩
      obtain ⟨m3, hm3⟩ : ∃ m : Int, (if hi.1 < y.1 then y.1 else hi.1) = m := ⟨_, rfl⟩
      obtain ⟨m4, hm4⟩ : ∃ m : Int, (if hi.2 < y.2 then y.2 else hi.2) = m := ⟨_, rfl⟩
      have M1 := hid hm1
      have M2 := hid hm2
      have M3 := hid hm3
      have M4 := hid hm4
      clear hm1 hm2 hm3 hm4
      refine wp_region_still_tail 11 (by kernel_rfl) (by kernel_rfl) ?_
      simp only [List.take_succ_cons, List.take_zero, List.drop_succ_cons, List.drop_zero]
      iterate 4 still_step
      still_call (c_l1Least' lo.1 y.1 m1 M1.out _)
      iterate 4 still_step
      still_call (c_l1Least' lo.2 y.2 m2 M2.out _)
      still_step
      refine wpStill_nil ?_
      go_wp2_with fail
      have HP := hid ((HP.out.set2 m1 m2).drew)
      have HQ := hid (((HQ.out.other (o := 0) (v := .int .i64 m1) d2).other (o := 1) (v := .int .i64 m2) d2).drew)
      have HC := hid (((HC.out.other (o := 0) (v := .int .i64 m1) e1).other (o := 1) (v := .int .i64 m2) e1).drew)
      have HK0 := hid (((HK0.out.other (o := 0) (v := .int .i64 m1) c1).other (o := 1) (v := .int .i64 m2) c1).drew)
      have HK1 := hid (((HK1.out.other (o := 0) (v := .int .i64 m1) c3).other (o := 1) (v := .int .i64 m2) c3).drew)
      have HB := hid (((HB.out.setCell (p := ⟨p, 0, none⟩) c6 (.int .i64 m1)).setCell (p := ⟨p, 1, none⟩) c6 (.int .i64 m2)).drew)
      clear r1 r2 r3 r4 r5 s1 s2 s3 s4 s5
      generalize ((wc.setCell ⟨p, 0, none⟩ (.int .i64 m1)).setCell ⟨p, 1, none⟩ (.int .i64 m2)).drew = wd at *
      obtain ⟨r1, r2, r3, r4, r5⟩ := HQ.out
      obtain ⟨s1, s2, s3, s4, s5⟩ := HC.out
      refine wp_region_still_tail 11 (by kernel_rfl) (by kernel_rfl) ?_
      simp only [List.take_succ_cons, List.take_zero, List.drop_succ_cons, List.drop_zero]
      iterate 4 still_step
      still_call (c_l1Most' hi.1 y.1 m3 M3.out _)
      iterate 4 still_step
      still_call (c_l1Most' hi.2 y.2 m4 M4.out _)
      still_step
      refine wpStill_nil ?_
      go_wp2
      go_roundw
      case rel => exact ⟨k + 1, by omega, by go_num, (((HK0.out.other c2).other c2).drew), (((HK1.out.other c4).other c4).drew), by rw [HS.out.1]; unfold loC; rw [M1.out, M2.out]; exact ((HP.out.other d1).other d1).drew, by rw [HS.out.2]; unfold hiC; rw [M3.out, M4.out]; exact (HQ.out.set2 _ _).drew, (((HB.out.setCell (p := ⟨q, 0, none⟩) c5 _).setCell (p := ⟨q, 1, none⟩) c5 _).drew)⟩
      case measure => simp [intOf]; omega
    · obtain rfl : k = l.length := by omega
      obtain ⟨r1, r2, r3, r4, r5⟩ := HP.out
      obtain ⟨s1, s2, s3, s4, s5⟩ := HQ.out
      obtain ⟨t1, t2, t3, t4, t5⟩ := HK0.out
      obtain ⟨u1, u2, u3, u4, u5⟩ := HK1.out
      have HBB := hid hbel
      clear hbel
      generalize loTo l l.length = lo at *
      generalize hiTo l l.length = hi at *
      go_wp2
      go_region
      all_goals go_wp2
      all_goals
        refine bodyPost_ret (v := .tuple #[.agg #[.int .i64 lo.1, .int .i64 lo.2], .agg #[.int .i64 hi.1, .int .i64 hi.2], .bool true]) (by simp [results, Try.results114, go_sem, t1, t2, u1, u2]) rfl ⟨by rw [HV.out.1, HV.out.2.1, HV.out.2.2], ?_⟩
        exact ((((HBB.out.setCell (Nat.le_refl _) _).setCell (Nat.le_refl _) _).setCell (Nat.le_succ _) _).setCell (Nat.le_succ _) _).drew

theorem c_sBoxOf (a : Option Addr) (l : List Cl) (ca : Nat) (w : World) (ha : Seg w a l) (hl : l.length ≤ 1048576) :
    Calls Try.prog 114 #[.slice a l.length ca] w fun e w' => e = .returned (.tuple #[.agg #[.int .i64 (boxLo l).1, .int .i64 (boxLo l).2], .agg #[.int .i64 (boxHi l).1, .int .i64 (boxHi l).2], .bool (boxOk l)]) ∧ Below w.heap.size w w' := by
  cases hg : good l
  · exact c_sBox_bad a l ca w ha hl hg
  · by_cases hz : l.length = 0
    · obtain rfl : l = [] := List.eq_nil_of_length_eq_zero hz
      exact c_sBox_empty a ca w
    · exact c_sBox_yes a l ca w ha hl hg hz
end Go.Proofs.Ytgfdkolhldbehaa
