/- Texts of this seat, one behind the other: BoxY. -/
import Derived.Test.YtgfdkolhldbehaaBox
namespace Go.Proofs.Ytgfdkolhldbehaa
open Go.RowKit
set_option linter.unusedVariables false

set_option maxHeartbeats 4000000 in
theorem c_iBox_yes (a : Option Addr) (l : List Cl) (ca : Nat) (w : World) (ha : Seg w a l) (hl : l.length ≤ 1048576) (hg : good l = true) (hz : l.length ≠ 0) :
    Calls Try.prog 118 #[.slice a l.length ca] w fun e w' => e = .returned (.tuple #[.agg #[.int .i64 (boxLo l).1, .int .i64 (boxLo l).2], .agg #[.int .i64 (boxHi l).1, .int .i64 (boxHi l).2], .bool (boxOk l)]) ∧ Below w.heap.size w w' := by
  have HB0 := hid (((Below.refl w.heap.size w).alloc (Nat.le_refl _) (.cells #[.int .i64 0, .int .i64 0] 36)).alloc (by simp) (.cells #[.int .i64 0, .int .i64 0] 36))
  have HX0 := hid ((BoxAt.new w (0, 0)).alloc (.cells #[.int .i64 0, .int .i64 0] 36))
  have HX1 := hid (BoxAt.new (w.alloc (.cells #[.int .i64 0, .int .i64 0] 36)) (0, 0))
  have hz1 : (w.alloc (.cells #[.int .i64 0, .int .i64 0] 36)).heap.size = w.heap.size + 1 := by simp
  rw [hz1] at HX1
  have HA := hid ha
  clear ha hz1
  go_enter Try.func118, Try.ntmps118
  go_wp2_with fail
  refine (c_iGood' a l ca true hg _ (HA.out.below HB0.out) hl).mono ?_
  rintro e w1 ⟨rfl, hb1⟩
  have HB1 := hid (HB0.out.trans (hb1.mono HB0.out.size))
  have HF1 := hid (HX0.out.below hb1 (by simp; omega))
  have HF2 := hid (HX1.out.below hb1 (by simp))
  clear hb1 HX0 HX1 HB0
  obtain ⟨b1, o1, rfl, hb1, p1, p2⟩ := HA.out 0 (by omega)
  have g1 := (HB1.out.cell (p := ⟨b1, o1 + 0 * 2, none⟩) hb1).trans p1
  have g2 := (HB1.out.cell (p := ⟨b1, o1 + 0 * 2 + 1, none⟩) hb1).trans p2
  change _ = some (Value.int .i64 (at_ l 0).1) at g1
  change _ = some (Value.int .i64 (at_ l 0).2) at g2
  rw [show o1 + 0 * 2 = o1 by omega] at g1 g2
  have HLO : Hid (loTo l 0 = at_ l 0 ∧ hiTo l 0 = at_ l 0) := ⟨rfl, rfl⟩
  have HV : Hid (boxLo l = loTo l l.length ∧ boxHi l = hiTo l l.length ∧ boxOk l = true) := by simp [Hid, boxLo, boxHi, boxOk, hg, hz]
  generalize at_ l 0 = x at *
  have h0 : (0 : Int) < (l.length : Int) := by omega
  have h0' : 0 < l.length := by omega
  have hbw : b1 < w1.heap.size := Nat.lt_of_lt_of_le hb1 HB1.out.size
  clear p1 p2
  have HBW := hid (((HB1.out.alloc HB1.out.size (.cells #[.int .i64 x.1, .int .i64 x.2] 36)).alloc (by have := HB1.out.size; simp; omega) (.cells #[.int .i64 x.1, .int .i64 x.2] 36)).drew)
  have HK0 := hid (((HF1.out.alloc (.cells #[.int .i64 x.1, .int .i64 x.2] 36)).alloc (.cells #[.int .i64 x.1, .int .i64 x.2] 36)).drew)
  have HK1 := hid (((HF2.out.alloc (.cells #[.int .i64 x.1, .int .i64 x.2] 36)).alloc (.cells #[.int .i64 x.1, .int .i64 x.2] 36)).drew)
  have Hp := hid (((BoxAt.new w1 x).alloc (.cells #[.int .i64 x.1, .int .i64 x.2] 36)).drew)
  have Hq := hid ((BoxAt.new (w1.alloc (.cells #[.int .i64 x.1, .int .i64 x.2] 36)) x).drew)
  have hzz : (w1.alloc (.cells #[.int .i64 x.1, .int .i64 x.2] 36)).heap.size = w1.heap.size + 1 := by simp
  rw [hzz] at Hq
  have d5 := HF1.out.2.2.2.2
  have d6 := HF2.out.2.2.2.2
  go_wp2
  go_region
  all_goals
    clear g1 g2 hzz HF1 HF2 HB1 hbw
    have d1 : w1.heap.size ≠ w1.heap.size + 1 := by omega
    have d2 : w1.heap.size + 1 ≠ w1.heap.size := by omega
    have d3 : w.heap.size ≠ w.heap.size + 1 := by omega
    have d4 : w.heap.size + 1 ≠ w.heap.size := by omega
    have c1 : w.heap.size ≠ w1.heap.size := by omega
    have c2 : w.heap.size ≠ w1.heap.size + 1 := by omega
    have c3 : w.heap.size + 1 ≠ w1.heap.size := by omega
    have c4 : w.heap.size + 1 ≠ w1.heap.size + 1 := by omega
    have c5 : w.heap.size ≤ w1.heap.size + 1 := by omega
    have c6 : w.heap.size ≤ w1.heap.size := by omega
    generalize w1.heap.size + 1 = q at *
    generalize w1.heap.size = p at *
    clear d5 d6
  · go_wp2_with fail
    go_loopw [27] (fun i wr => ∃ k : Nat, k ≤ l.length ∧ i = .int .i64 k ∧ BoxAt wr w.heap.size (0, 0) ∧ BoxAt wr (w.heap.size + 1) (0, 0) ∧ BoxAt wr p (loTo l k) ∧ BoxAt wr q (hiTo l k) ∧ Below w.heap.size w wr) (fun i _ => l.length - (intOf i).toNat)
    case atStart => exact ⟨0, Nat.zero_le _, rfl, HK0.out, HK1.out, by rw [HLO.out.1]; exact Hp.out, by rw [HLO.out.2]; exact Hq.out, HBW.out⟩
    case round =>
      clear HK0 HK1 Hp Hq HBW HLO
      obtain ⟨k, hk, rfl, hK0, hK1, hP, hQ, hbel⟩ := hrel
      have HK0 := hid hK0
      have HK1 := hid hK1
      have HP := hid hP
      have HQ := hid hQ
      have HB := hid hbel
      clear hK0 hK1 hP hQ
      by_cases hlt : k < l.length
      · obtain ⟨b2, o2, e2, hb2, p1, p2⟩ := HA.out k hlt
        simp only [Option.some.injEq, Addr.mk.injEq, and_true] at e2
        obtain ⟨rfl, rfl⟩ := e2
        have g1 := (hbel.cell (p := ⟨b1, o1 + k * 2, none⟩) hb2).trans p1
        have g2 := (hbel.cell (p := ⟨b1, o1 + k * 2 + 1, none⟩) hb2).trans p2
        change _ = some (Value.int .i64 (at_ l k).1) at g1
        change _ = some (Value.int .i64 (at_ l k).2) at g2
        have hbw : b1 < wr.heap.size := Nat.lt_of_lt_of_le hb2 hbel.size
        have HS := hid (And.intro (loTo_succ hlt) (hiTo_succ hlt))
        generalize at_ l k = y at *
        generalize loTo l k = lo at *
        generalize hiTo l k = hi at *
        clear p1 p2 hbel
        obtain ⟨r1, r2, r3, r4, r5⟩ := HP.out
        obtain ⟨s1, s2, s3, s4, s5⟩ := HQ.out
        go_wp2
        go_roundw
        case rel => exact ⟨k + 1, by omega, by go_num, ((((HK0.out.other c1).other c1).other c2).other c2).alloc _, ((((HK1.out.other c3).other c3).other c4).other c4).alloc _, by rw [HS.out.1]; exact (((HP.out.set2 _ _).other d1).other d1).alloc _, by rw [HS.out.2]; exact (((HQ.out.other d2).other d2).set2 _ _).alloc _, ((((HB.out.setCell c6 _).setCell c6 _).setCell c5 _).setCell c5 _).alloc (by have := HB.out.size; simpa using this) _⟩
        case measure => simp [intOf]; omega
      · obtain rfl : k = l.length := by omega
        obtain ⟨r1, r2, r3, r4, r5⟩ := HP.out
        obtain ⟨s1, s2, s3, s4, s5⟩ := HQ.out
        obtain ⟨t1, t2, t3, t4, t5⟩ := HK0.out
        obtain ⟨u1, u2, u3, u4, u5⟩ := HK1.out
        have HBB := hid hbel
        clear hbel
        generalize loTo l l.length = lo at *
        generalize hiTo l l.length = hi at *
        go_wp2
        go_region
        all_goals go_wp2
        all_goals
          refine bodyPost_ret (v := .tuple #[.agg #[.int .i64 lo.1, .int .i64 lo.2], .agg #[.int .i64 hi.1, .int .i64 hi.2], .bool true]) (by simp [results, Try.results118, go_sem, t1, t2, u1, u2]) rfl ⟨by rw [HV.out.1, HV.out.2.1, HV.out.2.2], ?_⟩
          exact ((((HBB.out.setCell (Nat.le_refl _) _).setCell (Nat.le_refl _) _).setCell (Nat.le_succ _) _).setCell (Nat.le_succ _) _).drew
  · go_wp2_with fail
    go_loopw [27] (fun i wr => ∃ k : Nat, k ≤ l.length ∧ i = .int .i64 k ∧ BoxAt wr w.heap.size (0, 0) ∧ BoxAt wr (w.heap.size + 1) (0, 0) ∧ BoxAt wr q (loTo l k) ∧ BoxAt wr p (hiTo l k) ∧ Below w.heap.size w wr) (fun i _ => l.length - (intOf i).toNat)
    case atStart => exact ⟨0, Nat.zero_le _, rfl, HK0.out, HK1.out, by rw [HLO.out.1]; exact Hq.out, by rw [HLO.out.2]; exact Hp.out, HBW.out⟩
    case round =>
      clear HK0 HK1 Hp Hq HBW HLO
      obtain ⟨k, hk, rfl, hK0, hK1, hP, hQ, hbel⟩ := hrel
      have HK0 := hid hK0
      have HK1 := hid hK1
      have HP := hid hP
      have HQ := hid hQ
      have HB := hid hbel
      clear hK0 hK1 hP hQ
      by_cases hlt : k < l.length
      · obtain ⟨b2, o2, e2, hb2, p1, p2⟩ := HA.out k hlt
        simp only [Option.some.injEq, Addr.mk.injEq, and_true] at e2
        obtain ⟨rfl, rfl⟩ := e2
        have g1 := (hbel.cell (p := ⟨b1, o1 + k * 2, none⟩) hb2).trans p1
        have g2 := (hbel.cell (p := ⟨b1, o1 + k * 2 + 1, none⟩) hb2).trans p2
        change _ = some (Value.int .i64 (at_ l k).1) at g1
        change _ = some (Value.int .i64 (at_ l k).2) at g2
        have hbw : b1 < wr.heap.size := Nat.lt_of_lt_of_le hb2 hbel.size
        have HS := hid (And.intro (loTo_succ hlt) (hiTo_succ hlt))
        generalize at_ l k = y at *
        generalize loTo l k = lo at *
        generalize hiTo l k = hi at *
        clear p1 p2 hbel
        obtain ⟨r1, r2, r3, r4, r5⟩ := HP.out
        obtain ⟨s1, s2, s3, s4, s5⟩ := HQ.out
        go_wp2
        go_roundw
        case rel => exact ⟨k + 1, by omega, by go_num, ((((HK0.out.other c2).other c2).other c1).other c1).alloc _, ((((HK1.out.other c4).other c4).other c3).other c3).alloc _, by rw [HS.out.1]; exact (((HP.out.set2 _ _).other d2).other d2).alloc _, by rw [HS.out.2]; exact (((HQ.out.other d1).other d1).set2 _ _).alloc _, ((((HB.out.setCell c5 _).setCell c5 _).setCell c6 _).setCell c6 _).alloc (by have := HB.out.size; simpa using this) _⟩
        case measure => simp [intOf]; omega
      · obtain rfl : k = l.length := by omega
        obtain ⟨r1, r2, r3, r4, r5⟩ := HP.out
        obtain ⟨s1, s2, s3, s4, s5⟩ := HQ.out
        obtain ⟨t1, t2, t3, t4, t5⟩ := HK0.out
        obtain ⟨u1, u2, u3, u4, u5⟩ := HK1.out
        have HBB := hid hbel
        clear hbel
        generalize loTo l l.length = lo at *
        generalize hiTo l l.length = hi at *
        go_wp2
        go_region
        all_goals go_wp2
        all_goals
          refine bodyPost_ret (v := .tuple #[.agg #[.int .i64 lo.1, .int .i64 lo.2], .agg #[.int .i64 hi.1, .int .i64 hi.2], .bool true]) (by simp [results, Try.results118, go_sem, t1, t2, u1, u2]) rfl ⟨by rw [HV.out.1, HV.out.2.1, HV.out.2.2], ?_⟩
          exact ((((HBB.out.setCell (Nat.le_refl _) _).setCell (Nat.le_refl _) _).setCell (Nat.le_succ _) _).setCell (Nat.le_succ _) _).drew

theorem c_iBoxOf (a : Option Addr) (l : List Cl) (ca : Nat) (w : World) (ha : Seg w a l) (hl : l.length ≤ 1048576) :
    Calls Try.prog 118 #[.slice a l.length ca] w fun e w' => e = .returned (.tuple #[.agg #[.int .i64 (boxLo l).1, .int .i64 (boxLo l).2], .agg #[.int .i64 (boxHi l).1, .int .i64 (boxHi l).2], .bool (boxOk l)]) ∧ Below w.heap.size w w' := by
  cases hg : good l
  · exact c_iBox_bad a l ca w ha hl hg
  · by_cases hz : l.length = 0
    · obtain rfl : l = [] := List.eq_nil_of_length_eq_zero hz
      exact c_iBox_empty a ca w
    · exact c_iBox_yes a l ca w ha hl hg hz
end Go.Proofs.Ytgfdkolhldbehaa
