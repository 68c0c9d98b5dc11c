/- What the program's runsText answers. -/
import Derived.Test.YthmjcjcamcdpkaaDoorRunsI
namespace Go.Proofs.YthmjcjcamcdpkaaDoor
open Go.RowKit
set_option linter.unusedVariables false

theorem seg_drop {w : World} {g o : Nat} {l : List Cl} (h : Seg w (some ⟨g, o, none⟩) l) (k : Nat) : Seg w (some ⟨g, o + k * 2, none⟩) (l.drop k) := by
  intro i hi
  rw [List.length_drop] at hi
  obtain ⟨b, o', e, hb, h1, h2⟩ := h (k + i) (by omega)
  simp only [Option.some.injEq, Addr.mk.injEq, and_true] at e
  obtain ⟨rfl, rfl⟩ := e
  rw [at_drop]
  change _ = some (Value.int .i64 (at_ l (k + i)).1) at h1
  change _ = some (Value.int .i64 (at_ l (k + i)).2) at h2
  refine ⟨g, o + k * 2, rfl, hb, ?_, ?_⟩
  · rw [show o + k * 2 + i * 2 = o + (k + i) * 2 by omega, h1]
  · rw [show o + k * 2 + i * 2 + 1 = o + (k + i) * 2 + 1 by omega, h2]
theorem c_wr36 (B b : Nat) (acc : List UInt8) (z : Int) (w : World) (h : BI B b (Lib.byteCells acc) w) (hz0 : 0 ≤ z) (hz : z < 100) (hl : acc.length ≤ 100000) (hBw : B ≤ w.heap.size) :
    Calls Tryd.prog 57 #[.pointer (some ⟨b, 0, none⟩), .int .i64 z, .int .u8 36] w fun e w' => e = .returned (.tuple #[]) ∧ BI B b (Lib.byteCells (acc ++ runB z.toNat 36)) w' ∧ Below B w w' ∧ OK b w w' :=
  c_writeRun B b acc z 36 w h hz0 hz hl hBw
theorem c_wr98 (B b : Nat) (acc : List UInt8) (z : Int) (w : World) (h : BI B b (Lib.byteCells acc) w) (hz0 : 0 ≤ z) (hz : z < 100) (hl : acc.length ≤ 100000) (hBw : B ≤ w.heap.size) :
    Calls Tryd.prog 57 #[.pointer (some ⟨b, 0, none⟩), .int .i64 z, .int .u8 98] w fun e w' => e = .returned (.tuple #[]) ∧ BI B b (Lib.byteCells (acc ++ runB z.toNat 98)) w' ∧ Below B w w' ∧ OK b w w' :=
  c_writeRun B b acc z 98 w h hz0 hz hl hBw
theorem c_wr111 (B b : Nat) (acc : List UInt8) (z : Int) (w : World) (h : BI B b (Lib.byteCells acc) w) (hz0 : 0 ≤ z) (hz : z < 100) (hl : acc.length ≤ 100000) (hBw : B ≤ w.heap.size) :
    Calls Tryd.prog 57 #[.pointer (some ⟨b, 0, none⟩), .int .i64 z, .int .u8 111] w fun e w' => e = .returned (.tuple #[]) ∧ BI B b (Lib.byteCells (acc ++ runB z.toNat 111)) w' ∧ Below B w w' ∧ OK b w w' :=
  c_writeRun B b acc z 111 w h hz0 hz hl hBw

set_option maxHeartbeats 600000 in
set_option maxRecDepth 100000 in
theorem c_runsText (a : Option Addr) (l : List Cl) (ca : Nat) (w : World) (ha : Seg w a l) (hT : TextL l) (hca : l.length ≤ ca) (hcm : ca ≤ maxLen) :
    Calls Tryd.prog 44 #[.slice a l.length ca] w fun e w' => e = .returned (.string ⟨(runs l).toArray⟩) ∧ Below w.heap.size w w' := by
  have hl := hT.len
  have HT := hid hT
  have hcm' : ca ≤ 9223372036854775807 := by unfold maxLen at hcm; omega
  have hcl : (l.length : Int) ≤ (ca : Int) := by omega
  clear hT hcm
  have HB0 : Hid (BI w.heap.size w.heap.size (Lib.byteCells []) ((w.alloc (.cells #[.pointer none, .slice none 0 0] 80)).alloc (.cells #[.int .i64 0, .int .i64 0] 33)) ∧
      ((w.alloc (.cells #[.pointer none, .slice none 0 0] 80)).alloc (.cells #[.int .i64 0, .int .i64 0] 33)).heap[w.heap.size + 1]? = some (.cells #[.int .i64 0, .int .i64 0] 33 (0, 0)) ∧
      Below w.heap.size w ((w.alloc (.cells #[.pointer none, .slice none 0 0] 80)).alloc (.cells #[.int .i64 0, .int .i64 0] 33))) := by
    refine ⟨(Lib.IsBuilderF.of (Lib.fresh_isBuilder 80 5 w)).alloc _, ?_, ((Below.refl _ w).alloc (Nat.le_refl _) _).alloc (by simp) _⟩
    have := heap_alloc_new (w.alloc (.cells #[.pointer none, .slice none 0 0] 80)) (.cells #[.int .i64 0, .int .i64 0] 33)
    simpa using this
  go_enter Tryd.func44, Tryd.ntmps44
  go_wp2
  go_loopw [5] (fun i wr => ∃ (acc : List UInt8) (X Y : Int) (k f : Nat), i = .int .i64 k ∧ k ≤ l.length ∧ l.length ≤ k + f ∧ Hid (acc ++ runsGo l f k X Y = runs l) ∧ Hid (Rch l k X Y) ∧ acc.length ≤ 9 * k ∧
    Hid (BI w.heap.size w.heap.size (Lib.byteCells acc) wr ∧ wr.heap[w.heap.size + 1]? = some (.cells #[.int .i64 X, .int .i64 Y] 33 (0, 0)) ∧ Below w.heap.size w wr)) (fun i _ => l.length - (intOf i).toNat)
  case atStart => exact ⟨[], 0, 0, 0, l.length, rfl, Nat.zero_le _, by omega, (show _ = _ from rfl), (show Rch l 0 0 0 from ⟨Int.le_refl _, Int.le_refl _, fun h => by have := inTTo_at HT.out.inn h; omega⟩), by simp, HB0.out⟩
  case round =>
    clear HB0
    obtain ⟨acc, X, Y, k, f, rfl, hk, hf, hG, hR, hA, hP⟩ := hrel
    by_cases hlt : k < l.length
    · obtain ⟨b1, o1, rfl, hb1, p1, p2⟩ := ha k hlt
      have hbel := hP.out.2.2
      have g1 := (hbel.cell (p := ⟨b1, o1 + k * 2, none⟩) hb1).trans p1
      have g2 := (hbel.cell (p := ⟨b1, o1 + k * 2 + 1, none⟩) hb1).trans p2
      change _ = some (Value.int .i64 (at_ l k).1) at g1
      change _ = some (Value.int .i64 (at_ l k).2) at g2
      have HST := hid (rch_step HT.out hlt hR.out)
      have HBD := hid (sb_bd HT.out hlt)
      have hin := inTTo_at HT.out.inn hlt
      obtain ⟨f, rfl⟩ : ∃ g, f = g + 1 := ⟨f - 1, by omega⟩
      have HGG := hid (show runsGo l (f + 1) k X Y = rowB (at_ l k) Y ++ runB ((at_ l k).1 - xOf (at_ l k) X Y).toNat 98 ++ runB (sb l k) 111 ++ runsGo l f (k + sb l k) ((at_ l k).1 + (sb l k : Int)) (yOf (at_ l k) Y) by simp only [runsGo, if_pos hlt])
      have k0 : (0 : Int) ≤ (k : Int) := by omega
      have k1 : (k : Int) < (l.length : Int) := by omega
      clear p1 p2 hbel
      generalize hc : at_ l k = c at *
      have HCC := hid hc
      clear hc
      obtain ⟨hX0, hY0, hRR⟩ := hR.out
      obtain ⟨hc1, hc2, hc3, hc4⟩ := hin
      clear hRR
      have hsz : w.heap.size + 1 < wr.heap.size := (Array.getElem?_eq_some_iff.1 hP.out.2.1).1
      have R1 : Hid (RT w (wr.alloc (.cells #[.int .i64 c.1, .int .i64 c.2] 33)) wr.heap.size acc X Y c) :=
        ⟨hP.out.1.alloc _, (Lib.alloc_old wr _ _ hsz).trans hP.out.2.1, heap_alloc_new _ _, hP.out.2.2.alloc (by omega) _, hsz⟩
      have m0 : wr.cell? ⟨w.heap.size + 1, 0, none⟩ = some (.int .i64 X) := by rw [Lib.cell_of_heap hP.out.2.1]; rfl
      have m1 : wr.cell? ⟨w.heap.size + 1, 1, none⟩ = some (.int .i64 Y) := by rw [Lib.cell_of_heap hP.out.2.1]; rfl
      by_cases hy : Y < c.2
      · have hyb : c.2 - Y ≤ 30 := by omega
        have HWR := hid (c_wr36 w.heap.size w.heap.size acc (c.2 - Y) _ R1.out.bi (by omega) (by omega) (by omega) R1.out.bel.size)
        go_wp2_with fail
        refine HWR.out.mono ?_
        rintro e w2 ⟨rfl, hbi2, hB2, hK2⟩
        have R2 := hid (R1.out.wrote hbi2 hB2 hK2)
        clear hbi2 hB2 hK2 HWR R1 m0 m1 g1 g2 hsz
        obtain ⟨n0, n1, q0, q1, f0, f1⟩ := R2.out.facts
        generalize wr.heap.size = cb at *
        have R3 := hid ((R2.out.setX 0).setY c.2)
        have f2 := (R2.out.setX 0).facts.2.2.2.2.2
        have n2 := (R2.out.setX 0).facts.2.1
        have hz0 : 0 ≤ c.1 := hc1
        have HLA : Hid ((acc ++ runB (c.2 - Y).toNat 36).length ≤ 9 * k + 3) := by
          show _ ≤ _
          have := runB_len (n := (c.2 - Y).toNat) 36 (by omega)
          simp only [List.length_append]; omega
        have hkc : (k : Int) ≤ (ca : Int) := by omega
        have hkl : (k : Int) ≤ (l.length : Int) := by omega
        have hne : ¬ ca = k := by omega
        go_wp2_with fail
        clear f2 n2
        generalize (w2.setCell ⟨w.heap.size + 1, 0, none⟩ (.int .i64 0)).setCell ⟨w.heap.size + 1, 1, none⟩ (.int .i64 c.2) = W3 at *
        refine (c_sideBySide (some ⟨b1, o1 + k * 2, none⟩) l k (l.length - k) (ca - k) W3 rfl (seg_drop (ha.below R3.out.bel) k) hlt hl ⟨by rw [HCC.out]; exact hc1, by rw [HCC.out]; exact hc2⟩).mono ?_
        rintro e w4 ⟨rfl, hb4⟩
        have R4 := hid (R3.out.below hb4)
        clear hb4 R3 n0 n1 q0 q1 f0 f1
        have HSB := hid (sb_ge l k)
        have HSL := hid (sb_le hlt)
        generalize hnn : sb l k = n at *
        clear hnn
        have hn1 : 1 ≤ n := HSB.out
        have hn31 : c.1 + (n : Int) ≤ 31 := HBD.out
        have HWR := hid (c_wr98 w.heap.size w.heap.size (acc ++ runB (c.2 - Y).toNat 36) (c.1) w4 R4.out.bi hz0 (by omega) (by have := HLA.out; omega) R4.out.bel.size)
        obtain ⟨n0, n1, q0, q1, f0, f1⟩ := R4.out.facts
        go_wp2_with fail
        refine HWR.out.mono ?_
        rintro e w5 ⟨rfl, hbi5, hB5, hK5⟩
        have R5 := hid (R4.out.wrote hbi5 hB5 hK5)
        have HL5 : Hid (((acc ++ runB (c.2 - Y).toNat 36) ++ runB (c.1).toNat 98).length ≤ 100000) := by
          show _ ≤ _
          have := runB_len (n := (c.1).toNat) 98 (by omega)
          have := HLA.out
          rw [List.length_append]; omega
        have HWO := hid (c_wr111 w.heap.size w.heap.size ((acc ++ runB (c.2 - Y).toNat 36) ++ runB (c.1).toNat 98) (n : Int) w5 R5.out.bi (by omega) (by omega) HL5.out R5.out.bel.size)
        clear hbi5 hB5 hK5 n0 n1 q0 q1 f0 f1 HWR R4
        obtain ⟨n0, n1, q0, q1, f0, f1⟩ := R5.out.facts
        go_wp2_with fail
        refine HWO.out.mono ?_
        rintro e w6 ⟨rfl, hbi6, hB6, hK6⟩
        have R6 := hid (R5.out.wrote hbi6 hB6 hK6)
        clear hbi6 hB6 hK6 n0 n1 q0 q1 f0 f1 HWO R5
        obtain ⟨n0, n1, q0, q1, f0, f1⟩ := R6.out.facts
        have R7 := hid (R6.out.setX (c.1 + (n : Int)))
        go_wp2
        go_roundw
        case rel =>
          refine ⟨(acc ++ runB (c.2 - Y).toNat 36) ++ runB (c.1).toNat 98 ++ runB (n : Int).toNat 111, c.1 + (n : Int), c.2, k + n, f, by go_num, HSL.out, by omega, ?_, ?_, ?_, ⟨R7.out.bi, R7.out.nx, R7.out.bel⟩⟩
          · show _ = _
            rw [← hG.out, HGG.out]
            have e1 : rowB c Y = runB (c.2 - Y).toNat 36 := by unfold rowB; first | rw [if_pos (by omega)] | rw [if_neg (by omega)]
            have e2 : xOf c X Y = 0 := by unfold xOf; first | rw [if_pos (by omega)] | rw [if_neg (by omega)]
            have e3 : yOf c Y = c.2 := by unfold yOf; first | rw [if_pos (by omega)] | rw [if_neg (by omega)]
            rw [e1, e2, e3, Int.sub_zero]
            simp only [List.append_assoc, Int.toNat_natCast]
          · have := HST.out.1
            rw [show yOf c Y = c.2 by unfold yOf; first | rw [if_pos (by omega)] | rw [if_neg (by omega)]] at this
            exact this
          · have h1 := runB_len (n := (c.1).toNat) 98 (by omega)
            have h2 := runB_len (n := (n : Int).toNat) 111 (by omega)
            have h3 := runB_len (n := (c.2 - Y).toNat) 36 (by omega)
            simp only [List.length_append]; omega
        case measure => simp [intOf]; omega
      · have hz : 0 ≤ c.1 - X ∧ c.1 - X ≤ 30 := by
          have := HST.out.2.2
          rw [show xOf c X Y = X by unfold xOf; rw [if_neg (by omega)]] at this
          exact this
        obtain ⟨hz0, hz1⟩ := hz
        have hkc : (k : Int) ≤ (ca : Int) := by omega
        have hkl : (k : Int) ≤ (l.length : Int) := by omega
        have hne : ¬ ca = k := by omega
        go_wp2_with fail
        obtain ⟨n0, n1, q0, q1, f0, f1⟩ := R1.out.facts
        have R3 := R1
        clear R1
        generalize wr.alloc (.cells #[.int .i64 c.1, .int .i64 c.2] 33) = W3 at *
        generalize wr.heap.size = cb at *
        clear m0 m1 g1 g2 hsz
        refine (c_sideBySide (some ⟨b1, o1 + k * 2, none⟩) l k (l.length - k) (ca - k) W3 rfl (seg_drop (ha.below R3.out.bel) k) hlt hl ⟨by rw [HCC.out]; exact hc1, by rw [HCC.out]; exact hc2⟩).mono ?_
        rintro e w4 ⟨rfl, hb4⟩
        have R4 := hid (R3.out.below hb4)
        clear hb4 R3 n0 n1 q0 q1 f0 f1
        have HSB := hid (sb_ge l k)
        have HSL := hid (sb_le hlt)
        generalize hnn : sb l k = n at *
        clear hnn
        have hn1 : 1 ≤ n := HSB.out
        have hn31 : c.1 + (n : Int) ≤ 31 := HBD.out
        have HWR := hid (c_wr98 w.heap.size w.heap.size acc (c.1 - X) w4 R4.out.bi hz0 (by omega) (by omega) R4.out.bel.size)
        obtain ⟨n0, n1, q0, q1, f0, f1⟩ := R4.out.facts
        go_wp2_with fail
        refine HWR.out.mono ?_
        rintro e w5 ⟨rfl, hbi5, hB5, hK5⟩
        have R5 := hid (R4.out.wrote hbi5 hB5 hK5)
        have HL5 : Hid ((acc ++ runB (c.1 - X).toNat 98).length ≤ 100000) := by
          show _ ≤ _
          have := runB_len (n := (c.1 - X).toNat) 98 (by omega)
          simp only [List.length_append]; omega
        have HWO := hid (c_wr111 w.heap.size w.heap.size (acc ++ runB (c.1 - X).toNat 98) (n : Int) w5 R5.out.bi (by omega) (by omega) HL5.out R5.out.bel.size)
        clear hbi5 hB5 hK5 n0 n1 q0 q1 f0 f1 HWR R4
        obtain ⟨n0, n1, q0, q1, f0, f1⟩ := R5.out.facts
        go_wp2_with fail
        refine HWO.out.mono ?_
        rintro e w6 ⟨rfl, hbi6, hB6, hK6⟩
        have R6 := hid (R5.out.wrote hbi6 hB6 hK6)
        clear hbi6 hB6 hK6 n0 n1 q0 q1 f0 f1 HWO R5
        obtain ⟨n0, n1, q0, q1, f0, f1⟩ := R6.out.facts
        have R7 := hid (R6.out.setX (c.1 + (n : Int)))
        go_wp2
        go_roundw
        case rel =>
          refine ⟨acc ++ runB (c.1 - X).toNat 98 ++ runB (n : Int).toNat 111, c.1 + (n : Int), Y, k + n, f, by go_num, HSL.out, by omega, ?_, ?_, ?_, ⟨R7.out.bi, R7.out.nx, R7.out.bel⟩⟩
          · show _ = _
            rw [← hG.out, HGG.out]
            have e1 : rowB c Y = [] := by unfold rowB; first | rw [if_pos (by omega)] | rw [if_neg (by omega)]
            have e2 : xOf c X Y = X := by unfold xOf; first | rw [if_pos (by omega)] | rw [if_neg (by omega)]
            have e3 : yOf c Y = Y := by unfold yOf; first | rw [if_pos (by omega)] | rw [if_neg (by omega)]
            rw [e1, e2, e3]
            simp only [List.append_assoc, List.nil_append, Int.toNat_natCast]
          · have := HST.out.1
            rw [show yOf c Y = Y by unfold yOf; first | rw [if_pos (by omega)] | rw [if_neg (by omega)]] at this
            exact this
          · have h1 := runB_len (n := (c.1 - X).toNat) 98 (by omega)
            have h2 := runB_len (n := (n : Int).toNat) 111 (by omega)
            simp only [List.length_append]; omega
        case measure => simp [intOf]; omega
    · obtain rfl : k = l.length := by omega
      have HE : Hid (acc ++ [33] = runs l) := by
        have := hG.out
        rw [runsGo_end hlt] at this
        exact this
      have HC := hid (c_WriteByte w.heap.size w.heap.size (Lib.byteCells acc) 33 wr hP.out.1 (by rw [Lib.byteCells_length]; omega) hP.out.2.2.size)
      have HBL := hid hP.out.2.2
      clear hP
      go_wp2_with fail
      refine HC.out.mono ?_
      rintro e w1 ⟨rfl, hb1, hB1, hK1⟩
      have hb1' : BI w.heap.size w.heap.size (Lib.byteCells (runs l)) w1 := by
        rw [← HE.out, Lib.byteCells_append]
        exact .inr hb1
      have HS := hid (Tryd.Builder_String_any_k w.heap.size w.heap.size (runs l) w1 hb1' (Nat.le_trans HBL.out.size hB1.size))
      have HB1 := hid hB1
      clear hb1 hb1' hB1 hK1
      go_wp2_with fail
      refine HS.out.mono ?_
      rintro e w2 ⟨rfl, hb2, hB2, hK2⟩
      go_wp2
      go_ret
      exact ⟨rfl, (HBL.out.trans HB1.out).trans hB2⟩
end Go.Proofs.YthmjcjcamcdpkaaDoor
