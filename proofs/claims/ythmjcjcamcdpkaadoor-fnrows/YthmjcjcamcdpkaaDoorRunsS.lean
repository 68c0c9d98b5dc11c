/- What the specification's l2Runs answers. -/
import Derived.Test.YthmjcjcamcdpkaaDoorRunsN
namespace Go.Proofs.YthmjcjcamcdpkaaDoor
open Go.RowKit
set_option linter.unusedVariables false

set_option maxHeartbeats 4000000 in
set_option maxRecDepth 100000 in
theorem c_l2Runs (a : Option Addr) (l : List Cl) (ca : Nat) (w : World) (ha : Seg w a l) (hT : TextL l) :
    Calls Tryd.prog 46 #[.slice a l.length ca] w fun e w' => e = .returned (.string ⟨(runs l).toArray⟩) ∧ Below w.heap.size w w' := by
  have hl := hT.len
  have HT := hid hT
  clear hT
  go_enter Tryd.func46, Tryd.ntmps46
  go_wp2
  go_loopw [3, 4, 5, 6] (fun s x y i wr => ∃ (acc : List UInt8) (X Y : Int) (k f : Nat), s = .string ⟨acc.toArray⟩ ∧ x = .int .i64 X ∧ y = .int .i64 Y ∧ i = .int .i64 k ∧ k ≤ l.length ∧ l.length ≤ k + f ∧ Hid (acc ++ runsGo l f k X Y = runs l) ∧ Hid (Rch l k X Y) ∧ acc.length ≤ 9 * k ∧ Below w.heap.size w wr) (fun _ _ _ i _ => l.length - (intOf i).toNat)
  case atStart => exact ⟨[], 0, 0, 0, l.length, rfl, rfl, rfl, rfl, Nat.zero_le _, by omega, (show _ = _ from rfl), (show Rch l 0 0 0 from ⟨Int.le_refl _, Int.le_refl _, fun h => by have := inTTo_at HT.out.inn h; omega⟩), by simp, Below.refl _ _⟩
  case round =>
    obtain ⟨acc, X, Y, k, f, rfl, rfl, rfl, rfl, hk, hf, hG, hR, hA, hbel⟩ := hrel
    by_cases hlt : k < l.length
    · obtain ⟨b1, o1, rfl, hb1, p1, p2⟩ := ha k hlt
      have g1 := (hbel.cell (p := ⟨b1, o1 + k * 2, none⟩) hb1).trans p1
      have g2 := (hbel.cell (p := ⟨b1, o1 + k * 2 + 1, none⟩) hb1).trans p2
      change _ = some (Value.int .i64 (at_ l k).1) at g1
      change _ = some (Value.int .i64 (at_ l k).2) at g2
      have HST := hid (rch_step HT.out hlt hR.out)
      have HBD := hid (sb_bd HT.out hlt)
      have hin := inTTo_at HT.out.inn hlt
      obtain ⟨f, rfl⟩ : ∃ g, f = g + 1 := ⟨f - 1, by omega⟩
      have HGG := hid (show runsGo l (f + 1) k X Y = rowB (at_ l k) Y ++ runB ((at_ l k).1 - xOf (at_ l k) X Y).toNat 98 ++ runB (sb l k) 111 ++ runsGo l f (k + sb l k) ((at_ l k).1 + (sb l k : Int)) (yOf (at_ l k) Y) by simp only [runsGo, if_pos hlt])
      have k0 : (0 : Int) ≤ (k : Int) := by omega
      have k1 : (k : Int) < (l.length : Int) := by omega
      have HB := hid hbel
      have HS := hid (ha.below hbel)
      clear p1 p2 hbel
      generalize hc : at_ l k = c at *
      have HCC := hid hc
      clear hc
      obtain ⟨hX0, hY0, hRR⟩ := hR.out
      obtain ⟨hc1, hc2, hc3, hc4⟩ := hin
      clear hRR
      by_cases hy : Y < c.2
      · have HBX : Hid (wr.heap.size < (wr.alloc (.cells #[.int .i64 c.1, .int .i64 c.2] 33)).heap.size ∧ (wr.alloc (.cells #[.int .i64 c.1, .int .i64 c.2] 33)).cell? ⟨wr.heap.size, 0, none⟩ = some (.int .i64 c.1) ∧ (wr.alloc (.cells #[.int .i64 c.1, .int .i64 c.2] 33)).cell? ⟨wr.heap.size, 1, none⟩ = some (.int .i64 c.2)) := ⟨by simp, cell_new0 _ _ _ _, cell_new1 _ _ _ _⟩
        have HBW := hid (HB.out.alloc HB.out.size (.cells #[.int .i64 c.1, .int .i64 c.2] 33))
        have HSW := hid (HS.out.below ((Below.refl wr.heap.size wr).alloc (Nat.le_refl _) (.cells #[.int .i64 c.1, .int .i64 c.2] 33)))
        have hyb : c.2 - Y ≤ 30 := by omega
        go_wp2_with fail
        clear g1 g2
        refine (c_l2Run' (c.2 - Y) 36 (by omega) (by omega) _).mono ?_
        rintro e w1 ⟨rfl, hbw1⟩
        have HBX1 : Hid (wr.heap.size < w1.heap.size ∧ w1.cell? ⟨wr.heap.size, 0, none⟩ = some (.int .i64 c.1) ∧ w1.cell? ⟨wr.heap.size, 1, none⟩ = some (.int .i64 c.2)) := ⟨Nat.lt_of_lt_of_le HBX.out.1 hbw1.size, (hbw1.cell (p := ⟨_, 0, none⟩) HBX.out.1).trans HBX.out.2.1, (hbw1.cell (p := ⟨_, 1, none⟩) HBX.out.1).trans HBX.out.2.2⟩
        have HBW1 := hid (HBW.out.trans (hbw1.mono HBW.out.size))
        have HSW1 := hid (HSW.out.below hbw1)
        clear HBX HBW HSW hbw1
        have q1 := HBX1.out.2.2
        have hl3 := runB_len (n := (c.2 - Y).toNat) 36 (by omega)
        have hs3 : ¬ 9223372036854775807 < ByteArray.size (⟨acc.toArray⟩ : Tx) + ByteArray.size (⟨(runB (c.2 - Y).toNat 36).toArray⟩ : Tx) := by rw [txs, txs]; omega
        have HA3 := hid (ByteArray.mk_append_mk acc (runB (c.2 - Y).toNat 36))
        have HL3 : Hid ((acc ++ runB (c.2 - Y).toNat 36).length ≤ 9 * k + 3) := by
          show _ ≤ _
          simp only [List.length_append]; omega
        have HLA : (acc ++ runB (c.2 - Y).toNat 36).length ≤ 1083 := by
          simp only [List.length_append]; omega
        generalize hacc2 : acc ++ runB (c.2 - Y).toNat 36 = acc2 at *
        have HA2 := hid hacc2
        clear hacc2 hl3
        generalize (⟨(runB (c.2 - Y).toNat 36).toArray⟩ : Tx) = sD at *
        generalize (⟨acc.toArray⟩ : Tx) = sE at *
        go_wp2_with fail
        rw [HA3.out]
        clear q1 hs3 HA3
        have HBX := HBX1
        have HBW := HBW1
        have HSW := HSW1
        clear HBX1 HBW1 HSW1
        generalize wr.heap.size = B0 at *
        rename World => W
        have hz0 : 0 ≤ c.1 := hc1
        go_loopw [8] (fun v w2 => ∃ n g : Nat, v = .int .i64 n ∧ 1 ≤ n ∧ k + n ≤ l.length ∧ l.length ≤ k + n + g ∧ Hid (sbGo l k g n = sb l k) ∧ Below W.heap.size W w2) (fun v _ => l.length - (intOf v).toNat)
        case atStart => exact ⟨1, l.length, rfl, by omega, by omega, by omega, (show _ = _ from rfl), Below.refl _ _⟩
        case round =>
          rename World => w2
          obtain ⟨n, g, rfl, hn1, hkn, hgl, hsg, hb2⟩ := hrel
          have gq0 := fun z : Gr w2 => z.cell ((hb2.cell (p := ⟨B0, 0, none⟩) HBX.out.1).trans HBX.out.2.1) (Nat.lt_of_lt_of_le HBX.out.1 hb2.size)
          have gq1 := fun z : Gr w2 => z.cell ((hb2.cell (p := ⟨B0, 1, none⟩) HBX.out.1).trans HBX.out.2.2) (Nat.lt_of_lt_of_le HBX.out.1 hb2.size)
          have kn0 : (0 : Int) ≤ (k : Int) + (n : Int) := by omega
          by_cases hcond : k + n < l.length ∧ at_ l (k + n) = ((at_ l k).1 + (n : Int), (at_ l k).2)
          · obtain ⟨b3, o3, e3, hb3, p1, p2⟩ := HSW.out (k + n) hcond.1
            simp only [Option.some.injEq, Addr.mk.injEq, and_true] at e3
            obtain ⟨rfl, rfl⟩ := e3
            change _ = some (Value.int .i64 (at_ l (k + n)).1) at p1
            change _ = some (Value.int .i64 (at_ l (k + n)).2) at p2
            rw [hcond.2, HCC.out] at p1 p2
            have gd0 := fun z : Gr w2 => z.cell ((hb2.cell (p := ⟨b1, o1 + (k + n) * 2, none⟩) hb3).trans p1) (Nat.lt_of_lt_of_le hb3 hb2.size)
            have gd1 := fun z : Gr w2 => z.cell ((hb2.cell (p := ⟨b1, o1 + (k + n) * 2 + 1, none⟩) hb3).trans p2) (Nat.lt_of_lt_of_le hb3 hb2.size)
            have kn1 : (k : Int) + (n : Int) < (l.length : Int) := by omega
            obtain ⟨g, rfl⟩ : ∃ g', g = g' + 1 := ⟨g - 1, by omega⟩
            have HSN : Hid (sbGo l k g (n + 1) = sb l k) := by
              show _ = _
              rw [← hsg.out]
              exact (by rw [sbGo, if_pos hcond])
            have HB2 := hid hb2
            clear p1 p2 hcond hsg hb2
            go_wp2_with fail
            refine wp_region_gr (by kernel_rfl) (by kernel_rfl) ?_
            repeat (go_big_quiet_step (first | exact rfl))
            refine wpQuiet_nil ?_
            rintro _ ⟨z, rfl⟩
            clear gq0 gq1 gd0 gd1
            go_wp2
            go_roundw
            case rel => exact ⟨n + 1, g, by go_num, by omega, by omega, by omega, HSN.out, HB2.out.trans (z.below.mono HB2.out.size)⟩
            case measure => simp [intOf]; omega
          · have HSN := hid (show n = sb l k by rw [← hsg.out, sbGo_stop l k g n hcond])
            have hsplit : ¬ (k + n < l.length) ∨ (k + n < l.length ∧ ¬ (at_ l (k + n)).2 = c.2) ∨ (k + n < l.length ∧ (at_ l (k + n)).2 = c.2 ∧ ¬ (at_ l (k + n)).1 = c.1 + (n : Int)) := by
              rw [HCC.out] at hcond
              by_cases e1 : k + n < l.length
              · by_cases e2 : (at_ l (k + n)).2 = c.2
                · by_cases e3 : (at_ l (k + n)).1 = c.1 + (n : Int)
                  · exact absurd ⟨e1, Prod.ext e3 e2⟩ hcond
                  · exact .inr (.inr ⟨e1, e2, e3⟩)
                · exact .inr (.inl ⟨e1, e2⟩)
              · exact .inl e1
            have HB2 := hid hb2
            clear hcond hsg
            rcases hsplit with hs1 | hs1
            · have kn1 : decide ((k : Int) + (n : Int) < (l.length : Int)) = false := by simp; omega
              clear hb2 hs1
              go_wp2_with fail
              refine wp_region_gr (by kernel_rfl) (by kernel_rfl) ?_
              repeat (go_big_quiet_step (first | exact rfl))
              refine wpQuiet_nil ?_
              rintro _ ⟨z, rfl⟩
              have q0 := gq0 z
              have q1 := gq1 z
              have HW3 := hid (HBW.out.trans ((HB2.out.trans (z.below.mono HB2.out.size)).mono HBW.out.size))
              have HQB := hid (Nat.lt_of_lt_of_le HBX.out.1 (HB2.out.trans (z.below.mono HB2.out.size)).size)
              clear gq0 gq1
              generalize z.val = W3 at *
              rw [← HSN.out] at HST HBD HGG
              go_wp2_with fail
              refine (c_l2Run' (c.1) 98 hz0 (by omega) _).mono ?_
              rintro e w4 ⟨rfl, hb4⟩
              have r0 := (hb4.cell (p := ⟨B0, 0, none⟩) HQB.out).trans q0
              have HQ4 := hid (Nat.lt_of_lt_of_le HQB.out hb4.size)
              have HW4 := hid (HW3.out.trans (hb4.mono HW3.out.size))
              clear q0 q1 hb4
              go_wp2_with fail
              refine (c_l2Run' (n : Int) 111 (by omega) (by have := HBD.out; omega) _).mono ?_
              rintro e w5 ⟨rfl, hb5⟩
              have r5 := (hb5.cell (p := ⟨B0, 0, none⟩) HQ4.out).trans r0
              have HW5 := hid (HW4.out.trans (hb5.mono HW4.out.size))
              have HAB : Hid ((⟨acc2.toArray⟩ : Tx) ++ (⟨(runB (c.1).toNat 98).toArray⟩ ++ ⟨(runB (n : Int).toNat 111).toArray⟩) = ⟨(acc2 ++ (runB (c.1).toNat 98 ++ runB (n : Int).toNat 111)).toArray⟩) := by
                show _ = _
                rw [ByteArray.mk_append_mk, ByteArray.mk_append_mk]
              have l1 := runB_len (n := (c.1).toNat) 98 (by omega)
              have l2 := runB_len (n := (n : Int).toNat) 111 (by have := HBD.out; omega)
              have z0 := txs acc2
              have z1 := txs (runB (c.1).toNat 98)
              have z2 := txs (runB (n : Int).toNat 111)
              have HL1 := hid l1
              have HL2 := hid l2
              have hs1 : ¬ 9223372036854775807 < ByteArray.size (⟨(runB (c.1).toNat 98).toArray⟩ : Tx) + ByteArray.size (⟨(runB (n : Int).toNat 111).toArray⟩ : Tx) := by rw [z1, z2]; omega
              have hs2 : ¬ 9223372036854775807 < ByteArray.size (⟨acc2.toArray⟩ : Tx) + (ByteArray.size (⟨(runB (c.1).toNat 98).toArray⟩ : Tx) + ByteArray.size (⟨(runB (n : Int).toNat 111).toArray⟩ : Tx)) := by rw [z0, z1, z2]; omega
              clear r0 hb5 z0 z1 z2 l1 l2
              generalize (⟨(runB (c.1).toNat 98).toArray⟩ : Tx) = sB at *
              generalize (⟨(runB (n : Int).toNat 111).toArray⟩ : Tx) = sC at *
              generalize (⟨acc2.toArray⟩ : Tx) = sA at *
              have hnb : c.1 + (n : Int) ≤ 31 := HBD.out
              go_wp2
              go_roundw
              case rel =>
                refine ⟨acc2 ++ (runB (c.1).toNat 98 ++ runB (n : Int).toNat 111), c.1 + (n : Int), c.2, k + n, f, by rw [← HAB.out], by go_num, rfl, by go_num, by omega, by omega, ?_, ?_, ?_, HW5.out⟩
                · show _ = _
                  rw [← hG.out, HGG.out]
                  have e1 : rowB c Y = runB (c.2 - Y).toNat 36 := by unfold rowB; first | rw [if_pos (by omega)] | rw [if_neg (by omega)]
                  have e2 : xOf c X Y = 0 := by unfold xOf; first | rw [if_pos (by omega)] | rw [if_neg (by omega)]
                  have e3 : yOf c Y = c.2 := by unfold yOf; first | rw [if_pos (by omega)] | rw [if_neg (by omega)]
                  rw [e1, e2, e3, ← HA2.out, Int.sub_zero]
                  simp [List.append_assoc]
                · have := HST.out.1
                  rw [show yOf c Y = c.2 by unfold yOf; first | rw [if_pos (by omega)] | rw [if_neg (by omega)]] at this
                  exact this
                · have h1 := HL1.out
                  have h2 := HL2.out
                  have h3 := HL3.out
                  simp only [List.length_append]; omega
              case measure => simp [intOf]; omega
            · have hs0 : k + n < l.length := by rcases hs1 with h | h <;> exact h.1
              obtain ⟨b3, o3, e3, hb3, p1, p2⟩ := HSW.out (k + n) hs0
              simp only [Option.some.injEq, Addr.mk.injEq, and_true] at e3
              obtain ⟨rfl, rfl⟩ := e3
              change _ = some (Value.int .i64 (at_ l (k + n)).1) at p1
              change _ = some (Value.int .i64 (at_ l (k + n)).2) at p2
              have gd0 := fun z : Gr w2 => z.cell ((hb2.cell (p := ⟨b1, o1 + (k + n) * 2, none⟩) hb3).trans p1) (Nat.lt_of_lt_of_le hb3 hb2.size)
              have gd1 := fun z : Gr w2 => z.cell ((hb2.cell (p := ⟨b1, o1 + (k + n) * 2 + 1, none⟩) hb3).trans p2) (Nat.lt_of_lt_of_le hb3 hb2.size)
              have kn1 : (k : Int) + (n : Int) < (l.length : Int) := by omega
              clear p1 p2 hb2
              generalize at_ l (k + n) = d at *
              rcases hs1 with ⟨_, h2⟩ | ⟨_, h2, h3⟩
              · have h2' : (d.2 == c.2) = false := by simp [h2]
                clear h2
                go_wp2_with fail
                refine wp_region_gr (by kernel_rfl) (by kernel_rfl) ?_
                repeat (go_big_quiet_step (first | exact rfl))
                refine wpQuiet_nil ?_
                rintro _ ⟨z, rfl⟩
                clear gd0 gd1
                have q0 := gq0 z
                have q1 := gq1 z
                have HW3 := hid (HBW.out.trans ((HB2.out.trans (z.below.mono HB2.out.size)).mono HBW.out.size))
                have HQB := hid (Nat.lt_of_lt_of_le HBX.out.1 (HB2.out.trans (z.below.mono HB2.out.size)).size)
                clear gq0 gq1
                generalize z.val = W3 at *
                rw [← HSN.out] at HST HBD HGG
                go_wp2_with fail
                refine (c_l2Run' (c.1) 98 hz0 (by omega) _).mono ?_
                rintro e w4 ⟨rfl, hb4⟩
                have r0 := (hb4.cell (p := ⟨B0, 0, none⟩) HQB.out).trans q0
                have HQ4 := hid (Nat.lt_of_lt_of_le HQB.out hb4.size)
                have HW4 := hid (HW3.out.trans (hb4.mono HW3.out.size))
                clear q0 q1 hb4
                go_wp2_with fail
                refine (c_l2Run' (n : Int) 111 (by omega) (by have := HBD.out; omega) _).mono ?_
                rintro e w5 ⟨rfl, hb5⟩
                have r5 := (hb5.cell (p := ⟨B0, 0, none⟩) HQ4.out).trans r0
                have HW5 := hid (HW4.out.trans (hb5.mono HW4.out.size))
                have HAB : Hid ((⟨acc2.toArray⟩ : Tx) ++ (⟨(runB (c.1).toNat 98).toArray⟩ ++ ⟨(runB (n : Int).toNat 111).toArray⟩) = ⟨(acc2 ++ (runB (c.1).toNat 98 ++ runB (n : Int).toNat 111)).toArray⟩) := by
                  show _ = _
                  rw [ByteArray.mk_append_mk, ByteArray.mk_append_mk]
                have l1 := runB_len (n := (c.1).toNat) 98 (by omega)
                have l2 := runB_len (n := (n : Int).toNat) 111 (by have := HBD.out; omega)
                have z0 := txs acc2
                have z1 := txs (runB (c.1).toNat 98)
                have z2 := txs (runB (n : Int).toNat 111)
                have HL1 := hid l1
                have HL2 := hid l2
                have hs1 : ¬ 9223372036854775807 < ByteArray.size (⟨(runB (c.1).toNat 98).toArray⟩ : Tx) + ByteArray.size (⟨(runB (n : Int).toNat 111).toArray⟩ : Tx) := by rw [z1, z2]; omega
                have hs2 : ¬ 9223372036854775807 < ByteArray.size (⟨acc2.toArray⟩ : Tx) + (ByteArray.size (⟨(runB (c.1).toNat 98).toArray⟩ : Tx) + ByteArray.size (⟨(runB (n : Int).toNat 111).toArray⟩ : Tx)) := by rw [z0, z1, z2]; omega
                clear r0 hb5 z0 z1 z2 l1 l2
                generalize (⟨(runB (c.1).toNat 98).toArray⟩ : Tx) = sB at *
                generalize (⟨(runB (n : Int).toNat 111).toArray⟩ : Tx) = sC at *
                generalize (⟨acc2.toArray⟩ : Tx) = sA at *
                have hnb : c.1 + (n : Int) ≤ 31 := HBD.out
                go_wp2
                go_roundw
                case rel =>
                  refine ⟨acc2 ++ (runB (c.1).toNat 98 ++ runB (n : Int).toNat 111), c.1 + (n : Int), c.2, k + n, f, by rw [← HAB.out], by go_num, rfl, by go_num, by omega, by omega, ?_, ?_, ?_, HW5.out⟩
                  · show _ = _
                    rw [← hG.out, HGG.out]
                    have e1 : rowB c Y = runB (c.2 - Y).toNat 36 := by unfold rowB; first | rw [if_pos (by omega)] | rw [if_neg (by omega)]
                    have e2 : xOf c X Y = 0 := by unfold xOf; first | rw [if_pos (by omega)] | rw [if_neg (by omega)]
                    have e3 : yOf c Y = c.2 := by unfold yOf; first | rw [if_pos (by omega)] | rw [if_neg (by omega)]
                    rw [e1, e2, e3, ← HA2.out, Int.sub_zero]
                    simp [List.append_assoc]
                  · have := HST.out.1
                    rw [show yOf c Y = c.2 by unfold yOf; first | rw [if_pos (by omega)] | rw [if_neg (by omega)]] at this
                    exact this
                  · have h1 := HL1.out
                    have h2 := HL2.out
                    have h3 := HL3.out
                    simp only [List.length_append]; omega
                case measure => simp [intOf]; omega
              · go_wp2_with fail
                refine wp_region_gr (by kernel_rfl) (by kernel_rfl) ?_
                repeat (go_big_quiet_step (first | exact rfl))
                refine wpQuiet_nil ?_
                rintro _ ⟨z, rfl⟩
                clear gd0 gd1
                have q0 := gq0 z
                have q1 := gq1 z
                have HW3 := hid (HBW.out.trans ((HB2.out.trans (z.below.mono HB2.out.size)).mono HBW.out.size))
                have HQB := hid (Nat.lt_of_lt_of_le HBX.out.1 (HB2.out.trans (z.below.mono HB2.out.size)).size)
                clear gq0 gq1
                generalize z.val = W3 at *
                rw [← HSN.out] at HST HBD HGG
                go_wp2_with fail
                refine (c_l2Run' (c.1) 98 hz0 (by omega) _).mono ?_
                rintro e w4 ⟨rfl, hb4⟩
                have r0 := (hb4.cell (p := ⟨B0, 0, none⟩) HQB.out).trans q0
                have HQ4 := hid (Nat.lt_of_lt_of_le HQB.out hb4.size)
                have HW4 := hid (HW3.out.trans (hb4.mono HW3.out.size))
                clear q0 q1 hb4
                go_wp2_with fail
                refine (c_l2Run' (n : Int) 111 (by omega) (by have := HBD.out; omega) _).mono ?_
                rintro e w5 ⟨rfl, hb5⟩
                have r5 := (hb5.cell (p := ⟨B0, 0, none⟩) HQ4.out).trans r0
                have HW5 := hid (HW4.out.trans (hb5.mono HW4.out.size))
                have HAB : Hid ((⟨acc2.toArray⟩ : Tx) ++ (⟨(runB (c.1).toNat 98).toArray⟩ ++ ⟨(runB (n : Int).toNat 111).toArray⟩) = ⟨(acc2 ++ (runB (c.1).toNat 98 ++ runB (n : Int).toNat 111)).toArray⟩) := by
                  show _ = _
                  rw [ByteArray.mk_append_mk, ByteArray.mk_append_mk]
                have l1 := runB_len (n := (c.1).toNat) 98 (by omega)
                have l2 := runB_len (n := (n : Int).toNat) 111 (by have := HBD.out; omega)
                have z0 := txs acc2
                have z1 := txs (runB (c.1).toNat 98)
                have z2 := txs (runB (n : Int).toNat 111)
                have HL1 := hid l1
                have HL2 := hid l2
                have hs1 : ¬ 9223372036854775807 < ByteArray.size (⟨(runB (c.1).toNat 98).toArray⟩ : Tx) + ByteArray.size (⟨(runB (n : Int).toNat 111).toArray⟩ : Tx) := by rw [z1, z2]; omega
                have hs2 : ¬ 9223372036854775807 < ByteArray.size (⟨acc2.toArray⟩ : Tx) + (ByteArray.size (⟨(runB (c.1).toNat 98).toArray⟩ : Tx) + ByteArray.size (⟨(runB (n : Int).toNat 111).toArray⟩ : Tx)) := by rw [z0, z1, z2]; omega
                clear r0 hb5 z0 z1 z2 l1 l2
                generalize (⟨(runB (c.1).toNat 98).toArray⟩ : Tx) = sB at *
                generalize (⟨(runB (n : Int).toNat 111).toArray⟩ : Tx) = sC at *
                generalize (⟨acc2.toArray⟩ : Tx) = sA at *
                have hnb : c.1 + (n : Int) ≤ 31 := HBD.out
                go_wp2
                go_roundw
                case rel =>
                  refine ⟨acc2 ++ (runB (c.1).toNat 98 ++ runB (n : Int).toNat 111), c.1 + (n : Int), c.2, k + n, f, by rw [← HAB.out], by go_num, rfl, by go_num, by omega, by omega, ?_, ?_, ?_, HW5.out⟩
                  · show _ = _
                    rw [← hG.out, HGG.out]
                    have e1 : rowB c Y = runB (c.2 - Y).toNat 36 := by unfold rowB; first | rw [if_pos (by omega)] | rw [if_neg (by omega)]
                    have e2 : xOf c X Y = 0 := by unfold xOf; first | rw [if_pos (by omega)] | rw [if_neg (by omega)]
                    have e3 : yOf c Y = c.2 := by unfold yOf; first | rw [if_pos (by omega)] | rw [if_neg (by omega)]
                    rw [e1, e2, e3, ← HA2.out, Int.sub_zero]
                    simp [List.append_assoc]
                  · have := HST.out.1
                    rw [show yOf c Y = c.2 by unfold yOf; first | rw [if_pos (by omega)] | rw [if_neg (by omega)]] at this
                    exact this
                  · have h1 := HL1.out
                    have h2 := HL2.out
                    have h3 := HL3.out
                    simp only [List.length_append]; omega
                case measure => simp [intOf]; omega
      · have HBX : Hid (wr.heap.size < (wr.alloc (.cells #[.int .i64 c.1, .int .i64 c.2] 33)).heap.size ∧ (wr.alloc (.cells #[.int .i64 c.1, .int .i64 c.2] 33)).cell? ⟨wr.heap.size, 0, none⟩ = some (.int .i64 c.1) ∧ (wr.alloc (.cells #[.int .i64 c.1, .int .i64 c.2] 33)).cell? ⟨wr.heap.size, 1, none⟩ = some (.int .i64 c.2)) := ⟨by simp, cell_new0 _ _ _ _, cell_new1 _ _ _ _⟩
        have HBW := hid (HB.out.alloc HB.out.size (.cells #[.int .i64 c.1, .int .i64 c.2] 33))
        have HSW := hid (HS.out.below ((Below.refl wr.heap.size wr).alloc (Nat.le_refl _) (.cells #[.int .i64 c.1, .int .i64 c.2] 33)))
        go_wp2_with fail
        clear g1 g2
        generalize hW : wr.alloc (.cells #[.int .i64 c.1, .int .i64 c.2] 33) = W at *
        clear hW
        have hz : 0 ≤ c.1 - X ∧ c.1 - X ≤ 30 := by
          have := HST.out.2.2
          rw [show xOf c X Y = X by unfold xOf; first | rw [if_pos (by omega)] | rw [if_neg (by omega)]] at this
          exact this
        obtain ⟨hz0, hz1⟩ := hz
        generalize hB0 : wr.heap.size = B0 at *
        clear hB0
        go_loopw [8] (fun v w2 => ∃ n g : Nat, v = .int .i64 n ∧ 1 ≤ n ∧ k + n ≤ l.length ∧ l.length ≤ k + n + g ∧ Hid (sbGo l k g n = sb l k) ∧ Below W.heap.size W w2) (fun v _ => l.length - (intOf v).toNat)
        case atStart => exact ⟨1, l.length, rfl, by omega, by omega, by omega, (show _ = _ from rfl), Below.refl _ _⟩
        case round =>
          rename World => w2
          obtain ⟨n, g, rfl, hn1, hkn, hgl, hsg, hb2⟩ := hrel
          have gq0 := fun z : Gr w2 => z.cell ((hb2.cell (p := ⟨B0, 0, none⟩) HBX.out.1).trans HBX.out.2.1) (Nat.lt_of_lt_of_le HBX.out.1 hb2.size)
          have gq1 := fun z : Gr w2 => z.cell ((hb2.cell (p := ⟨B0, 1, none⟩) HBX.out.1).trans HBX.out.2.2) (Nat.lt_of_lt_of_le HBX.out.1 hb2.size)
          have kn0 : (0 : Int) ≤ (k : Int) + (n : Int) := by omega
          by_cases hcond : k + n < l.length ∧ at_ l (k + n) = ((at_ l k).1 + (n : Int), (at_ l k).2)
          · obtain ⟨b3, o3, e3, hb3, p1, p2⟩ := HSW.out (k + n) hcond.1
            simp only [Option.some.injEq, Addr.mk.injEq, and_true] at e3
            obtain ⟨rfl, rfl⟩ := e3
            change _ = some (Value.int .i64 (at_ l (k + n)).1) at p1
            change _ = some (Value.int .i64 (at_ l (k + n)).2) at p2
            rw [hcond.2, HCC.out] at p1 p2
            have gd0 := fun z : Gr w2 => z.cell ((hb2.cell (p := ⟨b1, o1 + (k + n) * 2, none⟩) hb3).trans p1) (Nat.lt_of_lt_of_le hb3 hb2.size)
            have gd1 := fun z : Gr w2 => z.cell ((hb2.cell (p := ⟨b1, o1 + (k + n) * 2 + 1, none⟩) hb3).trans p2) (Nat.lt_of_lt_of_le hb3 hb2.size)
            have kn1 : (k : Int) + (n : Int) < (l.length : Int) := by omega
            obtain ⟨g, rfl⟩ : ∃ g', g = g' + 1 := ⟨g - 1, by omega⟩
            have HSN : Hid (sbGo l k g (n + 1) = sb l k) := by
              show _ = _
              rw [← hsg.out]
              exact (by rw [sbGo, if_pos hcond])
            have HB2 := hid hb2
            clear p1 p2 hcond hsg hb2
            go_wp2_with fail
            refine wp_region_gr (by kernel_rfl) (by kernel_rfl) ?_
            repeat (go_big_quiet_step (first | exact rfl))
            refine wpQuiet_nil ?_
            rintro _ ⟨z, rfl⟩
            clear gq0 gq1 gd0 gd1
            go_wp2
            go_roundw
            case rel => exact ⟨n + 1, g, by go_num, by omega, by omega, by omega, HSN.out, HB2.out.trans (z.below.mono HB2.out.size)⟩
            case measure => simp [intOf]; omega
          · have HSN := hid (show n = sb l k by rw [← hsg.out, sbGo_stop l k g n hcond])
            have hsplit : ¬ (k + n < l.length) ∨ (k + n < l.length ∧ ¬ (at_ l (k + n)).2 = c.2) ∨ (k + n < l.length ∧ (at_ l (k + n)).2 = c.2 ∧ ¬ (at_ l (k + n)).1 = c.1 + (n : Int)) := by
              rw [HCC.out] at hcond
              by_cases e1 : k + n < l.length
              · by_cases e2 : (at_ l (k + n)).2 = c.2
                · by_cases e3 : (at_ l (k + n)).1 = c.1 + (n : Int)
                  · exact absurd ⟨e1, Prod.ext e3 e2⟩ hcond
                  · exact .inr (.inr ⟨e1, e2, e3⟩)
                · exact .inr (.inl ⟨e1, e2⟩)
              · exact .inl e1
            have HB2 := hid hb2
            clear hcond hsg
            rcases hsplit with hs1 | hs1
            · have kn1 : decide ((k : Int) + (n : Int) < (l.length : Int)) = false := by simp; omega
              clear hb2 hs1
              go_wp2_with fail
              refine wp_region_gr (by kernel_rfl) (by kernel_rfl) ?_
              repeat (go_big_quiet_step (first | exact rfl))
              refine wpQuiet_nil ?_
              rintro _ ⟨z, rfl⟩
              have q0 := gq0 z
              have q1 := gq1 z
              have HW3 := hid (HBW.out.trans ((HB2.out.trans (z.below.mono HB2.out.size)).mono HBW.out.size))
              have HQB := hid (Nat.lt_of_lt_of_le HBX.out.1 (HB2.out.trans (z.below.mono HB2.out.size)).size)
              clear gq0 gq1
              generalize z.val = W3 at *
              rw [← HSN.out] at HST HBD HGG
              go_wp2_with fail
              refine (c_l2Run' (c.1 - X) 98 hz0 (by omega) _).mono ?_
              rintro e w4 ⟨rfl, hb4⟩
              have r0 := (hb4.cell (p := ⟨B0, 0, none⟩) HQB.out).trans q0
              have HQ4 := hid (Nat.lt_of_lt_of_le HQB.out hb4.size)
              have HW4 := hid (HW3.out.trans (hb4.mono HW3.out.size))
              clear q0 q1 hb4
              go_wp2_with fail
              refine (c_l2Run' (n : Int) 111 (by omega) (by have := HBD.out; omega) _).mono ?_
              rintro e w5 ⟨rfl, hb5⟩
              have r5 := (hb5.cell (p := ⟨B0, 0, none⟩) HQ4.out).trans r0
              have HW5 := hid (HW4.out.trans (hb5.mono HW4.out.size))
              have HAB : Hid ((⟨acc.toArray⟩ : Tx) ++ (⟨(runB (c.1 - X).toNat 98).toArray⟩ ++ ⟨(runB (n : Int).toNat 111).toArray⟩) = ⟨(acc ++ (runB (c.1 - X).toNat 98 ++ runB (n : Int).toNat 111)).toArray⟩) := by
                show _ = _
                rw [ByteArray.mk_append_mk, ByteArray.mk_append_mk]
              have l1 := runB_len (n := (c.1 - X).toNat) 98 (by omega)
              have l2 := runB_len (n := (n : Int).toNat) 111 (by have := HBD.out; omega)
              have z0 := txs acc
              have z1 := txs (runB (c.1 - X).toNat 98)
              have z2 := txs (runB (n : Int).toNat 111)
              have HL1 := hid l1
              have HL2 := hid l2
              have hs1 : ¬ 9223372036854775807 < ByteArray.size (⟨(runB (c.1 - X).toNat 98).toArray⟩ : Tx) + ByteArray.size (⟨(runB (n : Int).toNat 111).toArray⟩ : Tx) := by rw [z1, z2]; omega
              have hs2 : ¬ 9223372036854775807 < ByteArray.size (⟨acc.toArray⟩ : Tx) + (ByteArray.size (⟨(runB (c.1 - X).toNat 98).toArray⟩ : Tx) + ByteArray.size (⟨(runB (n : Int).toNat 111).toArray⟩ : Tx)) := by rw [z0, z1, z2]; omega
              clear r0 hb5 z0 z1 z2 l1 l2
              generalize (⟨(runB (c.1 - X).toNat 98).toArray⟩ : Tx) = sB at *
              generalize (⟨(runB (n : Int).toNat 111).toArray⟩ : Tx) = sC at *
              generalize (⟨acc.toArray⟩ : Tx) = sA at *
              have hnb : c.1 + (n : Int) ≤ 31 := HBD.out
              go_wp2
              go_roundw
              case rel =>
                refine ⟨acc ++ (runB (c.1 - X).toNat 98 ++ runB (n : Int).toNat 111), c.1 + (n : Int), Y, k + n, f, by rw [← HAB.out], by go_num, rfl, by go_num, by omega, by omega, ?_, ?_, ?_, HW5.out⟩
                · show _ = _
                  rw [← hG.out, HGG.out]
                  have e1 : rowB c Y = [] := by unfold rowB; first | rw [if_pos (by omega)] | rw [if_neg (by omega)]
                  have e2 : xOf c X Y = X := by unfold xOf; first | rw [if_pos (by omega)] | rw [if_neg (by omega)]
                  have e3 : yOf c Y = Y := by unfold yOf; first | rw [if_pos (by omega)] | rw [if_neg (by omega)]
                  rw [e1, e2, e3]
                  simp [List.append_assoc]
                · have := HST.out.1
                  rw [show yOf c Y = Y by unfold yOf; first | rw [if_pos (by omega)] | rw [if_neg (by omega)]] at this
                  exact this
                · have h1 := HL1.out
                  have h2 := HL2.out
                  simp only [List.length_append]; omega
              case measure => simp [intOf]; omega
            · have hs0 : k + n < l.length := by rcases hs1 with h | h <;> exact h.1
              obtain ⟨b3, o3, e3, hb3, p1, p2⟩ := HSW.out (k + n) hs0
              simp only [Option.some.injEq, Addr.mk.injEq, and_true] at e3
              obtain ⟨rfl, rfl⟩ := e3
              change _ = some (Value.int .i64 (at_ l (k + n)).1) at p1
              change _ = some (Value.int .i64 (at_ l (k + n)).2) at p2
              have gd0 := fun z : Gr w2 => z.cell ((hb2.cell (p := ⟨b1, o1 + (k + n) * 2, none⟩) hb3).trans p1) (Nat.lt_of_lt_of_le hb3 hb2.size)
              have gd1 := fun z : Gr w2 => z.cell ((hb2.cell (p := ⟨b1, o1 + (k + n) * 2 + 1, none⟩) hb3).trans p2) (Nat.lt_of_lt_of_le hb3 hb2.size)
              have kn1 : (k : Int) + (n : Int) < (l.length : Int) := by omega
              clear p1 p2 hb2
              generalize at_ l (k + n) = d at *
              rcases hs1 with ⟨_, h2⟩ | ⟨_, h2, h3⟩
              · have h2' : (d.2 == c.2) = false := by simp [h2]
                clear h2
                go_wp2_with fail
                refine wp_region_gr (by kernel_rfl) (by kernel_rfl) ?_
                repeat (go_big_quiet_step (first | exact rfl))
                refine wpQuiet_nil ?_
                rintro _ ⟨z, rfl⟩
                clear gd0 gd1
                have q0 := gq0 z
                have q1 := gq1 z
                have HW3 := hid (HBW.out.trans ((HB2.out.trans (z.below.mono HB2.out.size)).mono HBW.out.size))
                have HQB := hid (Nat.lt_of_lt_of_le HBX.out.1 (HB2.out.trans (z.below.mono HB2.out.size)).size)
                clear gq0 gq1
                generalize z.val = W3 at *
                rw [← HSN.out] at HST HBD HGG
                go_wp2_with fail
                refine (c_l2Run' (c.1 - X) 98 hz0 (by omega) _).mono ?_
                rintro e w4 ⟨rfl, hb4⟩
                have r0 := (hb4.cell (p := ⟨B0, 0, none⟩) HQB.out).trans q0
                have HQ4 := hid (Nat.lt_of_lt_of_le HQB.out hb4.size)
                have HW4 := hid (HW3.out.trans (hb4.mono HW3.out.size))
                clear q0 q1 hb4
                go_wp2_with fail
                refine (c_l2Run' (n : Int) 111 (by omega) (by have := HBD.out; omega) _).mono ?_
                rintro e w5 ⟨rfl, hb5⟩
                have r5 := (hb5.cell (p := ⟨B0, 0, none⟩) HQ4.out).trans r0
                have HW5 := hid (HW4.out.trans (hb5.mono HW4.out.size))
                have HAB : Hid ((⟨acc.toArray⟩ : Tx) ++ (⟨(runB (c.1 - X).toNat 98).toArray⟩ ++ ⟨(runB (n : Int).toNat 111).toArray⟩) = ⟨(acc ++ (runB (c.1 - X).toNat 98 ++ runB (n : Int).toNat 111)).toArray⟩) := by
                  show _ = _
                  rw [ByteArray.mk_append_mk, ByteArray.mk_append_mk]
                have l1 := runB_len (n := (c.1 - X).toNat) 98 (by omega)
                have l2 := runB_len (n := (n : Int).toNat) 111 (by have := HBD.out; omega)
                have z0 := txs acc
                have z1 := txs (runB (c.1 - X).toNat 98)
                have z2 := txs (runB (n : Int).toNat 111)
                have HL1 := hid l1
                have HL2 := hid l2
                have hs1 : ¬ 9223372036854775807 < ByteArray.size (⟨(runB (c.1 - X).toNat 98).toArray⟩ : Tx) + ByteArray.size (⟨(runB (n : Int).toNat 111).toArray⟩ : Tx) := by rw [z1, z2]; omega
                have hs2 : ¬ 9223372036854775807 < ByteArray.size (⟨acc.toArray⟩ : Tx) + (ByteArray.size (⟨(runB (c.1 - X).toNat 98).toArray⟩ : Tx) + ByteArray.size (⟨(runB (n : Int).toNat 111).toArray⟩ : Tx)) := by rw [z0, z1, z2]; omega
                clear r0 hb5 z0 z1 z2 l1 l2
                generalize (⟨(runB (c.1 - X).toNat 98).toArray⟩ : Tx) = sB at *
                generalize (⟨(runB (n : Int).toNat 111).toArray⟩ : Tx) = sC at *
                generalize (⟨acc.toArray⟩ : Tx) = sA at *
                have hnb : c.1 + (n : Int) ≤ 31 := HBD.out
                go_wp2
                go_roundw
                case rel =>
                  refine ⟨acc ++ (runB (c.1 - X).toNat 98 ++ runB (n : Int).toNat 111), c.1 + (n : Int), Y, k + n, f, by rw [← HAB.out], by go_num, rfl, by go_num, by omega, by omega, ?_, ?_, ?_, HW5.out⟩
                  · show _ = _
                    rw [← hG.out, HGG.out]
                    have e1 : rowB c Y = [] := by unfold rowB; first | rw [if_pos (by omega)] | rw [if_neg (by omega)]
                    have e2 : xOf c X Y = X := by unfold xOf; first | rw [if_pos (by omega)] | rw [if_neg (by omega)]
                    have e3 : yOf c Y = Y := by unfold yOf; first | rw [if_pos (by omega)] | rw [if_neg (by omega)]
                    rw [e1, e2, e3]
                    simp [List.append_assoc]
                  · have := HST.out.1
                    rw [show yOf c Y = Y by unfold yOf; first | rw [if_pos (by omega)] | rw [if_neg (by omega)]] at this
                    exact this
                  · have h1 := HL1.out
                    have h2 := HL2.out
                    simp only [List.length_append]; omega
                case measure => simp [intOf]; omega
              · go_wp2_with fail
                refine wp_region_gr (by kernel_rfl) (by kernel_rfl) ?_
                repeat (go_big_quiet_step (first | exact rfl))
                refine wpQuiet_nil ?_
                rintro _ ⟨z, rfl⟩
                clear gd0 gd1
                have q0 := gq0 z
                have q1 := gq1 z
                have HW3 := hid (HBW.out.trans ((HB2.out.trans (z.below.mono HB2.out.size)).mono HBW.out.size))
                have HQB := hid (Nat.lt_of_lt_of_le HBX.out.1 (HB2.out.trans (z.below.mono HB2.out.size)).size)
                clear gq0 gq1
                generalize z.val = W3 at *
                rw [← HSN.out] at HST HBD HGG
                go_wp2_with fail
                refine (c_l2Run' (c.1 - X) 98 hz0 (by omega) _).mono ?_
                rintro e w4 ⟨rfl, hb4⟩
                have r0 := (hb4.cell (p := ⟨B0, 0, none⟩) HQB.out).trans q0
                have HQ4 := hid (Nat.lt_of_lt_of_le HQB.out hb4.size)
                have HW4 := hid (HW3.out.trans (hb4.mono HW3.out.size))
                clear q0 q1 hb4
                go_wp2_with fail
                refine (c_l2Run' (n : Int) 111 (by omega) (by have := HBD.out; omega) _).mono ?_
                rintro e w5 ⟨rfl, hb5⟩
                have r5 := (hb5.cell (p := ⟨B0, 0, none⟩) HQ4.out).trans r0
                have HW5 := hid (HW4.out.trans (hb5.mono HW4.out.size))
                have HAB : Hid ((⟨acc.toArray⟩ : Tx) ++ (⟨(runB (c.1 - X).toNat 98).toArray⟩ ++ ⟨(runB (n : Int).toNat 111).toArray⟩) = ⟨(acc ++ (runB (c.1 - X).toNat 98 ++ runB (n : Int).toNat 111)).toArray⟩) := by
                  show _ = _
                  rw [ByteArray.mk_append_mk, ByteArray.mk_append_mk]
                have l1 := runB_len (n := (c.1 - X).toNat) 98 (by omega)
                have l2 := runB_len (n := (n : Int).toNat) 111 (by have := HBD.out; omega)
                have z0 := txs acc
                have z1 := txs (runB (c.1 - X).toNat 98)
                have z2 := txs (runB (n : Int).toNat 111)
                have HL1 := hid l1
                have HL2 := hid l2
                have hs1 : ¬ 9223372036854775807 < ByteArray.size (⟨(runB (c.1 - X).toNat 98).toArray⟩ : Tx) + ByteArray.size (⟨(runB (n : Int).toNat 111).toArray⟩ : Tx) := by rw [z1, z2]; omega
                have hs2 : ¬ 9223372036854775807 < ByteArray.size (⟨acc.toArray⟩ : Tx) + (ByteArray.size (⟨(runB (c.1 - X).toNat 98).toArray⟩ : Tx) + ByteArray.size (⟨(runB (n : Int).toNat 111).toArray⟩ : Tx)) := by rw [z0, z1, z2]; omega
                clear r0 hb5 z0 z1 z2 l1 l2
                generalize (⟨(runB (c.1 - X).toNat 98).toArray⟩ : Tx) = sB at *
                generalize (⟨(runB (n : Int).toNat 111).toArray⟩ : Tx) = sC at *
                generalize (⟨acc.toArray⟩ : Tx) = sA at *
                have hnb : c.1 + (n : Int) ≤ 31 := HBD.out
                go_wp2
                go_roundw
                case rel =>
                  refine ⟨acc ++ (runB (c.1 - X).toNat 98 ++ runB (n : Int).toNat 111), c.1 + (n : Int), Y, k + n, f, by rw [← HAB.out], by go_num, rfl, by go_num, by omega, by omega, ?_, ?_, ?_, HW5.out⟩
                  · show _ = _
                    rw [← hG.out, HGG.out]
                    have e1 : rowB c Y = [] := by unfold rowB; first | rw [if_pos (by omega)] | rw [if_neg (by omega)]
                    have e2 : xOf c X Y = X := by unfold xOf; first | rw [if_pos (by omega)] | rw [if_neg (by omega)]
                    have e3 : yOf c Y = Y := by unfold yOf; first | rw [if_pos (by omega)] | rw [if_neg (by omega)]
                    rw [e1, e2, e3]
                    simp [List.append_assoc]
                  · have := HST.out.1
                    rw [show yOf c Y = Y by unfold yOf; first | rw [if_pos (by omega)] | rw [if_neg (by omega)]] at this
                    exact this
                  · have h1 := HL1.out
                    have h2 := HL2.out
                    simp only [List.length_append]; omega
                case measure => simp [intOf]; omega
    · obtain rfl : k = l.length := by omega
      have HE := hid (runsGo_end (l := l) (f := f) (i := l.length) (x := X) (y := Y) hlt)
      have hs3 : ¬ 9223372036854775807 < ByteArray.size (⟨acc.toArray⟩ : Tx) + ByteArray.size (⟨#[33]⟩ : Tx) := by
        have : ByteArray.size (⟨#[33]⟩ : Tx) = 1 := rfl
        rw [this, txs]; omega
      have HA3 : Hid ((⟨acc.toArray⟩ : Tx) ++ ⟨#[33]⟩ = ⟨(runs l).toArray⟩) := by
        show _ = _
        rw [← hG.out, HE.out, ← ByteArray.mk_append_mk]
      generalize (⟨acc.toArray⟩ : Tx) = sE at *
      go_wp2
      go_ret
      exact ⟨by rw [← HA3.out]; rfl, hbel⟩
end Go.Proofs.YthmjcjcamcdpkaaDoor
