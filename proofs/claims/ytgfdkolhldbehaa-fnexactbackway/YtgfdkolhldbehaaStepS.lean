/- The specification's StepCells. -/
import Derived.Test.YtgfdkolhldbehaaStep
import Derived.Test.YtgfdkolhldbehaaCellsOf
namespace Go.Proofs.Ytgfdkolhldbehaa
open Go.RowKit Go.Maps
set_option linter.unusedVariables false

/-- A cell and the eight about it, row by row. -/
def blk (x : Cl) : List Cl := [(x.1 + -1, x.2 + -1), (x.1 + 0, x.2 + -1), (x.1 + 1, x.2 + -1), (x.1 + -1, x.2 + 0), (x.1 + 0, x.2 + 0), (x.1 + 1, x.2 + 0), (x.1 + -1, x.2 + 1), (x.1 + 0, x.2 + 1), (x.1 + 1, x.2 + 1)]
theorem blk_at (x : Cl) {i j : Nat} (hi : i < 3) (hj : j < 3) : at_ (blk x) (3 * i + j) = (x.1 + (-1 + (j : Int)), x.2 + (-1 + (i : Int))) := by
  rcases (show i = 0 ∨ i = 1 ∨ i = 2 by omega) with e | e | e <;> rcases (show j = 0 ∨ j = 1 ∨ j = 2 by omega) with e' | e' | e' <;> subst e <;> subst e' <;> simp [at_, blk]
theorem near_blk {x c : Cl} (h : nearB c x = true) : c ∈ blk x := by
  obtain ⟨a, b⟩ := x
  obtain ⟨u, v⟩ := c
  simp [nearB] at h
  simp [blk]
  omega

theorem c_l1Alive' (a : Option Addr) (l : List Cl) (ca : Nat) (c : Cl) (v : Bool) (h : decide (c ∈ l) = v) (w : World) (ha : Seg w a l) (hl : l.length ≤ 1048576) :
    Calls Try.prog 75 #[.slice a l.length ca, .agg #[.int .i64 c.1, .int .i64 c.2]] w fun e w' => e = .returned (.bool v) ∧ Below w.heap.size w w' := by
  rw [← h]; exact c_l1Alive a l ca c w ha hl

/-- What has been gathered of the next cells among those seen. -/
def Next (l m seen : List Cl) : Prop := risTo m m.length = true ∧ ∀ c, c ∈ m ↔ (nxtB l c = true ∧ c ∈ seen)
theorem Next.add {l m seen m' : List Cl} {y : Cl} (h : Next l m seen) (hw : With m y m') (hy : nxtB l y = true) : Next l m' (seen ++ [y]) := by
  refine ⟨hw.1, fun c => ?_⟩
  rw [hw.2.1, h.2, List.mem_append, List.mem_singleton]
  constructor
  · rintro (rfl | ⟨h1, h2⟩)
    · exact ⟨hy, .inr rfl⟩
    · exact ⟨h1, .inl h2⟩
  · rintro ⟨h1, h2 | h2⟩
    · exact .inr ⟨h1, h2⟩
    · exact .inl h2
theorem Next.skip {l m seen : List Cl} {y : Cl} (h : Next l m seen) (hy : nxtB l y = false) : Next l m (seen ++ [y]) := by
  refine ⟨h.1, fun c => ?_⟩
  rw [h.2, List.mem_append, List.mem_singleton]
  constructor
  · rintro ⟨h1, h2⟩
    exact ⟨h1, .inl h2⟩
  · rintro ⟨h1, h2 | h2⟩
    · exact ⟨h1, h2⟩
    · subst h2; rw [hy] at h1; cases h1
theorem blk_take (x : Cl) {i j : Nat} (hi : i < 3) (hj : j < 3) : (blk x).take (3 * i + j + 1) = (blk x).take (3 * i + j) ++ [(x.1 + (-1 + (j : Int)), x.2 + (-1 + (i : Int)))] := by
  rw [take_snoc' (by simp [blk]; omega), blk_at x hi hj]

set_option maxRecDepth 100000 in
set_option maxHeartbeats 4000000 in
theorem c_l1Step (a : Option Addr) (l : List Cl) (ca : Nat) (w : World) (ha : Seg w a l) (hg : good l = true) :
    Calls Try.prog 113 #[.slice a l.length ca] w fun e w' => ∃ v m, e = .returned v ∧ SL w' v m ∧ risTo m m.length = true ∧ (∀ c, c ∈ m ↔ nxtB l c = true) ∧ m.length ≤ 1080 ∧ Below w.heap.size w w' := by
  have hl := good_le hg
  have HIN := hid (good_in hg)
  clear hg
  go_enter Try.func113, Try.ntmps113
  go_wp2
  go_loopw [3, 12] (fun v i wr => ∃ (k : Nat) (m : List Cl), k ≤ l.length ∧ i = .int .i64 k ∧ SL wr v m ∧ Next l m ((l.take k).flatMap blk) ∧ m.length ≤ 9 * k ∧ Below w.heap.size w wr) (fun _ i _ => l.length - (intOf i).toNat)
  case atStart => exact ⟨0, [], Nat.zero_le _, rfl, .inl ⟨rfl, rfl⟩, ⟨rfl, fun c => by simp⟩, by simp, Below.refl _ _⟩
  case round =>
    obtain ⟨k, m, hk, rfl, hSL, hI, hml, hbel⟩ := hrel
    have HI := hid hI
    have HB := hid hbel
    have HSL := hid hSL
    have HA := hid ha
    clear hI hSL
    by_cases hlt : k < l.length
    · obtain ⟨b1, o1, rfl, hb1, p1, p2⟩ := ha k hlt
      have g1 := (hbel.cell (p := ⟨b1, o1 + k * 2, none⟩) hb1).trans p1
      have g2 := (hbel.cell (p := ⟨b1, o1 + k * 2 + 1, none⟩) hb1).trans p2
      change _ = some (Value.int .i64 (at_ l k).1) at g1
      change _ = some (Value.int .i64 (at_ l k).2) at g2
      have hxr : -40 ≤ (at_ l k).1 ∧ (at_ l k).1 ≤ 40 ∧ -40 ≤ (at_ l k).2 ∧ (at_ l k).2 ≤ 40 := by
        have := HIN.out k hlt
        simp [inR] at this
        omega
      have HT : Hid ((l.take (k + 1)).flatMap blk = (l.take k).flatMap blk ++ blk (at_ l k)) := by
        show _ = _
        rw [take_snoc' hlt, List.flatMap_append, List.flatMap_singleton]
      generalize at_ l k = x at *
      clear p1 p2 hbel
      obtain ⟨x1, x2, x3, x4⟩ := hxr
      have HQ0 := hid (cell_new0 wr (.int .i64 x.1) (.int .i64 x.2) 36)
      have HQ1 := hid (cell_new1 wr (.int .i64 x.1) (.int .i64 x.2) 36)
      have HBX := hid (HB.out.alloc HB.out.size (.cells #[.int .i64 x.1, .int .i64 x.2] 36))
      have HSX := hid (HSL.out.below ((Below.refl wr.heap.size wr).alloc (Nat.le_refl _) (.cells #[.int .i64 x.1, .int .i64 x.2] 36)))
      have HZX : Hid (wr.heap.size < (wr.alloc (.cells #[.int .i64 x.1, .int .i64 x.2] 36)).heap.size) := hid (by simp)
      go_wp2
      generalize hWX : wr.alloc (.cells #[.int .i64 x.1, .int .i64 x.2] 36) = wx at *
      generalize hBXE : wr.heap.size = bx at *
      clear hWX g1 g2 HSL HB
      go_loopw [3, 6] (fun v d wr => ∃ (i : Nat) (m : List Cl), i ≤ 3 ∧ d = .int .i64 (-1 + (i : Int)) ∧ SL wr v m ∧ Next l m ((l.take k).flatMap blk ++ (blk x).take (3 * i)) ∧ m.length ≤ 9 * k + 3 * i ∧ Below wx.heap.size wx wr) (fun _ d _ => 3 - (intOf d + 1).toNat)
      case atStart => exact ⟨0, m, by omega, rfl, HSX.out, by simpa using HI.out, by omega, Below.refl _ _⟩
      case round =>
        clear HSX HI hml m
        obtain ⟨i, m, hi, rfl, hSL, hI, hml, hbel⟩ := hrel
        have HI := hid hI
        have HB := hid hbel
        have HSL := hid hSL
        clear hI hSL hbel
        by_cases hit : i < 3
        · have d1 : -1 + (i : Int) ≤ 1 := by omega
          have d0 : -1 ≤ -1 + (i : Int) := by omega
          go_wp2
          go_loopw [3, 7] (fun v d wr => ∃ (j : Nat) (m : List Cl), j ≤ 3 ∧ d = .int .i64 (-1 + (j : Int)) ∧ SL wr v m ∧ Next l m ((l.take k).flatMap blk ++ (blk x).take (3 * i + j)) ∧ m.length ≤ 9 * k + 3 * i + j ∧ Below wx.heap.size wx wr) (fun _ d _ => 3 - (intOf d + 1).toNat)
          case atStart => exact ⟨0, m, by omega, rfl, HSL.out, by simpa using HI.out, by omega, HB.out⟩
          case round =>
            clear HSL HI hml m HB
            obtain ⟨j, m, hj, rfl, hSL, hI, hml, hbel⟩ := hrel
            have HI := hid hI
            have HB := hid hbel
            have HSL := hid hSL
            have g3 := (hbel.cell (p := ⟨bx, 0, none⟩) HZX.out).trans HQ0.out
            have g4 := (hbel.cell (p := ⟨bx, 1, none⟩) HZX.out).trans HQ1.out
            clear hI hSL hbel
            by_cases hjt : j < 3
            · have e1 : -1 + (j : Int) ≤ 1 := by omega
              have e0 : -1 ≤ -1 + (j : Int) := by omega
              have HTK := hid (blk_take x hit hjt)
              have q0 := cell_new0 wr (.int .i64 (x.1 + (-1 + (j : Int)))) (.int .i64 (x.2 + (-1 + (i : Int)))) 36
              have q1 := cell_new1 wr (.int .i64 (x.1 + (-1 + (j : Int)))) (.int .i64 (x.2 + (-1 + (i : Int)))) 36
              have HBW := hid (HB.out.alloc HB.out.size (.cells #[.int .i64 (x.1 + (-1 + (j : Int))), .int .i64 (x.2 + (-1 + (i : Int)))] 36))
              have HSW := hid (HSL.out.below ((Below.refl wr.heap.size wr).alloc (Nat.le_refl _) (.cells #[.int .i64 (x.1 + (-1 + (j : Int))), .int .i64 (x.2 + (-1 + (i : Int)))] 36)))
              have HAW := hid (HA.out.below (HBX.out.trans (HBW.out.mono HBX.out.size)))
              have HZW : Hid (wr.heap.size < (wr.alloc (.cells #[.int .i64 (x.1 + (-1 + (j : Int))), .int .i64 (x.2 + (-1 + (i : Int)))] 36)).heap.size) := hid (by simp)
              clear HSL HB
              go_wp2_with fail
              refine (c_l1Near _ l ca (x.1 + (-1 + (j : Int)), x.2 + (-1 + (i : Int))) _ HAW.out (by omega) HIN.out (by simp only; omega)).mono ?_
              rintro e w4 ⟨rfl, hb4⟩
              have r0 := (hb4.cell (p := ⟨wr.heap.size, 0, none⟩) HZW.out).trans q0
              have r1 := (hb4.cell (p := ⟨wr.heap.size, 1, none⟩) HZW.out).trans q1
              have HBY := hid hb4
              have HZY : Hid (wr.heap.size < w4.heap.size) := hid (Nat.lt_of_lt_of_le HZW.out hb4.size)
              clear hb4 q0 q1 g3 g4
              have HNX : Hid (nxtB l (x.1 + (-1 + (j : Int)), x.2 + (-1 + (i : Int))) = kp l (near l (x.1 + (-1 + (j : Int)), x.2 + (-1 + (i : Int))) : Int) (x.1 + (-1 + (j : Int)), x.2 + (-1 + (i : Int)))) := rfl
              generalize ((near l (x.1 + (-1 + (j : Int)), x.2 + (-1 + (i : Int))) : Nat) : Int) = z at *
              by_cases h3 : z = 3
              · subst h3
                have HY : Hid (nxtB l (x.1 + (-1 + (j : Int)), x.2 + (-1 + (i : Int))) = true) := HNX.out.trans rfl
                go_wp2_with fail
                refine (c_l1Add _ m (x.1 + (-1 + (j : Int)), x.2 + (-1 + (i : Int))) _ (HSW.out.below HBY.out) (by omega) HI.out.1).mono ?_
                rintro e w7 ⟨v7, m7, rfl, hS7, hW7, hb7⟩
                have HB7 := hid (HBW.out.trans ((HBY.out.trans (hb7.mono HBY.out.size)).mono HBW.out.size))
                have HS7 := hid hS7
                have HI7 := hid (HI.out.add hW7 HY.out)
                have HL7 := hid hW7.2.2
                clear hS7 hW7 hb7
                go_wp2
                go_roundw
                case rel => exact ⟨j + 1, m7, by omega, by rw [show -1 + (j : Int) + 1 = -1 + ((j + 1 : Nat) : Int) by omega], HS7.out, by rw [show 3 * i + (j + 1) = 3 * i + j + 1 by omega, HTK.out, ← List.append_assoc]; exact HI7.out, by have := HL7.out; omega, HB7.out⟩
                case measure => simp [intOf]; omega
              · by_cases h2 : z = 2
                · subst h2
                  cases hm : decide ((x.1 + (-1 + (j : Int)), x.2 + (-1 + (i : Int))) ∈ l)
                  · have HY : Hid (nxtB l (x.1 + (-1 + (j : Int)), x.2 + (-1 + (i : Int))) = false) := HNX.out.trans (by simp only [kp, hm]; rfl)
                    go_wp2_with fail
                    refine (c_l1Alive' _ l ca (x.1 + (-1 + (j : Int)), x.2 + (-1 + (i : Int))) false hm w4 (HAW.out.below HBY.out) (by omega)).mono ?_
                    rintro e w5 ⟨rfl, hb5⟩
                    have HBY := hid (HBY.out.trans (hb5.mono HBY.out.size))
                    clear hb5 r0 r1
                    have HI7 := hid (HI.out.skip HY.out)
                    have HB7 := hid (HBW.out.trans (HBY.out.mono HBW.out.size))
                    have HS7 := hid (HSW.out.below HBY.out)
                    go_wp2
                    go_roundw
                    case rel => exact ⟨j + 1, m, by omega, by rw [show -1 + (j : Int) + 1 = -1 + ((j + 1 : Nat) : Int) by omega], HS7.out, by rw [show 3 * i + (j + 1) = 3 * i + j + 1 by omega, HTK.out, ← List.append_assoc]; exact HI7.out, by omega, HB7.out⟩
                    case measure => simp [intOf]; omega
                  · have HY : Hid (nxtB l (x.1 + (-1 + (j : Int)), x.2 + (-1 + (i : Int))) = true) := HNX.out.trans (by simp only [kp, hm]; rfl)
                    go_wp2_with fail
                    refine (c_l1Alive' _ l ca (x.1 + (-1 + (j : Int)), x.2 + (-1 + (i : Int))) true hm w4 (HAW.out.below HBY.out) (by omega)).mono ?_
                    rintro e w5 ⟨rfl, hb5⟩
                    have s0 := (hb5.cell (p := ⟨wr.heap.size, 0, none⟩) HZY.out).trans r0
                    have s1 := (hb5.cell (p := ⟨wr.heap.size, 1, none⟩) HZY.out).trans r1
                    have HBY := hid (HBY.out.trans (hb5.mono HBY.out.size))
                    clear hb5 r0 r1
                    go_wp2_with fail
                    refine (c_l1Add _ m (x.1 + (-1 + (j : Int)), x.2 + (-1 + (i : Int))) _ (HSW.out.below HBY.out) (by omega) HI.out.1).mono ?_
                    rintro e w7 ⟨v7, m7, rfl, hS7, hW7, hb7⟩
                    have HB7 := hid (HBW.out.trans ((HBY.out.trans (hb7.mono HBY.out.size)).mono HBW.out.size))
                    have HS7 := hid hS7
                    have HI7 := hid (HI.out.add hW7 HY.out)
                    have HL7 := hid hW7.2.2
                    clear hS7 hW7 hb7
                    go_wp2
                    go_roundw
                    case rel => exact ⟨j + 1, m7, by omega, by rw [show -1 + (j : Int) + 1 = -1 + ((j + 1 : Nat) : Int) by omega], HS7.out, by rw [show 3 * i + (j + 1) = 3 * i + j + 1 by omega, HTK.out, ← List.append_assoc]; exact HI7.out, by have := HL7.out; omega, HB7.out⟩
                    case measure => simp [intOf]; omega
                · have HY : Hid (nxtB l (x.1 + (-1 + (j : Int)), x.2 + (-1 + (i : Int))) = false) := HNX.out.trans (by simp [kp, h3, h2])
                  have HI7 := hid (HI.out.skip HY.out)
                  have HB7 := hid (HBW.out.trans (HBY.out.mono HBW.out.size))
                  have HS7 := hid (HSW.out.below HBY.out)
                  go_wp2
                  go_roundw
                  case rel => exact ⟨j + 1, m, by omega, by rw [show -1 + (j : Int) + 1 = -1 + ((j + 1 : Nat) : Int) by omega], HS7.out, by rw [show 3 * i + (j + 1) = 3 * i + j + 1 by omega, HTK.out, ← List.append_assoc]; exact HI7.out, by omega, HB7.out⟩
                  case measure => simp [intOf]; omega
            · obtain rfl : j = 3 := by omega
              go_wp2
              go_roundw
              case rel => exact ⟨i + 1, m, by omega, by rw [show -1 + (i : Int) + 1 = -1 + ((i + 1 : Nat) : Int) by omega], HSL.out, HI.out, by omega, HB.out⟩
              case measure => simp [intOf]; omega
        · obtain rfl : i = 3 := by omega
          have HB8 := hid (HBX.out.trans (HB.out.mono HBX.out.size))
          go_wp2
          go_roundw
          case rel => exact ⟨k + 1, m, by omega, by go_num, HSL.out, by rw [HT.out]; exact HI.out, by omega, HB8.out⟩
          case measure => simp [intOf]; omega
    · clear hbel
      go_wp2
      go_ret
      have : k = l.length := by omega
      subst this
      refine ⟨_, m, rfl, HSL.out, HI.out.1, fun c => ?_, by omega, HB.out⟩
      rw [HI.out.2, List.take_length]
      refine ⟨fun h => h.1, fun h => ⟨h, ?_⟩⟩
      obtain ⟨x, hx, hn⟩ := nxt_near h
      rw [List.mem_flatMap]
      exact ⟨x, hx, near_blk hn⟩

end Go.Proofs.Ytgfdkolhldbehaa
