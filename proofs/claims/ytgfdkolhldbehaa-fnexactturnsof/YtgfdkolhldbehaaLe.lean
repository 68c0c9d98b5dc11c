/- Texts of this seat, one behind the other: StepS, Times, StepO, Shift, Both. -/
import Derived.Test.YtgfdkolhldbehaaLd
namespace Go.Proofs.Ytgfdkolhldbehaa
open Go.RowKit Go.Maps
set_option linter.unusedVariables false

/-- A cell and the eight about it, row by row. -/
def blk (x : Cl) : List Cl := [(x.1 + -1, x.2 + -1), (x.1 + 0, x.2 + -1), (x.1 + 1, x.2 + -1), (x.1 + -1, x.2 + 0), (x.1 + 0, x.2 + 0), (x.1 + 1, x.2 + 0), (x.1 + -1, x.2 + 1), (x.1 + 0, x.2 + 1), (x.1 + 1, x.2 + 1)]
theorem blk_at (x : Cl) {i j : Nat} (hi : i < 3) (hj : j < 3) : at_ (blk x) (3 * i + j) = (x.1 + (-1 + (j : Int)), x.2 + (-1 + (i : Int))) := by
  rcases (show i = 0 ∨ i = 1 ∨ i = 2 by omega) with e | e | e <;> rcases (show j = 0 ∨ j = 1 ∨ j = 2 by omega) with e' | e' | e' <;> subst e <;> subst e' <;> simp [at_, blk]
theorem near_blk {x c : Cl} (h : nearB c x = true) : c ∈ blk x := by
  obtain ⟨a, b⟩ := x
  obtain ⟨u, v⟩ := c
  simp [nearB] at h
  simp [blk]
  omega

theorem c_l1Alive' (a : Option Addr) (l : List Cl) (ca : Nat) (c : Cl) (v : Bool) (h : decide (c ∈ l) = v) (w : World) (ha : Seg w a l) (hl : l.length ≤ 1048576) :
    Calls Try.prog 75 #[.slice a l.length ca, .agg #[.int .i64 c.1, .int .i64 c.2]] w fun e w' => e = .returned (.bool v) ∧ Below w.heap.size w w' := by
  rw [← h]; exact c_l1Alive a l ca c w ha hl

/-- What has been gathered of the next cells among those seen. -/
def Next (l m seen : List Cl) : Prop := risTo m m.length = true ∧ ∀ c, c ∈ m ↔ (nxtB l c = true ∧ c ∈ seen)
theorem Next.add {l m seen m' : List Cl} {y : Cl} (h : Next l m seen) (hw : With m y m') (hy : nxtB l y = true) : Next l m' (seen ++ [y]) := by
  refine ⟨hw.1, fun c => ?_⟩
  rw [hw.2.1, h.2, List.mem_append, List.mem_singleton]
  constructor
  · rintro (rfl | ⟨h1, h2⟩)
    · exact ⟨hy, .inr rfl⟩
    · exact ⟨h1, .inl h2⟩
  · rintro ⟨h1, h2 | h2⟩
    · exact .inr ⟨h1, h2⟩
    · exact .inl h2
theorem Next.skip {l m seen : List Cl} {y : Cl} (h : Next l m seen) (hy : nxtB l y = false) : Next l m (seen ++ [y]) := by
  refine ⟨h.1, fun c => ?_⟩
  rw [h.2, List.mem_append, List.mem_singleton]
  constructor
  · rintro ⟨h1, h2⟩
    exact ⟨h1, .inl h2⟩
  · rintro ⟨h1, h2 | h2⟩
    · exact ⟨h1, h2⟩
    · subst h2; rw [hy] at h1; cases h1
theorem blk_take (x : Cl) {i j : Nat} (hi : i < 3) (hj : j < 3) : (blk x).take (3 * i + j + 1) = (blk x).take (3 * i + j) ++ [(x.1 + (-1 + (j : Int)), x.2 + (-1 + (i : Int)))] := by
  rw [take_snoc' (by simp [blk]; omega), blk_at x hi hj]

set_option maxRecDepth 100000 in
set_option maxHeartbeats 4000000 in
theorem c_l1Step (a : Option Addr) (l : List Cl) (ca : Nat) (w : World) (ha : Seg w a l) (hg : good l = true) :
    Calls Try.prog 113 #[.slice a l.length ca] w fun e w' => ∃ v m, e = .returned v ∧ SL w' v m ∧ risTo m m.length = true ∧ (∀ c, c ∈ m ↔ nxtB l c = true) ∧ m.length ≤ 1080 ∧ Below w.heap.size w w' := by
  have hl := good_le hg
  have HIN := hid (good_in hg)
  clear hg
  go_enter Try.func113, Try.ntmps113
  go_wp2
  go_loopw [3, 12] (fun v i wr => ∃ (k : Nat) (m : List Cl), k ≤ l.length ∧ i = .int .i64 k ∧ SL wr v m ∧ Next l m ((l.take k).flatMap blk) ∧ m.length ≤ 9 * k ∧ Below w.heap.size w wr) (fun _ i _ => l.length - (intOf i).toNat)
  case atStart => exact ⟨0, [], Nat.zero_le _, rfl, .inl ⟨rfl, rfl⟩, ⟨rfl, fun c => by simp⟩, by simp, Below.refl _ _⟩
  case round =>
    obtain ⟨k, m, hk, rfl, hSL, hI, hml, hbel⟩ := hrel
    have HI := hid hI
    have HB := hid hbel
    have HSL := hid hSL
    have HA := hid ha
    clear hI hSL
    by_cases hlt : k < l.length
    · obtain ⟨b1, o1, rfl, hb1, p1, p2⟩ := ha k hlt
      have g1 := (hbel.cell (p := ⟨b1, o1 + k * 2, none⟩) hb1).trans p1
      have g2 := (hbel.cell (p := ⟨b1, o1 + k * 2 + 1, none⟩) hb1).trans p2
      change _ = some (Value.int .i64 (at_ l k).1) at g1
      change _ = some (Value.int .i64 (at_ l k).2) at g2
      have hxr : -40 ≤ (at_ l k).1 ∧ (at_ l k).1 ≤ 40 ∧ -40 ≤ (at_ l k).2 ∧ (at_ l k).2 ≤ 40 := by
        have := HIN.out k hlt
        simp [inR] at this
        omega
      have HT : Hid ((l.take (k + 1)).flatMap blk = (l.take k).flatMap blk ++ blk (at_ l k)) := by
        show _ = _
        rw [take_snoc' hlt, List.flatMap_append, List.flatMap_singleton]
      generalize at_ l k = x at *
      clear p1 p2 hbel
      obtain ⟨x1, x2, x3, x4⟩ := hxr
      have HQ0 := hid (cell_new0 wr (.int .i64 x.1) (.int .i64 x.2) 36)
      have HQ1 := hid (cell_new1 wr (.int .i64 x.1) (.int .i64 x.2) 36)
      have HBX := hid (HB.out.alloc HB.out.size (.cells #[.int .i64 x.1, .int .i64 x.2] 36))
      have HSX := hid (HSL.out.below ((Below.refl wr.heap.size wr).alloc (Nat.le_refl _) (.cells #[.int .i64 x.1, .int .i64 x.2] 36)))
      have HZX : Hid (wr.heap.size < (wr.alloc (.cells #[.int .i64 x.1, .int .i64 x.2] 36)).heap.size) := hid (by simp)
      go_wp2
      generalize hWX : wr.alloc (.cells #[.int .i64 x.1, .int .i64 x.2] 36) = wx at *
      generalize hBXE : wr.heap.size = bx at *
      clear hWX g1 g2 HSL HB
      go_loopw [3, 6] (fun v d wr => ∃ (i : Nat) (m : List Cl), i ≤ 3 ∧ d = .int .i64 (-1 + (i : Int)) ∧ SL wr v m ∧ Next l m ((l.take k).flatMap blk ++ (blk x).take (3 * i)) ∧ m.length ≤ 9 * k + 3 * i ∧ Below wx.heap.size wx wr) (fun _ d _ => 3 - (intOf d + 1).toNat)
      case atStart => exact ⟨0, m, by omega, rfl, HSX.out, by simpa using HI.out, by omega, Below.refl _ _⟩
      case round =>
        clear HSX HI hml m
        obtain ⟨i, m, hi, rfl, hSL, hI, hml, hbel⟩ := hrel
        have HI := hid hI
        have HB := hid hbel
        have HSL := hid hSL
        clear hI hSL hbel
        by_cases hit : i < 3
        · have d1 : -1 + (i : Int) ≤ 1 := by omega
          have d0 : -1 ≤ -1 + (i : Int) := by omega
          go_wp2
          go_loopw [3, 7] (fun v d wr => ∃ (j : Nat) (m : List Cl), j ≤ 3 ∧ d = .int .i64 (-1 + (j : Int)) ∧ SL wr v m ∧ Next l m ((l.take k).flatMap blk ++ (blk x).take (3 * i + j)) ∧ m.length ≤ 9 * k + 3 * i + j ∧ Below wx.heap.size wx wr) (fun _ d _ => 3 - (intOf d + 1).toNat)
          case atStart => exact ⟨0, m, by omega, rfl, HSL.out, by simpa using HI.out, by omega, HB.out⟩
          case round =>
            clear HSL HI hml m HB
            obtain ⟨j, m, hj, rfl, hSL, hI, hml, hbel⟩ := hrel
            have HI := hid hI
            have HB := hid hbel
            have HSL := hid hSL
            have g3 := (hbel.cell (p := ⟨bx, 0, none⟩) HZX.out).trans HQ0.out
            have g4 := (hbel.cell (p := ⟨bx, 1, none⟩) HZX.out).trans HQ1.out
            clear hI hSL hbel
            by_cases hjt : j < 3
            · have e1 : -1 + (j : Int) ≤ 1 := by omega
              have e0 : -1 ≤ -1 + (j : Int) := by omega
              have HTK := hid (blk_take x hit hjt)
              have q0 := cell_new0 wr (.int .i64 (x.1 + (-1 + (j : Int)))) (.int .i64 (x.2 + (-1 + (i : Int)))) 36
              have q1 := cell_new1 wr (.int .i64 (x.1 + (-1 + (j : Int)))) (.int .i64 (x.2 + (-1 + (i : Int)))) 36
              have HBW := hid (HB.out.alloc HB.out.size (.cells #[.int .i64 (x.1 + (-1 + (j : Int))), .int .i64 (x.2 + (-1 + (i : Int)))] 36))
              have HSW := hid (HSL.out.below ((Below.refl wr.heap.size wr).alloc (Nat.le_refl _) (.cells #[.int .i64 (x.1 + (-1 + (j : Int))), .int .i64 (x.2 + (-1 + (i : Int)))] 36)))
              have HAW := hid (HA.out.below (HBX.out.trans (HBW.out.mono HBX.out.size)))
              have HZW : Hid (wr.heap.size < (wr.alloc (.cells #[.int .i64 (x.1 + (-1 + (j : Int))), .int .i64 (x.2 + (-1 + (i : Int)))] 36)).heap.size) := hid (by simp)
              clear HSL HB
              go_wp2_with fail
              refine (c_l1Near _ l ca (x.1 + (-1 + (j : Int)), x.2 + (-1 + (i : Int))) _ HAW.out (by omega) HIN.out (by simp only; omega)).mono ?_
              rintro e w4 ⟨rfl, hb4⟩
              have r0 := (hb4.cell (p := ⟨wr.heap.size, 0, none⟩) HZW.out).trans q0
              have r1 := (hb4.cell (p := ⟨wr.heap.size, 1, none⟩) HZW.out).trans q1
              have HBY := hid hb4
              have HZY : Hid (wr.heap.size < w4.heap.size) := hid (Nat.lt_of_lt_of_le HZW.out hb4.size)
              clear hb4 q0 q1 g3 g4
              have HNX : Hid (nxtB l (x.1 + (-1 + (j : Int)), x.2 + (-1 + (i : Int))) = kp l (near l (x.1 + (-1 + (j : Int)), x.2 + (-1 + (i : Int))) : Int) (x.1 + (-1 + (j : Int)), x.2 + (-1 + (i : Int)))) := rfl
              generalize ((near l (x.1 + (-1 + (j : Int)), x.2 + (-1 + (i : Int))) : Nat) : Int) = z at *
              by_cases h3 : z = 3
              · subst h3
                have HY : Hid (nxtB l (x.1 + (-1 + (j : Int)), x.2 + (-1 + (i : Int))) = true) := HNX.out.trans rfl
                go_wp2_with fail
                refine (c_l1Add _ m (x.1 + (-1 + (j : Int)), x.2 + (-1 + (i : Int))) _ (HSW.out.below HBY.out) (by omega) HI.out.1).mono ?_
                rintro e w7 ⟨v7, m7, rfl, hS7, hW7, hb7⟩
                have HB7 := hid (HBW.out.trans ((HBY.out.trans (hb7.mono HBY.out.size)).mono HBW.out.size))
                have HS7 := hid hS7
                have HI7 := hid (HI.out.add hW7 HY.out)
                have HL7 := hid hW7.2.2
                clear hS7 hW7 hb7
                go_wp2
                go_roundw
                case rel => exact ⟨j + 1, m7, by omega, by rw [show -1 + (j : Int) + 1 = -1 + ((j + 1 : Nat) : Int) by omega], HS7.out, by rw [show 3 * i + (j + 1) = 3 * i + j + 1 by omega, HTK.out, ← List.append_assoc]; exact HI7.out, by have := HL7.out; omega, HB7.out⟩
                case measure => simp [intOf]; omega
              · by_cases h2 : z = 2
                · subst h2
                  cases hm : decide ((x.1 + (-1 + (j : Int)), x.2 + (-1 + (i : Int))) ∈ l)
                  · have HY : Hid (nxtB l (x.1 + (-1 + (j : Int)), x.2 + (-1 + (i : Int))) = false) := HNX.out.trans (by simp only [kp, hm]; rfl)
                    go_wp2_with fail
                    refine (c_l1Alive' _ l ca (x.1 + (-1 + (j : Int)), x.2 + (-1 + (i : Int))) false hm w4 (HAW.out.below HBY.out) (by omega)).mono ?_
                    rintro e w5 ⟨rfl, hb5⟩
                    have HBY := hid (HBY.out.trans (hb5.mono HBY.out.size))
                    clear hb5 r0 r1
                    have HI7 := hid (HI.out.skip HY.out)
                    have HB7 := hid (HBW.out.trans (HBY.out.mono HBW.out.size))
                    have HS7 := hid (HSW.out.below HBY.out)
                    go_wp2
                    go_roundw
                    case rel => exact ⟨j + 1, m, by omega, by rw [show -1 + (j : Int) + 1 = -1 + ((j + 1 : Nat) : Int) by omega], HS7.out, by rw [show 3 * i + (j + 1) = 3 * i + j + 1 by omega, HTK.out, ← List.append_assoc]; exact HI7.out, by omega, HB7.out⟩
                    case measure => simp [intOf]; omega
                  · have HY : Hid (nxtB l (x.1 + (-1 + (j : Int)), x.2 + (-1 + (i : Int))) = true) := HNX.out.trans (by simp only [kp, hm]; rfl)
                    go_wp2_with fail
                    refine (c_l1Alive' _ l ca (x.1 + (-1 + (j : Int)), x.2 + (-1 + (i : Int))) true hm w4 (HAW.out.below HBY.out) (by omega)).mono ?_
                    rintro e w5 ⟨rfl, hb5⟩
                    have s0 := (hb5.cell (p := ⟨wr.heap.size, 0, none⟩) HZY.out).trans r0
                    have s1 := (hb5.cell (p := ⟨wr.heap.size, 1, none⟩) HZY.out).trans r1
                    have HBY := hid (HBY.out.trans (hb5.mono HBY.out.size))
                    clear hb5 r0 r1
                    go_wp2_with fail
                    refine (c_l1Add _ m (x.1 + (-1 + (j : Int)), x.2 + (-1 + (i : Int))) _ (HSW.out.below HBY.out) (by omega) HI.out.1).mono ?_
                    rintro e w7 ⟨v7, m7, rfl, hS7, hW7, hb7⟩
                    have HB7 := hid (HBW.out.trans ((HBY.out.trans (hb7.mono HBY.out.size)).mono HBW.out.size))
                    have HS7 := hid hS7
                    have HI7 := hid (HI.out.add hW7 HY.out)
                    have HL7 := hid hW7.2.2
                    clear hS7 hW7 hb7
                    go_wp2
                    go_roundw
                    case rel => exact ⟨j + 1, m7, by omega, by rw [show -1 + (j : Int) + 1 = -1 + ((j + 1 : Nat) : Int) by omega], HS7.out, by rw [show 3 * i + (j + 1) = 3 * i + j + 1 by omega, HTK.out, ← List.append_assoc]; exact HI7.out, by have := HL7.out; omega, HB7.out⟩
                    case measure => simp [intOf]; omega
                · have HY : Hid (nxtB l (x.1 + (-1 + (j : Int)), x.2 + (-1 + (i : Int))) = false) := HNX.out.trans (by simp [kp, h3, h2])
                  have HI7 := hid (HI.out.skip HY.out)
                  have HB7 := hid (HBW.out.trans (HBY.out.mono HBW.out.size))
                  have HS7 := hid (HSW.out.below HBY.out)
                  go_wp2
                  go_roundw
                  case rel => exact ⟨j + 1, m, by omega, by rw [show -1 + (j : Int) + 1 = -1 + ((j + 1 : Nat) : Int) by omega], HS7.out, by rw [show 3 * i + (j + 1) = 3 * i + j + 1 by omega, HTK.out, ← List.append_assoc]; exact HI7.out, by omega, HB7.out⟩
                  case measure => simp [intOf]; omega
            · obtain rfl : j = 3 := by omega
              go_wp2
              go_roundw
              case rel => exact ⟨i + 1, m, by omega, by rw [show -1 + (i : Int) + 1 = -1 + ((i + 1 : Nat) : Int) by omega], HSL.out, HI.out, by omega, HB.out⟩
              case measure => simp [intOf]; omega
        · obtain rfl : i = 3 := by omega
          have HB8 := hid (HBX.out.trans (HB.out.mono HBX.out.size))
          go_wp2
          go_roundw
          case rel => exact ⟨k + 1, m, by omega, by go_num, HSL.out, by rw [HT.out]; exact HI.out, by omega, HB8.out⟩
          case measure => simp [intOf]; omega
    · clear hbel
      go_wp2
      go_ret
      have : k = l.length := by omega
      subst this
      refine ⟨_, m, rfl, HSL.out, HI.out.1, fun c => ?_, by omega, HB.out⟩
      rw [HI.out.2, List.take_length]
      refine ⟨fun h => h.1, fun h => ⟨h, ?_⟩⟩
      obtain ⟨x, hx, hn⟩ := nxt_near h
      rw [List.mem_flatMap]
      exact ⟨x, hx, near_blk hn⟩

end Go.Proofs.Ytgfdkolhldbehaa

namespace Go.Proofs.Ytgfdkolhldbehaa
open Go.RowKit Go.Maps
set_option linter.unusedVariables false

/-- A step, where it is good. -/
noncomputable def nxtO (l : List Cl) : Option (List Cl) := if good (pickL (nxtB l)) then some (pickL (nxtB l)) else none
/-- So many steps. -/
noncomputable def timesO : Nat → List Cl → Option (List Cl)
  | 0, l => some l
  | n + 1, l => (nxtO l).bind (timesO n)
theorem nxtO_good {l m : List Cl} (h : nxtO l = some m) : good m = true := by
  unfold nxtO at h
  split at h
  · cases h; assumption
  · cases h
theorem timesO_good : ∀ {n : Nat} {l m : List Cl}, good l = true → timesO n l = some m → good m = true
  | 0, l, m, hg, h => by simp [timesO] at h; rw [← h]; exact hg
  | n + 1, l, m, hg, h => by
    unfold timesO at h
    cases e : nxtO l with
    | none => rw [e] at h; cases h
    | some k => rw [e] at h; exact timesO_good (nxtO_good e) h

/-- Whether a number of times is in bounds. -/
def inT (t : Int) : Bool := decide (0 ≤ t) && decide (t ≤ 20)
/-- What StepTimes answers. -/
noncomputable def timesOk (l : List Cl) (t : Int) : Bool := good l && inT t && (timesO t.toNat l).isSome
noncomputable def timesL (l : List Cl) (t : Int) : List Cl := if good l && inT t then (timesO t.toNat l).getD [] else []
theorem timesL_le (l : List Cl) (t : Int) : (timesL l t).length ≤ 120 := by
  unfold timesL; split
  · rename_i h
    rw [Bool.and_eq_true] at h
    cases e : timesO t.toNat l with
    | none => simp
    | some m => exact good_le (timesO_good h.1 e)
  · simp
theorem inT_bd {t : Int} (h : inT t = true) : 0 ≤ t ∧ t ≤ 20 := by simp [inT] at h; exact h
theorem c_l1In20 (n : Int) (v : Bool) (h : inT n = v) (w : World) : Calls Try.prog 102 #[.int .i64 n, .int .i64 0, .int .i64 20] w fun e w' => e = .returned (.bool v) ∧ w' = w := by
  rw [← h]; exact c_l1In n 0 20 w

set_option maxRecDepth 100000 in
set_option maxHeartbeats 1000000 in
theorem c_iStepTimes (a : Option Addr) (l : List Cl) (ca : Nat) (t : Int) (w : World) (ha : Seg w a l) (hca : a = none → ca = 0) (hl : l.length ≤ 1048576) :
    Calls Try.prog 16 #[.slice a l.length ca, .int .i64 t] w fun e w' => ∃ v, e = .returned (.tuple #[v, .bool (timesOk l t)]) ∧ OwnS w' w.heap.size v (timesL l t) ∧ Below w.heap.size w w' := by
  cases hg : good l
  · have HC := hid (c_iGood' a l ca false hg _ ha hl)
    have HV : Hid (timesL l t = [] ∧ timesOk l t = false) := by simp [Hid, timesL, timesOk, hg]
    clear ha
    go_enter Try.func16, Try.ntmps16
    go_wp2_with fail
    refine HC.out.mono ?_
    rintro e w1 ⟨rfl, hb1⟩
    go_wp2
    go_ret2
    exact ⟨_, by rw [HV.out.2]; rfl, by rw [HV.out.1]; exact OwnS.nil _ _, hb1⟩
  · have HC := hid (c_iGood' a l ca true hg _ ha hl)
    have hlg := good_le hg
    by_cases t0 : t < 0
    · have HV : Hid (timesL l t = [] ∧ timesOk l t = false) := by
        have : inT t = false := by simp [inT]; omega
        simp [Hid, timesL, timesOk, hg, this]
      clear ha
      go_enter Try.func16, Try.ntmps16
      go_wp2_with fail
      refine HC.out.mono ?_
      rintro e w1 ⟨rfl, hb1⟩
      go_wp2
      go_ret2
      exact ⟨_, by rw [HV.out.2]; rfl, by rw [HV.out.1]; exact OwnS.nil _ _, hb1⟩
    · by_cases t1 : 20 < t
      · have HV : Hid (timesL l t = [] ∧ timesOk l t = false) := by
          have : inT t = false := by simp [inT]; omega
          simp [Hid, timesL, timesOk, hg, this]
        clear ha
        go_enter Try.func16, Try.ntmps16
        go_wp2_with fail
        refine HC.out.mono ?_
        rintro e w1 ⟨rfl, hb1⟩
        go_wp2
        go_ret2
        exact ⟨_, by rw [HV.out.2]; rfl, by rw [HV.out.1]; exact OwnS.nil _ _, hb1⟩
      · obtain ⟨T, rfl⟩ : ∃ T : Nat, t = (T : Int) := ⟨t.toNat, by omega⟩
        have HV0 : Hid (timesL l (T : Int) = (timesO T l).getD [] ∧ timesOk l (T : Int) = (timesO T l).isSome) := by
          have : inT (T : Int) = true := by simp [inT]; omega
          simp [Hid, timesL, timesOk, hg, this]
        have HA := hid ha
        have HG := hid hg
        clear ha hg
        go_enter Try.func16, Try.ntmps16
        go_wp2_with fail
        refine HC.out.mono ?_
        rintro e w1 ⟨rfl, hb1⟩
        have HB1 := hid hb1
        clear hb1
        go_wp2_with (at_builtin; refine wpList_app' rfl _ _ rfl w.heap.size (.slice none 0 0) [] l a l.length ca rfl (OwnS.nil _ _) rfl rfl (HA.out.below HB1.out) hca (by simp; omega) HB1.out.size ?_; intro v2 w2 hO2 hG2)
        have HO2 := hid hO2
        have HB2 := hid (below_grown HB1.out (OwnS.nil w1 w.heap.size) hG2)
        clear hO2 hG2 HC HA HB1
        go_loopw [6, 7, 8] (fun v o i wr => ∃ (k : Nat) (ok : Bool) (m : List Cl), k ≤ T ∧ i = .int .i64 k ∧ o = .bool ok ∧ OwnS wr w.heap.size v m ∧ (ok = true → good m = true ∧ timesO (T - k) m = timesO T l) ∧ (ok = false → m = [] ∧ timesO T l = none) ∧ Below w.heap.size w wr) (fun _ _ i _ => T - (intOf i).toNat)
        case atStart => exact ⟨0, true, l, by omega, rfl, rfl, by simpa using HO2.out, fun _ => ⟨HG.out, rfl⟩, (fun h => by cases h), HB2.out⟩
        case round =>
          clear HO2 HB2 HG
          obtain ⟨k, ok, m, hk, rfl, rfl, hO, h1, h2, hbel⟩ := hrel
          obtain ⟨a', c', rfl, hsg⟩ := hO.form
          have HO := hid hO
          have HSG := hid hsg
          have HB := hid hbel
          have H1 := hid h1
          have H2 := hid h2
          clear hO hsg hbel h1 h2
          cases ok with
          | false =>
            have HV : Hid (timesL l (T : Int) = m ∧ timesOk l (T : Int) = false) := by
              obtain ⟨e1, e2⟩ := H2.out rfl
              have h1 := HV0.out
              rw [e2] at h1
              subst e1
              simpa [Hid] using h1
            go_wp2
            go_ret2
            exact ⟨_, by rw [HV.out.2]; rfl, by rw [HV.out.1]; exact HO.out, HB.out⟩
          | true =>
            obtain ⟨hgm, hT⟩ := H1.out rfl
            have hlm := good_le hgm
            have HT := hid hT
            clear hT
            by_cases hkt : k < T
            · have k0 : (k : Int) < (T : Int) := by omega
              have HC := hid (c_iStepCells a' m c' wr HSG.out (by omega))
              have HSO : Hid (stepOk m = good (pickL (nxtB m)) ∧ stepL m = tellV (pickL (nxtB m))) := by simp [Hid, stepOk, stepL, hgm]
              have HT1 : Hid (timesO (T - k) m = (nxtO m).bind (timesO (T - (k + 1)))) := by
                show _ = _
                rw [show T - k = T - (k + 1) + 1 by omega]; rfl
              clear hgm
              generalize hSK : stepOk m = so at *
              generalize hSL : stepL m = sl at *
              go_wp2_with fail
              refine HC.out.mono ?_
              rintro e w3 ⟨v3, rfl, hO3, hb3⟩
              have HO3 := hid (hO3.mono HB.out.size)
              have HB3 := hid (HB.out.trans (hb3.mono HB.out.size))
              clear hO3 hb3
              go_wp2
              go_roundw
              case rel =>
                refine ⟨k + 1, so, sl, by omega, by go_num, rfl, HO3.out, fun h => ?_, fun h => ?_, HB3.out⟩
                · obtain ⟨e1, e2⟩ := HSO.out
                  rw [h] at e1
                  have e3 : nxtO m = some (pickL (nxtB m)) := by unfold nxtO; rw [← e1]; rfl
                  rw [e2]
                  unfold tellV
                  rw [← e1, if_pos rfl]
                  refine ⟨e1.symm, ?_⟩
                  have h5 := HT1.out
                  rw [e3, HT.out] at h5
                  exact h5.symm
                · obtain ⟨e1, e2⟩ := HSO.out
                  rw [h] at e1
                  have e3 : nxtO m = none := by unfold nxtO; rw [← e1]; rfl
                  rw [e2]
                  unfold tellV
                  rw [← e1]
                  refine ⟨rfl, ?_⟩
                  have h5 := HT1.out
                  rw [e3, HT.out] at h5
                  exact h5
              case measure => simp [intOf]; omega
            · have k0 : ¬ (k : Int) < (T : Int) := by omega
              have HV : Hid (timesL l (T : Int) = m ∧ timesOk l (T : Int) = true) := by
                have h1 := HV0.out
                have h2 := HT.out
                rw [show T - k = 0 by omega] at h2
                rw [← h2] at h1
                simpa [Hid, timesO] using h1
              clear hgm
              go_wp2
              go_ret2
              exact ⟨_, by rw [HV.out.2]; rfl, by rw [HV.out.1]; exact HO.out, HB.out⟩
end Go.Proofs.Ytgfdkolhldbehaa

namespace Go.Proofs.Ytgfdkolhldbehaa
open Go.RowKit Go.Maps
set_option linter.unusedVariables false

theorem c_l1AddW (base : Nat) (v : Value) (l : List Cl) (c : Cl) (w : World) (h : OwnS w base v l) (hb : base ≤ w.heap.size) (hl : l.length ≤ 1048576) (hr : risTo l l.length = true) :
    Calls Try.prog 126 #[v, .agg #[.int .i64 c.1, .int .i64 c.2]] w fun e w' => ∃ v l', e = .returned v ∧ OwnS w' base v l' ∧ With l c l' ∧ Below w.heap.size w w' :=
  (c_l1AddO v l c w h.sl hl hr).mono fun e w' ⟨v', l', h1, _, h3, h4, h5⟩ => by
    refine ⟨v', l', h1, ?_, h3, h4⟩
    rcases h5 with h5 | ⟨rfl, rfl⟩
    · exact h5.mono hb
    · exact h.below h4

set_option maxRecDepth 100000 in
set_option maxHeartbeats 4000000 in
theorem c_l1StepO (a : Option Addr) (l : List Cl) (ca : Nat) (w : World) (ha : Seg w a l) (hg : good l = true) :
    Calls Try.prog 113 #[.slice a l.length ca] w fun e w' => ∃ v m, e = .returned v ∧ OwnS w' w.heap.size v m ∧ risTo m m.length = true ∧ (∀ c, c ∈ m ↔ nxtB l c = true) ∧ m.length ≤ 1080 ∧ Below w.heap.size w w' := by
  have hl := good_le hg
  have HIN := hid (good_in hg)
  clear hg
  go_enter Try.func113, Try.ntmps113
  go_wp2
  go_loopw [3, 12] (fun v i wr => ∃ (k : Nat) (m : List Cl), k ≤ l.length ∧ i = .int .i64 k ∧ OwnS wr w.heap.size v m ∧ Next l m ((l.take k).flatMap blk) ∧ m.length ≤ 9 * k ∧ Below w.heap.size w wr) (fun _ i _ => l.length - (intOf i).toNat)
  case atStart => exact ⟨0, [], Nat.zero_le _, rfl, OwnS.nil _ _, ⟨rfl, fun c => by simp⟩, by simp, Below.refl _ _⟩
  case round =>
    obtain ⟨k, m, hk, rfl, hSL, hI, hml, hbel⟩ := hrel
    have HI := hid hI
    have HB := hid hbel
    have HSL := hid hSL
    have HA := hid ha
    clear hI hSL
    by_cases hlt : k < l.length
    · obtain ⟨b1, o1, rfl, hb1, p1, p2⟩ := ha k hlt
      have g1 := (hbel.cell (p := ⟨b1, o1 + k * 2, none⟩) hb1).trans p1
      have g2 := (hbel.cell (p := ⟨b1, o1 + k * 2 + 1, none⟩) hb1).trans p2
      change _ = some (Value.int .i64 (at_ l k).1) at g1
      change _ = some (Value.int .i64 (at_ l k).2) at g2
      have hxr : -40 ≤ (at_ l k).1 ∧ (at_ l k).1 ≤ 40 ∧ -40 ≤ (at_ l k).2 ∧ (at_ l k).2 ≤ 40 := by
        have := HIN.out k hlt
        simp [inR] at this
        omega
      have HT : Hid ((l.take (k + 1)).flatMap blk = (l.take k).flatMap blk ++ blk (at_ l k)) := by
        show _ = _
        rw [take_snoc' hlt, List.flatMap_append, List.flatMap_singleton]
      generalize at_ l k = x at *
      clear p1 p2 hbel
      obtain ⟨x1, x2, x3, x4⟩ := hxr
      have HQ0 := hid (cell_new0 wr (.int .i64 x.1) (.int .i64 x.2) 36)
      have HQ1 := hid (cell_new1 wr (.int .i64 x.1) (.int .i64 x.2) 36)
      have HBX := hid (HB.out.alloc HB.out.size (.cells #[.int .i64 x.1, .int .i64 x.2] 36))
      have HSX := hid (HSL.out.below ((Below.refl wr.heap.size wr).alloc (Nat.le_refl _) (.cells #[.int .i64 x.1, .int .i64 x.2] 36)))
      have HZX : Hid (wr.heap.size < (wr.alloc (.cells #[.int .i64 x.1, .int .i64 x.2] 36)).heap.size) := hid (by simp)
      go_wp2
      generalize hWX : wr.alloc (.cells #[.int .i64 x.1, .int .i64 x.2] 36) = wx at *
      generalize hBXE : wr.heap.size = bx at *
      clear hWX g1 g2 HSL HB
      go_loopw [3, 6] (fun v d wr => ∃ (i : Nat) (m : List Cl), i ≤ 3 ∧ d = .int .i64 (-1 + (i : Int)) ∧ OwnS wr w.heap.size v m ∧ Next l m ((l.take k).flatMap blk ++ (blk x).take (3 * i)) ∧ m.length ≤ 9 * k + 3 * i ∧ Below wx.heap.size wx wr) (fun _ d _ => 3 - (intOf d + 1).toNat)
      case atStart => exact ⟨0, m, by omega, rfl, HSX.out, by simpa using HI.out, by omega, Below.refl _ _⟩
      case round =>
        clear HSX HI hml m
        obtain ⟨i, m, hi, rfl, hSL, hI, hml, hbel⟩ := hrel
        have HI := hid hI
        have HB := hid hbel
        have HSL := hid hSL
        clear hI hSL hbel
        by_cases hit : i < 3
        · have d1 : -1 + (i : Int) ≤ 1 := by omega
          have d0 : -1 ≤ -1 + (i : Int) := by omega
          go_wp2
          go_loopw [3, 7] (fun v d wr => ∃ (j : Nat) (m : List Cl), j ≤ 3 ∧ d = .int .i64 (-1 + (j : Int)) ∧ OwnS wr w.heap.size v m ∧ Next l m ((l.take k).flatMap blk ++ (blk x).take (3 * i + j)) ∧ m.length ≤ 9 * k + 3 * i + j ∧ Below wx.heap.size wx wr) (fun _ d _ => 3 - (intOf d + 1).toNat)
          case atStart => exact ⟨0, m, by omega, rfl, HSL.out, by simpa using HI.out, by omega, HB.out⟩
          case round =>
            clear HSL HI hml m HB
            obtain ⟨j, m, hj, rfl, hSL, hI, hml, hbel⟩ := hrel
            have HI := hid hI
            have HB := hid hbel
            have HSL := hid hSL
            have g3 := (hbel.cell (p := ⟨bx, 0, none⟩) HZX.out).trans HQ0.out
            have g4 := (hbel.cell (p := ⟨bx, 1, none⟩) HZX.out).trans HQ1.out
            clear hI hSL hbel
            by_cases hjt : j < 3
            · have e1 : -1 + (j : Int) ≤ 1 := by omega
              have e0 : -1 ≤ -1 + (j : Int) := by omega
              have HTK := hid (blk_take x hit hjt)
              have q0 := cell_new0 wr (.int .i64 (x.1 + (-1 + (j : Int)))) (.int .i64 (x.2 + (-1 + (i : Int)))) 36
              have q1 := cell_new1 wr (.int .i64 (x.1 + (-1 + (j : Int)))) (.int .i64 (x.2 + (-1 + (i : Int)))) 36
              have HBW := hid (HB.out.alloc HB.out.size (.cells #[.int .i64 (x.1 + (-1 + (j : Int))), .int .i64 (x.2 + (-1 + (i : Int)))] 36))
              have HSW := hid (HSL.out.below ((Below.refl wr.heap.size wr).alloc (Nat.le_refl _) (.cells #[.int .i64 (x.1 + (-1 + (j : Int))), .int .i64 (x.2 + (-1 + (i : Int)))] 36)))
              have HAW := hid (HA.out.below (HBX.out.trans (HBW.out.mono HBX.out.size)))
              have HZW : Hid (wr.heap.size < (wr.alloc (.cells #[.int .i64 (x.1 + (-1 + (j : Int))), .int .i64 (x.2 + (-1 + (i : Int)))] 36)).heap.size) := hid (by simp)
              clear HSL HB
              go_wp2_with fail
              refine (c_l1Near _ l ca (x.1 + (-1 + (j : Int)), x.2 + (-1 + (i : Int))) _ HAW.out (by omega) HIN.out (by simp only; omega)).mono ?_
              rintro e w4 ⟨rfl, hb4⟩
              have r0 := (hb4.cell (p := ⟨wr.heap.size, 0, none⟩) HZW.out).trans q0
              have r1 := (hb4.cell (p := ⟨wr.heap.size, 1, none⟩) HZW.out).trans q1
              have HBY := hid hb4
              have HZY : Hid (wr.heap.size < w4.heap.size) := hid (Nat.lt_of_lt_of_le HZW.out hb4.size)
              clear hb4 q0 q1 g3 g4
              have HNX : Hid (nxtB l (x.1 + (-1 + (j : Int)), x.2 + (-1 + (i : Int))) = kp l (near l (x.1 + (-1 + (j : Int)), x.2 + (-1 + (i : Int))) : Int) (x.1 + (-1 + (j : Int)), x.2 + (-1 + (i : Int)))) := rfl
              generalize ((near l (x.1 + (-1 + (j : Int)), x.2 + (-1 + (i : Int))) : Nat) : Int) = z at *
              by_cases h3 : z = 3
              · subst h3
                have HY : Hid (nxtB l (x.1 + (-1 + (j : Int)), x.2 + (-1 + (i : Int))) = true) := HNX.out.trans rfl
                go_wp2_with fail
                refine (c_l1AddW w.heap.size _ m (x.1 + (-1 + (j : Int)), x.2 + (-1 + (i : Int))) _ (HSW.out.below HBY.out) (by have h1 := HBX.out.size; have h2 := HBW.out.size; have h3 := HBY.out.size; omega) (by omega) HI.out.1).mono ?_
                rintro e w7 ⟨v7, m7, rfl, hS7, hW7, hb7⟩
                have HB7 := hid (HBW.out.trans ((HBY.out.trans (hb7.mono HBY.out.size)).mono HBW.out.size))
                have HS7 := hid hS7
                have HI7 := hid (HI.out.add hW7 HY.out)
                have HL7 := hid hW7.2.2
                clear hS7 hW7 hb7
                go_wp2
                go_roundw
                case rel => exact ⟨j + 1, m7, by omega, by rw [show -1 + (j : Int) + 1 = -1 + ((j + 1 : Nat) : Int) by omega], HS7.out, by rw [show 3 * i + (j + 1) = 3 * i + j + 1 by omega, HTK.out, ← List.append_assoc]; exact HI7.out, by have := HL7.out; omega, HB7.out⟩
                case measure => simp [intOf]; omega
              · by_cases h2 : z = 2
                · subst h2
                  cases hm : decide ((x.1 + (-1 + (j : Int)), x.2 + (-1 + (i : Int))) ∈ l)
                  · have HY : Hid (nxtB l (x.1 + (-1 + (j : Int)), x.2 + (-1 + (i : Int))) = false) := HNX.out.trans (by simp only [kp, hm]; rfl)
                    go_wp2_with fail
                    refine (c_l1Alive' _ l ca (x.1 + (-1 + (j : Int)), x.2 + (-1 + (i : Int))) false hm w4 (HAW.out.below HBY.out) (by omega)).mono ?_
                    rintro e w5 ⟨rfl, hb5⟩
                    have HBY := hid (HBY.out.trans (hb5.mono HBY.out.size))
                    clear hb5 r0 r1
                    have HI7 := hid (HI.out.skip HY.out)
                    have HB7 := hid (HBW.out.trans (HBY.out.mono HBW.out.size))
                    have HS7 := hid (HSW.out.below HBY.out)
                    go_wp2
                    go_roundw
                    case rel => exact ⟨j + 1, m, by omega, by rw [show -1 + (j : Int) + 1 = -1 + ((j + 1 : Nat) : Int) by omega], HS7.out, by rw [show 3 * i + (j + 1) = 3 * i + j + 1 by omega, HTK.out, ← List.append_assoc]; exact HI7.out, by omega, HB7.out⟩
                    case measure => simp [intOf]; omega
                  · have HY : Hid (nxtB l (x.1 + (-1 + (j : Int)), x.2 + (-1 + (i : Int))) = true) := HNX.out.trans (by simp only [kp, hm]; rfl)
                    go_wp2_with fail
                    refine (c_l1Alive' _ l ca (x.1 + (-1 + (j : Int)), x.2 + (-1 + (i : Int))) true hm w4 (HAW.out.below HBY.out) (by omega)).mono ?_
                    rintro e w5 ⟨rfl, hb5⟩
                    have s0 := (hb5.cell (p := ⟨wr.heap.size, 0, none⟩) HZY.out).trans r0
                    have s1 := (hb5.cell (p := ⟨wr.heap.size, 1, none⟩) HZY.out).trans r1
                    have HBY := hid (HBY.out.trans (hb5.mono HBY.out.size))
                    clear hb5 r0 r1
                    go_wp2_with fail
                    refine (c_l1AddW w.heap.size _ m (x.1 + (-1 + (j : Int)), x.2 + (-1 + (i : Int))) _ (HSW.out.below HBY.out) (by have h1 := HBX.out.size; have h2 := HBW.out.size; have h3 := HBY.out.size; omega) (by omega) HI.out.1).mono ?_
                    rintro e w7 ⟨v7, m7, rfl, hS7, hW7, hb7⟩
                    have HB7 := hid (HBW.out.trans ((HBY.out.trans (hb7.mono HBY.out.size)).mono HBW.out.size))
                    have HS7 := hid hS7
                    have HI7 := hid (HI.out.add hW7 HY.out)
                    have HL7 := hid hW7.2.2
                    clear hS7 hW7 hb7
                    go_wp2
                    go_roundw
                    case rel => exact ⟨j + 1, m7, by omega, by rw [show -1 + (j : Int) + 1 = -1 + ((j + 1 : Nat) : Int) by omega], HS7.out, by rw [show 3 * i + (j + 1) = 3 * i + j + 1 by omega, HTK.out, ← List.append_assoc]; exact HI7.out, by have := HL7.out; omega, HB7.out⟩
                    case measure => simp [intOf]; omega
                · have HY : Hid (nxtB l (x.1 + (-1 + (j : Int)), x.2 + (-1 + (i : Int))) = false) := HNX.out.trans (by simp [kp, h3, h2])
                  have HI7 := hid (HI.out.skip HY.out)
                  have HB7 := hid (HBW.out.trans (HBY.out.mono HBW.out.size))
                  have HS7 := hid (HSW.out.below HBY.out)
                  go_wp2
                  go_roundw
                  case rel => exact ⟨j + 1, m, by omega, by rw [show -1 + (j : Int) + 1 = -1 + ((j + 1 : Nat) : Int) by omega], HS7.out, by rw [show 3 * i + (j + 1) = 3 * i + j + 1 by omega, HTK.out, ← List.append_assoc]; exact HI7.out, by omega, HB7.out⟩
                  case measure => simp [intOf]; omega
            · obtain rfl : j = 3 := by omega
              go_wp2
              go_roundw
              case rel => exact ⟨i + 1, m, by omega, by rw [show -1 + (i : Int) + 1 = -1 + ((i + 1 : Nat) : Int) by omega], HSL.out, HI.out, by omega, HB.out⟩
              case measure => simp [intOf]; omega
        · obtain rfl : i = 3 := by omega
          have HB8 := hid (HBX.out.trans (HB.out.mono HBX.out.size))
          go_wp2
          go_roundw
          case rel => exact ⟨k + 1, m, by omega, by go_num, HSL.out, by rw [HT.out]; exact HI.out, by omega, HB8.out⟩
          case measure => simp [intOf]; omega
    · clear hbel
      go_wp2
      go_ret
      have : k = l.length := by omega
      subst this
      refine ⟨_, m, rfl, HSL.out, HI.out.1, fun c => ?_, by omega, HB.out⟩
      rw [HI.out.2, List.take_length]
      refine ⟨fun h => h.1, fun h => ⟨h, ?_⟩⟩
      obtain ⟨x, hx, hn⟩ := nxt_near h
      rw [List.mem_flatMap]
      exact ⟨x, hx, near_blk hn⟩

end Go.Proofs.Ytgfdkolhldbehaa

namespace Go.Proofs.Ytgfdkolhldbehaa
set_option linter.unusedVariables false

/-- The first place that is not less. -/
theorem first_not (l : List Cl) (c : Cl) : ∀ n, n ≤ l.length → ∃ k, k ≤ n ∧ (∀ i, i < k → ltC (at_ l i) c = true) ∧ (k < n → ltC (at_ l k) c = false)
  | 0, _ => ⟨0, Nat.le_refl _, fun i hi => absurd hi (Nat.not_lt_zero _), fun h => absurd h (Nat.not_lt_zero _)⟩
  | n + 1, h => by
    obtain ⟨k, hk, h1, h2⟩ := first_not l c n (by omega)
    by_cases e : k < n
    · exact ⟨k, by omega, h1, fun _ => h2 e⟩
    · obtain rfl : k = n := by omega
      cases e2 : ltC (at_ l k) c
      · exact ⟨k, by omega, h1, fun _ => e2⟩
      · refine ⟨k + 1, Nat.le_refl _, fun i hi => ?_, fun h => absurd h (by omega)⟩
        by_cases e3 : i = k
        · rw [e3]; exact e2
        · exact h1 i (by omega)
theorem with_ex {l : List Cl} (hr : risTo l l.length = true) (c : Cl) : ∃ l', With l c l' := by
  by_cases hm : c ∈ l
  · exact ⟨l, with_same hr hm⟩
  · obtain ⟨k, hk, h1, h2⟩ := first_not l c l.length (Nat.le_refl _)
    refine ⟨_, with_new hr hk h1 (fun h => ⟨h2 h, fun e => hm (mem_at.2 ⟨k, h, e⟩)⟩)⟩
/-- Every list's cells can be put in order. -/
theorem ord_ex : ∀ L : List Cl, ∃ l', risTo l' l'.length = true ∧ ∀ c, c ∈ l' ↔ c ∈ L
  | [] => ⟨[], rfl, fun c => Iff.rfl⟩
  | x :: L => by
    obtain ⟨l, hr, hm⟩ := ord_ex L
    obtain ⟨l', hw⟩ := with_ex hr x
    exact ⟨l', hw.1, fun c => by rw [hw.2.1, hm, List.mem_cons]⟩
theorem pick_ex {p : Cl → Bool} (L : List Cl) (h : ∀ c, p c = true → c ∈ L) : ∃ l', risTo l' l'.length = true ∧ ∀ c, c ∈ l' ↔ p c = true := by
  obtain ⟨l', hr, hm⟩ := ord_ex (L.filter p)
  exact ⟨l', hr, fun c => by rw [hm, List.mem_filter]; exact ⟨fun h => h.2, fun hp => ⟨h c hp, hp⟩⟩⟩
theorem nxt_ex (l : List Cl) : ∃ l', risTo l' l'.length = true ∧ ∀ c, c ∈ l' ↔ nxtB l c = true :=
  pick_ex (l.flatMap blk) (fun c h => by
    obtain ⟨x, hx, hn⟩ := nxt_near h
    rw [List.mem_flatMap]
    exact ⟨x, hx, near_blk hn⟩)
theorem pickL_spec (l : List Cl) : risTo (pickL (nxtB l)) (pickL (nxtB l)).length = true ∧ ∀ c, c ∈ pickL (nxtB l) ↔ nxtB l c = true := by
  obtain ⟨l', h1, h2⟩ := nxt_ex l
  rw [pickL_eq h1 h2]
  exact ⟨h1, h2⟩

/-- A cell, moved. -/
def sh (x y : Int) (c : Cl) : Cl := (c.1 + x, c.2 + y)
theorem sh_inj {x y : Int} {c d : Cl} (h : sh x y c = sh x y d) : c = d := by
  obtain ⟨a, b⟩ := c
  obtain ⟨u, v⟩ := d
  simp only [sh, Prod.mk.injEq] at h ⊢
  omega
theorem sh_back (x y : Int) (c : Cl) : sh x y (sh (-x) (-y) c) = c := by
  obtain ⟨a, b⟩ := c
  simp only [sh, Prod.mk.injEq]
  omega
theorem mv_sh (l : List Cl) (x y : Int) : mv l x y = l.map (sh x y) := rfl
theorem mem_mv {l : List Cl} {x y : Int} {c : Cl} : sh x y c ∈ mv l x y ↔ c ∈ l := by
  rw [mv_sh, List.mem_map]
  exact ⟨fun ⟨d, hd, e⟩ => sh_inj e ▸ hd, fun h => ⟨c, h, rfl⟩⟩
theorem nearB_iff (c d : Cl) : nearB c d = true ↔ ¬ (d.1 = c.1 ∧ d.2 = c.2) ∧ -1 ≤ d.1 - c.1 ∧ d.1 - c.1 ≤ 1 ∧ -1 ≤ d.2 - c.2 ∧ d.2 - c.2 ≤ 1 := by
  unfold nearB
  simp only [Bool.and_eq_true, decide_eq_true_eq, ne_eq, Prod.ext_iff, and_assoc]
theorem nearB_sh (x y : Int) (c d : Cl) : nearB (sh x y c) (sh x y d) = nearB c d := by
  rw [Bool.eq_iff_iff, nearB_iff, nearB_iff]
  show (¬ (d.1 + x = c.1 + x ∧ d.2 + y = c.2 + y) ∧ -1 ≤ d.1 + x - (c.1 + x) ∧ d.1 + x - (c.1 + x) ≤ 1 ∧ -1 ≤ d.2 + y - (c.2 + y) ∧ d.2 + y - (c.2 + y) ≤ 1) ↔ _
  constructor
  · intro h; omega
  · intro h; omega
theorem near_mv (l : List Cl) (x y : Int) (c : Cl) : near (mv l x y) (sh x y c) = near l c := by
  unfold near
  rw [mv_sh, List.countP_map]
  congr 1
  funext d
  exact nearB_sh x y c d
theorem nxt_mv (l : List Cl) (x y : Int) (c : Cl) : nxtB (mv l x y) (sh x y c) = nxtB l c := by
  unfold nxtB kp
  rw [near_mv]
  congr 2
  simp only [mem_mv]
theorem ltC_sh (x y : Int) (c d : Cl) : ltC (sh x y c) (sh x y d) = ltC c d := by
  obtain ⟨a, b⟩ := c
  obtain ⟨u, v⟩ := d
  simp [ltC, sh]
theorem ris_mv {l : List Cl} (x y : Int) (h : risTo l l.length = true) : risTo (mv l x y) (mv l x y).length = true := by
  refine ris_of fun i hi => ?_
  rw [mv_length] at hi
  have at_mv : ∀ j, j < l.length → at_ (mv l x y) j = sh x y (at_ l j) := by
    intro j hj
    simp [at_, mv_sh, hj]
  rw [at_mv i (by omega), at_mv (i + 1) hi, ltC_sh]
  exact ris_next h hi
/-- Moving and stepping may change places. -/
theorem pick_mv (l : List Cl) (x y : Int) : pickL (nxtB (mv l x y)) = mv (pickL (nxtB l)) x y := by
  obtain ⟨h1, h2⟩ := pickL_spec l
  refine pickL_eq (ris_mv x y h1) (fun c => ?_)
  have e := sh_back x y c
  rw [← e, mem_mv, h2, nxt_mv]
theorem times_mv (x y : Int) : ∀ (n : Nat) (l s m : List Cl), timesO n l = some s → timesO n (mv l x y) = some m → m = mv s x y
  | 0, l, s, m, h1, h2 => by
    simp only [timesO, Option.some.injEq] at h1 h2
    rw [← h2, ← h1]
  | n + 1, l, s, m, h1, h2 => by
    simp only [timesO] at h1 h2
    have e1 : ∀ k s', (nxtO k).bind (timesO n) = some s' → nxtO k = some (pickL (nxtB k)) ∧ timesO n (pickL (nxtB k)) = some s' := by
      intro k s' h
      unfold nxtO at h ⊢
      split
      · rename_i hg; rw [if_pos hg] at h; exact ⟨rfl, h⟩
      · rename_i hg; rw [if_neg hg] at h; cases h
    obtain ⟨_, a1⟩ := e1 l s h1
    obtain ⟨_, a2⟩ := e1 (mv l x y) m h2
    rw [pick_mv] at a2
    exact times_mv x y n _ _ _ a1 a2
/-- Steps add up. -/
theorem times_add : ∀ (m n : Nat) (l : List Cl), timesO (m + n) l = (timesO m l).bind (timesO n)
  | 0, n, l => by simp [timesO]
  | m + 1, n, l => by
    rw [show m + 1 + n = m + n + 1 by omega]
    simp only [timesO]
    cases nxtO l with
    | none => rfl
    | some k => exact times_add m n k
theorem mv_mv (l : List Cl) (x y : Int) : mv (mv l x y) (-x) (-y) = l := by
  rw [mv_sh, mv_sh, List.map_map]
  conv => rhs; rw [← List.map_id l]
  congr 1
  funext c
  obtain ⟨a, b⟩ := c
  simp only [Function.comp, sh, id, Prod.mk.injEq]
  omega
end Go.Proofs.Ytgfdkolhldbehaa

namespace Go.Proofs.Ytgfdkolhldbehaa
open Go.RowKit Go.Maps
set_option linter.unusedVariables false

/-- What BothCells answers. -/
noncomputable def bothOk (l m : List Cl) : Bool := good l && good m && good (ordL (l ++ m))
noncomputable def bothL (l m : List Cl) : List Cl := if good l && good m then tellV (ordL (l ++ m)) else []
theorem bothL_le (l m : List Cl) : (bothL l m).length ≤ 120 := by
  unfold bothL; split
  · exact tellV_le _
  · simp

theorem inR_fits {c : Cl} (h : inR c = true) : fits c := by
  have := inR_bd h
  unfold fits; omega
theorem good_fits {l : List Cl} (h : good l = true) : ∀ c ∈ l, fits c := by
  intro c hc
  obtain ⟨i, hi, rfl⟩ := mem_at.1 hc
  exact inR_fits (good_in h i hi)
theorem cnt_two (l m : List Cl) : (List.range 2).flatMap (fun i => if i = 0 then l else m) = l ++ m := by simp [List.range_succ]

set_option maxHeartbeats 1000000 in
theorem c_iBothCells (a b : Option Addr) (l m : List Cl) (ca cb : Nat) (w : World) (ha : Seg w a l) (hb : Seg w b m) (hl : l.length ≤ 1048576) (hm : m.length ≤ 1048576) :
    Calls Try.prog 26 #[.slice a l.length ca, .slice b m.length cb] w fun e w' => ∃ v, e = .returned (.tuple #[v, .bool (bothOk l m)]) ∧ OwnS w' w.heap.size v (bothL l m) ∧ Below w.heap.size w w' := by
  cases hg : good l
  · have HC := hid (c_iGood' a l ca false hg _ ha hl)
    have HV : Hid (bothL l m = [] ∧ bothOk l m = false) := by simp [Hid, bothL, bothOk, hg]
    clear ha hb
    go_enter Try.func26, Try.ntmps26
    go_wp2_with fail
    refine HC.out.mono ?_
    rintro e w1 ⟨rfl, hb1⟩
    go_wp2
    go_ret2
    exact ⟨_, by rw [HV.out.2]; rfl, by rw [HV.out.1]; exact OwnS.nil _ _, hb1⟩
  · have HC := hid (c_iGood' a l ca true hg _ ha hl)
    cases hg2 : good m
    · have HV : Hid (bothL l m = [] ∧ bothOk l m = false) := by simp [Hid, bothL, bothOk, hg, hg2]
      have HBB := hid hb
      clear ha hb
      go_enter Try.func26, Try.ntmps26
      go_wp2_with fail
      refine HC.out.mono ?_
      rintro e w1 ⟨rfl, hb1⟩
      have HB1 := hid hb1
      clear hb1
      go_wp2_with fail
      refine (c_iGood' b m cb false hg2 _ (HBB.out.below HB1.out) hm).mono ?_
      rintro e w2 ⟨rfl, hb2⟩
      go_wp2
      go_ret2
      exact ⟨_, by rw [HV.out.2]; rfl, by rw [HV.out.1]; exact OwnS.nil _ _, HB1.out.trans (hb2.mono HB1.out.size)⟩
    · have hl1 := good_le hg
      have hl2 := good_le hg2
      have HF1 := hid (good_fits hg)
      have HF2 := hid (good_fits hg2)
      have HBB := hid hb
      have HAA := hid ha
      clear ha hb
      go_enter Try.func26, Try.ntmps26
      go_wp2_with fail
      refine HC.out.mono ?_
      rintro e w1 ⟨rfl, hb1⟩
      have HB1 := hid hb1
      clear hb1
      go_wp2_with fail
      refine (c_iGood' b m cb true hg2 _ (HBB.out.below HB1.out) hm).mono ?_
      rintro e w2 ⟨rfl, hb2⟩
      have HB2 := hid (HB1.out.trans (hb2.mono HB1.out.size))
      clear hb2 HC HB1
      go_wp2_with fail
      have hz0 : (w2.alloc (.cells #[.slice a l.length ca, .slice b m.length cb] 23)).heap.size = w2.heap.size + 1 := by simp
      have HB0 := hid (HB2.out.alloc HB2.out.size (.cells #[.slice a l.length ca, .slice b m.length cb] 23))
      refine (c_countsOf w2.heap.size 2 (fun i => if i = 0 then a else b) (fun i => if i = 0 then ca else cb) (fun i => if i = 0 then l else m) _ (by omega) (by simp)
        (fun i hi => by
          rcases (show i = 0 ∨ i = 1 by omega) with e | e
          · subst e; exact cell_new0 w2 _ _ _
          · subst e; exact cell_new1 w2 _ _ _)
        (fun i _ => by
          by_cases e : i = 0
          · simp only [e, if_true]; exact HAA.out.below HB0.out
          · simp only [e, if_false]; exact HBB.out.below HB0.out)
        (fun i _ => by by_cases e : i = 0 <;> simp only [e, if_true, if_false] <;> omega)
        (fun i _ => by
          by_cases e : i = 0
          · simp only [e, if_true]; exact HF1.out
          · simp only [e, if_false]; exact HF2.out)).mono ?_
      rintro e w3 ⟨rfl, hC1, hb3⟩
      rw [cnt_two] at hC1
      rw [hz0] at hC1 hb3
      have HC1 := hid hC1
      have HB3 := hid (HB0.out.trans (hb3.mono (by have := HB2.out.size; omega)))
      clear hC1 hb3 hz0 HB0
      go_wp2_with fail
      refine (c_inOrder _ _ _ _ w3 HC1.out (by rw [List.length_append]; omega)).mono ?_
      rintro e w4 ⟨v2, r, rfl, hO2, hr2, hm2, hl3, hb4⟩
      have hm2' : ∀ c, c ∈ r ↔ c ∈ l ++ m := fun c => by
        rw [hm2, decide_eq_true_eq]
        refine ⟨fun h => h.2, fun h => ⟨?_, h⟩⟩
        rw [List.mem_append] at h
        exact h.elim (HF1.out c) (HF2.out c)
      have HV : Hid (bothL l m = tellV r ∧ bothOk l m = good r) := by simp [Hid, bothL, bothOk, hg, hg2, ordL_eq hr2 hm2']
      obtain ⟨a2, c2, rfl, hs2⟩ := hO2.form
      have HB4 := hid (HB3.out.trans (hb4.mono HB3.out.size))
      have HS := hid hs2
      have HO := hid hO2
      rw [List.length_append] at hl3
      clear hs2 hO2 hr2 hm2 hm2' hb4
      go_wp2_with fail
      refine (c_onlyGood a2 r c2 w3.heap.size w4 HO.out HS.out (by omega)).mono ?_
      rintro e w5 ⟨v, rfl, hO5, hB5⟩
      go_wp2
      go_ret2
      exact ⟨_, by rw [HV.out.2]; rfl, by rw [HV.out.1]; exact hO5.mono HB3.out.size, HB4.out.trans (hB5.mono HB4.out.size)⟩
end Go.Proofs.Ytgfdkolhldbehaa
