/- Texts of this seat, one behind the other: SmW. -/
import Derived.Test.YtgppcocfnbalfaaDoorWdF
import Derived.Test.YtgppcocfnbalfaaDoorBoxS
import Derived.StillTailTactics
import Derived.Deep.RegionHeld3
namespace Go.Proofs.YtgppcocfnbalfaaDoor
open Go.RowKit
set_option linter.unusedVariables false
set_option linter.unusedSimpArgs false
attribute [local go_sem ↓] Go.wp_at_zero Go.wp_at_succ

theorem take_oneW {l m : List Cl} {k : Nat} (h1 : k < l.length) (h2 : k < m.length) (ht : l.take k = m.take k) (h : at_ l k = at_ m k) : l.take (k + 1) = m.take (k + 1) := by
  rw [List.take_succ_eq_append_getElem h1, List.take_succ_eq_append_getElem h2, ht]
  simp [at_, h1, h2] at h
  rw [h]

set_option maxHeartbeats 1000000 in
set_option maxRecDepth 100000 in
theorem c_l6Same (a b : Option Addr) (l m : List Cl) (ca cb : Nat) (w : World) (ha : Seg w a l) (hb : Seg w b m) (hl : l.length ≤ 1048576) (hm : m.length ≤ 1048576) :
    Calls Tryd.prog 36 #[.slice a l.length ca, .slice b m.length cb] w fun e w' => e = .returned (.bool (decide (l = m))) ∧ Below w.heap.size w w' := by
  by_cases hlm : l.length = m.length
  · have hlm' : ((l.length : Int) != (m.length : Int)) = false := by simp [hlm]
    have HLM : Hid (l.length = m.length) := hlm
    have hle : l.length ≤ m.length := by omega
    clear hlm
    go_enter Tryd.func36, Tryd.ntmps36
    go_wp2
    go_loopw [13] (fun i wr => ∃ k : Nat, k ≤ l.length ∧ i = .int .i64 k ∧ Hid (l.take k = m.take k) ∧ Below w.heap.size w wr) (fun i _ => l.length - (intOf i).toNat)
    case atStart => exact ⟨0, Nat.zero_le _, rfl, (rfl : _ = _), Below.refl _ _⟩
    case round =>
      obtain ⟨k, hk, rfl, ht, hbel⟩ := hrel
      by_cases hlt : k < l.length
      · obtain ⟨b1, o1, rfl, hb1, p1, p2⟩ := (ha k hlt)
        obtain ⟨b2, o2, rfl, hb2, q1, q2⟩ := (hb k (by omega))
        have g1 := (hbel.cell (p := ⟨b1, o1 + k * 2, none⟩) hb1).trans p1
        have g2 := (hbel.cell (p := ⟨b1, o1 + k * 2 + 1, none⟩) hb1).trans p2
        have g3 := (hbel.cell (p := ⟨b2, o2 + k * 2, none⟩) hb2).trans q1
        have g4 := (hbel.cell (p := ⟨b2, o2 + k * 2 + 1, none⟩) hb2).trans q2
        change _ = some (Value.int .i64 (at_ l k).1) at g1
        change _ = some (Value.int .i64 (at_ l k).2) at g2
        change _ = some (Value.int .i64 (at_ m k).1) at g3
        change _ = some (Value.int .i64 (at_ m k).2) at g4
        clear p1 p2 q1 q2
        have HT := hid (fun h : at_ l k = at_ m k => take_oneW hlt (by omega) ht.out h)
        have HF := hid (show ¬ at_ l k = at_ m k → decide (l = m) = false from fun h => by simp; intro e; exact h (by rw [e]))
        have HB := hid (hbel.trans (((Below.refl wr.heap.size wr).drew).mono hbel.size))
        clear hbel
        generalize at_ l k = x at *
        generalize at_ m k = y at *
        have k0 : (0 : Int) ≤ (k : Int) := by omega
        have k1 : (k : Int) < (l.length : Int) := by omega
        have k2 : (k : Int) < (m.length : Int) := by omega
        by_cases hx1 : x.1 = y.1
        · by_cases hx2 : x.2 = y.2
          · have HT' := hid (HT.out (Prod.ext hx1 hx2))
            go_wp2
            go_still (by kernel_rfl)
            go_wp2
            go_roundw
            case rel => exact ⟨k + 1, by omega, by go_num, HT'.out, HB.out⟩
            case measure => simp [intOf]; omega
          · have HF' := hid (HF.out (fun e => hx2 (by rw [e])))
            have hb2 : (x.2 == y.2) = false := beq_eq_false_iff_ne.2 hx2
            go_wp2
            go_still (by kernel_rfl)
            go_wp2
            go_ret
            exact ⟨ret_bool HF'.out.symm, HB.out⟩
        · have HF' := hid (HF.out (fun e => hx1 (by rw [e])))
          have hb2 : (x.1 == y.1) = false := beq_eq_false_iff_ne.2 hx1
          go_wp2
          go_still (by kernel_rfl)
          go_wp2
          go_ret
          exact ⟨ret_bool HF'.out.symm, HB.out⟩
      · go_wp2
        go_ret
        have e1 : l.take k = l := List.take_of_length_le (by omega)
        have e2 : m.take k = m := List.take_of_length_le (by have := HLM.out; omega)
        have e3 := ht.out
        rw [e1, e2] at e3
        exact ⟨ret_bool (by simp [e3]), hbel⟩
  · have hlm' : ((l.length : Int) != (m.length : Int)) = true := by simp; omega
    go_enter Tryd.func36, Tryd.ntmps36
    go_wp2
    go_ret
    exact ⟨ret_bool (by simp; intro e; exact hlm (by rw [e])), Below.refl _ _⟩

set_option maxHeartbeats 1000000 in
set_option maxRecDepth 100000 in
theorem c_slicesEqual (a b : Option Addr) (l m : List Cl) (ca cb : Nat) (w : World) (ha : Seg w a l) (hb : Seg w b m) (hl : l.length ≤ 1048576) (hm : m.length ≤ 1048576) :
    Calls Tryd.prog 34 #[.slice a l.length ca, .slice b m.length cb] w fun e w' => e = .returned (.bool (decide (l = m))) ∧ Below w.heap.size w w' := by
  by_cases hlm : l.length = m.length
  · have hlm' : ((l.length : Int) != (m.length : Int)) = false := by simp [hlm]
    have HLM : Hid (l.length = m.length) := hlm
    have hle : l.length ≤ m.length := by omega
    clear hlm
    go_enter Tryd.func34, Tryd.ntmps34
    go_wp2
    go_loopw [13] (fun i wr => ∃ k : Nat, k ≤ l.length ∧ i = .int .i64 k ∧ Hid (l.take k = m.take k) ∧ Below w.heap.size w wr) (fun i _ => l.length - (intOf i).toNat)
    case atStart => exact ⟨0, Nat.zero_le _, rfl, (rfl : _ = _), Below.refl _ _⟩
    case round =>
      obtain ⟨k, hk, rfl, ht, hbel⟩ := hrel
      by_cases hlt : k < l.length
      · obtain ⟨b1, o1, rfl, hb1, p1, p2⟩ := (ha k hlt)
        obtain ⟨b2, o2, rfl, hb2, q1, q2⟩ := (hb k (by omega))
        have g1 := (hbel.cell (p := ⟨b1, o1 + k * 2, none⟩) hb1).trans p1
        have g2 := (hbel.cell (p := ⟨b1, o1 + k * 2 + 1, none⟩) hb1).trans p2
        have g3 := (hbel.cell (p := ⟨b2, o2 + k * 2, none⟩) hb2).trans q1
        have g4 := (hbel.cell (p := ⟨b2, o2 + k * 2 + 1, none⟩) hb2).trans q2
        change _ = some (Value.int .i64 (at_ l k).1) at g1
        change _ = some (Value.int .i64 (at_ l k).2) at g2
        change _ = some (Value.int .i64 (at_ m k).1) at g3
        change _ = some (Value.int .i64 (at_ m k).2) at g4
        clear p1 p2 q1 q2
        have HT := hid (fun h : at_ l k = at_ m k => take_oneW hlt (by omega) ht.out h)
        have HF := hid (show ¬ at_ l k = at_ m k → decide (l = m) = false from fun h => by simp; intro e; exact h (by rw [e]))
        have HB := hid (hbel.trans (((Below.refl wr.heap.size wr).drew).mono hbel.size))
        clear hbel
        generalize at_ l k = x at *
        generalize at_ m k = y at *
        have k0 : (0 : Int) ≤ (k : Int) := by omega
        have k1 : (k : Int) < (l.length : Int) := by omega
        have k2 : (k : Int) < (m.length : Int) := by omega
        by_cases hx1 : x.1 = y.1
        · by_cases hx2 : x.2 = y.2
          · have HT' := hid (HT.out (Prod.ext hx1 hx2))
            go_wp2
            go_still (by kernel_rfl)
            go_wp2
            go_roundw
            case rel => exact ⟨k + 1, by omega, by go_num, HT'.out, HB.out⟩
            case measure => simp [intOf]; omega
          · have HF' := hid (HF.out (fun e => hx2 (by rw [e])))
            have hb2 : (x.2 == y.2) = false := beq_eq_false_iff_ne.2 hx2
            go_wp2
            go_still (by kernel_rfl)
            go_wp2
            go_ret
            exact ⟨ret_bool HF'.out.symm, HB.out⟩
        · have HF' := hid (HF.out (fun e => hx1 (by rw [e])))
          have hb2 : (x.1 == y.1) = false := beq_eq_false_iff_ne.2 hx1
          go_wp2
          go_still (by kernel_rfl)
          go_wp2
          go_ret
          exact ⟨ret_bool HF'.out.symm, HB.out⟩
      · go_wp2
        go_ret
        have e1 : l.take k = l := List.take_of_length_le (by omega)
        have e2 : m.take k = m := List.take_of_length_le (by have := HLM.out; omega)
        have e3 := ht.out
        rw [e1, e2] at e3
        exact ⟨ret_bool (by simp [e3]), hbel⟩
  · have hlm' : ((l.length : Int) != (m.length : Int)) = true := by simp; omega
    go_enter Tryd.func34, Tryd.ntmps34
    go_wp2
    go_ret
    exact ⟨ret_bool (by simp; intro e; exact hlm (by rw [e])), Below.refl _ _⟩


theorem home_le (l : List Cl) : (home l).length ≤ l.length := by
  unfold home; split
  · rw [mv_length]; exact Nat.le_refl _
  · simp
theorem box_good {l : List Cl} (h : boxOk l = true) : good l = true := by simp [boxOk] at h; exact h.1

set_option maxHeartbeats 2000000 in
set_option maxRecDepth 100000 in
theorem c_l6Home (a : Option Addr) (l : List Cl) (ca : Nat) (w : World) (ha : Seg w a l) (hl : l.length ≤ 1048576) :
    Calls Tryd.prog 37 #[.slice a l.length ca] w fun e w' => ∃ v, e = .returned v ∧ OwnS w' w.heap.size v (home l) ∧ Below w.heap.size w w' := by
  have HBX := hid (c_sBoxOf a l ca _ ha hl)
  cases hbo : boxOk l
  · have HV := hid (show home l = [] by simp [home, hbo])
    rw [hbo] at HBX
    clear ha
    go_enter Tryd.func37, Tryd.ntmps37
    go_wp2_with fail
    refine HBX.out.mono ?_
    rintro e w1 ⟨rfl, b1⟩
    have k1 := (Below.refl w1.heap.size w1).alloc (Nat.le_refl _) (.cells #[.int .i64 (boxLo l).1, .int .i64 (boxLo l).2] 29)
    have k2 := k1.alloc k1.size (.cells #[.int .i64 (boxHi l).1, .int .i64 (boxHi l).2] 29)
    have B1 := hid (b1.trans (k2.mono b1.size))
    clear k1 k2 b1
    go_wp2
    go_ret
    exact ⟨_, rfl, by rw [HV.out]; exact OwnS.nil _ _, B1.out⟩
  · have HV := hid (show home l = mv l (-(boxLo l).1) (-(boxLo l).2) by simp [home, hbo])
    rw [hbo] at HBX
    obtain ⟨hlo, _⟩ := box_reach hbo
    simp only [inR, Bool.and_eq_true, decide_eq_true_eq] at hlo
    have HIN := hid (good_in (box_good hbo))
    go_enter Tryd.func37, Tryd.ntmps37
    go_wp2_with fail
    refine HBX.out.mono ?_
    rintro e w1 ⟨rfl, b1⟩
    have k1 := (Below.refl w1.heap.size w1).alloc (Nat.le_refl _) (.cells #[.int .i64 (boxLo l).1, .int .i64 (boxLo l).2] 29)
    have k2 := (Below.refl (w1.alloc (.cells #[.int .i64 (boxLo l).1, .int .i64 (boxLo l).2] 29)).heap.size (w1.alloc (.cells #[.int .i64 (boxLo l).1, .int .i64 (boxLo l).2] 29))).alloc (Nat.le_refl _) (.cells #[.int .i64 (boxHi l).1, .int .i64 (boxHi l).2] 29)
    have RA := hid ((WRow.new w1 (.int .i64 (boxLo l).1) (boxLo l).2 29).below k2)
    have HA := hid (((ha.below b1).below k1).below k2)
    have B1 := hid ((b1.trans (k1.mono b1.size)).trans (k2.mono (by have := b1.size; have := k1.size; omega)))
    clear k1 k2 b1 ha
    have x0 := RA.out.c0
    have x1 := RA.out.c1
    go_wp2_with fail
    generalize boxLo l = lo at *
    refine (c_l1Move a l ca (-lo.1) (-lo.2) _ HA.out hl HIN.out (by omega) (by omega)).mono ?_
    rintro e w2 ⟨v, rfl, hO, b2⟩
    go_wp2
    go_ret
    exact ⟨_, rfl, by rw [HV.out]; exact hO.mono B1.out.size, B1.out.trans (b2.mono B1.out.size)⟩

set_option maxHeartbeats 2000000 in
set_option maxRecDepth 100000 in
theorem c_fromFirst (a : Option Addr) (l : List Cl) (ca : Nat) (w : World) (ha : Seg w a l) (hl : l.length ≤ 1048576) (hg : good l = true) :
    Calls Tryd.prog 35 #[.slice a l.length ca] w fun e w' => ∃ v, e = .returned v ∧ OwnS w' w.heap.size v (firstL l) ∧ Below w.heap.size w w' := by
  by_cases h0 : l.length = 0
  · have e0 := List.eq_nil_of_length_eq_zero h0
    subst e0
    clear h0
    go_enter Tryd.func35, Tryd.ntmps35
    go_wp2
    go_ret
    exact ⟨_, rfl, OwnS.nil _ _, Below.refl _ _⟩
  · have hpos : ¬ (l.length : Int) = 0 := by omega
    have hp1 : ((l.length : Int) == 0) = false := by simpa using hpos
    have hp2 : (0 : Int) < (l.length : Int) := by omega
    have hp3 : 0 < l.length := by omega
    have hp4 : ¬ l.length = 0 := by omega
    have HIN := hid (good_in hg)
    have hin := good_in hg 0 (by omega)
    simp only [inR, Bool.and_eq_true, decide_eq_true_eq] at hin
    obtain ⟨b1, o1, rfl, hb1, p1, p2⟩ := ha 0 (by omega)
    have HA := hid (ha.below ((Below.refl w.heap.size w).drew))
    have HD := hid ((Below.refl w.heap.size w).drew)
    have HF := hid (show firstL l = mv l (-(at_ l 0).1) (-(at_ l 0).2) from rfl)
    change _ = some (Value.int .i64 (at_ l 0).1) at p1
    change _ = some (Value.int .i64 (at_ l 0).2) at p2
    rw [Nat.zero_mul, Nat.add_zero] at p1 p2
    clear ha h0 hpos hg
    generalize at_ l 0 = c at *
    have E1 := hid (show IntKind.i64.wrap (-c.1) = -c.1 from IntWalk.i64_in _ ⟨by omega, by omega⟩)
    have E2 := hid (show IntKind.i64.wrap (-c.2) = -c.2 from IntWalk.i64_in _ ⟨by omega, by omega⟩)
    go_enter Tryd.func35, Tryd.ntmps35
    go_wp2_with fail
    go_region_held3 (fun W => W.cell? ⟨b1, o1, none⟩ = some (.int .i64 c.1) ∧ W.cell? ⟨b1, o1 + 1, none⟩ = some (.int .i64 c.2))
      (first | exact ⟨p1, p2⟩ | exact ⟨(b2.cell (p := ⟨b1, o1, none⟩) hb1).trans p1, (b2.cell (p := ⟨b1, o1 + 1, none⟩) hb1).trans p2⟩ | go_keep)
      (first | (go_at_call 49; rw [E1.out, E2.out]; refine (c_moveFreely (some ⟨b1, o1, none⟩) l ca (-c.1) (-c.2) _ HA.out hl HIN.out (by omega) (by omega)).mono ?_; rintro e w2 ⟨rfl, hR, b2⟩))
    go_wp2_with fail
    go_ret
    have := hR.own (by rw [mv_length]; exact hl)
    rw [mv_length] at this
    exact ⟨_, rfl, by rw [HF.out]; exact this.mono HD.out.size, HD.out.trans (b2.mono HD.out.size)⟩

/-! ### SameWorld -/
def smOk (l m : List Cl) (s t : Int) : Bool := gw l s && gw m t
def smB (l m : List Cl) (s t : Int) : Bool := smOk l m s t && decide (s = t) && decide (home l = home m)
theorem sm_first {l m : List Cl} {s t : Int} (hl : gw l s = true) (hm : gw m t = true) : decide (firstL l = firstL m) = decide (home l = home m) := by
  simp only [gw, Bool.and_eq_true] at hl hm
  exact decide_eq_decide.2 (same_iff hl.1 hm.1)

set_option maxHeartbeats 4000000 in
set_option maxRecDepth 100000 in
theorem c_sSameWorld (a b : Option Addr) (l m : List Cl) (ca cb : Nat) (s t : Int) (w : World) (ha : Seg w a l) (hb : Seg w b m) (hl : l.length ≤ 1048576) (hm : m.length ≤ 1048576) :
    Calls Tryd.prog 15 #[.agg #[.slice a l.length ca, .int .i64 s], .agg #[.slice b m.length cb, .int .i64 t]] w fun e w' => e = .returned (.tuple #[.bool (smB l m s t), .bool (smOk l m s t)]) ∧ Below w.heap.size w w' := by
  have h1 := (Below.refl w.heap.size w).alloc (Nat.le_refl _) (.cells #[.slice a l.length ca, .int .i64 s] 25)
  have h2 := (Below.refl (w.alloc (.cells #[.slice a l.length ca, .int .i64 s] 25)).heap.size (w.alloc (.cells #[.slice a l.length ca, .int .i64 s] 25))).alloc (Nat.le_refl _) (.cells #[.slice b m.length cb, .int .i64 t] 25)
  have h3 := h1.trans (h2.mono h1.size)
  have RA := hid ((WRow.new w (.slice a l.length ca) s 25).below h2)
  have RB := hid (WRow.new (w.alloc (.cells #[.slice a l.length ca, .int .i64 s] 25)) (.slice b m.length cb) t 25)
  rw [show (w.alloc (.cells #[.slice a l.length ca, .int .i64 s] 25)).heap.size = w.heap.size + 1 by simp] at RB
  have HA := hid (ha.below h3)
  have HM := hid (hb.below h3)
  have HB := hid h3
  clear ha hb h1 h2 h3
  cases hg : gw l s
  · have HV := hid (show smB l m s t = false ∧ smOk l m s t = false by simp [smB, smOk, hg])
    have HC := hid (fun (W : World) (h : Seg W a l) => c_sGoodWorld' a l ca s false hg W h hl)
    go_enter Tryd.func15, Tryd.ntmps15
    have x0 := RA.out.c0
    have x1 := RA.out.c1
    go_wp2_with fail
    refine (HC.out _ HA.out).mono ?_
    rintro e w1 ⟨rfl, b1⟩
    go_wp2
    go_ret2
    exact ⟨by rw [HV.out.1, HV.out.2]; rfl, HB.out.trans (b1.mono HB.out.size)⟩
  · have HC := hid (fun (W : World) (h : Seg W a l) => c_sGoodWorld' a l ca s true hg W h hl)
    cases hgm : gw m t
    · have HV := hid (show smB l m s t = false ∧ smOk l m s t = false by simp [smB, smOk, hgm])
      have HD := hid (fun (W : World) (h : Seg W b m) => c_sGoodWorld' b m cb t false hgm W h hm)
      go_enter Tryd.func15, Tryd.ntmps15
      have x0 := RA.out.c0
      have x1 := RA.out.c1
      go_wp2_with fail
      refine (HC.out _ HA.out).mono ?_
      rintro e w1 ⟨rfl, b1⟩
      replace RB := hid (RB.out.below b1)
      replace HM := hid (HM.out.below b1)
      replace HB := hid (HB.out.trans (b1.mono HB.out.size))
      clear x0 x1 b1
      have x0 := RB.out.c0
      have x1 := RB.out.c1
      go_wp2_with fail
      refine (HD.out _ HM.out).mono ?_
      rintro e w2 ⟨rfl, b2⟩
      go_wp2
      go_ret2
      exact ⟨by rw [HV.out.1, HV.out.2]; rfl, HB.out.trans (b2.mono HB.out.size)⟩
    · have HD := hid (fun (W : World) (h : Seg W b m) => c_sGoodWorld' b m cb t true hgm W h hm)
      have HFI := hid (sm_first hg hgm)
      have HG1 := hid (show good l = true by simp only [gw, Bool.and_eq_true] at hg; exact hg.1)
      have HG2 := hid (show good m = true by simp only [gw, Bool.and_eq_true] at hgm; exact hgm.1)
      have HV1 := hid (show smOk l m s t = true by simp [smOk, hg, hgm])
      by_cases hst : s = t
      · subst hst
        have HV := hid (show smB l m s s = decide (home l = home m) by simp [smB, smOk, hg, hgm])
        go_enter Tryd.func15, Tryd.ntmps15
        have x0 := RA.out.c0
        have x1 := RA.out.c1
        go_wp2_with fail
        refine (HC.out _ HA.out).mono ?_
        rintro e w1 ⟨rfl, b1⟩
        replace RA := hid (RA.out.below b1)
        replace RB := hid (RB.out.below b1)
        replace HA := hid (HA.out.below b1)
        replace HM := hid (HM.out.below b1)
        replace HB := hid (HB.out.trans (b1.mono HB.out.size))
        clear x0 x1 b1
        have x0 := RB.out.c0
        have x1 := RB.out.c1
        go_wp2_with fail
        refine (HD.out _ HM.out).mono ?_
        rintro e w2 ⟨rfl, b2⟩
        replace RA := hid (RA.out.below b2)
        replace RB := hid (RB.out.below b2)
        replace HA := hid (HA.out.below b2)
        replace HM := hid (HM.out.below b2)
        replace HB := hid (HB.out.trans (b2.mono HB.out.size))
        clear x0 x1 b2 HC HD hg hgm
        have hd := (Below.refl w2.heap.size w2).drew
        have RA3 := hid (RA.out.below hd)
        have RB3 := hid (RB.out.below hd)
        have HA3 := hid (HA.out.below hd)
        have HM3 := hid (HM.out.below hd)
        have HB3 := hid (HB.out.trans (hd.mono HB.out.size))
        clear hd
        have x0 := RA.out.c0
        have x1 := RA.out.c1
        have y0 := RB.out.c0
        have y1 := RB.out.c1
        have HL1 := hid (home_le l)
        have HL2 := hid (home_le m)
        go_wp2_with fail
        go_region_held3 (fun W => W.cell? ⟨w.heap.size, 0, none⟩ = some (.slice a l.length ca) ∧ W.cell? ⟨w.heap.size, 1, none⟩ = some (.int .i64 s) ∧ W.cell? ⟨w.heap.size + 1, 0, none⟩ = some (.slice b m.length cb) ∧ W.cell? ⟨w.heap.size + 1, 1, none⟩ = some (.int .i64 s))
          (first | exact ⟨RA.out.c0, RA.out.c1, RB.out.c0, RB.out.c1⟩ | exact ⟨RA4.out.c0, RA4.out.c1, RB4.out.c0, RB4.out.c1⟩ | exact ⟨RA5.out.c0, RA5.out.c1, RB5.out.c0, RB5.out.c1⟩ | exact ⟨RA6.out.c0, RA6.out.c1, RB6.out.c0, RB6.out.c1⟩ | go_keep)
          (first
            | (go_at_call 36; refine (c_l6Same av bv (home l) (home m) cv dv _ HS5.out HO5.out.seg (by have := HL1.out; omega) (by have := HL2.out; omega)).mono ?_; rintro e w6 ⟨rfl, b6⟩; have RA6 := hid (RA5.out.below b6); have RB6 := hid (RB5.out.below b6); have HB6 := hid (HB5.out.trans (b6.mono HB5.out.size)))
            | (go_at_call 37; have _g := HO4; refine (c_l6Home b m cb _ HM4.out hm).mono ?_; rintro e w5 ⟨v5, rfl, o5, b5⟩; obtain ⟨bv, dv, rfl, _⟩ := o5.form; have HO5 := hid o5; have HS5 := hid ((HO4.out.below b5).seg); have RA5 := hid (RA4.out.below b5); have RB5 := hid (RB4.out.below b5); have HB5 := hid (HB4.out.trans (b5.mono HB4.out.size)); clear o5)
            | (go_at_call 37; refine (c_l6Home a l ca _ HA3.out hl).mono ?_; rintro e w4 ⟨v4, rfl, o4, b4⟩; obtain ⟨av, cv, rfl, _⟩ := o4.form; have HO4 := hid o4; have RA4 := hid (RA3.out.below b4); have RB4 := hid (RB3.out.below b4); have HM4 := hid (HM3.out.below b4); have HB4 := hid (HB3.out.trans (b4.mono HB3.out.size)); clear o4))
        go_wp2_with fail
        go_ret2
        exact ⟨by rw [HV1.out, HV.out]; rfl, HB6.out⟩
      · have HV := hid (show smB l m s t = false by simp [smB, hst])
        have hne : (s == t) = false := by simpa using hst
        have hne2 : decide (s = t) = false := by simpa using hst
        go_enter Tryd.func15, Tryd.ntmps15
        have x0 := RA.out.c0
        have x1 := RA.out.c1
        go_wp2_with fail
        refine (HC.out _ HA.out).mono ?_
        rintro e w1 ⟨rfl, b1⟩
        replace RA := hid (RA.out.below b1)
        replace RB := hid (RB.out.below b1)
        replace HM := hid (HM.out.below b1)
        replace HB := hid (HB.out.trans (b1.mono HB.out.size))
        clear x0 x1 b1
        have x0 := RB.out.c0
        have x1 := RB.out.c1
        go_wp2_with fail
        refine (HD.out _ HM.out).mono ?_
        rintro e w2 ⟨rfl, b2⟩
        replace RA := hid (RA.out.below b2)
        replace RB := hid (RB.out.below b2)
        replace HB := hid (HB.out.trans (b2.mono HB.out.size))
        clear x0 x1 HC HD hg hgm
        have x0 := RA.out.c0
        have x1 := RA.out.c1
        have y0 := RB.out.c0
        have y1 := RB.out.c1
        have hne0 := Gr.ne w2
        have g0 := fun g : Gr w2 => g.cell x1 (World.rowIs.lt RA.out)
        have g1 := fun g : Gr w2 => g.cell y1 (World.rowIs.lt RB.out)
        go_wp2
        refine wp_region_gr (by kernel_rfl) (by kernel_rfl) ?_
        repeat (go_big_quiet_step (fail))
        refine wpQuiet_nil ?_
        rintro _ ⟨g, rfl⟩
        clear g0 g1
        go_wp2
        go_ret2
        exact ⟨by rw [HV1.out, HV.out]; rfl, HB.out.trans (g.below.mono HB.out.size)⟩

set_option maxHeartbeats 4000000 in
set_option maxRecDepth 100000 in
theorem c_iSameWorld (a b : Option Addr) (l m : List Cl) (ca cb : Nat) (s t : Int) (w : World) (ha : Seg w a l) (hb : Seg w b m) (hl : l.length ≤ 1048576) (hm : m.length ≤ 1048576) :
    Calls Tryd.prog 14 #[.agg #[.slice a l.length ca, .int .i64 s], .agg #[.slice b m.length cb, .int .i64 t]] w fun e w' => e = .returned (.tuple #[.bool (smB l m s t), .bool (smOk l m s t)]) ∧ Below w.heap.size w w' := by
  have h1 := (Below.refl w.heap.size w).alloc (Nat.le_refl _) (.cells #[.slice a l.length ca, .int .i64 s] 25)
  have h2 := (Below.refl (w.alloc (.cells #[.slice a l.length ca, .int .i64 s] 25)).heap.size (w.alloc (.cells #[.slice a l.length ca, .int .i64 s] 25))).alloc (Nat.le_refl _) (.cells #[.slice b m.length cb, .int .i64 t] 25)
  have h3 := h1.trans (h2.mono h1.size)
  have RA := hid ((WRow.new w (.slice a l.length ca) s 25).below h2)
  have RB := hid (WRow.new (w.alloc (.cells #[.slice a l.length ca, .int .i64 s] 25)) (.slice b m.length cb) t 25)
  rw [show (w.alloc (.cells #[.slice a l.length ca, .int .i64 s] 25)).heap.size = w.heap.size + 1 by simp] at RB
  have HA := hid (ha.below h3)
  have HM := hid (hb.below h3)
  have HB := hid h3
  clear ha hb h1 h2 h3
  cases hg : gw l s
  · have HV := hid (show smB l m s t = false ∧ smOk l m s t = false by simp [smB, smOk, hg])
    have HC := hid (fun (W : World) (h : Seg W a l) => c_iGoodWorld' a l ca s false hg W h hl)
    go_enter Tryd.func14, Tryd.ntmps14
    have x0 := RA.out.c0
    have x1 := RA.out.c1
    go_wp2_with fail
    refine (HC.out _ HA.out).mono ?_
    rintro e w1 ⟨rfl, b1⟩
    go_wp2
    go_ret2
    exact ⟨by rw [HV.out.1, HV.out.2]; rfl, HB.out.trans (b1.mono HB.out.size)⟩
  · have HC := hid (fun (W : World) (h : Seg W a l) => c_iGoodWorld' a l ca s true hg W h hl)
    cases hgm : gw m t
    · have HV := hid (show smB l m s t = false ∧ smOk l m s t = false by simp [smB, smOk, hgm])
      have HD := hid (fun (W : World) (h : Seg W b m) => c_iGoodWorld' b m cb t false hgm W h hm)
      go_enter Tryd.func14, Tryd.ntmps14
      have x0 := RA.out.c0
      have x1 := RA.out.c1
      go_wp2_with fail
      refine (HC.out _ HA.out).mono ?_
      rintro e w1 ⟨rfl, b1⟩
      replace RB := hid (RB.out.below b1)
      replace HM := hid (HM.out.below b1)
      replace HB := hid (HB.out.trans (b1.mono HB.out.size))
      clear x0 x1 b1
      have x0 := RB.out.c0
      have x1 := RB.out.c1
      go_wp2_with fail
      refine (HD.out _ HM.out).mono ?_
      rintro e w2 ⟨rfl, b2⟩
      go_wp2
      go_ret2
      exact ⟨by rw [HV.out.1, HV.out.2]; rfl, HB.out.trans (b2.mono HB.out.size)⟩
    · have HD := hid (fun (W : World) (h : Seg W b m) => c_iGoodWorld' b m cb t true hgm W h hm)
      have HFI := hid (sm_first hg hgm)
      have HG1 := hid (show good l = true by simp only [gw, Bool.and_eq_true] at hg; exact hg.1)
      have HG2 := hid (show good m = true by simp only [gw, Bool.and_eq_true] at hgm; exact hgm.1)
      have HV1 := hid (show smOk l m s t = true by simp [smOk, hg, hgm])
      by_cases hst : s = t
      · subst hst
        have HV := hid (show smB l m s s = decide (home l = home m) by simp [smB, smOk, hg, hgm])
        go_enter Tryd.func14, Tryd.ntmps14
        have x0 := RA.out.c0
        have x1 := RA.out.c1
        go_wp2_with fail
        refine (HC.out _ HA.out).mono ?_
        rintro e w1 ⟨rfl, b1⟩
        replace RA := hid (RA.out.below b1)
        replace RB := hid (RB.out.below b1)
        replace HA := hid (HA.out.below b1)
        replace HM := hid (HM.out.below b1)
        replace HB := hid (HB.out.trans (b1.mono HB.out.size))
        clear x0 x1 b1
        have x0 := RB.out.c0
        have x1 := RB.out.c1
        go_wp2_with fail
        refine (HD.out _ HM.out).mono ?_
        rintro e w2 ⟨rfl, b2⟩
        replace RA := hid (RA.out.below b2)
        replace RB := hid (RB.out.below b2)
        replace HA := hid (HA.out.below b2)
        replace HM := hid (HM.out.below b2)
        replace HB := hid (HB.out.trans (b2.mono HB.out.size))
        clear x0 x1 b2 HC HD hg hgm
        have hd := (Below.refl w2.heap.size w2).drew
        have RA3 := hid (RA.out.below hd)
        have RB3 := hid (RB.out.below hd)
        have HA3 := hid (HA.out.below hd)
        have HM3 := hid (HM.out.below hd)
        have HB3 := hid (HB.out.trans (hd.mono HB.out.size))
        clear hd
        have x0 := RA.out.c0
        have x1 := RA.out.c1
        have y0 := RB.out.c0
        have y1 := RB.out.c1
        have HL1 := hid (show (firstL l).length ≤ l.length by unfold firstL; rw [mv_length]; exact Nat.le_refl _)
        have HL2 := hid (show (firstL m).length ≤ m.length by unfold firstL; rw [mv_length]; exact Nat.le_refl _)
        go_wp2_with fail
        go_region_held3 (fun W => W.cell? ⟨w.heap.size, 0, none⟩ = some (.slice a l.length ca) ∧ W.cell? ⟨w.heap.size, 1, none⟩ = some (.int .i64 s) ∧ W.cell? ⟨w.heap.size + 1, 0, none⟩ = some (.slice b m.length cb) ∧ W.cell? ⟨w.heap.size + 1, 1, none⟩ = some (.int .i64 s))
          (first | exact ⟨RA.out.c0, RA.out.c1, RB.out.c0, RB.out.c1⟩ | exact ⟨RA4.out.c0, RA4.out.c1, RB4.out.c0, RB4.out.c1⟩ | exact ⟨RA5.out.c0, RA5.out.c1, RB5.out.c0, RB5.out.c1⟩ | exact ⟨RA6.out.c0, RA6.out.c1, RB6.out.c0, RB6.out.c1⟩ | go_keep)
          (first
            | (go_at_call 34; refine (c_slicesEqual av bv (firstL l) (firstL m) cv dv _ HS5.out HO5.out.seg (by have := HL1.out; omega) (by have := HL2.out; omega)).mono ?_; rintro e w6 ⟨rfl, b6⟩; have RA6 := hid (RA5.out.below b6); have RB6 := hid (RB5.out.below b6); have HB6 := hid (HB5.out.trans (b6.mono HB5.out.size)))
            | (go_at_call 35; have _g := HO4; refine (c_fromFirst b m cb _ HM4.out hm HG2.out).mono ?_; rintro e w5 ⟨v5, rfl, o5, b5⟩; obtain ⟨bv, dv, rfl, _⟩ := o5.form; have HO5 := hid o5; have HS5 := hid ((HO4.out.below b5).seg); have RA5 := hid (RA4.out.below b5); have RB5 := hid (RB4.out.below b5); have HB5 := hid (HB4.out.trans (b5.mono HB4.out.size)); clear o5)
            | (go_at_call 35; refine (c_fromFirst a l ca _ HA3.out hl HG1.out).mono ?_; rintro e w4 ⟨v4, rfl, o4, b4⟩; obtain ⟨av, cv, rfl, _⟩ := o4.form; have HO4 := hid o4; have RA4 := hid (RA3.out.below b4); have RB4 := hid (RB3.out.below b4); have HM4 := hid (HM3.out.below b4); have HB4 := hid (HB3.out.trans (b4.mono HB3.out.size)); clear o4))
        go_wp2_with fail
        go_ret2
        exact ⟨by rw [HV1.out, HV.out, HFI.out]; rfl, HB6.out⟩
      · have HV := hid (show smB l m s t = false by simp [smB, hst])
        have hne : (s == t) = false := by simpa using hst
        have hne2 : decide (s = t) = false := by simpa using hst
        go_enter Tryd.func14, Tryd.ntmps14
        have x0 := RA.out.c0
        have x1 := RA.out.c1
        go_wp2_with fail
        refine (HC.out _ HA.out).mono ?_
        rintro e w1 ⟨rfl, b1⟩
        replace RA := hid (RA.out.below b1)
        replace RB := hid (RB.out.below b1)
        replace HM := hid (HM.out.below b1)
        replace HB := hid (HB.out.trans (b1.mono HB.out.size))
        clear x0 x1 b1
        have x0 := RB.out.c0
        have x1 := RB.out.c1
        go_wp2_with fail
        refine (HD.out _ HM.out).mono ?_
        rintro e w2 ⟨rfl, b2⟩
        replace RA := hid (RA.out.below b2)
        replace RB := hid (RB.out.below b2)
        replace HB := hid (HB.out.trans (b2.mono HB.out.size))
        clear x0 x1 HC HD hg hgm
        have x0 := RA.out.c0
        have x1 := RA.out.c1
        have y0 := RB.out.c0
        have y1 := RB.out.c1
        have hne0 := Gr.ne w2
        have g0 := fun g : Gr w2 => g.cell x1 (World.rowIs.lt RA.out)
        have g1 := fun g : Gr w2 => g.cell y1 (World.rowIs.lt RB.out)
        go_wp2
        refine wp_region_gr (by kernel_rfl) (by kernel_rfl) ?_
        repeat (go_big_quiet_step (fail))
        refine wpQuiet_nil ?_
        rintro _ ⟨g, rfl⟩
        clear g0 g1
        go_wp2
        go_ret2
        exact ⟨by rw [HV1.out, HV.out]; rfl, HB.out.trans (g.below.mono HB.out.size)⟩

end Go.Proofs.YtgppcocfnbalfaaDoor
