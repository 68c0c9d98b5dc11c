/- Texts of this seat, one behind the other: WdF, SmW. -/
import Derived.Test.YtgfdkolhldbehaaLg
import Derived.Test.YtgfdkolhldbehaaBoxS
import Derived.StillTailTactics
import Derived.Deep.RegionHeld3
namespace Go.Proofs.Ytgfdkolhldbehaa
open Go.RowKit
set_option linter.unusedVariables false
set_option linter.unusedSimpArgs false
attribute [local go_sem ↓] Go.wp_at_zero Go.wp_at_succ

theorem own_none {w : World} {base n cv : Nat} {av : Option Addr} {l : List Cl} (h : OwnS w base (.slice av n cv) l) : av = none → cv = 0 := by
  intro e
  subst e
  rcases h.2 with ⟨e, _⟩ | ⟨g, cap, cur, e, _⟩ <;> simp at e
  exact e.2
theorem nilW (w : World) (b : Nat) (base : Nat) (u v : Value) : OwnS ((w.setCell ⟨b, 0, none⟩ u).setCell ⟨b, 1, none⟩ v) base (.slice none 0 0) [] := OwnS.nil _ _
theorem ownW {w : World} {base b : Nat} {s : Value} {l : List Cl} (h : OwnS w base s l) (hb : b < base) (u v : Value) {base' : Nat} (h' : base' ≤ base) : OwnS ((w.setCell ⟨b, 0, none⟩ u).setCell ⟨b, 1, none⟩ v) base' s l :=
  ((h.other (fun k hk => by have := (h.lt k hk).1; omega) _).other (fun k hk => by have := (h.lt k hk).1; omega) _).mono h'
theorem belW {w W : World} {b : Nat} (h : Below w.heap.size w W) (hb : w.heap.size ≤ b) (u v : Value) : Below w.heap.size w ((W.setCell ⟨b, 0, none⟩ u).setCell ⟨b, 1, none⟩ v) :=
  (h.setCell (p := ⟨b, 0, none⟩) hb _).setCell (p := ⟨b, 1, none⟩) hb _

theorem gw_age {l : List Cl} {t : Int} (h : gw l t = true) : 0 ≤ t ∧ t ≤ 1000 := by
  simp only [gw, Bool.and_eq_true] at h; exact inB_bd h.2
theorem times_bd {l : List Cl} {s : Int} (h : timesOk l s = true) : 0 ≤ s ∧ s ≤ 20 := by
  simp only [timesOk, Bool.and_eq_true] at h; exact inT_bd h.1.2
theorem times_none {l : List Cl} {s : Int} (h : timesOk l s = false) (hg : good l = true) : True := trivial

end Go.Proofs.Ytgfdkolhldbehaa

namespace Go.Proofs.Ytgfdkolhldbehaa
open Go.RowKit
set_option linter.unusedVariables false
set_option linter.unusedSimpArgs false
attribute [local go_sem ↓] Go.wp_at_zero Go.wp_at_succ

theorem take_oneW {l m : List Cl} {k : Nat} (h1 : k < l.length) (h2 : k < m.length) (ht : l.take k = m.take k) (h : at_ l k = at_ m k) : l.take (k + 1) = m.take (k + 1) := by
  rw [List.take_succ_eq_append_getElem h1, List.take_succ_eq_append_getElem h2, ht]
  simp [at_, h1, h2] at h
  rw [h]

set_option maxHeartbeats 1000000 in
set_option maxRecDepth 100000 in
theorem c_l6Same (a b : Option Addr) (l m : List Cl) (ca cb : Nat) (w : World) (ha : Seg w a l) (hb : Seg w b m) (hl : l.length ≤ 1048576) (hm : m.length ≤ 1048576) :
    Calls Try.prog 63 #[.slice a l.length ca, .slice b m.length cb] w fun e w' => e = .returned (.bool (decide (l = m))) ∧ Below w.heap.size w w' := by
  by_cases hlm : l.length = m.length
  · have hlm' : ((l.length : Int) != (m.length : Int)) = false := by simp [hlm]
    have HLM : Hid (l.length = m.length) := hlm
    have hle : l.length ≤ m.length := by omega
    clear hlm
    go_enter Try.func63, Try.ntmps63
    go_wp2
    go_loopw [13] (fun i wr => ∃ k : Nat, k ≤ l.length ∧ i = .int .i64 k ∧ Hid (l.take k = m.take k) ∧ Below w.heap.size w wr) (fun i _ => l.length - (intOf i).toNat)
    case atStart => exact ⟨0, Nat.zero_le _, rfl, (rfl : _ = _), Below.refl _ _⟩
    case round =>
      obtain ⟨k, hk, rfl, ht, hbel⟩ := hrel
      by_cases hlt : k < l.length
      · obtain ⟨b1, o1, rfl, hb1, p1, p2⟩ := (ha k hlt)
        obtain ⟨b2, o2, rfl, hb2, q1, q2⟩ := (hb k (by omega))
        have g1 := (hbel.cell (p := ⟨b1, o1 + k * 2, none⟩) hb1).trans p1
        have g2 := (hbel.cell (p := ⟨b1, o1 + k * 2 + 1, none⟩) hb1).trans p2
        have g3 := (hbel.cell (p := ⟨b2, o2 + k * 2, none⟩) hb2).trans q1
        have g4 := (hbel.cell (p := ⟨b2, o2 + k * 2 + 1, none⟩) hb2).trans q2
        change _ = some (Value.int .i64 (at_ l k).1) at g1
        change _ = some (Value.int .i64 (at_ l k).2) at g2
        change _ = some (Value.int .i64 (at_ m k).1) at g3
        change _ = some (Value.int .i64 (at_ m k).2) at g4
        clear p1 p2 q1 q2
        have HT := hid (fun h : at_ l k = at_ m k => take_oneW hlt (by omega) ht.out h)
        have HF := hid (show ¬ at_ l k = at_ m k → decide (l = m) = false from fun h => by simp; intro e; exact h (by rw [e]))
        have HB := hid (hbel.trans (((Below.refl wr.heap.size wr).drew).mono hbel.size))
        clear hbel
        generalize at_ l k = x at *
        generalize at_ m k = y at *
        have k0 : (0 : Int) ≤ (k : Int) := by omega
        have k1 : (k : Int) < (l.length : Int) := by omega
        have k2 : (k : Int) < (m.length : Int) := by omega
        by_cases hx1 : x.1 = y.1
        · by_cases hx2 : x.2 = y.2
          · have HT' := hid (HT.out (Prod.ext hx1 hx2))
            go_wp2
            go_still (by kernel_rfl)
            go_wp2
            go_roundw
            case rel => exact ⟨k + 1, by omega, by go_num, HT'.out, HB.out⟩
            case measure => simp [intOf]; omega
          · have HF' := hid (HF.out (fun e => hx2 (by rw [e])))
            have hb2 : (x.2 == y.2) = false := beq_eq_false_iff_ne.2 hx2
            go_wp2
            go_still (by kernel_rfl)
            go_wp2
            go_ret
            exact ⟨ret_bool HF'.out.symm, HB.out⟩
        · have HF' := hid (HF.out (fun e => hx1 (by rw [e])))
          have hb2 : (x.1 == y.1) = false := beq_eq_false_iff_ne.2 hx1
          go_wp2
          go_still (by kernel_rfl)
          go_wp2
          go_ret
          exact ⟨ret_bool HF'.out.symm, HB.out⟩
      · go_wp2
        go_ret
        have e1 : l.take k = l := List.take_of_length_le (by omega)
        have e2 : m.take k = m := List.take_of_length_le (by have := HLM.out; omega)
        have e3 := ht.out
        rw [e1, e2] at e3
        exact ⟨ret_bool (by simp [e3]), hbel⟩
  · have hlm' : ((l.length : Int) != (m.length : Int)) = true := by simp; omega
    go_enter Try.func63, Try.ntmps63
    go_wp2
    go_ret
    exact ⟨ret_bool (by simp; intro e; exact hlm (by rw [e])), Below.refl _ _⟩

set_option maxHeartbeats 1000000 in
set_option maxRecDepth 100000 in
theorem c_slicesEqual (a b : Option Addr) (l m : List Cl) (ca cb : Nat) (w : World) (ha : Seg w a l) (hb : Seg w b m) (hl : l.length ≤ 1048576) (hm : m.length ≤ 1048576) :
    Calls Try.prog 100 #[.slice a l.length ca, .slice b m.length cb] w fun e w' => e = .returned (.bool (decide (l = m))) ∧ Below w.heap.size w w' := by
  by_cases hlm : l.length = m.length
  · have hlm' : ((l.length : Int) != (m.length : Int)) = false := by simp [hlm]
    have HLM : Hid (l.length = m.length) := hlm
    have hle : l.length ≤ m.length := by omega
    clear hlm
    go_enter Try.func100, Try.ntmps100
    go_wp2
    go_loopw [13] (fun i wr => ∃ k : Nat, k ≤ l.length ∧ i = .int .i64 k ∧ Hid (l.take k = m.take k) ∧ Below w.heap.size w wr) (fun i _ => l.length - (intOf i).toNat)
    case atStart => exact ⟨0, Nat.zero_le _, rfl, (rfl : _ = _), Below.refl _ _⟩
    case round =>
      obtain ⟨k, hk, rfl, ht, hbel⟩ := hrel
      by_cases hlt : k < l.length
      · obtain ⟨b1, o1, rfl, hb1, p1, p2⟩ := (ha k hlt)
        obtain ⟨b2, o2, rfl, hb2, q1, q2⟩ := (hb k (by omega))
        have g1 := (hbel.cell (p := ⟨b1, o1 + k * 2, none⟩) hb1).trans p1
        have g2 := (hbel.cell (p := ⟨b1, o1 + k * 2 + 1, none⟩) hb1).trans p2
        have g3 := (hbel.cell (p := ⟨b2, o2 + k * 2, none⟩) hb2).trans q1
        have g4 := (hbel.cell (p := ⟨b2, o2 + k * 2 + 1, none⟩) hb2).trans q2
        change _ = some (Value.int .i64 (at_ l k).1) at g1
        change _ = some (Value.int .i64 (at_ l k).2) at g2
        change _ = some (Value.int .i64 (at_ m k).1) at g3
        change _ = some (Value.int .i64 (at_ m k).2) at g4
        clear p1 p2 q1 q2
        have HT := hid (fun h : at_ l k = at_ m k => take_oneW hlt (by omega) ht.out h)
        have HF := hid (show ¬ at_ l k = at_ m k → decide (l = m) = false from fun h => by simp; intro e; exact h (by rw [e]))
        have HB := hid (hbel.trans (((Below.refl wr.heap.size wr).drew).mono hbel.size))
        clear hbel
        generalize at_ l k = x at *
        generalize at_ m k = y at *
        have k0 : (0 : Int) ≤ (k : Int) := by omega
        have k1 : (k : Int) < (l.length : Int) := by omega
        have k2 : (k : Int) < (m.length : Int) := by omega
        by_cases hx1 : x.1 = y.1
        · by_cases hx2 : x.2 = y.2
          · have HT' := hid (HT.out (Prod.ext hx1 hx2))
            go_wp2
            go_still (by kernel_rfl)
            go_wp2
            go_roundw
            case rel => exact ⟨k + 1, by omega, by go_num, HT'.out, HB.out⟩
            case measure => simp [intOf]; omega
          · have HF' := hid (HF.out (fun e => hx2 (by rw [e])))
            have hb2 : (x.2 == y.2) = false := beq_eq_false_iff_ne.2 hx2
            go_wp2
            go_still (by kernel_rfl)
            go_wp2
            go_ret
            exact ⟨ret_bool HF'.out.symm, HB.out⟩
        · have HF' := hid (HF.out (fun e => hx1 (by rw [e])))
          have hb2 : (x.1 == y.1) = false := beq_eq_false_iff_ne.2 hx1
          go_wp2
          go_still (by kernel_rfl)
          go_wp2
          go_ret
          exact ⟨ret_bool HF'.out.symm, HB.out⟩
      · go_wp2
        go_ret
        have e1 : l.take k = l := List.take_of_length_le (by omega)
        have e2 : m.take k = m := List.take_of_length_le (by have := HLM.out; omega)
        have e3 := ht.out
        rw [e1, e2] at e3
        exact ⟨ret_bool (by simp [e3]), hbel⟩
  · have hlm' : ((l.length : Int) != (m.length : Int)) = true := by simp; omega
    go_enter Try.func100, Try.ntmps100
    go_wp2
    go_ret
    exact ⟨ret_bool (by simp; intro e; exact hlm (by rw [e])), Below.refl _ _⟩


theorem home_le (l : List Cl) : (home l).length ≤ l.length := by
  unfold home; split
  · rw [mv_length]; exact Nat.le_refl _
  · simp
theorem box_good {l : List Cl} (h : boxOk l = true) : good l = true := by simp [boxOk] at h; exact h.1

set_option maxHeartbeats 2000000 in
set_option maxRecDepth 100000 in
theorem c_l6Home (a : Option Addr) (l : List Cl) (ca : Nat) (w : World) (ha : Seg w a l) (hl : l.length ≤ 1048576) :
    Calls Try.prog 64 #[.slice a l.length ca] w fun e w' => ∃ v, e = .returned v ∧ OwnS w' w.heap.size v (home l) ∧ Below w.heap.size w w' := by
  have HBX := hid (c_sBoxOf a l ca _ ha hl)
  cases hbo : boxOk l
  · have HV := hid (show home l = [] by simp [home, hbo])
    rw [hbo] at HBX
    clear ha
    go_enter Try.func64, Try.ntmps64
    go_wp2_with fail
    refine HBX.out.mono ?_
    rintro e w1 ⟨rfl, b1⟩
    have k1 := (Below.refl w1.heap.size w1).alloc (Nat.le_refl _) (.cells #[.int .i64 (boxLo l).1, .int .i64 (boxLo l).2] 36)
    have k2 := k1.alloc k1.size (.cells #[.int .i64 (boxHi l).1, .int .i64 (boxHi l).2] 36)
    have B1 := hid (b1.trans (k2.mono b1.size))
    clear k1 k2 b1
    go_wp2
    go_ret
    exact ⟨_, rfl, by rw [HV.out]; exact OwnS.nil _ _, B1.out⟩
  · have HV := hid (show home l = mv l (-(boxLo l).1) (-(boxLo l).2) by simp [home, hbo])
    rw [hbo] at HBX
    obtain ⟨hlo, _⟩ := box_reach hbo
    simp only [inR, Bool.and_eq_true, decide_eq_true_eq] at hlo
    have HIN := hid (good_in (box_good hbo))
    go_enter Try.func64, Try.ntmps64
    go_wp2_with fail
    refine HBX.out.mono ?_
    rintro e w1 ⟨rfl, b1⟩
    have k1 := (Below.refl w1.heap.size w1).alloc (Nat.le_refl _) (.cells #[.int .i64 (boxLo l).1, .int .i64 (boxLo l).2] 36)
    have k2 := (Below.refl (w1.alloc (.cells #[.int .i64 (boxLo l).1, .int .i64 (boxLo l).2] 36)).heap.size (w1.alloc (.cells #[.int .i64 (boxLo l).1, .int .i64 (boxLo l).2] 36))).alloc (Nat.le_refl _) (.cells #[.int .i64 (boxHi l).1, .int .i64 (boxHi l).2] 36)
    have RA := hid ((WRow.new w1 (.int .i64 (boxLo l).1) (boxLo l).2 36).below k2)
    have HA := hid (((ha.below b1).below k1).below k2)
    have B1 := hid ((b1.trans (k1.mono b1.size)).trans (k2.mono (by have := b1.size; have := k1.size; omega)))
    clear k1 k2 b1 ha
    have x0 := RA.out.c0
    have x1 := RA.out.c1
    go_wp2_with fail
    generalize boxLo l = lo at *
    refine (c_l1Move a l ca (-lo.1) (-lo.2) _ HA.out hl HIN.out (by omega) (by omega)).mono ?_
    rintro e w2 ⟨v, rfl, hO, b2⟩
    go_wp2
    go_ret
    exact ⟨_, rfl, by rw [HV.out]; exact hO.mono B1.out.size, B1.out.trans (b2.mono B1.out.size)⟩

def smOk (l m : List Cl) (s t : Int) : Bool := gw l s && gw m t
def smB (l m : List Cl) (s t : Int) : Bool := smOk l m s t && decide (s = t) && decide (home l = home m)
theorem sm_first {l m : List Cl} {s t : Int} (hl : gw l s = true) (hm : gw m t = true) : decide (firstL l = firstL m) = decide (home l = home m) := by
  simp only [gw, Bool.and_eq_true] at hl hm
  exact decide_eq_decide.2 (same_iff hl.1 hm.1)

end Go.Proofs.Ytgfdkolhldbehaa
