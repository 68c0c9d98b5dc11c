/- Texts of this seat, one behind the other: Hist, SPer, SDie, StO, RgC, IPer, IDie. -/
import Derived.Test.YtgppcocfnbalfaaKh
import Derived.Test.YtgppcocfnbalfaaKe
import Derived.Test.YtgppcocfnbalfaaKf
import Derived.RangeFuncNested
import Derived.RangeFuncBound
import Derived.RangeFuncCalls
import Derived.RangeFuncLeaves
import Derived.RangeFuncBox
import Derived.Shelf.Abstract
import Derived.Shelf.RegionOpen
import Derived.OwnWalkIn
import Derived.TacticsInMore
import Derived.LoopNIn
import Derived.LoopIn
namespace Go.Proofs.Ytgppcocfnbalfaa
open Go.RowKit
set_option linter.unusedVariables false
set_option linter.unusedSimpArgs false

/-- A row of one slice. -/
theorem OwnH.one {w : World} {base : Nat} {u : Value} {l : List Cl} (hu : OwnS w base u l) (hb : base ≤ w.heap.size) : OwnH (w.alloc (.cells #[u] 23)) base (.slice (some ⟨w.heap.size, 0, none⟩) 1 1) [u] [l] := by
  refine ⟨rfl, ?_, fun i hi => ?_, fun i j hij hj => by simp at hj; omega⟩
  · exact World.ownsRow_lit (base := base) (e := 23) (size := 1) w #[u] 1 hb (by unfold maxLen; omega) rfl
  · have h0 : i = 0 := by simpa using hi
    subst h0
    exact hu.below ((Below.refl _ _).alloc (Nat.le_refl _) _)
theorem cell_one' (w : World) (u : Value) (t : TypeId) : (w.alloc (.cells #[u] t)).cell? ⟨w.heap.size, 0, none⟩ = some u := by unfold World.cell?; rw [heap_alloc_new]; rfl

set_option maxHeartbeats 4000000 in
set_option maxRecDepth 100000 in
theorem c_l7History (a : Option Addr) (l : List Cl) (ca T : Nat) (w : World) (ha : Seg w a l) (hca : a = none → ca = 0) (hg : good l = true) (hT : T ≤ 20) :
    Calls Try.prog 54 #[.slice a l.length ca, .int .i64 (T : Int)] w fun e w' => ∃ v vs, e = .returned v ∧ OwnH w' w.heap.size v vs (hist T l) ∧ Below w.heap.size w w' := by
  have hle := good_le hg
  have HG := hid hg
  have HB0 := hid ((Below.refl w.heap.size w).alloc (Nat.le_refl _) (.cells #[] 44))
  have HO0 := hid (slice_empty_build w)
  have HA0 := hid (ha.below HB0.out)
  have HA := hid ha
  clear ha hg
  go_enter Try.func54, Try.ntmps54
  go_wp2_with (at_builtin; refine wpList_app' rfl _ _ rfl w.heap.size _ [] l a l.length ca rfl HO0.out rfl rfl HA0.out hca (by simp; omega) HB0.out.size ?_; intro v2 w2 hO2 hG2; have HB2 := hid (below_grown HB0.out HO0.out hG2); rw [List.nil_append] at hO2; obtain ⟨a2, c2, rfl, s2⟩ := hO2.form; have HO2 := hid hO2; clear hO2 hG2 s2)
  have HH := hid (OwnH.one HO2.out HB2.out.size)
  have HB3 := hid (HB2.out.alloc HB2.out.size (.cells #[.slice a2 l.length c2] 23))
  have HA3 := hid (HA.out.below HB3.out)
  clear HO2 HB2 HA HA0 HB0 HO0
  generalize w2.alloc (.cells #[.slice a2 l.length c2] 23) = w3 at *
  generalize Value.slice (some ⟨w2.heap.size, 0, none⟩) 1 1 = ov at *
  go_loopw [0, 5, 6] (fun lv ov kv wr => ∃ (k : Nat) (m : List Cl) (a' : Option Addr) (c' : Nat) (vs : List Value) (H : List (List Cl)), k ≤ T ∧ lv = .slice a' m.length c' ∧ kv = .int .i64 (k : Int) ∧ Hid (Seg wr a' m ∧ (a' = none → c' = 0) ∧ good m = true ∧ OwnH wr w.heap.size ov vs (H ++ [m]) ∧ H ++ hist (T - k) m = hist T l ∧ H.length = k ∧ Below w.heap.size w wr)) (fun _ _ kv _ => T - (intOf kv).toNat)
  case atStart => exact ⟨0, l, a, ca, _, [], by omega, rfl, rfl, show _ ∧ _ from ⟨HA3.out, hca, HG.out, HH.out, by simp, rfl, HB3.out⟩⟩
  case round =>
    clear HA3 HH HB3
    obtain ⟨k, m, a', c', vs, H, hk, rfl, rfl, hx⟩ := hrel
    have hml := good_le hx.out.2.2.1
    by_cases hlt : k < T
    · have k0 : (k : Int) < (T : Int) := by omega
      go_wp2_with fail
      refine (c_l1StepO a' m c' _ hx.out.1 hx.out.2.2.1).mono ?_
      rintro e w3' ⟨v3, m3, rfl, hS3, hr3, hm3, hl3, hb3⟩
      obtain ⟨a3, c3, rfl, hs3⟩ := hS3.form
      have hc3 := hS3.cap0
      have HP := hid (pickL_eq hr3 hm3)
      have HS3 := hid hs3
      have HO3 := hid hS3
      have HB3 := hid hb3
      clear hS3 hr3 hm3 hs3 hb3
      cases hg3 : good m3
      · have HV : Hid (hist T l = H ++ [m]) := by
          have h1 := hx.out.2.2.2.2.1
          have h2 : nxtO m = none := by unfold nxtO; rw [HP.out, hg3]; rfl
          rw [hist_none h2] at h1
          exact h1.symm
        go_wp2_with fail
        refine (c_sGood' a3 m3 c3 false hg3 _ HS3.out (by omega)).mono ?_
        rintro e w4 ⟨rfl, hb4⟩
        go_wp2
        go_ret
        refine ⟨_, vs, rfl, ?_, ?_⟩
        · rw [HV.out]; exact (hx.out.2.2.2.1.below HB3.out).below hb4
        · exact hx.out.2.2.2.2.2.2.trans ((HB3.out.trans (hb4.mono HB3.out.size)).mono hx.out.2.2.2.2.2.2.size)
      · have HV : Hid (hist (T - k) m = m :: hist (T - (k + 1)) m3) := by
          have h2 : nxtO m = some m3 := by unfold nxtO; rw [HP.out, hg3]; rfl
          show _ = _
          rw [show T - k = T - (k + 1) + 1 by omega, hist_some h2]
        have hl3' := good_le hg3
        have hHL : Hid (H.length ≤ 20) := hid (by have := hx.out.2.2.2.2.2.1; omega)
        go_wp2_with fail
        refine (c_sGood' a3 m3 c3 true hg3 _ HS3.out (by omega)).mono ?_
        rintro e w4 ⟨rfl, hb4⟩
        have HB4 := hid (hx.out.2.2.2.2.2.2.trans ((HB3.out.trans (hb4.mono HB3.out.size)).mono hx.out.2.2.2.2.2.2.size))
        have HS4 := hid (HS3.out.below hb4)
        have HO4 := hid (HO3.out.below hb4)
        have HH4 := hid ((hx.out.2.2.2.1.below HB3.out).below hb4)
        have HB5 := hid ((Below.refl w4.heap.size w4).alloc (Nat.le_refl _) (.cells #[] 44))
        have HO5 := hid (slice_empty_build w4)
        have HS5 := hid (HS4.out.below HB5.out)
        have HX := hid (show H ++ hist (T - k) m = hist T l ∧ H.length = k from ⟨hx.out.2.2.2.2.1, hx.out.2.2.2.2.2.1⟩)
        clear hb4 HB3 HS3 hx
        go_wp2_with (first
          | (at_builtin; refine wpList_app' rfl _ _ rfl w4.heap.size _ [] m3 a3 m3.length c3 rfl HO5.out rfl rfl HS5.out hc3 (by simp; omega) HB5.out.size ?_; intro v6 w6 hO6 hG6; have HB6 := hid (below_grown HB5.out HO5.out hG6); rw [List.nil_append] at hO6; obtain ⟨a6, c6, rfl, s6⟩ := hO6.form; have HO6 := hid hO6; have HB7 := hid (HB6.out.alloc HB6.out.size (.cells #[.slice a6 m3.length c6] 23)); have HO7 := hid ((HO6.out.below ((Below.refl w6.heap.size w6).alloc (Nat.le_refl _) (.cells #[.slice a6 m3.length c6] 23)))); have HC7 := hid (cell_one' w6 (.slice a6 m3.length c6) 23); clear hO6 hG6 s6)
          | (at_builtin; refine wpList_appH rfl _ _ rfl w.heap.size _ vs (H ++ [m]) (.slice a6 m3.length c6) m3 ⟨w6.heap.size, 0, none⟩ rfl (HH4.out.below HB7.out) rfl HC7.out rfl (HO7.out.mono HB4.out.size) (fun i hi k hk e => by have h1 := ((HH4.out.each i hi).lt k hk).2; have h2 := (HO7.out.lt k e).1; omega) (by simp; have := hHL.out; omega) (Nat.le_trans HB4.out.size HB7.out.size) ?_; intro v8 w8 hO8 hG8; have HO8 := hid hO8; have HS8 := hid (own_rowkept (HH4.out.below HB7.out).row hG8 (HO4.out.below HB7.out)); have HB8 := hid (below_row (HB4.out.trans (HB7.out.mono HB4.out.size)) hG8 (fun k hk => (HH4.out.lt k hk).1)); clear hO8 hG8))
        go_roundw
        case rel =>
          refine ⟨k + 1, m3, a3, c3, vs ++ [.slice a6 m3.length c6], H ++ [m], by omega, rfl, by go_num, ?_⟩
          exact show _ ∧ _ from ⟨HS8.out.seg, hc3, hg3, HO8.out, by rw [← HX.out.1, HV.out]; simp, by simp [HX.out.2], HB8.out⟩
        case measure => simp [intOf]; omega
    · have k0 : ¬ (k : Int) < (T : Int) := by omega
      have HV : Hid (hist T l = H ++ [m]) := by
        have h1 := hx.out.2.2.2.2.1
        rw [show T - k = 0 by omega, hist_zero] at h1
        exact h1.symm
      go_wp2
      go_ret
      have HZ := hid hx.out.2.2.2.1
      rw [← HV.out] at HZ
      first | exact ⟨_, vs, rfl, HZ.out, hx.out.2.2.2.2.2.2⟩ | exact ⟨_, rfl, ⟨vs, HZ.out⟩, hx.out.2.2.2.2.2.2⟩

theorem c_l7Good (a : Option Addr) (l : List Cl) (ca : Nat) (t : Int) (w : World) (ha : Seg w a l) (hl : l.length ≤ 1048576) :
    Calls Try.prog 53 #[.slice a l.length ca, .int .i64 t] w fun e w' => e = .returned (.bool (good l && inMo t)) ∧ Below w.heap.size w w' := by
  have HC := hid (c_sGood a l ca w ha hl)
  have HI := hid (fun W => c_l1In t 1 20 W)
  have HV := hid (show inMo t = (decide (1 ≤ t) && decide (t ≤ 20)) from rfl)
  cases hg : good l
  · rw [hg] at HC
    go_enter Try.func53, Try.ntmps53
    go_wp2_with fail
    refine HC.out.mono ?_
    rintro e w1 ⟨rfl, b1⟩
    go_wp2
    go_ret
    exact ⟨by simp, b1⟩
  · rw [hg] at HC
    rw [← HV.out] at HI
    generalize inMo t = q at *
    go_enter Try.func53, Try.ntmps53
    go_wp2_with fail
    refine HC.out.mono ?_
    rintro e w1 ⟨rfl, b1⟩
    go_wp2_with fail
    refine (HI.out _).mono ?_
    rintro e w2 ⟨rfl, rfl⟩
    go_wp2
    go_ret
    exact ⟨by simp, b1⟩

end Go.Proofs.Ytgppcocfnbalfaa

namespace Go.Proofs.Ytgppcocfnbalfaa
open Go.RowKit
set_option linter.unusedVariables false
set_option linter.unusedSimpArgs false

theorem histG_good {l : List Cl} {t : Int} {i : Nat} (hi : i < (histG l t).length) : good (ht (histG l t) i) = true := by
  unfold histG at hi ⊢
  split at hi
  · rename_i h
    rw [if_pos h]
    rw [Bool.and_eq_true] at h
    exact hist_good h.1 _ (ht_in hi)
  · simp at hi

set_option maxHeartbeats 2000000 in
set_option maxRecDepth 100000 in
theorem c_sPeriodOf (a : Option Addr) (l : List Cl) (ca : Nat) (t : Int) (w : World) (ha : Seg w a l) (hca : a = none → ca = 0) (hl : l.length ≤ 1048576) :
    Calls Try.prog 14 #[.slice a l.length ca, .int .i64 t] w fun e w' => e = .returned (.tuple #[.int .i64 (oN (perO l t)), .bool (perO l t).isSome]) ∧ Below w.heap.size w w' := by
  have HC := hid (c_l7Good a l ca t w ha hl)
  have HA := hid ha
  clear ha
  cases hg : (good l && inMo t)
  · rw [hg] at HC
    have HV : Hid (perO l t = none) := by
      show _ = _
      exact fstAt_none (fun k hk => by simp [histG, hg] at hk)
    go_enter Try.func14, Try.ntmps14
    go_wp2_with fail
    refine HC.out.mono ?_
    rintro e w1 ⟨rfl, b1⟩
    go_wp2
    go_ret2
    exact ⟨by rw [HV.out]; rfl, b1⟩
  · rw [hg] at HC
    rw [Bool.and_eq_true] at hg
    obtain ⟨T, rfl⟩ : ∃ T : Nat, t = (T : Int) := ⟨t.toNat, by have := inMo_bd hg.2; omega⟩
    have htb := inMo_bd hg.2
    have HH := hid (show histG l (T : Int) = hist T l by simp [histG, hg])
    have HGD := hid (fun i (hi : i < (hist T l).length) => hist_good hg.1 _ (ht_in hi))
    have hhl := hist_le T l
    have HGL := hid hg.1
    have hlg := good_le hg.1
    have HP := hid (show ∀ k, k < (hist T l).length → 0 < k → ht (hist T l) k = l → (∀ j, j < k → ¬ (0 < j ∧ ht (hist T l) j = l)) → perO l (T : Int) = some k from fun k hk h0 he hj => by
      unfold perO; rw [HH.out]
      exact fstAt_some hk (by simp [h0, he]) (fun j hjk => by
        have := hj j hjk
        cases h : (decide (0 < j) && decide (ht (hist T l) j = l))
        · rfl
        · simp at h; exact absurd h this))
    have HN := hid (show (∀ j, j < (hist T l).length → ¬ (0 < j ∧ ht (hist T l) j = l)) → perO l (T : Int) = none from fun hj => by
      unfold perO; rw [HH.out]
      exact fstAt_none (fun j hjk => by
        have := hj j hjk
        cases h : (decide (0 < j) && decide (ht (hist T l) j = l))
        · rfl
        · simp at h; exact absurd h this))
    clear hg
    go_enter Try.func14, Try.ntmps14
    go_wp2_with fail
    refine HC.out.mono ?_
    rintro e w1 ⟨rfl, b1⟩
    have A1 := hid (HA.out.below b1)
    have B1 := hid b1
    clear b1 HC HA
    go_wp2_with fail
    refine (c_l7History a l ca T w1 A1.out hca HGL.out (by omega)).mono ?_
    rintro e w2 ⟨v, vs, rfl, hO, b2⟩
    obtain ⟨a2, c2, rfl, s2, _⟩ := hO.form
    have S2 := hid s2
    have A2 := hid (A1.out.below b2)
    have B2 := hid (B1.out.trans (b2.mono B1.out.size))
    clear hO s2 b2 A1 B1
    generalize hist T l = H at *
    go_wp2_with fail
    go_loopw [16] (fun i wr => ∃ k : Nat, k ≤ H.length ∧ i = .int .i64 (k : Int) ∧ Hid (∀ j, j < k → ¬ (0 < j ∧ ht H j = l)) ∧ Below w2.heap.size w2 wr) (fun i _ => H.length - (intOf i).toNat)
    case atStart => exact ⟨0, Nat.zero_le _, rfl, (fun j hj => absurd hj (Nat.not_lt_zero _)), Below.refl _ _⟩
    case round =>
      obtain ⟨k, hk, rfl, hT, hbel⟩ := hrel
      by_cases hlt : k < H.length
      · obtain ⟨b1, o1, e1, hb1, a3, c3, p1, s3, _⟩ := S2.out k hlt
        subst e1
        have g1 := (hbel.cell (p := ⟨b1, o1 + k, none⟩) hb1).trans p1
        have S3 := hid (s3.below hbel)
        have A3 := hid (A2.out.below hbel)
        have B3 := hid (B2.out.trans (hbel.mono B2.out.size))
        have BL := hid hbel
        have hl3 := good_le (HGD.out k hlt)
        have k0 : (0 : Int) ≤ (k : Int) := by omega
        have k1 : (k : Int) < (H.length : Int) := by omega
        clear p1 s3 hbel
        have HPk := hid (HP.out k hlt)
        have HX : Hid (ht H k = ht H k) := rfl
        obtain ⟨x, hx⟩ : ∃ x, x = ht H k := ⟨_, rfl⟩
        rw [← hx] at HPk S3 hl3 g1
        have HXE := hid hx
        clear HX hx
        by_cases hpos : 0 < k
        · have kp : (0 : Int) < (k : Int) := by omega
          go_wp2_with fail
          refine (c_l6Same a3 a x l c3 ca wr S3.out A3.out (by omega) hl).mono ?_
          rintro e w4 ⟨rfl, b4⟩
          have B4 := hid (B3.out.trans (b4.mono B3.out.size))
          have BL4 := hid (BL.out.trans (b4.mono BL.out.size))
          clear b4 g1
          cases he : decide (x = l)
          · go_wp2
            go_roundw
            case rel =>
              refine ⟨k + 1, by omega, by go_num, (fun j hj => ?_ : ∀ j, _ → _), BL4.out⟩
              by_cases ej : j = k
              · subst ej; rw [← HXE.out]; intro h; simp [h.2] at he
              · exact hT.out j (by omega)
            case measure => simp [intOf]; omega
          · have HF := hid (HPk.out hpos (by simpa using he) hT.out)
            go_wp2
            go_ret2
            exact ⟨by rw [HF.out]; rfl, B4.out⟩
        · have kp : ¬ (0 : Int) < (k : Int) := by omega
          go_wp2
          go_roundw
          case rel => exact ⟨k + 1, by omega, by go_num, (fun j hj h => by omega : ∀ j, _ → _), BL.out⟩
          case measure => simp [intOf]; omega
      · have hke : k = H.length := by omega
        subst hke
        have HF := hid (HN.out hT.out)
        have B3 := hid (B2.out.trans (hbel.mono B2.out.size))
        clear hbel
        go_wp2
        go_ret2
        exact ⟨by rw [HF.out]; rfl, B3.out⟩
end Go.Proofs.Ytgppcocfnbalfaa

namespace Go.Proofs.Ytgppcocfnbalfaa
open Go.RowKit
set_option linter.unusedVariables false
set_option linter.unusedSimpArgs false

set_option maxHeartbeats 2000000 in
set_option maxRecDepth 100000 in
theorem c_sDiesWithin (a : Option Addr) (l : List Cl) (ca : Nat) (t : Int) (w : World) (ha : Seg w a l) (hca : a = none → ca = 0) (hl : l.length ≤ 1048576) :
    Calls Try.prog 25 #[.slice a l.length ca, .int .i64 t] w fun e w' => e = .returned (.tuple #[.int .i64 (oN (dieO l t)), .bool (dieO l t).isSome]) ∧ Below w.heap.size w w' := by
  have HC := hid (c_l7Good a l ca t w ha hl)
  have HA := hid ha
  clear ha
  cases hg : (good l && inMo t)
  · rw [hg] at HC
    have HV : Hid (dieO l t = none) := by
      show _ = _
      exact fstAt_none (fun k hk => by simp [histG, hg] at hk)
    go_enter Try.func25, Try.ntmps25
    go_wp2_with fail
    refine HC.out.mono ?_
    rintro e w1 ⟨rfl, b1⟩
    go_wp2
    go_ret2
    exact ⟨by rw [HV.out]; rfl, b1⟩
  · rw [hg] at HC
    rw [Bool.and_eq_true] at hg
    obtain ⟨T, rfl⟩ : ∃ T : Nat, t = (T : Int) := ⟨t.toNat, by have := inMo_bd hg.2; omega⟩
    have htb := inMo_bd hg.2
    have HH := hid (show histG l (T : Int) = hist T l by simp [histG, hg])
    have HGD := hid (fun i (hi : i < (hist T l).length) => hist_good hg.1 _ (ht_in hi))
    have hhl := hist_le T l
    have HGL := hid hg.1
    have hlg := good_le hg.1
    have HP := hid (show ∀ k, k < (hist T l).length → (ht (hist T l) k).length = 0 → (∀ j, j < k → ¬ ((ht (hist T l) j).length = 0)) → dieO l (T : Int) = some k from fun k hk he hj => by
      unfold dieO; rw [HH.out]
      exact fstAt_some hk (by simp [he]) (fun j hjk => by simpa using hj j hjk))
    have HN := hid (show (∀ j, j < (hist T l).length → ¬ ((ht (hist T l) j).length = 0)) → dieO l (T : Int) = none from fun hj => by
      unfold dieO; rw [HH.out]
      exact fstAt_none (fun j hjk => by simpa using hj j hjk))
    clear hg
    go_enter Try.func25, Try.ntmps25
    go_wp2_with fail
    refine HC.out.mono ?_
    rintro e w1 ⟨rfl, b1⟩
    have A1 := hid (HA.out.below b1)
    have B1 := hid b1
    clear b1 HC HA
    go_wp2_with fail
    refine (c_l7History a l ca T w1 A1.out hca HGL.out (by omega)).mono ?_
    rintro e w2 ⟨v, vs, rfl, hO, b2⟩
    obtain ⟨a2, c2, rfl, s2, _⟩ := hO.form
    have S2 := hid s2
    have A2 := hid (A1.out.below b2)
    have B2 := hid (B1.out.trans (b2.mono B1.out.size))
    clear hO s2 b2 A1 B1
    generalize hist T l = H at *
    go_wp2_with fail
    go_loopw [16] (fun i wr => ∃ k : Nat, k ≤ H.length ∧ i = .int .i64 (k : Int) ∧ Hid (∀ j, j < k → ¬ ((ht H j).length = 0)) ∧ Below w2.heap.size w2 wr) (fun i _ => H.length - (intOf i).toNat)
    case atStart => exact ⟨0, Nat.zero_le _, rfl, (fun j hj => absurd hj (Nat.not_lt_zero _)), Below.refl _ _⟩
    case round =>
      obtain ⟨k, hk, rfl, hT, hbel⟩ := hrel
      by_cases hlt : k < H.length
      · obtain ⟨b1, o1, e1, hb1, a3, c3, p1, s3, _⟩ := S2.out k hlt
        subst e1
        have g1 := (hbel.cell (p := ⟨b1, o1 + k, none⟩) hb1).trans p1
        have S3 := hid (s3.below hbel)
        have A3 := hid (A2.out.below hbel)
        have B3 := hid (B2.out.trans (hbel.mono B2.out.size))
        have BL := hid hbel
        have hl3 := good_le (HGD.out k hlt)
        have k0 : (0 : Int) ≤ (k : Int) := by omega
        have k1 : (k : Int) < (H.length : Int) := by omega
        clear p1 s3 hbel
        have HPk := hid (HP.out k hlt)
        obtain ⟨x, hx⟩ : ∃ x, x = ht H k := ⟨_, rfl⟩
        rw [← hx] at HPk S3 hl3 g1
        have HXE := hid hx
        clear hx
        by_cases he : x.length = 0
        · have HF := hid (HPk.out he hT.out)
          have he' : ((x.length : Int) == 0) = true := by simp [he]
          have HE := hid he
          clear he
          go_wp2
          go_ret2
          exact ⟨by rw [HF.out]; rfl, B3.out⟩
        · have he' : ((x.length : Int) == 0) = false := by simpa using he
          go_wp2
          go_roundw
          case rel =>
            refine ⟨k + 1, by omega, by go_num, (fun j hj => ?_ : ∀ j, _ → _), BL.out⟩
            by_cases ej : j = k
            · subst ej; rw [← HXE.out]; exact he
            · exact hT.out j (by omega)
          case measure => simp [intOf]; omega
      · have hke : k = H.length := by omega
        subst hke
        have HF := hid (HN.out hT.out)
        have B3 := hid (B2.out.trans (hbel.mono B2.out.size))
        clear hbel
        go_wp2
        go_ret2
        exact ⟨by rw [HF.out]; rfl, B3.out⟩
end Go.Proofs.Ytgppcocfnbalfaa

namespace Go.Proofs.Ytgppcocfnbalfaa
open Go.RowKit Go.Shelf
set_option linter.unusedVariables false
set_option linter.unusedSimpArgs false
attribute [local go_sem] Oper.semAt_some

/-- What is handed on: the number of steps, the slice, the cells in it. -/
abbrev Hnd := Nat × Value × List Cl
def hEnc (x : Hnd) : Array Value := #[.int .i64 (x.1 : Int), x.2.1]
/-- The lists that have been handed on. -/
def hLs (d : List Hnd) : List (List Cl) := d.map (fun x => x.2.2)
theorem hLs_snoc (d : List Hnd) (x : Hnd) : hLs (d ++ [x]) = hLs d ++ [x.2.2] := by simp [hLs]
theorem hLs_length (d : List Hnd) : (hLs d).length = d.length := by simp [hLs]
/-- What is known of what is handed on, when it is. -/
def hIs (full : List (List Cl)) (n₀ : Nat) (d : List Hnd) (x : Hnd) (W : World) : Prop :=
  x.1 = d.length ∧ hLs (d ++ [x]) <+: full ∧ OwnS W n₀ x.2.1 x.2.2 ∧ good x.2.2 = true ∧ ∀ y ∈ d, ∀ k, y.2.1.ownBlock = some k → x.2.1.ownBlock ≠ some k
/-- What a round keeps: rows of cells, and the iterator's own two boxes. -/
def hKp (b c : Nat) (A B : World) : Prop :=
  A.heap.size ≤ B.heap.size ∧ (∀ (k : Nat) (cs : Array Value) (f : Nat × Nat), A.heap[k]? = some (Obj.cells cs 44 f) → B.heap[k]? = some (Obj.cells cs 44 f)) ∧ B.heap[b]? = A.heap[b]? ∧ B.heap[c]? = A.heap[c]?
theorem hKp.trans {b c : Nat} {A B C : World} (h : hKp b c A B) (k : hKp b c B C) : hKp b c A C :=
  ⟨Nat.le_trans h.1 k.1, fun i cs f hi => k.2.1 i cs f (h.2.1 i cs f hi), k.2.2.1.trans h.2.2.1, k.2.2.2.trans h.2.2.2⟩
theorem hKp.other {b c : Nat} {w : World} (hb : b < w.heap.size) (hc : c < w.heap.size) (W : World) (l : Nat) (o o' : Obj) (hl : w.heap.size ≤ l) (h : W.heap[l]? = some o) (ho : o.isCells = false) : hKp b c W (W.putObj l o') := by
  refine ⟨by simp, fun k cs f hk => ?_, World.putObj_heap_other (by omega), World.putObj_heap_other (by omega)⟩
  rw [World.putObj_heap_other]
  · exact hk
  · intro e; subst e; rw [h] at hk; cases hk; cases ho
theorem hKp.below {b c : Nat} {A B : World} (h : Below A.heap.size A B) (hb : b < A.heap.size) (hc : c < A.heap.size) : hKp b c A B :=
  ⟨h.size, fun k cs f hk => (h.block k (Array.getElem?_eq_some_iff.1 hk).1).trans hk, h.block b hb, h.block c hc⟩
theorem hKp.own {b c base : Nat} {A B : World} {v : Value} {l : List Cl} (h : hKp b c A B) (ho : OwnS A base v l) : OwnS B base v l := by
  refine ⟨ho.1, ?_⟩
  rcases ho.2 with hn | ⟨g, cap, cur, rfl, hb, hg, rest⟩
  · exact .inl hn
  · exact .inr ⟨g, cap, cur, rfl, hb, h.2.1 g cur _ hg, rest⟩

theorem hIs.own (full : List (List Cl)) (n₀ B : Nat) : OwnFrom B (fun (s : List Hnd × Hnd) W => hIs full n₀ s.1 s.2 W) := by
  rintro s W W' row ⟨h1, h2, h3, h4, h5⟩ hg hr
  exact ⟨h1, h2, ownS_other h3 hg (fun r e => (hr r e).2), h4, h5⟩

/-- All that the iterator hands on. -/
noncomputable def hFull (T : Nat) (l : List Cl) : List (List Cl) := if good l then hist T l else []

theorem hist_head (n : Nat) (l : List Cl) : ∃ r, hist n l = l :: r := by
  cases n with
  | zero => exact ⟨[], rfl⟩
  | succ n => exact ⟨_, rfl⟩

set_option maxHeartbeats 1000000 in
theorem c_stepsOf (a : Option Addr) (n ca : Nat) (t : Int) (w : World) :
    Calls Try.prog 51 #[.slice a n ca, .int .i64 t] w fun e w' =>
      e = .returned (.func (.func 80) #[] #[.pointer (some ⟨w.heap.size, 0, none⟩), .pointer (some ⟨w.heap.size + 1, 0, none⟩)]) ∧ w' = (w.alloc (.cells #[.slice a n ca] 23)).alloc (.cells #[.int .i64 t] 3) := by
  have hmf : ∀ (fn : Fn) (first cap : Array Value) (w : World), (Instr.makeFunc fn first cap).run Try.prog w = .ok (.func fn first cap) w := fun _ _ _ _ => rfl
  go_enter Try.func51, Try.ntmps51
  go_wp2
  go_ret
  exact ⟨rfl, rfl⟩

set_option maxHeartbeats 4000000 in
set_option maxRecDepth 100000 in
/-- The word of the iterator. -/
theorem seq_steps (n b c : Nat) (hn : 1 ≤ n) (a : Option Addr) (l : List Cl) (ca T : Nat) (w : World) (hT : T ≤ 20) (ha : Seg w a l) (hca : a = none → ca = 0) (hl : l.length ≤ 1048576)
    (hb : w.cell? ⟨b, 0, none⟩ = some (.slice a l.length ca)) (hblt : b < w.heap.size) (hc : w.cell? ⟨c, 0, none⟩ = some (.int .i64 (T : Int))) (hclt : c < w.heap.size) :
    SeqR Fence.wide n Try.prog 80 #[.pointer (some ⟨b, 0, none⟩), .pointer (some ⟨c, 0, none⟩)] hEnc (hIs (hFull T l) w.heap.size) (hKp b c) (fun xs => hLs xs = hFull T l) (fun xs => hLs xs <+: hFull T l) w := by
  intro L J Jx W hW hJ hJx hY h0
  have hb' := (hW.cell (p := ⟨b, 0, none⟩) hblt).trans hb
  have hc' := (hW.cell (p := ⟨c, 0, none⟩) hclt).trans hc
  have HA := hid (ha.below hW)
  have HW := hid hW
  have HCT := hid (fun (W1 : World) (h : Seg W1 a l) => c_iStepTimes a l ca 0 W1 h hca hl)
  have HV : Hid ((timesOk l 0 = true → timesL l 0 = l ∧ good l = true ∧ hFull T l = hist T l) ∧ (timesOk l 0 = false → hFull T l = [])) := by
    cases hg : good l
    · have : timesOk l 0 = false := by simp [timesOk, hg]
      exact hid ⟨(fun h => by rw [this] at h; cases h), (fun _ => by simp [hFull, hg])⟩
    · have := times_zero hg
      exact hid ⟨(fun _ => ⟨this.2, rfl, by simp [hFull, hg]⟩), (fun h => by rw [this.1] at h; cases h)⟩
  have HFL := hid (show (hFull T l).length ≤ 21 by unfold hFull; split; · have := hist_le T l; omega
                                                   · simp)
  generalize timesOk l 0 = tok at *
  generalize timesL l 0 = tl at *
  generalize hF : hFull T l = full at *
  clear hF hb hc ha hW
  refine callsIn_of_wp Try.func80 rfl trivial ?_ rfl
  simp only [Try.ntmps80, List.size_toArray, List.length_cons, List.length_nil, Nat.reduceAdd, Nat.reduceSub, Array.replicate_succ, Array.replicate_zero, List.push_toArray, List.append_toArray, List.nil_append, List.cons_append]
  gi_wp2_with (refine ⟨trivial, ?_⟩; gi_at_call 15; refine (callsIn_wide.2 (HCT.out _ HA.out)).mono ?_; rintro e w1 ⟨v1, rfl, o1, b1⟩)
  have hbW : b < W.heap.size := Nat.lt_of_lt_of_le hblt HW.out.size
  have hcW : c < W.heap.size := Nat.lt_of_lt_of_le hclt HW.out.size
  have C1 := hid ((b1.cell (p := ⟨c, 0, none⟩) hcW).trans hc')
  have J1 := hid (hJ _ _ _ none h0 (grown_of_below b1 none) (fun r e => by cases e))
  have O1 := hid (o1.mono HW.out.size)
  have Z1 := hid b1.size
  clear hb' hc' HA HCT o1 b1
  gi_loopw [4, 5, 6] (fun nv ov kv wr => ∃ (done : List Hnd) (ok : Bool) (m : List Cl), ov = .bool ok ∧ kv = .int .i64 (done.length : Int) ∧ done.length ≤ T + 1 ∧ Hid (J done wr ∧ OwnS wr w.heap.size nv m ∧ (ok = true → good m = true ∧ done.length ≤ T ∧ hLs done ++ hist (T - done.length) m = full) ∧ (ok = false → hLs done = full) ∧ (∀ y ∈ done, ∀ k, y.2.1.ownBlock = some k → nv.ownBlock ≠ some k ∧ k < wr.heap.size) ∧ wr.cell? ⟨c, 0, none⟩ = some (.int .i64 (T : Int)) ∧ W.heap.size ≤ wr.heap.size)) (fun _ _ kv _ => T + 1 - (intOf kv).toNat)
  case atStart =>
    refine ⟨[], tok, tl, rfl, rfl, by simp, show _ ∧ _ from ⟨J1.out, O1.out, fun h => ?_, fun h => ?_, (fun y hy => by cases hy), C1.out, Z1.out⟩⟩
    · obtain ⟨e1, e2, e3⟩ := HV.out.1 h
      rw [e1]
      exact ⟨e2, by simp, by simp [hLs, e3]⟩
    · exact (HV.out.2 h).symm
  case round =>
    clear J1 O1 C1 Z1 HV
    obtain ⟨done, ok, m, rfl, rfl, hdl, hx⟩ := hrel
    cases ok with
    | false =>
      gi_wp2
      refine ⟨fun _ h => (by cases h), ?_⟩
      gi_wp2
      go_end0
      exact ⟨⟨_, rfl⟩, .inl ⟨done, by first | exact hx.out.2.2.2.1 rfl | exact hx.out.2.2.2.1 trivial, hx.out.1⟩⟩
    | true =>
      obtain ⟨hgm, hdT, hfull⟩ := hx.out.2.2.1 rfl
      obtain ⟨am, cm, rfl, sm⟩ := hx.out.2.1.form
      obtain ⟨rs, hrs⟩ := hist_head (T - done.length) m
      have hI : hIs full w.heap.size done (done.length, .slice am m.length cm, m) wr := by
        refine ⟨rfl, ?_, hx.out.2.1, hgm, fun y hy k hk => (hx.out.2.2.2.2.1 y hy k hk).1⟩
        rw [hLs_snoc]
        exact ⟨rs, by rw [← hfull, hrs]; simp⟩
      obtain ⟨fn, tmps, assign, body, hy, hR⟩ := hY done _ wr hx.out.1 hI
      dsimp only [hEnc] at hy
      have HXW := hid (fun y hy k hk => (hx.out.2.2.2.2.1 y hy k hk).2)
      have HXB := hid (hx.out.2.1.lt)
      have HXZ := hid hx.out.2.2.2.2.2.2
      have HXC := hid (hx.out.2.2.2.2.2.1)
      have HFU := hid hfull
      have HRS := hid hrs
      have hlm := good_le hgm
      have HIX := hid hI
      have HOX := hid hx.out.2.1
      clear hx hfull hrs hI
      gi_wp2
      refine hR.mono ?_
      rintro e W3 (⟨rfl, hJ3, hk3⟩ | ⟨rfl, hJx3⟩)
      · have O3 := hid (hk3.own HOX.out)
        have S3 := hid (O3.out.seg)
        have C3 : W3.cell? ⟨c, 0, none⟩ = some (.int .i64 (T : Int)) := (World.cell?_of_block hk3.2.2.2).trans HXC.out
        have Z3 := hid hk3.1
        have HJ3 := hid hJ3
        clear hy hR hJ3 hk3 HOX HXC
        by_cases hlt : done.length < T
        · have k0 : (done.length : Int) < (T : Int) := by omega
          have HC := hid (c_iStepCells am m cm W3 S3.out (by omega))
          have HSO : Hid (stepOk m = good (pickL (nxtB m)) ∧ stepL m = tellV (pickL (nxtB m))) := by simp [Hid, stepOk, stepL, hgm]
          have HC3 := hid C3
          have hz1 : w.heap.size ≤ W3.heap.size := Nat.le_trans HW.out.size (Nat.le_trans HXZ.out Z3.out)
          have hz2 : c < W3.heap.size := Nat.lt_of_lt_of_le hcW (Nat.le_trans HXZ.out Z3.out)
          have hz3 : W.heap.size ≤ W3.heap.size := Nat.le_trans HXZ.out Z3.out
          gi_wp2_with (refine ⟨trivial, ?_⟩; gi_at_call 36; refine (callsIn_wide.2 HC.out).mono ?_; rintro e w4 ⟨v4, rfl, o4, b4⟩; have O4 := hid o4; have B4 := hid b4; clear o4 b4)
          go_roundw
          case rel =>
            refine ⟨done ++ [(done.length, .slice am m.length cm, m)], stepOk m, stepL m, rfl, by simp, by simp; omega, show _ ∧ _ from ⟨hJ _ _ _ none HJ3.out (grown_of_below B4.out none) (fun r e => by cases e), O4.out.mono hz1, fun h => ?_, fun h => ?_, ?_, (B4.out.cell (p := ⟨c, 0, none⟩) hz2).trans HC3.out, Nat.le_trans hz3 B4.out.size⟩⟩
            · obtain ⟨e1, e2⟩ := HSO.out
              rw [h] at e1
              have e3 : nxtO m = some (stepL m) := by rw [e2]; unfold nxtO tellV; rw [← e1]; rfl
              refine ⟨nxtO_good e3, by simp; omega, ?_⟩
              rw [hLs_snoc, ← HFU.out, show T - done.length = T - (done ++ [(done.length, Value.slice am m.length cm, m)]).length + 1 by simp; omega, hist_some e3]
              simp
            · obtain ⟨e1, e2⟩ := HSO.out
              rw [h] at e1
              have e3 : nxtO m = none := by unfold nxtO; rw [← e1]; rfl
              rw [hLs_snoc, ← HFU.out, hist_none e3]
            · intro y hy k hk
              have hlt2 : k < W3.heap.size := by
                rcases List.mem_append.1 hy with h | h
                · exact Nat.lt_of_lt_of_le (HXW.out y h k hk) Z3.out
                · rw [List.mem_singleton] at h
                  subst h
                  exact Nat.lt_of_lt_of_le (HXB.out k hk).2 Z3.out
              refine ⟨fun e => ?_, Nat.lt_of_lt_of_le hlt2 B4.out.size⟩
              have := (O4.out.lt k e).1
              omega
          case measure => simp [intOf]; omega
        · have k0 : ¬ (done.length : Int) < (T : Int) := by omega
          gi_wp2
          go_end0
          refine ⟨⟨_, rfl⟩, .inl ⟨_, ?_, HJ3.out⟩⟩
          rw [hLs_snoc, ← HFU.out, show T - done.length = 0 by omega, hist_zero]
      · gi_wp2
        go_end0
        exact ⟨⟨_, rfl⟩, .inr ⟨_, HIX.out.2.1, hJx3⟩⟩
end Go.Proofs.Ytgppcocfnbalfaa

namespace Go.Proofs.Ytgppcocfnbalfaa
open Go.RowKit Go.Shelf
set_option linter.unusedVariables false
set_option linter.unusedSimpArgs false

theorem c_isMost (t : Int) (w : World) : Calls Try.prog 50 #[.int .i64 t] w fun e w' => e = .returned (.bool (inMo t)) ∧ w' = w := by
  by_cases h1 : 1 ≤ t <;> by_cases h2 : t ≤ 20
  all_goals
    go_enter Try.func50, Try.ntmps50
    go_wp2
    go_ret
    exact ⟨ret_bool (by simp [inMo, h1, h2] <;> omega), rfl⟩

theorem boxed_other {W W' : World} {row : Option Nat} {B : Nat} {t : TypeId} {v : Value} (h : Boxed W B t v) (hg : W.grownBy W' row) (hr : ∀ r, row = some r → ∃ o : Obj, W.heap[r]? = some o ∧ o.isCells = false) : Boxed W' B t v :=
  h.kept hg fun e => by
    obtain ⟨o, ho, hc⟩ := hr B e.symm
    rw [show W.heap[B]? = _ from h] at ho; cases ho; cases hc
theorem boxed_below {W W' : World} {B : Nat} {t : TypeId} {v : Value} (h : Boxed W B t v) (hb : Below W.heap.size W W') : Boxed W' B t v := (hb.block B h.lt).trans h
theorem boxed_ne {W : World} {B b : Nat} {t : TypeId} {v u : Value} (h : Boxed W B t v) (hne : B ≠ b) : Boxed (W.setCell ⟨b, 0, none⟩ u) B t v :=
  h.kept (grownBy_setCell' W b u) (by simp; exact hne)
theorem keeps_below {W W' : World} (hb : Below W.heap.size W W') : KeepsOthers W W' := ⟨hb.size, fun k o hk _ => (hb.block k (Array.getElem?_eq_some_iff.1 hk).1).trans hk⟩
theorem pre_ht {A F : List (List Cl)} (h : A <+: F) {i : Nat} (hi : i < A.length) : ht F i = ht A i := by
  obtain ⟨r, rfl⟩ := h
  simp [ht, List.getElem?_append_left hi]
theorem pre_le {A F : List (List Cl)} (h : A <+: F) : A.length ≤ F.length := h.length_le
theorem hFull_good {T : Nat} {l : List Cl} {x : List Cl} {A : List (List Cl)} (h : A ++ [x] <+: hFull T l) : good l = true := by
  cases hg : good l
  · have := pre_le h
    simp [hFull, hg] at this
  · rfl
theorem hFull_is {T : Nat} {l : List Cl} (h : inMo (T : Int) = true) : hFull T l = histG l (T : Int) := by
  cases hg : good l <;> simp [hFull, histG, hg, h]
/-- A store into a box of its own type keeps what a round is to keep. -/
theorem hKp.set {b c B : Nat} {W : World} {t : TypeId} {v u : Value} (h : Boxed W B t v) (ht : t ≠ 44) (hb : b ≠ B) (hc : c ≠ B) : hKp b c W (W.setCell ⟨B, 0, none⟩ u) := by
  have hg := grownBy_setCell' W B u
  refine ⟨hg.size, fun k cs f hk => ?_, Below.heap_setCell _ _ _ b hb, Below.heap_setCell _ _ _ c hc⟩
  refine (hg.block k (Array.getElem?_eq_some_iff.1 hk).1 (fun e => ?_)).trans hk
  simp only [Option.some.injEq] at e
  subst e
  rw [show W.heap[k]? = _ from h] at hk
  simp only [Option.some.injEq, Obj.cells.injEq] at hk
  exact ht hk.2.1
end Go.Proofs.Ytgppcocfnbalfaa

namespace Go.Proofs.Ytgppcocfnbalfaa
open Go.RowKit Go.Shelf
set_option linter.unusedVariables false
set_option linter.unusedSimpArgs false
attribute [local go_sem] Oper.semAt_some

set_option maxHeartbeats 4000000 in
set_option maxRecDepth 100000 in
theorem c_iPeriodOf (a : Option Addr) (l : List Cl) (ca : Nat) (t : Int) (w : World) (ha : Seg w a l) (hca : a = none → ca = 0) (hl : l.length ≤ 1048576) :
    Calls Try.prog 13 #[.slice a l.length ca, .int .i64 t] w fun e w' => e = .returned (.tuple #[.int .i64 (oN (perO l t)), .bool (perO l t).isSome]) ∧ Below w.heap.size w w' := by
  have HM := hid (fun W => c_isMost t W)
  have HS := hid (fun W => c_stepsOf a l.length ca t W)
  cases hm : inMo t
  · rw [hm] at HM
    have HV : Hid (perO l t = none) := by
      show _ = _
      exact fstAt_none (fun k hk => by simp [histG, hm] at hk)
    have X2 := Boxed.new (w.alloc (.cells #[.slice a l.length ca] 23)) 3 (.int .i64 0)
    have X3 := Boxed.new ((w.alloc (.cells #[.slice a l.length ca] 23)).alloc (.cells #[.int .i64 0] 3)) 4 (.bool false)
    replace X2 := X2.alloc (.cells #[.bool false] 4)
    have HB := (((Below.refl w.heap.size w).alloc (Nat.le_refl _) (.cells #[.slice a l.length ca] 23)).alloc (by simp) (.cells #[.int .i64 0] 3)).alloc (by simp; omega) (.cells #[.bool false] 4)
    simp only [World.size_alloc] at X2 X3
    go_enter Try.func13, Try.ntmps13
    go_wp2_with fail
    refine (HM.out _).mono ?_
    rintro e w1 ⟨rfl, rfl⟩
    generalize ((w.alloc (.cells #[.slice a l.length ca] 23)).alloc (.cells #[.int .i64 0] 3)).alloc (.cells #[.bool false] 4) = W0 at *
    have hc2 := X2.cell
    have hf2 := X2.frozen
    have hc3 := X3.cell
    have hf3 := X3.frozen
    go_wp2_with fail
    have z2 : Boxed ((W0.setCell ⟨w.heap.size + 1, 0, none⟩ (.int .i64 0)).setCell ⟨w.heap.size + 1 + 1, 0, none⟩ (.bool false)) (w.heap.size + 1) 3 (.int .i64 0) := boxed_ne (X2.set _) (by omega)
    have z3 : Boxed ((W0.setCell ⟨w.heap.size + 1, 0, none⟩ (.int .i64 0)).setCell ⟨w.heap.size + 1 + 1, 0, none⟩ (.bool false)) (w.heap.size + 1 + 1) 4 (.bool false) := (boxed_ne (u := .int .i64 0) X3 (show w.heap.size + 1 + 1 ≠ w.heap.size + 1 by omega)).set _
    have k2 := z2.cell
    have k3 := z3.cell
    refine bodyPost_ret (v := .tuple #[.int .i64 0, .bool false]) ?_ rfl ⟨by rw [HV.out]; rfl, (HB.setCell (p := ⟨w.heap.size + 1, 0, none⟩) (by simp) (.int .i64 0)).setCell (p := ⟨w.heap.size + 1 + 1, 0, none⟩) (by simp; omega) (.bool false)⟩
    simp [results, Try.results13, go_sem, k2, k3]
  · rw [hm] at HM
    have htb := inMo_bd hm
    obtain ⟨T, rfl⟩ : ∃ T : Nat, t = (T : Int) := ⟨t.toNat, by omega⟩
    have hT : T ≤ 20 := by omega
    refine (callsIn_wide (n := 5)).1 ?_
    refine callsIn_of_wp_marks Try.func13 rfl trivial ?_ rfl
    simp only [Try.ntmps13, List.size_toArray, List.length_cons, List.length_nil, Nat.reduceAdd, Nat.reduceSub, Array.replicate_succ, Array.replicate_zero, List.push_toArray, List.append_toArray, List.nil_append, List.cons_append]
    gi_wp2_with (first | (refine ⟨trivial, ?_⟩; gi_at_call 50; refine (callsIn_wide.2 (HM.out _)).mono ?_; rintro e w1 ⟨rfl, rfl⟩) | (refine ⟨trivial, ?_⟩; gi_at_call 51; refine (callsIn_wide.2 (HS.out _)).mono ?_; rintro e w1 ⟨rfl, rfl⟩))
    have X1 := Boxed.new w 23 (.slice a l.length ca)
    have X2 := Boxed.new (w.alloc (.cells #[.slice a l.length ca] 23)) 3 (.int .i64 0)
    have X3 := Boxed.new ((w.alloc (.cells #[.slice a l.length ca] 23)).alloc (.cells #[.int .i64 0] 3)) 4 (.bool false)
    have X4 := Boxed.new (((w.alloc (.cells #[.slice a l.length ca] 23)).alloc (.cells #[.int .i64 0] 3)).alloc (.cells #[.bool false] 4)) 23 (.slice a l.length ca)
    have X5 := Boxed.new ((((w.alloc (.cells #[.slice a l.length ca] 23)).alloc (.cells #[.int .i64 0] 3)).alloc (.cells #[.bool false] 4)).alloc (.cells #[.slice a l.length ca] 23)) 3 (.int .i64 (T : Int))
    replace X1 := (((X1.alloc (.cells #[.int .i64 0] 3)).alloc (.cells #[.bool false] 4)).alloc (.cells #[.slice a l.length ca] 23)).alloc (.cells #[.int .i64 (T : Int)] 3)
    replace X2 := ((X2.alloc (.cells #[.bool false] 4)).alloc (.cells #[.slice a l.length ca] 23)).alloc (.cells #[.int .i64 (T : Int)] 3)
    replace X3 := (X3.alloc (.cells #[.slice a l.length ca] 23)).alloc (.cells #[.int .i64 (T : Int)] 3)
    replace X4 := X4.alloc (.cells #[.int .i64 (T : Int)] 3)
    have HB := ((((((Below.refl w.heap.size w).alloc (Nat.le_refl _) (.cells #[.slice a l.length ca] 23)).alloc (by simp) (.cells #[.int .i64 0] 3)).alloc (by simp; omega) (.cells #[.bool false] 4)).alloc (by simp; omega) (.cells #[.slice a l.length ca] 23)).alloc (by simp; omega) (.cells #[.int .i64 (T : Int)] 3))
    simp only [World.size_alloc] at X2 X3 X4 X5
    have hsz : (((((w.alloc (.cells #[.slice a l.length ca] 23)).alloc (.cells #[.int .i64 0] 3)).alloc (.cells #[.bool false] 4)).alloc (.cells #[.slice a l.length ca] 23)).alloc (.cells #[.int .i64 (T : Int)] 3)).heap.size = w.heap.size + 5 := by simp
    generalize ((((w.alloc (.cells #[.slice a l.length ca] 23)).alloc (.cells #[.int .i64 0] 3)).alloc (.cells #[.bool false] 4)).alloc (.cells #[.slice a l.length ca] 23)).alloc (.cells #[.int .i64 (T : Int)] 3) = W0 at *
    have HA0 := hid (ha.below HB)
    have HP := hid (show ∀ k, k < (histG l (T : Int)).length → 0 < k → ht (histG l (T : Int)) k = l → (∀ j, j < k → ¬ (0 < j ∧ ht (histG l (T : Int)) j = l)) → perO l (T : Int) = some k from fun k hk h0 he hj => by
      unfold perO
      exact fstAt_some hk (by simp [h0, he]) (fun j hjk => by
        have := hj j hjk
        cases h : (decide (0 < j) && decide (ht (histG l (T : Int)) j = l))
        · rfl
        · simp at h; exact absurd h this))
    have HN := hid (show (∀ j, j < (histG l (T : Int)).length → ¬ (0 < j ∧ ht (histG l (T : Int)) j = l)) → perO l (T : Int) = none from fun hj => by
      unfold perO
      exact fstAt_none (fun j hjk => by
        have := hj j hjk
        cases h : (decide (0 < j) && decide (ht (histG l (T : Int)) j = l))
        · rfl
        · simp at h; exact absurd h this))
    rw [← hFull_is hm] at HP HN
    have hgl := fun (A : List (List Cl)) x => hFull_good (T := T) (l := l) (x := x) (A := A)
    refine wpIn_rangeR rfl (by omega) (gf := 80) (lb := #[.pointer (some ⟨w.heap.size + 1 + 1 + 1, 0, none⟩), .pointer (some ⟨w.heap.size + 1 + 1 + 1 + 1, 0, none⟩)]) rfl trivial (enters_of Try.func80 (by kernel_rfl) rfl)
      (seq_steps 4 (w.heap.size + 1 + 1 + 1) (w.heap.size + 1 + 1 + 1 + 1) (by omega) a l ca T W0 hT HA0.out hca hl X4.cell (by omega) X5.cell (by omega))
      (fun h k => h.trans k) (hKp.other (by omega) (by omega)) (fun _ => rfl) (hIs.own _ _ _)
      (fun d W => (Boxed W w.heap.size 23 (.slice a l.length ca) ∧ Boxed W (w.heap.size + 1) 3 (.int .i64 0) ∧ Boxed W (w.heap.size + 1 + 1) 4 (.bool false) ∧ (∀ j, j < d.length → ¬ (0 < j ∧ ht (hLs d) j = l)) ∧ w.heap.size + 5 ≤ W.heap.size) ∧ Below w.heap.size w W)
      (fun c d W => (c = .ret ∧ ∃ k : Nat, perO l (T : Int) = some k ∧ Boxed W (w.heap.size + 1) 3 (.int .i64 (k : Int)) ∧ Boxed W (w.heap.size + 1 + 1) 4 (.bool true)) ∧ Below w.heap.size w W)
      (OwnFrom.and (fun s A B row hs hg hr => ⟨boxed_other hs.1 hg (fun r e => (hr r e).2), boxed_other hs.2.1 hg (fun r e => (hr r e).2), boxed_other hs.2.2.1 hg (fun r e => (hr r e).2), hs.2.2.2.1, Nat.le_trans hs.2.2.2.2 hg.size⟩) (ownFrom_below (Nat.le_refl _) (by omega)))
      (fun c => OwnFrom.and (fun s A B row hs hg hr => by obtain ⟨e, k, h1, h2, h3⟩ := hs; exact ⟨e, k, h1, boxed_other h2 hg (fun r e => (hr r e).2), boxed_other h3 hg (fun r e => (hr r e).2)⟩) (ownFrom_below (Nat.le_refl _) (by omega)))
      ⟨⟨X1, X2, X3, (fun j hj => absurd hj (Nat.not_lt_zero _)), by omega⟩, HB⟩
      (fun x => { tmps := #[.slice a l.length ca, .int .i64 (T : Int), .pointer (some ⟨w.heap.size, 0, none⟩), undef, .pointer (some ⟨w.heap.size + 1, 0, none⟩), .pointer (some ⟨w.heap.size + 1 + 1, 0, none⟩), .int .i64 (x.1 : Int), x.2.1, .int .i64 (T : Int), .bool true, .bool false, .slice a l.length ca, .int .i64 (T : Int), .func (.func 80) #[] #[.pointer (some ⟨w.heap.size + 1 + 1 + 1, 0, none⟩), .pointer (some ⟨w.heap.size + 1 + 1 + 1 + 1, 0, none⟩)], .int .i64 (x.1 : Int), x.2.1, undef, undef, undef, undef, undef, undef, undef, undef], defers := [] }) ?assign ?body ?done ?stop
    case assign =>
      intro L x W K hK
      simp only [hEnc]
      gi_wp2
      exact hK
    case body =>
      rintro L d ⟨k, v, m⟩ W ⟨⟨x1, x2, x3, hj, hz⟩, hB⟩ ⟨hk, hpre, hO, hgm, hap⟩
      simp only at hk hpre hO hgm
      subst hk
      obtain ⟨am, cm, rfl, sm⟩ := hO.form
      rw [hLs_snoc] at hpre
      have hlg := good_le (hgl _ _ hpre)
      have hlm := good_le hgm
      have hc1 := x1.cell
      have SM := hid sm
      have SL := hid (ha.below hB)
      have CS := c_isSame am a m l cm ca W SM.out SL.out hlm hlg
      have hFd : ∀ j, j < d.length → ht (hLs (d ++ [(d.length, Value.slice am m.length cm, m)])) j = ht (hLs d) j := fun j hj => by
        rw [hLs_snoc]; exact pre_ht (List.prefix_append _ _) (by rw [hLs_length]; exact hj)
      have hFm : ht (hLs (d ++ [(d.length, Value.slice am m.length cm, m)])) d.length = m := by
        rw [hLs_snoc, ← hLs_length, ht_snoc _ (by omega), if_pos rfl]
      have HFd := hid hFd
      have HFm := hid hFm
      have HPR := hid hpre
      clear hFd hFm hpre sm hO hap
      by_cases hpos : 0 < d.length
      · have kp : (0 : Int) < (d.length : Int) := by omega
        cases he : decide (m = l)
        · rw [he] at CS
          have HE := hid he
          clear he
          gi_wp2_with (refine ⟨trivial, ?_⟩; gi_at_call 52; refine (CallsIn.inRound L (callsIn_wide.2 CS)).mono ?_; rintro e w1 ⟨rfl, b1⟩)
          refine ⟨keeps_below b1, hKp.below b1 (by omega) (by omega), ⟨boxed_below x1 b1, boxed_below x2 b1, boxed_below x3 b1, fun j hj2 h => ?_, Nat.le_trans hz b1.size⟩, hB.trans (b1.mono hB.size)⟩
          by_cases ej : j = d.length
          · subst ej
            rw [HFm.out] at h
            have := HE.out
            simp [h.2] at this
          · rw [HFd.out j (by simp at hj2; omega)] at h
            exact hj j (by simp at hj2; omega) h
        · rw [he] at CS
          have hml : m = l := by simpa using he
          have hlen := pre_le HPR.out
          rw [List.length_append, hLs_length] at hlen
          have HF := hid (HP.out d.length (by simp at hlen; omega) hpos (by rw [pre_ht HPR.out (by simp [hLs_length])]; rw [← hLs_length, ht_snoc _ (by omega), if_pos rfl]; exact hml) (fun j hjd => by
            rw [pre_ht HPR.out (by simp [hLs_length]; omega), pre_ht (List.prefix_append _ _) (by rw [hLs_length]; omega)] ; exact hj j hjd))
          have HJ := hid hj
          clear he hj hlen hml
          gi_wp2_with (refine ⟨trivial, ?_⟩; gi_at_call 52; refine (CallsIn.inRound L (callsIn_wide.2 CS)).mono ?_; rintro e w1 ⟨rfl, b1⟩; have z2 := boxed_below x2 b1; have z3 := boxed_below x3 b1; have hc2 := z2.cell; have hf2 := z2.frozen; have hc3 := z3.cell; have hf3 := z3.frozen)
          have q3 : Boxed (w1.setCell ⟨w.heap.size + 1, 0, none⟩ (.int .i64 (d.length : Int))) (w.heap.size + 1 + 1) 4 (.bool false) := boxed_ne z3 (by omega)
          refine ⟨(keeps_below b1).trans ((KeepsOthers.setCell _ _ _).trans (KeepsOthers.setCell _ _ _)), ⟨rfl, d.length, HF.out, boxed_ne (z2.set _) (by omega), q3.set _⟩, ?_⟩
          exact ((hB.trans (b1.mono hB.size)).setCell (p := ⟨w.heap.size + 1, 0, none⟩) (by simp) _).setCell (p := ⟨w.heap.size + 1 + 1, 0, none⟩) (by simp; omega) _
      · have kp : ¬ (0 : Int) < (d.length : Int) := by omega
        gi_wp2
        refine ⟨trivial, ?_⟩
        gi_wp2
        refine ⟨KeepsOthers.refl _, hKp.below (Below.refl _ _) (by omega) (by omega), ⟨x1, x2, x3, fun j hj2 h => ?_, hz⟩, hB⟩
        simp at hj2
        omega
    case done =>
      rintro D ys W hD hS ⟨⟨x1, x2, x3, hj, hz⟩, hB⟩ hK
      have HF := hid (HN.out (by rw [← hS, hLs_length]; exact hj))
      have hc2 := x2.cell
      have hf2 := x2.frozen
      have hc3 := x3.cell
      have hf3 := x3.frozen
      gi_wp2
      have z2 : Boxed ((W.setCell ⟨w.heap.size + 1, 0, none⟩ (.int .i64 0)).setCell ⟨w.heap.size + 1 + 1, 0, none⟩ (.bool false)) (w.heap.size + 1) 3 (.int .i64 0) := boxed_ne (x2.set _) (by omega)
      have z3 : Boxed ((W.setCell ⟨w.heap.size + 1, 0, none⟩ (.int .i64 0)).setCell ⟨w.heap.size + 1 + 1, 0, none⟩ (.bool false)) (w.heap.size + 1 + 1) 4 (.bool false) := (boxed_ne (u := .int .i64 0) x3 (show w.heap.size + 1 + 1 ≠ w.heap.size + 1 by omega)).set _
      have hK' := ((KeepsOthers.setCell W ⟨w.heap.size + 1, 0, none⟩ (.int .i64 0)).trans (KeepsOthers.setCell _ ⟨w.heap.size + 1 + 1, 0, none⟩ (.bool false))).same D _ hK rfl
      have hB' := (hB.setCell (p := ⟨w.heap.size + 1, 0, none⟩) (by simp) (.int .i64 0)).setCell (p := ⟨w.heap.size + 1 + 1, 0, none⟩) (by simp; omega) (.bool false)
      generalize (W.setCell ⟨w.heap.size + 1, 0, none⟩ (.int .i64 0)).setCell ⟨w.heap.size + 1 + 1, 0, none⟩ (.bool false) = W5 at *
      refine ⟨by simp, .inl ⟨_, _, rfl, run_takeDeferred hK', ?_⟩⟩
      have k2 := (boxed_other z2 (grownBy_putObj' _ D (.deferred none)) (fun r e => by cases e; exact ⟨_, hK', rfl⟩)).cell
      have k3 := (boxed_other z3 (grownBy_putObj' _ D (.deferred none)) (fun r e => by cases e; exact ⟨_, hK', rfl⟩)).cell
      refine ⟨.tuple #[.int .i64 0, .bool false], ?_, by rw [HF.out]; rfl, hB'.trans (belowK_b (w := w) (Nat.le_refl _) _ D _ _ (by omega) hK' rfl rfl)⟩
      simp [results, Try.results13, go_sem, k2, k3]
    case stop =>
      rintro D c ys W hD hS ⟨⟨rfl, k, HF, x2, x3⟩, hB⟩ hK
      gi_wp2
      refine ⟨by simp, .inl ⟨_, _, rfl, run_takeDeferred hK, ?_⟩⟩
      have k2 := (boxed_other x2 (grownBy_putObj' _ D (.deferred none)) (fun r e => by cases e; exact ⟨_, hK, rfl⟩)).cell
      have k3 := (boxed_other x3 (grownBy_putObj' _ D (.deferred none)) (fun r e => by cases e; exact ⟨_, hK, rfl⟩)).cell
      refine ⟨.tuple #[.int .i64 (k : Int), .bool true], ?_, by rw [HF]; rfl, hB.trans (belowK_b (w := w) (Nat.le_refl _) _ D _ _ (by omega) hK rfl rfl)⟩
      simp [results, Try.results13, go_sem, k2, k3]
end Go.Proofs.Ytgppcocfnbalfaa

namespace Go.Proofs.Ytgppcocfnbalfaa
open Go.RowKit Go.Shelf
set_option linter.unusedVariables false
set_option linter.unusedSimpArgs false
attribute [local go_sem] Oper.semAt_some

set_option maxHeartbeats 4000000 in
set_option maxRecDepth 100000 in
theorem c_iDiesWithin (a : Option Addr) (l : List Cl) (ca : Nat) (t : Int) (w : World) (ha : Seg w a l) (hca : a = none → ca = 0) (hl : l.length ≤ 1048576) :
    Calls Try.prog 24 #[.slice a l.length ca, .int .i64 t] w fun e w' => e = .returned (.tuple #[.int .i64 (oN (dieO l t)), .bool (dieO l t).isSome]) ∧ Below w.heap.size w w' := by
  have HM := hid (fun W => c_isMost t W)
  have HS := hid (fun W => c_stepsOf a l.length ca t W)
  cases hm : inMo t
  · rw [hm] at HM
    have HV : Hid (dieO l t = none) := by
      show _ = _
      exact fstAt_none (fun k hk => by simp [histG, hm] at hk)
    have X2 := Boxed.new w 3 (.int .i64 0)
    have X3 := Boxed.new (w.alloc (.cells #[.int .i64 0] 3)) 4 (.bool false)
    replace X2 := X2.alloc (.cells #[.bool false] 4)
    have HB := ((Below.refl w.heap.size w).alloc (Nat.le_refl _) (.cells #[.int .i64 0] 3)).alloc (by simp <;> omega) (.cells #[.bool false] 4)
    simp only [World.size_alloc] at X3
    go_enter Try.func24, Try.ntmps24
    go_wp2_with fail
    refine (HM.out _).mono ?_
    rintro e w1 ⟨rfl, rfl⟩
    generalize (w.alloc (.cells #[.int .i64 0] 3)).alloc (.cells #[.bool false] 4) = W0 at *
    have hc2 := X2.cell
    have hf2 := X2.frozen
    have hc3 := X3.cell
    have hf3 := X3.frozen
    go_wp2_with fail
    have z2 : Boxed ((W0.setCell ⟨w.heap.size, 0, none⟩ (.int .i64 0)).setCell ⟨w.heap.size + 1, 0, none⟩ (.bool false)) (w.heap.size) 3 (.int .i64 0) := boxed_ne (X2.set _) (by omega)
    have z3 : Boxed ((W0.setCell ⟨w.heap.size, 0, none⟩ (.int .i64 0)).setCell ⟨w.heap.size + 1, 0, none⟩ (.bool false)) (w.heap.size + 1) 4 (.bool false) := (boxed_ne (u := .int .i64 0) X3 (show w.heap.size + 1 ≠ w.heap.size by omega)).set _
    have k2 := z2.cell
    have k3 := z3.cell
    refine bodyPost_ret (v := .tuple #[.int .i64 0, .bool false]) ?_ rfl ⟨by rw [HV.out]; rfl, (HB.setCell (p := ⟨w.heap.size, 0, none⟩) (by simp <;> omega) (.int .i64 0)).setCell (p := ⟨w.heap.size + 1, 0, none⟩) (by simp <;> omega) (.bool false)⟩
    simp [results, Try.results24, go_sem, k2, k3]
  · rw [hm] at HM
    have htb := inMo_bd hm
    obtain ⟨T, rfl⟩ : ∃ T : Nat, t = (T : Int) := ⟨t.toNat, by omega⟩
    have hT : T ≤ 20 := by omega
    refine (callsIn_wide (n := 5)).1 ?_
    refine callsIn_of_wp_marks Try.func24 rfl trivial ?_ rfl
    simp only [Try.ntmps24, List.size_toArray, List.length_cons, List.length_nil, Nat.reduceAdd, Nat.reduceSub, Array.replicate_succ, Array.replicate_zero, List.push_toArray, List.append_toArray, List.nil_append, List.cons_append]
    gi_wp2_with (first | (refine ⟨trivial, ?_⟩; gi_at_call 50; refine (callsIn_wide.2 (HM.out _)).mono ?_; rintro e w1 ⟨rfl, rfl⟩) | (refine ⟨trivial, ?_⟩; gi_at_call 51; refine (callsIn_wide.2 (HS.out _)).mono ?_; rintro e w1 ⟨rfl, rfl⟩))
    have X2 := Boxed.new w 3 (.int .i64 0)
    have X3 := Boxed.new (w.alloc (.cells #[.int .i64 0] 3)) 4 (.bool false)
    have X4 := Boxed.new ((w.alloc (.cells #[.int .i64 0] 3)).alloc (.cells #[.bool false] 4)) 23 (.slice a l.length ca)
    have X5 := Boxed.new (((w.alloc (.cells #[.int .i64 0] 3)).alloc (.cells #[.bool false] 4)).alloc (.cells #[.slice a l.length ca] 23)) 3 (.int .i64 (T : Int))
    replace X2 := ((X2.alloc (.cells #[.bool false] 4)).alloc (.cells #[.slice a l.length ca] 23)).alloc (.cells #[.int .i64 (T : Int)] 3)
    replace X3 := (X3.alloc (.cells #[.slice a l.length ca] 23)).alloc (.cells #[.int .i64 (T : Int)] 3)
    replace X4 := X4.alloc (.cells #[.int .i64 (T : Int)] 3)
    have HB := (((((Below.refl w.heap.size w).alloc (Nat.le_refl _) (.cells #[.int .i64 0] 3)).alloc (by simp <;> omega) (.cells #[.bool false] 4)).alloc (by simp <;> omega) (.cells #[.slice a l.length ca] 23)).alloc (by simp <;> omega) (.cells #[.int .i64 (T : Int)] 3))
    simp only [World.size_alloc] at X3 X4 X5
    have hsz : ((((w.alloc (.cells #[.int .i64 0] 3)).alloc (.cells #[.bool false] 4)).alloc (.cells #[.slice a l.length ca] 23)).alloc (.cells #[.int .i64 (T : Int)] 3)).heap.size = w.heap.size + 4 := by simp
    generalize (((w.alloc (.cells #[.int .i64 0] 3)).alloc (.cells #[.bool false] 4)).alloc (.cells #[.slice a l.length ca] 23)).alloc (.cells #[.int .i64 (T : Int)] 3) = W0 at *
    have HA0 := hid (ha.below HB)
    have HP := hid (show ∀ k, k < (histG l (T : Int)).length → (ht (histG l (T : Int)) k).length = 0 → (∀ j, j < k → ¬ ((ht (histG l (T : Int)) j).length = 0)) → dieO l (T : Int) = some k from fun k hk he hj => by
      unfold dieO
      exact fstAt_some hk (by simp [he]) (fun j hjk => by simpa using hj j hjk))
    have HN := hid (show (∀ j, j < (histG l (T : Int)).length → ¬ ((ht (histG l (T : Int)) j).length = 0)) → dieO l (T : Int) = none from fun hj => by
      unfold dieO
      exact fstAt_none (fun j hjk => by simpa using hj j hjk))
    rw [← hFull_is hm] at HP HN
    have hgl := fun (A : List (List Cl)) x => hFull_good (T := T) (l := l) (x := x) (A := A)
    refine wpIn_rangeR rfl (by omega) (gf := 80) (lb := #[.pointer (some ⟨w.heap.size + 1 + 1, 0, none⟩), .pointer (some ⟨w.heap.size + 1 + 1 + 1, 0, none⟩)]) rfl trivial (enters_of Try.func80 (by kernel_rfl) rfl)
      (seq_steps 4 (w.heap.size + 1 + 1) (w.heap.size + 1 + 1 + 1) (by omega) a l ca T W0 hT HA0.out hca hl X4.cell (by omega) X5.cell (by omega))
      (fun h k => h.trans k) (hKp.other (by omega) (by omega)) (fun _ => rfl) (hIs.own _ _ _)
      (fun d W => (Boxed W (w.heap.size) 3 (.int .i64 0) ∧ Boxed W (w.heap.size + 1) 4 (.bool false) ∧ (∀ j, j < d.length → ¬ ((ht (hLs d) j).length = 0)) ∧ w.heap.size + 4 ≤ W.heap.size) ∧ Below w.heap.size w W)
      (fun c d W => (c = .ret ∧ ∃ k : Nat, dieO l (T : Int) = some k ∧ Boxed W (w.heap.size) 3 (.int .i64 (k : Int)) ∧ Boxed W (w.heap.size + 1) 4 (.bool true)) ∧ Below w.heap.size w W)
      (OwnFrom.and (fun s A B row hs hg hr => ⟨boxed_other hs.1 hg (fun r e => (hr r e).2), boxed_other hs.2.1 hg (fun r e => (hr r e).2), hs.2.2.1, Nat.le_trans hs.2.2.2 hg.size⟩) (ownFrom_below (Nat.le_refl _) (by omega)))
      (fun c => OwnFrom.and (fun s A B row hs hg hr => by obtain ⟨e, k, h1, h2, h3⟩ := hs; exact ⟨e, k, h1, boxed_other h2 hg (fun r e => (hr r e).2), boxed_other h3 hg (fun r e => (hr r e).2)⟩) (ownFrom_below (Nat.le_refl _) (by omega)))
      ⟨⟨X2, X3, (fun j hj => absurd hj (Nat.not_lt_zero _)), by omega⟩, HB⟩
      (fun x => { tmps := #[.slice a l.length ca, .int .i64 (T : Int), undef, undef, .pointer (some ⟨w.heap.size, 0, none⟩), .pointer (some ⟨w.heap.size + 1, 0, none⟩), .int .i64 (x.1 : Int), x.2.1, .int .i64 (T : Int), .bool true, .bool false, .slice a l.length ca, .int .i64 (T : Int), .func (.func 80) #[] #[.pointer (some ⟨w.heap.size + 1 + 1, 0, none⟩), .pointer (some ⟨w.heap.size + 1 + 1 + 1, 0, none⟩)], .int .i64 (x.1 : Int), x.2.1, undef, undef, undef, undef], defers := [] }) ?assign ?body ?done ?stop
    case assign =>
      intro L x W K hK
      simp only [hEnc]
      gi_wp2
      exact hK
    case body =>
      rintro L d ⟨k, v, m⟩ W ⟨⟨x2, x3, hj, hz⟩, hB⟩ ⟨hk, hpre, hO, hgm, hap⟩
      simp only at hk hpre hO hgm
      subst hk
      obtain ⟨am, cm, rfl, sm⟩ := hO.form
      rw [hLs_snoc] at hpre
      have hlm := good_le hgm
      have hFd : ∀ j, j < d.length → ht (hLs (d ++ [(d.length, Value.slice am m.length cm, m)])) j = ht (hLs d) j := fun j hj => by
        rw [hLs_snoc]; exact pre_ht (List.prefix_append _ _) (by rw [hLs_length]; exact hj)
      have hFm : ht (hLs (d ++ [(d.length, Value.slice am m.length cm, m)])) d.length = m := by
        rw [hLs_snoc, ← hLs_length, ht_snoc _ (by omega), if_pos rfl]
      have HFd := hid hFd
      have HFm := hid hFm
      have HPR := hid hpre
      clear hFd hFm hpre sm hO hap
      by_cases he : m.length = 0
      · have hlen := pre_le HPR.out
        rw [List.length_append, hLs_length] at hlen
        have HF := hid (HP.out d.length (by simp at hlen; omega) (by rw [pre_ht HPR.out (by simp [hLs_length])]; rw [← hLs_length, ht_snoc _ (by omega), if_pos rfl]; exact he) (fun j hjd => by
          rw [pre_ht HPR.out (by simp [hLs_length]; omega), pre_ht (List.prefix_append _ _) (by rw [hLs_length]; omega)] ; exact hj j hjd))
        have HJ := hid hj
        have he' : ((m.length : Int) == 0) = true := by simp [he]
        have hc2 := x2.cell
        have hf2 := x2.frozen
        have hc3 := x3.cell
        have hf3 := x3.frozen
        clear he hj hlen
        gi_wp2
        have q3 : Boxed (W.setCell ⟨w.heap.size, 0, none⟩ (.int .i64 (d.length : Int))) (w.heap.size + 1) 4 (.bool false) := boxed_ne x3 (by omega)
        refine ⟨(KeepsOthers.setCell _ _ _).trans (KeepsOthers.setCell _ _ _), ⟨rfl, d.length, HF.out, boxed_ne (x2.set _) (by omega), q3.set _⟩, ?_⟩
        exact (hB.setCell (p := ⟨w.heap.size, 0, none⟩) (by simp) _).setCell (p := ⟨w.heap.size + 1, 0, none⟩) (by simp) _
      · have he' : ((m.length : Int) == 0) = false := by simpa using he
        gi_wp2
        refine ⟨KeepsOthers.refl _, hKp.below (Below.refl _ _) (by omega) (by omega), ⟨x2, x3, fun j hj2 h => ?_, hz⟩, hB⟩
        by_cases ej : j = d.length
        · subst ej
          rw [HFm.out] at h
          exact he (by simpa using h)
        · rw [HFd.out j (by simp at hj2; omega)] at h
          exact hj j (by simp at hj2; omega) (by simpa using h)
    case done =>
      rintro D ys W hD hS ⟨⟨x2, x3, hj, hz⟩, hB⟩ hK
      have HF := hid (HN.out (by rw [← hS, hLs_length]; exact hj))
      have hc2 := x2.cell
      have hf2 := x2.frozen
      have hc3 := x3.cell
      have hf3 := x3.frozen
      gi_wp2
      have z2 : Boxed ((W.setCell ⟨w.heap.size, 0, none⟩ (.int .i64 0)).setCell ⟨w.heap.size + 1, 0, none⟩ (.bool false)) (w.heap.size) 3 (.int .i64 0) := boxed_ne (x2.set _) (by omega)
      have z3 : Boxed ((W.setCell ⟨w.heap.size, 0, none⟩ (.int .i64 0)).setCell ⟨w.heap.size + 1, 0, none⟩ (.bool false)) (w.heap.size + 1) 4 (.bool false) := (boxed_ne (u := .int .i64 0) x3 (show w.heap.size + 1 ≠ w.heap.size by omega)).set _
      have hK' := ((KeepsOthers.setCell W ⟨w.heap.size, 0, none⟩ (.int .i64 0)).trans (KeepsOthers.setCell _ ⟨w.heap.size + 1, 0, none⟩ (.bool false))).same D _ hK rfl
      have hB' := (hB.setCell (p := ⟨w.heap.size, 0, none⟩) (by simp <;> omega) (.int .i64 0)).setCell (p := ⟨w.heap.size + 1, 0, none⟩) (by simp <;> omega) (.bool false)
      generalize (W.setCell ⟨w.heap.size, 0, none⟩ (.int .i64 0)).setCell ⟨w.heap.size + 1, 0, none⟩ (.bool false) = W5 at *
      refine ⟨by simp, .inl ⟨_, _, rfl, run_takeDeferred hK', ?_⟩⟩
      have k2 := (boxed_other z2 (grownBy_putObj' _ D (.deferred none)) (fun r e => by cases e; exact ⟨_, hK', rfl⟩)).cell
      have k3 := (boxed_other z3 (grownBy_putObj' _ D (.deferred none)) (fun r e => by cases e; exact ⟨_, hK', rfl⟩)).cell
      refine ⟨.tuple #[.int .i64 0, .bool false], ?_, by rw [HF.out]; rfl, hB'.trans (belowK_b (w := w) (Nat.le_refl _) _ D _ _ (by omega) hK' rfl rfl)⟩
      simp [results, Try.results24, go_sem, k2, k3]
    case stop =>
      rintro D c ys W hD hS ⟨⟨rfl, k, HF, x2, x3⟩, hB⟩ hK
      gi_wp2
      refine ⟨by simp, .inl ⟨_, _, rfl, run_takeDeferred hK, ?_⟩⟩
      have k2 := (boxed_other x2 (grownBy_putObj' _ D (.deferred none)) (fun r e => by cases e; exact ⟨_, hK, rfl⟩)).cell
      have k3 := (boxed_other x3 (grownBy_putObj' _ D (.deferred none)) (fun r e => by cases e; exact ⟨_, hK, rfl⟩)).cell
      refine ⟨.tuple #[.int .i64 (k : Int), .bool true], ?_, by rw [HF]; rfl, hB.trans (belowK_b (w := w) (Nat.le_refl _) _ D _ _ (by omega) hK rfl rfl)⟩
      simp [results, Try.results24, go_sem, k2, k3]
end Go.Proofs.Ytgppcocfnbalfaa
