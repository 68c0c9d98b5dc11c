/- Texts of this seat, one behind the other: Hist, SPer. -/
import Derived.Test.YtgfdkolhldbehaaLl
import Derived.Test.YtgfdkolhldbehaaLe
import Derived.Test.YtgfdkolhldbehaaLi
namespace Go.Proofs.Ytgfdkolhldbehaa
open Go.RowKit
set_option linter.unusedVariables false
set_option linter.unusedSimpArgs false

/-- A row of one slice. -/
theorem OwnH.one {w : World} {base : Nat} {u : Value} {l : List Cl} (hu : OwnS w base u l) (hb : base ≤ w.heap.size) : OwnH (w.alloc (.cells #[u] 23)) base (.slice (some ⟨w.heap.size, 0, none⟩) 1 1) [u] [l] := by
  refine ⟨rfl, ?_, fun i hi => ?_, fun i j hij hj => by simp at hj; omega⟩
  · exact World.ownsRow_lit (base := base) (e := 23) (size := 1) w #[u] 1 hb (by unfold maxLen; omega) rfl
  · have h0 : i = 0 := by simpa using hi
    subst h0
    exact hu.below ((Below.refl _ _).alloc (Nat.le_refl _) _)
theorem cell_one' (w : World) (u : Value) (t : TypeId) : (w.alloc (.cells #[u] t)).cell? ⟨w.heap.size, 0, none⟩ = some u := by unfold World.cell?; rw [heap_alloc_new]; rfl

set_option maxHeartbeats 4000000 in
set_option maxRecDepth 100000 in
theorem c_l7History (a : Option Addr) (l : List Cl) (ca T : Nat) (w : World) (ha : Seg w a l) (hca : a = none → ca = 0) (hg : good l = true) (hT : T ≤ 20) :
    Calls Try.prog 62 #[.slice a l.length ca, .int .i64 (T : Int)] w fun e w' => ∃ v vs, e = .returned v ∧ OwnH w' w.heap.size v vs (hist T l) ∧ Below w.heap.size w w' := by
  have hle := good_le hg
  have HG := hid hg
  have HB0 := hid ((Below.refl w.heap.size w).alloc (Nat.le_refl _) (.cells #[] 36))
  have HO0 := hid (slice_empty_build w)
  have HA0 := hid (ha.below HB0.out)
  have HA := hid ha
  clear ha hg
  go_enter Try.func62, Try.ntmps62
  go_wp2_with (at_builtin; refine wpList_app' rfl _ _ rfl w.heap.size _ [] l a l.length ca rfl HO0.out rfl rfl HA0.out hca (by simp; omega) HB0.out.size ?_; intro v2 w2 hO2 hG2; have HB2 := hid (below_grown HB0.out HO0.out hG2); rw [List.nil_append] at hO2; obtain ⟨a2, c2, rfl, s2⟩ := hO2.form; have HO2 := hid hO2; clear hO2 hG2 s2)
  have HH := hid (OwnH.one HO2.out HB2.out.size)
  have HB3 := hid (HB2.out.alloc HB2.out.size (.cells #[.slice a2 l.length c2] 23))
  have HA3 := hid (HA.out.below HB3.out)
  clear HO2 HB2 HA HA0 HB0 HO0
  generalize w2.alloc (.cells #[.slice a2 l.length c2] 23) = w3 at *
  generalize Value.slice (some ⟨w2.heap.size, 0, none⟩) 1 1 = ov at *
  go_loopw [0, 5, 6] (fun lv ov kv wr => ∃ (k : Nat) (m : List Cl) (a' : Option Addr) (c' : Nat) (vs : List Value) (H : List (List Cl)), k ≤ T ∧ lv = .slice a' m.length c' ∧ kv = .int .i64 (k : Int) ∧ Hid (Seg wr a' m ∧ (a' = none → c' = 0) ∧ good m = true ∧ OwnH wr w.heap.size ov vs (H ++ [m]) ∧ H ++ hist (T - k) m = hist T l ∧ H.length = k ∧ Below w.heap.size w wr)) (fun _ _ kv _ => T - (intOf kv).toNat)
  case atStart => exact ⟨0, l, a, ca, _, [], by omega, rfl, rfl, show _ ∧ _ from ⟨HA3.out, hca, HG.out, HH.out, by simp, rfl, HB3.out⟩⟩
  case round =>
    clear HA3 HH HB3
    obtain ⟨k, m, a', c', vs, H, hk, rfl, rfl, hx⟩ := hrel
    have hml := good_le hx.out.2.2.1
    by_cases hlt : k < T
    · have k0 : (k : Int) < (T : Int) := by omega
      go_wp2_with fail
      refine (c_l1StepO a' m c' _ hx.out.1 hx.out.2.2.1).mono ?_
      rintro e w3' ⟨v3, m3, rfl, hS3, hr3, hm3, hl3, hb3⟩
      obtain ⟨a3, c3, rfl, hs3⟩ := hS3.form
      have hc3 := hS3.cap0
      have HP := hid (pickL_eq hr3 hm3)
      have HS3 := hid hs3
      have HO3 := hid hS3
      have HB3 := hid hb3
      clear hS3 hr3 hm3 hs3 hb3
      cases hg3 : good m3
      · have HV : Hid (hist T l = H ++ [m]) := by
          have h1 := hx.out.2.2.2.2.1
          have h2 : nxtO m = none := by unfold nxtO; rw [HP.out, hg3]; rfl
          rw [hist_none h2] at h1
          exact h1.symm
        go_wp2_with fail
        refine (c_sGood' a3 m3 c3 false hg3 _ HS3.out (by omega)).mono ?_
        rintro e w4 ⟨rfl, hb4⟩
        go_wp2
        go_ret
        refine ⟨_, vs, rfl, ?_, ?_⟩
        · rw [HV.out]; exact (hx.out.2.2.2.1.below HB3.out).below hb4
        · exact hx.out.2.2.2.2.2.2.trans ((HB3.out.trans (hb4.mono HB3.out.size)).mono hx.out.2.2.2.2.2.2.size)
      · have HV : Hid (hist (T - k) m = m :: hist (T - (k + 1)) m3) := by
          have h2 : nxtO m = some m3 := by unfold nxtO; rw [HP.out, hg3]; rfl
          show _ = _
          rw [show T - k = T - (k + 1) + 1 by omega, hist_some h2]
        have hl3' := good_le hg3
        have hHL : Hid (H.length ≤ 20) := hid (by have := hx.out.2.2.2.2.2.1; omega)
        go_wp2_with fail
        refine (c_sGood' a3 m3 c3 true hg3 _ HS3.out (by omega)).mono ?_
        rintro e w4 ⟨rfl, hb4⟩
        have HB4 := hid (hx.out.2.2.2.2.2.2.trans ((HB3.out.trans (hb4.mono HB3.out.size)).mono hx.out.2.2.2.2.2.2.size))
        have HS4 := hid (HS3.out.below hb4)
        have HO4 := hid (HO3.out.below hb4)
        have HH4 := hid ((hx.out.2.2.2.1.below HB3.out).below hb4)
        have HB5 := hid ((Below.refl w4.heap.size w4).alloc (Nat.le_refl _) (.cells #[] 36))
        have HO5 := hid (slice_empty_build w4)
        have HS5 := hid (HS4.out.below HB5.out)
        have HX := hid (show H ++ hist (T - k) m = hist T l ∧ H.length = k from ⟨hx.out.2.2.2.2.1, hx.out.2.2.2.2.2.1⟩)
        clear hb4 HB3 HS3 hx
        go_wp2_with (first
          | (at_builtin; refine wpList_app' rfl _ _ rfl w4.heap.size _ [] m3 a3 m3.length c3 rfl HO5.out rfl rfl HS5.out hc3 (by simp; omega) HB5.out.size ?_; intro v6 w6 hO6 hG6; have HB6 := hid (below_grown HB5.out HO5.out hG6); rw [List.nil_append] at hO6; obtain ⟨a6, c6, rfl, s6⟩ := hO6.form; have HO6 := hid hO6; have HB7 := hid (HB6.out.alloc HB6.out.size (.cells #[.slice a6 m3.length c6] 23)); have HO7 := hid ((HO6.out.below ((Below.refl w6.heap.size w6).alloc (Nat.le_refl _) (.cells #[.slice a6 m3.length c6] 23)))); have HC7 := hid (cell_one' w6 (.slice a6 m3.length c6) 23); clear hO6 hG6 s6)
          | (at_builtin; refine wpList_appH rfl _ _ rfl w.heap.size _ vs (H ++ [m]) (.slice a6 m3.length c6) m3 ⟨w6.heap.size, 0, none⟩ rfl (HH4.out.below HB7.out) rfl HC7.out rfl (HO7.out.mono HB4.out.size) (fun i hi k hk e => by have h1 := ((HH4.out.each i hi).lt k hk).2; have h2 := (HO7.out.lt k e).1; omega) (by simp; have := hHL.out; omega) (Nat.le_trans HB4.out.size HB7.out.size) ?_; intro v8 w8 hO8 hG8; have HO8 := hid hO8; have HS8 := hid (own_rowkept (HH4.out.below HB7.out).row hG8 (HO4.out.below HB7.out)); have HB8 := hid (below_row (HB4.out.trans (HB7.out.mono HB4.out.size)) hG8 (fun k hk => (HH4.out.lt k hk).1)); clear hO8 hG8))
        go_roundw
        case rel =>
          refine ⟨k + 1, m3, a3, c3, vs ++ [.slice a6 m3.length c6], H ++ [m], by omega, rfl, by go_num, ?_⟩
          exact show _ ∧ _ from ⟨HS8.out.seg, hc3, hg3, HO8.out, by rw [← HX.out.1, HV.out]; simp, by simp [HX.out.2], HB8.out⟩
        case measure => simp [intOf]; omega
    · have k0 : ¬ (k : Int) < (T : Int) := by omega
      have HV : Hid (hist T l = H ++ [m]) := by
        have h1 := hx.out.2.2.2.2.1
        rw [show T - k = 0 by omega, hist_zero] at h1
        exact h1.symm
      go_wp2
      go_ret
      have HZ := hid hx.out.2.2.2.1
      rw [← HV.out] at HZ
      first | exact ⟨_, vs, rfl, HZ.out, hx.out.2.2.2.2.2.2⟩ | exact ⟨_, rfl, ⟨vs, HZ.out⟩, hx.out.2.2.2.2.2.2⟩

theorem c_l7Good (a : Option Addr) (l : List Cl) (ca : Nat) (t : Int) (w : World) (ha : Seg w a l) (hl : l.length ≤ 1048576) :
    Calls Try.prog 61 #[.slice a l.length ca, .int .i64 t] w fun e w' => e = .returned (.bool (good l && inMo t)) ∧ Below w.heap.size w w' := by
  have HC := hid (c_sGood a l ca w ha hl)
  have HI := hid (fun W => c_l1In t 1 20 W)
  have HV := hid (show inMo t = (decide (1 ≤ t) && decide (t ≤ 20)) from rfl)
  cases hg : good l
  · rw [hg] at HC
    go_enter Try.func61, Try.ntmps61
    go_wp2_with fail
    refine HC.out.mono ?_
    rintro e w1 ⟨rfl, b1⟩
    go_wp2
    go_ret
    exact ⟨by simp, b1⟩
  · rw [hg] at HC
    rw [← HV.out] at HI
    generalize inMo t = q at *
    go_enter Try.func61, Try.ntmps61
    go_wp2_with fail
    refine HC.out.mono ?_
    rintro e w1 ⟨rfl, b1⟩
    go_wp2_with fail
    refine (HI.out _).mono ?_
    rintro e w2 ⟨rfl, rfl⟩
    go_wp2
    go_ret
    exact ⟨by simp, b1⟩

end Go.Proofs.Ytgfdkolhldbehaa

namespace Go.Proofs.Ytgfdkolhldbehaa
open Go.RowKit
set_option linter.unusedVariables false
set_option linter.unusedSimpArgs false

theorem histG_good {l : List Cl} {t : Int} {i : Nat} (hi : i < (histG l t).length) : good (ht (histG l t) i) = true := by
  unfold histG at hi ⊢
  split at hi
  · rename_i h
    rw [if_pos h]
    rw [Bool.and_eq_true] at h
    exact hist_good h.1 _ (ht_in hi)
  · simp at hi

end Go.Proofs.Ytgfdkolhldbehaa
