/- PeriodOf and DiesWithin of the specification. -/
import Derived.Test.YtgppcocfnbalfaaHist
import Derived.Test.YtgppcocfnbalfaaSmW
namespace Go.Proofs.Ytgppcocfnbalfaa
open Go.RowKit
set_option linter.unusedVariables false
set_option linter.unusedSimpArgs false

theorem histG_good {l : List Cl} {t : Int} {i : Nat} (hi : i < (histG l t).length) : good (ht (histG l t) i) = true := by
  unfold histG at hi ⊢
  split at hi
  · rename_i h
    rw [if_pos h]
    rw [Bool.and_eq_true] at h
    exact hist_good h.1 _ (ht_in hi)
  · simp at hi

set_option maxHeartbeats 2000000 in
set_option maxRecDepth 100000 in
theorem c_sPeriodOf (a : Option Addr) (l : List Cl) (ca : Nat) (t : Int) (w : World) (ha : Seg w a l) (hca : a = none → ca = 0) (hl : l.length ≤ 1048576) :
    Calls Try.prog 14 #[.slice a l.length ca, .int .i64 t] w fun e w' => e = .returned (.tuple #[.int .i64 (oN (perO l t)), .bool (perO l t).isSome]) ∧ Below w.heap.size w w' := by
  have HC := hid (c_l7Good a l ca t w ha hl)
  have HA := hid ha
  clear ha
  cases hg : (good l && inMo t)
  · rw [hg] at HC
    have HV : Hid (perO l t = none) := by
      show _ = _
      exact fstAt_none (fun k hk => by simp [histG, hg] at hk)
    go_enter Try.func14, Try.ntmps14
    go_wp2_with fail
    refine HC.out.mono ?_
    rintro e w1 ⟨rfl, b1⟩
    go_wp2
    go_ret2
    exact ⟨by rw [HV.out]; rfl, b1⟩
  · rw [hg] at HC
    rw [Bool.and_eq_true] at hg
    obtain ⟨T, rfl⟩ : ∃ T : Nat, t = (T : Int) := ⟨t.toNat, by have := inMo_bd hg.2; omega⟩
    have htb := inMo_bd hg.2
    have HH := hid (show histG l (T : Int) = hist T l by simp [histG, hg])
    have HGD := hid (fun i (hi : i < (hist T l).length) => hist_good hg.1 _ (ht_in hi))
    have hhl := hist_le T l
    have HGL := hid hg.1
    have hlg := good_le hg.1
    have HP := hid (show ∀ k, k < (hist T l).length → 0 < k → ht (hist T l) k = l → (∀ j, j < k → ¬ (0 < j ∧ ht (hist T l) j = l)) → perO l (T : Int) = some k from fun k hk h0 he hj => by
      unfold perO; rw [HH.out]
      exact fstAt_some hk (by simp [h0, he]) (fun j hjk => by
        have := hj j hjk
        cases h : (decide (0 < j) && decide (ht (hist T l) j = l))
        · rfl
        · simp at h; exact absurd h this))
    have HN := hid (show (∀ j, j < (hist T l).length → ¬ (0 < j ∧ ht (hist T l) j = l)) → perO l (T : Int) = none from fun hj => by
      unfold perO; rw [HH.out]
      exact fstAt_none (fun j hjk => by
        have := hj j hjk
        cases h : (decide (0 < j) && decide (ht (hist T l) j = l))
        · rfl
        · simp at h; exact absurd h this))
    clear hg
    go_enter Try.func14, Try.ntmps14
    go_wp2_with fail
    refine HC.out.mono ?_
    rintro e w1 ⟨rfl, b1⟩
    have A1 := hid (HA.out.below b1)
    have B1 := hid b1
    clear b1 HC HA
    go_wp2_with fail
    refine (c_l7History a l ca T w1 A1.out hca HGL.out (by omega)).mono ?_
    rintro e w2 ⟨v, vs, rfl, hO, b2⟩
    obtain ⟨a2, c2, rfl, s2, _⟩ := hO.form
    have S2 := hid s2
    have A2 := hid (A1.out.below b2)
    have B2 := hid (B1.out.trans (b2.mono B1.out.size))
    clear hO s2 b2 A1 B1
    generalize hist T l = H at *
    go_wp2_with fail
    go_loopw [16] (fun i wr => ∃ k : Nat, k ≤ H.length ∧ i = .int .i64 (k : Int) ∧ Hid (∀ j, j < k → ¬ (0 < j ∧ ht H j = l)) ∧ Below w2.heap.size w2 wr) (fun i _ => H.length - (intOf i).toNat)
    case atStart => exact ⟨0, Nat.zero_le _, rfl, (fun j hj => absurd hj (Nat.not_lt_zero _)), Below.refl _ _⟩
    case round =>
      obtain ⟨k, hk, rfl, hT, hbel⟩ := hrel
      by_cases hlt : k < H.length
      · obtain ⟨b1, o1, e1, hb1, a3, c3, p1, s3, _⟩ := S2.out k hlt
        subst e1
        have g1 := (hbel.cell (p := ⟨b1, o1 + k, none⟩) hb1).trans p1
        have S3 := hid (s3.below hbel)
        have A3 := hid (A2.out.below hbel)
        have B3 := hid (B2.out.trans (hbel.mono B2.out.size))
        have BL := hid hbel
        have hl3 := good_le (HGD.out k hlt)
        have k0 : (0 : Int) ≤ (k : Int) := by omega
        have k1 : (k : Int) < (H.length : Int) := by omega
        clear p1 s3 hbel
        have HPk := hid (HP.out k hlt)
        have HX : Hid (ht H k = ht H k) := rfl
        obtain ⟨x, hx⟩ : ∃ x, x = ht H k := ⟨_, rfl⟩
        rw [← hx] at HPk S3 hl3 g1
        have HXE := hid hx
        clear HX hx
        by_cases hpos : 0 < k
        · have kp : (0 : Int) < (k : Int) := by omega
          go_wp2_with fail
          refine (c_l6Same a3 a x l c3 ca wr S3.out A3.out (by omega) hl).mono ?_
          rintro e w4 ⟨rfl, b4⟩
          have B4 := hid (B3.out.trans (b4.mono B3.out.size))
          have BL4 := hid (BL.out.trans (b4.mono BL.out.size))
          clear b4 g1
          cases he : decide (x = l)
          · go_wp2
            go_roundw
            case rel =>
              refine ⟨k + 1, by omega, by go_num, (fun j hj => ?_ : ∀ j, _ → _), BL4.out⟩
              by_cases ej : j = k
              · subst ej; rw [← HXE.out]; intro h; simp [h.2] at he
              · exact hT.out j (by omega)
            case measure => simp [intOf]; omega
          · have HF := hid (HPk.out hpos (by simpa using he) hT.out)
            go_wp2
            go_ret2
            exact ⟨by rw [HF.out]; rfl, B4.out⟩
        · have kp : ¬ (0 : Int) < (k : Int) := by omega
          go_wp2
          go_roundw
          case rel => exact ⟨k + 1, by omega, by go_num, (fun j hj h => by omega : ∀ j, _ → _), BL.out⟩
          case measure => simp [intOf]; omega
      · have hke : k = H.length := by omega
        subst hke
        have HF := hid (HN.out hT.out)
        have B3 := hid (B2.out.trans (hbel.mono B2.out.size))
        clear hbel
        go_wp2
        go_ret2
        exact ⟨by rw [HF.out]; rfl, B3.out⟩
end Go.Proofs.Ytgppcocfnbalfaa
