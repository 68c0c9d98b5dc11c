/- StepTimes of both sides. -/
import Derived.Test.YtgfdkolhldbehaaStepS
namespace Go.Proofs.Ytgfdkolhldbehaa
open Go.RowKit Go.Maps
set_option linter.unusedVariables false

/-- A step, where it is good. -/
noncomputable def nxtO (l : List Cl) : Option (List Cl) := if good (pickL (nxtB l)) then some (pickL (nxtB l)) else none
/-- So many steps. -/
noncomputable def timesO : Nat → List Cl → Option (List Cl)
  | 0, l => some l
  | n + 1, l => (nxtO l).bind (timesO n)
theorem nxtO_good {l m : List Cl} (h : nxtO l = some m) : good m = true := by
  unfold nxtO at h
  split at h
  · cases h; assumption
  · cases h
theorem timesO_good : ∀ {n : Nat} {l m : List Cl}, good l = true → timesO n l = some m → good m = true
  | 0, l, m, hg, h => by simp [timesO] at h; rw [← h]; exact hg
  | n + 1, l, m, hg, h => by
    unfold timesO at h
    cases e : nxtO l with
    | none => rw [e] at h; cases h
    | some k => rw [e] at h; exact timesO_good (nxtO_good e) h

/-- Whether a number of times is in bounds. -/
def inT (t : Int) : Bool := decide (0 ≤ t) && decide (t ≤ 20)
/-- What StepTimes answers. -/
noncomputable def timesOk (l : List Cl) (t : Int) : Bool := good l && inT t && (timesO t.toNat l).isSome
noncomputable def timesL (l : List Cl) (t : Int) : List Cl := if good l && inT t then (timesO t.toNat l).getD [] else []
theorem timesL_le (l : List Cl) (t : Int) : (timesL l t).length ≤ 120 := by
  unfold timesL; split
  · rename_i h
    rw [Bool.and_eq_true] at h
    cases e : timesO t.toNat l with
    | none => simp
    | some m => exact good_le (timesO_good h.1 e)
  · simp
theorem inT_bd {t : Int} (h : inT t = true) : 0 ≤ t ∧ t ≤ 20 := by simp [inT] at h; exact h
theorem c_l1In20 (n : Int) (v : Bool) (h : inT n = v) (w : World) : Calls Try.prog 102 #[.int .i64 n, .int .i64 0, .int .i64 20] w fun e w' => e = .returned (.bool v) ∧ w' = w := by
  rw [← h]; exact c_l1In n 0 20 w

set_option maxRecDepth 100000 in
set_option maxHeartbeats 1000000 in
theorem c_iStepTimes (a : Option Addr) (l : List Cl) (ca : Nat) (t : Int) (w : World) (ha : Seg w a l) (hca : a = none → ca = 0) (hl : l.length ≤ 1048576) :
    Calls Try.prog 16 #[.slice a l.length ca, .int .i64 t] w fun e w' => ∃ v, e = .returned (.tuple #[v, .bool (timesOk l t)]) ∧ OwnS w' w.heap.size v (timesL l t) ∧ Below w.heap.size w w' := by
  cases hg : good l
  · have HC := hid (c_iGood' a l ca false hg _ ha hl)
    have HV : Hid (timesL l t = [] ∧ timesOk l t = false) := by simp [Hid, timesL, timesOk, hg]
    clear ha
    go_enter Try.func16, Try.ntmps16
    go_wp2_with fail
    refine HC.out.mono ?_
    rintro e w1 ⟨rfl, hb1⟩
    go_wp2
    go_ret2
    exact ⟨_, by rw [HV.out.2]; rfl, by rw [HV.out.1]; exact OwnS.nil _ _, hb1⟩
  · have HC := hid (c_iGood' a l ca true hg _ ha hl)
    have hlg := good_le hg
    by_cases t0 : t < 0
    · have HV : Hid (timesL l t = [] ∧ timesOk l t = false) := by
        have : inT t = false := by simp [inT]; omega
        simp [Hid, timesL, timesOk, hg, this]
      clear ha
      go_enter Try.func16, Try.ntmps16
      go_wp2_with fail
      refine HC.out.mono ?_
      rintro e w1 ⟨rfl, hb1⟩
      go_wp2
      go_ret2
      exact ⟨_, by rw [HV.out.2]; rfl, by rw [HV.out.1]; exact OwnS.nil _ _, hb1⟩
    · by_cases t1 : 20 < t
      · have HV : Hid (timesL l t = [] ∧ timesOk l t = false) := by
          have : inT t = false := by simp [inT]; omega
          simp [Hid, timesL, timesOk, hg, this]
        clear ha
        go_enter Try.func16, Try.ntmps16
        go_wp2_with fail
        refine HC.out.mono ?_
        rintro e w1 ⟨rfl, hb1⟩
        go_wp2
        go_ret2
        exact ⟨_, by rw [HV.out.2]; rfl, by rw [HV.out.1]; exact OwnS.nil _ _, hb1⟩
      · obtain ⟨T, rfl⟩ : ∃ T : Nat, t = (T : Int) := ⟨t.toNat, by omega⟩
        have HV0 : Hid (timesL l (T : Int) = (timesO T l).getD [] ∧ timesOk l (T : Int) = (timesO T l).isSome) := by
          have : inT (T : Int) = true := by simp [inT]; omega
          simp [Hid, timesL, timesOk, hg, this]
        have HA := hid ha
        have HG := hid hg
        clear ha hg
        go_enter Try.func16, Try.ntmps16
        go_wp2_with fail
        refine HC.out.mono ?_
        rintro e w1 ⟨rfl, hb1⟩
        have HB1 := hid hb1
        clear hb1
        go_wp2_with (at_builtin; refine wpList_app' rfl _ _ rfl w.heap.size (.slice none 0 0) [] l a l.length ca rfl (OwnS.nil _ _) rfl rfl (HA.out.below HB1.out) hca (by simp; omega) HB1.out.size ?_; intro v2 w2 hO2 hG2)
        have HO2 := hid hO2
        have HB2 := hid (below_grown HB1.out (OwnS.nil w1 w.heap.size) hG2)
        clear hO2 hG2 HC HA HB1
        go_loopw [6, 7, 8] (fun v o i wr => ∃ (k : Nat) (ok : Bool) (m : List Cl), k ≤ T ∧ i = .int .i64 k ∧ o = .bool ok ∧ OwnS wr w.heap.size v m ∧ (ok = true → good m = true ∧ timesO (T - k) m = timesO T l) ∧ (ok = false → m = [] ∧ timesO T l = none) ∧ Below w.heap.size w wr) (fun _ _ i _ => T - (intOf i).toNat)
        case atStart => exact ⟨0, true, l, by omega, rfl, rfl, by simpa using HO2.out, fun _ => ⟨HG.out, rfl⟩, (fun h => by cases h), HB2.out⟩
        case round =>
          clear HO2 HB2 HG
          obtain ⟨k, ok, m, hk, rfl, rfl, hO, h1, h2, hbel⟩ := hrel
          obtain ⟨a', c', rfl, hsg⟩ := hO.form
          have HO := hid hO
          have HSG := hid hsg
          have HB := hid hbel
          have H1 := hid h1
          have H2 := hid h2
          clear hO hsg hbel h1 h2
          cases ok with
          | false =>
            have HV : Hid (timesL l (T : Int) = m ∧ timesOk l (T : Int) = false) := by
              obtain ⟨e1, e2⟩ := H2.out rfl
              have h1 := HV0.out
              rw [e2] at h1
              subst e1
              simpa [Hid] using h1
            go_wp2
            go_ret2
            exact ⟨_, by rw [HV.out.2]; rfl, by rw [HV.out.1]; exact HO.out, HB.out⟩
          | true =>
            obtain ⟨hgm, hT⟩ := H1.out rfl
            have hlm := good_le hgm
            have HT := hid hT
            clear hT
            by_cases hkt : k < T
            · have k0 : (k : Int) < (T : Int) := by omega
              have HC := hid (c_iStepCells a' m c' wr HSG.out (by omega))
              have HSO : Hid (stepOk m = good (pickL (nxtB m)) ∧ stepL m = tellV (pickL (nxtB m))) := by simp [Hid, stepOk, stepL, hgm]
              have HT1 : Hid (timesO (T - k) m = (nxtO m).bind (timesO (T - (k + 1)))) := by
                show _ = _
                rw [show T - k = T - (k + 1) + 1 by omega]; rfl
              clear hgm
              generalize hSK : stepOk m = so at *
              generalize hSL : stepL m = sl at *
              go_wp2_with fail
              refine HC.out.mono ?_
              rintro e w3 ⟨v3, rfl, hO3, hb3⟩
              have HO3 := hid (hO3.mono HB.out.size)
              have HB3 := hid (HB.out.trans (hb3.mono HB.out.size))
              clear hO3 hb3
              go_wp2
              go_roundw
              case rel =>
                refine ⟨k + 1, so, sl, by omega, by go_num, rfl, HO3.out, fun h => ?_, fun h => ?_, HB3.out⟩
                · obtain ⟨e1, e2⟩ := HSO.out
                  rw [h] at e1
                  have e3 : nxtO m = some (pickL (nxtB m)) := by unfold nxtO; rw [← e1]; rfl
                  rw [e2]
                  unfold tellV
                  rw [← e1, if_pos rfl]
                  refine ⟨e1.symm, ?_⟩
                  have h5 := HT1.out
                  rw [e3, HT.out] at h5
                  exact h5.symm
                · obtain ⟨e1, e2⟩ := HSO.out
                  rw [h] at e1
                  have e3 : nxtO m = none := by unfold nxtO; rw [← e1]; rfl
                  rw [e2]
                  unfold tellV
                  rw [← e1]
                  refine ⟨rfl, ?_⟩
                  have h5 := HT1.out
                  rw [e3, HT.out] at h5
                  exact h5
              case measure => simp [intOf]; omega
            · have k0 : ¬ (k : Int) < (T : Int) := by omega
              have HV : Hid (timesL l (T : Int) = m ∧ timesOk l (T : Int) = true) := by
                have h1 := HV0.out
                have h2 := HT.out
                rw [show T - k = 0 by omega] at h2
                rw [← h2] at h1
                simpa [Hid, timesO] using h1
              clear hgm
              go_wp2
              go_ret2
              exact ⟨_, by rw [HV.out.2]; rfl, by rw [HV.out.1]; exact HO.out, HB.out⟩
end Go.Proofs.Ytgfdkolhldbehaa
