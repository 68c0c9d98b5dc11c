/- HistoryOf of the specification. -/
import Derived.Test.YtgppcocfnbalfaaHist
namespace Go.Proofs.Ytgppcocfnbalfaa
open Go.RowKit
set_option linter.unusedVariables false
set_option linter.unusedSimpArgs false

/-- What HistoryOf answers. -/
noncomputable def hisOk (l : List Cl) (t : Int) : Bool := good l && inT t && decide ((hist t.toNat l).length = t.toNat + 1)
noncomputable def hisL (l : List Cl) (t : Int) : List (List Cl) := if hisOk l t then hist t.toNat l else []
theorem hisL_len (l : List Cl) (t : Int) : (hisL l t).length ≤ 21 := by
  unfold hisL; split
  · rename_i h
    simp only [hisOk, Bool.and_eq_true] at h
    have := inT_bd h.1.2
    have := hist_le t.toNat l
    omega
  · simp
theorem hisL_each (l : List Cl) (t : Int) {i : Nat} (hi : i < (hisL l t).length) : (ht (hisL l t) i).length ≤ 120 := by
  unfold hisL at hi ⊢
  split at hi
  · rename_i h
    rw [if_pos h]
    simp only [hisOk, Bool.and_eq_true] at h
    exact good_le (hist_good h.1.1 _ (ht_in hi))
  · simp at hi

set_option maxHeartbeats 1000000 in
set_option maxRecDepth 100000 in
theorem c_sHistoryOf (a : Option Addr) (l : List Cl) (ca : Nat) (t : Int) (w : World) (ha : Seg w a l) (hca : a = none → ca = 0) (hl : l.length ≤ 1048576) :
    Calls Try.prog 20 #[.slice a l.length ca, .int .i64 t] w fun e w' => ∃ v vs, e = .returned (.tuple #[v, .bool (hisOk l t)]) ∧ OwnH w' w.heap.size v vs (hisL l t) ∧ Below w.heap.size w w' := by
  have HA := hid ha
  cases hg : good l
  · have HC := hid (c_sGood' a l ca false hg _ ha hl)
    have HV : Hid (hisL l t = [] ∧ hisOk l t = false) := by simp [Hid, hisL, hisOk, hg]
    clear ha
    go_enter Try.func20, Try.ntmps20
    go_wp2_with fail
    refine HC.out.mono ?_
    rintro e w1 ⟨rfl, b1⟩
    go_wp2
    go_ret2
    first | exact ⟨_, [], by rw [HV.out.2]; rfl, by rw [HV.out.1]; exact OwnH.nil _ _, b1⟩ | exact ⟨_, by rw [HV.out.2]; rfl, ⟨[], by rw [HV.out.1]; exact OwnH.nil _ _⟩, b1⟩
  · have HC := hid (c_sGood' a l ca true hg _ ha hl)
    cases hi : inT t
    · have HI := hid (c_l1In20 t false hi)
      have HV : Hid (hisL l t = [] ∧ hisOk l t = false) := by simp [Hid, hisL, hisOk, hi]
      clear ha
      go_enter Try.func20, Try.ntmps20
      go_wp2_with fail
      refine HC.out.mono ?_
      rintro e w1 ⟨rfl, b1⟩
      go_wp2_with fail
      refine (HI.out _).mono ?_
      rintro e w2 ⟨rfl, rfl⟩
      go_wp2
      go_ret2
      first | exact ⟨_, [], by rw [HV.out.2]; rfl, by rw [HV.out.1]; exact OwnH.nil _ _, b1⟩ | exact ⟨_, by rw [HV.out.2]; rfl, ⟨[], by rw [HV.out.1]; exact OwnH.nil _ _⟩, b1⟩
    · have hib := inT_bd hi
      obtain ⟨T, rfl⟩ : ∃ T : Nat, t = (T : Int) := ⟨t.toNat, by omega⟩
      have HI := hid (c_l1In20 (T : Int) true hi)
      have HV0 : Hid (hisOk l (T : Int) = decide ((hist T l).length = T + 1) ∧ hisL l (T : Int) = if decide ((hist T l).length = T + 1) then hist T l else []) := by simp [Hid, hisL, hisOk, hg, hi]
      have hhl := hist_le T l
      have HG := hid hg
      clear ha hg hi
      go_enter Try.func20, Try.ntmps20
      go_wp2_with fail
      refine HC.out.mono ?_
      rintro e w1 ⟨rfl, b1⟩
      have A1 := hid (HA.out.below b1)
      have B1 := hid b1
      clear b1 HC HA
      go_wp2_with fail
      refine (HI.out _).mono ?_
      rintro e w2 ⟨rfl, rfl⟩
      go_wp2_with fail
      refine (c_l7History a l ca T w2 A1.out hca HG.out (by omega)).mono ?_
      rintro e w3 ⟨v, vs, rfl, hO, b3⟩
      obtain ⟨a3, c3, rfl, s3, _⟩ := hO.form
      have HO := hid (hO.mono B1.out.size)
      have B3 := hid (B1.out.trans (b3.mono B1.out.size))
      clear hO s3 b3 A1 B1 HI HG
      by_cases hf : (hist T l).length = T + 1
      · have HV : Hid (hisOk l (T : Int) = true ∧ hisL l (T : Int) = hist T l) := by have := HV0.out; simp only [hf, decide_true, if_true] at this; exact this
        have hn : ¬ ((hist T l).length : Int) ≤ (T : Int) := by omega
        clear hf
        generalize hist T l = H at *
        go_wp2
        go_ret2
        first | exact ⟨_, vs, by rw [HV.out.1]; rfl, by rw [HV.out.2]; exact HO.out, B3.out⟩ | exact ⟨_, by rw [HV.out.1]; rfl, ⟨vs, by rw [HV.out.2]; exact HO.out⟩, B3.out⟩
      · have HV : Hid (hisOk l (T : Int) = false ∧ hisL l (T : Int) = []) := by
          have := HV0.out
          rw [decide_eq_false hf] at this
          simpa [Hid] using this
        have hn : ((hist T l).length : Int) ≤ (T : Int) := by omega
        clear hf
        generalize hist T l = H at *
        go_wp2
        go_ret2
        first | exact ⟨_, [], by rw [HV.out.1]; rfl, by rw [HV.out.2]; exact OwnH.nil _ _, B3.out⟩ | exact ⟨_, by rw [HV.out.1]; rfl, ⟨[], by rw [HV.out.2]; exact OwnH.nil _ _⟩, B3.out⟩
end Go.Proofs.Ytgppcocfnbalfaa
