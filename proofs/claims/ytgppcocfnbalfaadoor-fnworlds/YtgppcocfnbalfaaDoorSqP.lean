/- Texts of this seat, one behind the other: SqP. -/
import Derived.Test.YtgppcocfnbalfaaDoorSqF
namespace Go.Proofs.YtgppcocfnbalfaaDoor
open Go.RowKit
set_option linter.unusedVariables false
set_option linter.unusedSimpArgs false

theorem fold_lo_mem : ∀ (l : List Cl) (c : Cl), ∀ d ∈ l, (l.foldl loC c).1 ≤ d.1 ∧ (l.foldl loC c).2 ≤ d.2
  | [], c, d, h => by cases h
  | x :: r, c, d, h => by
    simp only [List.foldl_cons]
    rcases List.mem_cons.1 h with rfl | h
    · have := fold_lo_le r (loC c d)
      have e1 : (loC c d).1 ≤ d.1 := by unfold loC; dsimp only; split <;> omega
      have e2 : (loC c d).2 ≤ d.2 := by unfold loC; dsimp only; split <;> omega
      omega
    · exact fold_lo_mem r _ d h
theorem fold_hi_mem : ∀ (l : List Cl) (c : Cl), ∀ d ∈ l, d.1 ≤ (l.foldl hiC c).1 ∧ d.2 ≤ (l.foldl hiC c).2
  | [], c, d, h => by cases h
  | x :: r, c, d, h => by
    simp only [List.foldl_cons]
    rcases List.mem_cons.1 h with rfl | h
    · have := fold_hi_le r (hiC c d)
      have e1 : d.1 ≤ (hiC c d).1 := by unfold hiC; dsimp only; split <;> omega
      have e2 : d.2 ≤ (hiC c d).2 := by unfold hiC; dsimp only; split <;> omega
      omega
    · exact fold_hi_mem r _ d h
theorem box_mem {l : List Cl} (h : boxOk l = true) {c : Cl} (hc : c ∈ l) : (boxLo l).1 ≤ c.1 ∧ (boxLo l).2 ≤ c.2 ∧ c.1 ≤ (boxHi l).1 ∧ c.2 ≤ (boxHi l).2 := by
  have h1 := fold_lo_mem l (at_ l 0) c hc
  have h2 := fold_hi_mem l (at_ l 0) c hc
  simp only [boxLo, boxHi, h, if_true, loTo, hiTo, List.take_length]
  omega
/-- The square that is told. -/
theorem sq_yes {l : List Cl} {t s : Int} (h : sqOk l t s = true) : ∃ n : Nat, 2 ≤ n ∧ n ≤ 5 ∧ sqV l t s = (n : Int) ∧ sqC l t s = ((boxLo l).1 - s - 2 ^ (n - 2), (boxLo l).2 - s - 2 ^ (n - 2)) ∧ longC l s ≤ 2 * 2 ^ (n - 2) ∧ (boxOk l = true ∧ gw l t = true) ∧ (1 ≤ s ∧ s ≤ 8) ∧ (2 : Int) ^ (n - 2) ≤ 8 := by
  have h' := h
  simp only [sqOk, Bool.and_eq_true, decide_eq_true_eq] at h'
  obtain ⟨h1, h2⟩ := sq_in h'.1
  have hs := inB_bd h2
  have hle := box_le h1.1
  have hpos : 0 < longC l s := by unfold longC; omega
  have hC : sqC l t s = ((boxLo l).1 - s - sqQ (longC l s), (boxLo l).2 - s - sqQ (longC l s)) := by simp [sqC, h]
  have hV : sqV l t s = sqLev (longC l s) := by simp [sqV, h]
  by_cases c2 : longC l s ≤ 2
  · obtain ⟨e1, e2⟩ := sq_2 hpos c2
    exact ⟨2, by omega, by omega, by rw [hV, e2]; rfl, by rw [hC, e1]; rfl, by simpa using c2, h1, hs, by decide⟩
  · by_cases c3 : longC l s ≤ 4
    · obtain ⟨e1, e2⟩ := sq_3 (by omega) c3
      exact ⟨3, by omega, by omega, by rw [hV, e2]; rfl, by rw [hC, e1]; rfl, by simpa using c3, h1, hs, by decide⟩
    · by_cases c4 : longC l s ≤ 8
      · obtain ⟨e1, e2⟩ := sq_4 (by omega) c4
        exact ⟨4, by omega, by omega, by rw [hV, e2]; rfl, by rw [hC, e1]; rfl, by simpa using c4, h1, hs, by decide⟩
      · obtain ⟨e1, e2⟩ := sq_5 (by omega) h'.2
        exact ⟨5, by omega, by omega, by rw [hV, e2]; rfl, by rw [hC, e1]; rfl, by simpa using h'.2, h1, hs, by decide⟩
/-- Every cell lies so far inside that its steps stay in the middle. -/
theorem sq_mid {l : List Cl} {t s : Int} (h : sqOk l t s = true) : ∃ n : Nat, 2 ≤ n ∧ n ≤ 5 ∧ sqV l t s = (n : Int) ∧ (1 ≤ s ∧ s ≤ 8) ∧ ((-90 ≤ (sqC l t s).1 ∧ (sqC l t s).1 ≤ 90) ∧ (-90 ≤ (sqC l t s).2 ∧ (sqC l t s).2 ≤ 90)) ∧
    ∀ k, k < l.length → ((2 : Int) ^ (n - 2) + s ≤ (at_ l k).1 - (sqC l t s).1 ∧ (at_ l k).1 - (sqC l t s).1 < 3 * (2 : Int) ^ (n - 2) - s) ∧ ((2 : Int) ^ (n - 2) + s ≤ (at_ l k).2 - (sqC l t s).2 ∧ (at_ l k).2 - (sqC l t s).2 < 3 * (2 : Int) ^ (n - 2) - s) := by
  obtain ⟨n, n2, n5, hv, hC, hlong, ⟨hbo, hg⟩, hs, hq⟩ := sq_yes h
  obtain ⟨hlo, hhi⟩ := box_reach hbo
  simp only [inR, Bool.and_eq_true, decide_eq_true_eq] at hlo hhi
  have hq1 : (1 : Int) ≤ 2 ^ (n - 2) := by
    rcases (show n = 2 ∨ n = 3 ∨ n = 4 ∨ n = 5 by omega) with rfl | rfl | rfl | rfl <;> decide
  have hC1 : (sqC l t s).1 = (boxLo l).1 - s - 2 ^ (n - 2) := by rw [hC]
  have hC2 : (sqC l t s).2 = (boxLo l).2 - s - 2 ^ (n - 2) := by rw [hC]
  refine ⟨n, n2, n5, hv, hs, by omega, fun k hk => ?_⟩
  have hb := box_mem hbo (c := at_ l k) (by simp [at_, hk])
  unfold longC at hlong
  omega

end Go.Proofs.YtgppcocfnbalfaaDoor
