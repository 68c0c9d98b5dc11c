/- The cells of a quad of a good forest: plain facts. -/
import Derived.Test.YtnabgfbempkgnaaQuadG
namespace Go.Proofs.Ytnabgfbempkgnaa
set_option linter.unusedVariables false

/-- Kid i of quad q. -/
def kidq (F : List Qd) (q i : Nat) : Nat := (ia (qa F q).2 i).toNat
/-- The cells of quad q of level n, from a corner on. -/
def cellsL (F : List Qd) : Nat → Nat → Int → Int → List Cl
  | 0, q, x, y => if q = 1 then [(x, y)] else []
  | n + 1, q, x, y => cellsL F n (kidq F q 0) x y ++ cellsL F n (kidq F q 1) (x + 2 ^ n) y ++ cellsL F n (kidq F q 2) x (y + 2 ^ n) ++ cellsL F n (kidq F q 3) (x + 2 ^ n) (y + 2 ^ n)

theorem good_fine {F : List Qd} (h : goodF F = true) {q : Nat} (hq : q < F.length) : fineQ F q = true := by
  simp only [goodF, Bool.and_eq_true] at h
  exact allB_iff.1 h.2 q hq
theorem good_len2 {F : List Qd} (h : goodF F = true) : 2 ≤ F.length ∧ F.length ≤ 400 := by
  simp only [goodF, Bool.and_eq_true] at h
  have := inB_bd h.1
  omega
theorem good_zero {F : List Qd} (h : goodF F = true) {q : Nat} (hq : q < F.length) (h2 : q < 2) : (qa F q).1 = 0 ∧ (qa F q).2.length = 0 := by
  have := good_fine h hq
  simp only [fineQ, if_pos h2, Bool.and_eq_true, decide_eq_true_eq] at this
  exact this
/-- What a quad of a good forest is like. -/
theorem good_quad {F : List Qd} (h : goodF F = true) {q : Nat} (hq : q < F.length) (h2 : 2 ≤ q) :
    (qa F q).2.length = 4 ∧ 1 ≤ (qa F q).1 ∧ (qa F q).1 ≤ 5 ∧ (∀ i, i < 4 → 0 ≤ ia (qa F q).2 i ∧ ia (qa F q).2 i < (q : Int)) ∧ (∀ i, i < 4 → (qa F (kidq F q i)).1 = (qa F q).1 - 1) := by
  have := good_fine h hq
  simp only [fineQ, if_neg (show ¬ q < 2 by omega), Bool.and_eq_true, decide_eq_true_eq] at this
  obtain ⟨⟨⟨⟨h1, h3⟩, h4⟩, h5⟩, h6⟩ := this
  have b4 := inB_bd h4
  refine ⟨h1, b4.1, b4.2, fun i hi => ?_, fun i hi => ?_⟩
  · have := inB_bd (allB_iff.1 h3 i (by omega))
    omega
  · have := allB_iff.1 h5 i (by omega)
    simpa [kidq] using this
theorem kid_lt {F : List Qd} (h : goodF F = true) {q : Nat} (hq : q < F.length) (h2 : 2 ≤ q) {i : Nat} (hi : i < 4) : kidq F q i < q := by
  have := (good_quad h hq h2).2.2.2.1 i hi
  unfold kidq; omega
theorem lev_nonneg {F : List Qd} (h : goodF F = true) {q : Nat} (hq : q < F.length) : 0 ≤ (qa F q).1 ∧ (qa F q).1 ≤ 5 := by
  by_cases h2 : q < 2
  · have := (good_zero h hq h2).1; omega
  · have := good_quad h hq (by omega); omega
theorem lev_two {F : List Qd} (h : goodF F = true) {q : Nat} (hq : q < F.length) : (qa F q).1 = 0 ↔ q < 2 := by
  constructor
  · intro e
    by_cases h2 : q < 2
    · exact h2
    · have := good_quad h hq (by omega); omega
  · intro h2; exact (good_zero h hq h2).1

theorem two_pow (n : Nat) : (2 : Int) ^ (n + 1) = 2 ^ n + 2 ^ n := by rw [Int.pow_succ]; omega
theorem pow_pos' (n : Nat) : (0 : Int) < 2 ^ n := by
  induction n with
  | zero => decide
  | succ n ih => rw [two_pow]; omega
theorem cellsL_in (F : List Qd) : ∀ (n q : Nat) (x y : Int) (c : Cl), c ∈ cellsL F n q x y → x ≤ c.1 ∧ c.1 < x + 2 ^ n ∧ y ≤ c.2 ∧ c.2 < y + 2 ^ n
  | 0, q, x, y, c, h => by
    simp only [cellsL] at h
    split at h
    · simp at h; subst h; simp; omega
    · simp at h
  | n + 1, q, x, y, c, h => by
    have hp := pow_pos' n
    rw [two_pow]
    simp only [cellsL, List.mem_append] at h
    rcases h with ((h | h) | h) | h
    all_goals
      have := cellsL_in F n _ _ _ c h
      omega
theorem cellsL_len (F : List Qd) : ∀ (n q : Nat) (x y : Int), (cellsL F n q x y).length ≤ 4 ^ n
  | 0, q, x, y => by simp only [cellsL]; split <;> simp
  | n + 1, q, x, y => by
    simp only [cellsL, List.length_append]
    have a := cellsL_len F n (kidq F q 0) x y
    have b := cellsL_len F n (kidq F q 1) (x + 2 ^ n) y
    have c := cellsL_len F n (kidq F q 2) x (y + 2 ^ n)
    have d := cellsL_len F n (kidq F q 3) (x + 2 ^ n) (y + 2 ^ n)
    rw [Nat.pow_succ]; omega
theorem cellsL_nodup (F : List Qd) : ∀ (n q : Nat) (x y : Int), (cellsL F n q x y).Nodup
  | 0, q, x, y => by simp only [cellsL]; split <;> simp
  | n + 1, q, x, y => by
    have hp := pow_pos' n
    simp only [cellsL]
    rw [List.nodup_append, List.nodup_append, List.nodup_append]
    refine ⟨⟨⟨cellsL_nodup F n _ _ _, cellsL_nodup F n _ _ _, ?_⟩, cellsL_nodup F n _ _ _, ?_⟩, cellsL_nodup F n _ _ _, ?_⟩
    · intro a ha b hb e
      subst e
      have := cellsL_in F n _ _ _ a ha
      have := cellsL_in F n _ _ _ a hb
      omega
    · intro a ha b hb e
      subst e
      have hb' := cellsL_in F n _ _ _ a hb
      rw [List.mem_append] at ha
      rcases ha with ha | ha
      all_goals
        have := cellsL_in F n _ _ _ a ha
        omega
    · intro a ha b hb e
      subst e
      have hb' := cellsL_in F n _ _ _ a hb
      rw [List.mem_append, List.mem_append] at ha
      rcases ha with (ha | ha) | ha
      all_goals
        have := cellsL_in F n _ _ _ a ha
        omega
/-- The level of a quad, as a number. -/
def levN (F : List Qd) (q : Nat) : Nat := (qa F q).1.toNat
/-- The cells of a quad. -/
def cellsOfQ (F : List Qd) (q : Nat) : List Cl := cellsL F (levN F q) q 0 0

end Go.Proofs.Ytnabgfbempkgnaa
