/- Texts of this seat, one behind the other: WldP. -/
import Derived.Test.YtgppcocfnbalfaaDoorSpS
import Derived.Test.YtgppcocfnbalfaaDoorSmW
import Derived.Test.YtgppcocfnbalfaaDoorSqF
namespace Go.Proofs.YtgppcocfnbalfaaDoor
open Go.RowKit
set_option linter.unusedVariables false
set_option linter.unusedSimpArgs false

/-! ### Parts: powers of two that grow, and add up -/
def ascB : List Int → Bool
  | x :: y :: r => decide (x < y) && ascB (y :: r)
  | _ => true
def parB (L : List Int) (n : Int) : Bool := (L.foldl (· + ·) 0 == n) && (L.all fun x => (bits .and .i64 x (x - 1) == 0) && decide (0 < x) && decide (x ≤ 512)) && ascB L
theorem spl_par : ∀ n : Nat, n < 1001 → parB (splV (n : Int)) (n : Int) = true := by decide +kernel
theorem asc_at : ∀ (L : List Int), ascB L = true → ∀ i, i + 1 < L.length → ia L i < ia L (i + 1)
  | [], _, i, h => by simp at h
  | [x], _, i, h => by simp at h
  | x :: y :: r, ha, i, h => by
    simp only [ascB, Bool.and_eq_true, decide_eq_true_eq] at ha
    cases i with
    | zero => simpa [ia] using ha.1
    | succ i =>
      have := asc_at (y :: r) ha.2 i (by simp at h ⊢; omega)
      simpa [ia] using this
/-- The parts of a number that is parted. -/
theorem spl_facts {n : Int} (h : inB 0 1000 n = true) : (splV n).foldl (· + ·) 0 = n ∧ (∀ k, k < (splV n).length → bits .and .i64 (ia (splV n) k) (ia (splV n) k - 1) = 0 ∧ 0 < ia (splV n) k ∧ ia (splV n) k ≤ 512) ∧ ∀ k, k + 1 < (splV n).length → ia (splV n) k < ia (splV n) (k + 1) := by
  have hb := inB_bd h
  have hp := spl_par n.toNat (by omega)
  rw [show ((n.toNat : Nat) : Int) = n by omega] at hp
  simp only [parB, Bool.and_eq_true, beq_iff_eq, List.all_eq_true, decide_eq_true_eq] at hp
  refine ⟨hp.1.1, fun k hk => ?_, asc_at _ hp.2⟩
  have hm : ia (splV n) k ∈ splV n := by simp [ia, hk]
  have := hp.1.2 _ hm
  exact ⟨this.1.1, this.1.2, this.2⟩

/-! ### What is moved is the same -/
theorem first_mv {l : List Cl} (x y : Int) : firstL (mv l x y) = firstL l := by
  by_cases e : l.length = 0
  · have := List.eq_nil_of_length_eq_zero e
    subst this
    simp [firstL, mv_sh]
  · unfold firstL
    rw [mv_at (by omega), mv_two]
    congr 1 <;> simp <;> omega
theorem same_moved {l : List Cl} {t x y : Int} (h : mwOk l t x y = true) : smOk l (mwL l t x y) t (mwT l t x y) = true ∧ smB l (mwL l t x y) t (mwT l t x y) = true := by
  have h0 := h
  simp only [mwOk, Bool.and_eq_true] at h0
  have hgl : good l = true := by have := h0.1; simp only [gw, Bool.and_eq_true] at this; exact this.1
  have hgm := moveL_good h0.2
  have e1 : mwL l t x y = moveL l x y := by simp [mwL, h]
  have e2 : mwT l t x y = t := by simp [mwT, h]
  have hm : moveL l x y = mv l x y := by
    have := h0.2
    simp only [moveOk, Bool.and_eq_true] at this
    simp [moveL, tellV, this.1.1.1, this.1.1.2, this.1.2, this.2]
  have hgw : gw (moveL l x y) t = true := by
    have := h0.1; simp only [gw, Bool.and_eq_true] at this; simp [gw, hgm, this.2]
  have hs : smOk l (moveL l x y) t t = true := by simp [smOk, h0.1, hgw]
  rw [e1, e2]
  refine ⟨hs, ?_⟩
  have hh : home l = home (moveL l x y) := (same_iff hgl hgm).1 (by rw [hm, first_mv])
  simp [smB, hs, ← hh]

end Go.Proofs.YtgppcocfnbalfaaDoor
